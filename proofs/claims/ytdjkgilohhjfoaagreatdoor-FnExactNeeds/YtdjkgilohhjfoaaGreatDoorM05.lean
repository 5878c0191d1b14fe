/-
  Merged for the claim: KnT PcA.
-/
import Derived.Test.YtdjkgilohhjfoaaGreatDoorM04
import Derived.Test.YtdjkgilohhjfoaaGreatDoorTokens
import Derived.Maps.OwnSet
import Derived.DeepKeys4
import Derived.MapViews
import Derived.ProofKit
import Derived.Deep.RegionHeld3
import Derived.Deep.AppendLies
import Derived.Deep.RegionLaw
import Derived.StringKeys
import Derived.Test.YtdjkgilohhjfoaaGreatDoorM01
namespace Go.Proofs.YtdjkgilohhjfoaaGreatDoor
open Go.RowKit Go.Maps

theorem Tryz.zero3 (w : World) : (zeroValue 3).run Tryz.prog w = .ok (.int .i64 0) w := by kernel_rfl
theorem Tryz.info9 : (Tryz.prog.info? 9).map (fun i => (i.zero, i.size, i.bytes)) = some (some (.string ByteArray.empty), 1, 16) := by kernel_rfl

/-- Some blocks are as they were, and nothing outside has turned. -/
structure Kept (keep : Nat → Prop) (w w' : World) : Prop where
  os : w'.os = w.os
  tape : w'.tape = w.tape
  output : w'.output = w.output
  size : w.heap.size ≤ w'.heap.size
  block : ∀ k, keep k → w'.heap[k]? = w.heap[k]?

theorem Kept.refl (keep : Nat → Prop) (w : World) : Kept keep w w := ⟨rfl, rfl, rfl, Nat.le_refl _, fun _ _ => rfl⟩
theorem Kept.trans {keep : Nat → Prop} {a b c : World} (h : Kept keep a b) (k : Kept keep b c) : Kept keep a c :=
  ⟨k.os.trans h.os, k.tape.trans h.tape, k.output.trans h.output, Nat.le_trans h.size k.size, fun i hi => (k.block i hi).trans (h.block i hi)⟩
theorem Kept.drewN {keep : Nat → Prop} {a b : World} (h : Kept keep a b) (n : Nat) : Kept keep a (b.drewN n) := ⟨h.os, h.tape, h.output, h.size, h.block⟩
theorem Kept.cell {keep : Nat → Prop} {w w' : World} (h : Kept keep w w') {a : Addr} (ha : keep a.block) : w'.cell? a = w.cell? a := World.cell?_of_block (w := w) (h.block a.block ha)
theorem Kept.frozen {keep : Nat → Prop} {w w' : World} (h : Kept keep w w') {a : Addr} (ha : keep a.block) : w'.frozen? a = w.frozen? a := World.frozen?_of_block (w := w) (h.block a.block ha)

/-- Two values by their place. -/
def v2 (a b : Value) : Nat → Value := fun i => if i = 0 then a else b

theorem row2 (w : World) (a b : Value) (t : TypeId) : (w.alloc (.cells #[a, b] t)).rowIs w.heap.size t 2 (v2 a b) :=
  World.rowIs_alloc w #[a, b] t _ (fun i hi => by
    match i, hi with
    | 0, _ => rfl
    | 1, _ => rfl)

theorem own_kept {w w' : World} {base : Nat} {e : TypeId} {size : Nat} {v : Value} {n : Nat} {xs : List Value} {row : Option Nat} (h : w.ownsRow base e size v n xs) (hg : w.grownBy w' row) (hne : ∀ k, row = some k → k < base) : w'.ownsRow base e size v n xs := by
  obtain ⟨h1, h2⟩ := h
  refine ⟨h1, ?_⟩
  rcases h2 with h2 | ⟨g, cap, cur, hv, hb, hh, r⟩
  · exact Or.inl h2
  · obtain ⟨hlt, _⟩ := Array.getElem?_eq_some_iff.1 hh
    exact Or.inr ⟨g, cap, cur, hv, hb, (hg.block g hlt (fun e => by have := hne g e.symm; omega)).trans hh, r⟩

theorem Tryz.law9 : Keyed Tryz.prog 9 := string_keyed Tryz.underlying9

theorem key_str {a : List UInt8} (ha : a.length ≤ maxLen) : keyOf Tryz.prog 9 (.string ⟨a.toArray⟩) = some (.string a) := by
  have := WideMaps.keyOf_string_mk (s := ⟨a.toArray⟩) Tryz.underlying9 (by show a.length ≤ maxLen; exact ha)
  simpa using this

/-- A number that is come to: known, or the next. -/
def addS (ord : List (List UInt8)) (a : List UInt8) : List (List UInt8) := if ord.contains a then ord else ord ++ [a]

def scells (ord : List (List UInt8)) : List Value := ord.map fun a => .string ⟨a.toArray⟩

structure KnS (w : World) (kb mb : Nat) (ov : Value) (D : DataW Unit) (ord : List (List UInt8)) (keep : Nat → Prop) : Prop where
  row : w.rowIs kb 83 2 (v2 (.map (some mb)) ov)
  mlt : mb < kb
  map : w.ownsMap Tryz.prog 9 (plainElem Tryz.prog 3) mb ord.length D
  has : ∀ a : List UInt8, a.length ≤ maxLen → Maps.has D (.string a) = ord.contains a
  val : ∀ a : List UInt8, a.length ≤ maxLen → a ∈ ord → D.atKey (.string a) (.lit (.int .i64 0)) = .lit (.int .i64 (ord.idxOf a : Int))
  own : w.ownsRow (kb + 1) 9 1 ov ord.length (scells ord)
  far : ∀ k, keep k → k < w.heap.size ∧ k ≠ kb ∧ k ≠ mb ∧ some k ≠ ov.ownBlock

set_option maxHeartbeats 1000000 in
theorem kn_new (w : World) (keep : Nat → Prop) (hk : ∀ k, keep k → k < w.heap.size) :
    Calls Tryz.prog 32 #[] w fun e w' => e = .returned (.pointer (some ⟨w.heap.size + 1, 0, none⟩)) ∧ KnS w' (w.heap.size + 1) w.heap.size (.slice none 0 0) (.map []) [] keep ∧ Kept keep w w' := by
  have hmm := @run_makeMap Tryz.prog
  go_enter Tryz.func32, Tryz.ntmps32
  go_wp2
  go_ret
  have R := row2 (w.alloc (.map #[] 0)) (.map (some w.heap.size)) (.slice none 0 0) 83
  simp only [World.size_alloc] at R
  refine ⟨rfl, ⟨R, by omega, (World.ownsMap_made w Tryz.prog 9 (plainElem Tryz.prog 3)).alloc _, fun a _ => rfl, fun a _ h => by simp at h, World.ownsRow_nil _ _ _ _, fun k h => ?_⟩, ?_⟩
  · have := hk k h
    exact ⟨by simp; omega, by omega, by omega, by simp [Value.ownBlock]⟩
  · have := bel2 w (.map #[] 0) (.cells #[.map (some w.heap.size), .slice none 0 0] 83)
    exact ⟨this.os, this.tape, this.output, this.size, fun k h => this.block k (hk k h)⟩

theorem look_str {w : World} {mb n : Nat} {D : DataW Unit} {a : List UInt8} (h : w.ownsMap Tryz.prog 9 (plainElem Tryz.prog 3) mb n D) (ha : a.length ≤ maxLen) :
    ∃ v : Int, (∀ m, (Instr.lookup 81 (.map (some mb)) (.string ⟨a.toArray⟩) true).run Tryz.prog (w.drewN m) = .ok (.tuple #[.int .i64 v, .bool (Maps.has D (.string a))]) (w.drewN m)) ∧ D.atKey (.string a) (.lit (.int .i64 0)) = .lit (.int .i64 v) := by
  have hz : plainElem (H := Unit) Tryz.prog 3 (.int .i64 0) = some (.lit (.int .i64 0), []) := plainElem_int Tryz.underlying3 (by decide)
  have each : ∀ m, ∃ v : Int, (Instr.lookup 81 (.map (some mb)) (.string ⟨a.toArray⟩) true).run Tryz.prog (w.drewN m) = .ok (.tuple #[.int .i64 v, .bool (Maps.has D (.string a))]) (w.drewN m) ∧ D.atKey (.string a) (.lit (.int .i64 0)) = .lit (.int .i64 v) := fun m => by
    have h' : (w.drewN m).ownsMap Tryz.prog 9 (plainElem Tryz.prog 3) mb n D := h
    obtain ⟨v, ps, hrun, hR⟩ := h'.look_ok Tryz.law9 Tryz.underlying81 (Tryz.zero3 _) hz (key_str ha)
    obtain ⟨x, rfl, hx, _⟩ := plainElem_int_inv Tryz.underlying3 hR
    simp only [Prod.mk.injEq] at hx
    exact ⟨x, hrun, hx.1⟩
  obtain ⟨v, _, hv⟩ := each 0
  refine ⟨v, fun m => ?_, hv⟩
  obtain ⟨v', hrun, hv'⟩ := each m
  rw [hv] at hv'
  simp only [DataW.lit.injEq, Lit.int.injEq, true_and] at hv'
  rw [hv']; exact hrun

theorem scells_snoc (ord : List (List UInt8)) (a : List UInt8) : scells (ord ++ [a]) = scells ord ++ [.string ⟨a.toArray⟩] := by simp [scells]

theorem kns_step {w w2 w3 : World} {kb mb : Nat} {oa : Option Addr} {cap gg cap3 : Nat} {D : DataW Unit} {ord : List (List UInt8)} {keep : Nat → Prop} {a : List UInt8} {o2 : Obj}
    (h : KnS w kb mb (.slice oa ord.length cap) D ord keep) (ha : a.length ≤ maxLen) (hc : ord.contains a = false)
    (hown2 : w2.ownsMap Tryz.prog 9 (plainElem Tryz.prog 3) mb (ord.length + 1) (D.put (.string a) (.lit (.int .i64 (ord.length : Int))))) (hg2 : w.grownBy w2 (some mb))
    (hown3 : w3.ownsRow (kb + 1) 9 1 (.slice (some ⟨gg, 0, none⟩) (ord.length + 1) cap3) (ord.length + 1) (scells ord ++ [.string ⟨a.toArray⟩]))
    (hg3 : (w2.alloc o2).grownBy w3 (Value.slice oa ord.length cap).ownBlock) (hat : (Value.slice oa ord.length cap).ownBlock = some gg ∨ gg = w2.heap.size + 1) :
    KnS (w3.setCell ⟨kb, 1, none⟩ (.slice (some ⟨gg, 0, none⟩) (ord.length + 1) cap3)) kb mb (.slice (some ⟨gg, 0, none⟩) (ord.length + 1) cap3) (D.put (.string a) (.lit (.int .i64 (ord.length : Int)))) (addS ord a) keep ∧
    Kept keep w (w3.setCell ⟨kb, 1, none⟩ (.slice (some ⟨gg, 0, none⟩) (ord.length + 1) cap3)) := by
  have hA : addS ord a = ord ++ [a] := by unfold addS; rw [hc]; rfl
  have hna : a ∉ ord := fun hm => by rw [List.contains_iff_mem.2 hm] at hc; cases hc
  have hs2 := hg2.size
  have hs3 := hg3.size
  have e3 : (w2.alloc o2).heap.size = w2.heap.size + 1 := by simp
  have hkl := h.row.lt
  have hml := h.mlt
  have n1 : some kb ≠ (Value.slice oa ord.length cap).ownBlock := fun e => by have := (h.own.lt kb e.symm).1; omega
  have nm : some mb ≠ (Value.slice oa ord.length cap).ownBlock := fun e => by have := (h.own.lt mb e.symm).1; omega
  have b3 : ∀ k, k < w2.heap.size → some k ≠ (Value.slice oa ord.length cap).ownBlock → w3.heap[k]? = w2.heap[k]? := fun k hk hn => (hg3.block k (by rw [e3]; omega) hn).trans (Below.heap_alloc _ _ _ hk)
  have rk : w3.rowIs kb 83 2 (v2 (.map (some mb)) (.slice oa ord.length cap)) :=
    h.row.of_block ((b3 kb (by omega) n1).trans (hg2.block kb (by omega) (fun e => by cases e; omega)))
  have hne : ∀ x : List UInt8, x ≠ a → (Lit.string x) ≠ Lit.string a := fun x q e => q (by simpa using e)
  rw [hA]
  refine ⟨⟨(rk.set 1 _).congr (fun i hi => ?_), h.mlt, ?_, fun x hx => ?_, fun x hx hm => ?_, ?_, fun k hk => ?_⟩, ?_⟩
  · match i, hi with
    | 0, _ => rfl
    | 1, _ => rfl
  · have hm : w3.ownsMap Tryz.prog 9 (plainElem Tryz.prog 3) mb (ord.length + 1) (D.put (.string a) (.lit (.int .i64 (ord.length : Int)))) := (hown2.alloc o2).kept hg3 nm
    have hm' := hm.setCell (a := ⟨kb, 1, none⟩) (by show mb ≠ kb; omega) (.slice (some ⟨gg, 0, none⟩) (ord.length + 1) cap3)
    simpa using hm'
  · by_cases q : x = a
    · subst q
      rw [Maps.has_put_same h.map.isMap (Tryz.law9.key (key_str hx))]
      simp
    · rw [Maps.has_put_other (hne x q), h.has x hx]
      rw [Bool.eq_iff_iff]
      simp only [List.contains_iff_mem, List.mem_append, List.mem_singleton]
      exact ⟨Or.inl, fun z => z.elim id (fun z => absurd z q)⟩
  · by_cases q : x = a
    · subst q
      rw [Maps.atKey_put_same h.map.isMap (Tryz.law9.key (key_str hx)), List.idxOf_append, if_neg hna]
      simp
    · rw [Maps.atKey_put_other (hne x q)]
      have hm' : x ∈ ord := by
        rcases List.mem_append.1 hm with z | z
        · exact z
        · simp at z; exact absurd z q
      rw [h.val x hx hm', List.idxOf_append, if_pos hm']
  · rw [scells_snoc]
    have := ownsRow_setCell_below hown3 (a := ⟨kb, 1, none⟩) (by show kb < kb + 1; omega) (.slice (some ⟨gg, 0, none⟩) (ord.length + 1) cap3)
    simpa using this
  · obtain ⟨f1, f2, f3, f4⟩ := h.far k hk
    refine ⟨by simp [World.setCell]; omega, f2, f3, ?_⟩
    rcases hat with hat | hat
    · rw [hat] at f4; simpa [Value.ownBlock] using f4
    · simp [Value.ownBlock]; omega
  · refine ⟨hg3.os.trans hg2.os, hg3.tape.trans hg2.tape, hg3.output.trans hg2.output, by simp [World.setCell]; omega, fun k hk => ?_⟩
    obtain ⟨f1, f2, f3, f4⟩ := h.far k hk
    rw [Below.heap_setCell _ _ _ _ (by show k ≠ kb; exact f2), b3 k (by omega) f4, hg2.block k f1 (fun e => by cases e; exact f3 rfl)]

set_option maxRecDepth 100000 in
set_option maxHeartbeats 4000000 in
theorem kn_number (kb mb : Nat) (ov : Value) (D : DataW Unit) (ord : List (List UInt8)) (keep : Nat → Prop) (a : List UInt8) (w : World) (h : KnS w kb mb ov D ord keep) (ha : a.length ≤ maxLen) (ho : ord.length ≤ 100000000) :
    Calls Tryz.prog 33 #[.pointer (some ⟨kb, 0, none⟩), .string ⟨a.toArray⟩] w fun e w' =>
      ∃ (ov' : Value) (D' : DataW Unit), e = .returned (.tuple #[.int .i64 ((addS ord a).idxOf a : Int), .bool (!ord.contains a)]) ∧ KnS w' kb mb ov' D' (addS ord a) keep ∧ Kept keep w w' := by
  obtain ⟨v, hlk, hat0⟩ := look_str h.map ha
  rw [h.has a ha] at hlk
  have hlk0 := hlk 0
  rw [World.drewN_zero] at hlk0
  obtain ⟨oa, cap, rfl⟩ := own_form h.own
  have c0 : w.cell? ⟨kb, 0, none⟩ = some (.map (some mb)) := h.row.cell (i := 0) (by omega)
  have c1 : w.cell? ⟨kb, 1, none⟩ = some (.slice oa ord.length cap) := h.row.cell (i := 1) (by omega)
  have HH : Hid (KnS w kb mb (.slice oa ord.length cap) D ord keep) := h
  have hkl := h.row.lt
  clear hlk
  cases hcon : ord.contains a
  · have HC : Hid (ord.contains a = false) := hcon
    have HX : Hid ((addS ord a).idxOf a = ord.length) := by
      have hna : a ∉ ord := fun hm => by rw [List.contains_iff_mem.2 hm] at hcon; cases hcon
      show (addS ord a).idxOf a = ord.length
      unfold addS; rw [hcon]
      simp [List.idxOf_append, hna]
    rw [hcon] at hlk0
    obtain ⟨i0, hi0, hz0, hz1, hz2⟩ := info_parts Tryz.info9
    obtain ⟨w2, hrun, hown2, hg2⟩ := h.map.update Tryz.law9 Tryz.underlying81 (by unfold maxLen; omega) (key_str ha) (plainElem_int Tryz.underlying3 (a := (ord.length : Int)) (WalkArith.wf_i64 (by omega)))
    have hml := h.mlt
    have hs2 := hg2.size
    have OWN : w2.ownsRow (kb + 1) 9 1 (.slice oa ord.length cap) ord.length (scells ord) := own_kept h.own hg2 (fun k e => by cases e; omega)
    have r2 : w2.rowIs kb 83 2 (v2 (.map (some mb)) (.slice oa ord.length cap)) := h.row.of_block (hg2.block kb hkl (fun e => by cases e; omega))
    have d1 : w2.cell? ⟨kb, 1, none⟩ = some (.slice oa ord.length cap) := r2.cell (i := 1) (by omega)
    have n1 : some kb ≠ (Value.slice oa ord.length cap).ownBlock := fun e => by have := (h.own.lt kb e.symm).1; omega
    have d1' := (r2.alloc (.cells #[.string ⟨a.toArray⟩] 9)).cell (i := 1) (by omega)
    have d2' := (r2.alloc (.cells #[.string ⟨a.toArray⟩] 9)).frozen 1
    have hbs : kb + 1 ≤ w2.heap.size := by omega
    clear hcon h hat0
    go_enter Tryz.func33, Tryz.ntmps33
    go_wp2_with (first | (at_builtin; refine wpList_append_lies _ rfl _ _ 43 rfl (kb + 1) 9 i0 (.string ByteArray.empty) 1 16 Tryz.underlying43 hi0 hz0 hz1 hz2 rfl (by omega) (.slice oa ord.length cap) ord.length (scells ord) rfl (OWN.alloc _) ⟨w2.heap.size, 0, none⟩ 1 1 [.string ⟨a.toArray⟩] rfl rfl (cell_one_new _ _ _) (by simp [Value.oneCell']) (by omega) (by unfold maxLen; omega) (by omega) (by simp; omega) (w2.heap.size + 1) (by simp) ?_; intro gg cap3 w3 hown3 hg3 hat hlt3; have f1 : w3.cell? ⟨kb, 1, none⟩ = some (.slice oa ord.length cap) := (hg3.cell_far ⟨kb, 1, none⟩ (by simp; omega) n1).trans d1'; have f2 : w3.frozen? ⟨kb, 1, none⟩ = false := (hg3.frozen_far ⟨kb, 1, none⟩ (by simp; omega) n1).trans d2'))
    have FIN := kns_step HH.out ha HC.out hown2 hg2 hown3 hg3 hat
    clear hown2 hg2 hown3 hg3 hat OWN r2 d1 d1' d2' hrun hlk0
    go_wp2
    go_ret2
    refine ⟨_, _, ?_, FIN.1, FIN.2⟩
    rw [HX.out]; rfl
  · have hm : a ∈ ord := by simpa using hcon
    have HA : Hid (addS ord a = ord) := by show (if ord.contains a then ord else _) = ord; rw [if_pos hcon]
    have HX : Hid (v = (ord.idxOf a : Int)) := by
      have := HH.out.val a ha hm
      rw [hat0] at this
      show v = (ord.idxOf a : Int)
      simpa using this
    rw [hcon] at hlk0
    clear hcon h hat0 hm
    go_enter Tryz.func33, Tryz.ntmps33
    go_wp2
    go_ret2
    refine ⟨.slice oa ord.length cap, D, ?_, ?_, Kept.refl _ _⟩
    · rw [HA.out, ← HX.out]; rfl
    · rw [HA.out]; exact HH.out

/-- The same, with nothing said of other blocks. -/
def KnT (w : World) (kb mb : Nat) (ov : Value) (ord : List (List UInt8)) : Prop := ∃ D, KnS w kb mb ov D ord (fun _ => False)

theorem KnT.ids {w : World} {kb mb : Nat} {ov : Value} {ord : List (List UInt8)} (h : KnT w kb mb ov ord) : mb < kb ∧ kb < w.heap.size ∧ ∀ b, ov.ownBlock = some b → kb < b ∧ b < w.heap.size := by
  obtain ⟨D, h⟩ := h
  exact ⟨h.mlt, h.row.lt, fun b e => ⟨by have := (h.own.lt b e).1; omega, (h.own.lt b e).2⟩⟩

theorem KnT.but {S : List Nat} {w w' : World} {kb mb : Nat} {ov : Value} {ord : List (List UInt8)} (h : KnT w kb mb ov ord) (hb : But S w w') (h1 : kb ∉ S) (h2 : mb ∉ S) (h3 : ∀ b, ov.ownBlock = some b → b ∉ S) : KnT w' kb mb ov ord := by
  obtain ⟨D, h⟩ := h
  refine ⟨D, h.row.of_block (hb.block kb h.row.lt h1), h.mlt, ?_, h.has, h.val, ?_, fun k hk => hk.elim⟩
  · obtain ⟨es, clock, he, F, hn, hD⟩ := h.map
    have hlt := h.map.lt
    exact ⟨es, clock, (hb.block mb hlt h2).trans he, F, hn, hD⟩
  · exact own_block h.own (fun k e => hb.block k (h.own.lt k e.symm).2 (h3 k e.symm))

theorem KnS.all {w : World} {kb mb : Nat} {ov : Value} {D : DataW Unit} {ord : List (List UInt8)} {keep : Nat → Prop} (h : KnS w kb mb ov D ord keep) : KnS w kb mb ov D ord (fun k => k < w.heap.size ∧ k ≠ kb ∧ k ≠ mb ∧ some k ≠ ov.ownBlock) :=
  ⟨h.row, h.mlt, h.map, h.has, h.val, h.own, fun _ hk => hk⟩

theorem kt_new (w : World) : Calls Tryz.prog 32 #[] w fun e w' => e = .returned (.pointer (some ⟨w.heap.size + 1, 0, none⟩)) ∧ KnT w' (w.heap.size + 1) w.heap.size (.slice none 0 0) [] ∧ But [] w w' := by
  refine (kn_new w (fun k => k < w.heap.size) (fun _ h => h)).mono ?_
  rintro e w' ⟨he, hk, hp⟩
  exact ⟨he, ⟨_, hk.row, hk.mlt, hk.map, hk.has, hk.val, hk.own, fun _ h => h.elim⟩, ⟨hp.os, hp.tape, hp.output, hp.size, fun k hk _ => hp.block k hk⟩⟩

theorem kt_number (kb mb : Nat) (ov : Value) (ord : List (List UInt8)) (a : List UInt8) (w : World) (h : KnT w kb mb ov ord) (ha : a.length ≤ maxLen) (ho : ord.length ≤ 100000000) :
    Calls Tryz.prog 33 #[.pointer (some ⟨kb, 0, none⟩), .string ⟨a.toArray⟩] w fun e w' =>
      ∃ (x : Int) (ov' : Value), e = .returned (.tuple #[.int .i64 x, .bool (!ord.contains a)]) ∧ KnT w' kb mb ov' (addS ord a) ∧ But (kb :: mb :: ov.ownBlock.toList) w w' ∧ ∀ b, ov'.ownBlock = some b → ov.ownBlock = some b ∨ w.heap.size ≤ b := by
  obtain ⟨D, h⟩ := h
  refine (kn_number kb mb ov D ord _ a w h.all ha ho).mono ?_
  rintro e w' ⟨ov', D', he, hk, hp⟩
  refine ⟨_, ov', he, ⟨D', hk.row, hk.mlt, hk.map, hk.has, hk.val, hk.own, fun _ h => h.elim⟩, ⟨hp.os, hp.tape, hp.output, hp.size, fun k hk hn => hp.block k ⟨hk, fun e => hn (by simp [e]), fun e => hn (by simp [e]), fun e => hn (by simp [← e])⟩⟩, fun b e => ?_⟩
  by_cases hb : b < w.heap.size
  · by_cases h2 : some b = ov.ownBlock
    · exact Or.inl h2.symm
    · have h3 := (hk.own.lt b e).1
      have := hk.mlt
      exact absurd e.symm (hk.far b ⟨hb, by omega, by omega, h2⟩).2.2.2
  · exact Or.inr (by omega)

end Go.Proofs.YtdjkgilohhjfoaaGreatDoor

namespace Go.Proofs.YtdjkgilohhjfoaaGreatDoor
open Go.RowKit

/-- Where a list of names lies. -/
structure NPl where
  a : Option Addr
  b : Nat
  c : Nat

/-- Names in memory of one's own. -/
def NmOK (B : Nat) (w : World) (ns : List ByteArray) (p : NPl) : Prop := ns ≠ [] → p.a = some ⟨p.b, 0, none⟩ ∧ B ≤ p.b ∧ ∃ (N : Nat) (f : Nat → Value), w.rowIs p.b 9 N f ∧ ns.length ≤ N ∧ ∀ j, j < ns.length → f j = .string (ns.getD j e0)

theorem NmOK.lt {B : Nat} {w : World} {ns : List ByteArray} {p : NPl} (h : NmOK B w ns p) (hn : ns ≠ []) : B ≤ p.b ∧ p.b < w.heap.size := by
  obtain ⟨_, h1, N, f, hr, _⟩ := h hn
  exact ⟨h1, hr.lt⟩
theorem NmOK.of_block {B : Nat} {w w' : World} {ns : List ByteArray} {p : NPl} (h : NmOK B w ns p) (hb : ns ≠ [] → w'.heap[p.b]? = w.heap[p.b]?) : NmOK B w' ns p := fun hn => by
  obtain ⟨h0, h1, N, f, hr, r⟩ := h hn
  exact ⟨h0, h1, N, f, hr.of_block (hb hn), r⟩
theorem NmOK.but {S : List Nat} {B : Nat} {w w' : World} {ns : List ByteArray} {p : NPl} (h : NmOK B w ns p) (hb : But S w w') (hS : ns ≠ [] → p.b ∉ S) : NmOK B w' ns p :=
  h.of_block (fun hn => hb.block _ (h.lt hn).2 (hS hn))
theorem NmOK.nil (B : Nat) (w : World) (p : NPl) : NmOK B w [] p := fun h => absurd rfl h

def tiC (x : TI × NPl) : List Value := [.int .i64 x.1.op, .string x.1.md, .string x.1.nm, .slice x.2.a x.1.ns.length x.2.c]
def tisC (xs : List (TI × NPl)) : List Value := xs.flatMap tiC
theorem tisC_snoc (xs : List (TI × NPl)) (x : TI × NPl) : tisC (xs ++ [x]) = tisC xs ++ tiC x := by simp [tisC]
/-- The blocks of the names. -/
def tiB (x : TI × NPl) : List Nat := if x.1.ns = [] then [] else [x.2.b]
def tisB (xs : List (TI × NPl)) : List Nat := xs.flatMap tiB
theorem tisB_append (xs ys : List (TI × NPl)) : tisB (xs ++ ys) = tisB xs ++ tisB ys := by simp [tisB]
theorem mem_tisB {xs : List (TI × NPl)} {b : Nat} (h : b ∈ tisB xs) : ∃ x, x ∈ xs ∧ x.1.ns ≠ [] ∧ x.2.b = b := by
  unfold tisB at h
  obtain ⟨x, hx, hb⟩ := List.mem_flatMap.1 h
  unfold tiB at hb
  split at hb
  · cases hb
  · exact ⟨x, hx, ‹_›, (List.mem_singleton.1 hb).symm⟩
theorem tisB_mem {xs : List (TI × NPl)} {x : TI × NPl} (hx : x ∈ xs) (hn : x.1.ns ≠ []) : x.2.b ∈ tisB xs := by
  unfold tisB
  exact List.mem_flatMap.2 ⟨x, hx, by unfold tiB; rw [if_neg hn]; simp⟩

/-- Items in memory of one's own. -/
structure OT (B : Nat) (w : World) (v : Value) (xs : List (TI × NPl)) : Prop where
  own : w.ownsRow B 120 4 v xs.length (tisC xs)
  nm : ∀ x, x ∈ xs → NmOK B w x.1.ns x.2
  nd : (tisB xs).Nodup

theorem OT.names {B : Nat} {w : World} {v : Value} {xs : List (TI × NPl)} (h : OT B w v xs) {b : Nat} (hb : b ∈ tisB xs) : B ≤ b ∧ b < w.heap.size := by
  obtain ⟨x, hx, hn, rfl⟩ := mem_tisB hb
  exact (h.nm x hx).lt hn

/-- A block of names is none of items. -/
theorem own_nm {B B' : Nat} {w : World} {v : Value} {n size : Nat} {xs : List Value} {t : TypeId} (h : w.ownsRow B t size v n xs) (ht : t ≠ 9) {ns : List ByteArray} {p : NPl} (hp : NmOK B' w ns p) (hn : ns ≠ []) : v.ownBlock ≠ some p.b := fun e => by
  obtain ⟨_, _, N, f, ⟨c, hc, _⟩, _⟩ := hp hn
  rcases h.2 with ⟨rfl, rfl⟩ | ⟨g, cap, cur, rfl, _, hh, _⟩
  · cases e
  · have eg : g = p.b := by simpa [Value.ownBlock] using e
    rw [eg, hc] at hh
    simp only [Option.some.injEq, Obj.cells.injEq] at hh
    exact ht hh.2.1.symm

theorem OT.sep {B : Nat} {w : World} {v : Value} {xs : List (TI × NPl)} (h : OT B w v xs) {b : Nat} (hb : b ∈ tisB xs) : v.ownBlock ≠ some b := by
  obtain ⟨x, hx, hn, rfl⟩ := mem_tisB hb
  exact own_nm h.own (by decide) (h.nm x hx) hn

theorem OT.but {S : List Nat} {B : Nat} {w w' : World} {v : Value} {xs : List (TI × NPl)} (h : OT B w v xs) (hb : But S w w') (h1 : ∀ b, v.ownBlock = some b → b ∉ S) (h2 : ∀ b, b ∈ tisB xs → b ∉ S) : OT B w' v xs :=
  ⟨own_block h.own (fun k e => hb.block k (h.own.lt k e.symm).2 (h1 k e.symm)), fun x hx => (h.nm x hx).but hb (fun hn => h2 _ (tisB_mem hx hn)), h.nd⟩

/-- Where only lower blocks, or new ones, have changed. -/
theorem OT.low {S : List Nat} {B : Nat} {w w' : World} {v : Value} {xs : List (TI × NPl)} (h : OT B w v xs) (hb : But S w w') (hS : ∀ b, b ∈ S → b < B ∨ w.heap.size ≤ b) : OT B w' v xs :=
  h.but hb (fun b e z => by have := h.own.lt b e; have := hS b z; omega) (fun b e z => by have := h.names e; have := hS b z; omega)

theorem grown_but {w w3 : World} {v : Value} {o : Obj} (hg : (w.alloc o).grownBy w3 v.ownBlock) : But v.ownBlock.toList w w3 :=
  ⟨hg.os, hg.tape, hg.output, by have := hg.size; simp at this; omega, fun k hk hn => (hg.block k (by simp; omega) (fun e => hn (by simp [← e]))).trans (Below.heap_alloc _ _ _ hk)⟩

/-- A box is no block of it. -/
theorem own_box {B : Nat} {w : World} {v : Value} {n size N : Nat} {xs : List Value} {t t' : TypeId} {X : Nat} {f : Nat → Value} (h : w.ownsRow B t size v n xs) (hX : w.rowIs X t' N f) (hne : t ≠ t') : v.ownBlock ≠ some X := fun e => by
  obtain ⟨c, hc, _⟩ := hX
  rcases h.2 with ⟨rfl, rfl⟩ | ⟨g, cap, cur, rfl, _, hh, _⟩
  · cases e
  · have eg : g = X := by simpa [Value.ownBlock] using e
    rw [eg, hc] at hh
    simp only [Option.some.injEq, Obj.cells.injEq] at hh
    exact hne hh.2.1.symm
theorem nm_box {B : Nat} {w : World} {ns : List ByteArray} {p : NPl} {t' : TypeId} {N X : Nat} {f : Nat → Value} (h : NmOK B w ns p) (hn : ns ≠ []) (hX : w.rowIs X t' N f) (hne : t' ≠ 9) : p.b ≠ X := fun e => by
  obtain ⟨_, _, N', g, ⟨c, hc, _⟩, _⟩ := h hn
  obtain ⟨c', hc', _⟩ := hX
  rw [e, hc'] at hc
  simp only [Option.some.injEq, Obj.cells.injEq] at hc
  exact hne hc.2.1
theorem OT.box {B : Nat} {w : World} {v : Value} {xs : List (TI × NPl)} {t' : TypeId} {N X : Nat} {f : Nat → Value} (h : OT B w v xs) (hX : w.rowIs X t' N f) (h1 : 120 ≠ t') (h2 : t' ≠ 9) (u : Value) (k : Nat) : OT B (w.setCell ⟨X, k, none⟩ u) v xs :=
  h.but (S := [X]) ((But.refl _ _).set (fun _ => by simp) k u) (fun b e z => own_box h.own hX h1 (by rw [e, List.mem_singleton.1 z])) (fun b hb z => by
    obtain ⟨x, hx, hn, rfl⟩ := mem_tisB hb
    exact nm_box (h.nm x hx) hn hX h2 (List.mem_singleton.1 z))

/-- One more item. -/
theorem OT.push {B : Nat} {w w3 : World} {v : Value} {xs : List (TI × NPl)} {x : TI × NPl} {o : Obj} {gg cap3 : Nat} (h : OT B w v xs)
    (hown : w3.ownsRow B 120 4 (.slice (some ⟨gg, 0, none⟩) (xs.length + 1) cap3) (xs.length + 1) (tisC xs ++ tiC x)) (hg : (w.alloc o).grownBy w3 v.ownBlock) (hx : NmOK B w x.1.ns x.2) (hn : x.1.ns ≠ [] → x.2.b ∉ tisB xs) :
    OT B w3 (.slice (some ⟨gg, 0, none⟩) (xs.length + 1) cap3) (xs ++ [x]) := by
  have hb := grown_but hg
  refine ⟨by rw [tisC_snoc, List.length_append]; exact hown, fun y hy => ?_, ?_⟩
  · rcases List.mem_append.1 hy with z | z
    · exact (h.nm y z).but hb (fun hn => by simp only [Option.mem_toList]; exact own_nm h.own (by decide) (h.nm y z) hn)
    · rw [List.mem_singleton.1 z]
      exact hx.but hb (fun hn => by simp only [Option.mem_toList]; exact own_nm h.own (by decide) hx hn)
  · rw [tisB_append]
    refine List.nodup_append.2 ⟨h.nd, ?_, fun a ha b hb e => ?_⟩
    · unfold tisB tiB
      simp only [List.flatMap_cons, List.flatMap_nil, List.append_nil]
      split <;> simp
    · obtain ⟨y, hy, hyn, rfl⟩ := mem_tisB hb
      rw [List.mem_singleton.1 hy] at hyn e
      exact hn hyn (e ▸ ha)

/-- What comes of a reader of types. -/
def TyR (B P tb o : Nat) (ts : List TK) (eT : TypeId) (eV : Value) (w : World) (v : Value) (xs : List (TI × NPl)) (r : Option (List TI × Nat)) (e : Ending) (w' : World) : Prop :=
  But (P :: v.ownBlock.toList) w w' ∧ match r with
  | none => e = .panicked [{ v := .iface eT eV, recovered := false }]
  | some (l, j) => ∃ v' ys, e = .returned v' ∧ OT B w' v' (xs ++ ys) ∧ ys.map Prod.fst = l ∧ PsAt w' P tb o j ts eT eV ∧ (∀ b, v'.ownBlock = some b → v.ownBlock = some b ∨ w.heap.size ≤ b) ∧ ∀ b, b ∈ tisB ys → w.heap.size ≤ b

/-- The reader of whole types, of this fuel. -/
def TyC (B P tb o : Nat) (ts : List TK) (eT : TypeId) (eV : Value) (f : Nat) : Prop :=
  ∀ (i : Nat) (w : World) (v : Value) (xs : List (TI × NPl)), PsAt w P tb o i ts eT eV → OT B w v xs → xs.length ≤ i → ts.length - i < f → B ≤ w.heap.size → Calls Tryz.prog 69 #[.pointer (some ⟨P, 0, none⟩), v] w (TyR B P tb o ts eT eV w v xs (tyP true ts f i))

theorem Tryz.infoTI : (Tryz.prog.info? 120).map (fun i => (i.zero, i.size, i.bytes)) = some (some (.agg #[.int .i64 0, .string ByteArray.empty, .string ByteArray.empty, .slice none 0 0]), 4, 64) := by kernel_rfl

end Go.Proofs.YtdjkgilohhjfoaaGreatDoor

