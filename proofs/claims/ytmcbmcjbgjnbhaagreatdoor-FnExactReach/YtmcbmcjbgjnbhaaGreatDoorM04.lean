/-
  Merged for the claim: KnT PaB.
-/
import Derived.Test.YtmcbmcjbgjnbhaaGreatDoorM03
import Derived.Test.YtmcbmcjbgjnbhaaGreatDoorTokens
import Derived.Maps.OwnSet
import Derived.DeepKeys4
import Derived.MapViews
import Derived.ProofKit
import Derived.Deep.RegionHeld3
import Derived.Deep.AppendLies
import Derived.Deep.RegionLaw
import Derived.StringKeys
import Derived.Test.YtmcbmcjbgjnbhaaGreatDoorM01
namespace Go.Proofs.YtmcbmcjbgjnbhaaGreatDoor
open Go.RowKit Go.Maps

theorem Tryz.zero3 (w : World) : (zeroValue 3).run Tryz.prog w = .ok (.int .i64 0) w := by kernel_rfl
theorem Tryz.info9 : (Tryz.prog.info? 9).map (fun i => (i.zero, i.size, i.bytes)) = some (some (.string ByteArray.empty), 1, 16) := by kernel_rfl

/-- Some blocks are as they were, and nothing outside has turned. -/
structure Kept (keep : Nat → Prop) (w w' : World) : Prop where
  os : w'.os = w.os
  tape : w'.tape = w.tape
  output : w'.output = w.output
  size : w.heap.size ≤ w'.heap.size
  block : ∀ k, keep k → w'.heap[k]? = w.heap[k]?

theorem Kept.refl (keep : Nat → Prop) (w : World) : Kept keep w w := ⟨rfl, rfl, rfl, Nat.le_refl _, fun _ _ => rfl⟩
theorem Kept.trans {keep : Nat → Prop} {a b c : World} (h : Kept keep a b) (k : Kept keep b c) : Kept keep a c :=
  ⟨k.os.trans h.os, k.tape.trans h.tape, k.output.trans h.output, Nat.le_trans h.size k.size, fun i hi => (k.block i hi).trans (h.block i hi)⟩
theorem Kept.drewN {keep : Nat → Prop} {a b : World} (h : Kept keep a b) (n : Nat) : Kept keep a (b.drewN n) := ⟨h.os, h.tape, h.output, h.size, h.block⟩
theorem Kept.cell {keep : Nat → Prop} {w w' : World} (h : Kept keep w w') {a : Addr} (ha : keep a.block) : w'.cell? a = w.cell? a := World.cell?_of_block (w := w) (h.block a.block ha)
theorem Kept.frozen {keep : Nat → Prop} {w w' : World} (h : Kept keep w w') {a : Addr} (ha : keep a.block) : w'.frozen? a = w.frozen? a := World.frozen?_of_block (w := w) (h.block a.block ha)

/-- Two values by their place. -/
def v2 (a b : Value) : Nat → Value := fun i => if i = 0 then a else b

theorem row2 (w : World) (a b : Value) (t : TypeId) : (w.alloc (.cells #[a, b] t)).rowIs w.heap.size t 2 (v2 a b) :=
  World.rowIs_alloc w #[a, b] t _ (fun i hi => by
    match i, hi with
    | 0, _ => rfl
    | 1, _ => rfl)

theorem own_kept {w w' : World} {base : Nat} {e : TypeId} {size : Nat} {v : Value} {n : Nat} {xs : List Value} {row : Option Nat} (h : w.ownsRow base e size v n xs) (hg : w.grownBy w' row) (hne : ∀ k, row = some k → k < base) : w'.ownsRow base e size v n xs := by
  obtain ⟨h1, h2⟩ := h
  refine ⟨h1, ?_⟩
  rcases h2 with h2 | ⟨g, cap, cur, hv, hb, hh, r⟩
  · exact Or.inl h2
  · obtain ⟨hlt, _⟩ := Array.getElem?_eq_some_iff.1 hh
    exact Or.inr ⟨g, cap, cur, hv, hb, (hg.block g hlt (fun e => by have := hne g e.symm; omega)).trans hh, r⟩

theorem Tryz.law9 : Keyed Tryz.prog 9 := string_keyed Tryz.underlying9

theorem key_str {a : List UInt8} (ha : a.length ≤ maxLen) : keyOf Tryz.prog 9 (.string ⟨a.toArray⟩) = some (.string a) := by
  have := WideMaps.keyOf_string_mk (s := ⟨a.toArray⟩) Tryz.underlying9 (by show a.length ≤ maxLen; exact ha)
  simpa using this

/-- A number that is come to: known, or the next. -/
def addS (ord : List (List UInt8)) (a : List UInt8) : List (List UInt8) := if ord.contains a then ord else ord ++ [a]

def scells (ord : List (List UInt8)) : List Value := ord.map fun a => .string ⟨a.toArray⟩

structure KnS (w : World) (kb mb : Nat) (ov : Value) (D : DataW Unit) (ord : List (List UInt8)) (keep : Nat → Prop) : Prop where
  row : w.rowIs kb 70 2 (v2 (.map (some mb)) ov)
  mlt : mb < kb
  map : w.ownsMap Tryz.prog 9 (plainElem Tryz.prog 3) mb ord.length D
  has : ∀ a : List UInt8, a.length ≤ maxLen → Maps.has D (.string a) = ord.contains a
  val : ∀ a : List UInt8, a.length ≤ maxLen → a ∈ ord → D.atKey (.string a) (.lit (.int .i64 0)) = .lit (.int .i64 (ord.idxOf a : Int))
  own : w.ownsRow (kb + 1) 9 1 ov ord.length (scells ord)
  far : ∀ k, keep k → k < w.heap.size ∧ k ≠ kb ∧ k ≠ mb ∧ some k ≠ ov.ownBlock

set_option maxHeartbeats 1000000 in
theorem kn_new (w : World) (keep : Nat → Prop) (hk : ∀ k, keep k → k < w.heap.size) :
    Calls Tryz.prog 26 #[] w fun e w' => e = .returned (.pointer (some ⟨w.heap.size + 1, 0, none⟩)) ∧ KnS w' (w.heap.size + 1) w.heap.size (.slice none 0 0) (.map []) [] keep ∧ Kept keep w w' := by
  have hmm := @run_makeMap Tryz.prog
  go_enter Tryz.func26, Tryz.ntmps26
  go_wp2
  go_ret
  have R := row2 (w.alloc (.map #[] 0)) (.map (some w.heap.size)) (.slice none 0 0) 70
  simp only [World.size_alloc] at R
  refine ⟨rfl, ⟨R, by omega, (World.ownsMap_made w Tryz.prog 9 (plainElem Tryz.prog 3)).alloc _, fun a _ => rfl, fun a _ h => by simp at h, World.ownsRow_nil _ _ _ _, fun k h => ?_⟩, ?_⟩
  · have := hk k h
    exact ⟨by simp; omega, by omega, by omega, by simp [Value.ownBlock]⟩
  · have := bel2 w (.map #[] 0) (.cells #[.map (some w.heap.size), .slice none 0 0] 70)
    exact ⟨this.os, this.tape, this.output, this.size, fun k h => this.block k (hk k h)⟩

theorem look_str {w : World} {mb n : Nat} {D : DataW Unit} {a : List UInt8} (h : w.ownsMap Tryz.prog 9 (plainElem Tryz.prog 3) mb n D) (ha : a.length ≤ maxLen) :
    ∃ v : Int, (∀ m, (Instr.lookup 68 (.map (some mb)) (.string ⟨a.toArray⟩) true).run Tryz.prog (w.drewN m) = .ok (.tuple #[.int .i64 v, .bool (Maps.has D (.string a))]) (w.drewN m)) ∧ D.atKey (.string a) (.lit (.int .i64 0)) = .lit (.int .i64 v) := by
  have hz : plainElem (H := Unit) Tryz.prog 3 (.int .i64 0) = some (.lit (.int .i64 0), []) := plainElem_int Tryz.underlying3 (by decide)
  have each : ∀ m, ∃ v : Int, (Instr.lookup 68 (.map (some mb)) (.string ⟨a.toArray⟩) true).run Tryz.prog (w.drewN m) = .ok (.tuple #[.int .i64 v, .bool (Maps.has D (.string a))]) (w.drewN m) ∧ D.atKey (.string a) (.lit (.int .i64 0)) = .lit (.int .i64 v) := fun m => by
    have h' : (w.drewN m).ownsMap Tryz.prog 9 (plainElem Tryz.prog 3) mb n D := h
    obtain ⟨v, ps, hrun, hR⟩ := h'.look_ok Tryz.law9 Tryz.underlying68 (Tryz.zero3 _) hz (key_str ha)
    obtain ⟨x, rfl, hx, _⟩ := plainElem_int_inv Tryz.underlying3 hR
    simp only [Prod.mk.injEq] at hx
    exact ⟨x, hrun, hx.1⟩
  obtain ⟨v, _, hv⟩ := each 0
  refine ⟨v, fun m => ?_, hv⟩
  obtain ⟨v', hrun, hv'⟩ := each m
  rw [hv] at hv'
  simp only [DataW.lit.injEq, Lit.int.injEq, true_and] at hv'
  rw [hv']; exact hrun

theorem scells_snoc (ord : List (List UInt8)) (a : List UInt8) : scells (ord ++ [a]) = scells ord ++ [.string ⟨a.toArray⟩] := by simp [scells]

theorem kns_step {w w2 w3 : World} {kb mb : Nat} {oa : Option Addr} {cap gg cap3 : Nat} {D : DataW Unit} {ord : List (List UInt8)} {keep : Nat → Prop} {a : List UInt8} {o2 : Obj}
    (h : KnS w kb mb (.slice oa ord.length cap) D ord keep) (ha : a.length ≤ maxLen) (hc : ord.contains a = false)
    (hown2 : w2.ownsMap Tryz.prog 9 (plainElem Tryz.prog 3) mb (ord.length + 1) (D.put (.string a) (.lit (.int .i64 (ord.length : Int))))) (hg2 : w.grownBy w2 (some mb))
    (hown3 : w3.ownsRow (kb + 1) 9 1 (.slice (some ⟨gg, 0, none⟩) (ord.length + 1) cap3) (ord.length + 1) (scells ord ++ [.string ⟨a.toArray⟩]))
    (hg3 : (w2.alloc o2).grownBy w3 (Value.slice oa ord.length cap).ownBlock) (hat : (Value.slice oa ord.length cap).ownBlock = some gg ∨ gg = w2.heap.size + 1) :
    KnS (w3.setCell ⟨kb, 1, none⟩ (.slice (some ⟨gg, 0, none⟩) (ord.length + 1) cap3)) kb mb (.slice (some ⟨gg, 0, none⟩) (ord.length + 1) cap3) (D.put (.string a) (.lit (.int .i64 (ord.length : Int)))) (addS ord a) keep ∧
    Kept keep w (w3.setCell ⟨kb, 1, none⟩ (.slice (some ⟨gg, 0, none⟩) (ord.length + 1) cap3)) := by
  have hA : addS ord a = ord ++ [a] := by unfold addS; rw [hc]; rfl
  have hna : a ∉ ord := fun hm => by rw [List.contains_iff_mem.2 hm] at hc; cases hc
  have hs2 := hg2.size
  have hs3 := hg3.size
  have e3 : (w2.alloc o2).heap.size = w2.heap.size + 1 := by simp
  have hkl := h.row.lt
  have hml := h.mlt
  have n1 : some kb ≠ (Value.slice oa ord.length cap).ownBlock := fun e => by have := (h.own.lt kb e.symm).1; omega
  have nm : some mb ≠ (Value.slice oa ord.length cap).ownBlock := fun e => by have := (h.own.lt mb e.symm).1; omega
  have b3 : ∀ k, k < w2.heap.size → some k ≠ (Value.slice oa ord.length cap).ownBlock → w3.heap[k]? = w2.heap[k]? := fun k hk hn => (hg3.block k (by rw [e3]; omega) hn).trans (Below.heap_alloc _ _ _ hk)
  have rk : w3.rowIs kb 70 2 (v2 (.map (some mb)) (.slice oa ord.length cap)) :=
    h.row.of_block ((b3 kb (by omega) n1).trans (hg2.block kb (by omega) (fun e => by cases e; omega)))
  have hne : ∀ x : List UInt8, x ≠ a → (Lit.string x) ≠ Lit.string a := fun x q e => q (by simpa using e)
  rw [hA]
  refine ⟨⟨(rk.set 1 _).congr (fun i hi => ?_), h.mlt, ?_, fun x hx => ?_, fun x hx hm => ?_, ?_, fun k hk => ?_⟩, ?_⟩
  · match i, hi with
    | 0, _ => rfl
    | 1, _ => rfl
  · have hm : w3.ownsMap Tryz.prog 9 (plainElem Tryz.prog 3) mb (ord.length + 1) (D.put (.string a) (.lit (.int .i64 (ord.length : Int)))) := (hown2.alloc o2).kept hg3 nm
    have hm' := hm.setCell (a := ⟨kb, 1, none⟩) (by show mb ≠ kb; omega) (.slice (some ⟨gg, 0, none⟩) (ord.length + 1) cap3)
    simpa using hm'
  · by_cases q : x = a
    · subst q
      rw [Maps.has_put_same h.map.isMap (Tryz.law9.key (key_str hx))]
      simp
    · rw [Maps.has_put_other (hne x q), h.has x hx]
      rw [Bool.eq_iff_iff]
      simp only [List.contains_iff_mem, List.mem_append, List.mem_singleton]
      exact ⟨Or.inl, fun z => z.elim id (fun z => absurd z q)⟩
  · by_cases q : x = a
    · subst q
      rw [Maps.atKey_put_same h.map.isMap (Tryz.law9.key (key_str hx)), List.idxOf_append, if_neg hna]
      simp
    · rw [Maps.atKey_put_other (hne x q)]
      have hm' : x ∈ ord := by
        rcases List.mem_append.1 hm with z | z
        · exact z
        · simp at z; exact absurd z q
      rw [h.val x hx hm', List.idxOf_append, if_pos hm']
  · rw [scells_snoc]
    have := ownsRow_setCell_below hown3 (a := ⟨kb, 1, none⟩) (by show kb < kb + 1; omega) (.slice (some ⟨gg, 0, none⟩) (ord.length + 1) cap3)
    simpa using this
  · obtain ⟨f1, f2, f3, f4⟩ := h.far k hk
    refine ⟨by simp [World.setCell]; omega, f2, f3, ?_⟩
    rcases hat with hat | hat
    · rw [hat] at f4; simpa [Value.ownBlock] using f4
    · simp [Value.ownBlock]; omega
  · refine ⟨hg3.os.trans hg2.os, hg3.tape.trans hg2.tape, hg3.output.trans hg2.output, by simp [World.setCell]; omega, fun k hk => ?_⟩
    obtain ⟨f1, f2, f3, f4⟩ := h.far k hk
    rw [Below.heap_setCell _ _ _ _ (by show k ≠ kb; exact f2), b3 k (by omega) f4, hg2.block k f1 (fun e => by cases e; exact f3 rfl)]

set_option maxRecDepth 100000 in
set_option maxHeartbeats 4000000 in
theorem kn_number (kb mb : Nat) (ov : Value) (D : DataW Unit) (ord : List (List UInt8)) (keep : Nat → Prop) (a : List UInt8) (w : World) (h : KnS w kb mb ov D ord keep) (ha : a.length ≤ maxLen) (ho : ord.length ≤ 100000000) :
    Calls Tryz.prog 27 #[.pointer (some ⟨kb, 0, none⟩), .string ⟨a.toArray⟩] w fun e w' =>
      ∃ (ov' : Value) (D' : DataW Unit), e = .returned (.tuple #[.int .i64 ((addS ord a).idxOf a : Int), .bool (!ord.contains a)]) ∧ KnS w' kb mb ov' D' (addS ord a) keep ∧ Kept keep w w' := by
  obtain ⟨v, hlk, hat0⟩ := look_str h.map ha
  rw [h.has a ha] at hlk
  have hlk0 := hlk 0
  rw [World.drewN_zero] at hlk0
  obtain ⟨oa, cap, rfl⟩ := own_form h.own
  have c0 : w.cell? ⟨kb, 0, none⟩ = some (.map (some mb)) := h.row.cell (i := 0) (by omega)
  have c1 : w.cell? ⟨kb, 1, none⟩ = some (.slice oa ord.length cap) := h.row.cell (i := 1) (by omega)
  have HH : Hid (KnS w kb mb (.slice oa ord.length cap) D ord keep) := h
  have hkl := h.row.lt
  clear hlk
  cases hcon : ord.contains a
  · have HC : Hid (ord.contains a = false) := hcon
    have HX : Hid ((addS ord a).idxOf a = ord.length) := by
      have hna : a ∉ ord := fun hm => by rw [List.contains_iff_mem.2 hm] at hcon; cases hcon
      show (addS ord a).idxOf a = ord.length
      unfold addS; rw [hcon]
      simp [List.idxOf_append, hna]
    rw [hcon] at hlk0
    obtain ⟨i0, hi0, hz0, hz1, hz2⟩ := info_parts Tryz.info9
    obtain ⟨w2, hrun, hown2, hg2⟩ := h.map.update Tryz.law9 Tryz.underlying68 (by unfold maxLen; omega) (key_str ha) (plainElem_int Tryz.underlying3 (a := (ord.length : Int)) (WalkArith.wf_i64 (by omega)))
    have hml := h.mlt
    have hs2 := hg2.size
    have OWN : w2.ownsRow (kb + 1) 9 1 (.slice oa ord.length cap) ord.length (scells ord) := own_kept h.own hg2 (fun k e => by cases e; omega)
    have r2 : w2.rowIs kb 70 2 (v2 (.map (some mb)) (.slice oa ord.length cap)) := h.row.of_block (hg2.block kb hkl (fun e => by cases e; omega))
    have d1 : w2.cell? ⟨kb, 1, none⟩ = some (.slice oa ord.length cap) := r2.cell (i := 1) (by omega)
    have n1 : some kb ≠ (Value.slice oa ord.length cap).ownBlock := fun e => by have := (h.own.lt kb e.symm).1; omega
    have d1' := (r2.alloc (.cells #[.string ⟨a.toArray⟩] 9)).cell (i := 1) (by omega)
    have d2' := (r2.alloc (.cells #[.string ⟨a.toArray⟩] 9)).frozen 1
    have hbs : kb + 1 ≤ w2.heap.size := by omega
    clear hcon h hat0
    go_enter Tryz.func27, Tryz.ntmps27
    go_wp2_with (first | (at_builtin; refine wpList_append_lies _ rfl _ _ 24 rfl (kb + 1) 9 i0 (.string ByteArray.empty) 1 16 Tryz.underlying24 hi0 hz0 hz1 hz2 rfl (by omega) (.slice oa ord.length cap) ord.length (scells ord) rfl (OWN.alloc _) ⟨w2.heap.size, 0, none⟩ 1 1 [.string ⟨a.toArray⟩] rfl rfl (cell_one_new _ _ _) (by simp [Value.oneCell']) (by omega) (by unfold maxLen; omega) (by omega) (by simp; omega) (w2.heap.size + 1) (by simp) ?_; intro gg cap3 w3 hown3 hg3 hat hlt3; have f1 : w3.cell? ⟨kb, 1, none⟩ = some (.slice oa ord.length cap) := (hg3.cell_far ⟨kb, 1, none⟩ (by simp; omega) n1).trans d1'; have f2 : w3.frozen? ⟨kb, 1, none⟩ = false := (hg3.frozen_far ⟨kb, 1, none⟩ (by simp; omega) n1).trans d2'))
    have FIN := kns_step HH.out ha HC.out hown2 hg2 hown3 hg3 hat
    clear hown2 hg2 hown3 hg3 hat OWN r2 d1 d1' d2' hrun hlk0
    go_wp2
    go_ret2
    refine ⟨_, _, ?_, FIN.1, FIN.2⟩
    rw [HX.out]; rfl
  · have hm : a ∈ ord := by simpa using hcon
    have HA : Hid (addS ord a = ord) := by show (if ord.contains a then ord else _) = ord; rw [if_pos hcon]
    have HX : Hid (v = (ord.idxOf a : Int)) := by
      have := HH.out.val a ha hm
      rw [hat0] at this
      show v = (ord.idxOf a : Int)
      simpa using this
    rw [hcon] at hlk0
    clear hcon h hat0 hm
    go_enter Tryz.func27, Tryz.ntmps27
    go_wp2
    go_ret2
    refine ⟨.slice oa ord.length cap, D, ?_, ?_, Kept.refl _ _⟩
    · rw [HA.out, ← HX.out]; rfl
    · rw [HA.out]; exact HH.out

/-- The same, with nothing said of other blocks. -/
def KnT (w : World) (kb mb : Nat) (ov : Value) (ord : List (List UInt8)) : Prop := ∃ D, KnS w kb mb ov D ord (fun _ => False)

theorem KnT.ids {w : World} {kb mb : Nat} {ov : Value} {ord : List (List UInt8)} (h : KnT w kb mb ov ord) : mb < kb ∧ kb < w.heap.size ∧ ∀ b, ov.ownBlock = some b → kb < b ∧ b < w.heap.size := by
  obtain ⟨D, h⟩ := h
  exact ⟨h.mlt, h.row.lt, fun b e => ⟨by have := (h.own.lt b e).1; omega, (h.own.lt b e).2⟩⟩

theorem KnT.but {S : List Nat} {w w' : World} {kb mb : Nat} {ov : Value} {ord : List (List UInt8)} (h : KnT w kb mb ov ord) (hb : But S w w') (h1 : kb ∉ S) (h2 : mb ∉ S) (h3 : ∀ b, ov.ownBlock = some b → b ∉ S) : KnT w' kb mb ov ord := by
  obtain ⟨D, h⟩ := h
  refine ⟨D, h.row.of_block (hb.block kb h.row.lt h1), h.mlt, ?_, h.has, h.val, ?_, fun k hk => hk.elim⟩
  · obtain ⟨es, clock, he, F, hn, hD⟩ := h.map
    have hlt := h.map.lt
    exact ⟨es, clock, (hb.block mb hlt h2).trans he, F, hn, hD⟩
  · exact own_block h.own (fun k e => hb.block k (h.own.lt k e.symm).2 (h3 k e.symm))

theorem KnS.all {w : World} {kb mb : Nat} {ov : Value} {D : DataW Unit} {ord : List (List UInt8)} {keep : Nat → Prop} (h : KnS w kb mb ov D ord keep) : KnS w kb mb ov D ord (fun k => k < w.heap.size ∧ k ≠ kb ∧ k ≠ mb ∧ some k ≠ ov.ownBlock) :=
  ⟨h.row, h.mlt, h.map, h.has, h.val, h.own, fun _ hk => hk⟩

theorem kt_new (w : World) : Calls Tryz.prog 26 #[] w fun e w' => e = .returned (.pointer (some ⟨w.heap.size + 1, 0, none⟩)) ∧ KnT w' (w.heap.size + 1) w.heap.size (.slice none 0 0) [] ∧ But [] w w' := by
  refine (kn_new w (fun k => k < w.heap.size) (fun _ h => h)).mono ?_
  rintro e w' ⟨he, hk, hp⟩
  exact ⟨he, ⟨_, hk.row, hk.mlt, hk.map, hk.has, hk.val, hk.own, fun _ h => h.elim⟩, ⟨hp.os, hp.tape, hp.output, hp.size, fun k hk _ => hp.block k hk⟩⟩

theorem kt_number (kb mb : Nat) (ov : Value) (ord : List (List UInt8)) (a : List UInt8) (w : World) (h : KnT w kb mb ov ord) (ha : a.length ≤ maxLen) (ho : ord.length ≤ 100000000) :
    Calls Tryz.prog 27 #[.pointer (some ⟨kb, 0, none⟩), .string ⟨a.toArray⟩] w fun e w' =>
      ∃ (x : Int) (ov' : Value), e = .returned (.tuple #[.int .i64 x, .bool (!ord.contains a)]) ∧ KnT w' kb mb ov' (addS ord a) ∧ But (kb :: mb :: ov.ownBlock.toList) w w' ∧ ∀ b, ov'.ownBlock = some b → ov.ownBlock = some b ∨ w.heap.size ≤ b := by
  obtain ⟨D, h⟩ := h
  refine (kn_number kb mb ov D ord _ a w h.all ha ho).mono ?_
  rintro e w' ⟨ov', D', he, hk, hp⟩
  refine ⟨_, ov', he, ⟨D', hk.row, hk.mlt, hk.map, hk.has, hk.val, hk.own, fun _ h => h.elim⟩, ⟨hp.os, hp.tape, hp.output, hp.size, fun k hk hn => hp.block k ⟨hk, fun e => hn (by simp [e]), fun e => hn (by simp [e]), fun e => hn (by simp [← e])⟩⟩, fun b e => ?_⟩
  by_cases hb : b < w.heap.size
  · by_cases h2 : some b = ov.ownBlock
    · exact Or.inl h2.symm
    · have h3 := (hk.own.lt b e).1
      have := hk.mlt
      exact absurd e.symm (hk.far b ⟨hb, by omega, by omega, h2⟩).2.2.2
  · exact Or.inr (by omega)

end Go.Proofs.YtmcbmcjbgjnbhaaGreatDoor

namespace Go.Proofs.YtmcbmcjbgjnbhaaGreatDoor

/-- A reader gives no more items than tokens that it passes over, and goes on. -/
def Far {α : Type} (n : Nat) (T : Nat → Option (List α × Nat)) : Prop := ∀ i l j, T i = some (l, j) → i + l.length ≤ j ∧ i < j ∧ j ≤ n

theorem floop_far {α : Type} {ts : List TK} {T : Nat → Option (List α × Nat)} {sg : List UInt8} (h : Far ts.length T) : ∀ f j ns its l ns' k, floop ts T sg f j ns its = some (l, ns', k) → l.length + j ≤ its.length + k ∧ j < k ∧ k ≤ ts.length ∧ ns'.length + j ≤ ns.length + k
  | 0, _, _, _, _, _, _, e => by cases e
  | f + 1, j, ns, its, l, ns', k, e => by
    rw [floop] at e
    split at e
    · split at e
      · cases e
      · split at e
        · cases eT : T (j + 2) with
          | none => rw [eT] at e; cases e
          | some r =>
            obtain ⟨l0, k0⟩ := r
            rw [eT] at e
            obtain ⟨h1, h2, h3⟩ := h _ _ _ eT
            dsimp only at e
            split at e
            case isTrue hs =>
              have := isT_lt hs
              simp only [Option.some.injEq, Prod.mk.injEq] at e
              obtain ⟨rfl, rfl, rfl⟩ := e
              simp only [List.length_append, List.length_cons, List.length_nil]
              omega
            case isFalse hs =>
              split at e
              · have := floop_far h f _ _ _ _ _ _ e
                simp only [List.length_append, List.length_cons, List.length_nil] at this
                omega
              · cases e
        · cases e
    · cases e

theorem flds_far {α : Type} {ts : List TK} {T : Nat → Option (List α × Nat)} {sg : List UInt8} (h : Far ts.length T) {j : Nat} {l : List α} {ns : List ByteArray} {k : Nat} (e : fldsP ts T sg j = some (l, ns, k)) : l.length + j ≤ k ∧ j < k ∧ k ≤ ts.length ∧ ns.length + j ≤ k := by
  unfold fldsP at e
  split at e
  case isTrue hs =>
    have := isT_lt hs
    simp only [Option.some.injEq, Prod.mk.injEq] at e
    obtain ⟨rfl, rfl, rfl⟩ := e
    simp only [List.length_nil]
    omega
  case isFalse =>
    have := floop_far h _ _ _ _ _ _ _ e
    simp only [List.length_nil] at this
    omega

theorem brk_far {α : Type} {ts : List TK} {T : Nat → Option (List α × Nat)} (h : Far ts.length T) {i : Nat} {l : List α} {k : Nat} (e : brkP ts T i = some (l, k)) : i + l.length ≤ k ∧ i < k ∧ k ≤ ts.length := by
  unfold brkP at e
  cases eT : T i with
  | none => rw [eT] at e; cases e
  | some r =>
    obtain ⟨l0, k0⟩ := r
    rw [eT] at e
    obtain ⟨h1, h2, h3⟩ := h _ _ _ eT
    dsimp only at e
    split at e
    case isTrue hs =>
      have := isT_lt hs
      simp only [Option.some.injEq, Prod.mk.injEq] at e
      obtain ⟨rfl, rfl⟩ := e
      omega
    case isFalse => cases e

theorem path_far {st : Bool} {ts : List TK} {i : Nat} {m n : ByteArray} {j : Nat} (hi : i < ts.length) (e : pathP st ts i = some (m, n, j)) : i < j ∧ j ≤ ts.length := by
  unfold pathP at e
  split at e
  · split at e
    case isTrue h =>
      have := isC_lt h
      simp only [Option.some.injEq, Prod.mk.injEq] at e
      omega
    case isFalse =>
      split at e
      · cases e
      · simp only [Option.some.injEq, Prod.mk.injEq] at e
        omega
  · simp only [Option.some.injEq, Prod.mk.injEq] at e
    omega

theorem base_far {st : Bool} {ts : List TK} {T : Nat → Option (List TI × Nat)} (h : Far ts.length T) : Far ts.length (baseP st ts T) := fun i l j e => by
  unfold baseP at e
  split at e
  case isTrue hc =>
    have := isC_lt hc
    cases ep : pathP st ts i with
    | none => rw [ep] at e; cases e
    | some r =>
      obtain ⟨m, n, k⟩ := r
      rw [ep] at e
      simp only [Option.some.injEq, Prod.mk.injEq] at e
      obtain ⟨rfl, rfl⟩ := e
      have := path_far (by omega) ep
      simp only [List.length_cons, List.length_nil]
      omega
  case isFalse =>
    have one : ∀ {s : List UInt8} {t : TI}, isT ts i s = true → (some ([t], i + 1) : Option (List TI × Nat)) = some (l, j) → i + l.length ≤ j ∧ i < j ∧ j ≤ ts.length := fun hs e => by
      have := isT_lt hs
      simp only [Option.some.injEq, Prod.mk.injEq] at e
      obtain ⟨rfl, rfl⟩ := e
      simp only [List.length_cons, List.length_nil]
      omega
    split at e
    · exact one ‹_› e
    split at e
    · exact one ‹_› e
    split at e
    · exact one ‹_› e
    split at e
    · cases ep : fldsP ts T sColon (i + 1) with
      | none => rw [ep] at e; cases e
      | some r =>
        obtain ⟨its, ns, k⟩ := r
        rw [ep] at e
        simp only [Option.some.injEq, Prod.mk.injEq] at e
        obtain ⟨rfl, rfl⟩ := e
        have := flds_far h ep
        simp only [List.length_append, List.length_cons, List.length_nil]
        omega
    split at e
    · have := brk_far h e
      omega
    · cases e

theorem ty_far {st : Bool} {ts : List TK} : ∀ f, Far ts.length (tyP st ts f)
  | 0 => fun i l j e => by cases e
  | f + 1 => fun i l j e => by
    rw [tyP] at e
    cases eb : baseP st ts (tyP st ts f) i with
    | none => rw [eb] at e; cases e
    | some r =>
      obtain ⟨l0, k0⟩ := r
      rw [eb] at e
      obtain ⟨h1, h2, h3⟩ := base_far (ty_far f) _ _ _ eb
      dsimp only at e
      split at e
      · cases eT : tyP st ts f (k0 + 1) with
        | none => rw [eT] at e; cases e
        | some r =>
          obtain ⟨l1, k1⟩ := r
          rw [eT] at e
          obtain ⟨h4, h5, h6⟩ := ty_far f _ _ _ eT
          simp only [Option.some.injEq, Prod.mk.injEq] at e
          obtain ⟨rfl, rfl⟩ := e
          simp only [List.length_append, List.length_cons, List.length_nil]
          omega
      · simp only [Option.some.injEq, Prod.mk.injEq] at e
        obtain ⟨rfl, rfl⟩ := e
        exact ⟨h1, h2, h3⟩

theorem atom_far {st : Bool} {ts : List TK} {T : Nat → Option (List EI × Nat)} (h : Far ts.length T) : Far ts.length (atomP st ts T) := fun i l j e => by
  unfold atomP at e
  split at e
  case isTrue hc =>
    have := isC_lt hc
    cases ep : pathP st ts i with
    | none => rw [ep] at e; cases e
    | some r =>
      obtain ⟨m, n, k⟩ := r
      rw [ep] at e
      simp only [Option.some.injEq, Prod.mk.injEq] at e
      obtain ⟨rfl, rfl⟩ := e
      have := path_far (by omega) ep
      simp only [List.length_cons, List.length_nil]
      omega
  case isFalse =>
    have one : ∀ {t : EI}, i < ts.length → (some ([t], i + 1) : Option (List EI × Nat)) = some (l, j) → i + l.length ≤ j ∧ i < j ∧ j ≤ ts.length := fun hs e => by
      simp only [Option.some.injEq, Prod.mk.injEq] at e
      obtain ⟨rfl, rfl⟩ := e
      simp only [List.length_cons, List.length_nil]
      omega
    split at e
    · exact one (isC_lt ‹_›) e
    split at e
    · exact one (isT_lt ‹_›) e
    split at e
    · exact one (isT_lt ‹_›) e
    split at e
    · cases ep : fldsP ts T sEq (i + 1) with
      | none => rw [ep] at e; cases e
      | some r =>
        obtain ⟨its, ns, k⟩ := r
        rw [ep] at e
        simp only [Option.some.injEq, Prod.mk.injEq] at e
        obtain ⟨rfl, rfl⟩ := e
        have := flds_far h ep
        simp only [List.length_append, List.length_cons, List.length_nil]
        omega
    split at e
    · have := brk_far h e
      omega
    · cases e

theorem postL_far {ts : List TK} {T : Nat → Option (List EI × Nat)} (h : Far ts.length T) : ∀ f its j l k, j ≤ ts.length → postL ts T f its j = some (l, k) → l.length + j ≤ its.length + k ∧ j ≤ k ∧ k ≤ ts.length
  | 0, _, _, _, _, _, e => by cases e
  | f + 1, its, j, l, k, hj, e => by
    rw [postL] at e
    split at e
    · split at e
      case isTrue hc =>
        have := isC_lt hc
        have := postL_far h f _ _ _ _ (by omega) e
        simp only [List.length_append, List.length_cons, List.length_nil] at this
        omega
      case isFalse => cases e
    · split at e
      · cases eb : brkP ts T (j + 1) with
        | none => rw [eb] at e; cases e
        | some r =>
          obtain ⟨l0, k0⟩ := r
          rw [eb] at e
          have h1 := brk_far h eb
          have := postL_far h f _ _ _ _ (by omega) e
          simp only [List.length_append, List.length_cons, List.length_nil] at this
          omega
      · simp only [Option.some.injEq, Prod.mk.injEq] at e
        obtain ⟨rfl, rfl⟩ := e
        omega

theorem post_far {st : Bool} {ts : List TK} {T : Nat → Option (List EI × Nat)} (h : Far ts.length T) : Far ts.length (postP st ts T) := fun i l j e => by
  unfold postP at e
  cases ea : atomP st ts T i with
  | none => rw [ea] at e; cases e
  | some r =>
    obtain ⟨l0, k0⟩ := r
    rw [ea] at e
    obtain ⟨h1, h2, h3⟩ := atom_far h _ _ _ ea
    have := postL_far h _ _ _ _ _ h3 e
    omega

theorem sumL_far {st : Bool} {ts : List TK} {T : Nat → Option (List EI × Nat)} (h : Far ts.length T) : ∀ f its j l k, j ≤ ts.length → sumL st ts T f its j = some (l, k) → l.length + j ≤ its.length + k ∧ j ≤ k ∧ k ≤ ts.length
  | 0, _, _, _, _, _, e => by cases e
  | f + 1, its, j, l, k, hj, e => by
    rw [sumL] at e
    split at e
    · cases eb : postP st ts T (j + 1) with
      | none => rw [eb] at e; cases e
      | some r =>
        obtain ⟨l0, k0⟩ := r
        rw [eb] at e
        have h1 := post_far h _ _ _ eb
        have := sumL_far h f _ _ _ _ (by omega) e
        simp only [List.length_append, List.length_cons, List.length_nil] at this
        omega
    · simp only [Option.some.injEq, Prod.mk.injEq] at e
      obtain ⟨rfl, rfl⟩ := e
      omega

theorem sum_far {st : Bool} {ts : List TK} {T : Nat → Option (List EI × Nat)} (h : Far ts.length T) : Far ts.length (sumP st ts T) := fun i l j e => by
  unfold sumP at e
  cases ea : postP st ts T i with
  | none => rw [ea] at e; cases e
  | some r =>
    obtain ⟨l0, k0⟩ := r
    rw [ea] at e
    obtain ⟨h1, h2, h3⟩ := post_far h _ _ _ ea
    have := sumL_far h _ _ _ _ _ h3 e
    omega

theorem fun_far {st : Bool} {ts : List TK} {T : Nat → Option (List EI × Nat)} (h : Far ts.length T) : Far ts.length (funP st ts T) := fun i l j e => by
  unfold funP at e
  split at e
  · cases et : tyP st ts (ts.length + 1) (i + 3) with
    | none => rw [et] at e; cases e
    | some r =>
      obtain ⟨t, k0⟩ := r
      rw [et] at e
      have h1 := ty_far _ _ _ _ et
      dsimp only at e
      split at e
      · cases eT : T (k0 + 1) with
        | none => rw [eT] at e; cases e
        | some r =>
          obtain ⟨b, k1⟩ := r
          rw [eT] at e
          have h2 := h _ _ _ eT
          simp only [Option.some.injEq, Prod.mk.injEq] at e
          obtain ⟨rfl, rfl⟩ := e
          simp only [List.length_append, List.length_cons, List.length_nil]
          omega
      · cases e
  · cases e

theorem if_far {ts : List TK} {T : Nat → Option (List EI × Nat)} (h : Far ts.length T) : Far ts.length (ifP ts T) := fun i l j e => by
  unfold ifP at e
  cases e1 : T i with
  | none => rw [e1] at e; cases e
  | some r =>
    obtain ⟨c, k⟩ := r
    rw [e1] at e
    have h1 := h _ _ _ e1
    dsimp only at e
    split at e
    · cases e2 : T (k + 1) with
      | none => rw [e2] at e; cases e
      | some r =>
        obtain ⟨a, k1⟩ := r
        rw [e2] at e
        have h2 := h _ _ _ e2
        dsimp only at e
        split at e
        · cases e3 : T (k1 + 1) with
          | none => rw [e3] at e; cases e
          | some r =>
            obtain ⟨b, k2⟩ := r
            rw [e3] at e
            have h3 := h _ _ _ e3
            simp only [Option.some.injEq, Prod.mk.injEq] at e
            obtain ⟨rfl, rfl⟩ := e
            simp only [List.length_append, List.length_cons, List.length_nil]
            omega
        · cases e
    · cases e

theorem less_far {st : Bool} {ts : List TK} {T : Nat → Option (List EI × Nat)} (h : Far ts.length T) : Far ts.length (lessP st ts T) := fun i l j e => by
  unfold lessP at e
  cases e1 : sumP st ts T i with
  | none => rw [e1] at e; cases e
  | some r =>
    obtain ⟨l0, k0⟩ := r
    rw [e1] at e
    have h1 := sum_far h _ _ _ e1
    dsimp only at e
    split at e
    · cases e2 : sumP st ts T (k0 + 1) with
      | none => rw [e2] at e; cases e
      | some r =>
        obtain ⟨l1, k1⟩ := r
        rw [e2] at e
        have h2 := sum_far h _ _ _ e2
        simp only [Option.some.injEq, Prod.mk.injEq] at e
        obtain ⟨rfl, rfl⟩ := e
        simp only [List.length_append, List.length_cons, List.length_nil]
        omega
    · simp only [Option.some.injEq, Prod.mk.injEq] at e
      obtain ⟨rfl, rfl⟩ := e
      omega

theorem ex_far {st : Bool} {ts : List TK} : ∀ f, Far ts.length (exP st ts f)
  | 0 => fun i l j e => by cases e
  | f + 1 => fun i l j e => by
    rw [exP] at e
    split at e
    · have := fun_far (ex_far f) _ _ _ e
      omega
    · split at e
      · have := if_far (ex_far f) _ _ _ e
        omega
      · exact less_far (ex_far f) _ _ _ e

end Go.Proofs.YtmcbmcjbgjnbhaaGreatDoor

