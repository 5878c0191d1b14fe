/-
  What is known so far, of texts: a map from texts to their places, and the texts in their order.
-/
import Derived.Test.YtokfbajlcmadfaaSrcEq
import Derived.Maps.OwnSet
import Derived.DeepKeys4
import Derived.MapViews
import Derived.ProofKit
import Derived.Deep.AppendLies
import Derived.Deep.RegionLaw
import Derived.StringKeys
namespace Go.Proofs.Ytokfbajlcmadfaa
open Go.RowKit Go.Maps

theorem Try.zero3 (w : World) : (zeroValue 3).run Try.prog w = .ok (.int .i64 0) w := by kernel_rfl
theorem Try.info9 : (Try.prog.info? 9).map (fun i => (i.zero, i.size, i.bytes)) = some (some (.string ByteArray.empty), 1, 16) := by kernel_rfl

/-- Some blocks are as they were, and nothing outside has turned. -/
structure Kept (keep : Nat → Prop) (w w' : World) : Prop where
  os : w'.os = w.os
  tape : w'.tape = w.tape
  output : w'.output = w.output
  size : w.heap.size ≤ w'.heap.size
  block : ∀ k, keep k → w'.heap[k]? = w.heap[k]?

theorem Kept.refl (keep : Nat → Prop) (w : World) : Kept keep w w := ⟨rfl, rfl, rfl, Nat.le_refl _, fun _ _ => rfl⟩
theorem Kept.trans {keep : Nat → Prop} {a b c : World} (h : Kept keep a b) (k : Kept keep b c) : Kept keep a c :=
  ⟨k.os.trans h.os, k.tape.trans h.tape, k.output.trans h.output, Nat.le_trans h.size k.size, fun i hi => (k.block i hi).trans (h.block i hi)⟩
theorem Kept.drewN {keep : Nat → Prop} {a b : World} (h : Kept keep a b) (n : Nat) : Kept keep a (b.drewN n) := ⟨h.os, h.tape, h.output, h.size, h.block⟩
theorem Kept.cell {keep : Nat → Prop} {w w' : World} (h : Kept keep w w') {a : Addr} (ha : keep a.block) : w'.cell? a = w.cell? a := World.cell?_of_block (w := w) (h.block a.block ha)
theorem Kept.frozen {keep : Nat → Prop} {w w' : World} (h : Kept keep w w') {a : Addr} (ha : keep a.block) : w'.frozen? a = w.frozen? a := World.frozen?_of_block (w := w) (h.block a.block ha)

/-- Two values by their place. -/
def v2 (a b : Value) : Nat → Value := fun i => if i = 0 then a else b

theorem row2 (w : World) (a b : Value) (t : TypeId) : (w.alloc (.cells #[a, b] t)).rowIs w.heap.size t 2 (v2 a b) :=
  World.rowIs_alloc w #[a, b] t _ (fun i hi => by
    match i, hi with
    | 0, _ => rfl
    | 1, _ => rfl)

theorem own_form {w : World} {base : Nat} {e : TypeId} {size : Nat} {v : Value} {n : Nat} {xs : List Value} (h : w.ownsRow base e size v n xs) : ∃ oa cap, v = .slice oa n cap := by
  rcases h.2 with ⟨rfl, rfl⟩ | ⟨g, cap, _, rfl, _⟩
  · exact ⟨none, 0, rfl⟩
  · exact ⟨_, cap, rfl⟩

theorem own_kept {w w' : World} {base : Nat} {e : TypeId} {size : Nat} {v : Value} {n : Nat} {xs : List Value} {row : Option Nat} (h : w.ownsRow base e size v n xs) (hg : w.grownBy w' row) (hne : ∀ k, row = some k → k < base) : w'.ownsRow base e size v n xs := by
  obtain ⟨h1, h2⟩ := h
  refine ⟨h1, ?_⟩
  rcases h2 with h2 | ⟨g, cap, cur, hv, hb, hh, r⟩
  · exact Or.inl h2
  · obtain ⟨hlt, _⟩ := Array.getElem?_eq_some_iff.1 hh
    exact Or.inr ⟨g, cap, cur, hv, hb, (hg.block g hlt (fun e => by have := hne g e.symm; omega)).trans hh, r⟩

theorem Try.law9 : Keyed Try.prog 9 := string_keyed Try.underlying9

theorem key_str {a : List UInt8} (ha : a.length ≤ maxLen) : keyOf Try.prog 9 (.string ⟨a.toArray⟩) = some (.string a) := by
  have := WideMaps.keyOf_string_mk (s := ⟨a.toArray⟩) Try.underlying9 (by show a.length ≤ maxLen; exact ha)
  simpa using this

/-- A number that is come to: known, or the next. -/
def addS (ord : List (List UInt8)) (a : List UInt8) : List (List UInt8) := if ord.contains a then ord else ord ++ [a]

def scells (ord : List (List UInt8)) : List Value := ord.map fun a => .string ⟨a.toArray⟩

structure KnS (w : World) (kb mb : Nat) (ov : Value) (D : DataW Unit) (ord : List (List UInt8)) (keep : Nat → Prop) : Prop where
  row : w.rowIs kb 75 2 (v2 (.map (some mb)) ov)
  mlt : mb < kb
  map : w.ownsMap Try.prog 9 (plainElem Try.prog 3) mb ord.length D
  has : ∀ a : List UInt8, a.length ≤ maxLen → Maps.has D (.string a) = ord.contains a
  val : ∀ a : List UInt8, a.length ≤ maxLen → a ∈ ord → D.atKey (.string a) (.lit (.int .i64 0)) = .lit (.int .i64 (ord.idxOf a : Int))
  own : w.ownsRow (kb + 1) 9 1 ov ord.length (scells ord)
  far : ∀ k, keep k → k < w.heap.size ∧ k ≠ kb ∧ k ≠ mb ∧ some k ≠ ov.ownBlock

set_option maxHeartbeats 1000000 in
theorem c12 (w : World) (keep : Nat → Prop) (hk : ∀ k, keep k → k < w.heap.size) :
    Calls Try.prog 24 #[] w fun e w' => e = .returned (.pointer (some ⟨w.heap.size + 1, 0, none⟩)) ∧ KnS w' (w.heap.size + 1) w.heap.size (.slice none 0 0) (.map []) [] keep ∧ Kept keep w w' := by
  have hmm := @run_makeMap Try.prog
  go_enter Try.func24, Try.ntmps24
  go_wp2
  go_ret
  have R := row2 (w.alloc (.map #[] 0)) (.map (some w.heap.size)) (.slice none 0 0) 75
  simp only [World.size_alloc] at R
  refine ⟨rfl, ⟨R, by omega, (World.ownsMap_made w Try.prog 9 (plainElem Try.prog 3)).alloc _, fun a _ => rfl, fun a _ h => by simp at h, World.ownsRow_nil _ _ _ _, fun k h => ?_⟩, ?_⟩
  · have := hk k h
    exact ⟨by simp; omega, by omega, by omega, by simp [Value.ownBlock]⟩
  · have := sbel2 w (.map #[] 0) (.cells #[.map (some w.heap.size), .slice none 0 0] 75)
    exact ⟨this.os, this.tape, this.output, this.size, fun k h => this.block k (hk k h)⟩

theorem look_str {w : World} {mb n : Nat} {D : DataW Unit} {a : List UInt8} (h : w.ownsMap Try.prog 9 (plainElem Try.prog 3) mb n D) (ha : a.length ≤ maxLen) :
    ∃ v : Int, (∀ m, (Instr.lookup 73 (.map (some mb)) (.string ⟨a.toArray⟩) true).run Try.prog (w.drewN m) = .ok (.tuple #[.int .i64 v, .bool (Maps.has D (.string a))]) (w.drewN m)) ∧ D.atKey (.string a) (.lit (.int .i64 0)) = .lit (.int .i64 v) := by
  have hz : plainElem (H := Unit) Try.prog 3 (.int .i64 0) = some (.lit (.int .i64 0), []) := plainElem_int Try.underlying3 (by decide)
  have each : ∀ m, ∃ v : Int, (Instr.lookup 73 (.map (some mb)) (.string ⟨a.toArray⟩) true).run Try.prog (w.drewN m) = .ok (.tuple #[.int .i64 v, .bool (Maps.has D (.string a))]) (w.drewN m) ∧ D.atKey (.string a) (.lit (.int .i64 0)) = .lit (.int .i64 v) := fun m => by
    have h' : (w.drewN m).ownsMap Try.prog 9 (plainElem Try.prog 3) mb n D := h
    obtain ⟨v, ps, hrun, hR⟩ := h'.look_ok Try.law9 Try.underlying73 (Try.zero3 _) hz (key_str ha)
    obtain ⟨x, rfl, hx, _⟩ := plainElem_int_inv Try.underlying3 hR
    simp only [Prod.mk.injEq] at hx
    exact ⟨x, hrun, hx.1⟩
  obtain ⟨v, _, hv⟩ := each 0
  refine ⟨v, fun m => ?_, hv⟩
  obtain ⟨v', hrun, hv'⟩ := each m
  rw [hv] at hv'
  simp only [DataW.lit.injEq, Lit.int.injEq, true_and] at hv'
  rw [hv']; exact hrun

theorem scells_snoc (ord : List (List UInt8)) (a : List UInt8) : scells (ord ++ [a]) = scells ord ++ [.string ⟨a.toArray⟩] := by simp [scells]

theorem kns_step {w w2 w3 : World} {kb mb : Nat} {oa : Option Addr} {cap gg cap3 : Nat} {D : DataW Unit} {ord : List (List UInt8)} {keep : Nat → Prop} {a : List UInt8} {o2 : Obj}
    (h : KnS w kb mb (.slice oa ord.length cap) D ord keep) (ha : a.length ≤ maxLen) (hc : ord.contains a = false)
    (hown2 : w2.ownsMap Try.prog 9 (plainElem Try.prog 3) mb (ord.length + 1) (D.put (.string a) (.lit (.int .i64 (ord.length : Int))))) (hg2 : w.grownBy w2 (some mb))
    (hown3 : w3.ownsRow (kb + 1) 9 1 (.slice (some ⟨gg, 0, none⟩) (ord.length + 1) cap3) (ord.length + 1) (scells ord ++ [.string ⟨a.toArray⟩]))
    (hg3 : (w2.alloc o2).grownBy w3 (Value.slice oa ord.length cap).ownBlock) (hat : (Value.slice oa ord.length cap).ownBlock = some gg ∨ gg = w2.heap.size + 1) :
    KnS (w3.setCell ⟨kb, 1, none⟩ (.slice (some ⟨gg, 0, none⟩) (ord.length + 1) cap3)) kb mb (.slice (some ⟨gg, 0, none⟩) (ord.length + 1) cap3) (D.put (.string a) (.lit (.int .i64 (ord.length : Int)))) (addS ord a) keep ∧
    Kept keep w (w3.setCell ⟨kb, 1, none⟩ (.slice (some ⟨gg, 0, none⟩) (ord.length + 1) cap3)) := by
  have hA : addS ord a = ord ++ [a] := by unfold addS; rw [hc]; rfl
  have hna : a ∉ ord := fun hm => by rw [List.contains_iff_mem.2 hm] at hc; cases hc
  have hs2 := hg2.size
  have hs3 := hg3.size
  have e3 : (w2.alloc o2).heap.size = w2.heap.size + 1 := by simp
  have hkl := h.row.lt
  have hml := h.mlt
  have n1 : some kb ≠ (Value.slice oa ord.length cap).ownBlock := fun e => by have := (h.own.lt kb e.symm).1; omega
  have nm : some mb ≠ (Value.slice oa ord.length cap).ownBlock := fun e => by have := (h.own.lt mb e.symm).1; omega
  have b3 : ∀ k, k < w2.heap.size → some k ≠ (Value.slice oa ord.length cap).ownBlock → w3.heap[k]? = w2.heap[k]? := fun k hk hn => (hg3.block k (by rw [e3]; omega) hn).trans (Below.heap_alloc _ _ _ hk)
  have rk : w3.rowIs kb 75 2 (v2 (.map (some mb)) (.slice oa ord.length cap)) :=
    h.row.of_block ((b3 kb (by omega) n1).trans (hg2.block kb (by omega) (fun e => by cases e; omega)))
  have hne : ∀ x : List UInt8, x ≠ a → (Lit.string x) ≠ Lit.string a := fun x q e => q (by simpa using e)
  rw [hA]
  refine ⟨⟨(rk.set 1 _).congr (fun i hi => ?_), h.mlt, ?_, fun x hx => ?_, fun x hx hm => ?_, ?_, fun k hk => ?_⟩, ?_⟩
  · match i, hi with
    | 0, _ => rfl
    | 1, _ => rfl
  · have hm : w3.ownsMap Try.prog 9 (plainElem Try.prog 3) mb (ord.length + 1) (D.put (.string a) (.lit (.int .i64 (ord.length : Int)))) := (hown2.alloc o2).kept hg3 nm
    have hm' := hm.setCell (a := ⟨kb, 1, none⟩) (by show mb ≠ kb; omega) (.slice (some ⟨gg, 0, none⟩) (ord.length + 1) cap3)
    simpa using hm'
  · by_cases q : x = a
    · subst q
      rw [Maps.has_put_same h.map.isMap (Try.law9.key (key_str hx))]
      simp
    · rw [Maps.has_put_other (hne x q), h.has x hx]
      rw [Bool.eq_iff_iff]
      simp only [List.contains_iff_mem, List.mem_append, List.mem_singleton]
      exact ⟨Or.inl, fun z => z.elim id (fun z => absurd z q)⟩
  · by_cases q : x = a
    · subst q
      rw [Maps.atKey_put_same h.map.isMap (Try.law9.key (key_str hx)), List.idxOf_append, if_neg hna]
      simp
    · rw [Maps.atKey_put_other (hne x q)]
      have hm' : x ∈ ord := by
        rcases List.mem_append.1 hm with z | z
        · exact z
        · simp at z; exact absurd z q
      rw [h.val x hx hm', List.idxOf_append, if_pos hm']
  · rw [scells_snoc]
    have := ownsRow_setCell_below hown3 (a := ⟨kb, 1, none⟩) (by show kb < kb + 1; omega) (.slice (some ⟨gg, 0, none⟩) (ord.length + 1) cap3)
    simpa using this
  · obtain ⟨f1, f2, f3, f4⟩ := h.far k hk
    refine ⟨by simp [World.setCell]; omega, f2, f3, ?_⟩
    rcases hat with hat | hat
    · rw [hat] at f4; simpa [Value.ownBlock] using f4
    · simp [Value.ownBlock]; omega
  · refine ⟨hg3.os.trans hg2.os, hg3.tape.trans hg2.tape, hg3.output.trans hg2.output, by simp [World.setCell]; omega, fun k hk => ?_⟩
    obtain ⟨f1, f2, f3, f4⟩ := h.far k hk
    rw [Below.heap_setCell _ _ _ _ (by show k ≠ kb; exact f2), b3 k (by omega) f4, hg2.block k f1 (fun e => by cases e; exact f3 rfl)]

set_option maxRecDepth 100000 in
set_option maxHeartbeats 4000000 in
theorem c13 (kb mb : Nat) (ov : Value) (D : DataW Unit) (ord : List (List UInt8)) (keep : Nat → Prop) (a : List UInt8) (w : World) (h : KnS w kb mb ov D ord keep) (ha : a.length ≤ maxLen) (ho : ord.length ≤ 100000000) :
    Calls Try.prog 25 #[.pointer (some ⟨kb, 0, none⟩), .string ⟨a.toArray⟩] w fun e w' =>
      ∃ (ov' : Value) (D' : DataW Unit), e = .returned (.tuple #[.int .i64 ((addS ord a).idxOf a : Int), .bool (!ord.contains a)]) ∧ KnS w' kb mb ov' D' (addS ord a) keep ∧ Kept keep w w' := by
  obtain ⟨v, hlk, hat0⟩ := look_str h.map ha
  rw [h.has a ha] at hlk
  have hlk0 := hlk 0
  rw [World.drewN_zero] at hlk0
  obtain ⟨oa, cap, rfl⟩ := own_form h.own
  have c0 : w.cell? ⟨kb, 0, none⟩ = some (.map (some mb)) := h.row.cell (i := 0) (by omega)
  have c1 : w.cell? ⟨kb, 1, none⟩ = some (.slice oa ord.length cap) := h.row.cell (i := 1) (by omega)
  have HH : Hid (KnS w kb mb (.slice oa ord.length cap) D ord keep) := h
  have hkl := h.row.lt
  clear hlk
  cases hcon : ord.contains a
  · have HC : Hid (ord.contains a = false) := hcon
    have HX : Hid ((addS ord a).idxOf a = ord.length) := by
      have hna : a ∉ ord := fun hm => by rw [List.contains_iff_mem.2 hm] at hcon; cases hcon
      show (addS ord a).idxOf a = ord.length
      unfold addS; rw [hcon]
      simp [List.idxOf_append, hna]
    rw [hcon] at hlk0
    obtain ⟨i0, hi0, hz0, hz1, hz2⟩ := info_parts Try.info9
    obtain ⟨w2, hrun, hown2, hg2⟩ := h.map.update Try.law9 Try.underlying73 (by unfold maxLen; omega) (key_str ha) (plainElem_int Try.underlying3 (a := (ord.length : Int)) (WalkArith.wf_i64 (by omega)))
    have hml := h.mlt
    have hs2 := hg2.size
    have OWN : w2.ownsRow (kb + 1) 9 1 (.slice oa ord.length cap) ord.length (scells ord) := own_kept h.own hg2 (fun k e => by cases e; omega)
    have r2 : w2.rowIs kb 75 2 (v2 (.map (some mb)) (.slice oa ord.length cap)) := h.row.of_block (hg2.block kb hkl (fun e => by cases e; omega))
    have d1 : w2.cell? ⟨kb, 1, none⟩ = some (.slice oa ord.length cap) := r2.cell (i := 1) (by omega)
    have n1 : some kb ≠ (Value.slice oa ord.length cap).ownBlock := fun e => by have := (h.own.lt kb e.symm).1; omega
    have d1' := (r2.alloc (.cells #[.string ⟨a.toArray⟩] 9)).cell (i := 1) (by omega)
    have d2' := (r2.alloc (.cells #[.string ⟨a.toArray⟩] 9)).frozen 1
    have hbs : kb + 1 ≤ w2.heap.size := by omega
    clear hcon h hat0
    go_enter Try.func25, Try.ntmps25
    go_wp2_with (first | (at_builtin; refine wpList_append_lies _ rfl _ _ 65 rfl (kb + 1) 9 i0 (.string ByteArray.empty) 1 16 Try.underlying65 hi0 hz0 hz1 hz2 rfl (by omega) (.slice oa ord.length cap) ord.length (scells ord) rfl (OWN.alloc _) ⟨w2.heap.size, 0, none⟩ 1 1 [.string ⟨a.toArray⟩] rfl rfl (cell_one_new _ _ _) (by simp [Value.oneCell']) (by omega) (by unfold maxLen; omega) (by omega) (by simp; omega) (w2.heap.size + 1) (by simp) ?_; intro gg cap3 w3 hown3 hg3 hat hlt3; have f1 : w3.cell? ⟨kb, 1, none⟩ = some (.slice oa ord.length cap) := (hg3.cell_far ⟨kb, 1, none⟩ (by simp; omega) n1).trans d1'; have f2 : w3.frozen? ⟨kb, 1, none⟩ = false := (hg3.frozen_far ⟨kb, 1, none⟩ (by simp; omega) n1).trans d2'))
    have FIN := kns_step HH.out ha HC.out hown2 hg2 hown3 hg3 hat
    clear hown2 hg2 hown3 hg3 hat OWN r2 d1 d1' d2' hrun hlk0
    go_wp2
    go_ret2
    refine ⟨_, _, ?_, FIN.1, FIN.2⟩
    rw [HX.out]; rfl
  · have hm : a ∈ ord := by simpa using hcon
    have HA : Hid (addS ord a = ord) := by show (if ord.contains a then ord else _) = ord; rw [if_pos hcon]
    have HX : Hid (v = (ord.idxOf a : Int)) := by
      have := HH.out.val a ha hm
      rw [hat0] at this
      show v = (ord.idxOf a : Int)
      simpa using this
    rw [hcon] at hlk0
    clear hcon h hat0 hm
    go_enter Try.func25, Try.ntmps25
    go_wp2
    go_ret2
    refine ⟨.slice oa ord.length cap, D, ?_, ?_, Kept.refl _ _⟩
    · rw [HA.out, ← HX.out]; rfl
    · rw [HA.out]; exact HH.out

end Go.Proofs.Ytokfbajlcmadfaa
