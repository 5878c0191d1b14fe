/-
  What is known so far, of numbers: a map from numbers to their places, and the numbers in their order.
-/
import Derived.Test.YtpbpbppimkeodaaGreatDoorKnown
namespace Go.Proofs.YtpbpbppimkeodaaGreatDoor
open Go.RowKit Go.Maps

theorem Tryz.law3 : Keyed Tryz.prog 3 := int_keyed Tryz.underlying3

theorem key_int {a : Nat} (ha : a < 4611686018427387904) : keyOf Tryz.prog 3 (.int .i64 (a : Int)) = some (.int .i64 (a : Int)) := keyOf_int_mk Tryz.underlying3 (WalkArith.wf_i64 (by omega))

/-- A number that is come to: known, or the next. -/
def addI (ord : List Nat) (a : Nat) : List Nat := if ord.contains a then ord else ord ++ [a]

def icells (ord : List Nat) : List Value := ord.map fun a : Nat => .int .i64 (a : Int)

structure KnI (w : World) (kb mb : Nat) (ov : Value) (D : DataW Unit) (ord : List Nat) (keep : Nat → Prop) : Prop where
  row : w.rowIs kb 134 2 (v2 (.map (some mb)) ov)
  mlt : mb < kb
  map : w.ownsMap Tryz.prog 3 (plainElem Tryz.prog 3) mb ord.length D
  has : ∀ a : Nat, a < 4611686018427387904 → Maps.has D (.int .i64 (a : Int)) = ord.contains a
  val : ∀ a : Nat, a < 4611686018427387904 → a ∈ ord → D.atKey (.int .i64 (a : Int)) (.lit (.int .i64 0)) = .lit (.int .i64 (ord.idxOf a : Int))
  own : w.ownsRow (kb + 1) 3 1 ov ord.length (icells ord)
  far : ∀ k, keep k → k < w.heap.size ∧ k ≠ kb ∧ k ≠ mb ∧ some k ≠ ov.ownBlock

set_option maxHeartbeats 1000000 in
theorem c68 (w : World) (keep : Nat → Prop) (hk : ∀ k, keep k → k < w.heap.size) :
    Calls Tryz.prog 78 #[] w fun e w' => e = .returned (.pointer (some ⟨w.heap.size + 1, 0, none⟩)) ∧ KnI w' (w.heap.size + 1) w.heap.size (.slice none 0 0) (.map []) [] keep ∧ Kept keep w w' := by
  have hmm := @run_makeMap Tryz.prog
  go_enter Tryz.func78, Tryz.ntmps78
  go_wp2
  go_ret
  have R := row2 (w.alloc (.map #[] 0)) (.map (some w.heap.size)) (.slice none 0 0) 134
  simp only [World.size_alloc] at R
  refine ⟨rfl, ⟨R, by omega, (World.ownsMap_made w Tryz.prog 3 (plainElem Tryz.prog 3)).alloc _, fun a _ => rfl, fun a _ h => by simp at h, World.ownsRow_nil _ _ _ _, fun k h => ?_⟩, ?_⟩
  · have := hk k h
    exact ⟨by simp; omega, by omega, by omega, by simp [Value.ownBlock]⟩
  · have := bel2 w (.map #[] 0) (.cells #[.map (some w.heap.size), .slice none 0 0] 134)
    exact ⟨this.os, this.tape, this.output, this.size, fun k h => this.block k (hk k h)⟩

theorem look_int {w : World} {mb n : Nat} {D : DataW Unit} {a : Nat} (h : w.ownsMap Tryz.prog 3 (plainElem Tryz.prog 3) mb n D) (ha : a < 4611686018427387904) :
    ∃ v : Int, (∀ m, (Instr.lookup 132 (.map (some mb)) (.int .i64 (a : Int)) true).run Tryz.prog (w.drewN m) = .ok (.tuple #[.int .i64 v, .bool (Maps.has D (.int .i64 (a : Int)))]) (w.drewN m)) ∧ D.atKey (.int .i64 (a : Int)) (.lit (.int .i64 0)) = .lit (.int .i64 v) := by
  have hz : plainElem (H := Unit) Tryz.prog 3 (.int .i64 0) = some (.lit (.int .i64 0), []) := plainElem_int Tryz.underlying3 (by decide)
  have each : ∀ m, ∃ v : Int, (Instr.lookup 132 (.map (some mb)) (.int .i64 (a : Int)) true).run Tryz.prog (w.drewN m) = .ok (.tuple #[.int .i64 v, .bool (Maps.has D (.int .i64 (a : Int)))]) (w.drewN m) ∧ D.atKey (.int .i64 (a : Int)) (.lit (.int .i64 0)) = .lit (.int .i64 v) := fun m => by
    have h' : (w.drewN m).ownsMap Tryz.prog 3 (plainElem Tryz.prog 3) mb n D := h
    obtain ⟨v, ps, hrun, hR⟩ := h'.look_ok Tryz.law3 Tryz.underlying132 (Tryz.zero3 _) hz (key_int ha)
    obtain ⟨x, rfl, hx, _⟩ := plainElem_int_inv Tryz.underlying3 hR
    simp only [Prod.mk.injEq] at hx
    exact ⟨x, hrun, hx.1⟩
  obtain ⟨v, _, hv⟩ := each 0
  refine ⟨v, fun m => ?_, hv⟩
  obtain ⟨v', hrun, hv'⟩ := each m
  rw [hv] at hv'
  simp only [DataW.lit.injEq, Lit.int.injEq, true_and] at hv'
  rw [hv']; exact hrun

theorem icells_snoc (ord : List Nat) (a : Nat) : icells (ord ++ [a]) = icells ord ++ [.int .i64 (a : Int)] := by simp [icells]

theorem kni_step {w w2 w3 : World} {kb mb : Nat} {oa : Option Addr} {cap gg cap3 : Nat} {D : DataW Unit} {ord : List Nat} {keep : Nat → Prop} {a : Nat} {o2 : Obj}
    (h : KnI w kb mb (.slice oa ord.length cap) D ord keep) (ha : a < 4611686018427387904) (hc : ord.contains a = false)
    (hown2 : w2.ownsMap Tryz.prog 3 (plainElem Tryz.prog 3) mb (ord.length + 1) (D.put (.int .i64 (a : Int)) (.lit (.int .i64 (ord.length : Int))))) (hg2 : w.grownBy w2 (some mb))
    (hown3 : w3.ownsRow (kb + 1) 3 1 (.slice (some ⟨gg, 0, none⟩) (ord.length + 1) cap3) (ord.length + 1) (icells ord ++ [.int .i64 (a : Int)]))
    (hg3 : (w2.alloc o2).grownBy w3 (Value.slice oa ord.length cap).ownBlock) (hat : (Value.slice oa ord.length cap).ownBlock = some gg ∨ gg = w2.heap.size + 1) :
    KnI (w3.setCell ⟨kb, 1, none⟩ (.slice (some ⟨gg, 0, none⟩) (ord.length + 1) cap3)) kb mb (.slice (some ⟨gg, 0, none⟩) (ord.length + 1) cap3) (D.put (.int .i64 (a : Int)) (.lit (.int .i64 (ord.length : Int)))) (addI ord a) keep ∧
    Kept keep w (w3.setCell ⟨kb, 1, none⟩ (.slice (some ⟨gg, 0, none⟩) (ord.length + 1) cap3)) := by
  have hA : addI ord a = ord ++ [a] := by unfold addI; rw [hc]; rfl
  have hna : a ∉ ord := fun hm => by rw [List.contains_iff_mem.2 hm] at hc; cases hc
  have hs2 := hg2.size
  have hs3 := hg3.size
  have e3 : (w2.alloc o2).heap.size = w2.heap.size + 1 := by simp
  have hkl := h.row.lt
  have hml := h.mlt
  have n1 : some kb ≠ (Value.slice oa ord.length cap).ownBlock := fun e => by have := (h.own.lt kb e.symm).1; omega
  have nm : some mb ≠ (Value.slice oa ord.length cap).ownBlock := fun e => by have := (h.own.lt mb e.symm).1; omega
  have b3 : ∀ k, k < w2.heap.size → some k ≠ (Value.slice oa ord.length cap).ownBlock → w3.heap[k]? = w2.heap[k]? := fun k hk hn => (hg3.block k (by rw [e3]; omega) hn).trans (Below.heap_alloc _ _ _ hk)
  have rk : w3.rowIs kb 134 2 (v2 (.map (some mb)) (.slice oa ord.length cap)) :=
    h.row.of_block ((b3 kb (by omega) n1).trans (hg2.block kb (by omega) (fun e => by cases e; omega)))
  have hne : ∀ x : Nat, x ≠ a → (Lit.int .i64 (x : Int)) ≠ Lit.int .i64 (a : Int) := fun x q e => q (by simp at e; omega)
  rw [hA]
  refine ⟨⟨(rk.set 1 _).congr (fun i hi => ?_), h.mlt, ?_, fun x hx => ?_, fun x hx hm => ?_, ?_, fun k hk => ?_⟩, ?_⟩
  · match i, hi with
    | 0, _ => rfl
    | 1, _ => rfl
  · have hm : w3.ownsMap Tryz.prog 3 (plainElem Tryz.prog 3) mb (ord.length + 1) (D.put (.int .i64 (a : Int)) (.lit (.int .i64 (ord.length : Int)))) := (hown2.alloc o2).kept hg3 nm
    have hm' := hm.setCell (a := ⟨kb, 1, none⟩) (by show mb ≠ kb; omega) (.slice (some ⟨gg, 0, none⟩) (ord.length + 1) cap3)
    simpa using hm'
  · by_cases q : x = a
    · subst q
      rw [Maps.has_put_same h.map.isMap (Tryz.law3.key (key_int hx))]
      simp
    · rw [Maps.has_put_other (hne x q), h.has x hx]
      rw [Bool.eq_iff_iff]
      simp only [List.contains_iff_mem, List.mem_append, List.mem_singleton]
      exact ⟨Or.inl, fun z => z.elim id (fun z => absurd z q)⟩
  · by_cases q : x = a
    · subst q
      rw [Maps.atKey_put_same h.map.isMap (Tryz.law3.key (key_int hx)), List.idxOf_append, if_neg hna]
      simp
    · rw [Maps.atKey_put_other (hne x q)]
      have hm' : x ∈ ord := by
        rcases List.mem_append.1 hm with z | z
        · exact z
        · simp at z; exact absurd z q
      rw [h.val x hx hm', List.idxOf_append, if_pos hm']
  · rw [icells_snoc]
    have := ownsRow_setCell_below hown3 (a := ⟨kb, 1, none⟩) (by show kb < kb + 1; omega) (.slice (some ⟨gg, 0, none⟩) (ord.length + 1) cap3)
    simpa using this
  · obtain ⟨f1, f2, f3, f4⟩ := h.far k hk
    refine ⟨by simp [World.setCell]; omega, f2, f3, ?_⟩
    rcases hat with hat | hat
    · rw [hat] at f4; simpa [Value.ownBlock] using f4
    · simp [Value.ownBlock]; omega
  · refine ⟨hg3.os.trans hg2.os, hg3.tape.trans hg2.tape, hg3.output.trans hg2.output, by simp [World.setCell]; omega, fun k hk => ?_⟩
    obtain ⟨f1, f2, f3, f4⟩ := h.far k hk
    rw [Below.heap_setCell _ _ _ _ (by show k ≠ kb; exact f2), b3 k (by omega) f4, hg2.block k f1 (fun e => by cases e; exact f3 rfl)]

set_option maxRecDepth 100000 in
set_option maxHeartbeats 4000000 in
theorem c108 (kb mb : Nat) (ov : Value) (D : DataW Unit) (ord : List Nat) (keep : Nat → Prop) (a : Nat) (w : World) (h : KnI w kb mb ov D ord keep) (ha : a < 4611686018427387904) (ho : ord.length ≤ 100000000) :
    Calls Tryz.prog 117 #[.pointer (some ⟨kb, 0, none⟩), .int .i64 (a : Int)] w fun e w' =>
      ∃ (ov' : Value) (D' : DataW Unit), e = .returned (.tuple #[.int .i64 ((addI ord a).idxOf a : Int), .bool (!ord.contains a)]) ∧ KnI w' kb mb ov' D' (addI ord a) keep ∧ Kept keep w w' := by
  obtain ⟨v, hlk, hat0⟩ := look_int h.map ha
  rw [h.has a ha] at hlk
  have hlk0 := hlk 0
  rw [World.drewN_zero] at hlk0
  obtain ⟨oa, cap, rfl⟩ := own_form h.own
  have c0 : w.cell? ⟨kb, 0, none⟩ = some (.map (some mb)) := h.row.cell (i := 0) (by omega)
  have c1 : w.cell? ⟨kb, 1, none⟩ = some (.slice oa ord.length cap) := h.row.cell (i := 1) (by omega)
  have HH : Hid (KnI w kb mb (.slice oa ord.length cap) D ord keep) := h
  have hkl := h.row.lt
  clear hlk
  cases hcon : ord.contains a
  · have HC : Hid (ord.contains a = false) := hcon
    have HX : Hid ((addI ord a).idxOf a = ord.length) := by
      have hna : a ∉ ord := fun hm => by rw [List.contains_iff_mem.2 hm] at hcon; cases hcon
      show (addI ord a).idxOf a = ord.length
      unfold addI; rw [hcon]
      simp [List.idxOf_append, hna]
    rw [hcon] at hlk0
    obtain ⟨i0, hi0, hz0, hz1, hz2⟩ := info_parts Tryz.info3
    obtain ⟨w2, hrun, hown2, hg2⟩ := h.map.update Tryz.law3 Tryz.underlying132 (by unfold maxLen; omega) (key_int ha) (plainElem_int Tryz.underlying3 (a := (ord.length : Int)) (WalkArith.wf_i64 (by omega)))
    have hml := h.mlt
    have hs2 := hg2.size
    have OWN : w2.ownsRow (kb + 1) 3 1 (.slice oa ord.length cap) ord.length (icells ord) := own_kept h.own hg2 (fun k e => by cases e; omega)
    have r2 : w2.rowIs kb 134 2 (v2 (.map (some mb)) (.slice oa ord.length cap)) := h.row.of_block (hg2.block kb hkl (fun e => by cases e; omega))
    have d1 : w2.cell? ⟨kb, 1, none⟩ = some (.slice oa ord.length cap) := r2.cell (i := 1) (by omega)
    have n1 : some kb ≠ (Value.slice oa ord.length cap).ownBlock := fun e => by have := (h.own.lt kb e.symm).1; omega
    have d1' := (r2.alloc (.cells #[.int .i64 (a : Int)] 3)).cell (i := 1) (by omega)
    have d2' := (r2.alloc (.cells #[.int .i64 (a : Int)] 3)).frozen 1
    have hbs : kb + 1 ≤ w2.heap.size := by omega
    clear hcon h hat0
    go_enter Tryz.func117, Tryz.ntmps117
    go_wp2_with (first | (at_builtin; refine wpList_append_lies _ rfl _ _ 25 rfl (kb + 1) 3 i0 (.int .i64 0) 1 8 Tryz.underlying25 hi0 hz0 hz1 hz2 rfl (by omega) (.slice oa ord.length cap) ord.length (icells ord) rfl (OWN.alloc _) ⟨w2.heap.size, 0, none⟩ 1 1 [.int .i64 (a : Int)] rfl rfl (cell_one_new _ _ _) (ints_oneCell .i64 [(a : Int)]) (by omega) (by unfold maxLen; omega) (by omega) (by simp; omega) (w2.heap.size + 1) (by simp) ?_; intro gg cap3 w3 hown3 hg3 hat hlt3; have f1 : w3.cell? ⟨kb, 1, none⟩ = some (.slice oa ord.length cap) := (hg3.cell_far ⟨kb, 1, none⟩ (by simp; omega) n1).trans d1'; have f2 : w3.frozen? ⟨kb, 1, none⟩ = false := (hg3.frozen_far ⟨kb, 1, none⟩ (by simp; omega) n1).trans d2'))
    have FIN := kni_step HH.out ha HC.out hown2 hg2 hown3 hg3 hat
    clear hown2 hg2 hown3 hg3 hat OWN r2 d1 d1' d2' hrun hlk0
    go_wp2
    go_ret2
    refine ⟨_, _, ?_, FIN.1, FIN.2⟩
    rw [HX.out]; rfl
  · have hm : a ∈ ord := by simpa using hcon
    have HA : Hid (addI ord a = ord) := by show (if ord.contains a then ord else _) = ord; rw [if_pos hcon]
    have HX : Hid (v = (ord.idxOf a : Int)) := by
      have := HH.out.val a ha hm
      rw [hat0] at this
      show v = (ord.idxOf a : Int)
      simpa using this
    rw [hcon] at hlk0
    clear hcon h hat0 hm
    go_enter Tryz.func117, Tryz.ntmps117
    go_wp2
    go_ret2
    refine ⟨.slice oa ord.length cap, D, ?_, ?_, Kept.refl _ _⟩
    · rw [HA.out, ← HX.out]; rfl
    · rw [HA.out]; exact HH.out

end Go.Proofs.YtpbpbppimkeodaaGreatDoor
