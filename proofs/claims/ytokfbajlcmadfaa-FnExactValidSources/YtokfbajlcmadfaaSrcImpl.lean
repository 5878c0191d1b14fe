/-
  Sources: the contract of the program's own ValidSources.
-/
import Derived.Test.YtokfbajlcmadfaaKnownStr
import Derived.Test.YtokfbajlcmadfaaNames2
namespace Go.Proofs.Ytokfbajlcmadfaa
open Go.RowKit

theorem KnS.box {w : World} {kb mb : Nat} {ov : Value} {D : DataW Unit} {ord : List (List UInt8)} {keep : Nat → Prop} (h : KnS w kb mb ov D ord keep) (o : Obj) :
    KnS (w.alloc o) kb mb ov D ord (fun k => keep k ∨ k = w.heap.size) := by
  have hk := h.row.lt
  have hm := h.mlt
  refine ⟨h.row.alloc _, h.mlt, h.map.alloc _, h.has, h.val, h.own.alloc _, fun k hk' => ?_⟩
  rcases hk' with hk' | rfl
  · obtain ⟨f1, f2, f3, f4⟩ := h.far k hk'
    exact ⟨by simp; omega, f2, f3, f4⟩
  · exact ⟨by simp, by omega, by omega, fun e => by have := (h.own.lt _ e.symm).2; omega⟩

theorem KnS.less {w : World} {kb mb : Nat} {ov : Value} {D : DataW Unit} {ord : List (List UInt8)} {keep keep' : Nat → Prop} (h : KnS w kb mb ov D ord keep) (hk : ∀ k, keep' k → keep k) : KnS w kb mb ov D ord keep' :=
  ⟨h.row, h.mlt, h.map, h.has, h.val, h.own, fun k x => h.far k (hk k x)⟩

theorem Kept.less {keep keep' : Nat → Prop} {w w' : World} (h : Kept keep w w') (hk : ∀ k, keep' k → keep k) : Kept keep' w w' := ⟨h.os, h.tape, h.output, h.size, fun k x => h.block k (hk k x)⟩

theorem Kept.toBelow {w w' : World} (h : Kept (fun k => k < w.heap.size) w w') : Below w.heap.size w w' := ⟨h.os, h.tape, h.output, h.size, fun k x => h.block k x⟩

/-- The names of the first k sources. -/
def nml (S : Nat → ByteArray) (k : Nat) : List (List UInt8) := (List.range k).map fun i => (S i).data.toList

theorem nml_length (S : Nat → ByteArray) (k : Nat) : (nml S k).length = k := by simp [nml]
theorem nml_yes {S : Nat → ByteArray} {k : Nat} (h : (nml S k).contains (S k).data.toList = true) : ∃ j, j < k ∧ (S k).toList = (S j).toList := by
  simp only [nml, List.contains_iff_mem, List.mem_map, List.mem_range] at h
  obtain ⟨j, hj, e⟩ := h
  exact ⟨j, hj, by rw [ByteArray.toList_eq, ByteArray.toList_eq, e]⟩
theorem nml_no {S : Nat → ByteArray} {k : Nat} (h : (nml S k).contains (S k).data.toList = false) : ∀ j, j < k → (S k).toList ≠ (S j).toList := by
  intro j hj e
  rw [ByteArray.toList_eq, ByteArray.toList_eq] at e
  have : (nml S k).contains (S k).data.toList = true := by
    simp only [nml, List.contains_iff_mem, List.mem_map, List.mem_range]
    exact ⟨j, hj, e.symm⟩
  rw [this] at h; cases h
theorem nml_next {S : Nat → ByteArray} {k : Nat} (h : (nml S k).contains (S k).data.toList = false) : addS (nml S k) (S k).data.toList = nml S (k + 1) := by
  unfold addS; rw [h]; simp [nml, List.range_succ]

set_option maxHeartbeats 4000000 in
theorem c7 (ao : Option Addr) (b o n c : Nat) (S T : Nat → ByteArray) (w : World) (h1 : SrcsAt w ao b o n S T) (hS : ∀ i, i < n → (S i).size ≤ 1048576) :
    Calls Try.prog 9 #[.slice ao n c] w fun e w' => e = .returned (.bool (vsr n S T)) ∧ Below w.heap.size w w' := by
  have hlen := h1.len
  have A1 := h1.at_
  have HB : Hid (∀ w', Below w.heap.size w w' → SrcsAt w' ao b o n S T) := fun w' hb => h1.below hb
  have HS : Hid (∀ i, i < n → (S i).size ≤ 1048576) := hS
  clear h1 hS
  by_cases hbig : 8 < n
  · have HV : Hid (vsr n S T = false) := vsr_big hbig
    go_enter Try.func9, Try.ntmps9
    go_wp2
    go_ret
    exact ⟨ret_bool HV.out.symm, Below.refl _ _⟩
  go_enter Try.func9, Try.ntmps9
  go_wp2_with fail
  refine (c12 w (fun k => k < w.heap.size) (fun _ h => h)).mono ?_
  rintro e w1 ⟨rfl, hK, hKe⟩
  have HK : Hid (KnS w1 (w.heap.size + 1) w.heap.size (.slice none 0 0) (.map []) [] (fun k => k < w.heap.size) ∧ Kept (fun k => k < w.heap.size) w w1) := ⟨hK, hKe⟩
  clear hK hKe
  go_wp2
  go_loopw [14] (fun i wr => ∃ (k : Nat) (ov : Value) (D : DataW Unit), k ≤ n ∧ i = .int .i64 k ∧ Hid (KnS wr (w.heap.size + 1) w.heap.size ov D (nml S k) (fun k => k < w.heap.size) ∧ Kept (fun k => k < w.heap.size) w wr) ∧ Hid (∀ j, j < k → sok S T j = true)) (fun i _ => n - (intOf i).toNat)
  case atStart => exact ⟨0, _, _, Nat.zero_le _, rfl, HK, fun j h => absurd h (Nat.not_lt_zero _)⟩
  case round =>
    clear HK
    obtain ⟨k, ov, D, hk, rfl, HK, HA⟩ := hrel
    by_cases hlt : k < n
    · have e1 := A1 (by omega)
      have q1 := HB.out wr HK.out.2.toBelow
      have g0 := q1.c0 k hlt
      have g1 := q1.c1 k hlt
      have z0 := HS.out k hlt
      have z1 := q1.sizeT k hlt
      clear q1
      subst e1
      go_wp2_with fail
      have hka := HK.out.1.box (.cells #[.string (S k), .string (T k)] 48)
      have hz0 : (S k).data.toList.length = (S k).size := rfl
      refine (c13 (w.heap.size + 1) w.heap.size ov D (nml S k) _ (S k).data.toList _ hka (by unfold maxLen; omega) (by rw [nml_length]; omega)).mono ?_
      rintro e w2 ⟨ov2, D2, rfl, hK2, hKe2⟩
      have r0 := row2 wr (.string (S k)) (.string (T k)) 48
      have r1 := r0.of_block (hKe2.block wr.heap.size (Or.inr rfl))
      have d0 : w2.cell? ⟨wr.heap.size, 0, none⟩ = some (.string (S k)) := r1.cell (i := 0) (by omega)
      have d1 : w2.cell? ⟨wr.heap.size, 1, none⟩ = some (.string (T k)) := r1.cell (i := 1) (by omega)
      have B0 : Kept (fun k => k < w.heap.size) wr (wr.alloc (.cells #[.string (S k), .string (T k)] 48)) := ⟨rfl, rfl, rfl, by simp, fun i hi => Below.heap_alloc _ _ _ (by have := HK.out.2.size; omega)⟩
      have HE : Hid (Kept (fun k => k < w.heap.size) w w2) := (HK.out.2.trans B0).trans (hKe2.less (fun _ h => Or.inl h))
      have HK2 : Hid (KnS w2 (w.heap.size + 1) w.heap.size ov2 D2 (addS (nml S k) (S k).data.toList) (fun k => k < w.heap.size)) := hK2.less (fun _ h => Or.inl h)
      clear hka hK2 hKe2 r0 r1 B0
      cases hc : (nml S k).contains (S k).data.toList
      case true =>
        have HF : Hid (vsr n S T = false) := by
          obtain ⟨j, hj, e⟩ := nml_yes hc
          exact vsr_no k hlt (sok_twice j hj e)
        go_wp2
        go_ret
        exact ⟨ret_bool HF.out.symm, HE.out.toBelow⟩
      case false =>
        have HC : Hid ((nml S k).contains (S k).data.toList = false) := hc
        cases hg : gn (S k)
        · have HF : Hid (vsr n S T = false) := vsr_no k hlt (sok_name hg)
          go_wp2_with (go_at_call 26; refine (c14 _ _ (by omega)).mono ?_; rintro e w' ⟨rfl, rfl⟩)
          go_ret
          exact ⟨ret_bool HF.out.symm, HE.out.toBelow⟩
        by_cases ht : 1000 < (T k).size
        · have HF : Hid (vsr n S T = false) := vsr_no k hlt (sok_text ht)
          go_wp2_with (go_at_call 26; refine (c14 _ _ (by omega)).mono ?_; rintro e w' ⟨rfl, rfl⟩)
          go_ret
          exact ⟨ret_bool HF.out.symm, HE.out.toBelow⟩
        have HJ : Hid (sok S T k = true) := sok_yes hg (by omega) (nml_no HC.out)
        go_wp2_with (go_at_call 26; refine (c14 _ _ (by omega)).mono ?_; rintro e w' ⟨rfl, rfl⟩)
        go_roundw
        case rel => exact ⟨k + 1, ov2, D2, by omega, by go_num, ⟨by rw [← nml_next HC.out]; exact HK2.out, HE.out⟩, fun j hj => by
          by_cases e : j = k
          · subst e; exact HJ.out
          · exact HA.out j (by omega)⟩
        case measure => simp [intOf]; omega
    · have HF : Hid (vsr n S T = true) := vsr_yes (by omega) (fun j hj => HA.out j (by omega))
      have HE : Hid (Below w.heap.size w wr) := HK.out.2.toBelow
      go_wp2
      go_ret
      exact ⟨ret_bool HF.out.symm, HE.out⟩

end Go.Proofs.Ytokfbajlcmadfaa
