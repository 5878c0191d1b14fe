/-
  The law's marks: texts of numbers.
-/
import Derived.Test.YthbdomniookmbaaTokens
import Derived.Laws.BytesString
namespace Go.Proofs.Ythbdomniookmbaa
open Go.RowKit

/-- The digits of a number, ahead of what is there. -/
def mdig (k : Nat) (acc : List UInt8) : List UInt8 := if k = 0 then acc else mdig (k / 10) (UInt8.ofNat (48 + k % 10) :: acc)
termination_by k
decreasing_by omega
theorem mdig_zero (acc : List UInt8) : mdig 0 acc = acc := by rw [mdig, if_pos rfl]
theorem mdig_step {k : Nat} (h : k ≠ 0) (acc : List UInt8) : mdig k acc = mdig (k / 10) (UInt8.ofNat (48 + k % 10) :: acc) := by
  rw [mdig, if_neg h]

/-- The text that marks a number above 0. -/
def mt (k : Nat) : ByteArray := ⟨(109 :: mdig k []).toArray⟩

theorem conv_one (W : World) (n : Int) : (convert 57 9 (.slice (some ⟨W.heap.size, 0, none⟩) 1 1)).run Try.prog (W.alloc (.cells #[.int .u8 n] 5)) = .ok (.string ⟨#[UInt8.ofNat n.toNat]⟩) (W.alloc (.cells #[.int .u8 n] 5)) := by
  rw [run_convert_bytes_string _ 57 9 5 _ 1 1 Try.underlying57 Try.underlying5 Try.underlying9]
  have := run_bytesToString (P := Try.prog) (W.alloc (.cells #[.int .u8 n] 5)) ⟨W.heap.size, 0, none⟩ 1 1 [n] (run_loadCells_list _ ⟨W.heap.size, 0, none⟩ [.int .u8 n] (cell_one_new W (.int .u8 n) 5))
  exact this

set_option maxRecDepth 100000 in
set_option maxHeartbeats 2000000 in
theorem c23 (k : Nat) (w : World) (hk : 0 < k) (hk2 : k ≤ 1000000) :
    Calls Try.prog 23 #[.int .i64 (k : Int)] w fun e w' => e = .returned (.string (mt k)) ∧ Below w.heap.size w w' := by
  have h0 : ¬ (k : Int) ≤ 0 := by omega
  go_enter Try.func23, Try.ntmps23
  go_wp2
  go_loopw [3, 0] (fun o i wr => ∃ (j : Nat) (acc : ByteArray), i = .int .i64 j ∧ o = .string acc ∧ Hid (mdig j acc.data.toList = mdig k []) ∧ acc.size + j ≤ k ∧ Below w.heap.size w wr) (fun _ i _ => (intOf i).toNat)
  case atStart => exact ⟨k, ⟨#[]⟩, rfl, rfl, by show _ = _; rfl, by show 0 + k ≤ k; omega, Below.refl _ _⟩
  case round =>
    obtain ⟨j, acc, rfl, rfl, HM, hsz, hb⟩ := hrel
    by_cases hlt : 0 < j
    · have hlt' : (0 : Int) < (j : Int) := by omega
      have hcv := conv_one wr (48 + (j : Int) % 10)
      obtain ⟨sx, hsx⟩ : ∃ sx : ByteArray, sx = ⟨#[UInt8.ofNat (48 + (j : Int) % 10).toNat]⟩ := ⟨_, rfl⟩
      rw [← hsx] at hcv
      have hq : (j : Int).tdiv 10 = ((j / 10 : Nat) : Int) := by rw [Int.tdiv_eq_ediv_of_nonneg (by omega)]; omega
      have hq2 : IntKind.i64.wrap ((j / 10 : Nat) : Int) = ((j / 10 : Nat) : Int) := by rw [IntKind.wrap_i64]; omega
      have HN : Hid (mdig (j / 10) (sx ++ acc).data.toList = mdig k []) := by
        show _ = _
        rw [← HM.out, mdig_step (k := j) (by omega), hsx]
        have : (48 + (j : Int) % 10).toNat = 48 + j % 10 := by omega
        rw [this]
        simp [ByteArray.data_append]
      have one : sx.size = 1 := by rw [hsx]; rfl
      have hsz2 : (sx ++ acc).size = 1 + acc.size := by
        rw [ByteArray.size_append, one]
      have hadd := fun W => run_string_add_sum (P := Try.prog) (w := W) sx acc (by rw [one]; omega)
      clear hsx
      go_wp2
      go_roundw
      case rel => exact ⟨j / 10, _, by first | rfl | (rw [hq, hq2]) | simp, rfl, HN, by omega, hb.alloc hb.size _⟩
      case measure => simp [intOf]; omega
    · have hj : j = 0 := by omega
      subst hj
      have HE : Hid (mt k = (⟨#[109]⟩ : ByteArray) ++ acc) := by
        show _ = _
        have := HM.out
        rw [mdig_zero] at this
        unfold mt
        rw [← this]
        apply ByteArray.ext
        simp [ByteArray.data_append]
      go_wp2
      go_ret
      exact ⟨by rw [HE.out]; rfl, hb⟩

end Go.Proofs.Ythbdomniookmbaa
