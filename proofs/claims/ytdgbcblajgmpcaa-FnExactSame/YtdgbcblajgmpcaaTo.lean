/-
  The contracts of the functions that copy.
-/
import Derived.Test.YtdgbcblajgmpcaaEq
import Derived.Deep.LoopGhost
import Derived.Deep.OwnRows
namespace Go.Proofs.Ytdgbcblajgmpcaa
open Go.RowKit

theorem Try.info3 : (Try.prog.info? 3).map (fun i => (i.zero, i.size, i.bytes)) = some (some (.int .i64 0), 1, 8) := by kernel_rfl
theorem Try.info9 : (Try.prog.info? 9).map (fun i => (i.zero, i.size, i.bytes)) = some (some (.string ByteArray.empty), 1, 16) := by kernel_rfl

/-- A row of the call's own, its first k cells filled. -/
structure Fill (w wr : World) (t : TypeId) (n k : Nat) (f : Nat → Value) (z : Value) : Prop where
  below : Below w.heap.size w wr
  row : wr.rowIs w.heap.size t n (fun i => if i < k then f i else z)

theorem fill_start (w : World) (t : TypeId) (n : Nat) (f : Nat → Value) (z : Value) : Fill w (w.alloc (.cells (madeCells #[z] n) t)) t n 0 f z :=
  ⟨bel1 w _, (World.rowIs_made w z n t).congr (fun i _ => by simp)⟩

theorem fill_step {w wr : World} {t : TypeId} {n k : Nat} {f : Nat → Value} {z : Value} (h : Fill w wr t n k f z) : Fill w (wr.setCell ⟨w.heap.size, k, none⟩ (f k)) t n (k + 1) f z :=
  ⟨h.below.setCell (Nat.le_refl _) _, (h.row.set k _).congr (fun i _ => by
    by_cases e : i = k
    · subst e; simp
    · rw [if_neg e]
      by_cases hlt : i < k
      · rw [if_pos hlt, if_pos (by omega)]
      · rw [if_neg hlt, if_neg (by omega)])⟩

set_option maxHeartbeats 1000000 in
theorem c35 (ao : Option Addr) (b o n c : Nat) (D : Nat → Int) (w : World) (h1 : IntsAt w ao b o n D) (hn : n ≤ 1048576) :
    Calls Try.prog 35 #[.slice ao n c] w fun e w' => e = .returned (.slice (some ⟨w.heap.size, 0, none⟩) n n) ∧ IntsAt w' (some ⟨w.heap.size, 0, none⟩) w.heap.size 0 n D ∧ Below w.heap.size w w' ∧ w.heap.size < w'.heap.size := by
  have hmk := run_make_row' (P := Try.prog) 36 3 (.int .i64 0) 8 Try.underlying36 Try.info3 rfl .i64 .i64 n (by omega) (by omega)
  go_enter Try.func35, Try.ntmps35
  go_wp2
  clear hmk
  go_loopw [4] (fun i wr => ∃ k : Nat, k ≤ n ∧ i = .int .i64 k ∧ Fill w wr 3 n k (fun i => .int .i64 (D i)) (.int .i64 0)) (fun i _ => n - (intOf i).toNat)
  case atStart => exact ⟨0, Nat.zero_le _, rfl, fill_start _ _ _ _ _⟩
  case round =>
    obtain ⟨k, hk, rfl, hF⟩ := hrel
    by_cases hlt : k < n
    · have e1 := h1.at_ (by omega)
      have g1 := (h1.below hF.below).cell k hlt
      have s1 := hF.row.cell hlt
      have s2 := hF.row.frozen k
      simp only [Nat.lt_irrefl, if_false] at s1
      have HN := fill_step hF
      clear hF
      subst e1
      go_wp2
      go_roundw
      case rel => exact ⟨k + 1, by omega, by go_num, HN⟩
      case measure => simp [intOf]; omega
    · have hkn : k = n := by omega
      subst hkn
      have HE : Hid (IntsAt wr (some ⟨w.heap.size, 0, none⟩) w.heap.size 0 k D ∧ Below w.heap.size w wr ∧ w.heap.size < wr.heap.size) :=
        ⟨⟨fun _ => rfl, fun i hi => by rw [Nat.zero_add, hF.row.cell hi, if_pos hi], by omega⟩, hF.below, hF.row.lt⟩
      clear hF
      go_wp2
      go_ret
      exact ⟨rfl, HE.out⟩

set_option maxHeartbeats 1000000 in
theorem c34 (ao : Option Addr) (b o n c : Nat) (S : Nat → ByteArray) (w : World) (h1 : StrsAt w ao b o n S) (hn : n ≤ 1048576) :
    Calls Try.prog 34 #[.slice ao n c] w fun e w' => e = .returned (.slice (some ⟨w.heap.size, 0, none⟩) n n) ∧ StrsAt w' (some ⟨w.heap.size, 0, none⟩) w.heap.size 0 n S ∧ Below w.heap.size w w' ∧ w.heap.size < w'.heap.size := by
  have hmk := run_make_row' (P := Try.prog) 49 9 (.string ByteArray.empty) 16 Try.underlying49 Try.info9 rfl .i64 .i64 n (by omega) (by omega)
  have HS : Hid (∀ i, i < n → (S i).size ≤ 9223372036854775807) := h1.size
  go_enter Try.func34, Try.ntmps34
  go_wp2
  clear hmk
  go_loopw [4] (fun i wr => ∃ k : Nat, k ≤ n ∧ i = .int .i64 k ∧ Fill w wr 9 n k (fun i => .string (S i)) (.string ByteArray.empty)) (fun i _ => n - (intOf i).toNat)
  case atStart => exact ⟨0, Nat.zero_le _, rfl, fill_start _ _ _ _ _⟩
  case round =>
    obtain ⟨k, hk, rfl, hF⟩ := hrel
    by_cases hlt : k < n
    · have e1 := h1.at_ (by omega)
      have g1 := (h1.below hF.below).cell k hlt
      have s1 := hF.row.cell hlt
      have s2 := hF.row.frozen k
      simp only [Nat.lt_irrefl, if_false] at s1
      have HN := fill_step hF
      clear hF
      subst e1
      go_wp2
      go_roundw
      case rel => exact ⟨k + 1, by omega, by go_num, HN⟩
      case measure => simp [intOf]; omega
    · have hkn : k = n := by omega
      subst hkn
      have HE : Hid (StrsAt wr (some ⟨w.heap.size, 0, none⟩) w.heap.size 0 k S ∧ Below w.heap.size w wr ∧ w.heap.size < wr.heap.size) :=
        ⟨⟨fun _ => rfl, fun i hi => by rw [Nat.zero_add, hF.row.cell hi, if_pos hi], HS.out, by omega⟩, hF.below, hF.row.lt⟩
      clear hF
      go_wp2
      go_ret
      exact ⟨rfl, HE.out⟩

end Go.Proofs.Ytdgbcblajgmpcaa
