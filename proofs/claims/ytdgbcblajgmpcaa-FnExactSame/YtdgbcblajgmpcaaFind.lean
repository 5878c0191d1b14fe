/-
  The leaders in memory; counting up; equal names.
-/
import Derived.Test.YtdgbcblajgmpcaaKnown
import Derived.Test.YtdgbcblajgmpcaaSame
import Derived.BigRegion
namespace Go.Proofs.Ytdgbcblajgmpcaa
open Go.RowKit

set_option maxHeartbeats 1000000 in
theorem c16 (n : Nat) (w : World) (hn : n ≤ 1048576) :
    Calls Try.prog 16 #[.int .i64 (n : Int)] w fun e w' => e = .returned (.slice (some ⟨w.heap.size, 0, none⟩) n n) ∧ Fill w w' 3 n n (fun i => .int .i64 (i : Int)) (.int .i64 0) := by
  have hmk := run_make_row' (P := Try.prog) 36 3 (.int .i64 0) 8 Try.underlying36 Try.info3 rfl .i64 .i64 n (by omega) (by omega)
  go_enter Try.func16, Try.ntmps16
  go_wp2
  clear hmk
  go_loopw [9] (fun i wr => ∃ k : Nat, k ≤ n ∧ i = .int .i64 k ∧ Fill w wr 3 n k (fun i => .int .i64 (i : Int)) (.int .i64 0)) (fun i _ => n - (intOf i).toNat)
  case atStart => exact ⟨0, Nat.zero_le _, rfl, fill_start _ _ _ _ _⟩
  case round =>
    obtain ⟨k, hk, rfl, hF⟩ := hrel
    by_cases hlt : k < n
    · have s1 := hF.row.cell hlt
      have s2 := hF.row.frozen k
      simp only [Nat.lt_irrefl, if_false] at s1
      have HN := fill_step hF
      clear hF
      go_wp2
      go_roundw
      case rel => exact ⟨k + 1, by omega, by go_num, HN⟩
      case measure => simp [intOf]; omega
    · have hkn : k = n := by omega
      subst hkn
      go_wp2
      go_ret
      exact ⟨rfl, hF⟩

/-- Equal lists of texts. -/
def eqs (n n' : Nat) (S T : Nat → ByteArray) : Bool := decide (n = n') && allTo n fun i => (S i).data.toList == (T i).data.toList

theorem eqs_iff {n n' : Nat} {S T : Nat → ByteArray} : eqs n n' S T = true ↔ n = n' ∧ ∀ i, i < n → S i = T i := by
  unfold eqs
  rw [Bool.and_eq_true, decide_eq_true_eq]
  refine and_congr Iff.rfl ⟨fun h i hi => ?_, fun h => allTo_true (fun i hi => by rw [h i hi]; simp)⟩
  have := allTo_at h hi
  simp only [beq_iff_eq] at this
  exact Go.WideShapes.bytes_inj this
theorem eqs_no {n n' : Nat} {S T : Nat → ByteArray} (h : ¬ (n = n' ∧ ∀ i, i < n → S i = T i)) : eqs n n' S T = false := by
  cases e : eqs n n' S T
  · rfl
  · exact absurd (eqs_iff.1 e) h

set_option maxHeartbeats 2000000 in
theorem c28 (ao ao' : Option Addr) (b o c b' o' c' n n' : Nat) (S T : Nat → ByteArray) (w : World) (h1 : StrsAt w ao b o n S) (h2 : StrsAt w ao' b' o' n' T) :
    Calls Try.prog 28 #[.slice ao n c, .slice ao' n' c'] w fun e w' => e = .returned (.bool (eqs n n' S T)) ∧ ∃ k, w' = w.drewN k := by
  have hlen := h1.len
  have hlen' := h2.len
  by_cases hn : n = n'
  case neg =>
    have bn : ((n : Int) != (n' : Int)) = true := by rw [bne_iff_ne]; omega
    have HF : Hid (eqs n n' S T = false) := eqs_no (fun h => hn h.1)
    clear hn
    go_enter Try.func28, Try.ntmps28
    go_wp2
    go_ret
    exact ⟨ret_bool HF.out.symm, 0, rfl⟩
  subst hn
  go_enter Try.func28, Try.ntmps28
  go_wp2
  go_loopw [13] (fun i wr => ∃ k : Nat, k ≤ n ∧ i = .int .i64 k ∧ Hid (∀ j, j < k → S j = T j) ∧ ∃ m, wr = w.drewN m) (fun i _ => n - (intOf i).toNat)
  case atStart => exact ⟨0, Nat.zero_le _, rfl, fun j h => absurd h (Nat.not_lt_zero _), 0, rfl⟩
  case round =>
    obtain ⟨k, hk, rfl, HA, m, rfl⟩ := hrel
    by_cases hlt : k < n
    · have e1 := h1.at_ (by omega)
      have e2 := h2.at_ (by omega)
      have g1 := h1.cell k hlt
      have g2 := h2.cell k hlt
      subst e1 e2
      by_cases hs : S k = T k
      · have HS : Hid (S k = T k) := hs
        have bs : ((S k).toList == (T k).toList) = true := by rw [hs]; simp
        clear hs
        go_wp2
        go_quiet (fail)
        go_wp2
        go_roundw
        case rel => exact ⟨k + 1, by omega, by go_num, fun j hj => by
          by_cases e : j = k
          · subst e; exact HS.out
          · exact HA.out j (by omega), _, rfl⟩
        case measure => simp [intOf]; omega
      · have HF : Hid (eqs n n S T = false) := eqs_no (fun h => hs (h.2 k hlt))
        have bs : ((S k).toList == (T k).toList) = false := by
          rw [beq_eq_false_iff_ne, ByteArray.toList_eq, ByteArray.toList_eq]
          exact fun e => hs (Go.WideShapes.bytes_inj e)
        clear hs
        go_wp2
        go_quiet (fail)
        go_wp2
        go_ret
        exact ⟨ret_bool HF.out.symm, _, by rw [World.drewN_drewN]⟩
    · have HT : Hid (eqs n n S T = true) := eqs_iff.2 ⟨rfl, fun i hi => HA.out i (by omega)⟩
      go_wp2
      go_ret
      exact ⟨ret_bool HT.out.symm, _, rfl⟩

/-- The leaders at lb, under the struct at M. -/
structure Lead (w : World) (M lb N : Nat) (L : Nat → Nat) : Prop where
  head : w.cell? ⟨M, 1, none⟩ = some (.slice (some ⟨lb, 0, none⟩) N N)
  row : w.rowIs lb 3 N (fun i => .int .i64 (L i : Int))
  ne : M ≠ lb

theorem Lead.put {w : World} {M lb N : Nat} {L : Nat → Nat} (h : Lead w M lb N L) (n v : Nat) : Lead (w.setCell ⟨lb, n, none⟩ (.int .i64 (v : Int))) M lb N (fun x => if x = n then v else L x) := by
  refine ⟨?_, (h.row.set n _).congr (fun i _ => ?_), h.ne⟩
  · rw [World.cell?_setCell_other _ _ _ _ (fun e => h.ne (by have := congrArg Addr.block e; first | exact this | exact this.symm))]; exact h.head
  · by_cases e : i = n
    · rw [if_pos e, if_pos e]
    · rw [if_neg e, if_neg e]

theorem Kept.put {keep : Nat → Prop} {a w : World} {lb n : Nat} {v : Value} (h : Kept keep a w) (hk : ∀ k, keep k → k ≠ lb) : Kept keep a (w.setCell ⟨lb, n, none⟩ v) :=
  ⟨h.os, h.tape, h.output, by simpa [World.setCell] using h.size, fun k hkk => (Below.heap_setCell _ _ _ _ (by show k ≠ lb; exact hk k hkk)).trans (h.block k hkk)⟩

set_option maxRecDepth 100000 in
set_option maxHeartbeats 4000000 in
theorem c27 (M lb N : Nat) (L ρ d : Nat → Nat) (n0 : Nat) (keep : Nat → Prop) (w : World) (h : Lead w M lb N L) (hu : UF N L ρ d) (hn0 : n0 < N) (_hN : N ≤ 4000) (hk : ∀ k, keep k → k ≠ lb) :
    Calls Try.prog 27 #[.pointer (some ⟨M, 0, none⟩), .int .i64 (n0 : Int)] w fun e w' => ∃ L', e = .returned (.int .i64 (ρ n0 : Int)) ∧ Lead w' M lb N L' ∧ UF N L' ρ d ∧ L' (ρ n0) = ρ n0 ∧ ρ n0 < N ∧ Kept keep w w' ∧ w'.heap.size = w.heap.size ∧ ∀ m, m < N → L m = m → L' m = m := by
  go_enter Try.func27, Try.ntmps27
  go_wp2
  go_loopg [1] (d n0) (fun g s1 wr => ∃ (n : Nat) (L' : Nat → Nat), g = d n ∧ s1 = .int .i64 (n : Int) ∧ n < N ∧ Hid (ρ n = ρ n0) ∧ Lead wr M lb N L' ∧ Hid (UF N L' ρ d) ∧ Kept keep w wr ∧ wr.heap.size = w.heap.size ∧ Hid (∀ m, m < N → L m = m → L' m = m))
  case atStart => exact ⟨n0, L, rfl, rfl, hn0, rfl, h, hu, Kept.refl _ _, rfl, fun _ _ q => q⟩
  case round =>
    obtain ⟨n, L', rfl, rfl, hn, HR, hL, HU, hkp, hsz, HRT⟩ := hrel
    have c1 := hL.head
    have c2 := hL.row.cell hn
    have c3 := hL.row.cell (HU.out.lt n hn)
    have l1 : (L' n : Int) < (N : Int) := by have := HU.out.lt n hn; omega
    have l2 : (n : Int) < (N : Int) := by omega
    have z1 := hL.row.frozen n
    have hne := hL.ne
    clear h hu
    by_cases hq : L' n = n
    · have bq : ((L' n : Int) != (n : Int)) = false := by rw [bne_eq_false_iff_eq]; omega
      have HE : Hid (n = ρ n0) := (HU.out.fix n hn hq).symm.trans HR.out
      have HL : Hid (L' n = n) := hq
      clear hq
      go_wp2
      go_ret
      exact ⟨L', congrArg (fun z : Nat => Ending.returned (.int .i64 (z : Int))) HE.out, hL, HU.out, by rw [← HE.out]; exact HL.out, by rw [← HE.out]; exact hn, hkp, hsz, HRT.out⟩
    · have bq : ((L' n : Int) != (n : Int)) = true := by rw [bne_iff_ne]; omega
      have HQ : Hid (L' n ≠ n) := hq
      have HP := hL.put n (L' (L' n))
      clear hq
      have HK := hkp.put (n := n) (v := .int .i64 (L' (L' n) : Int)) hk
      have HD : Hid (d (L' (L' n)) < d n) := by
        have h1 := HU.out.dn n hn HQ.out
        by_cases e2 : L' (L' n) = L' n
        · show d (L' (L' n)) < d n; rw [e2]; exact h1
        · have h2 := HU.out.dn (L' n) (HU.out.lt n hn) e2
          exact Nat.lt_trans h2 h1
      have HR' : Hid (ρ (L' (L' n)) = ρ n0) := (HU.out.rt _ (HU.out.lt _ hn)).trans ((HU.out.rt _ hn).trans HR.out)
      have HU' : Hid (UF N (fun x => if x = n then L' (L' n) else L' x) ρ d) := HU.out.halve hn
      have HN' : Hid (L' (L' n) < N) := HU.out.lt _ (HU.out.lt _ hn)
      have hsz' : (wr.setCell ⟨lb, n, none⟩ (.int .i64 (L' (L' n) : Int))).heap.size = w.heap.size := by simpa [World.setCell] using hsz
      go_wp2
      go_region
      go_wp2
      go_roundg (d (L' (L' n)))
      case measure => exact HD.out
      case rel => exact ⟨L' (L' n), _, rfl, rfl, HN'.out, HR', ⟨HP.head, HP.row, HP.ne⟩, HU', HK.drewN 1, hsz', fun m hm q => by
        by_cases e : m = n
        · subst e; exact absurd (HRT.out m hm q) HQ.out
        · show (if m = n then _ else L' m) = m
          rw [if_neg e]; exact HRT.out m hm q⟩

end Go.Proofs.Ytdgbcblajgmpcaa
