/-
  Sources: the contract of the model's ValidSources.
-/
import Derived.Test.YtokfbajlcmadfaaSrcTo
namespace Go.Proofs.Ytokfbajlcmadfaa
open Go.RowKit

set_option maxHeartbeats 4000000 in
theorem c5 (ao : Option Addr) (b o n c : Nat) (S T : Nat → ByteArray) (w : World) (h1 : SrcsAt w ao b o n S T) :
    Calls Try.prog 7 #[.slice ao n c] w fun e w' => e = .returned (.bool (vsr n S T)) ∧ ∃ m, w' = w.drewN m := by
  have hlen := h1.len
  have A1 := h1.at_
  have HB : Hid (SrcsAt w ao b o n S T) := h1
  clear h1
  by_cases hbig : 8 < n
  · have HV : Hid (vsr n S T = false) := vsr_big hbig
    go_enter Try.func7, Try.ntmps7
    go_wp2
    go_ret
    exact ⟨ret_bool HV.out.symm, 0, rfl⟩
  go_enter Try.func7, Try.ntmps7
  go_wp2
  go_loopw [3] (fun i wr => ∃ k : Nat, k ≤ n ∧ i = .int .i64 k ∧ Hid (∀ j, j < k → sok S T j = true) ∧ ∃ m, wr = w.drewN m) (fun i _ => n - (intOf i).toNat)
  case atStart => exact ⟨0, Nat.zero_le _, rfl, fun j h => absurd h (Nat.not_lt_zero _), 0, rfl⟩
  case round =>
    obtain ⟨k, hk, rfl, HA, m, rfl⟩ := hrel
    by_cases hlt : k < n
    · have e1 := A1 (by omega)
      have g0 := HB.out.c0 k hlt
      have g1 := HB.out.c1 k hlt
      have z0 := HB.out.sizeS k hlt
      have z1 := HB.out.sizeT k hlt
      subst e1
      cases hg : gn (S k)
      · have HF : Hid (vsr n S T = false) := vsr_no k hlt (sok_name hg)
        go_wp2_with (go_at_call 22; refine (c10 _ _ z0).mono ?_; rintro e w' ⟨rfl, rfl⟩)
        go_ret
        exact ⟨ret_bool HF.out.symm, _, rfl⟩
      by_cases ht : 1000 < (T k).size
      · have HF : Hid (vsr n S T = false) := vsr_no k hlt (sok_text ht)
        go_wp2_with (go_at_call 22; refine (c10 _ _ z0).mono ?_; rintro e w' ⟨rfl, rfl⟩)
        go_ret
        exact ⟨ret_bool HF.out.symm, _, rfl⟩
      have HG : Hid (gn (S k) = true) := hg
      go_wp2_with (go_at_call 22; refine (c10 _ _ z0).mono ?_; rintro e w' ⟨rfl, rfl⟩)
      go_loopw [4] (fun i wr => ∃ q : Nat, q ≤ k ∧ i = .int .i64 q ∧ Hid (∀ j, j < q → (S k).toList ≠ (S j).toList) ∧ ∃ m, wr = w.drewN m) (fun i _ => k - (intOf i).toNat)
      case atStart => exact ⟨0, Nat.zero_le _, rfl, fun j h => absurd h (Nat.not_lt_zero _), m, rfl⟩
      case round =>
        obtain ⟨q, hq, rfl, HQ, m2, rfl⟩ := hrel
        by_cases hql : q < k
        · have f0 := HB.out.c0 q (by omega)
          by_cases hs : (S k).toList = (S q).toList
          · have HF : Hid (vsr n S T = false) := vsr_no k hlt (sok_twice q hql hs)
            have bs : ((S k).toList == (S q).toList) = true := by rw [hs]; simp
            clear hs
            go_wp2
            go_quiet (fail)
            go_wp2
            go_ret
            exact ⟨ret_bool HF.out.symm, _, by rw [World.drewN_drewN]⟩
          · have HS : Hid ((S k).toList ≠ (S q).toList) := hs
            have bs : ((S k).toList == (S q).toList) = false := by rw [beq_eq_false_iff_ne]; exact hs
            clear hs
            go_wp2
            go_quiet (fail)
            go_wp2
            go_roundw
            case rel => exact ⟨q + 1, by omega, by go_num, fun j hj => by
              by_cases e : j = q
              · subst e; exact HS.out
              · exact HQ.out j (by omega), _, rfl⟩
            case measure => simp [intOf]; omega
        · have HK : Hid (sok S T k = true) := sok_yes HG.out (by omega) (fun j hj => HQ.out j (by omega))
          go_wp2
          go_roundw
          case rel => exact ⟨k + 1, by omega, by go_num, fun j hj => by
            by_cases e : j = k
            · subst e; exact HK.out
            · exact HA.out j (by omega), _, rfl⟩
          case measure => simp [intOf]; omega
    · have HF : Hid (vsr n S T = true) := vsr_yes (by omega) (fun j hj => HA.out j (by omega))
      go_wp2
      go_ret
      exact ⟨ret_bool HF.out.symm, _, rfl⟩

end Go.Proofs.Ytokfbajlcmadfaa
