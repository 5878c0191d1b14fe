/-
  The contracts of the functions on names.
-/
import Derived.Test.YtefplfcfoapnjaaWords
namespace Go.Proofs.Ytefplfcfoapnjaa
open Go.RowKit

theorem ret_bool {a b : Bool} (h : a = b) : Ending.returned (.bool a) = .returned (.bool b) := by rw [h]

set_option maxHeartbeats 1000000 in
theorem n43 (c : Int) (w : World) :
    Calls Try.prog 87 #[.int .u8 c] w fun e w' => e = .returned (.bool (wb c)) ∧ w' = w := by
  by_cases h1 : 97 ≤ c <;> by_cases h2 : c ≤ 122 <;> by_cases h3 : 48 ≤ c <;> by_cases h4 : c ≤ 57 <;> by_cases h5 : c = 95 <;> try (exfalso; omega)
  all_goals
    have h5' : (c == 95) = decide (c = 95) := by rw [Bool.eq_iff_iff]; simp
    have h6 : sl c = decide (97 ≤ c ∧ c ≤ 122) := rfl
    go_enter Try.func87, Try.ntmps87
    go_wp2_with (go_at_call 86; refine (n42 _ _).mono ?_; rintro e w' ⟨rfl, rfl⟩)
    go_ret
    exact ⟨by simp [wb, *] <;> omega, rfl⟩

set_option maxHeartbeats 1000000 in
theorem n32 (s : ByteArray) (w : World) (_hs : s.size ≤ 9223372036854775807) :
    Calls Try.prog 54 #[.string s] w fun e w' => e = .returned (.bool (gn s)) ∧ w' = w := by
  by_cases h1 : s.size < 1
  · have HG : Hid (gn s = false) := gn_short (s := s) (Or.inl h1)
    go_enter Try.func54, Try.ntmps54
    go_wp2
    go_ret
    exact ⟨ret_bool HG.out.symm, rfl⟩
  by_cases h2 : 12 < s.size
  · have HG : Hid (gn s = false) := gn_short (s := s) (Or.inr h2)
    go_enter Try.func54, Try.ntmps54
    go_wp2
    go_ret
    exact ⟨ret_bool HG.out.symm, rfl⟩
  have hp : 0 < s.size := by omega
  have H0 : Hid (sl ((s[0]'hp).toNat : Int) = decide (97 ≤ ((s[0]'hp).toNat : Int) ∧ ((s[0]'hp).toNat : Int) ≤ 122)) := rfl
  by_cases h3 : 97 ≤ ((s[0]'hp).toNat : Int)
  case neg =>
    have HG : Hid (gn s = false) := gn_head hp (by rw [H0.out]; exact decide_eq_false (fun h => h3 h.1))
    have h3' : ((s[0]'hp).toNat : Int) < 97 := by omega
    go_enter Try.func54, Try.ntmps54
    go_wp2
    go_ret
    exact ⟨ret_bool HG.out.symm, rfl⟩
  by_cases h4 : ((s[0]'hp).toNat : Int) ≤ 122
  case neg =>
    have HG : Hid (gn s = false) := gn_head hp (by rw [H0.out]; exact decide_eq_false (fun h => h4 h.2))
    have h4' : 122 < ((s[0]'hp).toNat : Int) := by omega
    go_enter Try.func54, Try.ntmps54
    go_wp2
    go_ret
    exact ⟨ret_bool HG.out.symm, rfl⟩
  have Hs : Hid (sl ((s[0]'hp).toNat : Int) = true) := by rw [H0.out]; exact decide_eq_true ⟨h3, h4⟩
  go_enter Try.func54, Try.ntmps54
  go_wp2
  go_loop [3] (fun i => ∃ k : Nat, k ≤ s.size ∧ i = .int .i64 k ∧ Hid (∀ j (h : j < s.size), j < k → wb (s[j].toNat : Int) = true)) (fun i => s.size - (intOf i).toNat)
  case atStart => exact ⟨0, Nat.zero_le _, rfl, fun j _ h => absurd h (Nat.not_lt_zero _)⟩
  case round =>
    obtain ⟨k, hk, rfl, HA⟩ := hrel
    by_cases hlt : k < s.size
    · cases hw : wb (s[k].toNat : Int)
      · have HG : Hid (gn s = false) := gn_byte k hlt hw
        go_wp2_with (go_at_call 73; refine (n39 _ _).mono ?_; rintro e w' ⟨rfl, rfl⟩)
        go_ret
        exact ⟨ret_bool HG.out.symm, rfl⟩
      · have HW : Hid (wb (s[k].toNat : Int) = true) := hw
        go_wp2_with (go_at_call 73; refine (n39 _ _).mono ?_; rintro e w' ⟨rfl, rfl⟩)
        go_round
        case rel => exact ⟨k + 1, by omega, by go_num, fun j h hj => by
          by_cases e : j = k
          · subst e; exact HW.out
          · exact HA.out j h (by omega)⟩
        case measure => simp [intOf]; omega
    · have HE : Hid (gn s = !rsv s.toList) := gn_end (by omega) (by omega) Hs.out (fun j h => HA.out j h (by omega))
      go_wp2_with (go_at_call 74; refine (n40 _ _).mono ?_; rintro e w' ⟨rfl, rfl⟩)
      go_ret
      exact ⟨ret_bool HE.out.symm, rfl⟩

end Go.Proofs.Ytefplfcfoapnjaa
