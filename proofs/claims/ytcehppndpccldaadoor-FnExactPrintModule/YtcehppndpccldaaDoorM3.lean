/-
  Merged for the claim: Words Names Names2.
-/
import Derived.Test.YtcehppndpccldaaDoorProg
import Derived.Test.YtcehppndpccldaaDoorM1
import Derived.WalkKit
import Derived.WalkSpells
import Derived.WalkLawsBesides
import Derived.Deep.QuietTactic
import Derived.BigQuiet
namespace Go.Proofs.YtcehppndpccldaaDoor
open Go.RowKit

set_option maxRecDepth 100000 in
set_option maxHeartbeats 400000 in
theorem c18 (c : Int) (w : World) :
    Calls Tryd.prog 56 #[.int .u8 c] w fun e w' => e = .returned (.bool (sl c)) ∧ w' = w := by
  by_cases h1 : 97 ≤ c <;> by_cases h2 : c ≤ 122 <;>
  (go_enter Tryd.func56, Tryd.ntmps56
   go_wp2
   go_ret
   exact ⟨by simp [sl, h1, h2], rfl⟩)

set_option maxRecDepth 100000 in
set_option maxHeartbeats 1000000 in
theorem c30 (c : Int) (w : World) :
    Calls Tryd.prog 29 #[.int .u8 c] w fun e w' => e = .returned (.bool (wb c)) ∧ w' = w := by
  by_cases h1 : 97 ≤ c <;> by_cases h2 : c ≤ 122 <;> by_cases h3 : 48 ≤ c <;> by_cases h4 : c ≤ 57 <;> by_cases h5 : c = 95 <;> try (exfalso; omega)
  all_goals
    have h5' : (c == 95) = decide (c = 95) := by rw [Bool.eq_iff_iff]; simp
    go_enter Tryd.func29, Tryd.ntmps29
    go_wp2
    go_ret
    exact ⟨by simp [wb, *], rfl⟩

set_option maxRecDepth 100000 in
set_option maxHeartbeats 1000000 in
theorem c31 (s : ByteArray) (w : World) :
    Calls Tryd.prog 30 #[.string s] w fun e w' => e = .returned (.bool (rsv s.toList)) ∧ w' = w := by
  go_enter Tryd.func30, Tryd.ntmps30
  go_wp2
  all_goals
    go_ret
    exact ⟨by first | (simp_all [rsv]; done) | (refine congrArg (fun b => Ending.returned (Value.bool b)) ?_; rw [Bool.eq_iff_iff]; simp_all [rsv]), rfl⟩

set_option maxRecDepth 100000 in
set_option maxHeartbeats 1000000 in
theorem c41 (s : ByteArray) (w : World) :
    Calls Tryd.prog 58 #[.string s] w fun e w' => e = .returned (.bool (rsv s.toList)) ∧ w' = w := by
  go_enter Tryd.func58, Tryd.ntmps58
  go_wp2
  all_goals
    go_ret
    exact ⟨by simp_all [rsv], rfl⟩

end Go.Proofs.YtcehppndpccldaaDoor

namespace Go.Proofs.YtcehppndpccldaaDoor
open Go.RowKit

theorem ret_bool {a b : Bool} (h : a = b) : Ending.returned (.bool a) = .returned (.bool b) := by rw [h]

set_option maxRecDepth 100000 in
set_option maxHeartbeats 1000000 in
theorem c20 (c : Int) (w : World) :
    Calls Tryd.prog 57 #[.int .u8 c] w fun e w' => e = .returned (.bool (wb c)) ∧ w' = w := by
  by_cases h1 : 97 ≤ c <;> by_cases h2 : c ≤ 122 <;> by_cases h3 : 48 ≤ c <;> by_cases h4 : c ≤ 57 <;> by_cases h5 : c = 95 <;> try (exfalso; omega)
  all_goals
    have h5' : (c == 95) = decide (c = 95) := by rw [Bool.eq_iff_iff]; simp
    have h6 : sl c = decide (97 ≤ c ∧ c ≤ 122) := rfl
    go_enter Tryd.func57, Tryd.ntmps57
    go_wp2_with (go_at_call 56; refine (c18 _ _).mono ?_; rintro e w' ⟨rfl, rfl⟩)
    go_ret
    exact ⟨by simp [wb, *] <;> omega, rfl⟩

set_option maxRecDepth 100000 in
set_option maxHeartbeats 1000000 in
theorem c32 (s : ByteArray) (w : World) (_hs : s.size ≤ 9223372036854775807) :
    Calls Tryd.prog 19 #[.string s] w fun e w' => e = .returned (.bool (gn s)) ∧ w' = w := by
  by_cases h1 : s.size < 1
  · have HG : Hid (gn s = false) := gn_short (s := s) (Or.inl h1)
    go_enter Tryd.func19, Tryd.ntmps19
    go_wp2
    go_ret
    exact ⟨ret_bool HG.out.symm, rfl⟩
  by_cases h2 : 12 < s.size
  · have HG : Hid (gn s = false) := gn_short (s := s) (Or.inr h2)
    go_enter Tryd.func19, Tryd.ntmps19
    go_wp2
    go_ret
    exact ⟨ret_bool HG.out.symm, rfl⟩
  have hp : 0 < s.size := by omega
  have H0 : Hid (sl ((s[0]'hp).toNat : Int) = decide (97 ≤ ((s[0]'hp).toNat : Int) ∧ ((s[0]'hp).toNat : Int) ≤ 122)) := rfl
  by_cases h3 : 97 ≤ ((s[0]'hp).toNat : Int)
  case neg =>
    have HG : Hid (gn s = false) := gn_head hp (by rw [H0.out]; exact decide_eq_false (fun h => h3 h.1))
    have h3' : ((s[0]'hp).toNat : Int) < 97 := by omega
    go_enter Tryd.func19, Tryd.ntmps19
    go_wp2
    go_ret
    exact ⟨ret_bool HG.out.symm, rfl⟩
  by_cases h4 : ((s[0]'hp).toNat : Int) ≤ 122
  case neg =>
    have HG : Hid (gn s = false) := gn_head hp (by rw [H0.out]; exact decide_eq_false (fun h => h4 h.2))
    have h4' : 122 < ((s[0]'hp).toNat : Int) := by omega
    go_enter Tryd.func19, Tryd.ntmps19
    go_wp2
    go_ret
    exact ⟨ret_bool HG.out.symm, rfl⟩
  have Hs : Hid (sl ((s[0]'hp).toNat : Int) = true) := by rw [H0.out]; exact decide_eq_true ⟨h3, h4⟩
  go_enter Tryd.func19, Tryd.ntmps19
  go_wp2
  go_loop [3] (fun i => ∃ k : Nat, k ≤ s.size ∧ i = .int .i64 k ∧ Hid (∀ j (h : j < s.size), j < k → wb (s[j].toNat : Int) = true)) (fun i => s.size - (intOf i).toNat)
  case atStart => exact ⟨0, Nat.zero_le _, rfl, fun j _ h => absurd h (Nat.not_lt_zero _)⟩
  case round =>
    obtain ⟨k, hk, rfl, HA⟩ := hrel
    by_cases hlt : k < s.size
    · cases hw : wb (s[k].toNat : Int)
      · have HG : Hid (gn s = false) := gn_byte k hlt hw
        go_wp2_with (go_at_call 29; refine (c30 _ _).mono ?_; rintro e w' ⟨rfl, rfl⟩)
        go_ret
        exact ⟨ret_bool HG.out.symm, rfl⟩
      · have HW : Hid (wb (s[k].toNat : Int) = true) := hw
        go_wp2_with (go_at_call 29; refine (c30 _ _).mono ?_; rintro e w' ⟨rfl, rfl⟩)
        go_round
        case rel => exact ⟨k + 1, by omega, by go_num, fun j h hj => by
          by_cases e : j = k
          · subst e; exact HW.out
          · exact HA.out j h (by omega)⟩
        case measure => simp [intOf]; omega
    · have HE : Hid (gn s = !rsv s.toList) := gn_end (by omega) (by omega) Hs.out (fun j h => HA.out j h (by omega))
      go_wp2_with (go_at_call 30; refine (c31 _ _).mono ?_; rintro e w' ⟨rfl, rfl⟩)
      go_ret
      exact ⟨ret_bool HE.out.symm, rfl⟩

end Go.Proofs.YtcehppndpccldaaDoor

namespace Go.Proofs.YtcehppndpccldaaDoor
open Go.RowKit

set_option maxRecDepth 100000 in
set_option maxHeartbeats 1000000 in
theorem c40 (s : ByteArray) (w : World) (_hs : s.size ≤ 9223372036854775807) :
    Calls Tryd.prog 40 #[.string s] w fun e w' => e = .returned (.bool (gn s)) ∧ w' = w := by
  by_cases h1 : s.size = 0
  · have HG : Hid (gn s = false) := gn_short (s := s) (Or.inl (by omega))
    go_enter Tryd.func40, Tryd.ntmps40
    go_wp2
    go_ret
    exact ⟨ret_bool HG.out.symm, rfl⟩
  by_cases h2 : 12 < s.size
  · have HG : Hid (gn s = false) := gn_short (s := s) (Or.inr h2)
    have h1' : ((s.size : Int) == 0) = false := beq_eq_false_iff_ne.2 (by omega)
    go_enter Tryd.func40, Tryd.ntmps40
    go_wp2
    go_ret
    exact ⟨ret_bool HG.out.symm, rfl⟩
  have hp : 0 < s.size := by omega
  have h1' : ((s.size : Int) == 0) = false := beq_eq_false_iff_ne.2 (by omega)
  cases h3 : sl ((s[0]'hp).toNat : Int)
  · have HG : Hid (gn s = false) := gn_head hp h3
    go_enter Tryd.func40, Tryd.ntmps40
    go_wp2_with (go_at_call 56; refine (c18 _ _).mono ?_; rintro e w' ⟨rfl, rfl⟩)
    go_ret
    exact ⟨ret_bool HG.out.symm, rfl⟩
  have Hs : Hid (sl ((s[0]'hp).toNat : Int) = true) := h3
  go_enter Tryd.func40, Tryd.ntmps40
  go_wp2_with (go_at_call 56; refine (c18 _ _).mono ?_; rintro e w' ⟨rfl, rfl⟩)
  clear h3
  go_loop [3] (fun i => ∃ k : Nat, 1 ≤ k ∧ k ≤ s.size ∧ i = .int .i64 k ∧ Hid (∀ j (h : j < s.size), j < k → wb (s[j].toNat : Int) = true)) (fun i => s.size - (intOf i).toNat)
  case atStart => exact ⟨1, Nat.le_refl _, by omega, rfl, fun j _ h => by
    have : j = 0 := by omega
    subst this; exact wb_of_sl Hs.out⟩
  case round =>
    obtain ⟨k, hk1, hk, rfl, HA⟩ := hrel
    by_cases hlt : k < s.size
    · cases hw : wb (s[k].toNat : Int)
      · have HG : Hid (gn s = false) := gn_byte k hlt hw
        go_wp2_with (go_at_call 57; refine (c20 _ _).mono ?_; rintro e w' ⟨rfl, rfl⟩)
        go_ret
        exact ⟨ret_bool HG.out.symm, rfl⟩
      · have HW : Hid (wb (s[k].toNat : Int) = true) := hw
        go_wp2_with (go_at_call 57; refine (c20 _ _).mono ?_; rintro e w' ⟨rfl, rfl⟩)
        go_round
        case rel => exact ⟨k + 1, by omega, by omega, by go_num, fun j h hj => by
          by_cases e : j = k
          · subst e; exact HW.out
          · exact HA.out j h (by omega)⟩
        case measure => simp [intOf]; omega
    · have HE : Hid (gn s = !rsv s.toList) := gn_end (by omega) (by omega) Hs.out (fun j h => HA.out j h (by omega))
      go_wp2_with (go_at_call 58; refine (c41 _ _).mono ?_; rintro e w' ⟨rfl, rfl⟩)
      go_ret
      exact ⟨ret_bool HE.out.symm, rfl⟩

end Go.Proofs.YtcehppndpccldaaDoor

