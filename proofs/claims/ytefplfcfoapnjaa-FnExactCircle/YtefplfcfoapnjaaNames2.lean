/-
  The contracts of the functions on names, more.
-/
import Derived.Test.YtefplfcfoapnjaaNames
import Derived.Deep.QuietTactic
import Derived.BigQuiet
namespace Go.Proofs.Ytefplfcfoapnjaa
open Go.RowKit

set_option maxHeartbeats 1000000 in
theorem n41 (s : ByteArray) (w : World) (_hs : s.size ≤ 9223372036854775807) :
    Calls Try.prog 75 #[.string s] w fun e w' => e = .returned (.bool (gn s)) ∧ w' = w := by
  by_cases h1 : s.size = 0
  · have HG : Hid (gn s = false) := gn_short (s := s) (Or.inl (by omega))
    go_enter Try.func75, Try.ntmps75
    go_wp2
    go_ret
    exact ⟨ret_bool HG.out.symm, rfl⟩
  by_cases h2 : 12 < s.size
  · have HG : Hid (gn s = false) := gn_short (s := s) (Or.inr h2)
    have h1' : ((s.size : Int) == 0) = false := beq_eq_false_iff_ne.2 (by omega)
    go_enter Try.func75, Try.ntmps75
    go_wp2
    go_ret
    exact ⟨ret_bool HG.out.symm, rfl⟩
  have hp : 0 < s.size := by omega
  have h1' : ((s.size : Int) == 0) = false := beq_eq_false_iff_ne.2 (by omega)
  cases h3 : sl ((s[0]'hp).toNat : Int)
  · have HG : Hid (gn s = false) := gn_head hp h3
    go_enter Try.func75, Try.ntmps75
    go_wp2_with (go_at_call 86; refine (n42 _ _).mono ?_; rintro e w' ⟨rfl, rfl⟩)
    go_ret
    exact ⟨ret_bool HG.out.symm, rfl⟩
  have Hs : Hid (sl ((s[0]'hp).toNat : Int) = true) := h3
  go_enter Try.func75, Try.ntmps75
  go_wp2_with (go_at_call 86; refine (n42 _ _).mono ?_; rintro e w' ⟨rfl, rfl⟩)
  clear h3
  go_loop [3] (fun i => ∃ k : Nat, 1 ≤ k ∧ k ≤ s.size ∧ i = .int .i64 k ∧ Hid (∀ j (h : j < s.size), j < k → wb (s[j].toNat : Int) = true)) (fun i => s.size - (intOf i).toNat)
  case atStart => exact ⟨1, Nat.le_refl _, by omega, rfl, fun j _ h => by
    have : j = 0 := by omega
    subst this; exact wb_of_sl Hs.out⟩
  case round =>
    obtain ⟨k, hk1, hk, rfl, HA⟩ := hrel
    by_cases hlt : k < s.size
    · cases hw : wb (s[k].toNat : Int)
      · have HG : Hid (gn s = false) := gn_byte k hlt hw
        go_wp2_with (go_at_call 87; refine (n43 _ _).mono ?_; rintro e w' ⟨rfl, rfl⟩)
        go_ret
        exact ⟨ret_bool HG.out.symm, rfl⟩
      · have HW : Hid (wb (s[k].toNat : Int) = true) := hw
        go_wp2_with (go_at_call 87; refine (n43 _ _).mono ?_; rintro e w' ⟨rfl, rfl⟩)
        go_round
        case rel => exact ⟨k + 1, by omega, by omega, by go_num, fun j h hj => by
          by_cases e : j = k
          · subst e; exact HW.out
          · exact HA.out j h (by omega)⟩
        case measure => simp [intOf]; omega
    · have HE : Hid (gn s = !rsv s.toList) := gn_end (by omega) (by omega) Hs.out (fun j h => HA.out j h (by omega))
      go_wp2_with (go_at_call 88; refine (n44 _ _).mono ?_; rintro e w' ⟨rfl, rfl⟩)
      go_ret
      exact ⟨ret_bool HE.out.symm, rfl⟩

set_option maxHeartbeats 1000000 in
theorem n33 (a b : ByteArray) (w : World) (_ha : a.size ≤ 9223372036854775807) (_hb : b.size ≤ 9223372036854775807) :
    Calls Try.prog 48 #[.string a, .string b] w fun e w' => e = .returned (.bool (lt a b)) ∧ ∃ n, w' = w.drewN n := by
  go_enter Try.func48, Try.ntmps48
  go_wp2
  go_loopw [5] (fun i wr => ∃ k : Nat, k ≤ a.size ∧ k ≤ b.size ∧ i = .int .i64 k ∧ Hid (∀ j (h1 : j < a.size) (h2 : j < b.size), j < k → a[j] = b[j]) ∧ ∃ m, wr = w.drewN m) (fun i _ => a.size - (intOf i).toNat)
  case atStart => exact ⟨0, Nat.zero_le _, Nat.zero_le _, rfl, fun j _ _ h => absurd h (Nat.not_lt_zero _), 0, rfl⟩
  case round =>
    obtain ⟨k, hka, hkb, rfl, HA, m, rfl⟩ := hrel
    by_cases h1 : k < a.size
    · by_cases h2 : k < b.size
      · by_cases h3 : a[k].toNat = b[k].toNat
        · have H3 : Hid (a[k] = b[k]) := UInt8.toNat_inj.1 h3
          have h3' : ((a[k].toNat : Int) != (b[k].toNat : Int)) = false := by rw [bne_eq_false_iff_eq]; omega
          clear h3
          go_wp2
          go_quiet (fail)
          go_wp2
          go_roundw
          case rel => exact ⟨k + 1, by omega, by omega, by go_num, fun j q1 q2 hj => by
            by_cases e : j = k
            · subst e; exact H3.out
            · exact HA.out j q1 q2 (by omega), _, rfl⟩
          case measure => simp [intOf]; omega
        · have HE : Hid (lt a b = decide ((a[k].toNat : Int) < (b[k].toNat : Int))) := lt_at h1 h2 HA.out (fun e => h3 (by rw [e]))
          have h3' : ((a[k].toNat : Int) != (b[k].toNat : Int)) = true := by rw [bne_iff_ne]; omega
          clear h3
          go_wp2
          go_quiet (fail)
          go_wp2
          go_quiet (fail)
          go_wp2
          go_ret
          exact ⟨ret_bool (by rw [HE.out]; simp), _, by rw [World.drewN_drewN, World.drewN_drewN]⟩
      · have HE : Hid (lt a b = decide ((a.size : Int) < (b.size : Int))) := lt_end hka hkb HA.out (Or.inr (by omega))
        go_wp2
        go_ret
        exact ⟨ret_bool (by rw [HE.out]; simp), _, rfl⟩
    · have HE : Hid (lt a b = decide ((a.size : Int) < (b.size : Int))) := lt_end hka hkb HA.out (Or.inl (by omega))
      go_wp2
      go_ret
      exact ⟨ret_bool (by rw [HE.out]; simp), _, rfl⟩

end Go.Proofs.Ytefplfcfoapnjaa
