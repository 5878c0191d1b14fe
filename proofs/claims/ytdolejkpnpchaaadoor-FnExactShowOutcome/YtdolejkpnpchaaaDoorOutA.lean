/-
  Outcomes as text: how a number is written, and the model's two functions of it.
-/
import Derived.Test.YtdolejkpnpchaaaDoorProg
import Derived.WalkKit
import Derived.ProofKit
import Derived.Below
import Derived.BigQuiet
import Derived.Deep.QuietTactic
import Derived.Deep.RegionWith
namespace Go.Proofs.YtdolejkpnpchaaaDoor
open Go.RowKit

def digits10 : ByteArray := ⟨#[48, 49, 50, 51, 52, 53, 54, 55, 56, 57]⟩
/-- The digits of a number. -/
def digs (n : Nat) : ByteArray := if n < 10 then digits10.extract n (n + 1) else digs (n / 10) ++ digits10.extract (n % 10) (n % 10 + 1)
termination_by n
decreasing_by omega
/-- A number as it is written. -/
def shw (n : Int) : ByteArray := if n < 0 then ⟨#[45]⟩ ++ digs n.natAbs else digs n.natAbs

theorem dig_one (d : Nat) (h : d < 10) : (digits10.extract d (d + 1)).size = 1 := by
  have : digits10.size = 10 := rfl
  rw [ByteArray.size_extract]; omega

theorem digs_size : ∀ (k n : Nat), n < 10 ^ k → 1 ≤ k → (digs n).size ≤ k := by
  intro k
  induction k with
  | zero => intro n _ h; omega
  | succ k ih =>
    intro n hn _
    rw [digs]
    split
    · rename_i h; rw [dig_one n h]; omega
    · rename_i h
      rw [ByteArray.size_append, dig_one _ (Nat.mod_lt _ (by omega))]
      have hk : 1 ≤ k := by
        rcases Nat.eq_zero_or_pos k with rfl | h
        · simp at hn; omega
        · exact h
      have := ih (n / 10) (by rw [Nat.pow_succ] at hn; omega) hk
      omega

theorem ret_s {a b : ByteArray} (h : a = b) : Ending.returned (.string a) = .returned (.string b) := by rw [h]

set_option maxRecDepth 100000 in
set_option maxHeartbeats 1000000 in
theorem m_down : ∀ (n : Nat) (w : World), n ≤ 9223372036854775808 →
    Calls Tryd.prog 30 #[.int .i64 (-(n : Int))] w fun e w' => e = .returned (.string (digs n)) ∧ ∃ k, w' = w.drewN k := by
  intro n
  induction n using Nat.strongRecOn with
  | ind n ih =>
    intro w hn
    obtain ⟨d, hd⟩ : ∃ d, d = n % 10 := ⟨_, rfl⟩
    have hd10 : d < 10 := by omega
    have t3 : (n : Int) % 10 = (d : Int) := by omega
    have sz : (⟨#[48, 49, 50, 51, 52, 53, 54, 55, 56, 57]⟩ : ByteArray).size = 10 := rfl
    have b1 : (d : Int) + 1 ≤ 10 := by omega
    have b2 : (0 : Int) ≤ (d : Int) + 1 := by omega
    have b3 : (d : Int) ≤ (d : Int) + 1 := by omega
    have b4 : ((d : Int) + 1).toNat = d + 1 := by omega
    have hw : IntKind.i64.wrap ((d : Int) + 1) = (d : Int) + 1 := by rw [IntKind.wrap_i64]; omega
    by_cases h : n < 10
    · have HE : Hid (digits10.extract d (d + 1) = digs n) := by
        show _ = _
        rw [digs, if_pos h, hd, Nat.mod_eq_of_lt h]
      clear ih hd
      go_enter Tryd.func30, Tryd.ntmps30
      go_wp2
      go_ret
      exact ⟨ret_s HE.out, 0, rfl⟩
    · have HE : Hid (digs (n / 10) ++ digits10.extract d (d + 1) = digs n) := by
        show _ = _
        rw [digs.eq_1 n, if_neg h, hd]
      have q1 : (n : Int) / 10 = ((n / 10 : Nat) : Int) := by omega
      have hs : (digs (n / 10)).size ≤ 20 := digs_size 20 (n / 10) (by omega) (by omega)
      have h1 := dig_one d hd10
      have CH : Hid (∀ w, Calls Tryd.prog 30 #[.int .i64 (-((n / 10 : Nat) : Int))] w fun e w' => e = .returned (.string (digs (n / 10))) ∧ ∃ k, w' = w.drewN k) := fun w => ih (n / 10) (by omega) w (by omega)
      obtain ⟨m, hm⟩ : ∃ m, m = n / 10 := ⟨_, rfl⟩
      rw [← hm] at CH q1 hs HE
      have HM : Hid (m = n / 10) := hm
      have wr : IntKind.i64.wrap (-(m : Int)) = -(m : Int) := by rw [IntKind.wrap_i64]; omega
      clear ih hd hm
      go_enter Tryd.func30, Tryd.ntmps30
      go_wp2_with fail
      go_quiet (first | (go_at_call 30; exact Calls.quiet_of (CH.out _)))
      go_wp2
      go_ret
      exact ⟨ret_s HE.out, _, rfl⟩

set_option maxRecDepth 100000 in
set_option maxHeartbeats 1000000 in
theorem m_show (n : Int) (w : World) (h1 : -9223372036854775808 ≤ n) (h2 : n ≤ 9223372036854775807) :
    Calls Tryd.prog 13 #[.int .i64 n] w fun e w' => e = .returned (.string (shw n)) ∧ ∃ k, w' = w.drewN k := by
  by_cases h : n < 0
  · have HE : Hid (⟨#[45]⟩ ++ digs n.natAbs = shw n) := by show _ = _; unfold shw; rw [if_pos h]
    have CH : Hid (∀ w, Calls Tryd.prog 30 #[.int .i64 n] w fun e w' => e = .returned (.string (digs n.natAbs)) ∧ ∃ k, w' = w.drewN k) := fun w => by
      have := m_down n.natAbs w (by omega)
      rw [show -((n.natAbs : Nat) : Int) = n by omega] at this
      exact this
    have hs : (digs n.natAbs).size ≤ 20 := digs_size 20 _ (by omega) (by omega)
    have hs1 : (⟨#[45]⟩ : ByteArray).size = 1 := rfl
    obtain ⟨x, hx⟩ : ∃ x, x = digs n.natAbs := ⟨_, rfl⟩
    rw [← hx] at HE CH hs
    clear hx
    go_enter Tryd.func13, Tryd.ntmps13
    go_wp2_with fail
    first
      | (go_quiet (first | (go_at_call 30; exact Calls.quiet_of (CH.out _))))
      | (refine (CH.out _).mono ?_; rintro e w5 ⟨rfl, nq, rfl⟩)
    go_wp2
    go_ret
    exact ⟨ret_s HE.out, _, rfl⟩
  · have HE : Hid (digs n.natAbs = shw n) := by show _ = _; unfold shw; rw [if_neg h]
    have CH : Hid (∀ w, Calls Tryd.prog 30 #[.int .i64 (-n)] w fun e w' => e = .returned (.string (digs n.natAbs)) ∧ ∃ k, w' = w.drewN k) := fun w => by
      have := m_down n.natAbs w (by omega)
      rw [show -((n.natAbs : Nat) : Int) = -n by omega] at this
      exact this
    have wr : IntKind.i64.wrap (-n) = -n := by rw [IntKind.wrap_i64]; omega
    obtain ⟨x, hx⟩ : ∃ x, x = digs n.natAbs := ⟨_, rfl⟩
    rw [← hx] at HE CH
    clear hx
    go_enter Tryd.func13, Tryd.ntmps13
    go_wp2_with fail
    first
      | (go_quiet (first | (go_at_call 30; exact Calls.quiet_of (CH.out _))))
      | (refine (CH.out _).mono ?_; rintro e w5 ⟨rfl, nq, rfl⟩)
    go_wp2
    go_ret
    exact ⟨ret_s HE.out, _, rfl⟩

/-- A kind's word. -/
def kw (k : Int) : ByteArray := if k = 1 then ⟨#[112, 97, 114, 115, 101]⟩ else if k = 2 then ⟨#[115, 105, 103, 110]⟩ else if k = 3 then ⟨#[99, 104, 101, 99, 107]⟩ else ⟨#[107, 101, 121]⟩
set_option maxHeartbeats 1000000 in
theorem m_kind (k : Int) (w : World) :
    Calls Tryd.prog 14 #[.int .i64 k] w fun e w' => e = .returned (.string (kw k)) ∧ ∃ n, w' = w.drewN n := by
  by_cases h1 : k = 1
  · subst h1
    go_enter Tryd.func14, Tryd.ntmps14
    go_wp2
    go_ret
    exact ⟨rfl, 0, rfl⟩
  by_cases h2 : k = 2
  · subst h2
    go_enter Tryd.func14, Tryd.ntmps14
    go_wp2
    go_ret
    exact ⟨rfl, 0, rfl⟩
  by_cases h3 : k = 3
  · subst h3
    go_enter Tryd.func14, Tryd.ntmps14
    go_wp2
    go_ret
    exact ⟨rfl, 0, rfl⟩
  have HE : Hid (⟨#[107, 101, 121]⟩ = kw k) := by show _ = _; unfold kw; rw [if_neg h1, if_neg h2, if_neg h3]
  have c1 : (k == 1) = false := beq_eq_false_iff_ne.2 h1
  have c2 : (k == 2) = false := beq_eq_false_iff_ne.2 h2
  have c3 : (k == 3) = false := beq_eq_false_iff_ne.2 h3
  go_enter Tryd.func14, Tryd.ntmps14
  go_wp2
  go_ret
  exact ⟨ret_s HE.out, 0, rfl⟩
end Go.Proofs.YtdolejkpnpchaaaDoor
