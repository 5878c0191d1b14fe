/-
  Scripts: how a line is read; the model's small functions.
-/
import Derived.Test.YthmihmnagnibmaaDoorProg
import Derived.WalkKit
import Derived.ProofKit
import Derived.Below
import Derived.BigQuiet
import Derived.Deep.QuietTactic
namespace Go.Proofs.YthmihmnagnibmaaDoor
open Go.RowKit

/-- A byte; 0 behind the end. -/
def by_ (s : ByteArray) (i : Nat) : Int := ((s.data[i]?.getD 0).toNat : Int)
theorem by_at (s : ByteArray) (i : Nat) (h : i < s.size) : ((s[i]'h).toNat : Int) = by_ s i := by
  unfold by_
  have h2 : i < s.data.size := h
  rw [Array.getElem?_eq_getElem h2]
  rfl
theorem by_rng (s : ByteArray) (i : Nat) : 0 ≤ by_ s i ∧ by_ s i ≤ 255 := by
  unfold by_
  have := (s.data[i]?.getD 0).toNat_lt
  omega

/-- What stands behind a word and one space. -/
def isAft (l w : ByteArray) : Prop := w.size + 1 ≤ l.size ∧ (l.extract 0 w.size).toList = w.toList ∧ by_ l w.size = 32
instance (l w : ByteArray) : Decidable (isAft l w) := inferInstanceAs (Decidable (_ ∧ _))
def aft (l w : ByteArray) : ByteArray := if isAft l w then l.extract (w.size + 1) l.size else ⟨#[]⟩

/-- No blank, and short. -/
def isNm (s : ByteArray) : Prop := (∀ i, i < s.size → by_ s i ≠ 32) ∧ s.size ≤ 12
instance (s : ByteArray) : Decidable (isNm s) := inferInstanceAs (Decidable (_ ∧ _))

/-- A number's digits. -/
def isNum (s : ByteArray) : Prop := 1 ≤ s.size ∧ s.size ≤ 6 ∧ ¬ (by_ s 0 = 48 ∧ 1 < s.size) ∧ ∀ i, i < s.size → 48 ≤ by_ s i ∧ by_ s i ≤ 57
instance (s : ByteArray) : Decidable (isNum s) := inferInstanceAs (Decidable (_ ∧ _))
def valTo (s : ByteArray) : Nat → Int
  | 0 => 0
  | i + 1 => valTo s i * 10 + (by_ s i - 48)
def num (s : ByteArray) : Int := if isNum s then valTo s s.size else -1

/-- A text with newlines for bars. -/
def txtTo (s : ByteArray) : Nat → ByteArray
  | 0 => ⟨#[]⟩
  | i + 1 => txtTo s i ++ (if by_ s i = 124 then ⟨#[10]⟩ else s.extract i (i + 1))

theorem val_rng {s : ByteArray} (h : ∀ i, i < s.size → 48 ≤ by_ s i ∧ by_ s i ≤ 57) : ∀ i, i ≤ s.size → 0 ≤ valTo s i ∧ valTo s i < 10 ^ i := by
  intro i
  induction i with
  | zero => intro _; exact ⟨Int.le_refl _, by simp [valTo]⟩
  | succ i ih =>
    intro hi
    obtain ⟨h1, h2⟩ := ih (by omega)
    have h3 := h i (by omega)
    have h4 : (10 : Int) ^ (i + 1) = 10 ^ i * 10 := Int.pow_succ _ _
    show 0 ≤ valTo s i * 10 + (by_ s i - 48) ∧ valTo s i * 10 + (by_ s i - 48) < 10 ^ (i + 1)
    omega

theorem ret_bool' {a b : Bool} (h : a = b) : Ending.returned (.bool a) = .returned (.bool b) := by rw [h]
theorem ret_aft {a a' : ByteArray} {b b' : Bool} (h : a = a') (h2 : b = b') : Ending.returned (.tuple #[.string a, .bool b]) = .returned (.tuple #[.string a', .bool b']) := by rw [h, h2]
theorem ret_int' {a b : Int} (h : a = b) : Ending.returned (.int .i64 a) = .returned (.int .i64 b) := by rw [h]
theorem ret_str' {a b : ByteArray} (h : a = b) : Ending.returned (.string a) = .returned (.string b) := by rw [h]

set_option maxHeartbeats 1000000 in
theorem m_name (s : ByteArray) (w : World) (_hs : s.size ≤ 9223372036854775807) :
    Calls Tryd.prog 21 #[.string s] w fun e w' => e = .returned (.bool (decide (isNm s))) ∧ w' = w := by
  go_enter Tryd.func21, Tryd.ntmps21
  go_wp2
  go_loop [3] (fun i => ∃ k : Nat, k ≤ s.size ∧ i = .int .i64 k ∧ Hid (∀ j, j < k → by_ s j ≠ 32)) (fun i => s.size - (intOf i).toNat)
  case atStart => exact ⟨0, Nat.zero_le _, rfl, fun j h => absurd h (Nat.not_lt_zero _)⟩
  case round =>
    obtain ⟨k, hk, rfl, HA⟩ := hrel
    by_cases hlt : k < s.size
    · have hb := by_at s k hlt
      obtain ⟨c, hc⟩ : ∃ c, c = by_ s k := ⟨_, rfl⟩
      rw [← hc] at hb
      have HC : Hid (c = by_ s k) := hc
      clear hc
      by_cases h32 : c = 32
      · have HG : Hid (false = decide (isNm s)) := (decide_eq_false (fun h => h.1 k hlt (HC.out.symm.trans h32))).symm
        go_wp2
        go_ret
        exact ⟨by rw [← HG.out]; rfl, rfl⟩
      · have HN : Hid (c ≠ 32) := h32
        have h33 : (c == 32) = false := beq_eq_false_iff_ne.2 h32
        go_wp2
        go_round
        case rel => exact ⟨k + 1, by omega, by go_num, fun j hj => by
          by_cases e : j = k
          · subst e; rw [← HC.out]; exact HN.out
          · exact HA.out j (by omega)⟩
        case measure => simp [intOf]; omega
    · have HE : Hid (decide ((s.size : Int) ≤ 12) = decide (isNm s)) := by
        show _ = _
        by_cases h12 : (s.size : Int) ≤ 12
        · rw [decide_eq_true h12, decide_eq_true (show isNm s from ⟨fun i hi => HA.out i (by omega), by omega⟩)]
        · rw [decide_eq_false h12, decide_eq_false (show ¬ isNm s from fun h => h12 (by have := h.2; omega))]
      go_wp2
      go_ret
      exact ⟨ret_bool' HE.out, rfl⟩

set_option maxRecDepth 100000 in
set_option maxHeartbeats 1000000 in
theorem m_after (l wd : ByteArray) (w : World) (_hl : l.size ≤ 9223372036854775806) (hw : wd.size ≤ 9223372036854775806) :
    Calls Tryd.prog 10 #[.string l, .string wd] w fun e w' => e = .returned (.tuple #[.string (aft l wd), .bool (decide (isAft l wd))]) ∧ w' = w := by
  have hwr : IntKind.i64.wrap ((wd.size : Int) + 1) = (wd.size : Int) + 1 := by rw [IntKind.wrap_i64]; omega
  by_cases h1 : wd.size + 1 ≤ l.size
  · have hlt : wd.size < l.size := by omega
    have hb := by_at l wd.size hlt
    obtain ⟨c, hc⟩ : ∃ c, c = by_ l wd.size := ⟨_, rfl⟩
    rw [← hc] at hb
    have h1' : ¬ (l.size : Int) < (wd.size : Int) + 1 := by omega
    have HC : Hid (c = by_ l wd.size) := hc
    clear hc
    by_cases h2 : (l.extract 0 wd.size).toList = wd.toList
    · by_cases h32 : c = 32
      · have HA : Hid (isAft l wd) := ⟨h1, h2, HC.out.symm.trans h32⟩
        go_enter Tryd.func10, Tryd.ntmps10
        go_wp2
        go_ret2
        exact ⟨ret_aft (a' := aft l wd) (by unfold aft; rw [if_pos HA.out]) (decide_eq_true HA.out).symm, rfl⟩
      · have HA : Hid (¬ isAft l wd) := fun h => h32 (HC.out.trans h.2.2)
        have h33 : (c == 32) = false := beq_eq_false_iff_ne.2 h32
        have h34 : (c != 32) = true := by rw [bne, h33]; rfl
        go_enter Tryd.func10, Tryd.ntmps10
        go_wp2
        go_ret2
        exact ⟨ret_aft (a' := aft l wd) (by unfold aft; rw [if_neg HA.out]) (decide_eq_false HA.out).symm, rfl⟩
    · have HA : Hid (¬ isAft l wd) := fun h => h2 h.2.1
      go_enter Tryd.func10, Tryd.ntmps10
      go_wp2
      go_ret2
      exact ⟨ret_aft (a' := aft l wd) (by unfold aft; rw [if_neg HA.out]) (decide_eq_false HA.out).symm, rfl⟩
  · have HA : Hid (¬ isAft l wd) := fun h => h1 h.1
    have h1' : (l.size : Int) < (wd.size : Int) + 1 := by omega
    go_enter Tryd.func10, Tryd.ntmps10
    go_wp2
    go_ret2
    exact ⟨ret_aft (a' := aft l wd) (by unfold aft; rw [if_neg HA.out]) (decide_eq_false HA.out).symm, rfl⟩

set_option maxRecDepth 100000 in
set_option maxHeartbeats 1000000 in
theorem m_value (s : ByteArray) (w : World) (hs : s.size ≤ 6) (hd : ∀ i, i < s.size → 48 ≤ by_ s i ∧ by_ s i ≤ 57) :
    Calls Tryd.prog 20 #[.string s] w fun e w' => e = .returned (.int .i64 (valTo s s.size)) ∧ w' = w := by
  have HD : Hid (∀ i, i < s.size → 48 ≤ by_ s i ∧ by_ s i ≤ 57) := hd
  clear hd
  go_enter Tryd.func20, Tryd.ntmps20
  go_wp2
  go_loop [3, 4] (fun a i => ∃ k : Nat, k ≤ s.size ∧ i = .int .i64 k ∧ a = .int .i64 (valTo s k)) (fun _ i => s.size - (intOf i).toNat)
  case atStart => exact ⟨0, Nat.zero_le _, rfl, rfl⟩
  case round =>
    obtain ⟨k, hk, rfl, rfl⟩ := hrel
    by_cases hlt : k < s.size
    · have hb := by_at s k hlt
      obtain ⟨c, hc⟩ : ∃ c, c = by_ s k := ⟨_, rfl⟩
      rw [← hc] at hb
      have hr := HD.out k hlt
      rw [← hc] at hr
      have hv := val_rng HD.out k hk
      have hp : (10 : Int) ^ k ≤ 10 ^ 6 := by
        have : k ≤ 6 := by omega
        match k, this with
        | 0, _ => decide
        | 1, _ => decide
        | 2, _ => decide
        | 3, _ => decide
        | 4, _ => decide
        | 5, _ => decide
        | 6, _ => decide
      obtain ⟨v, hvv⟩ : ∃ v, v = valTo s k := ⟨_, rfl⟩
      rw [← hvv] at hv
      rw [← hvv]
      have HV : Hid (valTo s (k + 1) = v * 10 + (c - 48)) := by rw [hvv, hc]; rfl
      have e0 : (10 : Int) ^ 6 = 1000000 := by decide
      have hv2 : 0 ≤ v ∧ v < 1000000 := by omega
      have w1 : IntKind.u8.wrap (c - 48) = c - 48 := by rw [IntKind.wrap_u8]; omega
      have w2 : IntKind.i64.wrap (v * 10) = v * 10 := by rw [IntKind.wrap_i64]; omega
      have w3 : IntKind.i64.wrap (v * 10 + (c - 48)) = v * 10 + (c - 48) := by rw [IntKind.wrap_i64]; omega
      clear hv hp hvv hc e0
      go_wp2
      go_round
      case rel => exact ⟨k + 1, by omega, by go_num, by rw [HV.out]⟩
      case measure => simp [intOf]; omega
    · have e1 : k = s.size := by omega
      subst e1
      go_wp2
      go_ret
      exact ⟨rfl, rfl⟩

end Go.Proofs.YthmihmnagnibmaaDoor
