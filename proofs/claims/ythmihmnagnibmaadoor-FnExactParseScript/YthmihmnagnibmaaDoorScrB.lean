/-
  Scripts: numbers and texts, in the model.
-/
import Derived.Test.YthmihmnagnibmaaDoorScrA
namespace Go.Proofs.YthmihmnagnibmaaDoor
open Go.RowKit

set_option maxRecDepth 100000 in
set_option maxHeartbeats 1000000 in
theorem m_number (s : ByteArray) (w : World) (_hs : s.size ≤ 9223372036854775806) :
    Calls Tryd.prog 11 #[.string s] w fun e w' => e = .returned (.int .i64 (num s)) ∧ w' = w := by
  by_cases h1 : s.size < 1
  · have HN : Hid (num s = -1) := by unfold num; exact if_neg (fun h => by have := h.1; omega)
    have h1' : (s.size : Int) < 1 := by omega
    go_enter Tryd.func11, Tryd.ntmps11
    go_wp2
    go_ret
    exact ⟨ret_int' HN.out.symm, rfl⟩
  have h1' : ¬ (s.size : Int) < 1 := by omega
  by_cases h6 : 6 < s.size
  · have HN : Hid (num s = -1) := by unfold num; exact if_neg (fun h => by have := h.2.1; omega)
    have h6' : 6 < (s.size : Int) := by omega
    go_enter Tryd.func11, Tryd.ntmps11
    go_wp2
    go_ret
    exact ⟨ret_int' HN.out.symm, rfl⟩
  have h6' : ¬ 6 < (s.size : Int) := by omega
  have h0 : 0 < s.size := by omega
  have hb := by_at s 0 h0
  obtain ⟨c, hc⟩ : ∃ c, c = by_ s 0 := ⟨_, rfl⟩
  rw [← hc] at hb
  have HC : Hid (c = by_ s 0) := hc
  clear hc
  by_cases h48 : c = 48
  · by_cases h2 : 1 < s.size
    · have HN : Hid (num s = -1) := by unfold num; exact if_neg (fun h => h.2.2.1 ⟨HC.out.symm.trans h48, h2⟩)
      have h2' : 1 < (s.size : Int) := by omega
      go_enter Tryd.func11, Tryd.ntmps11
      go_wp2
      go_ret
      exact ⟨ret_int' HN.out.symm, rfl⟩
    · have HZ : Hid (¬ (by_ s 0 = 48 ∧ 1 < s.size)) := fun h => h2 h.2
      have h2' : ¬ 1 < (s.size : Int) := by omega
      go_enter Tryd.func11, Tryd.ntmps11
      go_wp2
      go_loop [3] (fun i => ∃ k : Nat, k ≤ s.size ∧ i = .int .i64 k ∧ Hid (∀ j, j < k → 48 ≤ by_ s j ∧ by_ s j ≤ 57)) (fun i => s.size - (intOf i).toNat)
      case atStart => exact ⟨0, Nat.zero_le _, rfl, fun j h => absurd h (Nat.not_lt_zero _)⟩
      case round =>
        obtain ⟨k, hk, rfl, HA⟩ := hrel
        clear hb
        by_cases hlt : k < s.size
        · have hb := by_at s k hlt
          obtain ⟨d, hd⟩ : ∃ d, d = by_ s k := ⟨_, rfl⟩
          rw [← hd] at hb
          have HDD : Hid (d = by_ s k) := hd
          clear hd
          by_cases h48 : d < 48
          · have HN : Hid (num s = -1) := by unfold num; exact if_neg (fun h => by have := (h.2.2.2 k hlt).1; rw [← HDD.out] at this; omega)
            go_wp2
            go_ret
            exact ⟨ret_int' HN.out.symm, rfl⟩
          · by_cases h57 : 57 < d
            · have HN : Hid (num s = -1) := by unfold num; exact if_neg (fun h => by have := (h.2.2.2 k hlt).2; rw [← HDD.out] at this; omega)
              go_wp2
              go_ret
              exact ⟨ret_int' HN.out.symm, rfl⟩
            · have HB : Hid (48 ≤ by_ s k ∧ by_ s k ≤ 57) := by rw [← HDD.out]; exact ⟨by omega, by omega⟩
              go_wp2
              go_round
              case rel => exact ⟨k + 1, by omega, by go_num, fun j hj => by
                by_cases e : j = k
                · subst e; exact HB.out
                · exact HA.out j (by omega)⟩
              case measure => simp [intOf]; omega
        · have HN : Hid (num s = valTo s s.size) := by unfold num; exact if_pos ⟨by omega, by omega, HZ.out, fun i hi => HA.out i (by omega)⟩
          go_wp2_with fail
          refine (m_value s w (by omega) (fun i hi => HA.out i (by omega))).mono ?_
          rintro e w2 ⟨rfl, rfl⟩
          go_wp2
          go_ret
          exact ⟨ret_int' HN.out.symm, rfl⟩
  · have HZ : Hid (¬ (by_ s 0 = 48 ∧ 1 < s.size)) := fun h => h48 (HC.out.trans h.1)
    have h49 : (c == 48) = false := beq_eq_false_iff_ne.2 h48
    go_enter Tryd.func11, Tryd.ntmps11
    go_wp2
    go_loop [3] (fun i => ∃ k : Nat, k ≤ s.size ∧ i = .int .i64 k ∧ Hid (∀ j, j < k → 48 ≤ by_ s j ∧ by_ s j ≤ 57)) (fun i => s.size - (intOf i).toNat)
    case atStart => exact ⟨0, Nat.zero_le _, rfl, fun j h => absurd h (Nat.not_lt_zero _)⟩
    case round =>
      obtain ⟨k, hk, rfl, HA⟩ := hrel
      clear hb
      by_cases hlt : k < s.size
      · have hb := by_at s k hlt
        obtain ⟨d, hd⟩ : ∃ d, d = by_ s k := ⟨_, rfl⟩
        rw [← hd] at hb
        have HDD : Hid (d = by_ s k) := hd
        clear hd
        by_cases h48 : d < 48
        · have HN : Hid (num s = -1) := by unfold num; exact if_neg (fun h => by have := (h.2.2.2 k hlt).1; rw [← HDD.out] at this; omega)
          go_wp2
          go_ret
          exact ⟨ret_int' HN.out.symm, rfl⟩
        · by_cases h57 : 57 < d
          · have HN : Hid (num s = -1) := by unfold num; exact if_neg (fun h => by have := (h.2.2.2 k hlt).2; rw [← HDD.out] at this; omega)
            go_wp2
            go_ret
            exact ⟨ret_int' HN.out.symm, rfl⟩
          · have HB : Hid (48 ≤ by_ s k ∧ by_ s k ≤ 57) := by rw [← HDD.out]; exact ⟨by omega, by omega⟩
            go_wp2
            go_round
            case rel => exact ⟨k + 1, by omega, by go_num, fun j hj => by
              by_cases e : j = k
              · subst e; exact HB.out
              · exact HA.out j (by omega)⟩
            case measure => simp [intOf]; omega
      · have HN : Hid (num s = valTo s s.size) := by unfold num; exact if_pos ⟨by omega, by omega, HZ.out, fun i hi => HA.out i (by omega)⟩
        go_wp2_with fail
        refine (m_value s w (by omega) (fun i hi => HA.out i (by omega))).mono ?_
        rintro e w2 ⟨rfl, rfl⟩
        go_wp2
        go_ret
        exact ⟨ret_int' HN.out.symm, rfl⟩

theorem one_size (s : ByteArray) (k : Nat) (h : k < s.size) : (s.extract k (k + 1)).size = 1 := by
  rw [ByteArray.size_extract]; omega
theorem txt_size (s : ByteArray) : ∀ k, k ≤ s.size → (txtTo s k).size ≤ k
  | 0, _ => Nat.le_refl _
  | k + 1, h => by
    have ih := txt_size s k (by omega)
    show (txtTo s k ++ (if by_ s k = 124 then (⟨#[10]⟩ : ByteArray) else s.extract k (k + 1))).size ≤ k + 1
    rw [ByteArray.size_append]
    split
    · show _ + 1 ≤ k + 1; omega
    · rw [one_size s k (by omega)]; omega

set_option maxRecDepth 100000 in
set_option maxHeartbeats 1000000 in
theorem m_text (s : ByteArray) (w : World) (hs : s.size ≤ 9223372036854775806) :
    Calls Tryd.prog 22 #[.string s] w fun e w' => e = .returned (.string (txtTo s s.size)) ∧ w' = w := by
  go_enter Tryd.func22, Tryd.ntmps22
  go_wp2
  go_loop [3, 4] (fun a i => ∃ k : Nat, k ≤ s.size ∧ i = .int .i64 k ∧ a = .string (txtTo s k)) (fun _ i => s.size - (intOf i).toNat)
  case atStart => exact ⟨0, Nat.zero_le _, rfl, rfl⟩
  case round =>
    obtain ⟨k, hk, rfl, rfl⟩ := hrel
    by_cases hlt : k < s.size
    · have hb := by_at s k hlt
      obtain ⟨d, hd⟩ : ∃ d, d = by_ s k := ⟨_, rfl⟩
      rw [← hd] at hb
      have HDD : Hid (d = by_ s k) := hd
      obtain ⟨x, hx⟩ : ∃ x, x = txtTo s k := ⟨_, rfl⟩
      rw [← hx]
      have HX : Hid (x = txtTo s k) := hx
      have hxs : x.size ≤ k := by rw [hx]; exact txt_size s k (by omega)
      have hx1 : x.size + 1 ≤ 9223372036854775807 := by omega
      clear hd hx
      by_cases h1 : d = 124
      · have HT : Hid (x ++ ⟨#[10]⟩ = txtTo s (k + 1)) := by
          show _ = txtTo s k ++ (if by_ s k = 124 then (⟨#[10]⟩ : ByteArray) else s.extract k (k + 1))
          rw [if_pos (HDD.out.symm.trans h1), HX.out]
        go_wp2
        go_round
        case rel => exact ⟨k + 1, by omega, by go_num, by rw [← HT.out]⟩
        case measure => simp [intOf]; omega
      · have HT : Hid (x ++ s.extract k (k + 1) = txtTo s (k + 1)) := by
          show _ = txtTo s k ++ (if by_ s k = 124 then (⟨#[10]⟩ : ByteArray) else s.extract k (k + 1))
          rw [if_neg (fun h => h1 (HDD.out.trans h)), HX.out]
        have h2 : (d == 124) = false := beq_eq_false_iff_ne.2 h1
        have hw : IntKind.i64.wrap ((k : Int) + 1) = (k : Int) + 1 := by rw [IntKind.wrap_i64]; omega
        have a1 : (k : Int) + 1 ≤ (s.size : Int) := by omega
        have a2 : (0 : Int) ≤ (k : Int) + 1 := by omega
        have a3 : (k : Int) ≤ (k : Int) + 1 := by omega
        have a4 : ((k : Int) + 1).toNat = k + 1 := by omega
        have a5 : k + 1 ≤ s.size := by omega
        have a6 := one_size s k hlt
        go_wp2
        go_round
        case rel => exact ⟨k + 1, by omega, by go_num, by rw [← HT.out]⟩
        case measure => simp [intOf]; omega
    · have e1 : k = s.size := by omega
      subst e1
      go_wp2
      go_ret
      exact ⟨rfl, rfl⟩

end Go.Proofs.YthmihmnagnibmaaDoor
