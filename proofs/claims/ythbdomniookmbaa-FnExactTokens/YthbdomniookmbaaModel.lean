/-
  The model's Tokens, its helpers.
-/
import Derived.Test.YthbdomniookmbaaTokens
namespace Go.Proofs.Ythbdomniookmbaa
open Go.RowKit

/-- What a run is of. -/
def pk (digits : Bool) : Int → Bool := if digits then dg else wb

set_option maxHeartbeats 4000000 in
theorem c15 (s : ByteArray) (i : Nat) (digits : Bool) (w : World) (hi : i ≤ s.size) (hs : s.size ≤ 1000) :
    Calls Try.prog 15 #[.string s, .int .i64 (i : Int), .bool digits] w fun e w' => e = .returned (.int .i64 ((run (pk digits) s i : Nat) : Int)) ∧ w' = w := by
  cases digits
  · go_enter Try.func15, Try.ntmps15
    go_wp2
    go_loop [7] (fun n => ∃ k : Nat, i + k ≤ s.size ∧ n = .int .i64 k ∧ Hid (k + run wb s (i + k) = run wb s i)) (fun n => s.size - (intOf n).toNat)
    case atStart => exact ⟨0, by omega, rfl, by show _ = _; simp⟩
    case round =>
      obtain ⟨k, hk, rfl, HR⟩ := hrel
      by_cases hlt : i + k < s.size
      · have HB : Hid (bt s (i + k) = (s[i + k].toNat : Int)) := bt_in hlt
        have hx1 : (i : Int) + (k : Int) < (s.size : Int) := by omega
        have hx2 : ((i : Int) + (k : Int)).toNat = i + k := by omega
        have hx3 : (0 : Int) ≤ (i : Int) + (k : Int) := by omega
        have hx4 : IntKind.i64.wrap ((i : Int) + (k : Int)) = (i : Int) + (k : Int) := by rw [IntKind.wrap_i64]; omega
        cases c0 : wb (s[i + k].toNat : Int)
        · have HF : Hid ((run wb s i : Int) = (k : Int)) := by
            show _ = _
            have := HR.out
            rw [run_stop hlt (by rw [HB.out, c0])] at this; omega
          go_wp2_with (go_at_call 30; refine (c30 _ _).mono ?_; rintro e w' ⟨rfl, rfl⟩)
          go_ret
          exact ⟨ret_int HF.out.symm, rfl⟩
        · have HF : Hid ((k + 1) + run wb s (i + (k + 1)) = run wb s i) := by
            show _ = _
            have := HR.out
            rw [run_step hlt (by rw [HB.out, c0])] at this
            rw [show i + (k + 1) = i + k + 1 from by omega]; omega
          go_wp2_with (go_at_call 30; refine (c30 _ _).mono ?_; rintro e w' ⟨rfl, rfl⟩)
          go_round
          case rel => exact ⟨k + 1, by omega, by go_num, HF⟩
          case measure => simp [intOf]; omega
      · have HF : Hid ((run wb s i : Int) = (k : Int)) := by
          show _ = _
          have := HR.out
          rw [run_end hlt] at this; omega
        go_wp2
        go_ret
        exact ⟨ret_int HF.out.symm, rfl⟩
  · go_enter Try.func15, Try.ntmps15
    go_wp2
    go_loop [7] (fun n => ∃ k : Nat, i + k ≤ s.size ∧ n = .int .i64 k ∧ Hid (k + run dg s (i + k) = run dg s i)) (fun n => s.size - (intOf n).toNat)
    case atStart => exact ⟨0, by omega, rfl, by show _ = _; simp⟩
    case round =>
      obtain ⟨k, hk, rfl, HR⟩ := hrel
      by_cases hlt : i + k < s.size
      · have HB : Hid (bt s (i + k) = (s[i + k].toNat : Int)) := bt_in hlt
        have hx1 : (i : Int) + (k : Int) < (s.size : Int) := by omega
        have hx2 : ((i : Int) + (k : Int)).toNat = i + k := by omega
        have hx3 : (0 : Int) ≤ (i : Int) + (k : Int) := by omega
        have hx4 : IntKind.i64.wrap ((i : Int) + (k : Int)) = (i : Int) + (k : Int) := by rw [IntKind.wrap_i64]; omega
        by_cases c0 : (s[i + k].toNat : Int) < 48
        · have HF : Hid ((run dg s i : Int) = (k : Int)) := by
            show _ = _
            have := HR.out
            rw [run_stop hlt (by rw [HB.out]; exact dg_not.2 (by omega))] at this; omega
          go_wp2
          go_ret
          exact ⟨ret_int HF.out.symm, rfl⟩
        by_cases c1 : 57 < (s[i + k].toNat : Int)
        · have HF : Hid ((run dg s i : Int) = (k : Int)) := by
            show _ = _
            have := HR.out
            rw [run_stop hlt (by rw [HB.out]; exact dg_not.2 (by omega))] at this; omega
          go_wp2
          go_ret
          exact ⟨ret_int HF.out.symm, rfl⟩
        · have HF : Hid ((k + 1) + run dg s (i + (k + 1)) = run dg s i) := by
            show _ = _
            have := HR.out
            rw [run_step hlt (by rw [HB.out]; exact dg_range.2 (by omega))] at this
            rw [show i + (k + 1) = i + k + 1 from by omega]; omega
          go_wp2
          go_round
          case rel => exact ⟨k + 1, by omega, by go_num, HF⟩
          case measure => simp [intOf]; omega
      · have HF : Hid ((run dg s i : Int) = (k : Int)) := by
          show _ = _
          have := HR.out
          rw [run_end hlt] at this; omega
        go_wp2
        go_ret
        exact ⟨ret_int HF.out.symm, rfl⟩

theorem sg_any {c : Int} : sg c = (sgs.any fun b => decide ((b.toNat : Int) = c)) := by
  unfold sg sgs
  simp only [List.any_cons, List.any_nil, UInt8.reduceToNat, Bool.or_false]
  rw [Bool.eq_iff_iff]
  simp only [decide_eq_true_eq, Bool.or_eq_true]
  omega

set_option maxHeartbeats 1000000 in
theorem c17 (c : Int) (w : World) :
    Calls Try.prog 17 #[.int .u8 c] w fun e w' => e = .returned (.bool (sg c)) ∧ w' = w := by
  go_enter Try.func17, Try.ntmps17
  go_wp2
  obtain ⟨sT, hsT⟩ : ∃ x : ByteArray, x = sgT := ⟨_, rfl⟩
  have hz : sT.size = 12 := by rw [hsT]; rfl
  have HL : Hid (sT.data.toList = sgs) := by show _ = _; rw [hsT]; rfl
  rw [show (ByteArray.mk #[59, 58, 61, 63, 123, 125, 40, 41, 44, 46, 43, 60]) = sT from hsT.symm]
  clear hsT
  go_loop [4] (fun i => ∃ k : Nat, k ≤ 12 ∧ i = .int .i64 k ∧ Hid (∀ j (h : j < sT.size), j < k → ¬ (sT[j].toNat : Int) = c)) (fun i => 12 - (intOf i).toNat)
  case atStart => exact ⟨0, by omega, rfl, fun j _ h => absurd h (Nat.not_lt_zero _)⟩
  case round =>
    obtain ⟨k, hk, rfl, HA⟩ := hrel
    by_cases hlt : k < sT.size
    · by_cases c0 : (sT[k].toNat : Int) = c
      · have b0 : ((sT[k].toNat : Int) == c) = true := beq_iff_eq.2 c0
        have HF : Hid (sg c = true) := by
          show _ = _
          rw [sg_any, ← HL.out, List.any_eq_true]
          exact ⟨sT[k], by rw [show sT[k] = sT.data.toList[k]'hlt from rfl]; exact List.getElem_mem _, decide_eq_true c0⟩
        clear c0
        go_wp2
        go_ret
        exact ⟨ret_bool HF.out.symm, rfl⟩
      · have b0 : ((sT[k].toNat : Int) == c) = false := beq_eq_false_iff_ne.2 c0
        have HK : Hid (¬ (sT[k].toNat : Int) = c) := c0
        clear c0
        go_wp2
        go_round
        case rel => exact ⟨k + 1, by omega, by go_num, fun j h hj => by
          by_cases e : j = k
          · subst e; exact HK.out
          · exact HA.out j h (by omega)⟩
        case measure => simp [intOf]; omega
    · have HF : Hid (sg c = false) := by
        show _ = _
        rw [sg_any, ← HL.out, List.any_eq_false]
        intro b hb
        obtain ⟨j, hj, rfl⟩ := List.getElem_of_mem hb
        have hj' : j < sT.size := hj
        have := HA.out j hj' (by omega)
        show ¬ decide (((sT[j]'hj').toNat : Int) = c) = true
        rw [decide_eq_true_eq]; exact this
      go_wp2
      go_ret
      exact ⟨ret_bool HF.out.symm, rfl⟩

/-- The model's class. -/
theorem c16_word (t : ByteArray) (hp : 0 < t.size) (h : sl ((t[0]'hp).toNat : Int) = true) : cls t.toList = if rsv t.toList then 2 else if gn t then 1 else 0 := by
  have hh := head_at t hp
  rw [← ByteArray.toList_eq] at hh
  rw [cls_word (fun e => by
    have hl : t.toList.length = t.size := by rw [ByteArray.toList_eq]; rfl
    rw [e] at hl; simp at hl; omega) (by rw [hh]; exact h), gn_list]

theorem c16_num (t : ByteArray) (hp : 0 < t.size) (h : dg ((t[0]'hp).toNat : Int) = true) : cls t.toList = if 9 < t.size ∨ ((t[0]'hp).toNat : Int) = 48 ∧ 1 < t.size then 0 else 3 := by
  have hh := head_at t hp
  have hl : t.toList.length = t.size := by rw [ByteArray.toList_eq]; rfl
  rw [← ByteArray.toList_eq] at hh
  rw [cls_num (fun e => by rw [e] at hl; simp at hl; omega) (by rw [hh]; exact h), hh, hl]

set_option maxHeartbeats 2000000 in
theorem c16 (t : ByteArray) (w : World) (hp : 0 < t.size) (hs : t.size ≤ 1000) (hc : sl ((t[0]'hp).toNat : Int) = true ∨ dg ((t[0]'hp).toNat : Int) = true) :
    Calls Try.prog 16 #[.string t] w fun e w' => e = .returned (.int .i64 (cls t.toList)) ∧ w' = w := by
  by_cases hd : dg ((t[0]'hp).toNat : Int) = true
  · have HC : Hid (cls t.toList = if 9 < t.size ∨ ((t[0]'hp).toNat : Int) = 48 ∧ 1 < t.size then 0 else 3) := c16_num t hp hd
    have hr := dg_range.1 hd
    have r1 := hr.1
    have r2 := hr.2
    clear hc hr hd
    by_cases h9 : 9 < t.size
    · have HF : Hid (cls t.toList = 0) := by show _ = _; rw [HC.out, if_pos (Or.inl h9)]
      go_enter Try.func16, Try.ntmps16
      go_wp2
      go_ret
      exact ⟨ret_int HF.out.symm, rfl⟩
    by_cases h48 : ((t[0]'hp).toNat : Int) = 48
    · have b0 : (((t[0]'hp).toNat : Int) == 48) = true := beq_iff_eq.2 h48
      by_cases hone : 1 < t.size
      · have HF : Hid (cls t.toList = 0) := by show _ = _; rw [HC.out, if_pos (Or.inr ⟨h48, hone⟩)]
        clear h48
        go_enter Try.func16, Try.ntmps16
        go_wp2
        go_ret
        exact ⟨ret_int HF.out.symm, rfl⟩
      · have HF : Hid (cls t.toList = 3) := by show _ = _; rw [HC.out, if_neg (by omega)]
        clear h48
        go_enter Try.func16, Try.ntmps16
        go_wp2
        go_ret
        exact ⟨ret_int HF.out.symm, rfl⟩
    · have b0 : (((t[0]'hp).toNat : Int) == 48) = false := beq_eq_false_iff_ne.2 h48
      have HF : Hid (cls t.toList = 3) := by show _ = _; rw [HC.out, if_neg (by omega)]
      clear h48
      go_enter Try.func16, Try.ntmps16
      go_wp2
      go_ret
      exact ⟨ret_int HF.out.symm, rfl⟩
  · have hs' : sl ((t[0]'hp).toNat : Int) = true := hc.resolve_right hd
    have HC : Hid (cls t.toList = if rsv t.toList then 2 else if gn t then 1 else 0) := c16_word t hp hs'
    have hr := sl_range.1 hs'
    have r1 : ¬ ((t[0]'hp).toNat : Int) ≤ 57 := by omega
    clear hc hr hd hs'
    cases h1 : rsv t.toList
    · cases h2 : gn t
      · have HF : Hid (cls t.toList = 0) := by show _ = _; rw [HC.out, h1, h2]; rfl
        go_enter Try.func16, Try.ntmps16
        go_wp2_with (first | (go_at_call 31; refine (c31 t _).mono ?_; rintro e w' ⟨rfl, rfl⟩) | (go_at_call 32; refine (c32 t _ (by omega)).mono ?_; rintro e w' ⟨rfl, rfl⟩))
        go_ret
        exact ⟨ret_int HF.out.symm, rfl⟩
      · have HF : Hid (cls t.toList = 1) := by show _ = _; rw [HC.out, h1, h2]; rfl
        go_enter Try.func16, Try.ntmps16
        go_wp2_with (first | (go_at_call 31; refine (c31 t _).mono ?_; rintro e w' ⟨rfl, rfl⟩) | (go_at_call 32; refine (c32 t _ (by omega)).mono ?_; rintro e w' ⟨rfl, rfl⟩))
        go_ret
        exact ⟨ret_int HF.out.symm, rfl⟩
    · have HF : Hid (cls t.toList = 2) := by show _ = _; rw [HC.out, h1]; rfl
      go_enter Try.func16, Try.ntmps16
      go_wp2_with (first | (go_at_call 31; refine (c31 t _).mono ?_; rintro e w' ⟨rfl, rfl⟩))
      go_ret
      exact ⟨ret_int HF.out.symm, rfl⟩

end Go.Proofs.Ythbdomniookmbaa
