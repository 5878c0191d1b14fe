/-
  The model's Tokens.
-/
import Derived.Test.YthbdomniookmbaaModel
namespace Go.Proofs.Ythbdomniookmbaa
open Go.RowKit

theorem two_of {s : ByteArray} {k : Nat} (h : k + 1 < s.size) : ((s.extract k (k + 2)).toList == [45, 62]) = decide (bt s k = 45 ∧ bt s (k + 1) = 62) := by
  have e : (s.extract k (k + 2)).toList = [s[k], s[k + 1]] := by
    rw [ByteArray.toList_eq, ByteArray.data_extract, Array.toList_extract, List.extract_eq_take_drop]
    have hl : s.data.toList.length = s.size := rfl
    rw [List.drop_eq_getElem_cons (by omega), List.drop_eq_getElem_cons (by omega), show k + 2 - k = 2 from by omega]
    rfl
  rw [e, bt_in (by omega), bt_in h, Bool.eq_iff_iff]
  simp only [beq_iff_eq, List.cons.injEq, and_true, decide_eq_true_eq, ← UInt8.toNat_inj, UInt8.reduceToNat]
  omega

theorem ptx_one {s : ByteArray} {k : Nat} (h : k < s.size) (hp : plen s k = 1) : (ptx s k).toList = [s[k]] := by
  unfold ptx
  rw [hp, ByteArray.toList_eq, ByteArray.data_extract, Array.toList_extract, List.extract_eq_take_drop]
  have hl : s.data.toList.length = s.size := rfl
  rw [List.drop_eq_getElem_cons (by omega), show k + 1 - k = 1 from by omega]
  rfl

/-- The model's list, one token more. -/
theorem own_next {w wr w3 : World} {oa : Option Addr} {cap gg cap3 k : Nat} {d : List TK} {c : Int} {t : ByteArray} {o2 : Obj} {s : ByteArray} (h : Own w wr (.slice oa d.length cap) d) (hc : cls (ptx s k).toList = c) (ht : ptx s k = t)
    (hown3 : w3.ownsRow w.heap.size 42 3 (.slice (some ⟨gg, 0, none⟩) (d.length + 1) cap3) (d.length + 1) (tcells d ++ [.int .i64 c, .string t, .int .i64 (k : Int)]))
    (hg3 : (wr.alloc o2).grownBy w3 (Value.slice oa d.length cap).ownBlock) : Own w w3 (.slice (some ⟨gg, 0, none⟩) (d.length + 1) cap3) (d ++ [⟨cls (ptx s k).toList, ptx s k, k⟩]) :=
  own_grow (tk := ⟨cls (ptx s k).toList, ptx s k, k⟩) h (Below.refl _ _) (by rw [hc, ht]; exact hown3) hg3

theorem three_one (c : Int) (t : ByteArray) (k : Int) : ∀ u ∈ [Value.int .i64 c, .string t, .int .i64 k], u.oneCell' = true := by
  intro u hu
  simp only [List.mem_cons, List.not_mem_nil, or_false] at hu
  rcases hu with rfl | rfl | rfl <;> rfl

theorem own_start (w : World) : Own w (w.alloc (.cells #[] 42)) (.slice (some ⟨w.heap.size, 0, none⟩) 0 0) [] :=
  ⟨World.ownsRow_lit w #[] 0 (Nat.le_refl _) (by decide) rfl, bel1 w _⟩

theorem cls_nonneg (l : List UInt8) : 0 ≤ cls l := by
  unfold cls
  repeat' split
  all_goals decide

set_option maxRecDepth 100000 in
set_option maxHeartbeats 8000000 in
theorem c5 (s : ByteArray) (w : World) (_hs : s.size ≤ 9223372036854775807) :
    Calls Try.prog 5 #[.string s] w fun e w' => ∃ v, e = .returned v ∧ Own w w' v (toks s) := by
  obtain ⟨i0, hi0, hz0, hz1, hz2⟩ := info_parts Try.info42
  by_cases h1 : s.size ≤ 1000
  case neg =>
    have HT : Hid (toks s = []) := by show _ = _; unfold toks; rw [if_neg h1]
    go_enter Try.func5, Try.ntmps5
    go_wp2
    go_ret
    exact ⟨_, rfl, by rw [HT.out]; exact own_start w⟩
  have HTK : Hid (toks s = tks s 0) := by show _ = _; unfold toks; rw [if_pos h1]
  go_enter Try.func5, Try.ntmps5
  go_wp2
  go_loopw [3, 4] (fun o i wr => ∃ (k : Nat) (d : List TK), k ≤ s.size ∧ i = .int .i64 k ∧ Own w wr o d ∧ Hid (Till s d k)) (fun _ i _ => s.size - (intOf i).toNat)
  case atStart => exact ⟨0, [], Nat.zero_le _, rfl, own_start w, till_start s⟩
  case round =>
    obtain ⟨k, d, hk, rfl, hO, HT⟩ := hrel
    have HO : Hid (Own w wr _ d) := hO
    obtain ⟨oa, cap, rfl⟩ := own_form hO.own
    have OWN := hO.own
    have hbs : w.heap.size ≤ wr.heap.size := hO.below.size
    clear hO
    by_cases hlt : k < s.size
    case neg =>
      have HE : Hid (toks s = d) := by show _ = _; rw [HTK.out]; exact (till_end HT.out hlt).symm
      clear OWN
      go_wp2
      go_ret
      exact ⟨_, rfl, by rw [HE.out]; exact HO.out⟩
    have HB : Hid (bt s k = (s[k].toNat : Int)) := bt_in hlt
    have hdl := till_len HT.out
    have hple := plen_le hlt
    have hplp := plen_pos s k
    by_cases c0 : (s[k].toNat : Int) = 32
    · have b0 : ((s[k].toNat : Int) == 32) = true := beq_iff_eq.2 c0
      have HP : Hid (plen s k = 1 ∧ blk s k = true) := at_space (Or.inl (by rw [HB.out, c0]))
      have HN : Hid (Till s d (k + 1)) := by show Till s d _; have := till_blk HT.out hlt HP.out.2; rw [HP.out.1] at this; exact this
      clear c0 OWN hple hplp
      go_wp2
      go_roundw
      case rel => exact ⟨k + 1, d, by omega, by go_num, HO.out, HN⟩
      case measure => simp [intOf]; omega
    have b0 : ((s[k].toNat : Int) == 32) = false := beq_eq_false_iff_ne.2 c0
    by_cases c1 : (s[k].toNat : Int) = 10
    · have b1 : ((s[k].toNat : Int) == 10) = true := beq_iff_eq.2 c1
      have HP : Hid (plen s k = 1 ∧ blk s k = true) := at_space (Or.inr (by rw [HB.out, c1]))
      have HN : Hid (Till s d (k + 1)) := by show Till s d _; have := till_blk HT.out hlt HP.out.2; rw [HP.out.1] at this; exact this
      clear c0 c1 OWN hple hplp
      go_wp2
      go_roundw
      case rel => exact ⟨k + 1, d, by omega, by go_num, HO.out, HN⟩
      case measure => simp [intOf]; omega
    have b1 : ((s[k].toNat : Int) == 10) = false := beq_eq_false_iff_ne.2 c1
    by_cases c2 : (s[k].toNat : Int) = 35
    · have b2 : ((s[k].toNat : Int) == 35) = true := beq_iff_eq.2 c2
      have HP : Hid (plen s k = 1 + run nn s (k + 1) ∧ blk s k = true) := at_hash (by rw [HB.out, c2])
      have HN : Hid (Till s d (k + plen s k)) := till_blk HT.out hlt HP.out.2
      clear c0 c1 c2 OWN hple hplp
      go_wp2
      go_loop [6] (fun n => ∃ j : Nat, k + j ≤ s.size ∧ 1 ≤ j ∧ n = .int .i64 j ∧ Hid (j + run nn s (k + j) = 1 + run nn s (k + 1))) (fun n => s.size - (intOf n).toNat)
      case atStart => exact ⟨1, by omega, by omega, rfl, by show _ = _; simp⟩
      case round =>
        obtain ⟨j, hj, hj1, rfl, HR⟩ := hrel
        by_cases hl2 : k + j < s.size
        · have HB2 : Hid (bt s (k + j) = (s[k + j].toNat : Int)) := bt_in hl2
          have hx1 : (k : Int) + (j : Int) < (s.size : Int) := by omega
          have hx2 : ((k : Int) + (j : Int)).toNat = k + j := by omega
          have hx3 : (0 : Int) ≤ (k : Int) + (j : Int) := by omega
          have hx4 : IntKind.i64.wrap ((k : Int) + (j : Int)) = (k : Int) + (j : Int) := by rw [IntKind.wrap_i64]; omega
          by_cases d0 : (s[k + j].toNat : Int) = 10
          · have b3 : ((s[k + j].toNat : Int) != 10) = false := by rw [bne_eq_false_iff_eq]; exact d0
            have HE : Hid (plen s k = j) := by
              show _ = _
              have := HR.out
              rw [run_stop hl2 (by rw [HB2.out, d0]; rfl)] at this
              rw [HP.out.1]; omega
            clear d0
            go_wp2
            go_roundw
            case rel => exact ⟨k + j, d, by omega, by go_num, HO.out, by show Till s d _; have := HN.out; rw [HE.out] at this; exact this⟩
            case measure => simp [intOf]; omega
          · have b3 : ((s[k + j].toNat : Int) != 10) = true := by rw [bne_iff_ne]; exact d0
            have HF : Hid ((j + 1) + run nn s (k + (j + 1)) = 1 + run nn s (k + 1)) := by
              show _ = _
              have := HR.out
              rw [run_step hl2 (by rw [HB2.out]; exact decide_eq_true d0)] at this
              rw [show k + (j + 1) = k + j + 1 from by omega]; omega
            clear d0
            go_wp2
            go_round
            case rel => exact ⟨j + 1, by omega, by omega, by go_num, HF⟩
            case measure => simp [intOf]; omega
        · have HE : Hid (plen s k = j) := by
            show _ = _
            have := HR.out
            rw [run_end hl2] at this
            rw [HP.out.1]; omega
          go_wp2
          go_roundw
          case rel => exact ⟨k + j, d, by omega, by go_num, HO.out, by show Till s d _; have := HN.out; rw [HE.out] at this; exact this⟩
          case measure => simp [intOf]; omega
    have b2 : ((s[k].toNat : Int) == 35) = false := beq_eq_false_iff_ne.2 c2
    by_cases c3 : sl (s[k].toNat : Int) = true
    · have hbt : sl (bt s k) = true := by rw [HB.out]; exact c3
      have r1 := (sl_range.1 c3).1
      have r2 := (sl_range.1 c3).2
      have HF : Hid (blk s k = false) := (at_word hbt).2
      have HN : Hid (Till s (d ++ [⟨cls (ptx s k).toList, ptx s k, k⟩]) (k + plen s k)) := till_tok HT.out hlt HF.out
      obtain ⟨L, hL⟩ : ∃ L, L = plen s k := ⟨_, rfl⟩
      have HL : Hid (plen s k = L) := hL.symm
      have HX : Hid (ptx s k = s.extract k (k + L)) := by show _ = _; unfold ptx; rw [← hL]
      obtain ⟨cv, hcv⟩ : ∃ cv, cv = cls (ptx s k).toList := ⟨_, rfl⟩
      have HCV : Hid (cls (ptx s k).toList = cv) := hcv.symm
      rw [← hL] at hple hplp
      have hcv0 : 0 ≤ cv := by rw [hcv]; exact cls_nonneg _
      have HR : Hid (((run (pk false) s k : Nat) : Int) = (L : Int)) := by
        show _ = _
        have hr : run wb s k = run wb s (k + 1) + 1 := run_step hlt (wb_of_sl hbt)
        have hp := (at_word hbt).1
        show ((run wb s k : Nat) : Int) = _
        rw [hL, hr, hp]; omega
      have hsz : (s.extract k (k + L)).size = L := by rw [← HX.out, ptx_size hlt]; exact hL.symm
      have hp0 : 0 < (s.extract k (k + L)).size := by rw [hsz]; exact hplp
      have HCLS : Hid (cls (s.extract k (k + L)).toList = cv) := by show _ = _; rw [← HX.out]; exact hcv.symm
      have HHD : Hid (sl (((s.extract k (k + L))[0]'hp0).toNat : Int) = true ∨ dg (((s.extract k (k + L))[0]'hp0).toNat : Int) = true) := by
        left
        have h2 := ptx_head hlt
        rw [ByteArray.toList_eq, head_at _ (by rw [ptx_size hlt]; omega)] at h2
        have e : ((s.extract k (k + L))[0]'hp0) = (ptx s k)[0]'(by rw [ptx_size hlt]; omega) := by simp only [HX.out]
        rw [e, h2]; exact hbt
      clear hL hcv hbt
      clear c0 c1 c2 c3
      go_wp2_with (first | (go_at_call 15; refine (c15 s k false _ (by omega) (by omega)).mono ?_; rintro e w' ⟨rfl, rfl⟩; rw [HR.out]) | (go_at_call 16; refine (c16 (s.extract k (k + L)) _ hp0 (by omega) HHD.out).mono ?_; rintro e w' ⟨rfl, rfl⟩; rw [HCLS.out]) | (at_builtin; refine wpList_append_lies _ rfl _ _ 22 rfl w.heap.size 42 i0 _ 3 32 Try.underlying22 hi0 hz0 hz1 hz2 rfl (by omega) (.slice oa d.length cap) d.length (tcells d) rfl (OWN.alloc _) ⟨w'.heap.size, 0, none⟩ 1 1 [.int .i64 cv, .string (s.extract k (k + L)), .int .i64 (k : Int)] rfl rfl (cells_three _ _ _ _ _) (three_one _ _ _) (by omega) (by unfold maxLen; omega) (by omega) (by simp; omega) (w'.heap.size + 1) (by simp) ?_; intro gg cap3 w3 hown3 hg3 hat hlt3))
      have FIN := own_next (s := s) (k := k) HO.out HCV.out HX.out hown3 hg3
      go_wp2
      go_roundw
      case rel => exact ⟨k + L, _, by omega, by go_num, FIN, by show Till s _ _; have := HN.out; rw [HL.out] at this; exact this⟩
      case measure => simp [intOf]; omega
    have c3' : sl (s[k].toNat : Int) = false := by simpa using c3
    have hnl : ¬ (97 ≤ (s[k].toNat : Int) ∧ (s[k].toNat : Int) ≤ 122) := sl_not.1 c3'
    by_cases c4 : dg (s[k].toNat : Int) = true
    · have hbt : dg (bt s k) = true := by rw [HB.out]; exact c4
      have r1 := (dg_range.1 c4).1
      have r2 := (dg_range.1 c4).2
      have r3 : ¬ 97 ≤ (s[k].toNat : Int) := by omega
      have HF : Hid (blk s k = false) := (at_num hbt).2
      have HN : Hid (Till s (d ++ [⟨cls (ptx s k).toList, ptx s k, k⟩]) (k + plen s k)) := till_tok HT.out hlt HF.out
      obtain ⟨L, hL⟩ : ∃ L, L = plen s k := ⟨_, rfl⟩
      have HL : Hid (plen s k = L) := hL.symm
      have HX : Hid (ptx s k = s.extract k (k + L)) := by show _ = _; unfold ptx; rw [← hL]
      obtain ⟨cv, hcv⟩ : ∃ cv, cv = cls (ptx s k).toList := ⟨_, rfl⟩
      have HCV : Hid (cls (ptx s k).toList = cv) := hcv.symm
      rw [← hL] at hple hplp
      have hcv0 : 0 ≤ cv := by rw [hcv]; exact cls_nonneg _
      have HR : Hid (((run (pk true) s k : Nat) : Int) = (L : Int)) := by
        show _ = _
        have hr : run dg s k = run dg s (k + 1) + 1 := run_step hlt (hbt)
        have hp := (at_num hbt).1
        show ((run dg s k : Nat) : Int) = _
        rw [hL, hr, hp]; omega
      have hsz : (s.extract k (k + L)).size = L := by rw [← HX.out, ptx_size hlt]; exact hL.symm
      have hp0 : 0 < (s.extract k (k + L)).size := by rw [hsz]; exact hplp
      have HCLS : Hid (cls (s.extract k (k + L)).toList = cv) := by show _ = _; rw [← HX.out]; exact hcv.symm
      have HHD : Hid (sl (((s.extract k (k + L))[0]'hp0).toNat : Int) = true ∨ dg (((s.extract k (k + L))[0]'hp0).toNat : Int) = true) := by
        right
        have h2 := ptx_head hlt
        rw [ByteArray.toList_eq, head_at _ (by rw [ptx_size hlt]; omega)] at h2
        have e : ((s.extract k (k + L))[0]'hp0) = (ptx s k)[0]'(by rw [ptx_size hlt]; omega) := by simp only [HX.out]
        rw [e, h2]; exact hbt
      clear hL hcv hbt
      clear c0 c1 c2 c3 c3' c4 hnl
      go_wp2_with (first | (go_at_call 15; refine (c15 s k true _ (by omega) (by omega)).mono ?_; rintro e w' ⟨rfl, rfl⟩; rw [HR.out]) | (go_at_call 16; refine (c16 (s.extract k (k + L)) _ hp0 (by omega) HHD.out).mono ?_; rintro e w' ⟨rfl, rfl⟩; rw [HCLS.out]) | (at_builtin; refine wpList_append_lies _ rfl _ _ 22 rfl w.heap.size 42 i0 _ 3 32 Try.underlying22 hi0 hz0 hz1 hz2 rfl (by omega) (.slice oa d.length cap) d.length (tcells d) rfl (OWN.alloc _) ⟨w'.heap.size, 0, none⟩ 1 1 [.int .i64 cv, .string (s.extract k (k + L)), .int .i64 (k : Int)] rfl rfl (cells_three _ _ _ _ _) (three_one _ _ _) (by omega) (by unfold maxLen; omega) (by omega) (by simp; omega) (w'.heap.size + 1) (by simp) ?_; intro gg cap3 w3 hown3 hg3 hat hlt3))
      have FIN := own_next (s := s) (k := k) HO.out HCV.out HX.out hown3 hg3
      go_wp2
      go_roundw
      case rel => exact ⟨k + L, _, by omega, by go_num, FIN, by show Till s _ _; have := HN.out; rw [HL.out] at this; exact this⟩
      case measure => simp [intOf]; omega
    have c4' : dg (s[k].toNat : Int) = false := by simpa using c4
    have hnd : ¬ (48 ≤ (s[k].toNat : Int) ∧ (s[k].toNat : Int) ≤ 57) := dg_not.1 c4'
    have HBL : Hid (k + 1 < s.size → bt s (k + 1) = 62 → bt s k = 45 → False) ∨ (k + 1 < s.size ∧ bt s (k + 1) = 62 ∧ bt s k = 45) := by
      by_cases q : k + 1 < s.size ∧ bt s (k + 1) = 62 ∧ bt s k = 45
      · exact Or.inr q
      · exact Or.inl (fun h1 h2 h3 => q ⟨h1, h2, h3⟩)
    rcases HBL with HNA | ⟨q1, q2, q3⟩
    case inr =>
      have HP := at_minus q3
      have HF : Hid (blk s k = false) := HP.2
      have hp2 : plen s k = 2 := by rw [HP.1, if_pos q2]
      have HTW : (s.extract k (k + 2)).toList == [45, 62] := by rw [two_of q1]; exact decide_eq_true ⟨q3, q2⟩
      have e45 : (s[k].toNat : Int) = 45 := by rw [← HB.out]; exact q3
      have HN : Hid (Till s (d ++ [⟨cls (ptx s k).toList, ptx s k, k⟩]) (k + 2)) := by
        have := till_tok HT.out hlt HF.out
        rw [hp2] at this; exact this
      have HX : Hid (ptx s k = s.extract k (k + 2)) := by show _ = _; unfold ptx; rw [hp2]
      have HCV : Hid (cls (ptx s k).toList = 4) := by
        show _ = _
        rw [HX.out, beq_iff_eq.1 HTW]; exact cls_arrow
      have r1 : ¬ 97 ≤ (s[k].toNat : Int) := by omega
      have r2 : ¬ 48 ≤ (s[k].toNat : Int) := by omega
      have hx1 : (k : Int) + 1 < (s.size : Int) := by omega
      have hx2 : (k : Int) + 2 ≤ (s.size : Int) := by omega
      clear c0 c1 c2 c3 c3' c4 c4' hnl hnd hple hplp HP hp2 q2 q3 e45
      go_wp2_with (first | (at_builtin; refine wpList_append_lies _ rfl _ _ 22 rfl w.heap.size 42 i0 _ 3 32 Try.underlying22 hi0 hz0 hz1 hz2 rfl (by omega) (.slice oa d.length cap) d.length (tcells d) rfl (OWN.alloc _) ⟨wr.heap.size, 0, none⟩ 1 1 [.int .i64 4, .string (s.extract k (k + 2)), .int .i64 (k : Int)] rfl rfl (cells_three _ _ _ _ _) (three_one _ _ _) (by omega) (by unfold maxLen; omega) (by omega) (by simp; omega) (wr.heap.size + 1) (by simp) ?_; intro gg cap3 w3 hown3 hg3 hat hlt3))
      have FIN := own_next (s := s) (k := k) HO.out HCV.out HX.out hown3 hg3
      go_wp2
      go_roundw
      case rel => exact ⟨k + 2, _, by omega, by go_num, FIN, HN⟩
      case measure => simp [intOf]; omega
    have HP : plen s k = 1 ∧ blk s k = false := by
      by_cases q : bt s k = 45
      · have h := at_minus q
        refine ⟨?_, h.2⟩
        rw [h.1]
        by_cases q2 : bt s (k + 1) = 62
        · by_cases q1 : k + 1 < s.size
          · exact absurd (HNA.out q1 q2 q) (fun h => h)
          · rw [bt_out q1] at q2; omega
        · rw [if_neg q2]
      · exact at_one (by rw [HB.out]; exact c0) (by rw [HB.out]; exact c1) (by rw [HB.out]; exact c2) (by rw [HB.out]; exact c3') (by rw [HB.out]; exact c4') q
    have HF : Hid (blk s k = false) := HP.2
    have HN : Hid (Till s (d ++ [⟨cls (ptx s k).toList, ptx s k, k⟩]) (k + 1)) := by
      have := till_tok HT.out hlt HF.out
      rw [HP.1] at this; exact this
    have HX : Hid (ptx s k = s.extract k (k + 1)) := by show _ = _; unfold ptx; rw [HP.1]
    have HC1 : Hid (cls (ptx s k).toList = if sg (s[k].toNat : Int) then 4 else 0) := by
      show _ = _
      rw [ptx_one hlt HP.1]; exact cls_one c3' c4'
    have HQ : (k + 1 < s.size ∧ ((s.extract k (k + 2)).toList == [45, 62]) = false) ∨ ¬ k + 1 < s.size := by
      by_cases q1 : k + 1 < s.size
      · left
        refine ⟨q1, ?_⟩
        rw [two_of q1]
        exact decide_eq_false (fun h => HNA.out q1 h.2 h.1)
      · exact Or.inr q1
    have HR3 : (¬ 97 ≤ (s[k].toNat : Int) ∧ ¬ 48 ≤ (s[k].toNat : Int)) ∨ (¬ 97 ≤ (s[k].toNat : Int) ∧ 48 ≤ (s[k].toNat : Int) ∧ ¬ (s[k].toNat : Int) ≤ 57) ∨ (97 ≤ (s[k].toNat : Int) ∧ ¬ (s[k].toNat : Int) ≤ 122 ∧ 48 ≤ (s[k].toNat : Int) ∧ ¬ (s[k].toNat : Int) ≤ 57) := by omega
    clear c0 c1 c2 c3 c3' c4 c4' hnl hnd hple hplp HP HNA
    cases hsg : sg (s[k].toNat : Int)
    case false =>
      have HCV : Hid (cls (ptx s k).toList = 0) := by show _ = _; rw [HC1.out, hsg]; rfl
      rcases HR3 with ⟨r1, r2⟩ | ⟨r1, r2, r3⟩ | ⟨r1, r2, r3, r4⟩ <;> rcases HQ with ⟨q1, q2⟩ | q1
      all_goals
        first | have hx1 : (k : Int) + 1 < (s.size : Int) := by omega | have hx1 : ¬ (k : Int) + 1 < (s.size : Int) := by omega
        go_wp2_with (first | (go_at_call 17; refine (c17 _ _).mono ?_; rintro e w' ⟨rfl, rfl⟩) | (at_builtin; refine wpList_append_lies _ rfl _ _ 22 rfl w.heap.size 42 i0 _ 3 32 Try.underlying22 hi0 hz0 hz1 hz2 rfl (by omega) (.slice oa d.length cap) d.length (tcells d) rfl (OWN.alloc _) ⟨w'.heap.size, 0, none⟩ 1 1 [.int .i64 0, .string (s.extract k (k + 1)), .int .i64 (k : Int)] rfl rfl (cells_three _ _ _ _ _) (three_one _ _ _) (by omega) (by unfold maxLen; omega) (by omega) (by simp; omega) (w'.heap.size + 1) (by simp) ?_; intro gg cap3 w3 hown3 hg3 hat hlt3))
        have FIN := own_next (s := s) (k := k) HO.out HCV.out HX.out hown3 hg3
        go_wp2
        go_roundw
        case rel => exact ⟨k + 1, _, by omega, by go_num, FIN, HN⟩
        case measure => simp [intOf]; omega
    case true =>
      have HCV : Hid (cls (ptx s k).toList = 4) := by show _ = _; rw [HC1.out, hsg]; rfl
      rcases HR3 with ⟨r1, r2⟩ | ⟨r1, r2, r3⟩ | ⟨r1, r2, r3, r4⟩ <;> rcases HQ with ⟨q1, q2⟩ | q1
      all_goals
        first | have hx1 : (k : Int) + 1 < (s.size : Int) := by omega | have hx1 : ¬ (k : Int) + 1 < (s.size : Int) := by omega
        go_wp2_with (first | (go_at_call 17; refine (c17 _ _).mono ?_; rintro e w' ⟨rfl, rfl⟩) | (at_builtin; refine wpList_append_lies _ rfl _ _ 22 rfl w.heap.size 42 i0 _ 3 32 Try.underlying22 hi0 hz0 hz1 hz2 rfl (by omega) (.slice oa d.length cap) d.length (tcells d) rfl (OWN.alloc _) ⟨w'.heap.size, 0, none⟩ 1 1 [.int .i64 4, .string (s.extract k (k + 1)), .int .i64 (k : Int)] rfl rfl (cells_three _ _ _ _ _) (three_one _ _ _) (by omega) (by unfold maxLen; omega) (by omega) (by simp; omega) (w'.heap.size + 1) (by simp) ?_; intro gg cap3 w3 hown3 hg3 hat hlt3))
        have FIN := own_next (s := s) (k := k) HO.out HCV.out HX.out hown3 hg3
        go_wp2
        go_roundw
        case rel => exact ⟨k + 1, _, by omega, by go_num, FIN, HN⟩
        case measure => simp [intOf]; omega

end Go.Proofs.Ythbdomniookmbaa
