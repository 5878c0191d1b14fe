/-
  Tables: the model's Circle.
-/
import Derived.Test.YtefplfcfoapnjaaTabS
namespace Go.Proofs.Ytefplfcfoapnjaa
open Go.RowKit

set_option maxHeartbeats 1000000 in
theorem c32 (k : Int) (w : World) :
    Calls Try.prog 32 #[.int .i64 k] w fun e w' => e = .returned (.bool (decide (0 ≤ k ∧ k < 16))) ∧ w' = w := by
  by_cases h : 0 ≤ k <;> by_cases h' : k < 16
  all_goals
    go_enter Try.func32, Try.ntmps32
    go_wp2
    go_ret
    exact ⟨ret_bool (by simp [h, h']), rfl⟩

theorem chn_off {n i nw l : Nat} {D : Nat → SD} {E : Nat → WD} {wk rev k : Int} {m : ByteArray} (hs : slotOf n D k m = some i) (h1 : ¬ (D i).sin = rev) : chn n D nw E wk rev (l + 1) k m = false := by
  unfold chn; rw [hs]; simp only [if_neg h1]
theorem chn_gone {n nw l : Nat} {D : Nat → SD} {E : Nat → WD} {wk rev k : Int} {m : ByteArray} (hs : slotOf n D k m = none) : chn n D nw E wk rev l k m = false := by
  cases l
  · rfl
  · unfold chn; rw [hs]

/-- What the chain is asked over. -/
structure CH (w : World) (ao : Option Addr) (b o n : Nat) (p : Nat → SP) (D : Nat → SD) (wo : Option Addr) (wb wf nw : Nat) (E : Nat → WD) : Prop where
  s : SlotsAt w ao b o n p D
  e : WaitsAt w wo wb wf nw E

theorem c38' (ao : Option Addr) (b o n c : Nat) (p : Nat → SP) (D : Nat → SD) (k : Int) (m : ByteArray) (w : World) (h1 : SlotsAt w ao b o n p D) (hn : n ≤ 1048576) (hG : ∀ i, i < n → (D i).n ≤ 1048576) :
    Calls Try.prog 38 #[.agg #[.slice ao n c], .agg #[.int .i64 k, .string m]] w fun e w' => ∃ d oa cap, e = .returned (sdl d oa cap) ∧ Hid (Below w.heap.size w w') ∧ Hid ((slotOf n D k m = none ∧ d.own = 0) ∨ ∃ i, i < n ∧ slotOf n D k m = some i ∧ d = D i) :=
  (c38 ao b o n c p D k m w h1 hn hG).mono fun e w' ⟨hb, hf⟩ => by
    rcases hf with ⟨h0, he⟩ | ⟨i, oa, cap, hi, h0, he, _⟩
    · exact ⟨⟨0, ByteArray.empty, false, ByteArray.empty, 0, fun _ => 0, fun _ => ByteArray.empty, 0, 0, 0, 0⟩, none, 0, he, hb, Or.inl ⟨h0, rfl⟩⟩
    · exact ⟨D i, oa, cap, he, hb, Or.inr ⟨i, hi, h0, rfl⟩⟩

set_option maxRecDepth 100000 in
set_option maxHeartbeats 8000000 in
theorem c33 (ao : Option Addr) (b o n c : Nat) (p : Nat → SP) (D : Nat → SD) (wo : Option Addr) (wb wf nw wcp : Nat) (E : Nat → WD) (wk rev : Int) (hn : n ≤ 1048576) (hG : ∀ i, i < n → (D i).n ≤ 1048576) (hv : vt n D = true) (hwk : 0 ≤ wk ∧ wk < 16) (hrev : 1 ≤ rev) :
    ∀ (l : Nat) (_ : l ≤ 17) (k : Int) (m : ByteArray) (w : World) (_ : CH w ao b o n p D wo wb wf nw E),
    Calls Try.prog 33 #[.agg #[.slice ao n c], .slice wo nw wcp, .int .i64 wk, .agg #[.int .i64 k, .string m], .int .i64 rev, .int .i64 (l : Int)] w fun e w' => e = .returned (.bool (chn n D nw E wk rev l k m)) ∧ Below w.heap.size w w' := by
  have HG : Hid (∀ i, i < n → (D i).n ≤ 1048576) := hG
  have HV : Hid (vt n D = true) := hv
  clear hG hv
  intro l
  induction l with
  | zero =>
    intro _ k m w h1
    have HB : Hid (∀ w', Below w.heap.size w w' → CH w' ao b o n p D wo wb wf nw E) := fun w' hb => ⟨h1.s.below hb, h1.e.below hb⟩
    have HN : Hid (chn n D nw E wk rev 0 k m = false) := rfl
    clear h1
    go_enter Try.func33, Try.ntmps33
    go_wp2_with fail
    refine (c38' ao b o n c p D k m _ (HB.out _ (bel2 _ _ _)).s hn HG.out).mono ?_
    rintro e w1 ⟨d, oa, cap, rfl, H1, _⟩
    have H2 : Hid (Below w.heap.size w w1) := (bel2 w _ _).trans (H1.out.mono (by simp; omega))
    unfold sdl
    go_wp2
    go_ret
    exact ⟨ret_bool HN.out.symm, H2.out.alloc H2.out.size _⟩
  | succ l ih =>
    intro hl k m w h1
    have HB : Hid (∀ w', Below w.heap.size w w' → CH w' ao b o n p D wo wb wf nw E) := fun w' hb => ⟨h1.s.below hb, h1.e.below hb⟩
    have IH : Hid (∀ (k : Int) (m : ByteArray) (w : World) (_ : CH w ao b o n p D wo wb wf nw E), Calls Try.prog 33 #[.agg #[.slice ao n c], .slice wo nw wcp, .int .i64 wk, .agg #[.int .i64 k, .string m], .int .i64 rev, .int .i64 (l : Int)] w fun e w' => e = .returned (.bool (chn n D nw E wk rev l k m)) ∧ Below w.heap.size w w') := ih (by omega)
    have A1 := h1.e.at_
    have hlen := h1.e.len
    clear h1 ih
    obtain ⟨L, hL⟩ : ∃ L : Int, L = ((l + 1 : Nat) : Int) := ⟨_, rfl⟩
    rw [← hL]
    have b0 : (L == 0) = false := beq_eq_false_iff_ne.2 (by omega)
    have hL1 : IntKind.i64.wrap (L - 1) = (l : Int) := by rw [IntKind.wrap_i64]; omega
    clear hL
    go_enter Try.func33, Try.ntmps33
    go_wp2_with fail
    refine (c38' ao b o n c p D k m _ (HB.out _ (bel2 _ _ _)).s hn HG.out).mono ?_
    rintro e w1 ⟨d, oa, cap, rfl, H1, HD⟩
    have H2 : Hid (Below w.heap.size w w1) := (bel2 w _ _).trans (H1.out.mono (by simp; omega))
    have cT : w1.cell? ⟨w.heap.size, 0, none⟩ = some (.slice ao n c) := by rw [H1.out.cell (p := ⟨w.heap.size, 0, none⟩) (by simp; omega)]; simp
    have hzT : w.heap.size < w1.heap.size := World.block_lt_of_cell? _ _ cT
    clear H1
    unfold sdl
    rcases HD.out with ⟨h0, hd⟩ | ⟨i, hi, h0, rfl⟩
    · have HN : Hid (chn n D nw E wk rev (l + 1) k m = false) := chn_gone h0
      have b1 : (d.own == 0) = true := by rw [beq_iff_eq]; exact hd
      clear hd HD h0
      go_wp2
      go_ret
      exact ⟨ret_bool HN.out.symm, H2.out.alloc H2.out.size _⟩
    · by_cases hs : (D i).sin = rev
      case neg =>
        have HN : Hid (chn n D nw E wk rev (l + 1) k m = false) := chn_off h0 hs
        have b2 : ((D i).sin != rev) = true := by rw [bne_iff_ne]; exact hs
        clear HD h0 hs
        cases b1 : ((D i).own == 0)
        all_goals
          go_wp2
          go_ret
          exact ⟨ret_bool HN.out.symm, H2.out.alloc H2.out.size _⟩
      have hown := held_of HV.out hi (by omega)
      have b1 : ((D i).own == 0) = false := beq_eq_false_iff_ne.2 (by omega)
      have b2 : ((D i).sin != rev) = false := by rw [bne_eq_false_iff_eq]; exact hs
      have hwk1 : IntKind.i64.wrap (wk + 1) = wk + 1 := by rw [IntKind.wrap_i64]; omega
      have hown1 : IntKind.i64.wrap ((D i).own - 1) = (D i).own - 1 := by rw [IntKind.wrap_i64]; omega
      have HSIN : Hid ((D i).sin = rev) := hs
      have HS : Hid (slotOf n D k m = some i) := h0
      clear hs h0 HD
      by_cases ho : (D i).own = wk + 1
      · have HN : Hid (chn n D nw E wk rev (l + 1) k m = true) := chn_yes HS.out HSIN.out ho
        have b3 : ((D i).own == wk + 1) = true := by rw [beq_iff_eq]; exact ho
        clear ho
        go_wp2
        go_ret
        exact ⟨ret_bool HN.out.symm, H2.out.alloc H2.out.size _⟩
      · have HNO : Hid (¬ (D i).own = wk + 1) := ho
        have b3 : ((D i).own == wk + 1) = false := beq_eq_false_iff_ne.2 ho
        clear ho
        have HX0 : Hid (Below w.heap.size w (w1.alloc (.cells #[.int .i64 (D i).k, .string (D i).m, .bool (D i).has, .string (D i).v, .slice oa (D i).n cap, .int .i64 (D i).ver, .int .i64 (D i).chg, .int .i64 (D i).own, .int .i64 (D i).sin] 47))) := H2.out.alloc H2.out.size _
        have s7 : (w1.alloc (.cells #[.int .i64 (D i).k, .string (D i).m, .bool (D i).has, .string (D i).v, .slice oa (D i).n cap, .int .i64 (D i).ver, .int .i64 (D i).chg, .int .i64 (D i).own, .int .i64 (D i).sin] 47)).cell? ⟨w1.heap.size, 7, none⟩ = some (.int .i64 (D i).own) := (row9 w1 (.int .i64 (D i).k) (.string (D i).m) (.bool (D i).has) (.string (D i).v) (.slice oa (D i).n cap) (.int .i64 (D i).ver) (.int .i64 (D i).chg) (.int .i64 (D i).own) (.int .i64 (D i).sin) 47).cell (i := 7) (by omega)
        have cX : (w1.alloc (.cells #[.int .i64 (D i).k, .string (D i).m, .bool (D i).has, .string (D i).v, .slice oa (D i).n cap, .int .i64 (D i).ver, .int .i64 (D i).chg, .int .i64 (D i).own, .int .i64 (D i).sin] 47)).cell? ⟨w.heap.size, 0, none⟩ = some (.slice ao n c) := by rw [(bel1 w1 _).cell (p := ⟨w.heap.size, 0, none⟩) hzT]; exact cT
        go_wp2
        obtain ⟨sx, hsx⟩ : ∃ sx, sx = w1.heap.size := ⟨_, rfl⟩
        obtain ⟨X, hX⟩ : ∃ X, X = w1.alloc (.cells #[.int .i64 (D i).k, .string (D i).m, .bool (D i).has, .string (D i).v, .slice oa (D i).n cap, .int .i64 (D i).ver, .int .i64 (D i).chg, .int .i64 (D i).own, .int .i64 (D i).sin] 47) := ⟨_, rfl⟩
        rw [← hX] at HX0 s7 cX
        rw [← hX]
        rw [← hsx] at s7
        rw [← hsx]
        clear hX hsx cT hzT H2
        go_loopw [14] (fun s wr => ∃ q j : Nat, q ≤ nw ∧ s = .int .i64 q ∧ wr = X.drewN j ∧ Hid (∀ j, j < q → decide ((E j).o = (D i).own - 1) = false)) (fun s _ => nw - (intOf s).toNat)
        case atStart => exact ⟨0, 0, Nat.zero_le _, rfl, rfl, fun j hj => absurd hj (Nat.not_lt_zero _)⟩
        case round =>
          obtain ⟨q, j, hq, rfl, rfl, HA⟩ := hrel
          by_cases hlt : q < nw
          · have e1 := A1 (by omega)
            have hE := (HB.out X HX0.out).e
            obtain ⟨y0, y1, y2⟩ := hE.three q hlt
            clear hE
            subst e1
            have hqn : (q : Int) < (nw : Int) := by omega
            obtain ⟨bq, hbq⟩ : ∃ bq, ((E q).o == (D i).own - 1) = bq := ⟨_, rfl⟩
            have HBQ : Hid (decide ((E q).o = (D i).own - 1) = bq) := by
              show decide ((E q).o = (D i).own - 1) = bq
              rw [← hbq, Bool.eq_iff_iff]; simp
            cases bq
            · go_wp2
              go_quiet (fail)
              go_wp2
              go_roundw
              case rel => exact ⟨q + 1, _, by omega, by go_num, rfl, fun x hx => by
                by_cases e : x = q
                · subst e; exact HBQ.out
                · exact HA.out x (by omega)⟩
              case measure => simp [intOf]; omega
            · have HN : Hid (chn n D nw E wk rev (l + 1) k m = chn n D nw E wk rev l (E q).k (E q).m) := chn_some HS.out HSIN.out HNO.out (find_range hlt HBQ.out HA.out)
              obtain ⟨cc, hcc⟩ : ∃ cc, chn n D nw E wk rev l (E q).k (E q).m = cc := ⟨_, rfl⟩
              have HCC : Hid (chn n D nw E wk rev (l + 1) k m = cc) := HN.out.trans hcc
              have C33 : Hid (∀ W, Below X.heap.size X W → Calls Try.prog 33 #[.agg #[.slice ao n c], .slice (some ⟨wb, wf, none⟩) nw wcp, .int .i64 wk, .agg #[.int .i64 (E q).k, .string (E q).m], .int .i64 rev, .int .i64 (l : Int)] W fun e w' => e = .returned (.bool cc) ∧ Hid (Below X.heap.size X w')) := fun W hW => by
                rw [← hcc]
                exact (IH.out (E q).k (E q).m W (HB.out W (HX0.out.trans (hW.mono HX0.out.size)))).mono fun e w' ⟨he, hb⟩ => ⟨he, hW.trans (hb.mono hW.size)⟩
              have HZ : Hid (∀ W, Below X.heap.size X W → W.cell? ⟨w.heap.size, 0, none⟩ = some (.slice ao n c) ∧ W.cell? ⟨wb, wf + q * 3 + 1, none⟩ = some (.int .i64 (E q).k) ∧ W.cell? ⟨wb, wf + q * 3 + 2, none⟩ = some (.string (E q).m)) := fun W hW =>
                ⟨by rw [hW.cell (p := ⟨w.heap.size, 0, none⟩) (World.block_lt_of_cell? _ _ cX)]; exact cX, by rw [hW.cell (p := ⟨wb, wf + q * 3 + 1, none⟩) (World.block_lt_of_cell? _ _ y1)]; exact y1, by rw [hW.cell (p := ⟨wb, wf + q * 3 + 2, none⟩) (World.block_lt_of_cell? _ _ y2)]; exact y2⟩
              clear hcc HN
              go_wp2
              go_quiet (fail)
              go_wp2_with fail
              go_region_held3 (fun w' => w'.cell? ⟨w.heap.size, 0, none⟩ = some (.slice ao n c) ∧ w'.cell? ⟨wb, wf + q * 3 + 1, none⟩ = some (.int .i64 (E q).k) ∧ w'.cell? ⟨wb, wf + q * 3 + 2, none⟩ = some (.string (E q).m)) (go_keep)
                (first | (go_at_call 33; refine (C33.out _ (by first | exact (below_drewN (Below.refl _ _) _).drew | exact below_drewN (Below.refl _ _) _)).mono ?_; rintro e w5 ⟨rfl, H5⟩; obtain ⟨z0, z1, z2⟩ := HZ.out w5 H5.out))
              all_goals
                go_wp2
                go_ret
                exact ⟨ret_bool HCC.out.symm, HX0.out.trans (H5.out.mono HX0.out.size)⟩
          · have HN : Hid (chn n D nw E wk rev (l + 1) k m = false) := chn_none HS.out HSIN.out HNO.out (none_range (fun j hj => HA.out j (by omega)))
            go_wp2
            go_ret
            exact ⟨ret_bool HN.out.symm, below_drewN HX0.out _⟩

set_option maxRecDepth 100000 in
set_option maxHeartbeats 4000000 in
theorem c13 (ao : Option Addr) (b o n c : Nat) (p : Nat → SP) (D : Nat → SD) (wo : Option Addr) (wb wf nw wcp : Nat) (E : Nat → WD) (wk : Int) (k : Int) (m : ByteArray) (rev : Int) (w : World) (h1 : SlotsAt w ao b o n p D) (h2 : WaitsAt w wo wb wf nw E) (hm : m.size ≤ 9223372036854775807) (hn : n ≤ 1048576) (hG : ∀ i, i < n → (D i).n ≤ 1048576) :
    Calls Try.prog 13 #[.agg #[.slice ao n c], .slice wo nw wcp, .int .i64 wk, .agg #[.int .i64 k, .string m], .int .i64 rev] w fun e w' => e = .returned (.bool (cir n D nw E wk k m rev)) ∧ Below w.heap.size w w' := by
  have HB : Hid (∀ w', Below w.heap.size w w' → CH w' ao b o n p D wo wb wf nw E) := fun w' hb => ⟨h1.below hb, h2.below hb⟩
  have hlen := h2.len
  have HG : Hid (∀ i, i < n → (D i).n ≤ 1048576) := hG
  clear h1 h2 hG
  go_enter Try.func13, Try.ntmps13
  go_wp2_with fail
  refine (c7 ao b o n c p D _ (HB.out _ (bel2 _ _ _)).s).mono ?_
  rintro e w1 ⟨rfl, hb1⟩
  have H1 : Hid (Below w.heap.size w w1) := (bel2 w _ _).trans (hb1.mono (by simp; omega))
  have cT : w1.cell? ⟨w.heap.size, 0, none⟩ = some (.slice ao n c) := by rw [hb1.cell (p := ⟨w.heap.size, 0, none⟩) (by simp; omega)]; simp
  have k0 : w1.cell? ⟨w.heap.size + 1, 0, none⟩ = some (.int .i64 k) := by rw [hb1.cell (p := ⟨w.heap.size + 1, 0, none⟩) (by simp)]; simp
  have k1 : w1.cell? ⟨w.heap.size + 1, 1, none⟩ = some (.string m) := by rw [hb1.cell (p := ⟨w.heap.size + 1, 1, none⟩) (by simp)]; simp
  clear hb1
  cases hv : vt n D
  · have HN : Hid (cir n D nw E wk k m rev = false) := cir_no (by rw [hv]; rfl)
    clear hv
    go_wp2
    go_ret
    exact ⟨ret_bool HN.out.symm, H1.out⟩
  have HV : Hid (vt n D = true) := hv
  clear hv
  go_wp2_with fail
  refine (c31 k m _ hm).mono ?_
  rintro e w2 ⟨rfl, hb2⟩
  have H2 : Hid (Below w.heap.size w w2) := H1.out.trans (hb2.mono H1.out.size)
  have cT2 : w2.cell? ⟨w.heap.size, 0, none⟩ = some (.slice ao n c) := by rw [hb2.cell (p := ⟨w.heap.size, 0, none⟩) (World.block_lt_of_cell? _ _ cT)]; exact cT
  have k02 : w2.cell? ⟨w.heap.size + 1, 0, none⟩ = some (.int .i64 k) := by rw [hb2.cell (p := ⟨w.heap.size + 1, 0, none⟩) (World.block_lt_of_cell? _ _ k0)]; exact k0
  have k12 : w2.cell? ⟨w.heap.size + 1, 1, none⟩ = some (.string m) := by rw [hb2.cell (p := ⟨w.heap.size + 1, 1, none⟩) (World.block_lt_of_cell? _ _ k1)]; exact k1
  clear hb2 cT k0 k1 H1
  cases hk : kv k m
  · have HN : Hid (cir n D nw E wk k m rev = false) := cir_no (by rw [hk, Bool.false_and, Bool.and_false])
    clear hk
    go_wp2
    go_ret
    exact ⟨ret_bool HN.out.symm, H2.out⟩
  have HK : Hid (kv k m = true) := hk
  clear hk
  by_cases hwk : 0 ≤ wk ∧ wk < 16
  case neg =>
    have HN : Hid (cir n D nw E wk k m rev = false) := cir_no (by rw [decide_eq_false hwk, Bool.false_and, Bool.and_false, Bool.and_false])
    have C32 : Hid (∀ W, Calls Try.prog 32 #[.int .i64 wk] W fun e w' => e = .returned (.bool false) ∧ w' = W) := fun W => by have := c32 wk W; rw [decide_eq_false hwk] at this; exact this
    clear hwk
    go_wp2_with (go_at_call 32; refine (C32.out _).mono ?_; rintro e w3 ⟨rfl, hw3⟩; subst hw3)
    go_ret
    exact ⟨ret_bool HN.out.symm, H2.out⟩
  have C32 : Hid (∀ W, Calls Try.prog 32 #[.int .i64 wk] W fun e w' => e = .returned (.bool true) ∧ w' = W) := fun W => by have := c32 wk W; rw [decide_eq_true hwk] at this; exact this
  by_cases hrev : 1 ≤ rev
  case neg =>
    have HN : Hid (cir n D nw E wk k m rev = false) := cir_no (by rw [decide_eq_false hrev, Bool.and_false, Bool.and_false, Bool.and_false])
    have hr2 : rev < 1 := by omega
    clear hwk hrev
    go_wp2_with (go_at_call 32; refine (C32.out _).mono ?_; rintro e w3 ⟨rfl, hw3⟩; subst hw3)
    go_ret
    exact ⟨ret_bool HN.out.symm, H2.out⟩
  by_cases hnw : nw ≤ 16
  case neg =>
    have HN : Hid (cir n D nw E wk k m rev = false) := cir_many (by omega)
    clear hwk
    go_wp2_with (go_at_call 32; refine (C32.out _).mono ?_; rintro e w3 ⟨rfl, hw3⟩; subst hw3)
    go_ret
    exact ⟨ret_bool HN.out.symm, H2.out⟩
  have HN : Hid (cir n D nw E wk k m rev = chn n D nw E wk rev 17 k m) := cir_yes (by rw [HV.out, HK.out, decide_eq_true hwk, decide_eq_true hrev]; rfl) hnw
  have C33 : Hid (Calls Try.prog 33 #[.agg #[.slice ao n c], .slice wo nw wcp, .int .i64 wk, .agg #[.int .i64 k, .string m], .int .i64 rev, .int .i64 17] w2 fun e w' => e = .returned (.bool (chn n D nw E wk rev 17 k m)) ∧ Below w2.heap.size w2 w') := c33 ao b o n c p D wo wb wf nw wcp E wk rev hn HG.out HV.out hwk hrev 17 (Nat.le_refl _) k m w2 (HB.out w2 H2.out)
  clear hwk
  go_wp2_with (first | (go_at_call 32; refine (C32.out _).mono ?_; rintro e w3 ⟨rfl, hw3⟩; subst hw3) | (go_at_call 33; refine C33.out.mono ?_; rintro e w4 ⟨rfl, hb4⟩))
  go_ret
  exact ⟨ret_bool HN.out.symm, H2.out.trans (hb4.mono H2.out.size)⟩

end Go.Proofs.Ytefplfcfoapnjaa
