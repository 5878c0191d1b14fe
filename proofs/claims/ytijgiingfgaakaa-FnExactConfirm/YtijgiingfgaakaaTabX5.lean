/-
  Tables: the model's Confirm.
-/
import Derived.Test.YtijgiingfgaakaaTabX4
namespace Go.Proofs.Ytijgiingfgaakaa
open Go.RowKit

/-- The boxes of a function of the model. -/
structure Bx (w W : World) (ao : Option Addr) (n c : Nat) (k : Int) (m : ByteArray) : Prop where
  t : W.rowIs w.heap.size 28 1 (fun _ => .slice ao n c)
  k : W.rowIs (w.heap.size + 1) 37 2 (fun i => if i = 0 then .int .i64 k else .string m)
  r : W.rowIs (w.heap.size + 1 + 1) 28 1 (fun _ => .slice none 0 0)
  b : Below w.heap.size w W

theorem Bx.below {w W W' : World} {ao : Option Addr} {n c : Nat} {k : Int} {m : ByteArray} (h : Bx w W ao n c k m) (hb : Below W.heap.size W W') : Bx w W' ao n c k m :=
  ⟨h.t.of_block (hb.block _ h.t.lt), h.k.of_block (hb.block _ h.k.lt), h.r.of_block (hb.block _ h.r.lt), h.b.trans (hb.mono h.b.size)⟩

theorem nine_post {w W : World} {ao : Option Addr} {n c : Nat} {k : Int} {m : ByteArray} {n' : Nat} {cd : Int} {E : Nat → SD} (h : n' = 0 ∧ cd = 9) (hX : Bx w W ao n c k m) : TabPost2 w n' E cd (.returned (.tuple #[.agg #[.slice none 0 0], .int .i64 9])) (W.setCell ⟨w.heap.size + 1 + 1, 0, none⟩ (.slice none 0 0)) := by
  rw [h.1, h.2]
  exact ⟨none, 0, 0, fun _ => ⟨none, 0, 0, 0⟩, rfl, tab_none _ _ _ _ _ _ _, hX.b.setCell (by show w.heap.size ≤ w.heap.size + 1 + 1; omega) _⟩

theorem tab_post {w W W' : World} {ao : Option Addr} {n c : Nat} {k : Int} {m : ByteArray} {n' : Nat} {cd : Int} {E : Nat → SD} {ta : Option Addr} {tb tc : Nat} {tq : Nat → SP} (hX : Bx w W ao n c k m) (hb : Below W.heap.size W W') (hT : TabNew W' W.heap.size W'.heap.size ta tb n' tq E) :
    TabPost2 w n' E cd (.returned (.tuple #[.agg #[.slice ta n' tc], .int .i64 cd])) (W'.setCell ⟨w.heap.size + 1 + 1, 0, none⟩ (.slice ta n' tc)) := by
  have := hX.r.lt
  exact ⟨ta, tb, tc, tq, rfl, (hT.set (a := ⟨w.heap.size + 1 + 1, 0, none⟩) this _).wide (by omega) (by simp), (hX.b.trans (hb.mono hX.b.size)).setCell (by show w.heap.size ≤ w.heap.size + 1 + 1; omega) _⟩

theorem slot_sk {n i : Nat} {D : Nat → SD} {k : Int} {m : ByteArray} (h : slotOf n D k m = some i) : sk (D i).k (D i).m k m := by
  unfold slotOf at h
  have := List.find?_some h
  exact of_decide_eq_true this

theorem mine_of {n : Nat} {D : Nat → SD} {k : Int} {m : ByteArray} {wk rev : Int} {d : SD} (h : FndS n D k m d) (hwk : 0 ≤ wk) :
    (isMine d k m wk rev → ∃ i, i < n ∧ mine n D k m wk rev = some i ∧ d = D i) ∧ (¬ isMine d k m wk rev → mine n D k m wk rev = none) := by
  rcases h with ⟨h0, rfl⟩ | ⟨i, hi, h0, rfl⟩
  · refine ⟨fun hm => ?_, fun _ => mine_none h0⟩
    have : (0 : Int) = wk + 1 := hm.2.1
    omega
  · refine ⟨fun hm => ⟨i, hi, mine_yes h0 ⟨hm.2.2.1, hm.2.1, hm.2.2.2⟩, rfl⟩, fun hm => mine_no h0 (fun hc => hm ⟨slot_sk h0, hc.2.1, hc.1, hc.2.2⟩)⟩

theorem kl_asym {k1 : Int} {m1 : ByteArray} {k2 : Int} {m2 : ByteArray} (h : kl k1 m1 k2 m2 = true) : kl k2 m2 k1 m1 = false := by
  cases hh : kl k2 m2 k1 m1
  · rfl
  · have := kl_trans h hh
    rw [kl_irr ⟨rfl, rfl⟩] at this
    cases this
theorem sk_symm {k1 : Int} {m1 : ByteArray} {k2 : Int} {m2 : ByteArray} (h : sk k1 m1 k2 m2) : sk k2 m2 k1 m1 := ⟨h.1.symm, h.2.symm⟩

theorem up_put {n i : Nat} {D : Nat → SD} (hU : Up n D) (hi : i < n) : (∀ j, j < i → kl (D j).k (D j).m (D i).k (D i).m = true) ∧ (∀ j, i ≤ j → j < n → kl (D j).k (D j).m (D i).k (D i).m = false) ∧ (∀ j, j < n → decide (sk (D j).k (D j).m (D i).k (D i).m) = (true && decide (j = i))) := by
  refine ⟨fun j hj => hU j i hj hi, fun j hij hj => ?_, fun j hj => ?_⟩
  · by_cases e : i = j
    · subst e; exact kl_irr ⟨rfl, rfl⟩
    · exact kl_asym (hU i j (by omega) hj)
  · rw [Bool.true_and]
    by_cases e : j = i
    · subst e; rw [decide_eq_true (rfl : j = j), decide_eq_true (show sk (D j).k (D j).m (D j).k (D j).m from ⟨rfl, rfl⟩)]
    · rw [decide_eq_false e, decide_eq_false]
      intro hs
      rcases Nat.lt_or_gt_of_ne e with h | h
      · have := hU j i h hi
        rw [kl_irr hs] at this; cases this
      · have := hU i j h hj
        rw [kl_irr (sk_symm hs)] at this; cases this

theorem putD_upd (i : Nat) (s : SD) (D : Nat → SD) : putD true i s D = updF D i s := by
  funext j
  unfold putD updF
  by_cases h1 : j < i
  · rw [if_pos h1, if_neg (by omega)]
  · rw [if_neg h1]
    by_cases h2 : j = i
    · rw [if_pos h2, if_pos h2]
    · rw [if_neg h2, if_neg h2, if_pos rfl]

set_option maxRecDepth 100000 in
set_option maxHeartbeats 8000000 in
theorem s_Confirm (ao : Option Addr) (b o n c : Nat) (p : Nat → SP) (D : Nat → SD) (k : Int) (m : ByteArray) (wk rev : Int) (w : World) (h1 : SlotsAt w ao b o n p D) (hm : m.size ≤ 9223372036854775807) (hn : n ≤ 1048576) (hs : ∀ i, i < n → small (D i)) :
    Calls Try.prog 30 #[.agg #[.slice ao n c], .agg #[.int .i64 k, .string m], .int .i64 wk, .int .i64 rev] w fun e w' =>
      TabPost2 w (if okA n D k m wk rev then n else 0) (confD n D k m wk rev) (if okA n D k m wk rev then confC n D k m wk rev else 9) e w' := by
  have HB : Hid (∀ w', Below w.heap.size w w' → SlotsAt w' ao b o n p D) := fun w' hb => h1.below hb
  have HS : Hid (∀ i, i < n → small (D i)) := hs
  have HG : Hid (∀ i, i < n → (D i).n ≤ 1048576) := fun i hi => (hs i hi).2.2.1
  clear h1 hs
  obtain ⟨n', hn'⟩ : ∃ n', n' = if okA n D k m wk rev then n else 0 := ⟨_, rfl⟩
  obtain ⟨cd, hcd⟩ : ∃ cd, cd = if okA n D k m wk rev then confC n D k m wk rev else 9 := ⟨_, rfl⟩
  rw [← hn', ← hcd]
  have HN : Hid (n' = if okA n D k m wk rev then n else 0) := hn'
  have HC : Hid (cd = if okA n D k m wk rev then confC n D k m wk rev else 9) := hcd
  clear hn' hcd
  have rT := ((row1 w (.slice ao n c) 28).alloc (.cells #[.int .i64 k, .string m] 37)).alloc (.cells #[.slice none 0 0] 28)
  have rK := (row2 (w.alloc (.cells #[.slice ao n c] 28)) (.int .i64 k) (.string m) 37).alloc (.cells #[.slice none 0 0] 28)
  have rR := row1 ((w.alloc (.cells #[.slice ao n c] 28)).alloc (.cells #[.int .i64 k, .string m] 37)) (.slice none 0 0) 28
  simp only [World.size_alloc] at rK rR
  have HX : Hid (Bx w _ ao n c k m) := ⟨rT, rK, rR, bel3 w _ _ _⟩
  clear rT rK rR
  go_enter Try.func30, Try.ntmps30
  go_wp2_with fail
  refine (c7 ao b o n c p D _ (HB.out _ (bel3 _ _ _ _))).mono ?_
  rintro e w1 ⟨rfl, hb1⟩
  have X1 : Hid (Bx w w1 ao n c k m) := HX.out.below hb1
  have cT := X1.out.t.cell (i := 0) (by omega)
  have k0 : w1.cell? ⟨w.heap.size + 1, 0, none⟩ = some (.int .i64 k) := X1.out.k.cell (i := 0) (by omega)
  have k1 : w1.cell? ⟨w.heap.size + 1, 1, none⟩ = some (.string m) := X1.out.k.cell (i := 1) (by omega)
  have r0 := X1.out.r.cell (i := 0) (by omega)
  have rf := X1.out.r.frozen 0
  clear hb1 HX
  cases hv : vt n D
  · have HN0 : Hid (n' = 0 ∧ cd = 9) := (fun (hf : okA n D k m wk rev = false) => (by rw [HN.out, HC.out, hf]; exact ⟨rfl, rfl⟩ : n' = 0 ∧ cd = 9)) (by unfold okA; rw [hv]; rfl)
    clear hv
    go_wp2
    refine bodyPost_ret (v := .tuple #[.agg #[.slice none 0 0], .int .i64 9]) (by simp [results, Try.results30, go_sem, r0]) rfl (nine_post HN0.out X1.out)
  have HV : Hid (vt n D = true) := hv
  clear hv
  go_wp2_with fail
  refine (c31 k m _ hm).mono ?_
  rintro e w2 ⟨rfl, hb2⟩
  have X2 : Hid (Bx w w2 ao n c k m) := X1.out.below hb2
  clear hb2 cT k0 k1 r0 rf X1
  have cT := X2.out.t.cell (i := 0) (by omega)
  have k0 : w2.cell? ⟨w.heap.size + 1, 0, none⟩ = some (.int .i64 k) := X2.out.k.cell (i := 0) (by omega)
  have k1 : w2.cell? ⟨w.heap.size + 1, 1, none⟩ = some (.string m) := X2.out.k.cell (i := 1) (by omega)
  have r0 := X2.out.r.cell (i := 0) (by omega)
  have rf := X2.out.r.frozen 0
  cases hk : kv k m
  · have HN0 : Hid (n' = 0 ∧ cd = 9) := (fun (hf : okA n D k m wk rev = false) => (by rw [HN.out, HC.out, hf]; exact ⟨rfl, rfl⟩ : n' = 0 ∧ cd = 9)) (by unfold okA; rw [hk, Bool.false_and, Bool.and_false])
    clear hk
    go_wp2
    refine bodyPost_ret (v := .tuple #[.agg #[.slice none 0 0], .int .i64 9]) (by simp [results, Try.results30, go_sem, r0]) rfl (nine_post HN0.out X2.out)
  have HK : Hid (kv k m = true) := hk
  clear hk
  by_cases hwk : 0 ≤ wk ∧ wk < 16
  case neg =>
    have HN0 : Hid (n' = 0 ∧ cd = 9) := (fun (hf : okA n D k m wk rev = false) => (by rw [HN.out, HC.out, hf]; exact ⟨rfl, rfl⟩ : n' = 0 ∧ cd = 9)) (by unfold okA; rw [decide_eq_false hwk, Bool.false_and, Bool.and_false, Bool.and_false])
    have C32 : Hid (∀ W, Calls Try.prog 34 #[.int .i64 wk] W fun e w' => e = .returned (.bool false) ∧ w' = W) := fun W => by have := t_workerOk wk W; rw [decide_eq_false hwk] at this; exact this
    clear hwk
    go_wp2_with (go_at_call 34; refine (C32.out _).mono ?_; rintro e w3 ⟨rfl, hw3⟩; subst hw3)
    refine bodyPost_ret (v := .tuple #[.agg #[.slice none 0 0], .int .i64 9]) (by simp [results, Try.results30, go_sem, r0]) rfl (nine_post HN0.out X2.out)
  have C32 : Hid (∀ W, Calls Try.prog 34 #[.int .i64 wk] W fun e w' => e = .returned (.bool true) ∧ w' = W) := fun W => by have := t_workerOk wk W; rw [decide_eq_true hwk] at this; exact this
  by_cases hrev : 1 ≤ rev
  case neg =>
    have HN0 : Hid (n' = 0 ∧ cd = 9) := (fun (hf : okA n D k m wk rev = false) => (by rw [HN.out, HC.out, hf]; exact ⟨rfl, rfl⟩ : n' = 0 ∧ cd = 9)) (by unfold okA; rw [decide_eq_false hrev, Bool.and_false, Bool.and_false, Bool.and_false])
    have hr2 : rev < 1 := by omega
    clear hwk hrev
    go_wp2_with (go_at_call 34; refine (C32.out _).mono ?_; rintro e w3 ⟨rfl, hw3⟩; subst hw3)
    refine bodyPost_ret (v := .tuple #[.agg #[.slice none 0 0], .int .i64 9]) (by simp [results, Try.results30, go_sem, r0]) rfl (nine_post HN0.out X2.out)
  have HOK : Hid (okA n D k m wk rev = true) := by show _ = _; unfold okA; rw [HV.out, HK.out, decide_eq_true hwk, decide_eq_true hrev]; rfl
  have HN1 : Hid (n' = n ∧ cd = confC n D k m wk rev) := by rw [HN.out, HC.out, HOK.out]; exact ⟨rfl, rfl⟩
  have HUP : Hid (Up n D) := up_of HV.out
  have CM : Hid (Calls Try.prog 54 #[.agg #[.slice ao n c], .agg #[.int .i64 k, .string m], .int .i64 wk, .int .i64 rev] w2 fun e w' => MineS w2 n D k m wk rev e w') := t_mine ao b o n c p D k m wk rev w2 (HB.out w2 X2.out.b) hn HG.out hwk
  have hwk0 : 0 ≤ wk := hwk.1
  clear hwk
  go_wp2_with (first | (go_at_call 34; refine (C32.out _).mono ?_; rintro e w3 ⟨rfl, hw3⟩; subst hw3))
  refine CM.out.mono ?_
  rintro e w4 ⟨d, oa, cap, r, rfl, hr, hb4, hO4, hF4⟩
  have X4 : Hid (Bx w w4 ao n c k m) := X2.out.below hb4
  have HMO := mine_of (wk := wk) (rev := rev) hF4 hwk0
  have rX := row_sc w4 ⟨oa, 0, 0, cap⟩ d 40
  have BX := bel1 w4 (.cells #[.int .i64 d.k, .string d.m, .bool d.has, .string d.v, .slice oa d.n cap, .int .i64 d.ver, .int .i64 d.chg, .int .i64 d.own, .int .i64 d.sin] 40)
  have X5 : Hid (Bx w (w4.alloc (.cells #[.int .i64 d.k, .string d.m, .bool d.has, .string d.v, .slice oa d.n cap, .int .i64 d.ver, .int .i64 d.chg, .int .i64 d.own, .int .i64 d.sin] 40)) ao n c k m) := X4.out.below BX
  have HK4 : Hid (w4.ownsRow w3.heap.size 37 2 (.slice oa d.n cap) d.n (kcells d.dk d.dm d.n)) := hO4
  have HRX : Hid ((w4.alloc (.cells #[.int .i64 d.k, .string d.m, .bool d.has, .string d.v, .slice oa d.n cap, .int .i64 d.ver, .int .i64 d.chg, .int .i64 d.own, .int .i64 d.sin] 40)).rowIs w4.heap.size 40 9 (sc ⟨oa, 0, 0, cap⟩ d)) := rX
  obtain ⟨y0, y1, y2, y3, y4, y5, y6, y7, y8⟩ := nine_sc rX
  obtain ⟨yf0, yf1, yf2, yf3, yf4, yf5, yf6, yf7, yf8⟩ := nine_frozen rX
  clear hb4 hO4 hF4 cT k0 k1 r0 rf rX BX
  have cT := X5.out.t.cell (i := 0) (by omega)
  have CC : Hid (Calls Try.prog 55 #[.agg #[.slice ao n c]] (w4.alloc (.cells #[.int .i64 d.k, .string d.m, .bool d.has, .string d.v, .slice oa d.n cap, .int .i64 d.ver, .int .i64 d.chg, .int .i64 d.own, .int .i64 d.sin] 40)) fun e w' => ∃ (ta : Option Addr) (tc : Nat), e = .returned (.agg #[.slice ta n tc]) ∧ w'.cell? ⟨w.heap.size + 1 + 1, 0, none⟩ = some (.slice none 0 0) ∧ w'.frozen? ⟨w.heap.size + 1 + 1, 0, none⟩ = false ∧ Hid (∀ cd, TabPost2 w n D cd (.returned (.tuple #[.agg #[.slice ta n tc], .int .i64 cd])) (w'.setCell ⟨w.heap.size + 1 + 1, 0, none⟩ (.slice ta n tc)))) :=
    (t_copy ao b o n c p D _ (HB.out _ X5.out.b) hn HG.out).mono fun e w' ⟨ta, tb, tc, tq, he, hT, hb⟩ => ⟨ta, tc, he, ((X5.out.below hb).r).cell (i := 0) (by omega), (X5.out.below hb).r.frozen 0, fun cd => tab_post X5.out hb hT⟩
  unfold sdl
  cases r
  · have HCN : Hid (confC n D k m wk rev = 1 ∧ confD n D k m wk rev = D) := conf_none (HMO.2 (of_decide_eq_false hr.symm))
    clear HMO hr
    go_wp2_with fail
    refine CC.out.mono ?_
    rintro e w6 ⟨ta, tc, rfl, r0, rf, HP⟩
    go_wp2
    refine bodyPost_ret (v := .tuple #[.agg #[.slice ta n tc], .int .i64 1]) (by simp [results, Try.results30, go_sem, r0]) rfl ?_
    rw [HN1.out.1, HN1.out.2, HCN.out.1, HCN.out.2]
    exact HP.out 1
  · obtain ⟨i, hi, hmi, hdi⟩ := HMO.1 (of_decide_eq_true hr.symm)
    have HMI : Hid (i < n ∧ mine n D k m wk rev = some i ∧ d = D i) := ⟨hi, hmi, hdi⟩
    clear HMO hr hmi hdi
    obtain ⟨hh, hhe⟩ : ∃ hh, d.has = hh := ⟨_, rfl⟩
    have HHE : Hid (d.has = hh) := hhe
    rw [hhe] at X5 HRX CC cT y0 y1 y2 y3 y4 y5 y6 y7 y8 yf0 yf1 yf2 yf3 yf4 yf5 yf6 yf7 yf8
    rw [hhe]
    clear hhe
    cases hh
    · have HCN : Hid (confC n D k m wk rev = 1 ∧ confD n D k m wk rev = D) := conf_no HMI.out.2.1 (by rw [← HMI.out.2.2]; exact HHE.out)
      go_wp2_with fail
      refine CC.out.mono ?_
      rintro e w6 ⟨ta, tc, rfl, r0, rf, HP⟩
      go_wp2
      refine bodyPost_ret (v := .tuple #[.agg #[.slice ta n tc], .int .i64 1]) (by simp [results, Try.results30, go_sem, r0]) rfl ?_
      rw [HN1.out.1, HN1.out.2, HCN.out.1, HCN.out.2]
      exact HP.out 1
    · have HCN : Hid (confC n D k m wk rev = 0 ∧ confD n D k m wk rev = updF D i (cfm (D i) rev)) := conf_yes HMI.out.2.1 (by rw [← HMI.out.2.2]; exact HHE.out)
      have X6 : Hid (Bx w (w4.alloc (.cells #[.int .i64 d.k, .string d.m, .bool true, .string d.v, .slice oa d.n cap, .int .i64 rev, .int .i64 d.chg, .int .i64 0, .int .i64 0] 40)) ao n c k m) := X4.out.below (bel1 w4 _)
      have cT6 := X6.out.t.cell (i := 0) (by omega)
      have CP : Hid (Calls Try.prog 56 #[.agg #[.slice ao n c], .agg #[.int .i64 d.k, .string d.m, .bool true, .string d.v, .slice oa d.n cap, .int .i64 rev, .int .i64 d.chg, .int .i64 0, .int .i64 0]] (w4.alloc (.cells #[.int .i64 d.k, .string d.m, .bool true, .string d.v, .slice oa d.n cap, .int .i64 rev, .int .i64 d.chg, .int .i64 0, .int .i64 0] 40)) fun e w' => ∃ (ta : Option Addr) (tc : Nat), e = .returned (.agg #[.slice ta n tc]) ∧ w'.cell? ⟨w.heap.size + 1 + 1, 0, none⟩ = some (.slice none 0 0) ∧ w'.frozen? ⟨w.heap.size + 1 + 1, 0, none⟩ = false ∧ Hid (TabPost2 w n (updF D i (cfm (D i) rev)) 0 (.returned (.tuple #[.agg #[.slice ta n tc], .int .i64 0])) (w'.setCell ⟨w.heap.size + 1 + 1, 0, none⟩ (.slice ta n tc)))) := by
        have hFit : Fit d := by rw [HMI.out.2.2]; exact ((HB.out w (Below.refl _ _)).slot i HMI.out.1).fit
        obtain ⟨kb, hKN⟩ := keys_own HK4.out
        obtain ⟨u1, u2, u3⟩ := up_put HUP.out HMI.out.1
        have hS : SlotAt (w4.alloc (.cells #[.int .i64 d.k, .string d.m, .bool true, .string d.v, .slice oa d.n cap, .int .i64 rev, .int .i64 d.chg, .int .i64 0, .int .i64 0] 40)) ⟨oa, kb, 0, cap⟩ (cfm d rev) := ⟨(hKN.below (bel1 w4 _)).keys hFit.ks hFit.kn, hFit.sm, hFit.sv, by show (-9223372036854775808 : Int) ≤ 0; omega, by show (0 : Int) ≤ 9223372036854775807; omega⟩
        have hdn : (cfm d rev).n ≤ 1048576 := by show d.n ≤ _; rw [HMI.out.2.2]; exact HG.out i HMI.out.1
        have := t_put ao b o n c p D ⟨oa, kb, 0, cap⟩ (cfm d rev) true i (w4.alloc (.cells #[.int .i64 d.k, .string d.m, .bool true, .string d.v, .slice oa d.n cap, .int .i64 rev, .int .i64 d.chg, .int .i64 0, .int .i64 0] 40)) (HB.out _ X6.out.b) hn HG.out hS hdn (by show ∀ j, j < i → kl (D j).k (D j).m d.k d.m = true; rw [HMI.out.2.2]; exact u1) (by show ∀ j, i ≤ j → j < n → kl (D j).k (D j).m d.k d.m = false; rw [HMI.out.2.2]; exact u2) (by show ∀ j, j < n → decide (sk (D j).k (D j).m d.k d.m) = _; rw [HMI.out.2.2]; exact u3) (fun _ => HMI.out.1) (Nat.le_of_lt HMI.out.1)
        rw [putD_upd, if_pos rfl] at this
        have e1 : (sdv ⟨oa, kb, 0, cap⟩ (cfm d rev)) = .agg #[.int .i64 d.k, .string d.m, .bool true, .string d.v, .slice oa d.n cap, .int .i64 rev, .int .i64 d.chg, .int .i64 0, .int .i64 0] := by unfold sdv cfm; rw [HHE.out]
        rw [e1] at this
        refine this.mono fun e w' ⟨ta, tb, tc, tq, he, hT, hb⟩ => ⟨ta, tc, he, ((X6.out.below hb).r).cell (i := 0) (by omega), (X6.out.below hb).r.frozen 0, ?_⟩
        have e2 : updF D i (cfm d rev) = updF D i (cfm (D i) rev) := by rw [HMI.out.2.2]
        rw [e2] at hT
        exact tab_post X6.out hb hT
      clear CC
      go_wp2_with fail
      refine CP.out.mono ?_
      rintro e w6 ⟨ta, tc, rfl, r0, rf, HP⟩
      go_wp2
      refine bodyPost_ret (v := .tuple #[.agg #[.slice ta n tc], .int .i64 0]) (by simp [results, Try.results30, go_sem, r0]) rfl ?_
      rw [HN1.out.1, HN1.out.2, HCN.out.1, HCN.out.2]
      exact HP.out

end Go.Proofs.Ytijgiingfgaakaa
