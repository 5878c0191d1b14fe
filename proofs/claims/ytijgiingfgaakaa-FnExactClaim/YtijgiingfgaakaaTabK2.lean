/-
  Tables: the model's claim.
-/
import Derived.Test.YtijgiingfgaakaaTabK1
import Derived.Deep.DeepCutAuto
import Derived.Great.BuildSlice
namespace Go.Proofs.Ytijgiingfgaakaa
open Go.RowKit

/-- A slot with a key alone. -/
def nz (k : Int) (m : ByteArray) : SD := ⟨k, m, false, ByteArray.empty, 0, fun _ => 0, fun _ => ByteArray.empty, 0, 0, 0, 0⟩

theorem arr2 {xs : Array Value} {a b : Value} (h : xs.size = 2) (h0 : xs[0]? = some a) (h1 : xs[1]? = some b) : xs = #[a, b] := by
  obtain ⟨l⟩ := xs
  match l, h, h0, h1 with
  | [x, y], _, h0, h1 =>
    simp at h0 h1
    rw [h0, h1]

set_option maxRecDepth 100000 in
set_option maxHeartbeats 2000000 in
theorem s_claim (ao : Option Addr) (b o n c : Nat) (p : Nat → SP) (D : Nat → SD) (k : Int) (m : ByteArray) (wk rev cpy : Int) (w : World) (h1 : SlotsAt w ao b o n p D) (hn : n ≤ 1048576) (hs : ∀ i, i < n → small (D i)) (hv : vt n D = true) (hkv : kv k m = true) (hm : m.size ≤ 9223372036854775807) (hwk : 0 ≤ wk ∧ wk < 16) (hrev : 1 ≤ rev) :
    Calls Try.prog 50 #[.agg #[.slice ao n c], .agg #[.int .i64 k, .string m], .int .i64 wk, .int .i64 rev, .int .i64 cpy] w fun e w' =>
      TabPost2 w (clmN n D k m cpy) (clmD n D k m wk rev cpy) (clmC n D k m rev cpy) e w' := by
  have HB : Hid (∀ w', Below w.heap.size w w' → SlotsAt w' ao b o n p D) := fun w' hb => h1.below hb
  have HG : Hid (∀ i, i < n → (D i).n ≤ 1048576) := fun i hi => (hs i hi).2.2.1
  have HV : Hid (vt n D = true) := hv
  have HUP : Hid (Up n D) := up_of hv
  have HK0 : Hid (¬ sk 0 ByteArray.empty k m) := fun h => by
    unfold kv at hkv
    rw [Bool.and_eq_true, decide_eq_true_eq] at hkv
    have := h.1
    omega
  have hlen := h1.len
  clear h1 hs hv hkv
  obtain ⟨n', hn'⟩ : ∃ n', n' = clmN n D k m cpy := ⟨_, rfl⟩
  have rT := ((row1 w (.slice ao n c) 28).alloc (.cells #[.int .i64 k, .string m] 37)).alloc (.cells #[.slice none 0 0] 28)
  have rK := (row2 (w.alloc (.cells #[.slice ao n c] 28)) (.int .i64 k) (.string m) 37).alloc (.cells #[.slice none 0 0] 28)
  have rR := row1 ((w.alloc (.cells #[.slice ao n c] 28)).alloc (.cells #[.int .i64 k, .string m] 37)) (.slice none 0 0) 28
  simp only [World.size_alloc] at rK rR
  have HX : Hid (Bx w _ ao n c k m) := ⟨rT, rK, rR, bel3 w _ _ _⟩
  clear rT rK rR hn'
  have hwk1 : IntKind.i64.wrap (wk + 1) = wk + 1 := by rw [IntKind.wrap_i64]; omega
  go_enter Try.func50, Try.ntmps50
  go_wp2_with fail
  refine (t_find ao b o n c p D k m _ (HB.out _ (bel3 _ _ _ _)) hn HG.out).mono ?_
  rintro e w4 ⟨d, oa, cap, rfl, hb4, hO4, HF4⟩
  have X4 : Hid (Bx w w4 ao n c k m) := HX.out.below hb4.out
  have hw4 : w.heap.size + 1 + 1 < w4.heap.size := X4.out.r.lt
  have X5 : Hid (Bx w (w4.alloc (.cells #[.int .i64 d.k, .string d.m, .bool d.has, .string d.v, .slice oa d.n cap, .int .i64 d.ver, .int .i64 d.chg, .int .i64 d.own, .int .i64 d.sin] 40)) ao n c k m) := X4.out.below (bel1 w4 _)
  have rX := row_sc w4 ⟨oa, 0, 0, cap⟩ d 40
  have y0 : (w4.alloc (.cells #[.int .i64 d.k, .string d.m, .bool d.has, .string d.v, .slice oa d.n cap, .int .i64 d.ver, .int .i64 d.chg, .int .i64 d.own, .int .i64 d.sin] 40)).cell? ⟨w4.heap.size, 0, none⟩ = some (.int .i64 d.k) := rX.cell (i := 0) (by omega)
  have y1 : (w4.alloc (.cells #[.int .i64 d.k, .string d.m, .bool d.has, .string d.v, .slice oa d.n cap, .int .i64 d.ver, .int .i64 d.chg, .int .i64 d.own, .int .i64 d.sin] 40)).cell? ⟨w4.heap.size, 1, none⟩ = some (.string d.m) := rX.cell (i := 1) (by omega)
  have k0 : (w4.alloc (.cells #[.int .i64 d.k, .string d.m, .bool d.has, .string d.v, .slice oa d.n cap, .int .i64 d.ver, .int .i64 d.chg, .int .i64 d.own, .int .i64 d.sin] 40)).cell? ⟨w.heap.size + 1, 0, none⟩ = some (.int .i64 k) := X5.out.k.cell (i := 0) (by omega)
  have k1 : (w4.alloc (.cells #[.int .i64 d.k, .string d.m, .bool d.has, .string d.v, .slice oa d.n cap, .int .i64 d.ver, .int .i64 d.chg, .int .i64 d.own, .int .i64 d.sin] 40)).cell? ⟨w.heap.size + 1, 1, none⟩ = some (.string m) := X5.out.k.cell (i := 1) (by omega)
  have HRX : Hid ((w4.alloc (.cells #[.int .i64 d.k, .string d.m, .bool d.has, .string d.v, .slice oa d.n cap, .int .i64 d.ver, .int .i64 d.chg, .int .i64 d.own, .int .i64 d.sin] 40)).rowIs w4.heap.size 40 9 (sc ⟨oa, 0, 0, cap⟩ d)) := rX
  have HO5 : Hid (∃ lo, (w4.alloc (.cells #[.int .i64 d.k, .string d.m, .bool d.has, .string d.v, .slice oa d.n cap, .int .i64 d.ver, .int .i64 d.chg, .int .i64 d.own, .int .i64 d.sin] 40)).ownsRow lo 37 2 (.slice oa d.n cap) d.n (kcells d.dk d.dm d.n) ∧ some w4.heap.size ≠ (Value.slice oa d.n cap).ownBlock) := ⟨_, hO4.out.alloc _, fun e => by have := (hO4.out.lt _ e.symm).2; omega⟩
  clear rX hb4 hO4 HX
  unfold sdl
  go_wp2_with fail
  refine (c60 d.k d.m k m _).mono ?_
  rintro e w5 ⟨rfl, hb5⟩
  have X6 : Hid (Bx w w5 ao n c k m) := X5.out.below hb5
  have HR5 : Hid (w5.rowIs w4.heap.size 40 9 (sc ⟨oa, 0, 0, cap⟩ d)) := HRX.out.of_block (hb5.block _ HRX.out.lt)
  have HO6 : Hid (∃ lo, w5.ownsRow lo 37 2 (.slice oa d.n cap) d.n (kcells d.dk d.dm d.n) ∧ some w4.heap.size ≠ (Value.slice oa d.n cap).ownBlock) := by
    obtain ⟨lo, h, h2⟩ := HO5.out
    exact ⟨lo, own_below h hb5, h2⟩
  clear hb5 y0 y1 k0 k1 HRX HO5 X5 X4
  obtain ⟨y0, y1, y2, y3, y4, y5, y6, y7, y8⟩ := nine_sc HR5.out
  obtain ⟨yf0, yf1, yf2, yf3, yf4, yf5, yf6, yf7, yf8⟩ := nine_frozen HR5.out
  have cT := X6.out.t.cell (i := 0) (by omega)
  have k0 : w5.cell? ⟨w.heap.size + 1, 0, none⟩ = some (.int .i64 k) := X6.out.k.cell (i := 0) (by omega)
  have k1 : w5.cell? ⟨w.heap.size + 1, 1, none⟩ = some (.string m) := X6.out.k.cell (i := 1) (by omega)
  have CC : Hid (Calls Try.prog 55 #[.agg #[.slice ao n c]] w5 fun e w' => ∃ (ta : Option Addr) (tc : Nat), e = .returned (.agg #[.slice ta n tc]) ∧ w'.cell? ⟨w.heap.size + 1 + 1, 0, none⟩ = some (.slice none 0 0) ∧ w'.frozen? ⟨w.heap.size + 1 + 1, 0, none⟩ = false ∧ Hid (∀ cd, TabPost2 w n D cd (.returned (.tuple #[.agg #[.slice ta n tc], .int .i64 cd])) (w'.setCell ⟨w.heap.size + 1 + 1, 0, none⟩ (.slice ta n tc)))) :=
    (t_copy ao b o n c p D _ (HB.out _ X6.out.b) hn HG.out).mono fun e w' ⟨ta, tb, tc, tq, he, hT, hb⟩ => ⟨ta, tc, he, ((X6.out.below hb).r).cell (i := 0) (by omega), (X6.out.below hb).r.frozen 0, fun cd => tab_post X6.out hb hT⟩
  have HSP : Hid (∀ W, Span w4.heap.size (w4.heap.size + 1) w5 W → Bx w W ao n c k m) := fun W h => X6.out.span h hw4
  have hne1 : w4.heap.size ≠ w.heap.size := by omega
  have hne2 : w4.heap.size ≠ w.heap.size + 1 := by omega
  have hne3 : w.heap.size ≠ w4.heap.size := by omega
  have hne4 : w.heap.size + 1 ≠ w4.heap.size := by omega
  obtain ⟨ss, hss⟩ : ∃ ss, decide (sk d.k d.m k m) = ss := ⟨_, rfl⟩
  have HSS : Hid (decide (sk d.k d.m k m) = ss) := hss
  rw [hss]
  clear hss
  cases ss
  · have HSN : Hid (slotOf n D k m = none) := by
      rcases HF4.out with ⟨h, _⟩ | ⟨i, hi, h, rfl⟩
      · exact h
      · exact absurd (slot_sk h) (of_decide_eq_false HSS.out)
    by_cases hc : cpy ≤ (n : Int)
    · have HCN : Hid (clmC n D k m rev cpy = 2 ∧ clmN n D k m cpy = n ∧ clmD n D k m wk rev cpy = D) := clm_full HSN.out hc
      go_wp2_with fail
      refine CC.out.mono ?_
      rintro e w6 ⟨ta, tc, rfl, r0, rf, HP⟩
      go_wp2
      refine bodyPost_ret (v := .tuple #[.agg #[.slice ta n tc], .int .i64 2]) (by simp [results, Try.results50, go_sem, r0]) rfl ?_
      rw [HCN.out.1, HCN.out.2.1, HCN.out.2.2]
      exact HP.out 2
    · have HCN : Hid (clmC n D k m rev cpy = 0 ∧ clmN n D k m cpy = n + 1 ∧ clmD n D k m wk rev cpy = putD false (posK n D k m) (nw k m wk rev) D) := clm_new HSN.out hc
      have CP : Hid (∀ W, Span w4.heap.size (w4.heap.size + 1) w5 W → Calls Try.prog 56 #[.agg #[.slice ao n c], .agg #[.int .i64 k, .string m, .bool false, .string ByteArray.empty, .slice none 0 0, .int .i64 0, .int .i64 0, .int .i64 (wk + 1), .int .i64 rev]] W fun e w' => ∃ (ta : Option Addr) (tc : Nat), e = .returned (.agg #[.slice ta (n + 1) tc]) ∧ w'.cell? ⟨w.heap.size + 1 + 1, 0, none⟩ = some (.slice none 0 0) ∧ w'.frozen? ⟨w.heap.size + 1 + 1, 0, none⟩ = false ∧ Hid (∀ cd, TabPost2 w (n + 1) (putD false (posK n D k m) (nw k m wk rev) D) cd (.returned (.tuple #[.agg #[.slice ta (n + 1) tc], .int .i64 cd])) (w'.setCell ⟨w.heap.size + 1 + 1, 0, none⟩ (.slice ta (n + 1) tc)))) := fun W hW => by
        have hS : SlotAt W ⟨none, 0, 0, 0⟩ (nw k m wk rev) := ⟨keys_no W _ _, hm, by show (0 : Nat) ≤ _; omega, by show (-9223372036854775808 : Int) ≤ wk + 1; omega, by show wk + 1 ≤ (9223372036854775807 : Int); omega⟩
        have hno : ∀ j, j < n → decide (sk (D j).k (D j).m k m) = (false && decide (j = posK n D k m)) := fun j hj => by
          rw [Bool.false_and]
          exact decide_eq_false (fun h => by have := slot_some HUP.out hj h; rw [HSN.out] at this; cases this)
        exact put_call (HSP.out W hW) HB.out hn HG.out ⟨none, 0, 0, 0⟩ (nw k m wk rev) false (posK n D k m) hS (Nat.zero_le _) (fun j hj => pos_lt hj) (fun j hj hjn => pos_ge HUP.out hj hjn) hno (fun h => by cases h) (pos_le _ _ _ _)
      obtain ⟨old, hold, holds, -⟩ := HR5.out
      obtain ⟨kold, hkold, hkolds, hkat⟩ := X6.out.k
      obtain rfl : kold = #[.int .i64 k, .string m] := arr2 hkolds (hkat 0 (by omega)) (hkat 1 (by omega))
      clear hkat
      go_upto_region 5 with fail
      refine wp_region_lit ?_
      refine wpList_load_row rfl 37 (.tmp 6) rfl (w.heap.size + 1) (by kernel_rfl) 37 #[.int .i64 k, .string m] (0, 0) _ hkold Try.underlying37 rfl (by kernel_rfl) ?_
      refine wpList_buildTo rfl 40 #[(0, .tmp 28)] rfl (some 29) rfl #[.int .i64 k, .string m, .bool false, .string ByteArray.empty, .slice none 0 0, .int .i64 0, .int .i64 0, .int .i64 0, .int .i64 0] (by kernel_rfl) ?_
      refine wpList_store_rowTo rfl 40 (.tmp 12) (.tmp 29) rfl rfl w4.heap.size #[.int .i64 k, .string m, .bool false, .string ByteArray.empty, .slice none 0 0, .int .i64 0, .int .i64 0, .int .i64 0, .int .i64 0] (by kernel_rfl) (by kernel_rfl) 40 old hold (by kernel_rfl) (by exact holds) (by kernel_rfl) ?_
      refine wpList_nil ?_
      (try simp only [Act.put]); (try simp only [List.setIfInBounds_toArray]); (try simp only [List.set_cons_succ]); (try simp only [List.set_cons_zero])
      obtain ⟨W9, hW9⟩ : ∃ W9, W9 = w5.setRow w4.heap.size #[.int .i64 k, .string m, .bool false, .string ByteArray.empty, .slice none 0 0, .int .i64 0, .int .i64 0, .int .i64 0, .int .i64 0] := ⟨_, rfl⟩
      rw [← hW9]
      have HR9 : Hid (W9.rowIs w4.heap.size 40 9 (sc ⟨none, 0, 0, 0⟩ (nz k m))) := by
        rw [hW9]
        exact ⟨_, setRow_heap _ _ _ _ _ _ hold, rfl, fun i hi => by
          match i, hi with
          | 0, _ => rfl
          | 1, _ => rfl
          | 2, _ => rfl
          | 3, _ => rfl
          | 4, _ => rfl
          | 5, _ => rfl
          | 6, _ => rfl
          | 7, _ => rfl
          | 8, _ => rfl⟩
      have HS9 : Hid (Span w4.heap.size (w4.heap.size + 1) w5 W9) := by
        rw [hW9]
        exact ⟨rfl, rfl, rfl, by rw [setRow_size]; exact Nat.le_refl _, fun x _ h => setRow_other _ _ _ _ (by omega)⟩
      clear hW9 hold y0 y1 y2 y3 y4 y5 y6 y7 y8 yf0 yf1 yf2 yf3 yf4 yf5 yf6 yf7 yf8 cT k0 k1
      have X9 := HSP.out W9 HS9.out
      have cT := X9.t.cell (i := 0) (by omega)
      clear X9
      obtain ⟨y0, y1, y2, y3, y4, y5, y6, y7, y8⟩ := nine_sc HR9.out
      obtain ⟨yf0, yf1, yf2, yf3, yf4, yf5, yf6, yf7, yf8⟩ := nine_frozen HR9.out
      unfold nz at y0 y1 y2 y3 y4 y5 y6 y7 y8
      dsimp only at y0 y1 y2 y3 y4 y5 y6 y7 y8
      go_wp2_with fail
      refine (CP.out _ ((HS9.out.set 7 (Nat.le_refl _) (Nat.lt_succ_self _) _).set 8 (Nat.le_refl _) (Nat.lt_succ_self _) _)).mono ?_
      rintro e w6 ⟨ta, tc, rfl, r0, rf, HP⟩
      go_wp2
      refine bodyPost_ret (v := .tuple #[.agg #[.slice ta (n + 1) tc], .int .i64 0]) (by simp [results, Try.results50, go_sem, r0]) rfl ?_
      rw [HCN.out.1, HCN.out.2.1, HCN.out.2.2]
      exact HP.out 0
  · obtain ⟨i, hi, hsl, hdi⟩ : ∃ i, i < n ∧ slotOf n D k m = some i ∧ d = D i := by
      rcases HF4.out with ⟨h, rfl⟩ | ⟨i, hi, h, hd⟩
      · exact absurd (of_decide_eq_true HSS.out) HK0.out
      · exact ⟨i, hi, h, hd⟩
    have HI : Hid (i < n ∧ slotOf n D k m = some i ∧ d = D i) := ⟨hi, hsl, hdi⟩
    clear hsl hdi
    by_cases hsin : d.sin = rev
    · have HCN : Hid (clmC n D k m rev cpy = 1 ∧ clmN n D k m cpy = n ∧ clmD n D k m wk rev cpy = D) := clm_no HI.out.2.1 (by rw [← HI.out.2.2]; exact hsin)
      have b1 : ¬ d.own = 0 := by rw [HI.out.2.2]; exact sv_sin (vt_sv' HV.out HI.out.1) hrev (by rw [← HI.out.2.2]; exact hsin)
      have b2 : (d.sin == rev) = true := by rw [beq_iff_eq]; exact hsin
      clear hsin
      go_wp2_with fail
      refine CC.out.mono ?_
      rintro e w6 ⟨ta, tc, rfl, r0, rf, HP⟩
      go_wp2
      refine bodyPost_ret (v := .tuple #[.agg #[.slice ta n tc], .int .i64 1]) (by simp [results, Try.results50, go_sem, r0]) rfl ?_
      rw [HCN.out.1, HCN.out.2.1, HCN.out.2.2]
      exact HP.out 1
    · have HCN : Hid (clmC n D k m rev cpy = 0 ∧ clmN n D k m cpy = n ∧ clmD n D k m wk rev cpy = updF D i (tk (D i) wk rev)) := clm_take HI.out.2.1 (by rw [← HI.out.2.2]; exact hsin)
      have b2 : (d.sin == rev) = false := by rw [beq_eq_false_iff_ne]; exact hsin
      have CP : Hid (∀ W, Span w4.heap.size (w4.heap.size + 1) w5 W → Calls Try.prog 56 #[.agg #[.slice ao n c], .agg #[.int .i64 d.k, .string d.m, .bool d.has, .string d.v, .slice oa d.n cap, .int .i64 d.ver, .int .i64 d.chg, .int .i64 (wk + 1), .int .i64 rev]] W fun e w' => ∃ (ta : Option Addr) (tc : Nat), e = .returned (.agg #[.slice ta n tc]) ∧ w'.cell? ⟨w.heap.size + 1 + 1, 0, none⟩ = some (.slice none 0 0) ∧ w'.frozen? ⟨w.heap.size + 1 + 1, 0, none⟩ = false ∧ Hid (∀ cd, TabPost2 w n (updF D i (tk (D i) wk rev)) cd (.returned (.tuple #[.agg #[.slice ta n tc], .int .i64 cd])) (w'.setCell ⟨w.heap.size + 1 + 1, 0, none⟩ (.slice ta n tc)))) := fun W hW => by
        obtain ⟨hi, -, hd⟩ := HI.out
        have hFit : Fit d := by rw [hd]; exact ((HB.out w (Below.refl _ _)).slot i hi).fit
        obtain ⟨lo, ho, hob⟩ := HO6.out
        have hoW : W.ownsRow lo 37 2 (.slice oa d.n cap) d.n (kcells d.dk d.dm d.n) := own_same ho (fun g hg => hW.block g (ho.lt g hg).2 (by have : g ≠ w4.heap.size := fun e => hob (by rw [← e]; exact hg.symm); omega))
        obtain ⟨kb, hKN⟩ := keys_own hoW
        obtain ⟨u1, u2, u3⟩ := up_put HUP.out hi
        have hS : SlotAt W ⟨oa, kb, 0, cap⟩ (tk d wk rev) := ⟨hKN.keys hFit.ks hFit.kn, hFit.sm, hFit.sv, by show (-9223372036854775808 : Int) ≤ wk + 1; omega, by show wk + 1 ≤ (9223372036854775807 : Int); omega⟩
        have := put_call (HSP.out W hW) HB.out hn HG.out ⟨oa, kb, 0, cap⟩ (tk d wk rev) true i hS (by show d.n ≤ _; rw [hd]; exact HG.out i hi) (by show ∀ j, j < i → kl (D j).k (D j).m d.k d.m = true; rw [hd]; exact u1) (by show ∀ j, i ≤ j → j < n → kl (D j).k (D j).m d.k d.m = false; rw [hd]; exact u2) (by show ∀ j, j < n → decide (sk (D j).k (D j).m d.k d.m) = _; rw [hd]; exact u3) (fun _ => hi) (Nat.le_of_lt hi)
        rw [putD_upd, if_pos rfl] at this
        rw [← hd]
        exact this
      clear hsin
      go_wp2_with fail
      all_goals
        refine (CP.out _ (by repeat' first | exact Span.refl _ _ _ | (refine Span.set ?_ _ (Nat.le_refl _) (Nat.lt_succ_self _) _))).mono ?_
        rintro e w6 ⟨ta, tc, rfl, r0, rf, HP⟩
        go_wp2
        refine bodyPost_ret (v := .tuple #[.agg #[.slice ta n tc], .int .i64 0]) (by simp [results, Try.results50, go_sem, r0]) rfl ?_
        rw [HCN.out.1, HCN.out.2.1, HCN.out.2.2]
        exact HP.out 0

end Go.Proofs.Ytijgiingfgaakaa
