/-
  Merged for the claim: PgU PgV.
-/
import Derived.Test.YtdjkgilohhjfoaaGreatDoorM19
namespace Go.Proofs.YtdjkgilohhjfoaaGreatDoor
open Go.RowKit

set_option maxRecDepth 100000 in
set_option maxHeartbeats 8000000 in
theorem mx_if {tb o c : Nat} {ao : Option Addr} {ts : List TK} {f : Nat} (IH : MEC tb o ts f) (w : World) (h : MS w tb o ao ts) {i : Nat} (hf : ts.length - i < f + 1) (hs : isT ts i sIf = true) :
    Calls Tryz.prog 64 #[.slice ao ts.length c, .int .i64 (i : Int)] w (MER w (exP false ts (f + 1) i)) := by
  obtain ⟨i0, hi0, hz0, hz1, hz2⟩ := info_parts Tryz.infoEI
  have hi := isT_lt hs
  have hln := h.tk.len
  have q0 : isT ts i sFun = false := isT_one hs (by decide)
  have HR0 : Hid (exP false ts (f + 1) i = ifP ts (exP false ts f) (i + 1)) := by
    show _ = _
    rw [exP, q0, if_neg (by decide), if_pos hs]
  have HMW : Hid (∀ W, Below w.heap.size w W → MS W tb o ao ts) := fun W hb => h.below hb
  have HMS : Hid (MS (bxE w) tb o ao ts) := h.below (bel1 _ _)
  have HX0 : Hid (XW w (bxE w)) := XW.start w
  have HIH : Hid (MEC tb o ts f) := IH
  have HF : Hid (ts.length - i < f + 1) := hf
  have HFE : Hid (Far ts.length (exP false ts f)) := ex_far f
  have C1 : Hid (Calls Tryz.prog 64 #[.slice ao ts.length c, .int .i64 ((i : Int) + 1)] (bxE w) (MER (bxE w) (exP false ts f (i + 1)))) := IH _ _ _ _ _ HMS.out (by omega) (by omega) (by omega)
  have wi1 : IntKind.i64.wrap ((i : Int) + 1) = (i : Int) + 1 := by rw [IntKind.wrap_i64]; omega
  clear h IH hf
  go_enter Tryz.func64, Tryz.ntmps64
  go_wp2_with fail
  refine (m_isb HMS.out (i := i) (rfl) (l := sFun) q0 rfl (by decide)).mono ?_
  rintro e w' ⟨rfl, rfl⟩
  go_wp2_with fail
  refine (m_isb HMS.out (i := i) (rfl) (l := sIf) hs rfl (by decide)).mono ?_
  rintro e w' ⟨rfl, rfl⟩
  go_wp2_with fail
  refine C1.out.mono ?_
  rintro e w2 ⟨hb2, hr2⟩
  have HX2 : Hid (XW w w2) := HX0.out.on hb2
  cases ht : exP false ts f (i + 1) with
  | none =>
    rw [ht] at hr2
    obtain ⟨va1, n1, c1, rfl⟩ := hr2
    have HNO : Hid (exP false ts (f + 1) i = none) := by show _ = _; rw [HR0.out]; unfold ifP; rw [ht]
    have HX3 : Hid (XW w (w2.alloc (.cells #[.slice va1 n1 c1, .int .i64 (-1)] 111))) := HX2.out.on (bel1 _ _)
    clear ht hb2
    go_wp2_with fail
    refine (m_noExpr _).mono ?_
    rintro e wN ⟨⟨vaN, nN, cN, rfl⟩, hbN⟩
    have XN := HX3.out.on hbN.out
    have HXN : Hid (XW w wN) := XN
    have d0 := XN.box.cell (i := 0) (by omega)
    have d1 := XN.box.cell (i := 1) (by omega)
    have z0 := XN.box.frozen 0
    have z1 := XN.box.frozen 1
    clear XN hbN
    go_wp2
    have RX := (HXN.out.box.set 0 (.slice vaN nN cN)).set 1 (.int .i64 (-1))
    refine bodyPost_ret (ret_ex (k := 4) rfl (RX.cell (i := 0) (by omega)) (RX.cell (i := 1) (by omega)) _ rfl) rfl ?_
    rw [HNO.out]
    exact ⟨below_box HXN.out.below _ _, vaN, nN, cN, rfl⟩
  | some z =>
    obtain ⟨l1, j⟩ := z
    rw [ht] at hr2
    obtain ⟨va1, n1, c1, k', xs, rfl, rfl, hre, hxs⟩ := hr2
    obtain ⟨far1, far2, far3⟩ := HFE.out _ _ _ ht
    have hj0 : ¬ (j : Int) < 0 := by omega
    have hxb : xs.length ≤ 1000 := by
      have hxl : xs.length = l1.length := by rw [← hxs, List.length_map]
      omega
    have HX3 : Hid (XW w (w2.alloc (.cells #[.slice va1 n1 c1, .int .i64 (j : Int)] 111))) := HX2.out.on (bel1 _ _)
    have HM3 : Hid (MS (w2.alloc (.cells #[.slice va1 n1 c1, .int .i64 (j : Int)] 111)) tb o ao ts) := HMW.out _ HX3.out.below
    have HB3 : Hid (XB w w2.heap.size va1 n1 c1 j xs (w2.alloc (.cells #[.slice va1 n1 c1, .int .i64 (j : Int)] 111))) := XB.new HX2.out (hre.mono (by simp))
    have HXS : Hid (xs.map Prod.fst = l1) := hxs
    have HR1 : Hid (exP false ts (f + 1) i = if isT ts j sThen then (match exP false ts f (j + 1) with | none => none | some (a, k) => if isT ts k sElse then (match exP false ts f (k + 1) with | none => none | some (b, l) => some (l1 ++ a ++ b ++ [exO 8], l)) else none) else none) := by show _ = _; rw [HR0.out]; unfold ifP; rw [ht]; rfl
    clear ht hb2 hre hxs
    cases at1 : isT ts j sThen with
    | false =>
      have HNO : Hid (exP false ts (f + 1) i = none) := by show _ = _; rw [HR1.out, at1]; rfl
      go_wp2_with fail
      refine (m_isb HM3.out (i := j) (rfl) (l := sThen) at1 rfl (by decide)).mono ?_
      rintro e w' ⟨rfl, rfl⟩
      go_wp2_with fail
      refine (m_noExpr _).mono ?_
      rintro e wN ⟨⟨vaN, nN, cN, rfl⟩, hbN⟩
      have XN := HX3.out.on hbN.out
      have HXN : Hid (XW w wN) := XN
      have d0 := XN.box.cell (i := 0) (by omega)
      have d1 := XN.box.cell (i := 1) (by omega)
      have z0 := XN.box.frozen 0
      have z1 := XN.box.frozen 1
      clear XN hbN
      go_wp2
      have RX := (HXN.out.box.set 0 (.slice vaN nN cN)).set 1 (.int .i64 (-1))
      refine bodyPost_ret (ret_ex (k := 4) rfl (RX.cell (i := 0) (by omega)) (RX.cell (i := 1) (by omega)) _ rfl) rfl ?_
      rw [HNO.out]
      exact ⟨below_box HXN.out.below _ _, vaN, nN, cN, rfl⟩
    | true =>
      have hjr := isT_lt at1
      have wj1 : IntKind.i64.wrap ((j : Int) + 1) = (j : Int) + 1 := by rw [IntKind.wrap_i64]; omega
      have C2 : Hid (Calls Tryz.prog 64 #[.slice ao ts.length c, .int .i64 ((j : Int) + 1)] (w2.alloc (.cells #[.slice va1 n1 c1, .int .i64 (j : Int)] 111)) (MER (w2.alloc (.cells #[.slice va1 n1 c1, .int .i64 (j : Int)] 111)) (exP false ts f (j + 1)))) := HIH.out _ _ _ _ _ HM3.out (by omega) (by have := HF.out; omega) (by omega)
      go_wp2_with fail
      refine (m_isb HM3.out (i := j) (rfl) (l := sThen) at1 rfl (by decide)).mono ?_
      rintro e w' ⟨rfl, rfl⟩
      go_wp2_with fail
      refine C2.out.mono ?_
      rintro e w4 ⟨hb4, hr4⟩
      have HX4 : Hid (XW w w4) := HX3.out.on hb4
      have HB4 : Hid (XB w w2.heap.size va1 n1 c1 j xs w4) := HB3.out.on hb4
      cases ht : exP false ts f (j + 1) with
      | none =>
        rw [ht] at hr4
        obtain ⟨va2, n2, c2, rfl⟩ := hr4
        have HNO : Hid (exP false ts (f + 1) i = none) := by show _ = _; rw [HR1.out, at1, if_pos rfl, ht]
        have HX5 : Hid (XW w (w4.alloc (.cells #[.slice va2 n2 c2, .int .i64 (-1)] 111))) := HX4.out.on (bel1 _ _)
        clear ht hb4
        go_wp2_with fail
        refine (m_noExpr _).mono ?_
        rintro e wN ⟨⟨vaN, nN, cN, rfl⟩, hbN⟩
        have XN := HX5.out.on hbN.out
        have HXN : Hid (XW w wN) := XN
        have d0 := XN.box.cell (i := 0) (by omega)
        have d1 := XN.box.cell (i := 1) (by omega)
        have z0 := XN.box.frozen 0
        have z1 := XN.box.frozen 1
        clear XN hbN
        go_wp2
        have RX := (HXN.out.box.set 0 (.slice vaN nN cN)).set 1 (.int .i64 (-1))
        refine bodyPost_ret (ret_ex (k := 4) rfl (RX.cell (i := 0) (by omega)) (RX.cell (i := 1) (by omega)) _ rfl) rfl ?_
        rw [HNO.out]
        exact ⟨below_box HXN.out.below _ _, vaN, nN, cN, rfl⟩
      | some z =>
        obtain ⟨l2, k⟩ := z
        rw [ht] at hr4
        obtain ⟨va2, n2, c2, k', ys, rfl, rfl, hre, hys⟩ := hr4
        obtain ⟨far4, far5, far6⟩ := HFE.out _ _ _ ht
        have hk0 : ¬ (k : Int) < 0 := by omega
        have hyb : ys.length ≤ 1000 := by
          have hyl : ys.length = l2.length := by rw [← hys, List.length_map]
          omega
        have HX5 : Hid (XW w (w4.alloc (.cells #[.slice va2 n2 c2, .int .i64 (k : Int)] 111))) := HX4.out.on (bel1 _ _)
        have HM5 : Hid (MS (w4.alloc (.cells #[.slice va2 n2 c2, .int .i64 (k : Int)] 111)) tb o ao ts) := HMW.out _ HX5.out.below
        have HC5 : Hid (XB w w4.heap.size va2 n2 c2 k ys (w4.alloc (.cells #[.slice va2 n2 c2, .int .i64 (k : Int)] 111))) := XB.new HX4.out (hre.mono (by simp; have := HX2.out.box.lt; omega))
        have HB5 : Hid (XB w w2.heap.size va1 n1 c1 j xs (w4.alloc (.cells #[.slice va2 n2 c2, .int .i64 (k : Int)] 111))) := HB4.out.on (bel1 _ _)
        have HYS : Hid (ys.map Prod.fst = l2) := hys
        have hw4 : w2.heap.size + 1 ≤ w4.heap.size := by have := hb4.size; simp at this; omega
        have HR2 : Hid (exP false ts (f + 1) i = if isT ts k sElse then (match exP false ts f (k + 1) with | none => none | some (b, l) => some (l1 ++ l2 ++ b ++ [exO 8], l)) else none) := by show _ = _; rw [HR1.out, at1, if_pos rfl, ht]
        clear ht hb4 hre hys
        cases at2 : isT ts k sElse with
        | false =>
          have HNO : Hid (exP false ts (f + 1) i = none) := by show _ = _; rw [HR2.out, at2]; rfl
          go_wp2_with fail
          refine (m_isb HM5.out (i := k) (rfl) (l := sElse) at2 rfl (by decide)).mono ?_
          rintro e w' ⟨rfl, rfl⟩
          go_wp2_with fail
          refine (m_noExpr _).mono ?_
          rintro e wN ⟨⟨vaN, nN, cN, rfl⟩, hbN⟩
          have XN := HX5.out.on hbN.out
          have HXN : Hid (XW w wN) := XN
          have d0 := XN.box.cell (i := 0) (by omega)
          have d1 := XN.box.cell (i := 1) (by omega)
          have z0 := XN.box.frozen 0
          have z1 := XN.box.frozen 1
          clear XN hbN
          go_wp2
          have RX := (HXN.out.box.set 0 (.slice vaN nN cN)).set 1 (.int .i64 (-1))
          refine bodyPost_ret (ret_ex (k := 4) rfl (RX.cell (i := 0) (by omega)) (RX.cell (i := 1) (by omega)) _ rfl) rfl ?_
          rw [HNO.out]
          exact ⟨below_box HXN.out.below _ _, vaN, nN, cN, rfl⟩
        | true =>
          have hkr := isT_lt at2
          have wk1 : IntKind.i64.wrap ((k : Int) + 1) = (k : Int) + 1 := by rw [IntKind.wrap_i64]; omega
          have C3 : Hid (Calls Tryz.prog 64 #[.slice ao ts.length c, .int .i64 ((k : Int) + 1)] (w4.alloc (.cells #[.slice va2 n2 c2, .int .i64 (k : Int)] 111)) (MER (w4.alloc (.cells #[.slice va2 n2 c2, .int .i64 (k : Int)] 111)) (exP false ts f (k + 1)))) := HIH.out _ _ _ _ _ HM5.out (by omega) (by have := HF.out; omega) (by omega)
          go_wp2_with fail
          refine (m_isb HM5.out (i := k) (rfl) (l := sElse) at2 rfl (by decide)).mono ?_
          rintro e w' ⟨rfl, rfl⟩
          go_wp2_with fail
          refine C3.out.mono ?_
          rintro e w6 ⟨hb6, hr6⟩
          have HX6 : Hid (XW w w6) := HX5.out.on hb6
          have HB6 : Hid (XB w w2.heap.size va1 n1 c1 j xs w6) := HB5.out.on hb6
          have HC6 : Hid (XB w w4.heap.size va2 n2 c2 k ys w6) := HC5.out.on hb6
          cases ht : exP false ts f (k + 1) with
          | none =>
            rw [ht] at hr6
            obtain ⟨va', n', c'', rfl⟩ := hr6
            have HNO : Hid (exP false ts (f + 1) i = none) := by show _ = _; rw [HR2.out, at2, if_pos rfl, ht]
            clear ht hb6
            have R7 := HX6.out.box.alloc (.cells #[Value.slice va' n' c'', .int .i64 (-1)] 111)
            have x0' := R7.cell (i := 0) (by omega)
            have x1' := R7.cell (i := 1) (by omega)
            have y0' := R7.frozen 0
            have y1' := R7.frozen 1
            have R8 := (HX6.out.box.set 0 (Value.slice va' n' c'')).alloc (.cells #[Value.slice va' n' c'', .int .i64 (-1)] 111)
            have x0'' := R8.cell (i := 0) (by omega)
            have x1'' := R8.cell (i := 1) (by omega)
            have y0'' := R8.frozen 0
            have y1'' := R8.frozen 1
            have R9 := ((HX6.out.box.set 0 (Value.slice va' n' c'')).set 1 (.int .i64 (-1))).alloc (.cells #[Value.slice va' n' c'', .int .i64 (-1)] 111)
            have xlt6 := HX6.out.box.lt
            clear R7 R8
            go_wp2
            refine bodyPost_ret (ret_ex (k := 4) rfl (R9.cell (i := 0) (by omega)) (R9.cell (i := 1) (by omega)) _ rfl) rfl ?_
            rw [HNO.out]
            exact ⟨(below_box HX6.out.below _ _).alloc (below_box HX6.out.below _ _).size _, va', n', c'', rfl⟩
          | some z =>
            obtain ⟨l3, m⟩ := z
            rw [ht] at hr6
            obtain ⟨va3, n3, c3, k', us, rfl, rfl, hre, hus⟩ := hr6
            obtain ⟨far7, far8, far9⟩ := HFE.out _ _ _ ht
            have hm0 : ¬ (m : Int) < 0 := by omega
            have hub : us.length ≤ 1000 := by
              have hul : us.length = l3.length := by rw [← hus, List.length_map]
              omega
            have HYES : Hid (exP false ts (f + 1) i = some (l1 ++ l2 ++ l3 ++ [exO 8], m)) := by show _ = _; rw [HR2.out, at2, if_pos rfl, ht]
            have HUS : Hid (us.map Prod.fst = l3) := hus
            have hw6 : w4.heap.size + 1 ≤ w6.heap.size := by have := hb6.size; simp at this; omega
            obtain ⟨W, hW⟩ : ∃ W, W = (w6.alloc (.cells #[.slice va3 n3 c3, .int .i64 (m : Int)] 111)) := ⟨_, rfl⟩
            have BW : Below w6.heap.size w6 W := by rw [hW]; exact bel1 _ _
            have hWs : w6.heap.size + 1 ≤ W.heap.size := by rw [hW]; simp
            have D7 : XB w w6.heap.size va3 n3 c3 m us W := by rw [hW]; exact XB.new HX6.out (hre.mono (by simp; have := HX2.out.box.lt; omega))
            have HXW : Hid (XW w W) := HX6.out.on BW
            have HBC : Hid (∀ W9 : World, Below W.heap.size W W9 → XB w w2.heap.size va1 n1 c1 j xs W9 ∧ XB w w4.heap.size va2 n2 c2 k ys W9 ∧ XB w w6.heap.size va3 n3 c3 m us W9) := fun W9 hb => ⟨(HB6.out.on BW).on hb, (HC6.out.on BW).on hb, D7.on hb⟩
            have CJ1 : Hid (∀ W0 : World, Below W.heap.size W W0 → Calls Tryz.prog 74 #[.slice va1 n1 c1, .slice va2 n2 c2] W0 fun e w' => (∃ va n c, e = .returned (.slice va n c) ∧ Hid (RE (w.heap.size + 1) w' (.slice va n c) (xs ++ ys))) ∧ Hid (Below W.heap.size W w')) := fun W0 hb => by
              obtain ⟨g1, g2, g3⟩ := HBC.out W0 hb
              refine (m_joinE W0 g1.items g2.items (by omega) (by have := g1.lb; have := g1.row.lt; omega)).mono ?_
              rintro e w' ⟨h1, h2⟩
              exact ⟨h1, hb.trans (h2.out.mono hb.size)⟩
            have CJ2 : Hid (∀ (W0 : World) (va : Option Addr) (n c : Nat), Below W.heap.size W W0 → RE (w.heap.size + 1) W0 (.slice va n c) (xs ++ ys) → Calls Tryz.prog 74 #[.slice va n c, .slice va3 n3 c3] W0 fun e w' => (∃ va n c, e = .returned (.slice va n c) ∧ Hid (RE (w.heap.size + 1) w' (.slice va n c) (xs ++ ys ++ us))) ∧ Hid (Below W.heap.size W w')) := fun W0 va n c hb hr => by
              obtain ⟨g1, g2, g3⟩ := HBC.out W0 hb
              refine (m_joinE W0 hr g3.items (by rw [List.length_append]; omega) (by have := g1.lb; have := g1.row.lt; omega)).mono ?_
              rintro e w' ⟨h1, h2⟩
              exact ⟨h1, hb.trans (h2.out.mono hb.size)⟩
            have B0 : Below W.heap.size W W := Below.refl _ _
            obtain ⟨g1, g2, g3⟩ := HBC.out W B0
            have s0 : W.cell? ⟨w2.heap.size, 0, none⟩ = some (.slice va1 n1 c1) := g1.row.cell (i := 0) (by omega)
            have s1 : W.cell? ⟨w4.heap.size, 0, none⟩ = some (.slice va2 n2 c2) := g2.row.cell (i := 0) (by omega)
            have s2 : W.cell? ⟨w6.heap.size, 0, none⟩ = some (.slice va3 n3 c3) := g3.row.cell (i := 0) (by omega)
            have HCC : Hid (∀ W9 : World, Below W.heap.size W W9 → W9.cell? ⟨w2.heap.size, 0, none⟩ = some (.slice va1 n1 c1) ∧ W9.cell? ⟨w4.heap.size, 0, none⟩ = some (.slice va2 n2 c2) ∧ W9.cell? ⟨w6.heap.size, 0, none⟩ = some (.slice va3 n3 c3)) := fun W9 hb => by
              obtain ⟨g1, g2, g3⟩ := HBC.out W9 hb
              exact ⟨g1.row.cell (i := 0) (by omega), g2.row.cell (i := 0) (by omega), g3.row.cell (i := 0) (by omega)⟩
            clear ht hb6 hre hus g1 g2 g3 D7 BW
            go_wp2_with fail
            rw [← hW]
            clear hW
            have CJ1' := CJ1.out W.drew B0.drew
            go_region_held3 (fun w' => w'.cell? ⟨w2.heap.size, 0, none⟩ = some (.slice va1 n1 c1) ∧ w'.cell? ⟨w4.heap.size, 0, none⟩ = some (.slice va2 n2 c2) ∧ w'.cell? ⟨w6.heap.size, 0, none⟩ = some (.slice va3 n3 c3)) (go_keep) (first
              | (go_at_call 74; (with_reducible refine CJ1'.mono ?_); rintro e w8 ⟨⟨va8, n8, c8, rfl, H8⟩, B8⟩; obtain ⟨p0, p1, p2⟩ := HCC.out w8 B8.out)
              | (go_at_call 74; (with_reducible refine (CJ2.out w8 va8 n8 c8 B8.out H8.out).mono ?_); rintro e w9 ⟨⟨va9, n9, c9, rfl, H9⟩, B9⟩; obtain ⟨r0, r1, r2⟩ := HCC.out w9 B9.out))
            clear CJ1' CJ1 CJ2 p0 p1 p2 r0 r1 r2 s0 s1 s2 B0 HCC H8 B8
            have en := own_len H9.out.own
            obtain ⟨N, hN⟩ : ∃ N, N = (xs ++ ys ++ us).length := ⟨_, rfl⟩
            rw [← hN] at en
            have en := en.symm
            subst en
            have HN : Hid (N = (xs ++ ys ++ us).length) := hN
            have hNb : N ≤ 4000 := by rw [hN, List.length_append, List.length_append]; omega
            have HO : Hid (RE (w.heap.size + 1) w9 (.slice va9 N c9) (xs ++ ys ++ us)) := H9
            have HOW : Hid (w9.ownsRow (w.heap.size + 1) 123 6 (.slice va9 N c9) N (eisC (xs ++ ys ++ us))) := by have := HO.out.own; rw [← hN] at this; exact this
            have HX9 : Hid (XW w w9) := HXW.out.on B9.out
            have HD9 : Hid (XB w w6.heap.size va3 n3 c3 m us w9) := (HBC.out w9 B9.out).2.2
            have hws9 := HX9.out.below.size
            have hxl9 := HX9.out.box.lt
            have hws6 : w6.heap.size + 1 ≤ w9.heap.size := by have := HD9.out.row.lt; omega
            have hne1 : w.heap.size ≠ w6.heap.size := by have := HD9.out.lb; omega
            have k1 : w9.cell? ⟨w6.heap.size, 1, none⟩ = some (.int .i64 (m : Int)) := HD9.out.row.cell (i := 1) (by omega)
            have HK8 : Hid (∀ o : Obj, ((w9.alloc o).drew).cell? ⟨w6.heap.size, 1, none⟩ = some (.int .i64 (m : Int))) := fun o => (bel1 w9 o).cell (p := ⟨w6.heap.size, 1, none⟩) (World.block_lt_of_cell? _ _ k1) |>.trans k1
            have HSR : Hid (∀ b, (Value.slice va9 N c9).ownBlock = some b → b ≠ w6.heap.size) := fun b e z => by
              subst z
              exact own_box HOW.out HD9.out.row (by decide) e
            clear hN H9 B9 HBC HD9
            go_wp2
            go_region_held3 (fun w' => w'.cell? ⟨w6.heap.size, 1, none⟩ = some (.int .i64 (m : Int))) (go_keep) ((refine step_append_lies _ (by rfl) _ _ _ (by rfl) (w.heap.size + 1) 123 i0 _ 6 96 Tryz.underlying56 hi0 hz0 hz1 hz2 rfl (by omega) (.slice va9 N c9) N (eisC (xs ++ ys ++ us)) (by rfl) ((HOW.out.alloc _).drew) ⟨w9.heap.size, 0, none⟩ 1 1 [.int .i64 8, .int .i64 0, .string ⟨#[]⟩, .string ⟨#[]⟩, .slice none 0 0, .slice none 0 0] (by rfl) (by rfl) (World.news_of_block (cs := #[.int .i64 8, .int .i64 0, .string ⟨#[]⟩, .string ⟨#[]⟩, .slice none 0 0, .slice none 0 0]) (t := 123) (fr := (0, 0)) (heap_alloc_new w9 _)) (by simp [Value.oneCell']) (by omega) (by unfold maxLen; omega) (by omega) (by simp; omega) (w9.heap.size + 1) (by simp) ?_; intro gg cap3 wA hown3 hg3 hat3 hlt3; have f1 : wA.cell? ⟨w6.heap.size, 1, none⟩ = some (.int .i64 (m : Int)) := (hg3.cell_far ⟨w6.heap.size, 1, none⟩ (by simp; omega) (fun e => HSR.out _ e.symm rfl)).trans (HK8.out _); have XA : wA.rowIs w.heap.size 111 2 (v2 (.slice none 0 0) (.int .i64 0)) := (HX9.out.box.alloc _).of_block (hg3.block _ (by simp; omega) (fun e => by have := (HOW.out.lt _ e.symm).1; omega)); have d0 := XA.cell (i := 0) (by omega); have d1 := XA.cell (i := 1) (by omega); have z0 := XA.frozen 0; have z1 := XA.frozen 1))
            go_wp2
            have hg := grown_undrew hg3
            have NX := HO.out.push (x := (exO 8, ep0)) (by rw [← HN.out]; exact hown3) hg ⟨NmOK.nil _ _ _, (OT.nil _ _).rt, rfl⟩
            rw [← HN.out] at NX
            have BA := below_grown HX9.out.below hg (fun b e => by have := (HOW.out.lt b e).1; omega)
            obtain ⟨W1, W2⟩ := box_ex BA XA (.slice (some ⟨gg, 0, none⟩) (N + 1) cap3) (.int .i64 (m : Int))
            have RX := (XA.set 0 (.slice (some ⟨gg, 0, none⟩) (N + 1) cap3)).set 1 (.int .i64 (m : Int))
            refine bodyPost_ret (ret_ex (k := 4) rfl (RX.cell (i := 0) (by omega)) (RX.cell (i := 1) (by omega)) _ rfl) rfl ?_
            rw [HYES.out]
            exact ⟨W1, some ⟨gg, 0, none⟩, N + 1, cap3, (m : Int), _, rfl, rfl, (W2 _ _ _ NX).mono (by omega), by rw [List.map_append, List.map_append, List.map_append, HXS.out, HYS.out, HUS.out]; rfl⟩

end Go.Proofs.YtdjkgilohhjfoaaGreatDoor

namespace Go.Proofs.YtdjkgilohhjfoaaGreatDoor

theorem m_exprS {tb o : Nat} {ts : List TK} (ok : TkOK ts) {f : Nat} (IH : MEC tb o ts f) : MEC tb o ts (f + 1) := by
  intro w ao c a i h ha hf hi9
  subst ha
  cases q0 : isT ts i sFun with
  | true => exact mx_fun IH w h hf q0
  | false =>
    cases q1 : isT ts i sIf with
    | true => exact mx_if IH w h hf q1
    | false => exact mx_less (fun w i h hf hi => m_sum (fun w i h hf hi => m_post ok IH w h hf hi) w h hf hi) w h hf hi9 q0 q1
theorem m_expr {tb o : Nat} {ts : List TK} (ok : TkOK ts) : ∀ f, MEC tb o ts f
  | 0 => fun _ _ _ _ _ _ _ hf => absurd hf (Nat.not_lt_zero _)
  | f + 1 => m_exprS ok (m_expr ok f)

end Go.Proofs.YtdjkgilohhjfoaaGreatDoor

