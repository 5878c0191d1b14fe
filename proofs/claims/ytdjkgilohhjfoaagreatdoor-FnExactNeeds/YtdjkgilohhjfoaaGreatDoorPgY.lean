/-
  The model's declarations: a value.
-/
import Derived.Test.YtdjkgilohhjfoaaGreatDoorM21
namespace Go.Proofs.YtdjkgilohhjfoaaGreatDoor
open Go.RowKit

set_option maxRecDepth 100000 in
set_option maxHeartbeats 8000000 in
theorem md_val0 {tb o c : Nat} {ao : Option Addr} {ts : List TK} (w : World) (h : MS w tb o ao ts) (hc : isC ts 1 1 = true) (hs : isT ts 0 sVal = true) (h2 : isT ts 2 sColon = false) :
    Calls Tryz.prog 54 #[.slice ao ts.length c] w (MDR w (declP false ts)) := by
  have hln := h.tk.len
  have HMW : Hid (∀ W, Below w.heap.size w W → MS W tb o ao ts) := fun W hb => h.below hb
  obtain ⟨W0, hW0⟩ : ∃ W0, W0 = (w.alloc (.cells #[.int .i64 0, .string ⟨#[]⟩, .slice none 0 0, .slice none 0 0] 58)).alloc (.cells #[.int .i64 0, .string ⟨#[]⟩, .slice none 0 0, .slice none 0 0] 58) := ⟨_, rfl⟩
  have HX0 : Hid (XD w W0) := by rw [hW0]; exact XD.start w
  have HMS : Hid (MS W0 tb o ao ts) := HMW.out _ HX0.out.below
  have hl := isC_lt hc
  have g : ¬ (ts.length : Int) < 2 := by omega
  have e := h.at_ (by omega)
  subst e
  have k1 := h.tk.c1 1 hl
  rw [← tx_at hl] at k1
  obtain ⟨nn, hnn⟩ : ∃ z, z = tx ts 1 := ⟨_, rfl⟩
  rw [← hnn] at k1
  have k1' : W0.cell? ⟨tb, o + 1 * 3 + 1, none⟩ = some (.string nn) := ((HX0.out.below).cell (p := ⟨tb, o + 1 * 3 + 1, none⟩) (World.block_lt_of_cell? _ _ k1)).trans k1
  have hq1 : (1 : Int) < (ts.length : Int) := by omega
  have HNN : Hid (tx ts 1 = nn) := hnn.symm
  have q0 : isT ts 0 sImport = false := isT_one hs (by decide)
  have q1 : isT ts 0 sType = false := isT_one hs (by decide)
  have HNO : Hid (declP false ts = dBad) := by show _ = _; unfold declP; rw [hc, if_pos rfl, q0, if_neg (by decide), q1, if_neg (by decide), hs, if_pos rfl, h2]; rfl
  clear h k1 hnn
  go_enter Tryz.func54, Tryz.ntmps54
  go_upto_region 2 with fail
  rw [← hW0]
  clear hW0
  go_wp2_with fail
  refine (m_isN HMS.out (i := 1) (by omega) hc).mono ?_
  rintro e w' ⟨rfl, rfl⟩
  go_wp2_with fail
  refine (m_isb HMS.out (i := 0) (rfl) (l := sImport) q0 rfl (by decide)).mono ?_
  rintro e w' ⟨rfl, rfl⟩
  go_wp2_with fail
  refine (m_isb HMS.out (i := 0) (rfl) (l := sType) q1 rfl (by decide)).mono ?_
  rintro e w' ⟨rfl, rfl⟩
  go_wp2_with fail
  refine (m_isb HMS.out (i := 0) (rfl) (l := sVal) hs rfl (by decide)).mono ?_
  rintro e w' ⟨rfl, rfl⟩
  go_wp2_with fail
  refine (m_isb HMS.out (i := 2) (rfl) (l := sColon) h2 rfl (by decide)).mono ?_
  rintro e w' ⟨rfl, rfl⟩
  have hxl := HX0.out.box.lt
  have hxb := HX0.out.bad.lt
  have d0 : W0.cell? ⟨w.heap.size, 0, none⟩ = some (.int .i64 0) := HX0.out.box.cell (i := 0) (by omega)
  have d1 : W0.cell? ⟨w.heap.size, 1, none⟩ = some (.string ⟨#[]⟩) := HX0.out.box.cell (i := 1) (by omega)
  have d2 : W0.cell? ⟨w.heap.size, 2, none⟩ = some (.slice none 0 0) := HX0.out.box.cell (i := 2) (by omega)
  have d3 : W0.cell? ⟨w.heap.size, 3, none⟩ = some (.slice none 0 0) := HX0.out.box.cell (i := 3) (by omega)
  have z0 := HX0.out.box.frozen 0
  have z1 := HX0.out.box.frozen 1
  have z2 := HX0.out.box.frozen 2
  have z3 := HX0.out.box.frozen 3
  have b0 : W0.cell? ⟨w.heap.size + 1, 0, none⟩ = some (.int .i64 0) := HX0.out.bad.cell (i := 0) (by omega)
  have b1 : W0.cell? ⟨w.heap.size + 1, 1, none⟩ = some (.string ⟨#[]⟩) := HX0.out.bad.cell (i := 1) (by omega)
  have b2 : W0.cell? ⟨w.heap.size + 1, 2, none⟩ = some (.slice none 0 0) := HX0.out.bad.cell (i := 2) (by omega)
  have b3 : W0.cell? ⟨w.heap.size + 1, 3, none⟩ = some (.slice none 0 0) := HX0.out.bad.cell (i := 3) (by omega)
  go_wp2
  have RX := (((HX0.out.box.set 0 (.int .i64 0)).set 1 (.string ⟨#[]⟩)).set 2 (.slice none 0 0)).set 3 (.slice none 0 0)
  refine bodyPost_ret (ret_dc (k := 2) rfl (RX.cell (i := 0) (by omega)) (RX.cell (i := 1) (by omega)) (RX.cell (i := 2) (by omega)) (RX.cell (i := 3) (by omega)) _ rfl) rfl ?_
  rw [HNO.out]
  exact ⟨below_dc HX0.out.below HX0.out.box _ _ _ _, dp0, rfl, (dc_bare _ _ _ _).rd⟩

set_option maxRecDepth 100000 in
set_option maxHeartbeats 8000000 in
theorem md_val1 {tb o c : Nat} {ao : Option Addr} {ts : List TK} (w : World) (h : MS w tb o ao ts) (ok : TkOK ts) (hc : isC ts 1 1 = true) (hs : isT ts 0 sVal = true) (h2 : isT ts 2 sColon = true) :
    Calls Tryz.prog 54 #[.slice ao ts.length c] w (MDR w (declP false ts)) := by
  have hln := h.tk.len
  have HMW : Hid (∀ W, Below w.heap.size w W → MS W tb o ao ts) := fun W hb => h.below hb
  obtain ⟨W0, hW0⟩ : ∃ W0, W0 = (w.alloc (.cells #[.int .i64 0, .string ⟨#[]⟩, .slice none 0 0, .slice none 0 0] 58)).alloc (.cells #[.int .i64 0, .string ⟨#[]⟩, .slice none 0 0, .slice none 0 0] 58) := ⟨_, rfl⟩
  have HX0 : Hid (XD w W0) := by rw [hW0]; exact XD.start w
  have HMS : Hid (MS W0 tb o ao ts) := HMW.out _ HX0.out.below
  have hl := isC_lt hc
  have g : ¬ (ts.length : Int) < 2 := by omega
  have e := h.at_ (by omega)
  subst e
  have k1 := h.tk.c1 1 hl
  rw [← tx_at hl] at k1
  obtain ⟨nn, hnn⟩ : ∃ z, z = tx ts 1 := ⟨_, rfl⟩
  rw [← hnn] at k1
  have k1' : W0.cell? ⟨tb, o + 1 * 3 + 1, none⟩ = some (.string nn) := ((HX0.out.below).cell (p := ⟨tb, o + 1 * 3 + 1, none⟩) (World.block_lt_of_cell? _ _ k1)).trans k1
  have hq1 : (1 : Int) < (ts.length : Int) := by omega
  have HNN : Hid (tx ts 1 = nn) := hnn.symm
  have q0 : isT ts 0 sImport = false := isT_one hs (by decide)
  have q1 : isT ts 0 sType = false := isT_one hs (by decide)
  have HR0 : Hid (declP false ts = match tyP false ts (ts.length + 1) 3 with
        | none => dBad
        | some (t, j) => if isT ts j sEq then (match exP false ts (ts.length + 1) (j + 1) with | none => dBad | some (x, k) => if k = ts.length then ⟨3, nn, t, x⟩ else dBad) else dBad) := by
    show _ = _
    unfold declP
    rw [hc, if_pos rfl, q0, if_neg (by decide), q1, if_neg (by decide), hs, if_pos rfl, h2, if_pos rfl, ← hnn]
    cases tyP false ts (ts.length + 1) 3 with
    | none => rfl
    | some z => rfl
  have hl2 := isT_lt h2
  have CT : Hid (Calls Tryz.prog 63 #[.slice (some ⟨tb, o, none⟩) ts.length c, .int .i64 3] W0 (MTR W0 (tyP false ts (ts.length + 1) 3))) := m_type _ _ _ _ _ _ HMS.out (by omega) (by omega) (by omega)
  have HFT : Hid (Far ts.length (tyP false ts (ts.length + 1))) := ty_far _
  have HFE : Hid (Far ts.length (exP false ts (ts.length + 1))) := ex_far _
  have HIE : Hid (MEC tb o ts (ts.length + 1)) := m_expr ok _
  clear h k1 hnn
  go_enter Tryz.func54, Tryz.ntmps54
  go_upto_region 2 with fail
  rw [← hW0]
  clear hW0
  go_wp2_with fail
  refine (m_isN HMS.out (i := 1) (by omega) hc).mono ?_
  rintro e w' ⟨rfl, rfl⟩
  go_wp2_with fail
  refine (m_isb HMS.out (i := 0) (rfl) (l := sImport) q0 rfl (by decide)).mono ?_
  rintro e w' ⟨rfl, rfl⟩
  go_wp2_with fail
  refine (m_isb HMS.out (i := 0) (rfl) (l := sType) q1 rfl (by decide)).mono ?_
  rintro e w' ⟨rfl, rfl⟩
  go_wp2_with fail
  refine (m_isb HMS.out (i := 0) (rfl) (l := sVal) hs rfl (by decide)).mono ?_
  rintro e w' ⟨rfl, rfl⟩
  go_wp2_with fail
  refine (m_isb HMS.out (i := 2) (rfl) (l := sColon) h2 rfl (by decide)).mono ?_
  rintro e w' ⟨rfl, rfl⟩
  go_wp2_with fail
  refine CT.out.mono ?_
  rintro e w2 ⟨hb2, hr2⟩
  have HX2 : Hid (XD w w2) := HX0.out.on hb2
  cases ht : tyP false ts (ts.length + 1) 3 with
  | none =>
    rw [ht] at hr2
    obtain ⟨va, n, c', rfl⟩ := hr2
    have HNO : Hid (declP false ts = dBad) := by show _ = _; rw [HR0.out, ht]
    have HX3 : Hid (XD w (w2.alloc (.cells #[.slice va n c', .int .i64 (-1)] 108))) := HX2.out.on (bel1 _ _)
    clear ht hb2 k1'
    have hxl := HX3.out.box.lt
    have hxb := HX3.out.bad.lt
    have d0 : (w2.alloc (.cells #[.slice va n c', .int .i64 (-1)] 108)).cell? ⟨w.heap.size, 0, none⟩ = some (.int .i64 0) := HX3.out.box.cell (i := 0) (by omega)
    have d1 : (w2.alloc (.cells #[.slice va n c', .int .i64 (-1)] 108)).cell? ⟨w.heap.size, 1, none⟩ = some (.string ⟨#[]⟩) := HX3.out.box.cell (i := 1) (by omega)
    have d2 : (w2.alloc (.cells #[.slice va n c', .int .i64 (-1)] 108)).cell? ⟨w.heap.size, 2, none⟩ = some (.slice none 0 0) := HX3.out.box.cell (i := 2) (by omega)
    have d3 : (w2.alloc (.cells #[.slice va n c', .int .i64 (-1)] 108)).cell? ⟨w.heap.size, 3, none⟩ = some (.slice none 0 0) := HX3.out.box.cell (i := 3) (by omega)
    have z0 := HX3.out.box.frozen 0
    have z1 := HX3.out.box.frozen 1
    have z2 := HX3.out.box.frozen 2
    have z3 := HX3.out.box.frozen 3
    have b0 : (w2.alloc (.cells #[.slice va n c', .int .i64 (-1)] 108)).cell? ⟨w.heap.size + 1, 0, none⟩ = some (.int .i64 0) := HX3.out.bad.cell (i := 0) (by omega)
    have b1 : (w2.alloc (.cells #[.slice va n c', .int .i64 (-1)] 108)).cell? ⟨w.heap.size + 1, 1, none⟩ = some (.string ⟨#[]⟩) := HX3.out.bad.cell (i := 1) (by omega)
    have b2 : (w2.alloc (.cells #[.slice va n c', .int .i64 (-1)] 108)).cell? ⟨w.heap.size + 1, 2, none⟩ = some (.slice none 0 0) := HX3.out.bad.cell (i := 2) (by omega)
    have b3 : (w2.alloc (.cells #[.slice va n c', .int .i64 (-1)] 108)).cell? ⟨w.heap.size + 1, 3, none⟩ = some (.slice none 0 0) := HX3.out.bad.cell (i := 3) (by omega)
    go_wp2
    have RX := (((HX3.out.box.set 0 (.int .i64 0)).set 1 (.string ⟨#[]⟩)).set 2 (.slice none 0 0)).set 3 (.slice none 0 0)
    refine bodyPost_ret (ret_dc (k := 2) rfl (RX.cell (i := 0) (by omega)) (RX.cell (i := 1) (by omega)) (RX.cell (i := 2) (by omega)) (RX.cell (i := 3) (by omega)) _ rfl) rfl ?_
    rw [HNO.out]
    exact ⟨below_dc HX3.out.below HX3.out.box _ _ _ _, dp0, rfl, (dc_bare _ _ _ _).rd⟩
  | some z =>
    obtain ⟨tl, j⟩ := z
    rw [ht] at hr2
    obtain ⟨va, n, c', k', us, rfl, rfl, hrt, hus⟩ := hr2
    obtain ⟨far1, far2, far3⟩ := HFT.out _ _ _ ht
    have hj0 : (0 : Int) ≤ (j : Int) := by omega
    have HX3 : Hid (XD w (w2.alloc (.cells #[.slice va n c', .int .i64 (j : Int)] 108))) := HX2.out.on (bel1 _ _)
    have HM3 : Hid (MS (w2.alloc (.cells #[.slice va n c', .int .i64 (j : Int)] 108)) tb o (some ⟨tb, o, none⟩) ts) := HMW.out _ HX3.out.below
    have HRT : Hid (RT (w.heap.size + 1) (w2.alloc (.cells #[.slice va n c', .int .i64 (j : Int)] 108)) (.slice va n c') us) := (hrt.mono (by have := HX0.out.box.lt; omega)).below (bel1 _ _)
    have HUS : Hid (us.map Prod.fst = tl) := hus
    have TB := row2 w2 (.slice va n c') (.int .i64 (j : Int)) 108
    have hxl2 := HX2.out.box.lt
    cases ae : isT ts j sEq with
    | false =>
      have HNO : Hid (declP false ts = dBad) := by show _ = _; rw [HR0.out, ht]; show (if isT ts j sEq = true then _ else dBad) = _; rw [ae]; rfl
      clear ht hb2 k1' hrt hus TB hxl2
      go_wp2_with fail
      refine (m_isb HM3.out (i := j) (rfl) (l := sEq) ae rfl (by decide)).mono ?_
      rintro e w' ⟨rfl, rfl⟩
      have hxl := HX3.out.box.lt
      have hxb := HX3.out.bad.lt
      have d0 : (w2.alloc (.cells #[.slice va n c', .int .i64 (j : Int)] 108)).cell? ⟨w.heap.size, 0, none⟩ = some (.int .i64 0) := HX3.out.box.cell (i := 0) (by omega)
      have d1 : (w2.alloc (.cells #[.slice va n c', .int .i64 (j : Int)] 108)).cell? ⟨w.heap.size, 1, none⟩ = some (.string ⟨#[]⟩) := HX3.out.box.cell (i := 1) (by omega)
      have d2 : (w2.alloc (.cells #[.slice va n c', .int .i64 (j : Int)] 108)).cell? ⟨w.heap.size, 2, none⟩ = some (.slice none 0 0) := HX3.out.box.cell (i := 2) (by omega)
      have d3 : (w2.alloc (.cells #[.slice va n c', .int .i64 (j : Int)] 108)).cell? ⟨w.heap.size, 3, none⟩ = some (.slice none 0 0) := HX3.out.box.cell (i := 3) (by omega)
      have z0 := HX3.out.box.frozen 0
      have z1 := HX3.out.box.frozen 1
      have z2 := HX3.out.box.frozen 2
      have z3 := HX3.out.box.frozen 3
      have b0 : (w2.alloc (.cells #[.slice va n c', .int .i64 (j : Int)] 108)).cell? ⟨w.heap.size + 1, 0, none⟩ = some (.int .i64 0) := HX3.out.bad.cell (i := 0) (by omega)
      have b1 : (w2.alloc (.cells #[.slice va n c', .int .i64 (j : Int)] 108)).cell? ⟨w.heap.size + 1, 1, none⟩ = some (.string ⟨#[]⟩) := HX3.out.bad.cell (i := 1) (by omega)
      have b2 : (w2.alloc (.cells #[.slice va n c', .int .i64 (j : Int)] 108)).cell? ⟨w.heap.size + 1, 2, none⟩ = some (.slice none 0 0) := HX3.out.bad.cell (i := 2) (by omega)
      have b3 : (w2.alloc (.cells #[.slice va n c', .int .i64 (j : Int)] 108)).cell? ⟨w.heap.size + 1, 3, none⟩ = some (.slice none 0 0) := HX3.out.bad.cell (i := 3) (by omega)
      go_wp2
      have RX := (((HX3.out.box.set 0 (.int .i64 0)).set 1 (.string ⟨#[]⟩)).set 2 (.slice none 0 0)).set 3 (.slice none 0 0)
      refine bodyPost_ret (ret_dc (k := 2) rfl (RX.cell (i := 0) (by omega)) (RX.cell (i := 1) (by omega)) (RX.cell (i := 2) (by omega)) (RX.cell (i := 3) (by omega)) _ rfl) rfl ?_
      rw [HNO.out]
      exact ⟨below_dc HX3.out.below HX3.out.box _ _ _ _, dp0, rfl, (dc_bare _ _ _ _).rd⟩
    | true =>
      have hjr := isT_lt ae
      have HR1 : Hid (declP false ts = match exP false ts (ts.length + 1) (j + 1) with | none => dBad | some (x, k) => if k = ts.length then ⟨3, nn, tl, x⟩ else dBad) := by show _ = _; rw [HR0.out, ht]; show (if isT ts j sEq = true then _ else dBad) = _; rw [ae, if_pos rfl]
      have CE : Hid (Calls Tryz.prog 64 #[.slice (some ⟨tb, o, none⟩) ts.length c, .int .i64 ((j : Int) + 1)] (w2.alloc (.cells #[.slice va n c', .int .i64 (j : Int)] 108)) (MER (w2.alloc (.cells #[.slice va n c', .int .i64 (j : Int)] 108)) (exP false ts (ts.length + 1) (j + 1)))) := HIE.out _ _ _ _ _ HM3.out (by omega) (by omega) (by omega)
      clear ht hb2 k1' hrt hus
      go_wp2_with fail
      refine (m_isb HM3.out (i := j) (rfl) (l := sEq) ae rfl (by decide)).mono ?_
      rintro e w' ⟨rfl, rfl⟩
      go_wp2_with fail
      refine CE.out.mono ?_
      rintro e w4 ⟨hb4, hr4⟩
      have HX4 : Hid (XD w w4) := HX3.out.on hb4
      have HT4 : Hid (RT (w.heap.size + 1) w4 (.slice va n c') us) := HRT.out.below hb4
      have t0 : w4.cell? ⟨w2.heap.size, 0, none⟩ = some (.slice va n c') := (TB.of_block (hb4.block _ TB.lt)).cell (i := 0) (by omega)
      have hw4 : w2.heap.size + 1 ≤ w4.heap.size := by have := hb4.size; simp at this; omega
      cases he : exP false ts (ts.length + 1) (j + 1) with
      | none =>
        rw [he] at hr4
        obtain ⟨ea, en, ec, rfl⟩ := hr4
        have HNO : Hid (declP false ts = dBad) := by show _ = _; rw [HR1.out, he]
        have HX5 : Hid (XD w (w4.alloc (.cells #[.slice ea en ec, .int .i64 (-1)] 111))) := HX4.out.on (bel1 _ _)
        have ge : (((-1 : Int)) == (ts.length : Int)) = false := beq_eq_false_iff_ne.2 (by omega)
        clear he hb4 TB
        have hxl := HX5.out.box.lt
        have hxb := HX5.out.bad.lt
        have d0 : (w4.alloc (.cells #[.slice ea en ec, .int .i64 (-1)] 111)).cell? ⟨w.heap.size, 0, none⟩ = some (.int .i64 0) := HX5.out.box.cell (i := 0) (by omega)
        have d1 : (w4.alloc (.cells #[.slice ea en ec, .int .i64 (-1)] 111)).cell? ⟨w.heap.size, 1, none⟩ = some (.string ⟨#[]⟩) := HX5.out.box.cell (i := 1) (by omega)
        have d2 : (w4.alloc (.cells #[.slice ea en ec, .int .i64 (-1)] 111)).cell? ⟨w.heap.size, 2, none⟩ = some (.slice none 0 0) := HX5.out.box.cell (i := 2) (by omega)
        have d3 : (w4.alloc (.cells #[.slice ea en ec, .int .i64 (-1)] 111)).cell? ⟨w.heap.size, 3, none⟩ = some (.slice none 0 0) := HX5.out.box.cell (i := 3) (by omega)
        have z0 := HX5.out.box.frozen 0
        have z1 := HX5.out.box.frozen 1
        have z2 := HX5.out.box.frozen 2
        have z3 := HX5.out.box.frozen 3
        have b0 : (w4.alloc (.cells #[.slice ea en ec, .int .i64 (-1)] 111)).cell? ⟨w.heap.size + 1, 0, none⟩ = some (.int .i64 0) := HX5.out.bad.cell (i := 0) (by omega)
        have b1 : (w4.alloc (.cells #[.slice ea en ec, .int .i64 (-1)] 111)).cell? ⟨w.heap.size + 1, 1, none⟩ = some (.string ⟨#[]⟩) := HX5.out.bad.cell (i := 1) (by omega)
        have b2 : (w4.alloc (.cells #[.slice ea en ec, .int .i64 (-1)] 111)).cell? ⟨w.heap.size + 1, 2, none⟩ = some (.slice none 0 0) := HX5.out.bad.cell (i := 2) (by omega)
        have b3 : (w4.alloc (.cells #[.slice ea en ec, .int .i64 (-1)] 111)).cell? ⟨w.heap.size + 1, 3, none⟩ = some (.slice none 0 0) := HX5.out.bad.cell (i := 3) (by omega)
        go_wp2
        have RX := (((HX5.out.box.set 0 (.int .i64 0)).set 1 (.string ⟨#[]⟩)).set 2 (.slice none 0 0)).set 3 (.slice none 0 0)
        refine bodyPost_ret (ret_dc (k := 2) rfl (RX.cell (i := 0) (by omega)) (RX.cell (i := 1) (by omega)) (RX.cell (i := 2) (by omega)) (RX.cell (i := 3) (by omega)) _ rfl) rfl ?_
        rw [HNO.out]
        exact ⟨below_dc HX5.out.below HX5.out.box _ _ _ _, dp0, rfl, (dc_bare _ _ _ _).rd⟩
      | some z =>
        obtain ⟨l2, k⟩ := z
        rw [he] at hr4
        obtain ⟨ea, en, ec, k', ys, rfl, rfl, hre, hys⟩ := hr4
        have HX5 : Hid (XD w (w4.alloc (.cells #[.slice ea en ec, .int .i64 (k : Int)] 111))) := HX4.out.on (bel1 _ _)
        have HE5 : Hid (RE (w.heap.size + 1) (w4.alloc (.cells #[.slice ea en ec, .int .i64 (k : Int)] 111)) (.slice ea en ec) ys) := (hre.mono (by simp; omega)).below (bel1 _ _)
        have HT5 : Hid (RT (w.heap.size + 1) (w4.alloc (.cells #[.slice ea en ec, .int .i64 (k : Int)] 111)) (.slice va n c') us) := HT4.out.below (bel1 _ _)
        have HYS : Hid (ys.map Prod.fst = l2) := hys
        by_cases hk : k = ts.length
        case neg =>
          have HNO : Hid (declP false ts = dBad) := by show _ = _; rw [HR1.out, he]; exact if_neg hk
          have ge : (((k : Int)) == (ts.length : Int)) = false := beq_eq_false_iff_ne.2 (by omega)
          clear he hb4 TB hk hre hys
          have hxl := HX5.out.box.lt
          have hxb := HX5.out.bad.lt
          have d0 : (w4.alloc (.cells #[.slice ea en ec, .int .i64 (k : Int)] 111)).cell? ⟨w.heap.size, 0, none⟩ = some (.int .i64 0) := HX5.out.box.cell (i := 0) (by omega)
          have d1 : (w4.alloc (.cells #[.slice ea en ec, .int .i64 (k : Int)] 111)).cell? ⟨w.heap.size, 1, none⟩ = some (.string ⟨#[]⟩) := HX5.out.box.cell (i := 1) (by omega)
          have d2 : (w4.alloc (.cells #[.slice ea en ec, .int .i64 (k : Int)] 111)).cell? ⟨w.heap.size, 2, none⟩ = some (.slice none 0 0) := HX5.out.box.cell (i := 2) (by omega)
          have d3 : (w4.alloc (.cells #[.slice ea en ec, .int .i64 (k : Int)] 111)).cell? ⟨w.heap.size, 3, none⟩ = some (.slice none 0 0) := HX5.out.box.cell (i := 3) (by omega)
          have z0 := HX5.out.box.frozen 0
          have z1 := HX5.out.box.frozen 1
          have z2 := HX5.out.box.frozen 2
          have z3 := HX5.out.box.frozen 3
          have b0 : (w4.alloc (.cells #[.slice ea en ec, .int .i64 (k : Int)] 111)).cell? ⟨w.heap.size + 1, 0, none⟩ = some (.int .i64 0) := HX5.out.bad.cell (i := 0) (by omega)
          have b1 : (w4.alloc (.cells #[.slice ea en ec, .int .i64 (k : Int)] 111)).cell? ⟨w.heap.size + 1, 1, none⟩ = some (.string ⟨#[]⟩) := HX5.out.bad.cell (i := 1) (by omega)
          have b2 : (w4.alloc (.cells #[.slice ea en ec, .int .i64 (k : Int)] 111)).cell? ⟨w.heap.size + 1, 2, none⟩ = some (.slice none 0 0) := HX5.out.bad.cell (i := 2) (by omega)
          have b3 : (w4.alloc (.cells #[.slice ea en ec, .int .i64 (k : Int)] 111)).cell? ⟨w.heap.size + 1, 3, none⟩ = some (.slice none 0 0) := HX5.out.bad.cell (i := 3) (by omega)
          go_wp2
          have RX := (((HX5.out.box.set 0 (.int .i64 0)).set 1 (.string ⟨#[]⟩)).set 2 (.slice none 0 0)).set 3 (.slice none 0 0)
          refine bodyPost_ret (ret_dc (k := 2) rfl (RX.cell (i := 0) (by omega)) (RX.cell (i := 1) (by omega)) (RX.cell (i := 2) (by omega)) (RX.cell (i := 3) (by omega)) _ rfl) rfl ?_
          rw [HNO.out]
          exact ⟨below_dc HX5.out.below HX5.out.box _ _ _ _, dp0, rfl, (dc_bare _ _ _ _).rd⟩
        case pos =>
          have HYES : Hid (declP false ts = ⟨3, nn, tl, l2⟩) := by show _ = _; rw [HR1.out, he]; exact if_pos hk
          have ge : (((k : Int)) == (ts.length : Int)) = true := beq_iff_eq.2 (by omega)
          obtain ⟨W5, hW5⟩ : ∃ W5, W5 = w4.alloc (.cells #[.slice ea en ec, .int .i64 (k : Int)] 111) := ⟨_, rfl⟩
          rw [← hW5] at HX5 HE5 HT5
          have hxl := HX5.out.box.lt
          have hxl4 := HX4.out.box.lt
          have t0' : W5.cell? ⟨w2.heap.size, 0, none⟩ = some (.slice va n c') := by rw [hW5]; exact ((bel1 w4 _).cell (p := ⟨w2.heap.size, 0, none⟩) (World.block_lt_of_cell? _ _ t0)).trans t0
          have EB : W5.rowIs w4.heap.size 111 2 (v2 (.slice ea en ec) (.int .i64 (k : Int))) := by rw [hW5]; exact row2 w4 _ _ _
          have u0 : W5.cell? ⟨w4.heap.size, 0, none⟩ = some (.slice ea en ec) := EB.cell (i := 0) (by omega)
          have u1 : W5.cell? ⟨w4.heap.size, 1, none⟩ = some (.int .i64 (k : Int)) := EB.cell (i := 1) (by omega)
          have d0 : W5.cell? ⟨w.heap.size, 0, none⟩ = some (.int .i64 0) := HX5.out.box.cell (i := 0) (by omega)
          have d1 : W5.cell? ⟨w.heap.size, 1, none⟩ = some (.string ⟨#[]⟩) := HX5.out.box.cell (i := 1) (by omega)
          have d2 : W5.cell? ⟨w.heap.size, 2, none⟩ = some (.slice none 0 0) := HX5.out.box.cell (i := 2) (by omega)
          have d3 : W5.cell? ⟨w.heap.size, 3, none⟩ = some (.slice none 0 0) := HX5.out.box.cell (i := 3) (by omega)
          have z0 := HX5.out.box.frozen 0
          have z1 := HX5.out.box.frozen 1
          have z2 := HX5.out.box.frozen 2
          have z3 := HX5.out.box.frozen 3
          clear he hb4 TB hk hre hys EB t0
          go_upto_region 15 with fail
          rw [← hW5]
          clear hW5
          go_wp2
          have RX := (((HX5.out.box.set 0 (.int .i64 3)).set 1 (.string nn)).set 2 (.slice va n c')).set 3 (.slice ea en ec)
          refine bodyPost_ret (ret_dc (k := 2) rfl (RX.cell (i := 0) (by omega)) (RX.cell (i := 1) (by omega)) (RX.cell (i := 2) (by omega)) (RX.cell (i := 3) (by omega)) _ rfl) rfl ?_
          rw [HYES.out]
          exact ⟨below_dc HX5.out.below HX5.out.box _ _ _ _, ⟨.slice va n c', us, .slice ea en ec, ys⟩, rfl, ⟨((HT5.out.kp (kp_dc HX5.out.box _ _ _ _) (by decide) (by decide)).mono (by omega)), HUS.out, ((HE5.out.kp (kp_dc HX5.out.box _ _ _ _) (by decide) (by decide) (by decide)).mono (by omega)), HYS.out⟩⟩

theorem m_decl {tb o c : Nat} {ao : Option Addr} {ts : List TK} (ok : TkOK ts) (w : World) (h : MS w tb o ao ts) :
    Calls Tryz.prog 54 #[.slice ao ts.length c] w (MDR w (declP false ts)) := by
  by_cases hl : ts.length < 2
  · exact md_short w h hl
  cases hc : isC ts 1 1 with
  | false => exact md_noname w h (by omega) hc
  | true =>
    cases q0 : isT ts 0 sImport with
    | true =>
      by_cases h2 : ts.length = 2
      · exact md_import w h hc q0 h2
      · exact md_import2 w h hc q0 h2
    | false =>
      cases q1 : isT ts 0 sType with
      | true =>
        cases h2 : isT ts 2 sEq with
        | false => exact md_type0 w h hc q1 h2
        | true => exact md_type1 w h hc q1 h2
      | false =>
        cases q2 : isT ts 0 sVal with
        | false => exact md_word w h hc q0 q1 q2
        | true =>
          cases h2 : isT ts 2 sColon with
          | false => exact md_val0 w h hc q2 h2
          | true => exact md_val1 w h ok hc q2 h2

end Go.Proofs.YtdjkgilohhjfoaaGreatDoor
