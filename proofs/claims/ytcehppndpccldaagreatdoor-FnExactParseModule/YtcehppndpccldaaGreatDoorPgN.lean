/-
  The model's atoms: brackets.
-/
import Derived.Test.YtcehppndpccldaaGreatDoorPgM
namespace Go.Proofs.YtcehppndpccldaaGreatDoor
open Go.RowKit

set_option maxRecDepth 100000 in
set_option maxHeartbeats 1000000 in
theorem ma_brk {tb o c : Nat} {ao : Option Addr} {ts : List TK} {f : Nat} (IH : MEC tb o ts f) (w : World) (h : MS w tb o ao ts) {i : Nat} (hf : ts.length - i < f + 1) (hs : isT ts i sLeft = true) :
    Calls Tryz.prog 136 #[.slice ao ts.length c, .int .i64 (i : Int)] w (MER w (atomP false ts (exP false ts f) i)) := by
  have hi := isT_lt hs
  have hln := h.tk.len
  have hc : isC ts i 1 = false := by
    cases z : isC ts i 1 with
    | false => rfl
    | true => rw [isC_isT h.tk z (by decide)] at hs; cases hs
  have h3 : isC ts i 3 = false := by
    cases z : isC ts i 3 with
    | false => rfl
    | true => rw [isC_isT h.tk z (by decide)] at hs; cases hs
  have q0 : isT ts i sTrue = false := isT_one hs (by decide)
  have q1 : isT ts i sFalse = false := isT_one hs (by decide)
  have q4 : isT ts i sOpen = false := isT_one hs (by decide)
  have HR0 : Hid (atomP false ts (exP false ts f) i = brkP ts (exP false ts f) (i + 1)) := by
    show _ = _
    unfold atomP
    rw [hc, if_neg (by decide), h3, if_neg (by decide), q0, if_neg (by decide), q1, if_neg (by decide), q4, if_neg (by decide), if_pos hs]
  have e := h.at_ (by omega)
  subst e
  have k0c := h.tk.c0 i hi
  have k1 := h.tk.c1 i hi
  rw [← tx_at hi] at k1
  have tlt : tb < w.heap.size := World.block_lt_of_cell? _ _ k1
  have BX := bel1 w (.cells #[.slice none 0 0, .int .i64 0] 77)
  have k1' := (BX.cell (p := ⟨tb, o + i * 3 + 1, none⟩) tlt).trans k1
  obtain ⟨k0, hk0⟩ : ∃ z, z = (tkA ts i).cls := ⟨_, rfl⟩
  rw [← hk0] at k0c
  have k0' := (BX.cell (p := ⟨tb, o + i * 3, none⟩) tlt).trans k0c
  have t3 : (k0 == 3) = false := by rw [hk0, ← isC_at hi]; exact h3
  have jz0 : decide ((0 : Int) ≤ (i : Int)) = true := decide_eq_true (by omega)
  have jz1 : decide ((i : Int) < (ts.length : Int)) = true := decide_eq_true (by omega)
  have HMS : Hid (MS (bxE w) tb o (some ⟨tb, o, none⟩) ts) := h.below (bel1 _ _)
  obtain ⟨nn, hnn⟩ : ∃ z, z = tx ts i := ⟨_, rfl⟩
  rw [← hnn] at k1' k1
  have HNN : Hid (tx ts i = nn) := hnn.symm
  have C : Hid (Calls Tryz.prog 50 #[.slice (some ⟨tb, o, none⟩) ts.length c, .int .i64 ((i : Int) + 1)] (bxE w) (MER (bxE w) (exP false ts f (i + 1)))) := IH _ _ _ _ _ HMS.out (by omega) (by omega) (by omega)
  have HFAR : Hid (Far ts.length (exP false ts f)) := ex_far f
  clear h IH hnn hk0 k0c k1 h3
  go_enter Tryz.func136, Tryz.ntmps136
  go_wp2_with fail
  refine (m_isb HMS.out (i := i) (rfl) (l := sTrue) q0 rfl (by decide)).mono ?_
  rintro e w' ⟨rfl, rfl⟩
  go_wp2_with fail
  refine (m_isb HMS.out (i := i) (rfl) (l := sFalse) q1 rfl (by decide)).mono ?_
  rintro e w' ⟨rfl, rfl⟩
  go_wp2_with fail
  refine (m_isN HMS.out (i := i) (rfl) hc).mono ?_
  rintro e w' ⟨rfl, rfl⟩
  go_wp2_with fail
  refine (m_isb HMS.out (i := i) (rfl) (l := sLeft) hs rfl (by decide)).mono ?_
  rintro e w' ⟨rfl, rfl⟩
  go_wp2_with fail
  refine C.out.mono ?_
  rintro e w2 ⟨hb2, hr⟩
  have R2 := (row2 w (.slice none 0 0) (.int .i64 0) 77).of_block (hb2.block _ (by simp))
  have HB2 : Hid (Below w.heap.size w w2) := (bel1 _ _).trans (hb2.mono (by simp))
  have hws := HB2.out.size
  cases ht : exP false ts f (i + 1) with
  | none =>
    rw [ht] at hr
    obtain ⟨va, n, c', rfl⟩ := hr
    have HR : Hid (atomP false ts (exP false ts f) i = none) := by show _ = _; rw [HR0.out]; unfold brkP; rw [ht]
    have R3 := R2.alloc (.cells #[.slice va n c', .int .i64 (-1)] 77)
    have HB3 : Hid (Below w.heap.size w (w2.alloc (.cells #[.slice va n c', .int .i64 (-1)] 77))) := HB2.out.alloc hws _
    clear ht R2 hb2
    go_wp2_with fail
    refine (m_noExpr _).mono ?_
    rintro e w4 ⟨⟨va4, n4, c4, rfl⟩, hb4⟩
    have R := R3.of_block (hb4.out.block _ R3.lt)
    have d0 := R.cell (i := 0) (by omega)
    have d1 := R.cell (i := 1) (by omega)
    have z0 := R.frozen 0
    have z1 := R.frozen 1
    clear R3
    go_wp2
    have R2 := (R.set 0 (.slice va4 n4 c4)).set 1 (.int .i64 (-1))
    refine bodyPost_ret (ret_ex (k := 4) rfl (R2.cell (i := 0) (by omega)) (R2.cell (i := 1) (by omega)) _ rfl) rfl ?_
    rw [HR.out]
    exact ⟨below_box (HB3.out.trans (hb4.out.mono HB3.out.size)) _ _, va4, n4, c4, rfl⟩
  | some z =>
    obtain ⟨l, j⟩ := z
    rw [ht] at hr
    obtain ⟨va, n, c', k, zs, rfl, rfl, hrt, hzs⟩ := hr
    obtain ⟨far1, far2, far3⟩ := HFAR.out _ _ _ ht
    have R3 := R2.alloc (.cells #[.slice va n c', .int .i64 (j : Int)] 77)
    have HB3 : Hid (Below w.heap.size w (w2.alloc (.cells #[.slice va n c', .int .i64 (j : Int)] 77))) := HB2.out.alloc hws _
    have HM2 : Hid (MS (w2.alloc (.cells #[.slice va n c', .int .i64 (j : Int)] 77)) tb o (some ⟨tb, o, none⟩) ts) := (HMS.out.below hb2).below (bel1 _ _)
    have hj0 : ¬ (j : Int) < 0 := by omega
    have HRT : Hid (RE (bxE w).heap.size w2 (.slice va n c') zs) := hrt
    cases hr2 : isT ts j sRight with
    | false =>
      have HR : Hid (atomP false ts (exP false ts f) i = none) := by show _ = _; rw [HR0.out]; unfold brkP; rw [ht]; show (if isT ts j sRight = true then _ else none) = _; rw [hr2]; rfl
      clear ht R2 hb2 hrt
      go_wp2_with fail
      refine (m_isb HM2.out (i := j) (rfl) (l := sRight) hr2 rfl (by decide)).mono ?_
      rintro e w' ⟨rfl, rfl⟩
      go_wp2_with fail
      refine (m_noExpr _).mono ?_
      rintro e w4 ⟨⟨va4, n4, c4, rfl⟩, hb4⟩
      have R := R3.of_block (hb4.out.block _ R3.lt)
      have d0 := R.cell (i := 0) (by omega)
      have d1 := R.cell (i := 1) (by omega)
      have z0 := R.frozen 0
      have z1 := R.frozen 1
      clear R3
      go_wp2
      have R2 := (R.set 0 (.slice va4 n4 c4)).set 1 (.int .i64 (-1))
      refine bodyPost_ret (ret_ex (k := 4) rfl (R2.cell (i := 0) (by omega)) (R2.cell (i := 1) (by omega)) _ rfl) rfl ?_
      rw [HR.out]
      exact ⟨below_box (HB3.out.trans (hb4.out.mono HB3.out.size)) _ _, va4, n4, c4, rfl⟩
    | true =>
      have HR : Hid (atomP false ts (exP false ts f) i = some (l, j + 1)) := by show _ = _; rw [HR0.out]; unfold brkP; rw [ht]; show (if isT ts j sRight = true then _ else none) = _; rw [hr2]; rfl
      clear ht hb2 hrt
      have HR2 : Hid (w2.rowIs w.heap.size 77 2 (v2 (.slice none 0 0) (.int .i64 0))) := R2
      have x0 := R3.cell (i := 0) (by omega)
      have x1 := R3.cell (i := 1) (by omega)
      have y0 := R3.frozen 0
      have y1 := R3.frozen 1
      have xlt := R2.lt
      have R5 := R2.alloc (.cells #[.slice va n c', .int .i64 ((j : Int) + 1)] 77)
      have x0' := R5.cell (i := 0) (by omega)
      have x1' := R5.cell (i := 1) (by omega)
      have y0' := R5.frozen 0
      have y1' := R5.frozen 1
      have R7 := (R2.set 0 (.slice va n c')).alloc (.cells #[.slice va n c', .int .i64 ((j : Int) + 1)] 77)
      have x0'' := R7.cell (i := 0) (by omega)
      have x1'' := R7.cell (i := 1) (by omega)
      have y0'' := R7.frozen 0
      have y1'' := R7.frozen 1
      have R8 := ((R2.set 0 (.slice va n c')).set 1 (.int .i64 ((j : Int) + 1))).alloc (.cells #[.slice va n c', .int .i64 ((j : Int) + 1)] 77)
      clear R2 R3 R5 R7
      go_wp2_with fail
      refine (m_isb HM2.out (i := j) (rfl) (l := sRight) hr2 rfl (by decide)).mono ?_
      rintro e w' ⟨rfl, rfl⟩
      go_wp2
      refine bodyPost_ret (ret_ex (k := 4) rfl (R8.cell (i := 0) (by omega)) (R8.cell (i := 1) (by omega)) _ rfl) rfl ?_
      rw [HR.out]
      obtain ⟨W1, W2⟩ := box_ex HB2.out HR2.out (.slice va n c') (.int .i64 ((j : Int) + 1))
      exact ⟨W1.alloc W1.size _, va, n, c', (j : Int) + 1, zs, rfl, by omega, ((W2 _ _ _ HRT.out).below (bel1 _ _)).mono (by simp), hzs⟩

end Go.Proofs.YtcehppndpccldaaGreatDoor
