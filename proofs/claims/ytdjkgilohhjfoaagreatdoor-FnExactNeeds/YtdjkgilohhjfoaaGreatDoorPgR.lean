/-
  The model's fields and calls behind an atom.
-/
import Derived.Test.YtdjkgilohhjfoaaGreatDoorM18
namespace Go.Proofs.YtdjkgilohhjfoaaGreatDoor
open Go.RowKit

set_option maxRecDepth 100000 in
set_option maxHeartbeats 16000000 in
theorem m_post {tb o c : Nat} {ao : Option Addr} {ts : List TK} (ok : TkOK ts) {f : Nat} (IH : MEC tb o ts f) (w : World) (h : MS w tb o ao ts) {i : Nat} (hf : ts.length - i < f + 1) (hi9 : i ≤ 1100) :
    Calls Tryz.prog 83 #[.slice ao ts.length c, .int .i64 (i : Int)] w (MER w (postP false ts (exP false ts f) i)) := by
  obtain ⟨i0, hi0, hz0, hz1, hz2⟩ := info_parts Tryz.infoEI
  have hln := h.tk.len
  have HMW : Hid (∀ W, Below w.heap.size w W → MS W tb o ao ts) := fun W hb => h.below hb
  have C1 : Hid (Calls Tryz.prog 89 #[.slice ao ts.length c, .int .i64 (i : Int)] (bxE w) (MER (bxE w) (atomP false ts (exP false ts f) i))) := m_atom ok IH (bxE w) (h.below (bel1 _ _)) hf hi9
  have HIH : Hid (MEC tb o ts f) := IH
  have HFE : Hid (Far ts.length (exP false ts f)) := ex_far f
  have HFP : Hid (Far ts.length (atomP false ts (exP false ts f))) := atom_far (ex_far f)
  obtain ⟨PL, hPL⟩ : ∃ PL, PL = postL ts (exP false ts f) := ⟨_, rfl⟩
  have HPL : Hid (PL = postL ts (exP false ts f)) := hPL
  obtain ⟨Rr, hRr⟩ : ∃ Rr, Rr = postP false ts (exP false ts f) i := ⟨_, rfl⟩
  have HR0 : Hid (postP false ts (exP false ts f) i = Rr) := hRr.symm
  have HF : Hid (ts.length - i < f + 1) := hf
  clear h IH hPL hRr hf
  go_enter Tryz.func83, Tryz.ntmps83
  go_wp2_with fail
  refine C1.out.mono ?_
  rintro e w2 ⟨hb2, hr⟩
  have X2 := (row2 w (.slice none 0 0) (.int .i64 0) 111).of_block (hb2.block _ (by simp))
  have B2 : Below w.heap.size w w2 := (bel1 _ _).trans (hb2.mono (by simp))
  have hxl := X2.lt
  obtain ⟨va0, n0, c0, k0, he, HST⟩ : ∃ va n c' k, e = .returned (.agg #[.slice va n c', .int .i64 k]) ∧ Hid (SNo w w2.heap.size Rr (w2.alloc (.cells #[.slice va n c', .int .i64 k] 111)) ∨ ∃ j zs va' n' c'', i < j ∧ MPo w w2.heap.size ts PL Rr j zs va' n' c'' (w2.alloc (.cells #[.slice va n c', .int .i64 k] 111))) := by
    have hu : Rr = match atomP false ts (exP false ts f) i with
      | none => none
      | some (l, j) => postL ts (exP false ts f) (ts.length + 1) l j := by
      rw [← HR0.out]; unfold postP
      cases atomP false ts (exP false ts f) i with
      | none => rfl
      | some z => rfl
    cases hp : atomP false ts (exP false ts f) i with
    | none =>
      rw [hp] at hr hu
      obtain ⟨va, n, c', rfl⟩ := hr
      exact ⟨va, n, c', -1, rfl, Or.inl ⟨B2.alloc B2.size _, X2.alloc _, ⟨va, n, c', row2 w2 _ _ _⟩, hxl, hu⟩⟩
    | some z =>
      obtain ⟨l, j⟩ := z
      rw [hp] at hr hu
      obtain ⟨va, n, c', k, zs, rfl, rfl, hrt, hzs⟩ := hr
      obtain ⟨far1, far2, far3⟩ := HFP.out _ _ _ hp
      have hzl : zs.length = l.length := by rw [← hzs, List.length_map]
      exact ⟨va, n, c', j, rfl, Or.inr ⟨j, zs, va, n, c', far2, B2.alloc B2.size _, X2.alloc _, row2 w2 _ _ _, hxl, (hrt.mono (by simp)).below (bel1 _ _), ⟨ts.length + 1, by rw [hu, HPL.out, hzs], by omega⟩, far3, by omega, own_len hrt.own⟩⟩
  subst he
  obtain ⟨Lb, hLb⟩ : ∃ Lb, Lb = w2.heap.size := ⟨_, rfl⟩
  clear hr X2 B2 hb2
  go_wp2
  go_loopw [6] (fun _ wr => Hid (SNo w w2.heap.size Rr wr ∨ ∃ j zs va' n' c'', i < j ∧ MPo w w2.heap.size ts PL Rr j zs va' n' c'' wr)) (fun _ wr => atOf w2.heap.size wr)
  case atStart => exact HST
  case round =>
    clear HST
    rw [← hLb] at *
    rcases hrel.out with HS | ⟨j, zs, va, n, c', hij, HG⟩
    · have HSN : Hid (SNo w Lb Rr wr) := HS
      clear hrel
      obtain ⟨va, n, c', hl⟩ := HS.left
      have l0 : wr.cell? ⟨Lb, 0, none⟩ = some (.slice va n c') := hl.cell (i := 0) (by omega)
      have l1 : wr.cell? ⟨Lb, 1, none⟩ = some (.int .i64 (-1)) := hl.cell (i := 1) (by omega)
      clear HS hl
      have XR := HSN.out.box
      have HXR : Hid (wr.rowIs w.heap.size 111 2 (v2 (.slice none 0 0) (.int .i64 0))) := XR
      have d0 := XR.cell (i := 0) (by omega)
      have d1 := XR.cell (i := 1) (by omega)
      have z0 := XR.frozen 0
      have z1 := XR.frozen 1
      clear XR
      go_wp2
      have RX := (HXR.out.set 0 (.slice va n c')).set 1 (.int .i64 (-1))
      refine bodyPost_ret (ret_ex (k := 4) rfl (RX.cell (i := 0) (by omega)) (RX.cell (i := 1) (by omega)) _ rfl) rfl ?_
      rw [HR0.out, HSN.out.is]
      exact ⟨below_box HSN.out.below _ _, va, n, c', rfl⟩
    · have HG0 : Hid (MPo w Lb ts PL Rr j zs va n c' wr) := HG
      have HIJ : Hid (i < j) := hij
      have l0 := HG.c0
      have l1 := HG.c1
      have g0 : ¬ (j : Int) < 0 := by omega
      have g1 : (0 : Int) ≤ (j : Int) := by omega
      have g2 : decide ((0 : Int) ≤ (j : Int)) = true := decide_eq_true g1
      have hjl := HG.ple
      have hfew := HG.few
      have hws := HG.below.size
      have hxlt0 := HG.box.lt
      have hllt0 := HG.left.lt
      have hlb0 := HG.lb
      have HM : Hid (MS wr tb o ao ts) := HMW.out wr HG.below
      obtain ⟨f0, hf0, hfu⟩ := HG.is
      have HIS0 : Hid (Rr = postL ts (exP false ts f) f0 (zs.map Prod.fst) j) := by show _ = _; rw [hf0, HPL.out]
      obtain ⟨f1, hf1⟩ : ∃ f1, f0 = f1 + 1 := ⟨f0 - 1, by omega⟩
      have HF1 : Hid (f0 = f1 + 1 ∧ ts.length + 1 ≤ f0 + j) := ⟨hf1, hfu⟩
      clear hrel HG hf0 hf1 hfu hij
      cases hd : isT ts j sDot with
      | true =>
        have hjp := isT_lt hd
        cases hn : isC ts (j + 1) 1 with
        | false =>
          have HNO : Hid (Rr = none) := by show _ = _; rw [HIS0.out, HF1.out.1, postL, hd, hn]; rfl
          go_wp2_with fail
          refine (m_isb HM.out (i := j) (rfl) (l := sDot) hd rfl (by decide)).mono ?_
          rintro e w' ⟨rfl, rfl⟩
          go_wp2_with fail
          refine (m_isb HM.out (i := j) (rfl) (l := sDot) hd rfl (by decide)).mono ?_
          rintro e w' ⟨rfl, rfl⟩
          go_wp2_with fail
          refine (m_isN HM.out (i := j + 1) (by omega) hn).mono ?_
          rintro e w' ⟨rfl, rfl⟩
          go_wp2_with fail
          refine (m_noExpr _).mono ?_
          rintro e w4 ⟨⟨va4, n4, c4, rfl⟩, hb4⟩
          have XN := (HG0.out.box).of_block (hb4.out.block _ (HG0.out.box).lt)
          have HXN : Hid (w4.rowIs w.heap.size 111 2 (v2 (.slice none 0 0) (.int .i64 0))) := XN
          have d0 := XN.cell (i := 0) (by omega)
          have d1 := XN.cell (i := 1) (by omega)
          have z0 := XN.frozen 0
          have z1 := XN.frozen 1
          have HBN : Hid (Below w.heap.size w w4) := (HG0.out.below).trans (hb4.out.mono (HG0.out.below).size)
          clear XN hb4
          go_wp2
          have RX := (HXN.out.set 0 (.slice va4 n4 c4)).set 1 (.int .i64 (-1))
          refine bodyPost_ret (ret_ex (k := 4) rfl (RX.cell (i := 0) (by omega)) (RX.cell (i := 1) (by omega)) _ rfl) rfl ?_
          rw [HR0.out, HNO.out]
          exact ⟨below_box HBN.out _ _, va4, n4, c4, rfl⟩
        | true =>
          have hj1 := isC_lt hn
          have eo := HM.out.at_ (by omega)
          subst eo
          have ct := HM.out.tk.c1 (j + 1) hj1
          rw [← tx_at hj1] at ct
          obtain ⟨tt, htt⟩ : ∃ z, z = tx ts (j + 1) := ⟨_, rfl⟩
          rw [← htt] at ct
          have HTT : Hid (tx ts (j + 1) = tt) := htt.symm
          have ct' : wr.cell? ⟨tb, o + (j + 1) * 3 + 1, none⟩ = some (.string tt) := ct
          have hq1 : (j : Int) + 1 < (ts.length : Int) := by omega
          have hq0 : (0 : Int) ≤ (j : Int) + 1 := by omega
          have wr1 : IntKind.i64.wrap ((j : Int) + 1) = (j : Int) + 1 := by rw [IntKind.wrap_i64]; omega
          have HIS : Hid (∃ f, Rr = PL f (zs.map Prod.fst ++ [⟨5, 0, e0, tt, [], []⟩]) (j + 2) ∧ ts.length + 1 ≤ f + (j + 2)) := ⟨f1, by rw [HPL.out, HIS0.out, HF1.out.1, postL, hd, hn, HTT.out]; rfl, by have := HF1.out; omega⟩
          have BL := bel1 wr (.cells #[.int .i64 5, .int .i64 0, .string ⟨#[]⟩, .string tt, .slice none 0 0, .slice none 0 0] 123)
          have CJ : Hid (Calls Tryz.prog 74 #[.slice va n c', .slice (some ⟨wr.heap.size, 0, none⟩) 1 1] ((wr.alloc (.cells #[.int .i64 5, .int .i64 0, .string ⟨#[]⟩, .string tt, .slice none 0 0, .slice none 0 0] 123)).drew) fun e w' => (∃ va n c, e = .returned (.slice va n c) ∧ Hid (RE (w.heap.size + 1) w' (.slice va n c) (zs ++ [(⟨5, 0, e0, tt, [], []⟩, ep0)]))) ∧ Hid (Below wr.heap.size wr w')) := by
            refine (m_joinE ((wr.alloc (.cells #[.int .i64 5, .int .i64 0, .string ⟨#[]⟩, .string tt, .slice none 0 0, .slice none 0 0] 123)).drew) (HG0.out.items.below BL).drew (re_lit wr (B := w.heap.size + 1) (by omega) 5 0 ⟨#[]⟩ tt).drew (by simp only [List.length_singleton]; omega) (by simp; omega)).mono ?_
            rintro e w' ⟨h1, h2⟩
            refine ⟨h1, BL.trans (Below.mono ⟨h2.out.os, h2.out.tape, h2.out.output, h2.out.size, h2.out.block⟩ BL.size)⟩
          have HC8 : Hid (∀ w', Below wr.heap.size wr w' → w'.cell? ⟨Lb, 0, none⟩ = some (.slice va n c') ∧ w'.cell? ⟨Lb, 1, none⟩ = some (.int .i64 (j : Int)) ∧ w'.cell? ⟨tb, o + (j + 1) * 3 + 1, none⟩ = some (.string tt)) := fun w' hb => ⟨(hb.cell (p := ⟨Lb, 0, none⟩) (World.block_lt_of_cell? _ _ l0)).trans l0, (hb.cell (p := ⟨Lb, 1, none⟩) (World.block_lt_of_cell? _ _ l1)).trans l1, (hb.cell (p := ⟨tb, o + (j + 1) * 3 + 1, none⟩) (World.block_lt_of_cell? _ _ ct')).trans ct'⟩
          have HS0 : Hid (wr.drew.cell? ⟨Lb, 0, none⟩ = some (.slice va n c') ∧ wr.drew.cell? ⟨Lb, 1, none⟩ = some (.int .i64 (j : Int)) ∧ wr.drew.cell? ⟨tb, o + (j + 1) * 3 + 1, none⟩ = some (.string tt)) := HC8.out wr (Below.refl _ _)
          have HS1 : Hid (∀ x : Obj, ((wr.alloc x).drew).cell? ⟨Lb, 0, none⟩ = some (.slice va n c') ∧ ((wr.alloc x).drew).cell? ⟨Lb, 1, none⟩ = some (.int .i64 (j : Int)) ∧ ((wr.alloc x).drew).cell? ⟨tb, o + (j + 1) * 3 + 1, none⟩ = some (.string tt)) := fun x => HC8.out (wr.alloc x) (bel1 _ _)
          clear htt ct BL
          go_wp2_with fail
          refine (m_isb HM.out (i := j) (rfl) (l := sDot) hd rfl (by decide)).mono ?_
          rintro e w' ⟨rfl, rfl⟩
          go_wp2_with fail
          refine (m_isb HM.out (i := j) (rfl) (l := sDot) hd rfl (by decide)).mono ?_
          rintro e w' ⟨rfl, rfl⟩
          go_wp2_with fail
          refine (m_isN HM.out (i := j + 1) (by omega) hn).mono ?_
          rintro e w' ⟨rfl, rfl⟩
          go_wp2
          go_region_held3 (fun w' => w'.cell? ⟨Lb, 0, none⟩ = some (.slice va n c') ∧ w'.cell? ⟨Lb, 1, none⟩ = some (.int .i64 (j : Int)) ∧ w'.cell? ⟨tb, o + (j + 1) * 3 + 1, none⟩ = some (.string tt)) (first | exact HC9.out | exact HS0.out | exact HS1.out _ | go_keep) (first | (go_at_call 74; refine CJ.out.mono ?_; rintro e w8 ⟨⟨va8, n8, c8, rfl, H8⟩, hb8⟩; have HC9 : Hid (w8.cell? ⟨Lb, 0, none⟩ = some (.slice va n c') ∧ w8.cell? ⟨Lb, 1, none⟩ = some (.int .i64 (j : Int)) ∧ w8.cell? ⟨tb, o + (j + 1) * 3 + 1, none⟩ = some (.string tt)) := HC8.out w8 hb8.out))
          have G8 := HG0.out.on hb8.out
          have HG8 : Hid (MPo w Lb ts PL Rr j zs va n c' w8) := G8
          have a0 := G8.c0
          have a1 := G8.c1
          have y0 := G8.left.frozen 0
          have y1 := G8.left.frozen 1
          have HNX : Hid (∀ kk : Int, kk = ((j + 2 : Nat) : Int) → MPo w Lb ts PL Rr (j + 2) (zs ++ [(⟨5, 0, e0, tt, [], []⟩, ep0)]) va8 n8 c8 ((w8.setCell ⟨Lb, 0, none⟩ (.slice va8 n8 c8)).setCell ⟨Lb, 1, none⟩ (.int .i64 kk))) := fun kk hkk => by
            subst hkk
            obtain ⟨S1, S2, S3, S4⟩ := mpo_set (k := ((j + 2 : Nat) : Int)) HG8.out.below HG8.out.box HG8.out.left HG8.out.lb H8.out
            exact ⟨S1, S2, S3, HG8.out.lb, S4, by obtain ⟨f1, h1, h2⟩ := HIS.out; exact ⟨f1, by rw [h1, List.map_append]; rfl, h2⟩, by omega, by rw [List.length_append]; simp only [List.length_singleton]; omega, own_len H8.out.own⟩
          clear G8 CJ HC8 hb8 H8
          go_wp2
          exact ⟨Or.inr ⟨j + 2, _, _, _, _, by have := HIJ.out; omega, HNX.out _ (by omega)⟩, by rw [atOf_is (HNX.out _ (by omega)).c1, atOf_is HG0.out.c1]; omega⟩
      | false =>
        cases hl : isT ts j sLeft with
        | false =>
          have HYES : Hid (Rr = some (zs.map Prod.fst, j)) := by show _ = _; rw [HIS0.out, HF1.out.1, postL, hd, hl]; rfl
          go_wp2_with fail
          refine (m_isb HM.out (i := j) (rfl) (l := sDot) hd rfl (by decide)).mono ?_
          rintro e w' ⟨rfl, rfl⟩
          go_wp2_with fail
          refine (m_isb HM.out (i := j) (rfl) (l := sLeft) hl rfl (by decide)).mono ?_
          rintro e w' ⟨rfl, rfl⟩
          have XR := HG0.out.box
          have HXR : Hid (wr.rowIs w.heap.size 111 2 (v2 (.slice none 0 0) (.int .i64 0))) := XR
          have d0 := XR.cell (i := 0) (by omega)
          have d1 := XR.cell (i := 1) (by omega)
          have z0 := XR.frozen 0
          have z1 := XR.frozen 1
          clear XR
          go_wp2
          have RX := (HXR.out.set 0 (.slice va n c')).set 1 (.int .i64 (j : Int))
          obtain ⟨W1, W2⟩ := box_ex HG0.out.below HXR.out (.slice va n c') (.int .i64 (j : Int))
          refine bodyPost_ret (ret_ex (k := 4) rfl (RX.cell (i := 0) (by omega)) (RX.cell (i := 1) (by omega)) _ rfl) rfl ?_
          rw [HR0.out, HYES.out]
          exact ⟨W1, va, n, c', (j : Int), zs, rfl, rfl, (W2 _ _ _ HG0.out.items).mono (by omega), rfl⟩
        | true =>
          have hjp := isT_lt hl
          have C4 : Hid (Calls Tryz.prog 64 #[.slice ao ts.length c, .int .i64 ((j : Int) + 1)] wr (MER wr (exP false ts f (j + 1)))) := HIH.out wr ao c ((j : Int) + 1) (j + 1) HM.out (by omega) (by have := HF.out; have := HIJ.out; omega) (by omega)
          go_wp2_with fail
          refine (m_isb HM.out (i := j) (rfl) (l := sDot) hd rfl (by decide)).mono ?_
          rintro e w' ⟨rfl, rfl⟩
          go_wp2_with fail
          refine (m_isb HM.out (i := j) (rfl) (l := sLeft) hl rfl (by decide)).mono ?_
          rintro e w' ⟨rfl, rfl⟩
          go_wp2_with fail
          refine (m_isb HM.out (i := j) (rfl) (l := sDot) hd rfl (by decide)).mono ?_
          rintro e w' ⟨rfl, rfl⟩
          go_wp2_with fail
          refine C4.out.mono ?_
          rintro e w4 ⟨hb4, hr4⟩
          have HG4 : Hid (MPo w Lb ts PL Rr j zs va n c' w4) := HG0.out.on hb4
          cases ht : exP false ts f (j + 1) with
          | none =>
            rw [ht] at hr4
            obtain ⟨va', n', c'', rfl⟩ := hr4
            have HNO : Hid (Rr = none) := by show _ = _; rw [HIS0.out, HF1.out.1, postL, hd, hl]; unfold brkP; rw [ht]; rfl
            have HGA : Hid (MPo w Lb ts PL Rr j zs va n c' (w4.alloc (.cells #[.slice va' n' c'', .int .i64 (-1)] 111))) := HG4.out.on (bel1 _ _)
            clear hb4 ht l0 l1
            go_wp2_with fail
            refine (m_noExpr _).mono ?_
            rintro e w4 ⟨⟨va4, n4, c4, rfl⟩, hb4⟩
            have XN := (HGA.out.box).of_block (hb4.out.block _ (HGA.out.box).lt)
            have HXN : Hid (w4.rowIs w.heap.size 111 2 (v2 (.slice none 0 0) (.int .i64 0))) := XN
            have d0 := XN.cell (i := 0) (by omega)
            have d1 := XN.cell (i := 1) (by omega)
            have z0 := XN.frozen 0
            have z1 := XN.frozen 1
            have HBN : Hid (Below w.heap.size w w4) := (HGA.out.below).trans (hb4.out.mono (HGA.out.below).size)
            clear XN hb4
            go_wp2
            have RX := (HXN.out.set 0 (.slice va4 n4 c4)).set 1 (.int .i64 (-1))
            refine bodyPost_ret (ret_ex (k := 4) rfl (RX.cell (i := 0) (by omega)) (RX.cell (i := 1) (by omega)) _ rfl) rfl ?_
            rw [HR0.out, HNO.out]
            exact ⟨below_box HBN.out _ _, va4, n4, c4, rfl⟩
          | some z =>
            obtain ⟨l2, k⟩ := z
            rw [ht] at hr4
            obtain ⟨va', n', c'', k', ys, rfl, rfl, hrt, hys⟩ := hr4
            obtain ⟨far1, far2, far3⟩ := HFE.out _ _ _ ht
            have HYL : Hid (ys.length + j + 1 ≤ k) := by
              have hyl : ys.length = l2.length := by rw [← hys, List.length_map]
              show _ ≤ _; omega
            have hyb := HYL.out
            have hk0 : ¬ (k : Int) < 0 := by omega
            have wrk : IntKind.i64.wrap ((k : Int) + 1) = (k : Int) + 1 := by rw [IntKind.wrap_i64]; omega
            have HGA : Hid (MPo w Lb ts PL Rr j zs va n c' (w4.alloc (.cells #[.slice va' n' c'', .int .i64 (k : Int)] 111))) := HG4.out.on (bel1 _ _)
            have HMA : Hid (MS (w4.alloc (.cells #[.slice va' n' c'', .int .i64 (k : Int)] 111)) tb o ao ts) := HMW.out _ HGA.out.below
            cases hr2 : isT ts k sRight with
            | false =>
              have HNO : Hid (Rr = none) := by show _ = _; rw [HIS0.out, HF1.out.1, postL, hd, hl]; unfold brkP; rw [ht]; simp [hr2]
              clear hb4 ht l0 l1
              go_wp2_with fail
              refine (m_isb HMA.out (i := k) (rfl) (l := sRight) hr2 rfl (by decide)).mono ?_
              rintro e w' ⟨rfl, rfl⟩
              go_wp2_with fail
              refine (m_noExpr _).mono ?_
              rintro e w4 ⟨⟨va4, n4, c4, rfl⟩, hb4⟩
              have XN := (HGA.out.box).of_block (hb4.out.block _ (HGA.out.box).lt)
              have HXN : Hid (w4.rowIs w.heap.size 111 2 (v2 (.slice none 0 0) (.int .i64 0))) := XN
              have d0 := XN.cell (i := 0) (by omega)
              have d1 := XN.cell (i := 1) (by omega)
              have z0 := XN.frozen 0
              have z1 := XN.frozen 1
              have HBN : Hid (Below w.heap.size w w4) := (HGA.out.below).trans (hb4.out.mono (HGA.out.below).size)
              clear XN hb4
              go_wp2
              have RX := (HXN.out.set 0 (.slice va4 n4 c4)).set 1 (.int .i64 (-1))
              refine bodyPost_ret (ret_ex (k := 4) rfl (RX.cell (i := 0) (by omega)) (RX.cell (i := 1) (by omega)) _ rfl) rfl ?_
              rw [HR0.out, HNO.out]
              exact ⟨below_box HBN.out _ _, va4, n4, c4, rfl⟩
            | true =>
              have hkr := isT_lt hr2
              have HY4 : Hid (RE (w.heap.size + 1) w4 (.slice va' n' c'') ys) := hrt.mono (by omega)
              have HYS : Hid (ys.map Prod.fst = l2) := hys
              have HIS : Hid (∃ f, Rr = PL f (zs.map Prod.fst ++ l2 ++ [exO 7]) (k + 1) ∧ ts.length + 1 ≤ f + (k + 1)) := ⟨f1, by rw [HPL.out, HIS0.out, HF1.out.1, postL, hd, hl]; unfold brkP; rw [ht]; simp [hr2], by have := HF1.out; omega⟩
              clear hb4 ht hrt hys l0 l1
              go_wp2_with fail
              refine (m_isb HMA.out (i := k) (rfl) (l := sRight) hr2 rfl (by decide)).mono ?_
              rintro e w' ⟨rfl, rfl⟩
              have B5 := bel1 w4 (.cells #[.slice va' n' c'', .int .i64 (k : Int)] 111)
              have G5 := HG4.out.on B5
              have l0 := G5.c0
              have CJ : Hid (Calls Tryz.prog 74 #[.slice va n c', .slice va' n' c''] (w4.alloc (.cells #[.slice va' n' c'', .int .i64 (k : Int)] 111)) fun e w' => (∃ va n c, e = .returned (.slice va n c) ∧ Hid (RE (w.heap.size + 1) w' (.slice va n c) (zs ++ ys))) ∧ Hid (Below (w4.alloc (.cells #[.slice va' n' c'', .int .i64 (k : Int)] 111)).heap.size (w4.alloc (.cells #[.slice va' n' c'', .int .i64 (k : Int)] 111)) w')) :=
                m_joinE _ G5.items (HY4.out.below B5) (by have := G5.few; have := G5.ple; omega) (by have := G5.below.size; have := G5.box.lt; omega)
              have HG5 : Hid (MPo w Lb ts PL Rr j zs va n c' (w4.alloc (.cells #[.slice va' n' c'', .int .i64 (k : Int)] 111))) := G5
              have RR := row2 w4 (.slice va' n' c'') (.int .i64 (k : Int)) 111
              clear G5 B5
              go_wp2_with fail
              refine CJ.out.mono ?_
              rintro e w8 ⟨⟨va8, n8, c8, rfl, H8⟩, hb8⟩
              have en := own_len H8.out.own
              obtain ⟨N, hN⟩ : ∃ N, N = (zs ++ ys).length := ⟨_, rfl⟩
              rw [← hN] at en
              have en := en.symm
              subst en
              have HN : Hid (N = (zs ++ ys).length) := hN
              have hNb : N ≤ 4000 := by rw [hN, List.length_append]; have := HG5.out.few; have := HG5.out.ple; omega
              have HO : Hid (RE (w.heap.size + 1) w8 (.slice va8 N c8) (zs ++ ys)) := H8
              have HOW : Hid (w8.ownsRow (w.heap.size + 1) 123 6 (.slice va8 N c8) N (eisC (zs ++ ys))) := by have := HO.out.own; rw [← hN] at this; exact this
              have k1 : w8.cell? ⟨w4.heap.size, 1, none⟩ = some (.int .i64 (k : Int)) := (RR.of_block (hb8.out.block _ RR.lt)).cell (i := 1) (by omega)
              have HG8 : Hid (MPo w Lb ts PL Rr j zs va n c' w8) := HG5.out.on hb8.out
              have hws8 : w4.heap.size + 1 ≤ w8.heap.size := by have := hb8.out.size; simp at this; omega
              have hLlt := HG4.out.left.lt
              have hne1 : Lb ≠ w4.heap.size := by omega
              have hxlt := HG4.out.box.lt
              have hlb := HG4.out.lb
              have HK8 : Hid (∀ o : Obj, ((w8.alloc o).drew).cell? ⟨w4.heap.size, 1, none⟩ = some (.int .i64 (k : Int))) := fun o => (bel1 w8 o).cell (p := ⟨w4.heap.size, 1, none⟩) (World.block_lt_of_cell? _ _ k1) |>.trans k1
              have HSR : Hid (∀ b, (Value.slice va8 N c8).ownBlock = some b → b ≠ w4.heap.size) := fun b e z => by
                subst z
                exact own_box HOW.out (RR.of_block (hb8.out.block _ RR.lt)) (by decide) e
              have HSL : Hid (∀ b, (Value.slice va8 N c8).ownBlock = some b → b ≠ Lb) := fun b e z => by
                subst z
                exact own_box HOW.out HG8.out.left (by decide) e
              clear hN CJ RR hb8 H8 l0
              go_wp2
              go_region_held3 (fun w' => w'.cell? ⟨w4.heap.size, 1, none⟩ = some (.int .i64 (k : Int))) (go_keep) ((refine step_append_lies _ (by rfl) _ _ _ (by rfl) (w.heap.size + 1) 123 i0 _ 6 96 Tryz.underlying56 hi0 hz0 hz1 hz2 rfl (by omega) (.slice va8 N c8) N (eisC (zs ++ ys)) (by rfl) ((HOW.out.alloc _).drew) ⟨w8.heap.size, 0, none⟩ 1 1 [.int .i64 7, .int .i64 0, .string ⟨#[]⟩, .string ⟨#[]⟩, .slice none 0 0, .slice none 0 0] (by rfl) (by rfl) (World.news_of_block (cs := #[.int .i64 7, .int .i64 0, .string ⟨#[]⟩, .string ⟨#[]⟩, .slice none 0 0, .slice none 0 0]) (t := 123) (fr := (0, 0)) (heap_alloc_new w8 _)) (by simp [Value.oneCell']) (by omega) (by unfold maxLen; omega) (by omega) (by simp; omega) (w8.heap.size + 1) (by simp) ?_; intro gg cap3 w9 hown3 hg3 hat3 hlt3; have f1 : w9.cell? ⟨w4.heap.size, 1, none⟩ = some (.int .i64 (k : Int)) := (hg3.cell_far ⟨w4.heap.size, 1, none⟩ (by simp; omega) (fun e => HSR.out _ e.symm rfl)).trans (HK8.out _); have L9 : w9.rowIs Lb 111 2 (v2 (.slice va n c') (.int .i64 (j : Int))) := (HG8.out.left.alloc _).of_block (hg3.block _ (by simp; omega) (fun e => HSL.out _ e.symm rfl)); have d0 := L9.cell (i := 0) (by omega); have d1 := L9.cell (i := 1) (by omega); have z0 := L9.frozen 0; have z1 := L9.frozen 1))
              have hg := grown_undrew hg3
              have NX := HO.out.push (x := (exO 7, ep0)) (by rw [← HN.out]; exact hown3) hg ⟨NmOK.nil _ _ _, (OT.nil _ _).rt, rfl⟩
              rw [← HN.out] at NX
              have B9 := below_grown HG8.out.below hg (fun b e => by have := (HOW.out.lt b e).1; omega)
              have X9 : w9.rowIs w.heap.size 111 2 (v2 (.slice none 0 0) (.int .i64 0)) := (HG8.out.box.alloc _).of_block (hg3.block _ (by simp; omega) (fun e => by have := (HOW.out.lt _ e.symm).1; omega))
              have HNX : Hid (∀ kk : Int, kk = (k + 1 : Nat) → MPo w Lb ts PL Rr (k + 1) (zs ++ ys ++ [(exO 7, ep0)]) (some ⟨gg, 0, none⟩) (N + 1) cap3 ((w9.setCell ⟨Lb, 0, none⟩ (.slice (some ⟨gg, 0, none⟩) (N + 1) cap3)).setCell ⟨Lb, 1, none⟩ (.int .i64 kk))) := fun kk hkk => by
                subst hkk
                obtain ⟨S1, S2, S3, S4⟩ := mpo_set (k := ((k + 1 : Nat) : Int)) B9 X9 L9 HG4.out.lb NX
                exact ⟨S1, S2, S3, HG4.out.lb, S4, by obtain ⟨f1, h1, h2⟩ := HIS.out; exact ⟨f1, by rw [h1, List.map_append, List.map_append, HYS.out]; rfl, h2⟩, by omega, by have := HG4.out.few; have := HYL.out; rw [List.length_append, List.length_append]; simp only [List.length_singleton]; omega, by rw [List.length_append, ← HN.out]; rfl⟩
              clear hown3 hg3 hg NX
              go_wp2
              exact ⟨Or.inr ⟨k + 1, _, _, _, _, by have := HIJ.out; omega, HNX.out _ (by omega)⟩, by rw [atOf_is (HNX.out _ (by omega)).c1, atOf_is HG0.out.c1]; omega⟩

end Go.Proofs.YtdjkgilohhjfoaaGreatDoor
