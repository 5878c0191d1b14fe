/-
  The model's records of types.
-/
import Derived.Test.YtdjkgilohhjfoaaGreatDoorPgJ
namespace Go.Proofs.YtdjkgilohhjfoaaGreatDoor
open Go.RowKit

set_option maxRecDepth 100000 in
set_option maxHeartbeats 16000000 in
theorem mb_recT {tb o c : Nat} {ao : Option Addr} {ts : List TK} {f : Nat} (IH : MTC tb o ts f) (w : World) (h : MS w tb o ao ts) {i : Nat} (hf : ts.length - i < f + 1) (hs : isT ts i sOpen = true) :
    Calls Tryz.prog 71 #[.slice ao ts.length c, .int .i64 (i : Int)] w (MTR w (baseP false ts (tyP false ts f) i)) := by
  obtain ⟨i0, hi0, hz0, hz1, hz2⟩ := info_parts Tryz.infoTI
  obtain ⟨j0, hj0, hy0, hy1, hy2⟩ := info_parts Tryz.info9
  have hi := isT_lt hs
  have hln := h.tk.len
  have hc : isC ts i 1 = false := by
    cases z : isC ts i 1 with
    | false => rfl
    | true => rw [isC_isT h.tk z (by decide)] at hs; cases hs
  have q0 : isT ts i sInt = false := isT_one hs (by decide)
  have q1 : isT ts i sBool = false := isT_one hs (by decide)
  have q2 : isT ts i sAny = false := isT_one hs (by decide)
  have q3 : isT ts i sLeft = false := isT_one hs (by decide)
  have HR0 : Hid (baseP false ts (tyP false ts f) i = (fldsP ts (tyP false ts f) sColon (i + 1)).map (fun z : List TI × List ByteArray × Nat => (z.1 ++ [⟨5, e0, e0, z.2.1⟩], z.2.2))) := by
    show _ = _
    unfold baseP
    rw [hc, if_neg (by decide), q0, if_neg (by decide), q1, if_neg (by decide), q2, if_neg (by decide), if_pos hs]
    cases fldsP ts (tyP false ts f) sColon (i + 1) with
    | none => rfl
    | some z => rfl
  have HMS : Hid (MS (bxT w) tb o ao ts) := h.below (bel1 _ _)
  have HMW : Hid (∀ W, Below w.heap.size w W → MS W tb o ao ts) := fun W hb => h.below hb
  have HIH : Hid (MTC tb o ts f) := IH
  have HF : Hid (ts.length - i < f + 1) := hf
  have HFAR : Hid (Far ts.length (tyP false ts f)) := ty_far f
  have ST : Hid (MRecT w ts (tyP false ts f) sColon (fldsP ts (tyP false ts f) sColon (i + 1)) (ts.length + 1) (i + 1) [] [] (.slice (some ⟨w.heap.size + 1, 0, none⟩) 0 0) (.slice (some ⟨w.heap.size + 1 + 1, 0, none⟩) 0 0) (((bxT w).alloc (.cells #[] 9)).alloc (.cells #[] 120))) := by
    have L1 := World.ownsRow_lit (e := 9) (size := 1) (bxT w) #[] 0 (Nat.le_refl _) (by unfold maxLen; omega) (by rfl)
    have L2 := World.ownsRow_lit (e := 120) (size := 4) ((bxT w).alloc (.cells #[] 9)) #[] 0 (Nat.le_refl _) (by unfold maxLen; omega) (by rfl)
    simp only [World.size_alloc] at L1 L2
    exact ⟨((bel1 _ _).alloc (by simp) _).alloc (by simp only [World.size_alloc]; omega) _, ((row2 w (.slice none 0 0) (.int .i64 0) 108).alloc _).alloc _, L1.alloc _, ⟨own_mono L2 (by omega), fun x hx => by cases hx⟩, (fun b _ z => by cases z), fMid_start _ _ _ _, by omega, by omega, by simp⟩
  clear h IH hf
  go_enter Tryz.func71, Tryz.ntmps71
  go_wp2_with fail
  refine (m_isb HMS.out (i := i) (rfl) (l := sInt) q0 rfl (by decide)).mono ?_
  rintro e w' ⟨rfl, rfl⟩
  go_wp2_with fail
  refine (m_isb HMS.out (i := i) (rfl) (l := sBool) q1 rfl (by decide)).mono ?_
  rintro e w' ⟨rfl, rfl⟩
  go_wp2_with fail
  refine (m_isb HMS.out (i := i) (rfl) (l := sAny) q2 rfl (by decide)).mono ?_
  rintro e w' ⟨rfl, rfl⟩
  go_wp2_with fail
  refine (m_isN HMS.out (i := i) (rfl) hc).mono ?_
  rintro e w' ⟨rfl, rfl⟩
  go_wp2_with fail
  refine (m_isb HMS.out (i := i) (rfl) (l := sLeft) q3 rfl (by decide)).mono ?_
  rintro e w' ⟨rfl, rfl⟩
  go_wp2_with fail
  refine (m_isb HMS.out (i := i) (rfl) (l := sOpen) hs rfl (by decide)).mono ?_
  rintro e w' ⟨rfl, rfl⟩
  go_wp2
  go_loopw [1, 6, 7] (fun a nv iv wr => ∃ (p f' : Nat) (ns : List ByteArray) (zs : List (TI × NPl)) , a = .int .i64 (p : Int) ∧ i < p ∧ Hid (MRecT w ts (tyP false ts f) sColon (fldsP ts (tyP false ts f) sColon (i + 1)) f' p ns zs nv iv wr)) (fun a _ _ _ => 2000 - (intOf a).toNat)
  case atStart => exact ⟨i + 1, ts.length + 1, [], [], by go_num, by omega, ST⟩
  case round =>
    obtain ⟨p, f', ns, zs, rfl, hpi, HQ⟩ := hrel
    clear ST
    obtain ⟨na, nc, hnv⟩ := own_form HQ.out.names
    subst hnv
    obtain ⟨ia, ic, hiv⟩ := own_form HQ.out.items.own
    subst hiv
    have HM : Hid (MS wr tb o ao ts) := HMW.out wr HQ.out.below
    have HPI : Hid (i < p) := hpi
    have hple := HQ.out.ple
    have hws := HQ.out.below.size
    have hxl := HQ.out.box.lt
    cases h1 : isT ts p sShut
    case true =>
      go_wp2_with fail
      refine (m_isb HM.out (i := p) (rfl) (l := sShut) h1 rfl (by decide)).mono ?_
      rintro e w' ⟨rfl, rfl⟩
      obtain ⟨g, hnm⟩ := nm_of_own rfl HQ.out.names
      have HNM : Hid (NmOK (w.heap.size + 1) wr ns ⟨na, g, nc⟩) := hnm
      have HYES : Hid (baseP false ts (tyP false ts f) i = some (zs.map Prod.fst ++ [((⟨5, e0, e0, ns⟩ : TI), (⟨na, g, nc⟩ : NPl)).1], p + 1)) := by
        show _ = _
        rw [HR0.out, HQ.out.is]
        unfold fMid
        rw [if_pos h1]
        rfl
      clear hnm h1
      go_wp2_with (first | (at_builtin; refine wpList_append_lies _ rfl _ _ 55 rfl (w.heap.size + 1) 120 i0 _ 4 64 Tryz.underlying55 hi0 hz0 hz1 hz2 rfl (by omega) (.slice ia zs.length ic) zs.length (tisC zs) rfl (HQ.out.items.own.alloc _) ⟨wr.heap.size, 0, none⟩ 1 1 [.int .i64 5, .string ⟨#[]⟩, .string ⟨#[]⟩, .slice na ns.length nc] rfl rfl (World.news_of_block (cs := #[.int .i64 5, .string ⟨#[]⟩, .string ⟨#[]⟩, .slice na ns.length nc]) (t := 120) (fr := (0, 0)) (heap_alloc_new wr _)) (by simp [Value.oneCell']) (by omega) (by unfold maxLen; have := HQ.out.few.2; omega) (by have := HQ.out.few.2; omega) (by simp only [World.size_alloc]; omega) (wr.heap.size + 1) (by simp) ?_; intro gg cap3 w5 hown3 hg3 hat3 hlt3; have X5 : w5.rowIs w.heap.size 108 2 (v2 (.slice none 0 0) (.int .i64 0)) := (HQ.out.box.alloc _).of_block (hg3.block _ (by simp only [World.size_alloc]; omega) (fun e => by have := (HQ.out.items.own.lt _ e.symm).1; omega)); have d0 := X5.cell (i := 0) (by omega); have d1 := X5.cell (i := 1) (by omega); have z0 := X5.frozen 0; have z1 := X5.frozen 1))
      have NX := HQ.out.items.push (x := ((⟨5, e0, e0, ns⟩ : TI), (⟨na, g, nc⟩ : NPl))) hown3 hg3 (by have hnm := HNM.out; exact hnm)
      have B5 := below_grown HQ.out.below hg3 (fun b e => by have := (HQ.out.items.own.lt b e).1; omega)
      obtain ⟨W1, W2⟩ := box_ty B5 X5 (.slice (some ⟨gg, 0, none⟩) (zs.length + 1) cap3) (.int .i64 ((p : Int) + 1))
      have RX := (X5.set 0 (.slice (some ⟨gg, 0, none⟩) (zs.length + 1) cap3)).set 1 (.int .i64 ((p : Int) + 1))
      refine bodyPost_ret (ret_ty (k := 4) rfl (RX.cell (i := 0) (by omega)) (RX.cell (i := 1) (by omega)) _ rfl) rfl ?_
      rw [HYES.out]
      exact ⟨W1, some ⟨gg, 0, none⟩, zs.length + 1, cap3, (p : Int) + 1, zs ++ [((⟨5, e0, e0, ns⟩ : TI), (⟨na, g, nc⟩ : NPl))], rfl, by omega, (W2 _ _ _ NX).mono (by omega), by rw [List.map_append]; rfl⟩
    go_wp2_with fail
    refine (m_isb HM.out (i := p) (rfl) (l := sShut) h1 rfl (by decide)).mono ?_
    rintro e w' ⟨rfl, rfl⟩
    by_cases hns : ns = []
    case pos =>
      subst hns
      cases h3 : isC ts p 1
      case false =>
        go_wp2_with fail
        refine (m_isN HM.out (i := p) (rfl) h3).mono ?_
        rintro e w' ⟨rfl, rfl⟩
        have HNO : Hid (fldsP ts (tyP false ts f) sColon (i + 1) = none) := by
          show _ = _
          rw [HQ.out.is]
          unfold fMid
          rw [h1, if_neg (by decide)]
          rw [if_pos rfl]
          exact floop_c h3
        clear h1
        go_wp2_with fail
        refine (m_noType _).mono ?_
        rintro e w4 ⟨⟨va4, n4, c4, rfl⟩, hb4⟩
        have G4 := HQ.out.on hb4.out
        have d0 := G4.box.cell (i := 0) (by omega)
        have d1 := G4.box.cell (i := 1) (by omega)
        have z0 := G4.box.frozen 0
        have z1 := G4.box.frozen 1
        have HG4 : Hid (MRecT w ts (tyP false ts f) sColon (fldsP ts (tyP false ts f) sColon (i + 1)) f' p _ zs _ (.slice ia zs.length ic) w4) := G4
        clear G4
        go_wp2
        have RX := (HG4.out.box.set 0 (.slice va4 n4 c4)).set 1 (.int .i64 (-1))
        refine bodyPost_ret (ret_ty (k := 4) rfl (RX.cell (i := 0) (by omega)) (RX.cell (i := 1) (by omega)) _ rfl) rfl ?_
        rw [HR0.out, HNO.out]
        exact ⟨below_box HG4.out.below _ _, va4, n4, c4, rfl⟩
      have hq := isC_lt h3
      go_wp2_with fail
      refine (m_isN HM.out (i := p) (rfl) h3).mono ?_
      rintro e w' ⟨rfl, rfl⟩
      cases h4 : isT ts (p + 1) sColon
      case false =>
        go_wp2_with fail
        refine (m_isb HM.out (i := p + 1) (by omega) (l := sColon) h4 rfl (by decide)).mono ?_
        rintro e w' ⟨rfl, rfl⟩
        have HNO : Hid (fldsP ts (tyP false ts f) sColon (i + 1) = none) := by
          show _ = _
          rw [HQ.out.is]
          unfold fMid
          rw [h1, if_neg (by decide)]
          rw [if_pos rfl]
          exact floop_s h4
        clear h1
        go_wp2_with fail
        refine (m_noType _).mono ?_
        rintro e w4 ⟨⟨va4, n4, c4, rfl⟩, hb4⟩
        have G4 := HQ.out.on hb4.out
        have d0 := G4.box.cell (i := 0) (by omega)
        have d1 := G4.box.cell (i := 1) (by omega)
        have z0 := G4.box.frozen 0
        have z1 := G4.box.frozen 1
        have HG4 : Hid (MRecT w ts (tyP false ts f) sColon (fldsP ts (tyP false ts f) sColon (i + 1)) f' p _ zs _ (.slice ia zs.length ic) w4) := G4
        clear G4
        go_wp2
        have RX := (HG4.out.box.set 0 (.slice va4 n4 c4)).set 1 (.int .i64 (-1))
        refine bodyPost_ret (ret_ty (k := 4) rfl (RX.cell (i := 0) (by omega)) (RX.cell (i := 1) (by omega)) _ rfl) rfl ?_
        rw [HR0.out, HNO.out]
        exact ⟨below_box HG4.out.below _ _, va4, n4, c4, rfl⟩
      go_wp2_with fail
      refine (m_isb HM.out (i := p + 1) (by omega) (l := sColon) h4 rfl (by decide)).mono ?_
      rintro e w' ⟨rfl, rfl⟩
      have eo := HM.out.at_ (by omega)
      subst eo
      have ct := HM.out.tk.c1 (p) hq
      rw [← tx_at hq] at ct
      obtain ⟨tt, htt⟩ : ∃ z, z = tx ts (p) := ⟨_, rfl⟩
      rw [← htt] at ct
      have HTT : Hid (tx ts (p) = tt) := htt.symm
      have hqb : p < 1000 := by omega





      clear htt
      cases h5 : hasN [] tt
      case true =>
        go_wp2_with fail
        refine (m_twice wr (n := 0) (ns := []) rfl HQ.out.names (by have := HQ.out.few.1; omega) tt h5).mono ?_
        rintro e w' ⟨rfl, rfl⟩
        have HNO : Hid (fldsP ts (tyP false ts f) sColon (i + 1) = none) := by
          show _ = _
          rw [HQ.out.is]
          unfold fMid
          rw [h1, if_neg (by decide)]
          rw [if_pos rfl]
          exact floop_n (by rw [HTT.out]; exact h5)
        clear h1
        go_wp2_with fail
        refine (m_noType _).mono ?_
        rintro e w4 ⟨⟨va4, n4, c4, rfl⟩, hb4⟩
        have G4 := HQ.out.on hb4.out
        have d0 := G4.box.cell (i := 0) (by omega)
        have d1 := G4.box.cell (i := 1) (by omega)
        have z0 := G4.box.frozen 0
        have z1 := G4.box.frozen 1
        have HG4 : Hid (MRecT w ts (tyP false ts f) sColon (fldsP ts (tyP false ts f) sColon (i + 1)) f' p _ zs _ (.slice ia zs.length ic) w4) := G4
        clear G4
        go_wp2
        have RX := (HG4.out.box.set 0 (.slice va4 n4 c4)).set 1 (.int .i64 (-1))
        refine bodyPost_ret (ret_ty (k := 4) rfl (RX.cell (i := 0) (by omega)) (RX.cell (i := 1) (by omega)) _ rfl) rfl ?_
        rw [HR0.out, HNO.out]
        exact ⟨below_box HG4.out.below _ _, va4, n4, c4, rfl⟩
      go_wp2_with fail
      refine (m_twice wr (n := 0) (ns := []) rfl HQ.out.names (by have := HQ.out.few.1; omega) tt h5).mono ?_
      rintro e w' ⟨rfl, rfl⟩
      go_wp2_with (first | (at_builtin; refine wpList_append_lies _ rfl _ _ 43 rfl (w.heap.size + 1) 9 j0 _ 1 16 Tryz.underlying43 hj0 hy0 hy1 hy2 rfl (by omega) (.slice na 0 nc) 0 (sts []) rfl (HQ.out.names.alloc _) ⟨wr.heap.size, 0, none⟩ 1 1 [.string tt] rfl rfl (World.news_of_block (cs := #[.string tt]) (t := 9) (fr := (0, 0)) (heap_alloc_new wr _)) (by simp [Value.oneCell']) (by omega) (by unfold maxLen; have := HQ.out.few.1; omega) (by have := HQ.out.few.1; omega) (by simp only [World.size_alloc]; omega) (wr.heap.size + 1) (by simp) ?_; intro gg cap3 w5 hown3 hg3 hat3 hlt3))
      obtain ⟨B5, X5, N5, I5, S5, L5⟩ := HQ.out.name hown3 hg3 hat3
      have HM5 : Hid (MS w5 tb o (some ⟨tb, o, none⟩) ts) := HMW.out w5 B5
      have HB5 : Hid (Below w.heap.size w w5) := B5
      have HX5 : Hid (w5.rowIs w.heap.size 108 2 (v2 (.slice none 0 0) (.int .i64 0))) := X5
      have HN5 : Hid (w5.ownsRow (w.heap.size + 1) 9 1 (.slice (some ⟨gg, 0, none⟩) (0 + 1) cap3) ([] ++ [tt]).length (sts ([] ++ [tt]))) := N5
      have HI5 : Hid (RT (w.heap.size + 1) w5 (.slice ia zs.length ic) zs) := I5
      have HS5 : Hid (gg ∉ tisB zs ∧ gg < w5.heap.size) := ⟨S5, L5⟩
      have C5 := HIH.out w5 (some ⟨tb, o, none⟩) c ((p + 2 : Nat) : Int) (p + 2) HM5.out rfl (by have := HF.out; have := HQ.out.fuel; have := HPI.out; omega) (by omega)
      have C5' : Hid (Calls Tryz.prog 63 #[.slice (some ⟨tb, o, none⟩) ts.length c, .int .i64 ((p : Int) + 2)] w5 (MTR w5 (tyP false ts f (p + 2)))) := by
        have e : ((p + 2 : Nat) : Int) = (p : Int) + 2 := by omega
        rw [e] at C5; exact C5
      clear B5 X5 N5 I5 S5 L5 C5 hown3 hg3 hat3 hlt3 ct
      go_wp2_with fail
      refine C5'.out.mono ?_
      rintro e w6 ⟨hb6, hr6⟩
      have hw5 := HB5.out.size
      have HB6 : Hid (Below w.heap.size w w6) := HB5.out.trans (hb6.mono hw5)
      have HX6 : Hid (w6.rowIs w.heap.size 108 2 (v2 (.slice none 0 0) (.int .i64 0))) := HX5.out.of_block (hb6.block _ HX5.out.lt)
      cases ht : tyP false ts f (p + 2) with
      | none =>
        rw [ht] at hr6
        obtain ⟨va, n, c', rfl⟩ := hr6
        have HNO : Hid (fldsP ts (tyP false ts f) sColon (i + 1) = none) := by
          show _ = _
          rw [HQ.out.is]
          unfold fMid
          rw [h1, if_neg (by decide)]
          rw [if_pos rfl]
          exact floop_t ht
        have R7 := HX6.out.alloc (.cells #[.slice va n c', .int .i64 (-1)] 108)
        have x0' := R7.cell (i := 0) (by omega)
        have x1' := R7.cell (i := 1) (by omega)
        have y0' := R7.frozen 0
        have y1' := R7.frozen 1
        have R8 := (HX6.out.set 0 (.slice va n c')).alloc (.cells #[.slice va n c', .int .i64 (-1)] 108)
        have x0'' := R8.cell (i := 0) (by omega)
        have x1'' := R8.cell (i := 1) (by omega)
        have y0'' := R8.frozen 0
        have y1'' := R8.frozen 1
        have R9 := ((HX6.out.set 0 (.slice va n c')).set 1 (.int .i64 (-1))).alloc (.cells #[.slice va n c', .int .i64 (-1)] 108)
        have xlt6 := HX6.out.lt
        clear R7 R8 ht h1 h3 h4 h5 hb6
        go_wp2
        refine bodyPost_ret (ret_ty (k := 4) rfl (R9.cell (i := 0) (by omega)) (R9.cell (i := 1) (by omega)) _ rfl) rfl ?_
        rw [HR0.out, HNO.out]
        exact ⟨(below_box HB6.out _ _).alloc (below_box HB6.out _ _).size _, va, n, c', rfl⟩
      | some z =>
        obtain ⟨l, j⟩ := z
        rw [ht] at hr6
        obtain ⟨va, n, c', k, ys, rfl, rfl, hrt, hys⟩ := hr6
        obtain ⟨far1, far2, far3⟩ := HFAR.out _ _ _ ht
        have hyl : ys.length = l.length := by rw [← hys, List.length_map]
        obtain ⟨f2, hf2⟩ : ∃ f2, f' = f2 + 1 := ⟨f' - 1, by have := HQ.out.fuel; omega⟩
        have HIS : Hid (fldsP ts (tyP false ts f) sColon (i + 1) = fMid ts (tyP false ts f) sColon f2 j ([] ++ [tt]) (zs.map Prod.fst ++ l)) := by
          show _ = _
          rw [HQ.out.is]
          unfold fMid
          rw [h1, if_neg (by decide)]
          rw [if_pos rfl]
          rw [hf2, floop_gm h3 h4 (by rw [HTT.out]; exact h5) ht, HTT.out]
          rfl
        have hj0 : ¬ (j : Int) < 0 := by omega
        have R7 := row2 w6 (.slice va n c') (.int .i64 (j : Int)) 108
        have g0 : (w6.alloc (.cells #[.slice va n c', .int .i64 (j : Int)] 108)).cell? ⟨w6.heap.size, 0, none⟩ = some (.slice va n c') := R7.cell (i := 0) (by omega)
        have g1 : (w6.alloc (.cells #[.slice va n c', .int .i64 (j : Int)] 108)).cell? ⟨w6.heap.size, 1, none⟩ = some (.int .i64 (j : Int)) := R7.cell (i := 1) (by omega)
        have B7 := bel1 w6 (.cells #[.slice va n c', .int .i64 (j : Int)] 108)
        have CJ : Hid (Calls Tryz.prog 72 #[.slice ia zs.length ic, .slice va n c'] (w6.alloc (.cells #[.slice va n c', .int .i64 (j : Int)] 108)) fun e w' => (∃ va n c, e = .returned (.slice va n c) ∧ Hid (RT (w.heap.size + 1) w' (.slice va n c) (zs ++ ys))) ∧ Hid (Below (w6.alloc (.cells #[.slice va n c', .int .i64 (j : Int)] 108)).heap.size (w6.alloc (.cells #[.slice va n c', .int .i64 (j : Int)] 108)) w')) :=
          m_joinT _ ((HI5.out.below hb6).below B7) ((hrt.mono (by have := HX5.out.lt; omega)).below B7) (by have := HQ.out.few.2; omega) (by have := HX6.out.lt; simp only [World.size_alloc]; omega)
        have HYS : Hid (∀ b, b ∈ tisB ys → w5.heap.size ≤ b) := fun b hb => (hrt.lt hb).1
        have hwl6 := hb6.size
        have HN6 : Hid (w6.ownsRow (w.heap.size + 1) 9 1 (.slice (some ⟨gg, 0, none⟩) (0 + 1) cap3) ([] ++ [tt]).length (sts ([] ++ [tt]))) := own_block HN5.out (fun k e => hb6.block k (HN5.out.lt k e.symm).2)
        have HMP : Hid ((zs ++ ys).map Prod.fst = zs.map Prod.fst ++ l) := by show _ = _; rw [List.map_append, hys]
        clear R7 ht h1 h3 h4 h5 hb6 hrt hys B7
        go_wp2_with fail
        refine CJ.out.mono ?_
        rintro e w8 ⟨⟨va8, n8, c8, rfl, H8⟩, hb8⟩
        have B8 : Below w6.heap.size w6 w8 := (bel1 _ _).trans (hb8.out.mono (by simp))
        have g0' := (hb8.out.cell (p := ⟨w6.heap.size, 0, none⟩) (World.block_lt_of_cell? _ _ g0)).trans g0
        have g1' := (hb8.out.cell (p := ⟨w6.heap.size, 1, none⟩) (World.block_lt_of_cell? _ _ g1)).trans g1
        have HNX : Hid (MRecT w ts (tyP false ts f) sColon (fldsP ts (tyP false ts f) sColon (i + 1)) f2 j ([] ++ [tt]) (zs ++ ys) (.slice (some ⟨gg, 0, none⟩) (0 + 1) cap3) (.slice va8 n8 c8) w8) :=
          ⟨HB6.out.trans (B8.mono HB6.out.size), HX6.out.of_block (B8.block _ HX6.out.lt), own_block HN6.out (fun k e => B8.block k (HN6.out.lt k e.symm).2), H8.out, fun b e => by
            have eb : gg = b := by simpa [Value.ownBlock] using e
            subst eb
            rw [tisB_append]
            intro z
            rcases List.mem_append.1 z with z | z
            · exact HS5.out.1 z
            · have := HYS.out _ z; have := HS5.out.2; omega, by rw [HIS.out, HMP.out], by have := HQ.out.fuel; omega, by omega, by have := HQ.out.few; rw [List.length_append, List.length_append]; simp only [List.length_singleton]; omega⟩
        have HPJ : Hid (p < j ∧ j ≤ 1000) := ⟨by omega, by omega⟩
        clear HIS HMP HYS HN6 CJ B8 g0 g1 hb8 H8
        go_wp2
        exact ⟨⟨j, f2, [] ++ [tt], zs ++ ys, rfl, by omega, HNX⟩, by have := HPJ.out; simp [intOf]; omega⟩
    have HNS : Hid (ns ≠ []) := hns
    have hn0 : 0 < ns.length := List.length_pos_iff.2 hns
    clear hns
    cases h2 : isT ts p sComma
    case false =>
      go_wp2_with fail
      refine (m_isb HM.out (i := p) (rfl) (l := sComma) h2 rfl (by decide)).mono ?_
      rintro e w' ⟨rfl, rfl⟩
      have HNO : Hid (fldsP ts (tyP false ts f) sColon (i + 1) = none) := by
        show _ = _
        rw [HQ.out.is]
        unfold fMid
        rw [h1, if_neg (by decide)]
        rw [if_neg HNS.out, h2]; rfl
      clear h1
      go_wp2_with fail
      refine (m_noType _).mono ?_
      rintro e w4 ⟨⟨va4, n4, c4, rfl⟩, hb4⟩
      have G4 := HQ.out.on hb4.out
      have d0 := G4.box.cell (i := 0) (by omega)
      have d1 := G4.box.cell (i := 1) (by omega)
      have z0 := G4.box.frozen 0
      have z1 := G4.box.frozen 1
      have HG4 : Hid (MRecT w ts (tyP false ts f) sColon (fldsP ts (tyP false ts f) sColon (i + 1)) f' p _ zs _ (.slice ia zs.length ic) w4) := G4
      clear G4
      go_wp2
      have RX := (HG4.out.box.set 0 (.slice va4 n4 c4)).set 1 (.int .i64 (-1))
      refine bodyPost_ret (ret_ty (k := 4) rfl (RX.cell (i := 0) (by omega)) (RX.cell (i := 1) (by omega)) _ rfl) rfl ?_
      rw [HR0.out, HNO.out]
      exact ⟨below_box HG4.out.below _ _, va4, n4, c4, rfl⟩
    go_wp2_with fail
    refine (m_isb HM.out (i := p) (rfl) (l := sComma) h2 rfl (by decide)).mono ?_
    rintro e w' ⟨rfl, rfl⟩
    cases h3 : isC ts (p + 1) 1
    case false =>
      go_wp2_with fail
      refine (m_isN HM.out (i := (p + 1)) (by omega) h3).mono ?_
      rintro e w' ⟨rfl, rfl⟩
      have HNO : Hid (fldsP ts (tyP false ts f) sColon (i + 1) = none) := by
        show _ = _
        rw [HQ.out.is]
        unfold fMid
        rw [h1, if_neg (by decide)]
        rw [if_neg HNS.out, if_pos h2]
        exact floop_c h3
      clear h1
      go_wp2_with fail
      refine (m_noType _).mono ?_
      rintro e w4 ⟨⟨va4, n4, c4, rfl⟩, hb4⟩
      have G4 := HQ.out.on hb4.out
      have d0 := G4.box.cell (i := 0) (by omega)
      have d1 := G4.box.cell (i := 1) (by omega)
      have z0 := G4.box.frozen 0
      have z1 := G4.box.frozen 1
      have HG4 : Hid (MRecT w ts (tyP false ts f) sColon (fldsP ts (tyP false ts f) sColon (i + 1)) f' p _ zs _ (.slice ia zs.length ic) w4) := G4
      clear G4
      go_wp2
      have RX := (HG4.out.box.set 0 (.slice va4 n4 c4)).set 1 (.int .i64 (-1))
      refine bodyPost_ret (ret_ty (k := 4) rfl (RX.cell (i := 0) (by omega)) (RX.cell (i := 1) (by omega)) _ rfl) rfl ?_
      rw [HR0.out, HNO.out]
      exact ⟨below_box HG4.out.below _ _, va4, n4, c4, rfl⟩
    have hq := isC_lt h3
    go_wp2_with fail
    refine (m_isN HM.out (i := (p + 1)) (by omega) h3).mono ?_
    rintro e w' ⟨rfl, rfl⟩
    cases h4 : isT ts ((p + 1) + 1) sColon
    case false =>
      go_wp2_with fail
      refine (m_isb HM.out (i := (p + 1) + 1) (by omega) (l := sColon) h4 rfl (by decide)).mono ?_
      rintro e w' ⟨rfl, rfl⟩
      have HNO : Hid (fldsP ts (tyP false ts f) sColon (i + 1) = none) := by
        show _ = _
        rw [HQ.out.is]
        unfold fMid
        rw [h1, if_neg (by decide)]
        rw [if_neg HNS.out, if_pos h2]
        exact floop_s h4
      clear h1
      go_wp2_with fail
      refine (m_noType _).mono ?_
      rintro e w4 ⟨⟨va4, n4, c4, rfl⟩, hb4⟩
      have G4 := HQ.out.on hb4.out
      have d0 := G4.box.cell (i := 0) (by omega)
      have d1 := G4.box.cell (i := 1) (by omega)
      have z0 := G4.box.frozen 0
      have z1 := G4.box.frozen 1
      have HG4 : Hid (MRecT w ts (tyP false ts f) sColon (fldsP ts (tyP false ts f) sColon (i + 1)) f' p _ zs _ (.slice ia zs.length ic) w4) := G4
      clear G4
      go_wp2
      have RX := (HG4.out.box.set 0 (.slice va4 n4 c4)).set 1 (.int .i64 (-1))
      refine bodyPost_ret (ret_ty (k := 4) rfl (RX.cell (i := 0) (by omega)) (RX.cell (i := 1) (by omega)) _ rfl) rfl ?_
      rw [HR0.out, HNO.out]
      exact ⟨below_box HG4.out.below _ _, va4, n4, c4, rfl⟩
    go_wp2_with fail
    refine (m_isb HM.out (i := (p + 1) + 1) (by omega) (l := sColon) h4 rfl (by decide)).mono ?_
    rintro e w' ⟨rfl, rfl⟩
    have eo := HM.out.at_ (by omega)
    subst eo
    have ct := HM.out.tk.c1 ((p + 1)) hq
    rw [← tx_at hq] at ct
    obtain ⟨tt, htt⟩ : ∃ z, z = tx ts ((p + 1)) := ⟨_, rfl⟩
    rw [← htt] at ct
    have HTT : Hid (tx ts ((p + 1)) = tt) := htt.symm
    have hqb : (p + 1) < 1000 := by omega
    have eqn : ((p : Int) + 1).toNat = p + 1 := by omega
    have ct : wr.cell? ⟨tb, o + ((p : Int) + 1).toNat * 3 + 1, none⟩ = some (.string tt) := by rw [eqn]; exact ct
    have hq1 : (p : Int) + 1 < (ts.length : Int) := by omega
    have hq0 : (0 : Int) ≤ (p : Int) + 1 := by omega
    clear eqn
    clear htt
    cases h5 : hasN ns tt
    case true =>
      go_wp2_with fail
      refine (m_twice wr (n := ns.length) (ns := ns) rfl HQ.out.names (by have := HQ.out.few.1; omega) tt h5).mono ?_
      rintro e w' ⟨rfl, rfl⟩
      have HNO : Hid (fldsP ts (tyP false ts f) sColon (i + 1) = none) := by
        show _ = _
        rw [HQ.out.is]
        unfold fMid
        rw [h1, if_neg (by decide)]
        rw [if_neg HNS.out, if_pos h2]
        exact floop_n (by rw [HTT.out]; exact h5)
      clear h1
      go_wp2_with fail
      refine (m_noType _).mono ?_
      rintro e w4 ⟨⟨va4, n4, c4, rfl⟩, hb4⟩
      have G4 := HQ.out.on hb4.out
      have d0 := G4.box.cell (i := 0) (by omega)
      have d1 := G4.box.cell (i := 1) (by omega)
      have z0 := G4.box.frozen 0
      have z1 := G4.box.frozen 1
      have HG4 : Hid (MRecT w ts (tyP false ts f) sColon (fldsP ts (tyP false ts f) sColon (i + 1)) f' p _ zs _ (.slice ia zs.length ic) w4) := G4
      clear G4
      go_wp2
      have RX := (HG4.out.box.set 0 (.slice va4 n4 c4)).set 1 (.int .i64 (-1))
      refine bodyPost_ret (ret_ty (k := 4) rfl (RX.cell (i := 0) (by omega)) (RX.cell (i := 1) (by omega)) _ rfl) rfl ?_
      rw [HR0.out, HNO.out]
      exact ⟨below_box HG4.out.below _ _, va4, n4, c4, rfl⟩
    go_wp2_with fail
    refine (m_twice wr (n := ns.length) (ns := ns) rfl HQ.out.names (by have := HQ.out.few.1; omega) tt h5).mono ?_
    rintro e w' ⟨rfl, rfl⟩
    go_wp2_with (first | (at_builtin; refine wpList_append_lies _ rfl _ _ 43 rfl (w.heap.size + 1) 9 j0 _ 1 16 Tryz.underlying43 hj0 hy0 hy1 hy2 rfl (by omega) (.slice na ns.length nc) ns.length (sts ns) rfl (HQ.out.names.alloc _) ⟨wr.heap.size, 0, none⟩ 1 1 [.string tt] rfl rfl (World.news_of_block (cs := #[.string tt]) (t := 9) (fr := (0, 0)) (heap_alloc_new wr _)) (by simp [Value.oneCell']) (by omega) (by unfold maxLen; have := HQ.out.few.1; omega) (by have := HQ.out.few.1; omega) (by simp only [World.size_alloc]; omega) (wr.heap.size + 1) (by simp) ?_; intro gg cap3 w5 hown3 hg3 hat3 hlt3))
    obtain ⟨B5, X5, N5, I5, S5, L5⟩ := HQ.out.name hown3 hg3 hat3
    have HM5 : Hid (MS w5 tb o (some ⟨tb, o, none⟩) ts) := HMW.out w5 B5
    have HB5 : Hid (Below w.heap.size w w5) := B5
    have HX5 : Hid (w5.rowIs w.heap.size 108 2 (v2 (.slice none 0 0) (.int .i64 0))) := X5
    have HN5 : Hid (w5.ownsRow (w.heap.size + 1) 9 1 (.slice (some ⟨gg, 0, none⟩) (ns.length + 1) cap3) (ns ++ [tt]).length (sts (ns ++ [tt]))) := N5
    have HI5 : Hid (RT (w.heap.size + 1) w5 (.slice ia zs.length ic) zs) := I5
    have HS5 : Hid (gg ∉ tisB zs ∧ gg < w5.heap.size) := ⟨S5, L5⟩
    have C5 := HIH.out w5 (some ⟨tb, o, none⟩) c (((p + 1) + 2 : Nat) : Int) ((p + 1) + 2) HM5.out rfl (by have := HF.out; have := HQ.out.fuel; have := HPI.out; omega) (by omega)
    have C5' : Hid (Calls Tryz.prog 63 #[.slice (some ⟨tb, o, none⟩) ts.length c, .int .i64 ((p : Int) + 1 + 2)] w5 (MTR w5 (tyP false ts f ((p + 1) + 2)))) := by
      have e : (((p + 1) + 2 : Nat) : Int) = (p : Int) + 1 + 2 := by omega
      rw [e] at C5; exact C5
    clear B5 X5 N5 I5 S5 L5 C5 hown3 hg3 hat3 hlt3 ct
    go_wp2_with fail
    refine C5'.out.mono ?_
    rintro e w6 ⟨hb6, hr6⟩
    have hw5 := HB5.out.size
    have HB6 : Hid (Below w.heap.size w w6) := HB5.out.trans (hb6.mono hw5)
    have HX6 : Hid (w6.rowIs w.heap.size 108 2 (v2 (.slice none 0 0) (.int .i64 0))) := HX5.out.of_block (hb6.block _ HX5.out.lt)
    cases ht : tyP false ts f ((p + 1) + 2) with
    | none =>
      rw [ht] at hr6
      obtain ⟨va, n, c', rfl⟩ := hr6
      have HNO : Hid (fldsP ts (tyP false ts f) sColon (i + 1) = none) := by
        show _ = _
        rw [HQ.out.is]
        unfold fMid
        rw [h1, if_neg (by decide)]
        rw [if_neg HNS.out, if_pos h2]
        exact floop_t ht
      have R7 := HX6.out.alloc (.cells #[.slice va n c', .int .i64 (-1)] 108)
      have x0' := R7.cell (i := 0) (by omega)
      have x1' := R7.cell (i := 1) (by omega)
      have y0' := R7.frozen 0
      have y1' := R7.frozen 1
      have R8 := (HX6.out.set 0 (.slice va n c')).alloc (.cells #[.slice va n c', .int .i64 (-1)] 108)
      have x0'' := R8.cell (i := 0) (by omega)
      have x1'' := R8.cell (i := 1) (by omega)
      have y0'' := R8.frozen 0
      have y1'' := R8.frozen 1
      have R9 := ((HX6.out.set 0 (.slice va n c')).set 1 (.int .i64 (-1))).alloc (.cells #[.slice va n c', .int .i64 (-1)] 108)
      have xlt6 := HX6.out.lt
      clear R7 R8 ht h1 h3 h4 h5 hb6
      go_wp2
      refine bodyPost_ret (ret_ty (k := 4) rfl (R9.cell (i := 0) (by omega)) (R9.cell (i := 1) (by omega)) _ rfl) rfl ?_
      rw [HR0.out, HNO.out]
      exact ⟨(below_box HB6.out _ _).alloc (below_box HB6.out _ _).size _, va, n, c', rfl⟩
    | some z =>
      obtain ⟨l, j⟩ := z
      rw [ht] at hr6
      obtain ⟨va, n, c', k, ys, rfl, rfl, hrt, hys⟩ := hr6
      obtain ⟨far1, far2, far3⟩ := HFAR.out _ _ _ ht
      have hyl : ys.length = l.length := by rw [← hys, List.length_map]
      obtain ⟨f2, hf2⟩ : ∃ f2, f' = f2 + 1 := ⟨f' - 1, by have := HQ.out.fuel; omega⟩
      have HIS : Hid (fldsP ts (tyP false ts f) sColon (i + 1) = fMid ts (tyP false ts f) sColon f2 j (ns ++ [tt]) (zs.map Prod.fst ++ l)) := by
        show _ = _
        rw [HQ.out.is]
        unfold fMid
        rw [h1, if_neg (by decide)]
        rw [if_neg HNS.out, if_pos h2]
        rw [hf2, floop_gm h3 h4 (by rw [HTT.out]; exact h5) ht, HTT.out]
        rfl
      have hj0 : ¬ (j : Int) < 0 := by omega
      have R7 := row2 w6 (.slice va n c') (.int .i64 (j : Int)) 108
      have g0 : (w6.alloc (.cells #[.slice va n c', .int .i64 (j : Int)] 108)).cell? ⟨w6.heap.size, 0, none⟩ = some (.slice va n c') := R7.cell (i := 0) (by omega)
      have g1 : (w6.alloc (.cells #[.slice va n c', .int .i64 (j : Int)] 108)).cell? ⟨w6.heap.size, 1, none⟩ = some (.int .i64 (j : Int)) := R7.cell (i := 1) (by omega)
      have B7 := bel1 w6 (.cells #[.slice va n c', .int .i64 (j : Int)] 108)
      have CJ : Hid (Calls Tryz.prog 72 #[.slice ia zs.length ic, .slice va n c'] (w6.alloc (.cells #[.slice va n c', .int .i64 (j : Int)] 108)) fun e w' => (∃ va n c, e = .returned (.slice va n c) ∧ Hid (RT (w.heap.size + 1) w' (.slice va n c) (zs ++ ys))) ∧ Hid (Below (w6.alloc (.cells #[.slice va n c', .int .i64 (j : Int)] 108)).heap.size (w6.alloc (.cells #[.slice va n c', .int .i64 (j : Int)] 108)) w')) :=
        m_joinT _ ((HI5.out.below hb6).below B7) ((hrt.mono (by have := HX5.out.lt; omega)).below B7) (by have := HQ.out.few.2; omega) (by have := HX6.out.lt; simp only [World.size_alloc]; omega)
      have HYS : Hid (∀ b, b ∈ tisB ys → w5.heap.size ≤ b) := fun b hb => (hrt.lt hb).1
      have hwl6 := hb6.size
      have HN6 : Hid (w6.ownsRow (w.heap.size + 1) 9 1 (.slice (some ⟨gg, 0, none⟩) (ns.length + 1) cap3) (ns ++ [tt]).length (sts (ns ++ [tt]))) := own_block HN5.out (fun k e => hb6.block k (HN5.out.lt k e.symm).2)
      have HMP : Hid ((zs ++ ys).map Prod.fst = zs.map Prod.fst ++ l) := by show _ = _; rw [List.map_append, hys]
      clear R7 ht h1 h3 h4 h5 hb6 hrt hys B7
      go_wp2_with fail
      refine CJ.out.mono ?_
      rintro e w8 ⟨⟨va8, n8, c8, rfl, H8⟩, hb8⟩
      have B8 : Below w6.heap.size w6 w8 := (bel1 _ _).trans (hb8.out.mono (by simp))
      have g0' := (hb8.out.cell (p := ⟨w6.heap.size, 0, none⟩) (World.block_lt_of_cell? _ _ g0)).trans g0
      have g1' := (hb8.out.cell (p := ⟨w6.heap.size, 1, none⟩) (World.block_lt_of_cell? _ _ g1)).trans g1
      have HNX : Hid (MRecT w ts (tyP false ts f) sColon (fldsP ts (tyP false ts f) sColon (i + 1)) f2 j (ns ++ [tt]) (zs ++ ys) (.slice (some ⟨gg, 0, none⟩) (ns.length + 1) cap3) (.slice va8 n8 c8) w8) :=
        ⟨HB6.out.trans (B8.mono HB6.out.size), HX6.out.of_block (B8.block _ HX6.out.lt), own_block HN6.out (fun k e => B8.block k (HN6.out.lt k e.symm).2), H8.out, fun b e => by
          have eb : gg = b := by simpa [Value.ownBlock] using e
          subst eb
          rw [tisB_append]
          intro z
          rcases List.mem_append.1 z with z | z
          · exact HS5.out.1 z
          · have := HYS.out _ z; have := HS5.out.2; omega, by rw [HIS.out, HMP.out], by have := HQ.out.fuel; omega, by omega, by have := HQ.out.few; rw [List.length_append, List.length_append]; simp only [List.length_singleton]; omega⟩
      have HPJ : Hid (p < j ∧ j ≤ 1000) := ⟨by omega, by omega⟩
      clear HIS HMP HYS HN6 CJ B8 g0 g1 hb8 H8
      go_wp2
      exact ⟨⟨j, f2, ns ++ [tt], zs ++ ys, rfl, by omega, HNX⟩, by have := HPJ.out; simp [intOf]; omega⟩

end Go.Proofs.YtdjkgilohhjfoaaGreatDoor
