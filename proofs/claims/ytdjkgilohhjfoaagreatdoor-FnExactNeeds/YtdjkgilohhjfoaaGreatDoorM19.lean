/-
  Merged for the claim: PgS PgT.
-/
import Derived.Test.YtdjkgilohhjfoaaGreatDoorPgR
namespace Go.Proofs.YtdjkgilohhjfoaaGreatDoor
open Go.RowKit

set_option maxRecDepth 100000 in
set_option maxHeartbeats 4000000 in
theorem mx_less {tb o c : Nat} {ao : Option Addr} {ts : List TK} {f : Nat} (HSu : ∀ (w : World) (i : Nat), MS w tb o ao ts → ts.length - i < f + 1 → i ≤ 1100 → Calls Tryz.prog 75 #[.slice ao ts.length c, .int .i64 (i : Int)] w (MER w (sumP false ts (exP false ts f) i))) (w : World) (h : MS w tb o ao ts) {i : Nat} (hf : ts.length - i < f + 1) (hi9 : i ≤ 1100) (q0 : isT ts i sFun = false) (q1 : isT ts i sIf = false) :
    Calls Tryz.prog 64 #[.slice ao ts.length c, .int .i64 (i : Int)] w (MER w (exP false ts (f + 1) i)) := by
  obtain ⟨i0, hi0, hz0, hz1, hz2⟩ := info_parts Tryz.infoEI
  have hln := h.tk.len
  have HMW : Hid (∀ W, Below w.heap.size w W → MS W tb o ao ts) := fun W hb => h.below hb
  have HMS : Hid (MS (bxE w) tb o ao ts) := h.below (bel1 _ _)
  have C1 : Hid (Calls Tryz.prog 75 #[.slice ao ts.length c, .int .i64 (i : Int)] (bxE w) (MER (bxE w) (sumP false ts (exP false ts f) i))) := HSu (bxE w) i (h.below (bel1 _ _)) hf hi9
  have HSM : Hid (∀ (w : World) (i : Nat), MS w tb o ao ts → ts.length - i < f + 1 → i ≤ 1100 → Calls Tryz.prog 75 #[.slice ao ts.length c, .int .i64 (i : Int)] w (MER w (sumP false ts (exP false ts f) i))) := HSu
  have HFB : Hid (Far ts.length (sumP false ts (exP false ts f))) := sum_far (ex_far f)
  have HFT : Hid (Far ts.length (sumP false ts (exP false ts f))) := sum_far (ex_far f)
  have HR0 : Hid (exP false ts (f + 1) i = match sumP false ts (exP false ts f) i with
    | none => none
    | some (l, j) => if isT ts j sLess then (match sumP false ts (exP false ts f) (j + 1) with | none => none | some (r, k) => some (l ++ r ++ [exO 10], k)) else some (l, j)) := by
    show _ = _
    rw [exP, q0, if_neg (by decide), q1, if_neg (by decide)]
    unfold lessP
    cases sumP false ts (exP false ts f) i with
    | none => rfl
    | some z => rfl
  clear h HSu
  go_enter Tryz.func64, Tryz.ntmps64
  go_wp2_with fail
  refine (m_isb HMS.out (i := i) (rfl) (l := sFun) q0 rfl (by decide)).mono ?_
  rintro e w' ⟨rfl, rfl⟩
  go_wp2_with fail
  refine (m_isb HMS.out (i := i) (rfl) (l := sIf) q1 rfl (by decide)).mono ?_
  rintro e w' ⟨rfl, rfl⟩
  go_wp2_with fail
  refine C1.out.mono ?_
  rintro e w2 ⟨hb2, hr⟩
  have HX2 : Hid (w2.rowIs w.heap.size 111 2 (v2 (.slice none 0 0) (.int .i64 0))) := (row2 w (.slice none 0 0) (.int .i64 0) 111).of_block (hb2.block _ (by simp))
  have HB2 : Hid (Below w.heap.size w w2) := (bel1 _ _).trans (hb2.mono (by simp))
  have hws := HB2.out.size
  have hxl2 := HX2.out.lt
  cases hb : sumP false ts (exP false ts f) i with
  | none =>
    rw [hb] at hr
    obtain ⟨va, n, c', rfl⟩ := hr
    have HR : Hid (exP false ts (f + 1) i = none) := by show _ = _; rw [HR0.out, hb]
    clear hb hb2
    have R7 := HX2.out.alloc (.cells #[Value.slice va n c', .int .i64 (-1)] 111)
    have x0' := R7.cell (i := 0) (by omega)
    have x1' := R7.cell (i := 1) (by omega)
    have y0' := R7.frozen 0
    have y1' := R7.frozen 1
    have R8 := (HX2.out.set 0 (Value.slice va n c')).alloc (.cells #[Value.slice va n c', .int .i64 (-1)] 111)
    have x0'' := R8.cell (i := 0) (by omega)
    have x1'' := R8.cell (i := 1) (by omega)
    have y0'' := R8.frozen 0
    have y1'' := R8.frozen 1
    have R9 := ((HX2.out.set 0 (Value.slice va n c')).set 1 (.int .i64 (-1))).alloc (.cells #[Value.slice va n c', .int .i64 (-1)] 111)
    have xlt6 := HX2.out.lt
    clear R7 R8
    go_wp2
    refine bodyPost_ret (ret_ex (k := 4) rfl (R9.cell (i := 0) (by omega)) (R9.cell (i := 1) (by omega)) _ rfl) rfl ?_
    rw [HR.out]
    exact ⟨(below_box HB2.out _ _).alloc (below_box HB2.out _ _).size _, va, n, c', rfl⟩
  | some z =>
    obtain ⟨l, j⟩ := z
    rw [hb] at hr
    obtain ⟨va, n, c', k, zs, rfl, rfl, hrt, hzs⟩ := hr
    obtain ⟨far1, far2, far3⟩ := HFB.out _ _ _ hb
    have en := own_len hrt.own
    have hzb : zs.length ≤ 1000 := by
      have hzl : zs.length = l.length := by rw [← hzs, List.length_map]
      omega
    subst en
    have hj0 : ¬ (j : Int) < 0 := by omega
    have HM2 : Hid (MS (w2.alloc (.cells #[.slice va zs.length c', .int .i64 (j : Int)] 111)) tb o ao ts) := HMW.out _ (HB2.out.alloc hws _)
    have HRT : Hid (RE (w.heap.size + 1) w2 (.slice va zs.length c') zs) := hrt.mono (by simp)
    cases ha : isT ts j sLess with
    | false =>
      have HR : Hid (exP false ts (f + 1) i = some (l, j)) := by show _ = _; rw [HR0.out, hb]; show (if isT ts j sLess = true then _ else some (l, j)) = _; rw [ha]; rfl
      clear hb hb2 hrt
      go_wp2_with fail
      refine (m_isb HM2.out (i := j) (rfl) (l := sLess) ha rfl (by decide)).mono ?_
      rintro e w' ⟨rfl, rfl⟩
      have R7 := HX2.out.alloc (.cells #[Value.slice va zs.length c', .int .i64 (j : Int)] 111)
      have x0' := R7.cell (i := 0) (by omega)
      have x1' := R7.cell (i := 1) (by omega)
      have y0' := R7.frozen 0
      have y1' := R7.frozen 1
      have R8 := (HX2.out.set 0 (Value.slice va zs.length c')).alloc (.cells #[Value.slice va zs.length c', .int .i64 (j : Int)] 111)
      have x0'' := R8.cell (i := 0) (by omega)
      have x1'' := R8.cell (i := 1) (by omega)
      have y0'' := R8.frozen 0
      have y1'' := R8.frozen 1
      have R9 := ((HX2.out.set 0 (Value.slice va zs.length c')).set 1 (.int .i64 (j : Int))).alloc (.cells #[Value.slice va zs.length c', .int .i64 (j : Int)] 111)
      have xlt6 := HX2.out.lt
      clear R7 R8
      go_wp2
      refine bodyPost_ret (ret_ex (k := 4) rfl (R9.cell (i := 0) (by omega)) (R9.cell (i := 1) (by omega)) _ rfl) rfl ?_
      rw [HR.out]
      obtain ⟨W1, W2⟩ := box_ex HB2.out HX2.out (.slice va zs.length c') (.int .i64 (j : Int))
      exact ⟨W1.alloc W1.size _, va, zs.length, c', (j : Int), zs, rfl, rfl, ((W2 _ _ _ HRT.out).below (bel1 _ _)).mono (by omega), hzs⟩
    | true =>
      have C2 : Hid (Calls Tryz.prog 75 #[.slice ao ts.length c, .int .i64 ((j : Int) + 1)] (w2.alloc (.cells #[.slice va zs.length c', .int .i64 (j : Int)] 111)) (MER (w2.alloc (.cells #[.slice va zs.length c', .int .i64 (j : Int)] 111)) (sumP false ts (exP false ts f) (j + 1)))) := by
        have := HSM.out _ (j + 1) HM2.out (by have := isT_lt ha; omega) (by omega)
        rw [show ((j + 1 : Nat) : Int) = (j : Int) + 1 by omega] at this
        exact this
      go_wp2_with fail
      refine (m_isb HM2.out (i := j) (rfl) (l := sLess) ha rfl (by decide)).mono ?_
      rintro e w' ⟨rfl, rfl⟩
      go_wp2_with fail
      refine C2.out.mono ?_
      rintro e w4 ⟨hb4, hr4⟩
      have L4 := row2 w2 (.slice va zs.length c') (.int .i64 (j : Int)) 111
      have l0 : w4.cell? ⟨w2.heap.size, 0, none⟩ = some (.slice va zs.length c') := (L4.of_block (hb4.block _ L4.lt)).cell (i := 0) (by omega)
      have l1 : w4.cell? ⟨w2.heap.size, 1, none⟩ = some (.int .i64 (j : Int)) := (L4.of_block (hb4.block _ L4.lt)).cell (i := 1) (by omega)
      have HB4 : Hid (Below w.heap.size w w4) := (HB2.out.alloc hws _).trans (hb4.mono (by simp; omega))
      have X3 := HX2.out.alloc (.cells #[.slice va zs.length c', .int .i64 (j : Int)] 111)
      have HX4 : Hid (w4.rowIs w.heap.size 111 2 (v2 (.slice none 0 0) (.int .i64 0))) := X3.of_block (hb4.block _ X3.lt)
      have HI4 : Hid (RE (w.heap.size + 1) w4 (.slice va zs.length c') zs) := (HRT.out.below (bel1 _ _)).below hb4
      have hws4 := HB4.out.size
      have hwl4 : w2.heap.size + 1 ≤ w4.heap.size := by have := hb4.size; simp at this; omega
      clear L4 X3
      cases ht : sumP false ts (exP false ts f) (j + 1) with
      | none =>
        rw [ht] at hr4
        obtain ⟨va', n', c'', rfl⟩ := hr4
        have HR : Hid (exP false ts (f + 1) i = none) := by show _ = _; rw [HR0.out, hb]; show (if isT ts j sLess = true then _ else some (l, j)) = _; rw [ha, ht]; rfl
        clear hb hb2 hb4 hrt ht
        have R7 := HX4.out.alloc (.cells #[Value.slice va' n' c'', .int .i64 (-1)] 111)
        have x0' := R7.cell (i := 0) (by omega)
        have x1' := R7.cell (i := 1) (by omega)
        have y0' := R7.frozen 0
        have y1' := R7.frozen 1
        have R8 := (HX4.out.set 0 (Value.slice va' n' c'')).alloc (.cells #[Value.slice va' n' c'', .int .i64 (-1)] 111)
        have x0'' := R8.cell (i := 0) (by omega)
        have x1'' := R8.cell (i := 1) (by omega)
        have y0'' := R8.frozen 0
        have y1'' := R8.frozen 1
        have R9 := ((HX4.out.set 0 (Value.slice va' n' c'')).set 1 (.int .i64 (-1))).alloc (.cells #[Value.slice va' n' c'', .int .i64 (-1)] 111)
        have xlt6 := HX4.out.lt
        clear R7 R8
        go_wp2
        refine bodyPost_ret (ret_ex (k := 4) rfl (R9.cell (i := 0) (by omega)) (R9.cell (i := 1) (by omega)) _ rfl) rfl ?_
        rw [HR.out]
        exact ⟨(below_box HB4.out _ _).alloc (below_box HB4.out _ _).size _, va', n', c'', rfl⟩
      | some z =>
        obtain ⟨l2, k⟩ := z
        rw [ht] at hr4
        obtain ⟨va', n', c'', k', ys, rfl, rfl, hrt4, hys⟩ := hr4
        obtain ⟨far4, far5, far6⟩ := HFT.out _ _ _ ht
        have hyb : ys.length ≤ 1000 := by
          have hyl : ys.length = l2.length := by rw [← hys, List.length_map]
          omega
        have hk0 : ¬ (k : Int) < 0 := by omega
        have HR : Hid (exP false ts (f + 1) i = some (l ++ l2 ++ [exO 10], k)) := by show _ = _; rw [HR0.out, hb]; show (if isT ts j sLess = true then _ else some (l, j)) = _; rw [ha, ht]; rfl
        have B5 := bel1 w4 (.cells #[.slice va' n' c'', .int .i64 (k : Int)] 111)
        have l0' := (B5.cell (p := ⟨w2.heap.size, 0, none⟩) (World.block_lt_of_cell? _ _ l0)).trans l0
        have CJ : Hid (Calls Tryz.prog 74 #[.slice va zs.length c', .slice va' n' c''] (w4.alloc (.cells #[.slice va' n' c'', .int .i64 (k : Int)] 111)) fun e w' => (∃ va n c, e = .returned (.slice va n c) ∧ Hid (RE (w.heap.size + 1) w' (.slice va n c) (zs ++ ys))) ∧ Hid (Below (w4.alloc (.cells #[.slice va' n' c'', .int .i64 (k : Int)] 111)).heap.size (w4.alloc (.cells #[.slice va' n' c'', .int .i64 (k : Int)] 111)) w')) :=
          m_joinE _ (HI4.out.below B5) ((hrt4.mono (by simp; omega)).below B5) (by omega) (by simp; omega)
        have RR := row2 w4 (.slice va' n' c'') (.int .i64 (k : Int)) 111
        have HMP : Hid ((zs ++ ys).map Prod.fst = l ++ l2) := by show _ = _; rw [List.map_append, hzs, hys]
        clear hb hb2 hb4 hrt hrt4 ht
        go_wp2_with fail
        refine CJ.out.mono ?_
        rintro e w8 ⟨⟨va8, n8, c8, rfl, H8⟩, hb8⟩
        have en := own_len H8.out.own
        subst en
        have hlen : (zs ++ ys).length = zs.length + ys.length := List.length_append
        obtain ⟨N, hN⟩ : ∃ N, N = (zs ++ ys).length := ⟨_, rfl⟩
        have HN : Hid (N = (zs ++ ys).length) := hN
        have hNb : N ≤ 2000 := by omega
        have HO : Hid (RE (w.heap.size + 1) w8 (.slice va8 N c8) (zs ++ ys)) := by rw [hN]; exact H8.out
        have HOW : Hid (w8.ownsRow (w.heap.size + 1) 123 6 (.slice va8 N c8) N (eisC (zs ++ ys))) := by have := HO.out.own; rw [← hN] at this; exact this
        rw [← hN]
        have k1 : w8.cell? ⟨w4.heap.size, 1, none⟩ = some (.int .i64 (k : Int)) := (RR.of_block (hb8.out.block _ RR.lt)).cell (i := 1) (by omega)
        have X5 := HX4.out.alloc (.cells #[.slice va' n' c'', .int .i64 (k : Int)] 111)
        have HX8 : Hid (w8.rowIs w.heap.size 111 2 (v2 (.slice none 0 0) (.int .i64 0))) := X5.of_block (hb8.out.block _ X5.lt)
        have HB8 : Hid (Below w.heap.size w w8) := (HB4.out.alloc hws4 _).trans (hb8.out.mono (by simp; omega))
        have hws8 : w4.heap.size + 1 ≤ w8.heap.size := by have := hb8.out.size; simp at this; omega
        have hne1 : w.heap.size ≠ w4.heap.size := by omega
        have HK8 : Hid (∀ o : Obj, ((w8.alloc o).drew).cell? ⟨w4.heap.size, 1, none⟩ = some (.int .i64 (k : Int))) := fun o => (bel1 w8 o).cell (p := ⟨w4.heap.size, 1, none⟩) (World.block_lt_of_cell? _ _ k1) |>.trans k1
        have HSR : Hid (∀ b, (Value.slice va8 N c8).ownBlock = some b → b ≠ w4.heap.size) := fun b e z => by
          subst z
          exact own_box HOW.out ((RR.of_block (hb8.out.block _ RR.lt))) (by decide) e
        clear hN CJ RR X5 hb8 H8 l0 l0' l1 hlen
        go_wp2
        go_region_held3 (fun w' => w'.cell? ⟨w4.heap.size, 1, none⟩ = some (.int .i64 (k : Int))) (go_keep) ((refine step_append_lies _ (by rfl) _ _ _ (by rfl) (w.heap.size + 1) 123 i0 _ 6 96 Tryz.underlying56 hi0 hz0 hz1 hz2 rfl (by omega) (.slice va8 N c8) N (eisC (zs ++ ys)) (by rfl) ((HOW.out.alloc _).drew) ⟨w8.heap.size, 0, none⟩ 1 1 [.int .i64 10, .int .i64 0, .string ⟨#[]⟩, .string ⟨#[]⟩, .slice none 0 0, .slice none 0 0] (by rfl) (by rfl) (World.news_of_block (cs := #[.int .i64 10, .int .i64 0, .string ⟨#[]⟩, .string ⟨#[]⟩, .slice none 0 0, .slice none 0 0]) (t := 123) (fr := (0, 0)) (heap_alloc_new w8 _)) (by simp [Value.oneCell']) (by omega) (by unfold maxLen; omega) (by omega) (by simp; omega) (w8.heap.size + 1) (by simp) ?_; intro gg cap3 w9 hown3 hg3 hat3 hlt3; have f1 : w9.cell? ⟨w4.heap.size, 1, none⟩ = some (.int .i64 (k : Int)) := (hg3.cell_far ⟨w4.heap.size, 1, none⟩ (by simp; omega) (fun e => HSR.out _ e.symm rfl)).trans (HK8.out _); have X9 : w9.rowIs w.heap.size 111 2 (v2 (.slice none 0 0) (.int .i64 0)) := (HX8.out.alloc _).of_block (hg3.block _ (by simp; omega) (fun e => by have := (HOW.out.lt _ e.symm).1; omega)); have d0 := X9.cell (i := 0) (by omega); have d1 := X9.cell (i := 1) (by omega); have z0 := X9.frozen 0; have z1 := X9.frozen 1))
        go_wp2
        have hg := grown_undrew hg3
        have NX := HO.out.push (x := (exO 10, ep0)) (by rw [← HN.out]; exact hown3) hg ⟨NmOK.nil _ _ _, (OT.nil _ _).rt, rfl⟩
        rw [← HN.out] at NX
        have B9 := below_grown HB8.out hg (fun b e => by have := (HOW.out.lt b e).1; omega)
        obtain ⟨W1, W2⟩ := box_ex B9 X9 (.slice (some ⟨gg, 0, none⟩) (N + 1) cap3) (.int .i64 (k : Int))
        have RX := (X9.set 0 (.slice (some ⟨gg, 0, none⟩) (N + 1) cap3)).set 1 (.int .i64 (k : Int))
        refine bodyPost_ret (ret_ex (k := 4) rfl (RX.cell (i := 0) (by omega)) (RX.cell (i := 1) (by omega)) _ rfl) rfl ?_
        rw [HR.out]
        exact ⟨W1, some ⟨gg, 0, none⟩, N + 1, cap3, (k : Int), (zs ++ ys) ++ [(exO 10, ep0)], rfl, rfl, (W2 _ _ _ NX).mono (by omega), by rw [List.map_append, HMP.out]; rfl⟩

end Go.Proofs.YtdjkgilohhjfoaaGreatDoor

namespace Go.Proofs.YtdjkgilohhjfoaaGreatDoor
open Go.RowKit

/-- The result's box stands untouched. -/
structure XW (w W : World) : Prop where
  below : Below w.heap.size w W
  box : W.rowIs w.heap.size 111 2 (v2 (.slice none 0 0) (.int .i64 0))
theorem XW.on {w W W1 : World} (h : XW w W) (hb : Below W.heap.size W W1) : XW w W1 := ⟨h.below.trans (hb.mono h.below.size), h.box.of_block (hb.block _ h.box.lt)⟩
theorem XW.start (w : World) : XW w (bxE w) := ⟨bel1 _ _, row2 w _ _ _⟩
/-- A box with what was read. -/
structure XB (w : World) (L : Nat) (va : Option Addr) (n c j : Nat) (zs : List (EI × EPl)) (W : World) : Prop where
  row : W.rowIs L 111 2 (v2 (.slice va n c) (.int .i64 (j : Int)))
  lb : w.heap.size < L
  items : RE (w.heap.size + 1) W (.slice va n c) zs
theorem XB.on {w W W1 : World} {L n c j : Nat} {va : Option Addr} {zs : List (EI × EPl)} (h : XB w L va n c j zs W) (hb : Below W.heap.size W W1) : XB w L va n c j zs W1 := ⟨h.row.of_block (hb.block _ h.row.lt), h.lb, h.items.below hb⟩
theorem XB.new {w W : World} (h : XW w W) {n c j : Nat} {va : Option Addr} {zs : List (EI × EPl)} (hr : RE (w.heap.size + 1) W (.slice va n c) zs) : XB w W.heap.size va n c j zs (W.alloc (.cells #[.slice va n c, .int .i64 (j : Int)] 111)) := ⟨row2 W _ _ _, h.box.lt, hr.below (bel1 _ _)⟩

set_option maxRecDepth 100000 in
set_option maxHeartbeats 8000000 in
theorem mx_fun {tb o c : Nat} {ao : Option Addr} {ts : List TK} {f : Nat} (IH : MEC tb o ts f) (w : World) (h : MS w tb o ao ts) {i : Nat} (hf : ts.length - i < f + 1) (hs : isT ts i sFun = true) :
    Calls Tryz.prog 64 #[.slice ao ts.length c, .int .i64 (i : Int)] w (MER w (exP false ts (f + 1) i)) := by
  obtain ⟨i0, hi0, hz0, hz1, hz2⟩ := info_parts Tryz.infoEI
  have hi := isT_lt hs
  have hln := h.tk.len
  have HR0 : Hid (exP false ts (f + 1) i = funP false ts (exP false ts f) (i + 1)) := by
    show _ = _
    rw [exP, if_pos hs]
  have e := h.at_ (by omega)
  subst e
  have HMW : Hid (∀ W, Below w.heap.size w W → MS W tb o (some ⟨tb, o, none⟩) ts) := fun W hb => h.below hb
  have HMS : Hid (MS (bxE w) tb o (some ⟨tb, o, none⟩) ts) := h.below (bel1 _ _)
  have HX0 : Hid (XW w (bxE w)) := XW.start w
  have HIH : Hid (MEC tb o ts f) := IH
  have HF : Hid (ts.length - i < f + 1) := hf
  have HFE : Hid (Far ts.length (exP false ts f)) := ex_far f
  have HFT : Hid (Far ts.length (tyP false ts (ts.length + 1))) := ty_far _
  have wi1 : IntKind.i64.wrap ((i : Int) + 1) = (i : Int) + 1 := by rw [IntKind.wrap_i64]; omega
  have wi2 : IntKind.i64.wrap ((i : Int) + 2) = (i : Int) + 2 := by rw [IntKind.wrap_i64]; omega
  have wi3 : IntKind.i64.wrap ((i : Int) + 3) = (i : Int) + 3 := by rw [IntKind.wrap_i64]; omega
  have wi4 : IntKind.i64.wrap ((i : Int) + 4) = (i : Int) + 4 := by rw [IntKind.wrap_i64]; omega
  have HTB : Hid (tb < w.heap.size) := World.block_lt_of_cell? _ _ (h.tk.c1 i hi)
  clear h IH hf
  go_enter Tryz.func64, Tryz.ntmps64
  go_wp2_with fail
  refine (m_isb HMS.out (i := i) (rfl) (l := sFun) hs rfl (by decide)).mono ?_
  rintro e w' ⟨rfl, rfl⟩
  cases a1 : isT ts (i + 1) sLeft
  case false =>
    have HNO : Hid (exP false ts (f + 1) i = none) := by show _ = _; rw [HR0.out]; unfold funP; rw [a1]; rfl
    go_wp2_with fail
    refine (m_isb HMS.out (i := i + 1) (by omega) (l := sLeft) a1 rfl (by decide)).mono ?_
    rintro e w' ⟨rfl, rfl⟩
    go_wp2_with fail
    refine (m_noExpr _).mono ?_
    rintro e wN ⟨⟨vaN, nN, cN, rfl⟩, hbN⟩
    have XN := HX0.out.on hbN.out
    have HXN : Hid (XW w wN) := XN
    have d0 := XN.box.cell (i := 0) (by omega)
    have d1 := XN.box.cell (i := 1) (by omega)
    have z0 := XN.box.frozen 0
    have z1 := XN.box.frozen 1
    clear XN hbN
    go_wp2
    have RX := (HXN.out.box.set 0 (.slice vaN nN cN)).set 1 (.int .i64 (-1))
    refine bodyPost_ret (ret_ex (k := 4) rfl (RX.cell (i := 0) (by omega)) (RX.cell (i := 1) (by omega)) _ rfl) rfl ?_
    rw [HNO.out]
    exact ⟨below_box HXN.out.below _ _, vaN, nN, cN, rfl⟩
  go_wp2_with fail
  refine (m_isb HMS.out (i := i + 1) (by omega) (l := sLeft) a1 rfl (by decide)).mono ?_
  rintro e w' ⟨rfl, rfl⟩
  cases a2 : isC ts (i + 1 + 1) 1
  case false =>
    have HNO : Hid (exP false ts (f + 1) i = none) := by show _ = _; rw [HR0.out]; unfold funP; rw [a1, a2]; rfl
    go_wp2_with fail
    refine (m_isN HMS.out (i := i + 1 + 1) (by omega) a2).mono ?_
    rintro e w' ⟨rfl, rfl⟩
    go_wp2_with fail
    refine (m_noExpr _).mono ?_
    rintro e wN ⟨⟨vaN, nN, cN, rfl⟩, hbN⟩
    have XN := HX0.out.on hbN.out
    have HXN : Hid (XW w wN) := XN
    have d0 := XN.box.cell (i := 0) (by omega)
    have d1 := XN.box.cell (i := 1) (by omega)
    have z0 := XN.box.frozen 0
    have z1 := XN.box.frozen 1
    clear XN hbN
    go_wp2
    have RX := (HXN.out.box.set 0 (.slice vaN nN cN)).set 1 (.int .i64 (-1))
    refine bodyPost_ret (ret_ex (k := 4) rfl (RX.cell (i := 0) (by omega)) (RX.cell (i := 1) (by omega)) _ rfl) rfl ?_
    rw [HNO.out]
    exact ⟨below_box HXN.out.below _ _, vaN, nN, cN, rfl⟩
  go_wp2_with fail
  refine (m_isN HMS.out (i := i + 1 + 1) (by omega) a2).mono ?_
  rintro e w' ⟨rfl, rfl⟩
  have hq := isC_lt a2
  cases a3 : isT ts (i + 1 + 2) sColon
  case false =>
    have HNO : Hid (exP false ts (f + 1) i = none) := by show _ = _; rw [HR0.out]; unfold funP; rw [a1, a2, a3]; rfl
    go_wp2_with fail
    refine (m_isb HMS.out (i := i + 1 + 2) (by omega) (l := sColon) a3 rfl (by decide)).mono ?_
    rintro e w' ⟨rfl, rfl⟩
    go_wp2_with fail
    refine (m_noExpr _).mono ?_
    rintro e wN ⟨⟨vaN, nN, cN, rfl⟩, hbN⟩
    have XN := HX0.out.on hbN.out
    have HXN : Hid (XW w wN) := XN
    have d0 := XN.box.cell (i := 0) (by omega)
    have d1 := XN.box.cell (i := 1) (by omega)
    have z0 := XN.box.frozen 0
    have z1 := XN.box.frozen 1
    clear XN hbN
    go_wp2
    have RX := (HXN.out.box.set 0 (.slice vaN nN cN)).set 1 (.int .i64 (-1))
    refine bodyPost_ret (ret_ex (k := 4) rfl (RX.cell (i := 0) (by omega)) (RX.cell (i := 1) (by omega)) _ rfl) rfl ?_
    rw [HNO.out]
    exact ⟨below_box HXN.out.below _ _, vaN, nN, cN, rfl⟩
  go_wp2_with fail
  refine (m_isb HMS.out (i := i + 1 + 2) (by omega) (l := sColon) a3 rfl (by decide)).mono ?_
  rintro e w' ⟨rfl, rfl⟩
  have HR1 : Hid (exP false ts (f + 1) i = match tyP false ts (ts.length + 1) (i + 1 + 3) with
    | none => none
    | some (t, j) => if isT ts j sRight then (match exP false ts f (j + 1) with | none => none | some (b, k) => some (b ++ [⟨6, 0, e0, tx ts (i + 1 + 1), [], t⟩], k)) else none) := by
    show _ = _
    rw [HR0.out]
    unfold funP
    rw [a1, a2, a3, if_pos (show (true && true && true) = true from rfl)]
    cases tyP false ts (ts.length + 1) (i + 1 + 3) with
    | none => rfl
    | some z => rfl
  have hi3 := isT_lt a3
  have CT : Hid (Calls Tryz.prog 63 #[.slice (some ⟨tb, o, none⟩) ts.length c, .int .i64 ((i : Int) + 4)] (bxE w) (MTR (bxE w) (tyP false ts (ts.length + 1) (i + 1 + 3)))) := m_type _ _ _ _ _ _ HMS.out (by omega) (by omega) (by omega)
  clear a1 a3
  go_wp2_with fail
  refine CT.out.mono ?_
  rintro e w2 ⟨hb2, hr2⟩
  have HX2 : Hid (XW w w2) := HX0.out.on hb2
  cases ht : tyP false ts (ts.length + 1) (i + 1 + 3) with
  | none =>
    rw [ht] at hr2
    obtain ⟨va, n, c', rfl⟩ := hr2
    have HNO : Hid (exP false ts (f + 1) i = none) := by show _ = _; rw [HR1.out, ht]
    have HX3 : Hid (XW w (w2.alloc (.cells #[.slice va n c', .int .i64 (-1)] 108))) := HX2.out.on (bel1 _ _)
    clear ht hb2
    go_wp2_with fail
    refine (m_noExpr _).mono ?_
    rintro e wN ⟨⟨vaN, nN, cN, rfl⟩, hbN⟩
    have XN := HX3.out.on hbN.out
    have HXN : Hid (XW w wN) := XN
    have d0 := XN.box.cell (i := 0) (by omega)
    have d1 := XN.box.cell (i := 1) (by omega)
    have z0 := XN.box.frozen 0
    have z1 := XN.box.frozen 1
    clear XN hbN
    go_wp2
    have RX := (HXN.out.box.set 0 (.slice vaN nN cN)).set 1 (.int .i64 (-1))
    refine bodyPost_ret (ret_ex (k := 4) rfl (RX.cell (i := 0) (by omega)) (RX.cell (i := 1) (by omega)) _ rfl) rfl ?_
    rw [HNO.out]
    exact ⟨below_box HXN.out.below _ _, vaN, nN, cN, rfl⟩
  | some z =>
    obtain ⟨tl, j⟩ := z
    rw [ht] at hr2
    obtain ⟨tva, tn, tc, k, us, rfl, rfl, hrt, hus⟩ := hr2
    obtain ⟨far1, far2, far3⟩ := HFT.out _ _ _ ht
    have hj0 : ¬ (j : Int) < 0 := by omega
    have HX3 : Hid (XW w (w2.alloc (.cells #[.slice tva tn tc, .int .i64 (j : Int)] 108))) := HX2.out.on (bel1 _ _)
    have HM3 : Hid (MS (w2.alloc (.cells #[.slice tva tn tc, .int .i64 (j : Int)] 108)) tb o (some ⟨tb, o, none⟩) ts) := HMW.out _ HX3.out.below
    have HRT : Hid (RT (w.heap.size + 1) w2 (.slice tva tn tc) us) := hrt.mono (by simp)
    have HUS : Hid (us.map Prod.fst = tl) := hus
    cases ar : isT ts j sRight with
    | false =>
      have HNO : Hid (exP false ts (f + 1) i = none) := by show _ = _; rw [HR1.out, ht]; show (if isT ts j sRight = true then _ else none) = _; rw [ar]; rfl
      clear ht hb2 hrt hus
      go_wp2_with fail
      refine (m_isb HM3.out (i := j) (rfl) (l := sRight) ar rfl (by decide)).mono ?_
      rintro e w' ⟨rfl, rfl⟩
      go_wp2_with fail
      refine (m_noExpr _).mono ?_
      rintro e wN ⟨⟨vaN, nN, cN, rfl⟩, hbN⟩
      have XN := HX3.out.on hbN.out
      have HXN : Hid (XW w wN) := XN
      have d0 := XN.box.cell (i := 0) (by omega)
      have d1 := XN.box.cell (i := 1) (by omega)
      have z0 := XN.box.frozen 0
      have z1 := XN.box.frozen 1
      clear XN hbN
      go_wp2
      have RX := (HXN.out.box.set 0 (.slice vaN nN cN)).set 1 (.int .i64 (-1))
      refine bodyPost_ret (ret_ex (k := 4) rfl (RX.cell (i := 0) (by omega)) (RX.cell (i := 1) (by omega)) _ rfl) rfl ?_
      rw [HNO.out]
      exact ⟨below_box HXN.out.below _ _, vaN, nN, cN, rfl⟩
    | true =>
      have hjr := isT_lt ar
      have HR2 : Hid (exP false ts (f + 1) i = match exP false ts f (j + 1) with | none => none | some (b, k) => some (b ++ [⟨6, 0, e0, tx ts (i + 1 + 1), [], tl⟩], k)) := by show _ = _; rw [HR1.out, ht]; show (if isT ts j sRight = true then _ else none) = _; rw [ar, if_pos rfl]
      have CE : Hid (Calls Tryz.prog 64 #[.slice (some ⟨tb, o, none⟩) ts.length c, .int .i64 ((j : Int) + 1)] (w2.alloc (.cells #[.slice tva tn tc, .int .i64 (j : Int)] 108)) (MER (w2.alloc (.cells #[.slice tva tn tc, .int .i64 (j : Int)] 108)) (exP false ts f (j + 1)))) := HIH.out _ _ _ _ _ HM3.out (by omega) (by have := HF.out; omega) (by omega)
      clear ht hb2 hrt hus
      go_wp2_with fail
      refine (m_isb HM3.out (i := j) (rfl) (l := sRight) ar rfl (by decide)).mono ?_
      rintro e w' ⟨rfl, rfl⟩
      go_wp2_with fail
      refine CE.out.mono ?_
      rintro e w4 ⟨hb4, hr4⟩
      have HX4 : Hid (XW w w4) := HX3.out.on hb4
      have HT4 : Hid (RT (w.heap.size + 1) w4 (.slice tva tn tc) us) := (HRT.out.below (bel1 _ _)).below hb4
      have TB := (row2 w2 (.slice tva tn tc) (.int .i64 (j : Int)) 108).of_block (hb4.block _ (by simp))
      have t0 : w4.cell? ⟨w2.heap.size, 0, none⟩ = some (.slice tva tn tc) := TB.cell (i := 0) (by omega)
      cases he : exP false ts f (j + 1) with
      | none =>
        rw [he] at hr4
        obtain ⟨va', n', c'', rfl⟩ := hr4
        have HNO : Hid (exP false ts (f + 1) i = none) := by show _ = _; rw [HR2.out, he]
        clear he hb4 TB
        have R7 := HX4.out.box.alloc (.cells #[Value.slice va' n' c'', .int .i64 (-1)] 111)
        have x0' := R7.cell (i := 0) (by omega)
        have x1' := R7.cell (i := 1) (by omega)
        have y0' := R7.frozen 0
        have y1' := R7.frozen 1
        have R8 := (HX4.out.box.set 0 (Value.slice va' n' c'')).alloc (.cells #[Value.slice va' n' c'', .int .i64 (-1)] 111)
        have x0'' := R8.cell (i := 0) (by omega)
        have x1'' := R8.cell (i := 1) (by omega)
        have y0'' := R8.frozen 0
        have y1'' := R8.frozen 1
        have R9 := ((HX4.out.box.set 0 (Value.slice va' n' c'')).set 1 (.int .i64 (-1))).alloc (.cells #[Value.slice va' n' c'', .int .i64 (-1)] 111)
        have xlt6 := HX4.out.box.lt
        clear R7 R8
        go_wp2
        refine bodyPost_ret (ret_ex (k := 4) rfl (R9.cell (i := 0) (by omega)) (R9.cell (i := 1) (by omega)) _ rfl) rfl ?_
        rw [HNO.out]
        exact ⟨(below_box HX4.out.below _ _).alloc (below_box HX4.out.below _ _).size _, va', n', c'', rfl⟩
      | some z =>
        obtain ⟨l2, k⟩ := z
        rw [he] at hr4
        obtain ⟨va', n', c'', k', ys, rfl, rfl, hre, hys⟩ := hr4
        obtain ⟨far4, far5, far6⟩ := HFE.out _ _ _ he
        have en := own_len hre.own
        have hyl : ys.length = l2.length := by rw [← hys, List.length_map]
        obtain ⟨N, hN⟩ : ∃ N, N = ys.length := ⟨_, rfl⟩
        have hNb : N ≤ 2000 := by omega
        rw [← hN] at en
        have en := en.symm
        subst en
        have HN : Hid (N = ys.length) := hN
        have hk0 : ¬ (k : Int) < 0 := by omega
        obtain ⟨tt, htt⟩ : ∃ z, z = tx ts (i + 1 + 1) := ⟨_, rfl⟩
        have HYES : Hid (exP false ts (f + 1) i = some (l2 ++ [⟨6, 0, e0, tt, [], tl⟩], k)) := by show _ = _; rw [HR2.out, he, htt]
        have HYS : Hid (ys.map Prod.fst = l2) := hys
        have HM4 := HMW.out _ HX4.out.below
        have ct := HM4.tk.c1 (i + 1 + 1) hq
        rw [← tx_at hq, ← htt] at ct
        have ct : w4.cell? ⟨tb, o + ((i : Int) + 2).toNat * 3 + 1, none⟩ = some (.string tt) := by rw [show ((i : Int) + 2).toNat = i + 1 + 1 by omega]; exact ct
        have hq1 : (i : Int) + 2 < (ts.length : Int) := by omega
        have hq0 : (0 : Int) ≤ (i : Int) + 2 := by omega
        have hws4 := HX4.out.below.size
        have hxl4 := HX4.out.box.lt
        have hwl4 : w2.heap.size + 1 ≤ w4.heap.size := by have := hb4.size; simp at this; omega
        have HE4 : Hid (RE (w.heap.size + 1) w4 (.slice va' N c'') ys) := hre.mono (by simp; have := HX2.out.box.lt; omega)
        obtain ⟨W, hW⟩ : ∃ W, W = w4.alloc (.cells #[.slice va' N c'', .int .i64 (k : Int)] 111) := ⟨_, rfl⟩
        have BW : Below w4.heap.size w4 W := by rw [hW]; exact bel1 _ _
        have hWs : W.heap.size = w4.heap.size + 1 := by rw [hW]; simp
        have hWs1 : w4.heap.size + 1 ≤ W.heap.size := by omega
        have BR : W.rowIs w4.heap.size 111 2 (v2 (.slice va' N c'') (.int .i64 (k : Int))) := by rw [hW]; exact row2 w4 _ _ _
        have HBR : Hid (W.rowIs w4.heap.size 111 2 (v2 (.slice va' N c'') (.int .i64 (k : Int)))) := BR
        have HXW : Hid (XW w W) := HX4.out.on BW
        have HOW : Hid (W.ownsRow (w.heap.size + 1) 123 6 (.slice va' N c'') N (eisC ys)) := by have := (HE4.out.below BW).own; rw [← hN] at this; exact this
        have HEW : Hid (RE (w.heap.size + 1) W (.slice va' N c'') ys) := HE4.out.below BW
        have HTW : Hid (RT (w.heap.size + 1) W (.slice tva tn tc) us) := HT4.out.below BW
        have s0 : W.cell? ⟨w4.heap.size, 0, none⟩ = some (.slice va' N c'') := BR.cell (i := 0) (by omega)
        have s1 : W.cell? ⟨w2.heap.size, 0, none⟩ = some (.slice tva tn tc) := (BW.cell (p := ⟨w2.heap.size, 0, none⟩) (World.block_lt_of_cell? _ _ t0)).trans t0
        have s2 : W.cell? ⟨tb, o + ((i : Int) + 2).toNat * 3 + 1, none⟩ = some (.string tt) := (BW.cell (p := ⟨tb, o + ((i : Int) + 2).toNat * 3 + 1, none⟩) (World.block_lt_of_cell? _ _ ct)).trans ct
        have HK : Hid (∀ W9 : World, (∀ b, (Value.slice va' N c'').ownBlock ≠ some b → b < W.heap.size → W9.heap[b]? = W.heap[b]?) → W9.cell? ⟨w4.heap.size, 0, none⟩ = some (.slice va' N c'') ∧ W9.cell? ⟨w2.heap.size, 0, none⟩ = some (.slice tva tn tc) ∧ W9.cell? ⟨tb, o + ((i : Int) + 2).toNat * 3 + 1, none⟩ = some (.string tt) ∧ W9.rowIs w4.heap.size 111 2 (v2 (.slice va' N c'') (.int .i64 (k : Int)))) := fun W9 hk => by
          have q0 : (Value.slice va' N c'').ownBlock ≠ some w4.heap.size := fun e => own_box HOW.out HBR.out (by decide) e
          have q1 : (Value.slice va' N c'').ownBlock ≠ some w2.heap.size := fun e => own_box HOW.out ((TB).of_block (BW.block _ TB.lt)) (by decide) e
          have q2 : (Value.slice va' N c'').ownBlock ≠ some tb := fun e => by
            have z := (HOW.out.lt _ e).1
            have := HTB.out
            omega
          have k0 := hk _ q0 (by omega)
          have k1 := hk _ q1 (by omega)
          have k2 := hk _ q2 (by have := World.block_lt_of_cell? _ _ s2; exact this)
          exact ⟨(World.cell?_of_block k0).trans s0, (World.cell?_of_block k1).trans s1, (World.cell?_of_block k2).trans s2, HBR.out.of_block k0⟩
        clear he hb4 hre hys hyl hN htt ct t0 TB BR HM4 hWs
        go_wp2_with fail
        rw [← hW]
        clear hW
        go_region_held3 (fun w' => w'.cell? ⟨w4.heap.size, 0, none⟩ = some (.slice va' N c'') ∧ w'.cell? ⟨w2.heap.size, 0, none⟩ = some (.slice tva tn tc) ∧ w'.cell? ⟨tb, o + ((i : Int) + 2).toNat * 3 + 1, none⟩ = some (.string tt)) (go_keep) ((refine step_append_lies _ (by rfl) _ _ _ (by rfl) (w.heap.size + 1) 123 i0 _ 6 96 Tryz.underlying56 hi0 hz0 hz1 hz2 rfl (by omega) (.slice va' N c'') N (eisC ys) (by rfl) ((HOW.out.alloc _).drew) ⟨W.heap.size, 0, none⟩ 1 1 [.int .i64 6, .int .i64 0, .string ⟨#[]⟩, .string tt, .slice none 0 0, .slice tva tn tc] (by rfl) (by rfl) (World.news_of_block (cs := #[.int .i64 6, .int .i64 0, .string ⟨#[]⟩, .string tt, .slice none 0 0, .slice tva tn tc]) (t := 123) (fr := (0, 0)) (heap_alloc_new W _)) (by simp [Value.oneCell']) (by omega) (by unfold maxLen; omega) (by omega) (by simp; omega) (W.heap.size + 1) (by simp) ?_; intro gg cap3 w9 hown3 hg3 hat3 hlt3; obtain ⟨f0, f1, f2, F9⟩ := HK.out w9 (fun b hb hl => (hg3.block b (by simp; omega) (fun e => hb e.symm)).trans ((bel1 W _).block b hl))))
        have hg := grown_undrew hg3
        have NX := HEW.out.push (x := ((⟨6, 0, e0, tt, [], tl⟩ : EI), (⟨⟨none, 0, 0⟩, .slice tva tn tc, us⟩ : EPl))) (by rw [← HN.out]; exact hown3) hg ⟨NmOK.nil _ _ _, HTW.out, HUS.out⟩
        rw [← HN.out] at NX
        have HNX : Hid (RE (w.heap.size + 1) w9 (.slice (some ⟨gg, 0, none⟩) (N + 1) cap3) (ys ++ [((⟨6, 0, e0, tt, [], tl⟩ : EI), (⟨⟨none, 0, 0⟩, .slice tva tn tc, us⟩ : EPl))])) := NX
        have B9 := below_grown HXW.out.below hg (fun b e => by have := (HOW.out.lt b e).1; omega)
        have X9 : w9.rowIs w.heap.size 111 2 (v2 (.slice none 0 0) (.int .i64 0)) := (HXW.out.box.alloc _).of_block (hg3.block _ (by simp; omega) (fun e => by have := (HOW.out.lt _ e.symm).1; omega))
        have HX9 : Hid (XW w w9) := ⟨B9, X9⟩
        have d0 := X9.cell (i := 0) (by omega)
        have d1 := X9.cell (i := 1) (by omega)
        have z0 := X9.frozen 0
        have z1 := X9.frozen 1
        have k1 : w9.cell? ⟨w4.heap.size, 1, none⟩ = some (.int .i64 (k : Int)) := F9.cell (i := 1) (by omega)
        have hne1 : w.heap.size ≠ w4.heap.size := by omega
        clear hown3 hg3 hg NX B9 X9 F9 HK
        go_wp2
        obtain ⟨W1, W2⟩ := box_ex HX9.out.below HX9.out.box (.slice (some ⟨gg, 0, none⟩) (N + 1) cap3) (.int .i64 (k : Int))
        have RX := (HX9.out.box.set 0 (.slice (some ⟨gg, 0, none⟩) (N + 1) cap3)).set 1 (.int .i64 (k : Int))
        refine bodyPost_ret (ret_ex (k := 4) rfl (RX.cell (i := 0) (by omega)) (RX.cell (i := 1) (by omega)) _ rfl) rfl ?_
        rw [HYES.out]
        exact ⟨W1, some ⟨gg, 0, none⟩, N + 1, cap3, (k : Int), _, rfl, rfl, (W2 _ _ _ HNX.out).mono (by omega), by rw [List.map_append, HYS.out]; rfl⟩

end Go.Proofs.YtdjkgilohhjfoaaGreatDoor

