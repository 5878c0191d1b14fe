/-
  The model's types, whole.
-/
import Derived.Test.YtdjkgilohhjfoaaGreatDoorPgK
namespace Go.Proofs.YtdjkgilohhjfoaaGreatDoor
open Go.RowKit

theorem own_len {w : World} {B n m k cp : Nat} {a : Option Addr} {xs : List Value} {t : TypeId} (h : w.ownsRow B t k (.slice a n cp) m xs) : n = m := by
  rcases h.2 with ⟨e, z⟩ | ⟨g, cap, cur, e, _⟩
  · simp only [Value.slice.injEq] at e; omega
  · simp only [Value.slice.injEq] at e; omega

theorem grown_undrew {w w' : World} {o : Obj} {r : Option Nat} (h : ((w.alloc o).drew).grownBy w' r) : (w.alloc o).grownBy w' r := ⟨h.os, h.tape, h.output, h.size, h.block⟩

/-- l2Base, whole. -/
theorem m_base {tb o c : Nat} {ao : Option Addr} {ts : List TK} {f : Nat} (IH : MTC tb o ts f) (w : World) (h : MS w tb o ao ts) {i : Nat} (hf : ts.length - i < f + 1) (hi9 : i ≤ 1100) :
    Calls Tryz.prog 71 #[.slice ao ts.length c, .int .i64 (i : Int)] w (MTR w (baseP false ts (tyP false ts f) i)) := by
  cases hc : isC ts i 1 with
  | true =>
    cases p1 : isT ts (i + 1) sColon with
    | false => exact mb_name0 w h hi9 hc p1
    | true =>
      cases p2 : isC ts (i + 2) 1 with
      | false => exact mb_name1 w h hi9 hc p1 p2
      | true => exact mb_path w h hi9 hc p1 p2
  | false =>
    cases q0 : isT ts i sInt with
    | true => exact mb_int w h hi9 hc q0
    | false =>
      cases q1 : isT ts i sBool with
      | true => exact mb_bool w h hi9 hc q0 q1
      | false =>
        cases q2 : isT ts i sAny with
        | true => exact mb_any w h hi9 hc q0 q1 q2
        | false =>
          cases q3 : isT ts i sLeft with
          | true => exact mb_brk IH w h hf q3
          | false =>
            cases q4 : isT ts i sOpen with
            | true => exact mb_recT IH w h hf q4
            | false => exact mb_none w h hi9 hc q0 q1 q2 q3 q4

set_option maxRecDepth 100000 in
set_option maxHeartbeats 4000000 in
theorem m_typeS {tb o : Nat} {ts : List TK} {f : Nat} (IH : MTC tb o ts f) : MTC tb o ts (f + 1) := by
  intro w ao c a i h ha hf hi9
  subst ha
  obtain ⟨i0, hi0, hz0, hz1, hz2⟩ := info_parts Tryz.infoTI
  have hln := h.tk.len
  have HMW : Hid (∀ W, Below w.heap.size w W → MS W tb o ao ts) := fun W hb => h.below hb
  have C1 : Hid (Calls Tryz.prog 71 #[.slice ao ts.length c, .int .i64 (i : Int)] (bxT w) (MTR (bxT w) (baseP false ts (tyP false ts f) i))) := m_base IH (bxT w) (h.below (bel1 _ _)) hf hi9
  have HIH : Hid (MTC tb o ts f) := IH
  have HFB : Hid (Far ts.length (baseP false ts (tyP false ts f))) := base_far (ty_far f)
  have HFT : Hid (Far ts.length (tyP false ts f)) := ty_far f
  have HR0 : Hid (tyP false ts (f + 1) i = match baseP false ts (tyP false ts f) i with
    | none => none
    | some (l, j) => if isT ts j sArrow then (match tyP false ts f (j + 1) with | none => none | some (r, k) => some (l ++ r ++ [tyO 6], k)) else some (l, j)) := by
    show _ = _
    rw [tyP]
    cases baseP false ts (tyP false ts f) i with
    | none => rfl
    | some z => rfl
  clear h IH
  go_enter Tryz.func63, Tryz.ntmps63
  go_wp2_with fail
  refine C1.out.mono ?_
  rintro e w2 ⟨hb2, hr⟩
  have HX2 : Hid (w2.rowIs w.heap.size 108 2 (v2 (.slice none 0 0) (.int .i64 0))) := (row2 w (.slice none 0 0) (.int .i64 0) 108).of_block (hb2.block _ (by simp))
  have HB2 : Hid (Below w.heap.size w w2) := (bel1 _ _).trans (hb2.mono (by simp))
  have hws := HB2.out.size
  have hxl2 := HX2.out.lt
  cases hb : baseP false ts (tyP false ts f) i with
  | none =>
    rw [hb] at hr
    obtain ⟨va, n, c', rfl⟩ := hr
    have HR : Hid (tyP false ts (f + 1) i = none) := by show _ = _; rw [HR0.out, hb]
    clear hb hb2
    have R7 := HX2.out.alloc (.cells #[Value.slice va n c', .int .i64 (-1)] 108)
    have x0' := R7.cell (i := 0) (by omega)
    have x1' := R7.cell (i := 1) (by omega)
    have y0' := R7.frozen 0
    have y1' := R7.frozen 1
    have R8 := (HX2.out.set 0 (Value.slice va n c')).alloc (.cells #[Value.slice va n c', .int .i64 (-1)] 108)
    have x0'' := R8.cell (i := 0) (by omega)
    have x1'' := R8.cell (i := 1) (by omega)
    have y0'' := R8.frozen 0
    have y1'' := R8.frozen 1
    have R9 := ((HX2.out.set 0 (Value.slice va n c')).set 1 (.int .i64 (-1))).alloc (.cells #[Value.slice va n c', .int .i64 (-1)] 108)
    have xlt6 := HX2.out.lt
    clear R7 R8
    go_wp2
    refine bodyPost_ret (ret_ty (k := 4) rfl (R9.cell (i := 0) (by omega)) (R9.cell (i := 1) (by omega)) _ rfl) rfl ?_
    rw [HR.out]
    exact ⟨(below_box HB2.out _ _).alloc (below_box HB2.out _ _).size _, va, n, c', rfl⟩
  | some z =>
    obtain ⟨l, j⟩ := z
    rw [hb] at hr
    obtain ⟨va, n, c', k, zs, rfl, rfl, hrt, hzs⟩ := hr
    obtain ⟨far1, far2, far3⟩ := HFB.out _ _ _ hb
    have en := own_len hrt.own
    have hzb : zs.length ≤ 1000 := by
      have hzl : zs.length = l.length := by rw [← hzs, List.length_map]
      omega
    subst en
    have hj0 : ¬ (j : Int) < 0 := by omega
    have HM2 : Hid (MS (w2.alloc (.cells #[.slice va zs.length c', .int .i64 (j : Int)] 108)) tb o ao ts) := HMW.out _ (HB2.out.alloc hws _)
    have HRT : Hid (RT (w.heap.size + 1) w2 (.slice va zs.length c') zs) := hrt.mono (by simp)
    cases ha : isT ts j sArrow with
    | false =>
      have HR : Hid (tyP false ts (f + 1) i = some (l, j)) := by show _ = _; rw [HR0.out, hb]; show (if isT ts j sArrow = true then _ else some (l, j)) = _; rw [ha]; rfl
      clear hb hb2 hrt
      go_wp2_with fail
      refine (m_isb HM2.out (i := j) (rfl) (l := sArrow) ha rfl (by decide)).mono ?_
      rintro e w' ⟨rfl, rfl⟩
      have R7 := HX2.out.alloc (.cells #[Value.slice va zs.length c', .int .i64 (j : Int)] 108)
      have x0' := R7.cell (i := 0) (by omega)
      have x1' := R7.cell (i := 1) (by omega)
      have y0' := R7.frozen 0
      have y1' := R7.frozen 1
      have R8 := (HX2.out.set 0 (Value.slice va zs.length c')).alloc (.cells #[Value.slice va zs.length c', .int .i64 (j : Int)] 108)
      have x0'' := R8.cell (i := 0) (by omega)
      have x1'' := R8.cell (i := 1) (by omega)
      have y0'' := R8.frozen 0
      have y1'' := R8.frozen 1
      have R9 := ((HX2.out.set 0 (Value.slice va zs.length c')).set 1 (.int .i64 (j : Int))).alloc (.cells #[Value.slice va zs.length c', .int .i64 (j : Int)] 108)
      have xlt6 := HX2.out.lt
      clear R7 R8
      go_wp2
      refine bodyPost_ret (ret_ty (k := 4) rfl (R9.cell (i := 0) (by omega)) (R9.cell (i := 1) (by omega)) _ rfl) rfl ?_
      rw [HR.out]
      obtain ⟨W1, W2⟩ := box_ty HB2.out HX2.out (.slice va zs.length c') (.int .i64 (j : Int))
      exact ⟨W1.alloc W1.size _, va, zs.length, c', (j : Int), zs, rfl, rfl, ((W2 _ _ _ HRT.out).below (bel1 _ _)).mono (by omega), hzs⟩
    | true =>
      have C2 : Hid (Calls Tryz.prog 63 #[.slice ao ts.length c, .int .i64 ((j : Int) + 1)] (w2.alloc (.cells #[.slice va zs.length c', .int .i64 (j : Int)] 108)) (MTR (w2.alloc (.cells #[.slice va zs.length c', .int .i64 (j : Int)] 108)) (tyP false ts f (j + 1)))) := HIH.out _ _ _ _ _ HM2.out (by omega) (by have := isT_lt ha; omega) (by omega)
      go_wp2_with fail
      refine (m_isb HM2.out (i := j) (rfl) (l := sArrow) ha rfl (by decide)).mono ?_
      rintro e w' ⟨rfl, rfl⟩
      go_wp2_with fail
      refine C2.out.mono ?_
      rintro e w4 ⟨hb4, hr4⟩
      have L4 := row2 w2 (.slice va zs.length c') (.int .i64 (j : Int)) 108
      have l0 : w4.cell? ⟨w2.heap.size, 0, none⟩ = some (.slice va zs.length c') := (L4.of_block (hb4.block _ L4.lt)).cell (i := 0) (by omega)
      have l1 : w4.cell? ⟨w2.heap.size, 1, none⟩ = some (.int .i64 (j : Int)) := (L4.of_block (hb4.block _ L4.lt)).cell (i := 1) (by omega)
      have HB4 : Hid (Below w.heap.size w w4) := (HB2.out.alloc hws _).trans (hb4.mono (by simp; omega))
      have X3 := HX2.out.alloc (.cells #[.slice va zs.length c', .int .i64 (j : Int)] 108)
      have HX4 : Hid (w4.rowIs w.heap.size 108 2 (v2 (.slice none 0 0) (.int .i64 0))) := X3.of_block (hb4.block _ X3.lt)
      have HI4 : Hid (RT (w.heap.size + 1) w4 (.slice va zs.length c') zs) := (HRT.out.below (bel1 _ _)).below hb4
      have hws4 := HB4.out.size
      have hwl4 : w2.heap.size + 1 ≤ w4.heap.size := by have := hb4.size; simp at this; omega
      clear L4 X3
      cases ht : tyP false ts f (j + 1) with
      | none =>
        rw [ht] at hr4
        obtain ⟨va', n', c'', rfl⟩ := hr4
        have HR : Hid (tyP false ts (f + 1) i = none) := by show _ = _; rw [HR0.out, hb]; show (if isT ts j sArrow = true then _ else some (l, j)) = _; rw [ha, ht]; rfl
        clear hb hb2 hb4 hrt ht
        have R7 := HX4.out.alloc (.cells #[Value.slice va' n' c'', .int .i64 (-1)] 108)
        have x0' := R7.cell (i := 0) (by omega)
        have x1' := R7.cell (i := 1) (by omega)
        have y0' := R7.frozen 0
        have y1' := R7.frozen 1
        have R8 := (HX4.out.set 0 (Value.slice va' n' c'')).alloc (.cells #[Value.slice va' n' c'', .int .i64 (-1)] 108)
        have x0'' := R8.cell (i := 0) (by omega)
        have x1'' := R8.cell (i := 1) (by omega)
        have y0'' := R8.frozen 0
        have y1'' := R8.frozen 1
        have R9 := ((HX4.out.set 0 (Value.slice va' n' c'')).set 1 (.int .i64 (-1))).alloc (.cells #[Value.slice va' n' c'', .int .i64 (-1)] 108)
        have xlt6 := HX4.out.lt
        clear R7 R8
        go_wp2
        refine bodyPost_ret (ret_ty (k := 4) rfl (R9.cell (i := 0) (by omega)) (R9.cell (i := 1) (by omega)) _ rfl) rfl ?_
        rw [HR.out]
        exact ⟨(below_box HB4.out _ _).alloc (below_box HB4.out _ _).size _, va', n', c'', rfl⟩
      | some z =>
        obtain ⟨l2, k⟩ := z
        rw [ht] at hr4
        obtain ⟨va', n', c'', k', ys, rfl, rfl, hrt4, hys⟩ := hr4
        obtain ⟨far4, far5, far6⟩ := HFT.out _ _ _ ht
        have hyb : ys.length ≤ 1000 := by
          have hyl : ys.length = l2.length := by rw [← hys, List.length_map]
          omega
        have hk0 : ¬ (k : Int) < 0 := by omega
        have HR : Hid (tyP false ts (f + 1) i = some (l ++ l2 ++ [tyO 6], k)) := by show _ = _; rw [HR0.out, hb]; show (if isT ts j sArrow = true then _ else some (l, j)) = _; rw [ha, ht]; rfl
        have B5 := bel1 w4 (.cells #[.slice va' n' c'', .int .i64 (k : Int)] 108)
        have l0' := (B5.cell (p := ⟨w2.heap.size, 0, none⟩) (World.block_lt_of_cell? _ _ l0)).trans l0
        have CJ : Hid (Calls Tryz.prog 72 #[.slice va zs.length c', .slice va' n' c''] (w4.alloc (.cells #[.slice va' n' c'', .int .i64 (k : Int)] 108)) fun e w' => (∃ va n c, e = .returned (.slice va n c) ∧ Hid (RT (w.heap.size + 1) w' (.slice va n c) (zs ++ ys))) ∧ Hid (Below (w4.alloc (.cells #[.slice va' n' c'', .int .i64 (k : Int)] 108)).heap.size (w4.alloc (.cells #[.slice va' n' c'', .int .i64 (k : Int)] 108)) w')) :=
          m_joinT _ (HI4.out.below B5) ((hrt4.mono (by simp; omega)).below B5) (by omega) (by simp; omega)
        have RR := row2 w4 (.slice va' n' c'') (.int .i64 (k : Int)) 108
        have HMP : Hid ((zs ++ ys).map Prod.fst = l ++ l2) := by show _ = _; rw [List.map_append, hzs, hys]
        clear hb hb2 hb4 hrt hrt4 ht
        go_wp2_with fail
        refine CJ.out.mono ?_
        rintro e w8 ⟨⟨va8, n8, c8, rfl, H8⟩, hb8⟩
        have en := own_len H8.out.own
        subst en
        have hlen : (zs ++ ys).length = zs.length + ys.length := List.length_append
        obtain ⟨N, hN⟩ : ∃ N, N = (zs ++ ys).length := ⟨_, rfl⟩
        have HN : Hid (N = (zs ++ ys).length) := hN
        have hNb : N ≤ 2000 := by omega
        have HO : Hid (RT (w.heap.size + 1) w8 (.slice va8 N c8) (zs ++ ys)) := by rw [hN]; exact H8.out
        have HOW : Hid (w8.ownsRow (w.heap.size + 1) 120 4 (.slice va8 N c8) N (tisC (zs ++ ys))) := by have := HO.out.own; rw [← hN] at this; exact this
        rw [← hN]
        have k1 : w8.cell? ⟨w4.heap.size, 1, none⟩ = some (.int .i64 (k : Int)) := (RR.of_block (hb8.out.block _ RR.lt)).cell (i := 1) (by omega)
        have X5 := HX4.out.alloc (.cells #[.slice va' n' c'', .int .i64 (k : Int)] 108)
        have HX8 : Hid (w8.rowIs w.heap.size 108 2 (v2 (.slice none 0 0) (.int .i64 0))) := X5.of_block (hb8.out.block _ X5.lt)
        have HB8 : Hid (Below w.heap.size w w8) := (HB4.out.alloc hws4 _).trans (hb8.out.mono (by simp; omega))
        have hws8 : w4.heap.size + 1 ≤ w8.heap.size := by have := hb8.out.size; simp at this; omega
        have hne1 : w.heap.size ≠ w4.heap.size := by omega
        have HK8 : Hid (∀ o : Obj, ((w8.alloc o).drew).cell? ⟨w4.heap.size, 1, none⟩ = some (.int .i64 (k : Int))) := fun o => (bel1 w8 o).cell (p := ⟨w4.heap.size, 1, none⟩) (World.block_lt_of_cell? _ _ k1) |>.trans k1
        have HSR : Hid (∀ b, (Value.slice va8 N c8).ownBlock = some b → b ≠ w4.heap.size) := fun b e z => by
          subst z
          exact own_box HOW.out ((RR.of_block (hb8.out.block _ RR.lt))) (by decide) e
        clear hN CJ RR X5 hb8 H8 l0 l0' l1 hlen
        go_wp2
        go_region_held3 (fun w' => w'.cell? ⟨w4.heap.size, 1, none⟩ = some (.int .i64 (k : Int))) (go_keep) ((refine step_append_lies _ (by rfl) _ _ _ (by rfl) (w.heap.size + 1) 120 i0 _ 4 64 Tryz.underlying55 hi0 hz0 hz1 hz2 rfl (by omega) (.slice va8 N c8) N (tisC (zs ++ ys)) (by rfl) ((HOW.out.alloc _).drew) ⟨w8.heap.size, 0, none⟩ 1 1 [.int .i64 6, .string ⟨#[]⟩, .string ⟨#[]⟩, .slice none 0 0] (by rfl) (by rfl) (World.news_of_block (cs := #[.int .i64 6, .string ⟨#[]⟩, .string ⟨#[]⟩, .slice none 0 0]) (t := 120) (fr := (0, 0)) (heap_alloc_new w8 _)) (by simp [Value.oneCell']) (by omega) (by unfold maxLen; omega) (by omega) (by simp; omega) (w8.heap.size + 1) (by simp) ?_; intro gg cap3 w9 hown3 hg3 hat3 hlt3; have f1 : w9.cell? ⟨w4.heap.size, 1, none⟩ = some (.int .i64 (k : Int)) := (hg3.cell_far ⟨w4.heap.size, 1, none⟩ (by simp; omega) (fun e => HSR.out _ e.symm rfl)).trans (HK8.out _); have X9 : w9.rowIs w.heap.size 108 2 (v2 (.slice none 0 0) (.int .i64 0)) := (HX8.out.alloc _).of_block (hg3.block _ (by simp; omega) (fun e => by have := (HOW.out.lt _ e.symm).1; omega)); have d0 := X9.cell (i := 0) (by omega); have d1 := X9.cell (i := 1) (by omega); have z0 := X9.frozen 0; have z1 := X9.frozen 1))
        go_wp2
        have hg := grown_undrew hg3
        have NX := HO.out.push (x := (tyO 6, (⟨none, 0, 0⟩ : NPl))) (by rw [← HN.out]; exact hown3) hg (NmOK.nil _ _ _)
        rw [← HN.out] at NX
        have B9 := below_grown HB8.out hg (fun b e => by have := (HOW.out.lt b e).1; omega)
        obtain ⟨W1, W2⟩ := box_ty B9 X9 (.slice (some ⟨gg, 0, none⟩) (N + 1) cap3) (.int .i64 (k : Int))
        have RX := (X9.set 0 (.slice (some ⟨gg, 0, none⟩) (N + 1) cap3)).set 1 (.int .i64 (k : Int))
        refine bodyPost_ret (ret_ty (k := 4) rfl (RX.cell (i := 0) (by omega)) (RX.cell (i := 1) (by omega)) _ rfl) rfl ?_
        rw [HR.out]
        exact ⟨W1, some ⟨gg, 0, none⟩, N + 1, cap3, (k : Int), (zs ++ ys) ++ [(tyO 6, (⟨none, 0, 0⟩ : NPl))], rfl, rfl, (W2 _ _ _ NX).mono (by omega), by rw [List.map_append, HMP.out]; rfl⟩

/-- The model's types, of every fuel. -/
theorem m_type {tb o : Nat} {ts : List TK} : ∀ f, MTC tb o ts f
  | 0 => fun _ _ _ _ _ _ _ hf => absurd hf (Nat.not_lt_zero _)
  | f + 1 => m_typeS (m_type f)

end Go.Proofs.YtdjkgilohhjfoaaGreatDoor
