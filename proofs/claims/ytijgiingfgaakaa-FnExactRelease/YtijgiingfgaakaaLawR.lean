/-
  Tables: the walk of the law on Release.
-/
import Derived.Test.YtijgiingfgaakaaTabR6
import Derived.Test.YtijgiingfgaakaaTabL
namespace Go.Proofs.Ytijgiingfgaakaa
open Go.RowKit

/-- The law's own box. -/
structure LR (w W : World) (ao : Option Addr) (n c : Nat) : Prop where
  t : W.rowIs w.heap.size 24 1 (fun _ => .slice ao n c)
  b : Below w.heap.size w W

theorem LR.below {w W W' : World} {ao : Option Addr} {n c : Nat} (h : LR w W ao n c) (hb : Below W.heap.size W W') : LR w W' ao n c :=
  ⟨h.t.of_block (hb.block _ h.t.lt), h.b.trans (hb.mono h.b.size)⟩
theorem LR.span {w W W' : World} {ao : Option Addr} {n c : Nat} (h : LR w W ao n c) {l2 h2 : Nat} (hs : Span l2 h2 W W') (hl : w.heap.size < l2) : LR w W' ao n c :=
  ⟨h.t.of_block (hs.block _ h.t.lt (by omega)), hs.toBelow h.b (by omega) h.b.size⟩
theorem LR.cells {w W : World} {ao : Option Addr} {n c : Nat} (h : LR w W ao n c) : W.cell? ⟨w.heap.size, 0, none⟩ = some (.slice ao n c) := h.t.cell (i := 0) (by omega)

set_option maxRecDepth 100000 in
set_option maxHeartbeats 16000000 in
theorem l_Release (ao : Option Addr) (b o n c : Nat) (p : Nat → SP) (D : Nat → SD) (wk : Int) (w : World) (h1 : SlotsAt w ao b o n p D) :
    Calls Try.prog 3 #[.agg #[.slice ao n c], .int .i64 wk] w fun e w' => e = .returned (.bool true) ∧ Below w.heap.size w w' := by
  have HB : Hid (∀ w', Below w.heap.size w w' → SlotsAt w' ao b o n p D) := fun w' hb => h1.below hb
  clear h1
  have HX0 : Hid (LR w (w.alloc (.cells #[.slice ao n c] 24)) ao n c) := ⟨row1 w (.slice ao n c) 24, bel1 w _⟩
  go_enter Try.func3, Try.ntmps3
  go_wp2_with fail
  refine (c6 ao b o n c p D 1048576 _ (by omega) (by omega) (by exact HB.out _ (bel1 _ _))).mono ?_
  rintro e wA ⟨r, rfl, hr, hb1⟩
  have XA : Hid (LR w wA ao n c) := HX0.out.below hb1
  have t1 := XA.out.cells
  clear hb1 HX0
  by_cases h3 : r < 0
  · go_wp2
    go_ret
    exact ⟨rfl, XA.out.b⟩
  obtain ⟨hn, hS0⟩ := hr.ok (by omega)
  have HS : Hid (∀ i, i < n → small (D i)) := hS0
  have HG : Hid (∀ i, i < n → (D i).n ≤ 1048576) := fun i hi => (hS0 i hi).2.2.1
  clear hr hS0
  obtain ⟨n', hn'⟩ : ∃ n', n' = if okR n D wk then kc D wk n else 0 := ⟨_, rfl⟩
  obtain ⟨E, hE⟩ : ∃ E, E = relD n D wk := ⟨_, rfl⟩
  have hkn := kc_le D wk n
  have hn2 : n' ≤ 1048576 := by rw [hn']; split <;> omega
  have HF0 : Hid (∀ i, i < n → Fit (D i)) := fun i hi => ((HB.out w (Below.refl _ _)).slot i hi).fit
  have HFE : Hid (∀ i, i < n' → Fit (E i) ∧ small (E i)) := by
    have hle : n' ≤ kc D wk n := by rw [hn']; split <;> omega
    intro i hi
    rw [hE]
    have hk := kt_lt (n := n) (D := D) (wk := wk) (j := i) (by omega)
    have := good_rel (⟨(HB.out w (Below.refl _ _)).slot _ hk, HS.out _ hk⟩ : Good w (p (kt n D wk i)) (D (kt n D wk i))) wk
    exact ⟨this.at_.fit, this.sm⟩
  have HFF : Hid (∀ i, i < n' → Fit (E i)) := fun i hi => (HFE.out i hi).1
  have C10 : Hid (∀ V W, Below V.heap.size V W → Below w.heap.size w V → Calls Try.prog 10 #[.agg #[.slice ao n c]] W fun e w' => ∃ b' p', e = .returned (.agg #[.slice (some ⟨b', 0, none⟩) n n]) ∧ Hid (TabNew w' W.heap.size w'.heap.size (some ⟨b', 0, none⟩) b' n p' D) ∧ Hid (Below V.heap.size V w') ∧ Hid (Below W.heap.size W w')) := fun V W hW hV =>
    (u8 ao b o n c p D W (HB.out W (hV.trans (hW.mono hV.size))) hn HG.out).mono fun e w' ⟨b', p', he, hT, hb⟩ => ⟨b', p', he, hT, hW.trans (hb.mono hW.size), hb⟩
  have CS : Hid (∀ V W b' p' lo hi, Hid (TabNew V lo hi (some ⟨b', 0, none⟩) b' n p' D) → Below V.heap.size V W → Calls Try.prog 9 #[.agg #[.slice (some ⟨b', 0, none⟩) n n], .int .i64 wk] W fun e w' => ∃ ta tb tc tq, e = .returned (.agg #[.slice ta n' tc]) ∧ Hid (TabNew w' W.heap.size w'.heap.size ta tb n' tq E) ∧ Hid (Below V.heap.size V w') ∧ Hid (Below W.heap.size W w')) := fun V W b' p' lo hi hT hW => by
    rw [hn', hE]
    exact (s_Release _ b' 0 n n p' D wk W ((hT.out.below hW).slots HF0.out (by omega)) hn HS.out).mono fun e w' ⟨ta, tb, tc, tq, he, hT2, hb⟩ => ⟨ta, tb, tc, tq, he, hT2, hW.trans (hb.mono hW.size), hb⟩
  have CI : Hid (∀ V W b' p' lo hi, Hid (TabNew V lo hi (some ⟨b', 0, none⟩) b' n p' D) → Below V.heap.size V W → Calls Try.prog 11 #[.agg #[.slice (some ⟨b', 0, none⟩) n n], .int .i64 wk] W fun e w' => ∃ ta tb tc tq, e = .returned (.agg #[.slice ta n' tc]) ∧ Hid (TabNew w' W.heap.size w'.heap.size ta tb n' tq E) ∧ Hid (Below V.heap.size V w') ∧ Hid (Below W.heap.size W w')) := fun V W b' p' lo hi hT hW => by
    rw [hn', hE]
    exact (t_Release _ b' 0 n n p' D wk W ((hT.out.below hW).slots HF0.out (by omega)) HS.out).mono fun e w' ⟨ta, tb, tc, tq, he, hT2, hb⟩ => ⟨ta, tb, tc, tq, he, hT2, hW.trans (hb.mono hW.size), hb⟩
  clear hn' hE hkn
  go_wp2_with fail
  refine (C10.out wA _ (Below.refl _ _) XA.out.b).mono ?_
  rintro e w4 ⟨b4, p4, rfl, T4, J4, -⟩
  go_wp2_with fail
  refine (CS.out w4 _ b4 p4 _ _ T4 (Below.refl _ _)).mono ?_
  rintro e w6 ⟨ta1, tb1, tc1, tq1, rfl, T6, J6, -⟩
  have HC6 : Hid (Below wA.heap.size wA (w6.alloc (.cells #[.slice ta1 n' tc1] 28))) := (J4.out.trans (J6.out.mono J4.out.size)).alloc (by have := J4.out.size; have := J6.out.size; omega) _
  have V16 : Hid (∃ lo1 hi1, TV (w6.alloc (.cells #[.slice ta1 n' tc1] 28)) wA.heap.size (w6.alloc (.cells #[.slice ta1 n' tc1] 28)).heap.size w6.heap.size lo1 hi1 ta1 tb1 n' tc1 tq1 E) := ⟨_, _, tv_late (w0 := wA) T6.out J4.out.size (by have := J4.out.size; have := J6.out.size; omega)⟩
  clear t1
  have t1 : (w6.alloc (.cells #[.slice ta1 n' tc1] 28)).cell? ⟨w.heap.size, 0, none⟩ = some (.slice ao n c) := (XA.out.below HC6.out).cells
  obtain ⟨wc, hwc⟩ : ∃ wc, wc = (w6.alloc (.cells #[.slice ta1 n' tc1] 28)) := ⟨_, rfl⟩
  obtain ⟨x1, hx1⟩ : ∃ x1, x1 = w6.heap.size := ⟨_, rfl⟩
  have HC1 : Hid (Below wA.heap.size wA wc) := by rw [hwc]; exact HC6
  have HV1 : Hid (∃ lo1 hi1, TV wc wA.heap.size wc.heap.size x1 lo1 hi1 ta1 tb1 n' tc1 tq1 E) := by rw [hwc, hx1]; exact V16
  clear HC6 V16 T4 J4 T6 J6
  go_wp2_with fail
  rw [← hwc, ← hx1]
  clear t1 hwc hx1
  have XC : Hid (LR w wc ao n c) := XA.out.below HC1.out
  obtain ⟨lo1, hi1, V1'⟩ := HV1.out
  have V1 : Hid (TV wc wA.heap.size wc.heap.size x1 lo1 hi1 ta1 tb1 n' tc1 tq1 E) := V1'
  obtain ⟨top1, htop1⟩ : ∃ top1, top1 = wc.heap.size := ⟨_, rfl⟩
  have htA : w.heap.size < wA.heap.size := XA.out.t.lt
  have htC := HC1.out.size
  rw [← htop1] at V1
  clear V1' HV1 HC1
  refine (C10.out wc _ (Below.refl _ _) XC.out.b).mono ?_
  rintro e w7 ⟨b7, p7, rfl, T7, J7, -⟩
  have z7 : (w7.alloc (.cells #[.slice (some ⟨b7, 0, none⟩) n n] 28)).cell? ⟨w7.heap.size, 0, none⟩ = some (.slice (some ⟨b7, 0, none⟩) n n) := (row1 w7 (.slice (some ⟨b7, 0, none⟩) n n) 28).cell (i := 0) (by omega)
  obtain ⟨wB, hwB⟩ : ∃ wB, wB = (w7.alloc (.cells #[.slice (some ⟨b7, 0, none⟩) n n] 28)) := ⟨_, rfl⟩
  obtain ⟨x2, hx2⟩ : ∃ x2, x2 = w7.heap.size := ⟨_, rfl⟩
  have JB : Hid (Below wc.heap.size wc wB) := by rw [hwB]; exact J7.out.alloc J7.out.size _
  have V2 : Hid (∃ lo2 hi2, TV wB wc.heap.size wB.heap.size x2 lo2 hi2 (some ⟨b7, 0, none⟩) b7 n n p7 D) := by
    rw [hwB, hx2]; exact ⟨_, _, tv_late (w0 := wc) T7.out (Nat.le_refl _) J7.out.size⟩
  have XB : Hid (LR w wB ao n c) := XC.out.below JB.out
  obtain ⟨lo2, hi2, V2'⟩ := V2.out
  have V2 : Hid (TV wB wc.heap.size wB.heap.size x2 lo2 hi2 (some ⟨b7, 0, none⟩) b7 n n p7 D) := V2'
  have TX : Hid (TabNew wB lo2 hi2 (some ⟨b7, 0, none⟩) b7 n p7 D) := V2'.tab
  have V1B : Hid (TV wB wA.heap.size top1 x1 lo1 hi1 ta1 tb1 n' tc1 tq1 E) := V1.out.below JB.out
  have htB := JB.out.size
  clear V2' T7 J7 V1
  go_wp2_with fail
  rw [← hwB, ← hx2]
  clear hwB hx2 z7
  obtain ⟨wD, hwD⟩ : ∃ wD, wD = wc := ⟨_, rfl⟩
  rw [← hwD] at V2 JB XC htC htB
  have htop1' : top1 = wD.heap.size := by rw [htop1, hwD]
  clear htop1 hwD
  refine (CI.out wB _ b7 p7 _ _ TX (Below.refl _ _)).mono ?_
  rintro e w9 ⟨ta3, tb3, tc3, tq3, rfl, T9, J9, -⟩
  have HC9 : Hid (Below wB.heap.size wB (w9.alloc (.cells #[.slice ta3 n' tc3] 28))) := J9.out.alloc J9.out.size _
  have z3 : (w9.alloc (.cells #[.slice ta3 n' tc3] 28)).cell? ⟨w9.heap.size, 0, none⟩ = some (.slice ta3 n' tc3) := (row1 w9 (.slice ta3 n' tc3) 28).cell (i := 0) (by omega)
  have z1 : (w9.alloc (.cells #[.slice ta3 n' tc3] 28)).cell? ⟨x1, 0, none⟩ = some (.slice ta1 n' tc1) := (V1B.out.below HC9.out).row.cell (i := 0) (by omega)
  have V39 : Hid (∃ lo3 hi3, TV (w9.alloc (.cells #[.slice ta3 n' tc3] 28)) wB.heap.size (w9.alloc (.cells #[.slice ta3 n' tc3] 28)).heap.size w9.heap.size lo3 hi3 ta3 tb3 n' tc3 tq3 E) := ⟨_, _, tv_late (w0 := wB) T9.out (Nat.le_refl _) J9.out.size⟩
  obtain ⟨we, hwe⟩ : ∃ we, we = (w9.alloc (.cells #[.slice ta3 n' tc3] 28)) := ⟨_, rfl⟩
  obtain ⟨x3, hx3⟩ : ∃ x3, x3 = w9.heap.size := ⟨_, rfl⟩
  have HC3 : Hid (Below wB.heap.size wB we) := by rw [hwe]; exact HC9
  have HV3 : Hid (∃ lo3 hi3, TV we wB.heap.size we.heap.size x3 lo3 hi3 ta3 tb3 n' tc3 tq3 E) := by rw [hwe, hx3]; exact V39
  clear HC9 V39 T9 J9
  go_wp2_with fail
  rw [← hwe]
  try rw [← hx3]
  clear z1 z3 hwe
  have XE : Hid (LR w we ao n c) := XB.out.below HC3.out
  obtain ⟨lo3, hi3, V3'⟩ := HV3.out
  have V3 : Hid (TV we wB.heap.size we.heap.size x3 lo3 hi3 ta3 tb3 n' tc3 tq3 E) := V3'
  have V2E : Hid (TV we wD.heap.size wB.heap.size x2 lo2 hi2 (some ⟨b7, 0, none⟩) b7 n n p7 D) := V2.out.below HC3.out
  have V1E : Hid (TV we wA.heap.size top1 x1 lo1 hi1 ta1 tb1 n' tc1 tq1 E) := V1B.out.below HC3.out
  obtain ⟨top3, htop3⟩ : ∃ top3, top3 = we.heap.size := ⟨_, rfl⟩
  have htE := HC3.out.size
  rw [← htop3] at V3
  clear V3' HV3 HC3 TX V2 V1B XB JB hx3
  have z3 := V3.out.row.cell (i := 0) (by omega)
  have z1 := V1E.out.row.cell (i := 0) (by omega)
  refine (t_eqTable ta3 ta1 tb3 tc3 tb1 tc1 n' lo3 hi3 lo1 hi1 tq3 tq1 E _ V3.out.tab V1E.out.tab HFF.out (by omega)).mono ?_
  rintro e wF ⟨rfl, hbF⟩
  have XF : Hid (LR w wF ao n c) := XE.out.below hbF
  have V1F : Hid (TV wF wA.heap.size top1 x1 lo1 hi1 ta1 tb1 n' tc1 tq1 E) := V1E.out.below hbF
  have V2F : Hid (TV wF wD.heap.size wB.heap.size x2 lo2 hi2 (some ⟨b7, 0, none⟩) b7 n n p7 D) := V2E.out.below hbF
  have V3F : Hid (TV wF wB.heap.size top3 x3 lo3 hi3 ta3 tb3 n' tc3 tq3 E) := V3.out.below hbF
  clear hbF z1 z3 XE V1E V2E V3
  have t1 := XF.out.cells
  have z2 := V2F.out.row.cell (i := 0) (by omega)
  go_wp2_with fail
  have CTF : Hid (∀ W, Below wF.heap.size wF W → Calls Try.prog 10 #[.agg #[.slice ao n c]] W fun e w' => ∃ b' p', e = .returned (.agg #[.slice (some ⟨b', 0, none⟩) n n]) ∧ Hid (TabNew w' W.heap.size w'.heap.size (some ⟨b', 0, none⟩) b' n p' D) ∧ Hid (Below wF.heap.size wF w')) := fun W hW => (C10.out wF W hW XF.out.b).mono fun e w' ⟨b', p', he, hT, hb, _⟩ => ⟨b', p', he, hT, hb⟩
  have CEF : Hid (∀ W b' p' lo hi, Hid (TabNew W lo hi (some ⟨b', 0, none⟩) b' n p' D) → Hid (Below wF.heap.size wF W) → Calls Try.prog 12 #[.agg #[.slice (some ⟨b7, 0, none⟩) n n], .agg #[.slice (some ⟨b', 0, none⟩) n n]] W fun e w' => e = .returned (.bool true) ∧ Hid (Below wF.heap.size wF w')) := fun W b' p' lo hi hT hW => (t_eqTable (some ⟨b7, 0, none⟩) (some ⟨b', 0, none⟩) b7 n b' n n lo2 hi2 lo hi p7 p' D W (V2F.out.below hW.out).tab hT.out HF0.out (by omega)).mono fun e w' ⟨he, hb⟩ => ⟨he, hW.out.trans (hb.mono hW.out.size)⟩
  have HZ : Hid (∀ W, Below wF.heap.size wF W → W.cell? ⟨x2, 0, none⟩ = some (.slice (some ⟨b7, 0, none⟩) n n) ∧ W.cell? ⟨w.heap.size, 0, none⟩ = some (.slice ao n c)) := fun W hW => ⟨(V2F.out.below hW).row.cell (i := 0) (by omega), (XF.out.below hW).cells⟩
  go_region_held3 (fun w' => w'.cell? ⟨x2, 0, none⟩ = some (.slice (some ⟨b7, 0, none⟩) n n) ∧ w'.cell? ⟨w.heap.size, 0, none⟩ = some (.slice ao n c)) (go_keep)
    (first
      | (go_at_call 10; (with_reducible refine (CTF.out _ (Below.refl _ _).drew).mono ?_); rintro e wG ⟨bG, pG, rfl, TG, HG1⟩; obtain ⟨y0, y1⟩ := HZ.out wG HG1.out)
      | (go_at_call 12; (with_reducible refine (CEF.out _ bG pG _ _ TG HG1).mono ?_); rintro e wH ⟨rfl, HH1⟩; obtain ⟨y2, y3⟩ := HZ.out wH HH1.out))
  have XH : Hid (LR w wH ao n c) := XF.out.below HH1.out
  have V1H : Hid (TV wH wA.heap.size top1 x1 lo1 hi1 ta1 tb1 n' tc1 tq1 E) := V1F.out.below HH1.out
  have V2H : Hid (TV wH wD.heap.size wB.heap.size x2 lo2 hi2 (some ⟨b7, 0, none⟩) b7 n n p7 D) := V2F.out.below HH1.out
  have V3H : Hid (TV wH wB.heap.size top3 x3 lo3 hi3 ta3 tb3 n' tc3 tq3 E) := V3F.out.below HH1.out
  clear y0 y1 y2 y3 t1 z2 HZ CTF CEF TG HG1 HH1 XF V1F V2F V3F
  have z2 := V2H.out.row.cell (i := 0) (by omega)
  go_wp2_with fail
  refine (t_markTable lo2 hi2 _ b7 n n p7 D 1 _ V2H.out.tab (by omega) (by omega) hn HG.out).mono ?_
  rintro e wI ⟨rfl, -, SI⟩
  have hl2 := V2H.out.l1
  have hh2 := V2H.out.h1
  have hl3 := V3H.out.l1
  have hh3 := V3H.out.h1
  have XI : Hid (LR w wI ao n c) := XH.out.span SI (by omega)
  have V1I : Hid (TV wI wA.heap.size top1 x1 lo1 hi1 ta1 tb1 n' tc1 tq1 E) := V1H.out.span SI (Or.inl (by omega))
  have V3I : Hid (TV wI wB.heap.size top3 x3 lo3 hi3 ta3 tb3 n' tc3 tq3 E) := V3H.out.span SI (Or.inr (by omega))
  clear SI XH V1H V2H V3H z2
  have z3 := V3I.out.row.cell (i := 0) (by omega)
  have z1 := V1I.out.row.cell (i := 0) (by omega)
  obtain ⟨q1, hq1⟩ : ∃ q : Nat, q = cnt 1 D n := ⟨_, rfl⟩
  rw [← hq1]
  have hq1n : ¬ (q1 : Int) < 0 := by omega
  clear hq1
  go_wp2_with fail
  refine (t_eqTable ta3 ta1 tb3 tc3 tb1 tc1 n' lo3 hi3 lo1 hi1 tq3 tq1 E _ V3I.out.tab V1I.out.tab HFF.out (by omega)).mono ?_
  rintro e wJ ⟨rfl, hbJ⟩
  have XJ : Hid (LR w wJ ao n c) := XI.out.below hbJ
  have V1J : Hid (TV wJ wA.heap.size top1 x1 lo1 hi1 ta1 tb1 n' tc1 tq1 E) := V1I.out.below hbJ
  have V3J : Hid (TV wJ wB.heap.size top3 x3 lo3 hi3 ta3 tb3 n' tc3 tq3 E) := V3I.out.below hbJ
  clear hbJ XI V1I V3I z1 z3
  have z3 := V3J.out.row.cell (i := 0) (by omega)
  have HGE : Hid (∀ i, i < n' → (E i).n ≤ 1048576) := fun i hi => (HFE.out i hi).2.2.2.1
  go_wp2_with fail
  refine (t_markTable lo3 hi3 ta3 tb3 n' tc3 tq3 E 1 _ V3J.out.tab (by omega) (by omega) hn2 HGE.out).mono ?_
  rintro e wK ⟨rfl, TK, SK⟩
  have XK : Hid (LR w wK ao n c) := XJ.out.span SK (by omega)
  have V1K : Hid (TV wK wA.heap.size top1 x1 lo1 hi1 ta1 tb1 n' tc1 tq1 E) := V1J.out.span SK (Or.inl (by omega))
  have V3K : Hid (TV wK wB.heap.size top3 x3 lo3 hi3 ta3 tb3 n' tc3 tq3 (MD 1 E)) := V3J.out.own SK TK
  clear SK TK XJ V1J V3J z3
  have z3 := V3K.out.row.cell (i := 0) (by omega)
  obtain ⟨q2, hq2⟩ : ∃ q : Nat, q = cnt 1 E n' := ⟨_, rfl⟩
  rw [← hq2]
  go_wp2_with fail
  refine (t_heldTable lo3 hi3 ta3 tb3 n' tc3 tq3 E 1 _ V3K.out.tab (by omega) (by omega) hn2 HGE.out).mono ?_
  rintro e wL ⟨rfl, hbL⟩
  rw [← hq2]
  have hq2n : ¬ (q2 : Int) < 0 := by omega
  have XL : Hid (LR w wL ao n c) := XK.out.below hbL
  have V1L : Hid (TV wL wA.heap.size top1 x1 lo1 hi1 ta1 tb1 n' tc1 tq1 E) := V1K.out.below hbL
  clear hbL XK V1K V3K z3 hq2
  have t1 := XL.out.cells
  go_wp2_with fail
  refine (C10.out wL _ (Below.refl _ _) XL.out.b).mono ?_
  rintro e wM ⟨bM, pM, rfl, TM, JM, -⟩
  go_wp2_with fail
  refine (CI.out wM _ bM pM _ _ TM (Below.refl _ _)).mono ?_
  rintro e wN ⟨ta4, tb4, tc4, tq4, rfl, TN, JN, -⟩
  have HCN : Hid (Below wL.heap.size wL (wN.alloc (.cells #[.slice ta4 n' tc4] 28))) := (JM.out.trans (JN.out.mono JM.out.size)).alloc (by have := JM.out.size; have := JN.out.size; omega) _
  have V1P : Hid (TV (wN.alloc (.cells #[.slice ta4 n' tc4] 28)) wA.heap.size top1 x1 lo1 hi1 ta1 tb1 n' tc1 tq1 E) := V1L.out.below HCN.out
  have XP : Hid (LR w (wN.alloc (.cells #[.slice ta4 n' tc4] 28)) ao n c) := XL.out.below HCN.out
  have TP : Hid (TabNew (wN.alloc (.cells #[.slice ta4 n' tc4] 28)) wM.heap.size wN.heap.size ta4 tb4 n' tq4 E) := TN.out.below (bel1 _ _)
  have z4 : (wN.alloc (.cells #[.slice ta4 n' tc4] 28)).cell? ⟨wN.heap.size, 0, none⟩ = some (.slice ta4 n' tc4) := (row1 wN (.slice ta4 n' tc4) 28).cell (i := 0) (by omega)
  have z1 := V1P.out.row.cell (i := 0) (by omega)
  clear t1
  go_wp2_with fail
  refine (t_eqTable ta4 ta1 tb4 tc4 tb1 tc1 n' _ _ lo1 hi1 tq4 tq1 E _ TP.out V1P.out.tab HFF.out (by omega)).mono ?_
  rintro e wQ ⟨rfl, hbQ⟩
  have XQ : Hid (Below w.heap.size w wQ) := (XP.out.below hbQ).b
  clear hbQ
  go_wp2
  go_ret
  exact ⟨rfl, XQ.out⟩

end Go.Proofs.Ytijgiingfgaakaa
