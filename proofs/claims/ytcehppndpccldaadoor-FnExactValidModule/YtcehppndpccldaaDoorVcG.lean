/-
  The model prints expressions: functions, if.
-/
import Derived.Test.YtcehppndpccldaaDoorVcE
namespace Go.Proofs.YtcehppndpccldaaDoor
open Go.RowKit

set_option maxRecDepth 100000 in
set_option maxHeartbeats 4000000 in
theorem v_printE_fun {xs : List (EI × EPl)} {l : List EI} {a : Option Addr} {c e : Nat} (H : PEH xs l e) (he : e < xs.length) (hf : fE xs[e].1 = some ⟨0, [0], [xFun ++ xs[e].1.nm ++ xCs ++ prT xs[e].1.ty ++ xFn2, e0]⟩) (hop : xs[e].1.op = 6) (hok : okT xs[e].1.ty = true) (_IHP : ∀ q, q < e → PEH xs l q) (IH : ∀ q, q < e → PEC xs l a c q) : PEC xs l a c e := by
  intro w z h hz
  subst hz
  have hp := pw_atE (l := l) (e := e) (t := xs[e].1) (by rw [← H.is, List.getElem?_map, List.getElem?_eq_getElem he]; rfl) hf H.vk
  have hn2 : (FE l e).needs.length = 1 := by
    obtain ⟨f, h1, h2⟩ := H.item he (Nat.le_refl _)
    rw [hf] at h1
    cases h1
    rw [h2]; rfl
  have hv2 := H.vk e (Nat.lt_succ_self _)
  dsimp only at hv2
  rw [hn2] at hv2
  obtain ⟨p0, hps⟩ := one_of (pts_len (fun i => (FE l i).needs.length) 1 e)
  have hm0 := pts_mem (H.vk.mono (Nat.le_succ _)) hv2 (p := p0) (by rw [hps]; simp)
  obtain ⟨q0, rfl⟩ : ∃ q, p0 = q + 1 := ⟨p0 - 1, by omega⟩
  have HT : Hid (∀ W, Below w.heap.size w W → EsA W (.slice a xs.length c) xs) := fun W hb => h.below hb
  have CP : Hid (∀ (W : World) (z : Int), Below w.heap.size w W → z = ((e + 1 : Nat) : Int) → Calls Tryd.prog 36 #[.slice a xs.length c, .int .i64 z] W fun r w' => ∃ va cp, r = .returned (.slice va 1 cp) ∧ Hid (w'.ownsRow W.heap.size 3 1 (.slice va 1 cp) 1 (inC [q0 + 1])) ∧ Hid (Below W.heap.size W w')) := fun W z hb hz => by
    have := v_eparts W (HT.out W hb) H.is he H.ar hz
    rw [hn2, hps] at this
    exact this.mono fun r w' ⟨va, cp, h1, h2, h3⟩ => ⟨va, cp, h1, h2, h3⟩
  have D1 : Hid (∀ (W : World), Below w.heap.size w W → Calls Tryd.prog 23 #[.slice a xs.length c, .int .i64 ((q0 : Int) + 1)] W fun r w' => r = .returned (.string (brk 0 (pw (FE l) (q0 + 1)))) ∧ Hid (Below W.heap.size W w')) := fun W hb => by
    rw [brk0]
    exact IH q0 (by omega) W _ (HT.out W hb) rfl
  obtain ⟨g, ta, tc, rfl, y0, y1, y2, y3, y4, y5, ti, htv⟩ := h.item he
  have htl : 0 < xs[e].1.ty.length := by
    cases hz : xs[e].1.ty with
    | nil => rw [hz] at hok; cases hok
    | cons x y => simp
  have D0 : Hid (∀ (W : World), Below w.heap.size w W → Calls Tryd.prog 22 #[.slice ta xs[e].1.ty.length tc, .int .i64 (xs[e].1.ty.length : Int)] W fun r w' => r = .returned (.string (prT xs[e].1.ty)) ∧ Hid (Below W.heap.size W w')) := fun W hb => by
    obtain ⟨m, hm⟩ : ∃ m, xs[e].1.ty.length = m + 1 := ⟨xs[e].1.ty.length - 1, by omega⟩
    have zl : xs[e].2.zs.length = xs[e].1.ty.length := by rw [← ti.is, List.length_map]
    have hvl : vld (aT xs[e].1.ty) xs[e].1.ty.length = some 1 := by unfold okT at hok; exact beq_iff_eq.1 hok
    obtain ⟨k1, _, k3⟩ := vld_en (a := fun i => (FT xs[e].1.ty i).needs.length) (fun j n _ hj => aT_F hj) hvl
    have ts := ti.ty.below hb
    rw [htv, ← zl] at ts
    have := v_printT (xs := xs[e].2.zs) (l := xs[e].1.ty) (a := ta) (c := tc) m ⟨ti.is, fun j hj => k3 j (by omega), k1.mono (by omega), fun k hk => H.tsz _ (List.getElem_mem he) k (by omega)⟩ (by omega) W (xs[e].1.ty.length : Int) ts (by omega)
    rw [zl] at this
    unfold prT
    rw [hm] at this ⊢
    exact this
  have szT := H.tsz _ (List.getElem_mem he) _ (Nat.le_refl _)
  have zlt := ti.ty.len
  have hlen := h.len
  have zn := ti.nm
  have s0 : (brk 0 (pw (FE l) (q0 + 1))).size ≤ 100000002 := by have := (brk_ge 0 (pw (FE l) (q0 + 1))).2; have := H.sz (q0 + 1) (by omega); omega
  obtain ⟨r, hr⟩ : ∃ r, r = (pw (FE l) (e + 1)).1 := ⟨_, rfl⟩
  obtain ⟨T0, hT0⟩ : ∃ T, T = brk 0 (pw (FE l) (q0 + 1)) := ⟨_, rfl⟩
  have HR0 : r = ((((((⟨#[102, 117, 110, 40]⟩ : ByteArray) ++ xs[e].1.nm) ++ (⟨#[58, 32]⟩ : ByteArray)) ++ prT xs[e].1.ty) ++ (⟨#[41, 32]⟩ : ByteArray)) ++ T0) := by
    rw [hr, hp]
    show arnd _ _ (List.map (pw (FE l)) (pts _ 1 e)) = _
    rw [hps]
    simp only [List.map_cons, List.map_nil, arnd, ← hT0, app_em, ByteArray.append_assoc]
    rfl
  rw [← hr]
  rw [← hT0] at s0 D1
  obtain ⟨X, hX⟩ : ∃ X, X = xs[e] := ⟨_, rfl⟩
  rw [← hX] at y0 y1 y2 y3 y4 y5 hop HR0 zn D0 szT zlt htl
  rw [hop] at y0
  obtain ⟨TY, hTY⟩ : ∃ T, T = prT X.1.ty := ⟨_, rfl⟩
  have sTY : TY.size ≤ 100000000 := by rw [hTY]; exact szT
  rw [← hTY] at D0 HR0
  obtain ⟨tm, htm⟩ : ∃ m, m = X.1.ty.length := ⟨_, rfl⟩
  rw [← htm] at D0 y5
  clear hTY htm szT
  have HR : Hid (r = ((((((⟨#[102, 117, 110, 40]⟩ : ByteArray) ++ X.1.nm) ++ (⟨#[58, 32]⟩ : ByteArray)) ++ TY) ++ (⟨#[41, 32]⟩ : ByteArray)) ++ T0)) := HR0
  have we1 : IntKind.i64.wrap ((e : Int) + 1 - 1) = (e : Int) := by rw [IntKind.wrap_i64]; omega
  have we2 : IntKind.i64.wrap (e : Int) = (e : Int) := by rw [IntKind.wrap_i64]; omega
  have hel : (e : Int) < (xs.length : Int) := by omega
  have he0 : (0 : Int) ≤ (e : Int) := by omega
  clear h H hp hn2 hv2 hps hm0 hT0 IH _IHP ti htv hr hX hf hop HT HR0 hok
  have z0 : (⟨#[102, 117, 110, 40]⟩ : ByteArray).size = 4 := rfl
  have z1 : (⟨#[58, 32]⟩ : ByteArray).size = 2 := rfl
  have z2 : (⟨#[41, 32]⟩ : ByteArray).size = 2 := rfl
  have c1 := fun W => run_string_add_sum (P := Tryd.prog) (w := W) (⟨#[102, 117, 110, 40]⟩ : ByteArray) X.1.nm (by rw [z0]; omega)
  have c2 := fun W => run_string_add_sum (P := Tryd.prog) (w := W) ((⟨#[102, 117, 110, 40]⟩ : ByteArray) ++ X.1.nm) (⟨#[58, 32]⟩ : ByteArray) (by rw [ByteArray.size_append, z0, z1]; omega)
  have c3 := fun W => run_string_add_sum (P := Tryd.prog) (w := W) (((⟨#[102, 117, 110, 40]⟩ : ByteArray) ++ X.1.nm) ++ (⟨#[58, 32]⟩ : ByteArray)) TY (by rw [ByteArray.size_append, ByteArray.size_append, z0, z1]; omega)
  have c4 := fun W => run_string_add_sum (P := Tryd.prog) (w := W) ((((⟨#[102, 117, 110, 40]⟩ : ByteArray) ++ X.1.nm) ++ (⟨#[58, 32]⟩ : ByteArray)) ++ TY) (⟨#[41, 32]⟩ : ByteArray) (by rw [ByteArray.size_append, ByteArray.size_append, ByteArray.size_append, z0, z1, z2]; omega)
  have c5 := fun W => run_string_add_sum (P := Tryd.prog) (w := W) (((((⟨#[102, 117, 110, 40]⟩ : ByteArray) ++ X.1.nm) ++ (⟨#[58, 32]⟩ : ByteArray)) ++ TY) ++ (⟨#[41, 32]⟩ : ByteArray)) T0 (by rw [ByteArray.size_append, ByteArray.size_append, ByteArray.size_append, ByteArray.size_append, z0, z1, z2]; omega)
  go_enter Tryd.func23, Tryd.ntmps23
  go_wp2_with fail
  refine (CP.out _ _ (bel1 _ _) (by omega)).mono ?_
  rintro e2 w2 ⟨va, cp, rfl, HO, HB⟩
  have HB2 : Hid (Below w.heap.size w w2) := (bel1 _ _).trans (HB.out.mono (by simp))
  obtain ⟨go, gc, ev, _⟩ := own_blk HO.out (by omega)
  simp only [Value.slice.injEq] at ev
  obtain ⟨rfl, -, rfl⟩ := ev
  have BX := row6 w (.int .i64 6) (.int .i64 X.1.num) (.string X.1.md) (.string X.1.nm) (.slice X.2.np.a X.1.ns.length X.2.np.c) (.slice ta tm tc) 69
  have BX2 := BX.of_block (HB.out.block _ BX.lt)
  have t0 : w2.cell? ⟨w.heap.size, 0, none⟩ = some (.int .i64 6) := BX2.cell (i := 0) (by omega)
  have HCC : Hid (∀ W : World, Below w2.heap.size w2 W → W.cell? ⟨go, 0, none⟩ = some (.int .i64 ((q0 : Int) + 1)) ∧ W.cell? ⟨w.heap.size, 3, none⟩ = some (.string X.1.nm) ∧ W.cell? ⟨w.heap.size, 5, none⟩ = some (.slice ta tm tc)) := fun W hb => by
    have k0 : w2.cell? ⟨go, 0, none⟩ = some (.int .i64 ((q0 : Int) + 1)) := own_int (es := [q0 + 1]) HO.out rfl (j := 0) (by simp)
    have BW := BX2.of_block (hb.block _ BX2.lt)
    exact ⟨(hb.cell (p := ⟨go, 0, none⟩) (World.block_lt_of_cell? _ _ k0)).trans k0, BW.cell (i := 3) (by omega), BW.cell (i := 5) (by omega)⟩
  have cs := HCC.out w2 (Below.refl _ _)
  obtain ⟨k0, k1, k2⟩ := cs
  
  clear BX BX2 HB HO
  have E0 : Hid (∀ W : World, Below w2.heap.size w2 W → Calls Tryd.prog 22 #[.slice ta tm tc, .int .i64 (tm : Int)] W fun r w' => r = .returned (.string TY) ∧ Hid (Below w2.heap.size w2 w')) := fun W hb => (D0.out W (HB2.out.trans (hb.mono HB2.out.size))).mono fun r w' h => ⟨h.1, hb.trans (h.2.out.mono hb.size)⟩
  have E1 : Hid (∀ W : World, Below w2.heap.size w2 W → Calls Tryd.prog 23 #[.slice (some ⟨g, 0, none⟩) xs.length c, .int .i64 ((q0 : Int) + 1)] W fun r w' => r = .returned (.string T0) ∧ Hid (Below w2.heap.size w2 w')) := fun W hb => (D1.out W (HB2.out.trans (hb.mono HB2.out.size))).mono fun r w' h => ⟨h.1, hb.trans (h.2.out.mono hb.size)⟩
  have E0' := E0.out w2.drew (Below.refl _ _).drew
  go_wp2
  go_region_held3 (fun w' => w'.cell? ⟨go, 0, none⟩ = some (.int .i64 ((q0 : Int) + 1)) ∧ w'.cell? ⟨w.heap.size, 3, none⟩ = some (.string X.1.nm) ∧ w'.cell? ⟨w.heap.size, 5, none⟩ = some (.slice ta tm tc)) (go_keep) (first
    | (go_at_call 22; (with_reducible refine E0'.mono ?_); rintro r0 u0 ⟨rfl, V0⟩; obtain ⟨m00, m01, m02⟩ := HCC.out u0 V0.out)
    | (go_at_call 23; (with_reducible refine (E1.out u0 V0.out).mono ?_); rintro r1 u1 ⟨rfl, V1⟩; obtain ⟨m10, m11, m12⟩ := HCC.out u1 V1.out))
  all_goals
    have HBL : Hid (Below w.heap.size w u1) := HB2.out.trans (V1.out.mono HB2.out.size)
    go_wp2
    go_ret
    exact ⟨by rw [HR.out]; rfl, by first | exact HBL.out | exact HBL.out.drew | exact below_drewN HBL.out _⟩

set_option maxRecDepth 100000 in
set_option maxHeartbeats 4000000 in
theorem v_printE_if {xs : List (EI × EPl)} {l : List EI} {a : Option Addr} {c e : Nat} (H : PEH xs l e) (he : e < xs.length) (hf : fE xs[e].1 = some ⟨0, [0, 0, 0], [xIf, xThen, xElse, e0]⟩) (hop : xs[e].1.op = 8) (_IHP : ∀ q, q < e → PEH xs l q) (IH : ∀ q, q < e → PEC xs l a c q) : PEC xs l a c e := by
  intro w z h hz
  subst hz
  have hp := pw_atE (l := l) (e := e) (t := xs[e].1) (by rw [← H.is, List.getElem?_map, List.getElem?_eq_getElem he]; rfl) hf H.vk
  have hn2 : (FE l e).needs.length = 3 := by
    obtain ⟨f, h1, h2⟩ := H.item he (Nat.le_refl _)
    rw [hf] at h1
    cases h1
    rw [h2]; rfl
  have hv2 := H.vk e (Nat.lt_succ_self _)
  dsimp only at hv2
  rw [hn2] at hv2
  obtain ⟨p0, p1, p2, hps⟩ := three_of (pts_len (fun i => (FE l i).needs.length) 3 e)
  have hm0 := pts_mem (H.vk.mono (Nat.le_succ _)) hv2 (p := p0) (by rw [hps]; simp)
  obtain ⟨q0, rfl⟩ : ∃ q, p0 = q + 1 := ⟨p0 - 1, by omega⟩
  have hm1 := pts_mem (H.vk.mono (Nat.le_succ _)) hv2 (p := p1) (by rw [hps]; simp)
  obtain ⟨q1, rfl⟩ : ∃ q, p1 = q + 1 := ⟨p1 - 1, by omega⟩
  have hm2 := pts_mem (H.vk.mono (Nat.le_succ _)) hv2 (p := p2) (by rw [hps]; simp)
  obtain ⟨q2, rfl⟩ : ∃ q, p2 = q + 1 := ⟨p2 - 1, by omega⟩
  have HT : Hid (∀ W, Below w.heap.size w W → EsA W (.slice a xs.length c) xs) := fun W hb => h.below hb
  have CP : Hid (∀ (W : World) (z : Int), Below w.heap.size w W → z = ((e + 1 : Nat) : Int) → Calls Tryd.prog 36 #[.slice a xs.length c, .int .i64 z] W fun r w' => ∃ va cp, r = .returned (.slice va 3 cp) ∧ Hid (w'.ownsRow W.heap.size 3 1 (.slice va 3 cp) 3 (inC [q0 + 1, q1 + 1, q2 + 1])) ∧ Hid (Below W.heap.size W w')) := fun W z hb hz => by
    have := v_eparts W (HT.out W hb) H.is he H.ar hz
    rw [hn2, hps] at this
    exact this.mono fun r w' ⟨va, cp, h1, h2, h3⟩ => ⟨va, cp, h1, h2, h3⟩
  have D0 : Hid (∀ (W : World), Below w.heap.size w W → Calls Tryd.prog 23 #[.slice a xs.length c, .int .i64 ((q0 : Int) + 1)] W fun r w' => r = .returned (.string (brk 0 (pw (FE l) (q0 + 1)))) ∧ Hid (Below W.heap.size W w')) := fun W hb => by
    rw [brk0]
    exact IH q0 (by omega) W _ (HT.out W hb) rfl
  have D1 : Hid (∀ (W : World), Below w.heap.size w W → Calls Tryd.prog 23 #[.slice a xs.length c, .int .i64 ((q1 : Int) + 1)] W fun r w' => r = .returned (.string (brk 0 (pw (FE l) (q1 + 1)))) ∧ Hid (Below W.heap.size W w')) := fun W hb => by
    rw [brk0]
    exact IH q1 (by omega) W _ (HT.out W hb) rfl
  have D2 : Hid (∀ (W : World), Below w.heap.size w W → Calls Tryd.prog 23 #[.slice a xs.length c, .int .i64 ((q2 : Int) + 1)] W fun r w' => r = .returned (.string (brk 0 (pw (FE l) (q2 + 1)))) ∧ Hid (Below W.heap.size W w')) := fun W hb => by
    rw [brk0]
    exact IH q2 (by omega) W _ (HT.out W hb) rfl
  obtain ⟨g, ta, tc, rfl, y0, y1, y2, y3, y4, y5, ti, htv⟩ := h.item he
  have hlen := h.len
  have zn := ti.nm
  have s0 : (brk 0 (pw (FE l) (q0 + 1))).size ≤ 100000002 := by have := (brk_ge 0 (pw (FE l) (q0 + 1))).2; have := H.sz (q0 + 1) (by omega); omega
  have s1 : (brk 0 (pw (FE l) (q1 + 1))).size ≤ 100000002 := by have := (brk_ge 0 (pw (FE l) (q1 + 1))).2; have := H.sz (q1 + 1) (by omega); omega
  have s2 : (brk 0 (pw (FE l) (q2 + 1))).size ≤ 100000002 := by have := (brk_ge 0 (pw (FE l) (q2 + 1))).2; have := H.sz (q2 + 1) (by omega); omega
  obtain ⟨r, hr⟩ : ∃ r, r = (pw (FE l) (e + 1)).1 := ⟨_, rfl⟩
  obtain ⟨T0, hT0⟩ : ∃ T, T = brk 0 (pw (FE l) (q0 + 1)) := ⟨_, rfl⟩
  obtain ⟨T1, hT1⟩ : ∃ T, T = brk 0 (pw (FE l) (q1 + 1)) := ⟨_, rfl⟩
  obtain ⟨T2, hT2⟩ : ∃ T, T = brk 0 (pw (FE l) (q2 + 1)) := ⟨_, rfl⟩
  have HR0 : r = ((((((⟨#[105, 102, 32]⟩ : ByteArray) ++ T0) ++ (⟨#[32, 116, 104, 101, 110, 32]⟩ : ByteArray)) ++ T1) ++ (⟨#[32, 101, 108, 115, 101, 32]⟩ : ByteArray)) ++ T2) := by
    rw [hr, hp]
    show arnd _ _ (List.map (pw (FE l)) (pts _ 3 e)) = _
    rw [hps]
    simp only [List.map_cons, List.map_nil, arnd, ← hT0, ← hT1, ← hT2, app_em, ByteArray.append_assoc]
    rfl
  rw [← hr]
  rw [← hT0] at s0 D0
  rw [← hT1] at s1 D1
  rw [← hT2] at s2 D2
  obtain ⟨X, hX⟩ : ∃ X, X = xs[e] := ⟨_, rfl⟩
  rw [← hX] at y0 y1 y2 y3 y4 y5 hop zn
  rw [hop] at y0
  have HR : Hid (r = ((((((⟨#[105, 102, 32]⟩ : ByteArray) ++ T0) ++ (⟨#[32, 116, 104, 101, 110, 32]⟩ : ByteArray)) ++ T1) ++ (⟨#[32, 101, 108, 115, 101, 32]⟩ : ByteArray)) ++ T2)) := HR0
  have we1 : IntKind.i64.wrap ((e : Int) + 1 - 1) = (e : Int) := by rw [IntKind.wrap_i64]; omega
  have we2 : IntKind.i64.wrap (e : Int) = (e : Int) := by rw [IntKind.wrap_i64]; omega
  have hel : (e : Int) < (xs.length : Int) := by omega
  have he0 : (0 : Int) ≤ (e : Int) := by omega
  clear h H hp hn2 hv2 hps hm0 hT0 hm1 hT1 hm2 hT2 IH _IHP ti htv hr hX hf hop HT HR0
  have z0 : (⟨#[105, 102, 32]⟩ : ByteArray).size = 3 := rfl
  have z1 : (⟨#[32, 116, 104, 101, 110, 32]⟩ : ByteArray).size = 6 := rfl
  have z2 : (⟨#[32, 101, 108, 115, 101, 32]⟩ : ByteArray).size = 6 := rfl
  have c1 := fun W => run_string_add_sum (P := Tryd.prog) (w := W) (⟨#[105, 102, 32]⟩ : ByteArray) T0 (by rw [z0]; omega)
  have c2 := fun W => run_string_add_sum (P := Tryd.prog) (w := W) ((⟨#[105, 102, 32]⟩ : ByteArray) ++ T0) (⟨#[32, 116, 104, 101, 110, 32]⟩ : ByteArray) (by rw [ByteArray.size_append, z0, z1]; omega)
  have c3 := fun W => run_string_add_sum (P := Tryd.prog) (w := W) (((⟨#[105, 102, 32]⟩ : ByteArray) ++ T0) ++ (⟨#[32, 116, 104, 101, 110, 32]⟩ : ByteArray)) T1 (by rw [ByteArray.size_append, ByteArray.size_append, z0, z1]; omega)
  have c4 := fun W => run_string_add_sum (P := Tryd.prog) (w := W) ((((⟨#[105, 102, 32]⟩ : ByteArray) ++ T0) ++ (⟨#[32, 116, 104, 101, 110, 32]⟩ : ByteArray)) ++ T1) (⟨#[32, 101, 108, 115, 101, 32]⟩ : ByteArray) (by rw [ByteArray.size_append, ByteArray.size_append, ByteArray.size_append, z0, z1, z2]; omega)
  have c5 := fun W => run_string_add_sum (P := Tryd.prog) (w := W) (((((⟨#[105, 102, 32]⟩ : ByteArray) ++ T0) ++ (⟨#[32, 116, 104, 101, 110, 32]⟩ : ByteArray)) ++ T1) ++ (⟨#[32, 101, 108, 115, 101, 32]⟩ : ByteArray)) T2 (by rw [ByteArray.size_append, ByteArray.size_append, ByteArray.size_append, ByteArray.size_append, z0, z1, z2]; omega)
  go_enter Tryd.func23, Tryd.ntmps23
  go_wp2_with fail
  refine (CP.out _ _ (bel1 _ _) (by omega)).mono ?_
  rintro e2 w2 ⟨va, cp, rfl, HO, HB⟩
  have HB2 : Hid (Below w.heap.size w w2) := (bel1 _ _).trans (HB.out.mono (by simp))
  obtain ⟨go, gc, ev, _⟩ := own_blk HO.out (by omega)
  simp only [Value.slice.injEq] at ev
  obtain ⟨rfl, -, rfl⟩ := ev
  have BX := row6 w (.int .i64 8) (.int .i64 X.1.num) (.string X.1.md) (.string X.1.nm) (.slice X.2.np.a X.1.ns.length X.2.np.c) (.slice ta X.1.ty.length tc) 69
  have BX2 := BX.of_block (HB.out.block _ BX.lt)
  have t0 : w2.cell? ⟨w.heap.size, 0, none⟩ = some (.int .i64 8) := BX2.cell (i := 0) (by omega)
  have HCC : Hid (∀ W : World, Below w2.heap.size w2 W → W.cell? ⟨go, 0, none⟩ = some (.int .i64 ((q0 : Int) + 1)) ∧ W.cell? ⟨go, 1, none⟩ = some (.int .i64 ((q1 : Int) + 1)) ∧ W.cell? ⟨go, 2, none⟩ = some (.int .i64 ((q2 : Int) + 1))) := fun W hb => by
    have k0 : w2.cell? ⟨go, 0, none⟩ = some (.int .i64 ((q0 : Int) + 1)) := own_int (es := [q0 + 1, q1 + 1, q2 + 1]) HO.out rfl (j := 0) (by simp)
    have k1 : w2.cell? ⟨go, 1, none⟩ = some (.int .i64 ((q1 : Int) + 1)) := own_int (es := [q0 + 1, q1 + 1, q2 + 1]) HO.out rfl (j := 1) (by simp)
    have k2 : w2.cell? ⟨go, 2, none⟩ = some (.int .i64 ((q2 : Int) + 1)) := own_int (es := [q0 + 1, q1 + 1, q2 + 1]) HO.out rfl (j := 2) (by simp)
    have BW := BX2.of_block (hb.block _ BX2.lt)
    exact ⟨(hb.cell (p := ⟨go, 0, none⟩) (World.block_lt_of_cell? _ _ k0)).trans k0, (hb.cell (p := ⟨go, 1, none⟩) (World.block_lt_of_cell? _ _ k1)).trans k1, (hb.cell (p := ⟨go, 2, none⟩) (World.block_lt_of_cell? _ _ k2)).trans k2⟩
  have cs := HCC.out w2 (Below.refl _ _)
  obtain ⟨k0, k1, k2⟩ := cs
  
  clear BX BX2 HB HO
  have E0 : Hid (∀ W : World, Below w2.heap.size w2 W → Calls Tryd.prog 23 #[.slice (some ⟨g, 0, none⟩) xs.length c, .int .i64 ((q0 : Int) + 1)] W fun r w' => r = .returned (.string T0) ∧ Hid (Below w2.heap.size w2 w')) := fun W hb => (D0.out W (HB2.out.trans (hb.mono HB2.out.size))).mono fun r w' h => ⟨h.1, hb.trans (h.2.out.mono hb.size)⟩
  have E1 : Hid (∀ W : World, Below w2.heap.size w2 W → Calls Tryd.prog 23 #[.slice (some ⟨g, 0, none⟩) xs.length c, .int .i64 ((q1 : Int) + 1)] W fun r w' => r = .returned (.string T1) ∧ Hid (Below w2.heap.size w2 w')) := fun W hb => (D1.out W (HB2.out.trans (hb.mono HB2.out.size))).mono fun r w' h => ⟨h.1, hb.trans (h.2.out.mono hb.size)⟩
  have E2 : Hid (∀ W : World, Below w2.heap.size w2 W → Calls Tryd.prog 23 #[.slice (some ⟨g, 0, none⟩) xs.length c, .int .i64 ((q2 : Int) + 1)] W fun r w' => r = .returned (.string T2) ∧ Hid (Below w2.heap.size w2 w')) := fun W hb => (D2.out W (HB2.out.trans (hb.mono HB2.out.size))).mono fun r w' h => ⟨h.1, hb.trans (h.2.out.mono hb.size)⟩
  have E0' := E0.out w2.drew (Below.refl _ _).drew
  go_wp2
  go_region_held3 (fun w' => w'.cell? ⟨go, 0, none⟩ = some (.int .i64 ((q0 : Int) + 1)) ∧ w'.cell? ⟨go, 1, none⟩ = some (.int .i64 ((q1 : Int) + 1)) ∧ w'.cell? ⟨go, 2, none⟩ = some (.int .i64 ((q2 : Int) + 1))) (go_keep) (first
    | (go_at_call 23; (with_reducible refine E0'.mono ?_); rintro r0 u0 ⟨rfl, V0⟩; obtain ⟨m00, m01, m02⟩ := HCC.out u0 V0.out)
    | (go_at_call 23; (with_reducible refine (E1.out u0 V0.out).mono ?_); rintro r1 u1 ⟨rfl, V1⟩; obtain ⟨m10, m11, m12⟩ := HCC.out u1 V1.out)
    | (go_at_call 23; (with_reducible refine (E2.out u1 V1.out).mono ?_); rintro r2 u2 ⟨rfl, V2⟩; obtain ⟨m20, m21, m22⟩ := HCC.out u2 V2.out))
  all_goals
    have HBL : Hid (Below w.heap.size w u2) := HB2.out.trans (V2.out.mono HB2.out.size)
    go_wp2
    go_ret
    exact ⟨by rw [HR.out]; rfl, by first | exact HBL.out | exact HBL.out.drew | exact below_drewN HBL.out _⟩


end Go.Proofs.YtcehppndpccldaaDoor
