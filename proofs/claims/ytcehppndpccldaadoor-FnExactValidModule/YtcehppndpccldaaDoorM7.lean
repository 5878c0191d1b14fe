/-
  Merged for the claim: VdA VdB VdC.
-/
import Derived.Test.YtcehppndpccldaaDoorVcH
import Derived.Test.YtcehppndpccldaaDoorVaC
namespace Go.Proofs.YtcehppndpccldaaDoor
open Go.RowKit

/-- A declaration in memory that may be looked at. -/
structure DcA (w : World) (d : DC) (p : DPl) : Prop where
  ty : TsA w p.tv p.zs
  isT : p.zs.map Prod.fst = d.ty
  ex : EsA w p.ev p.es
  isE : p.es.map Prod.fst = d.ex
  cost : cD d ≤ 1048576
theorem DcA.below {w w' : World} {d : DC} {p : DPl} (h : DcA w d p) (hb : Below w.heap.size w w') : DcA w' d p := ⟨h.ty.below hb, h.isT, h.ex.below hb, h.isE, h.cost⟩
theorem DcA.form {w : World} {d : DC} {p : DPl} (h : DcA w d p) : ∃ ta tc ea ec, p.tv = .slice ta d.ty.length tc ∧ p.ev = .slice ea d.ex.length ec := by
  obtain ⟨ta, tc, h1⟩ := h.ty.form
  obtain ⟨ea, ec, h2⟩ := h.ex.form
  have l1 : p.zs.length = d.ty.length := by rw [← h.isT, List.length_map]
  have l2 : p.es.length = d.ex.length := by rw [← h.isE, List.length_map]
  exact ⟨ta, tc, ea, ec, by rw [h1, l1], by rw [h2, l2]⟩

def okD' (kind : Int) (nm : ByteArray) (tn en : Nat) (tb eb : Bool) : Bool := gn nm && (
  if kind = 1 then decide (tn = 0) && decide (en = 0)
  else if kind = 2 then tb && decide (en = 0)
  else decide (kind = 3) && tb && eb)

set_option maxRecDepth 100000 in
set_option maxHeartbeats 4000000 in
theorem v_declOk' (w : World) (kind : Int) (nm : ByteArray) (ta ea : Option Addr) (tn tc en ec : Nat) (tb eb : Bool) (zn : nm.size ≤ 1048576) (zt : tn ≤ 1048576) (ze : en ≤ 1048576)
    (CT : Hid (∀ W, Below w.heap.size w W → Calls Tryd.prog 20 #[.slice ta tn tc] W fun e w' => e = .returned (.bool tb) ∧ Hid (Below W.heap.size W w')))
    (CE : Hid (∀ W, Below w.heap.size w W → Calls Tryd.prog 21 #[.slice ea en ec] W fun e w' => e = .returned (.bool eb) ∧ Hid (Below W.heap.size W w'))) :
    Calls Tryd.prog 13 #[.agg #[.int .i64 kind, .string nm, .slice ta tn tc, .slice ea en ec]] w fun e w' => e = .returned (.bool (okD' kind nm tn en tb eb)) ∧ Below w.heap.size w w' := by
  obtain ⟨r, hr⟩ : ∃ r, r = okD' kind nm tn en tb eb := ⟨_, rfl⟩
  rw [← hr]
  have HG : Hid (∀ W, Calls Tryd.prog 19 #[.string nm] W fun e w' => e = .returned (.bool (gn nm)) ∧ w' = W) := fun W => c32 nm W (by omega)
  unfold okD' at hr
  have BX := row4 w (.int .i64 kind) (.string nm) (.slice ta tn tc) (.slice ea en ec) 38
  go_enter Tryd.func13, Tryd.ntmps13
  go_wp2_with fail
  refine (HG.out _).mono ?_
  rintro e1 w1 ⟨rfl, rfl⟩
  cases hg : gn nm with
  | false =>
    rw [hg, Bool.false_and] at hr
    subst hr
    go_wp2
    go_ret
    exact ⟨rfl, bel1 _ _⟩
  | true =>
    rw [hg, Bool.true_and] at hr
    by_cases k1 : kind = 1
    · rw [if_pos k1] at hr
      subst k1
      by_cases t0 : tn = 0
      · subst t0
        by_cases e0 : en = 0
        · subst e0
          subst hr
          go_wp2
          go_ret
          exact ⟨rfl, bel1 _ _⟩
        · have ne : ¬ (en : Int) = 0 := by omega
          rw [decide_eq_false e0, Bool.and_false] at hr
          subst hr
          go_wp2
          go_ret
          exact ⟨by show Ending.returned (Value.bool ((en : Int) == 0)) = _; rw [beq_eq_false_iff_ne.2 ne], bel1 _ _⟩
      · have ne : ¬ (tn : Int) = 0 := by omega
        rw [decide_eq_false t0, Bool.false_and] at hr
        subst hr
        go_wp2
        go_ret
        exact ⟨rfl, bel1 _ _⟩
    · rw [if_neg k1] at hr
      by_cases k2 : kind = 2
      · rw [if_pos k2] at hr
        subst k2
        clear k1
        go_wp2_with fail
        refine (CT.out _ (bel1 _ _)).mono ?_
        rintro e2 w2 ⟨rfl, HB⟩
        have HB2 : Hid (Below w.heap.size w w2) := (bel1 _ _).trans (HB.out.mono (by simp))
        have BX2 := BX.of_block (HB.out.block _ BX.lt)
        have t3 : w2.cell? ⟨w.heap.size, 3, none⟩ = some (.slice ea en ec) := BX2.cell (i := 3) (by omega)
        clear BX BX2 HB
        cases tb with
        | false =>
          rw [Bool.false_and] at hr
          subst hr
          go_wp2
          go_ret
          exact ⟨rfl, HB2.out⟩
        | true =>
          rw [Bool.true_and] at hr
          by_cases e0 : en = 0
          · subst e0
            subst hr
            go_wp2
            go_ret
            exact ⟨rfl, HB2.out⟩
          · have ne : ¬ (en : Int) = 0 := by omega
            rw [decide_eq_false e0] at hr
            subst hr
            go_wp2
            go_ret
            exact ⟨by show Ending.returned (Value.bool ((en : Int) == 0)) = _; rw [beq_eq_false_iff_ne.2 ne], HB2.out⟩
      · rw [if_neg k2] at hr
        by_cases k3 : kind = 3
        · rw [decide_eq_true k3, Bool.true_and] at hr
          subst k3
          clear k1 k2
          go_wp2_with fail
          refine (CT.out _ (bel1 _ _)).mono ?_
          rintro e2 w2 ⟨rfl, HB⟩
          have HB2 : Hid (Below w.heap.size w w2) := (bel1 _ _).trans (HB.out.mono (by simp))
          have BX2 := BX.of_block (HB.out.block _ BX.lt)
          have t3 : w2.cell? ⟨w.heap.size, 3, none⟩ = some (.slice ea en ec) := BX2.cell (i := 3) (by omega)
          clear BX BX2 HB
          cases tb with
          | false =>
            rw [Bool.false_and] at hr
            subst hr
            go_wp2
            go_ret
            exact ⟨rfl, HB2.out⟩
          | true =>
            rw [Bool.true_and] at hr
            subst hr
            go_wp2_with fail
            refine (CE.out _ HB2.out).mono ?_
            rintro e3 w3 ⟨rfl, HB3⟩
            have HB4 : Hid (Below w.heap.size w w3) := HB2.out.trans (HB3.out.mono HB2.out.size)
            clear HB3
            cases r <;>
            · go_wp2
              go_ret
              exact ⟨rfl, HB4.out⟩
        · rw [decide_eq_false k3, Bool.false_and] at hr
          subst hr
          go_wp2
          go_ret
          exact ⟨rfl, bel1 _ _⟩

theorem v_declOk (w : World) {d : DC} {p : DPl} (h : DcA w d p) :
    Calls Tryd.prog 13 #[dV d p] w fun e w' => e = .returned (.bool (okD d)) ∧ Below w.heap.size w w' := by
  obtain ⟨ta, tc, ea, ec, h1, h2⟩ := h.form
  have hc : cD d = d.nm.size + (d.ty.length + (d.ty.map cT).sum) + (d.ex.length + (d.ex.map cE).sum) := rfl
  have hcc := h.cost
  unfold dV
  rw [h1, h2]
  have := v_declOk' w d.kind d.nm ta ea d.ty.length tc d.ex.length ec (okT d.ty) (okE d.ex) (by omega) (by omega) (by omega)
    (fun W hb => by
      have := v_typeOk W (h.ty.below hb) h.isT
      rw [h1] at this
      exact this)
    (fun W hb => by
      have := v_exprOk W (h.ex.below hb) h.isE
      rw [h2] at this
      exact this)
  exact this

end Go.Proofs.YtcehppndpccldaaDoor

namespace Go.Proofs.YtcehppndpccldaaDoor
open Go.RowKit

theorem fE_ty {t : EI} {f : Fm} (h : fE t = some f) : okT t.ty = true ∨ t.ty.length = 0 := by
  unfold fE at h
  refine if_some2 h (fun _ h => if_some2 h (fun y _ => ?_) fun _ h => none_some h) fun _ h => ?_
  · simp only [Bool.and_eq_true, decide_eq_true_eq] at y
    exact Or.inr y.2
  refine if_some h (fun h => ?_) none_some
  refine if_some h (fun h => if_some2 h (fun y _ => ?_) fun _ h => none_some h) fun h => ?_
  · simp only [Bool.and_eq_true] at y
    exact Or.inl y.1.1.2
  exact if_some2 h (fun z _ => Or.inr z) fun _ h => none_some h
theorem prT_sz {ts : List TI} (h : okT ts = true ∨ ts.length = 0) {k : Nat} (hk : k ≤ ts.length) : (pw (FT ts) k).1.size ≤ 8 * cTs ts := by
  rcases h with h | h
  · obtain ⟨k1, k2, _, _⟩ := okT_of h
    exact (prT_le hk (fun j hj => k2 j (by omega)) (k1.mono hk)).2.1
  · have : k = 0 := by omega
    subst this
    show (0 : Nat) ≤ _
    exact Nat.zero_le _
theorem prE_sz {ts : List EI} (h : okE ts = true) {k : Nat} (hk : k ≤ ts.length) : (pw (FE ts) k).1.size ≤ 32 * cEs ts := by
  obtain ⟨k1, k2, _, _⟩ := okE_of h
  exact (prE_le hk (fun j hj => k2 j (by omega)) (k1.mono hk)).2.1

/-- The texts of a declaration's lists. -/
theorem v_dT (w : World) {d : DC} {p : DPl} (h : DcA w d p) {ta : Option Addr} {tc : Nat} (htv : p.tv = .slice ta d.ty.length tc) (hok : okT d.ty = true) :
    Calls Tryd.prog 22 #[.slice ta d.ty.length tc, .int .i64 (d.ty.length : Int)] w fun r w' => r = .returned (.string (prT d.ty)) ∧ Hid (Below w.heap.size w w') := by
  obtain ⟨k1, k2, k3, _⟩ := okT_of hok
  obtain ⟨m, hm⟩ : ∃ m, d.ty.length = m + 1 := ⟨d.ty.length - 1, by omega⟩
  have zl : p.zs.length = d.ty.length := by rw [← h.isT, List.length_map]
  have hc : cD d = d.nm.size + cTs d.ty + cEs d.ex := rfl
  have hcc := h.cost
  have ts := h.ty
  rw [htv, ← zl] at ts
  have := v_printT (xs := p.zs) (l := d.ty) (a := ta) (c := tc) m ⟨h.isT, fun j hj => k2 j (by omega), k1.mono (by omega), fun k hk => Nat.le_trans (prT_sz (Or.inl hok) (by omega)) (by omega)⟩ (by omega) w (d.ty.length : Int) ts (by omega)
  rw [zl] at this
  unfold prT
  rw [hm] at this ⊢
  exact this
theorem v_dE (w : World) {d : DC} {p : DPl} (h : DcA w d p) {ta : Option Addr} {tc : Nat} (htv : p.ev = .slice ta d.ex.length tc) (hok : okE d.ex = true) :
    Calls Tryd.prog 23 #[.slice ta d.ex.length tc, .int .i64 (d.ex.length : Int)] w fun r w' => r = .returned (.string (prE d.ex)) ∧ Hid (Below w.heap.size w w') := by
  obtain ⟨k1, k2, k3, _⟩ := okE_of hok
  obtain ⟨m, hm⟩ : ∃ m, d.ex.length = m + 1 := ⟨d.ex.length - 1, by omega⟩
  have zl : p.es.length = d.ex.length := by rw [← h.isE, List.length_map]
  have hc : cD d = d.nm.size + cTs d.ty + cEs d.ex := rfl
  have hcc := h.cost
  have ts := h.ex
  rw [htv, ← zl] at ts
  have tsz : ∀ x, x ∈ p.es → ∀ k, k ≤ x.1.ty.length → (pw (FT x.1.ty) k).1.size ≤ 100000000 := fun x hx k hk => by
    have hx2 : x.1 ∈ d.ex := by rw [← h.isE]; exact List.mem_map_of_mem hx
    obtain ⟨j, hj, hxj⟩ := List.getElem_of_mem hx2
    have h1 := k2 j hj
    unfold aE at h1
    rw [List.getElem?_eq_getElem hj, hxj] at h1
    dsimp only [Option.bind_some] at h1
    cases hf : fE x.1 with
    | none => rw [hf] at h1; cases h1
    | some f =>
      have h2 := prT_sz (fE_ty hf) hk
      have h3 := mem_sum cE hx2
      have h4 : cE x.1 = x.1.md.size + x.1.nm.size + cN x.1.ns + cTs x.1.ty := rfl
      have h5 : cEs d.ex = d.ex.length + (d.ex.map cE).sum := rfl
      omega
  have := v_printE (xs := p.es) (l := d.ex) (a := ta) (c := tc) m ⟨h.isE, fun j hj => k2 j (by omega), k1.mono (by omega), fun k hk => Nat.le_trans (prE_sz hok (by omega)) (by omega), tsz⟩ (by omega) w (d.ex.length : Int) ts (by omega)
  rw [zl] at this
  unfold prE
  rw [hm] at this ⊢
  exact this

set_option maxRecDepth 100000 in
set_option maxHeartbeats 4000000 in
theorem v_pd1 (w : World) (nm : ByteArray) (ta ea : Option Addr) (tn tc en ec : Nat) (zn : nm.size ≤ 1048576) :
    Calls Tryd.prog 14 #[.agg #[.int .i64 1, .string nm, .slice ta tn tc, .slice ea en ec]] w fun e w' => e = .returned (.string (xImp ++ nm ++ xEnd)) ∧ Below w.heap.size w w' := by
  have z0 : (⟨#[105, 109, 112, 111, 114, 116, 32]⟩ : ByteArray).size = 7 := rfl
  have z1 : (⟨#[59, 10]⟩ : ByteArray).size = 2 := rfl
  have c1 := fun W => run_string_add_sum (P := Tryd.prog) (w := W) (⟨#[105, 109, 112, 111, 114, 116, 32]⟩ : ByteArray) nm (by rw [z0]; omega)
  have c2 := fun W => run_string_add_sum (P := Tryd.prog) (w := W) ((⟨#[105, 109, 112, 111, 114, 116, 32]⟩ : ByteArray) ++ nm) (⟨#[59, 10]⟩ : ByteArray) (by rw [ByteArray.size_append, z0, z1]; omega)
  go_enter Tryd.func14, Tryd.ntmps14
  go_wp2
  go_ret
  exact ⟨rfl, bel1 _ _⟩

set_option maxRecDepth 100000 in
set_option maxHeartbeats 4000000 in
theorem v_pd2 (w : World) (nm T : ByteArray) (ta ea : Option Addr) (tn tc en ec : Nat) (zn : nm.size ≤ 1048576) (sT : T.size ≤ 100000000)
    (D0 : Hid (∀ W, Below w.heap.size w W → Calls Tryd.prog 22 #[.slice ta tn tc, .int .i64 (tn : Int)] W fun r w' => r = .returned (.string T) ∧ Hid (Below W.heap.size W w'))) :
    Calls Tryd.prog 14 #[.agg #[.int .i64 2, .string nm, .slice ta tn tc, .slice ea en ec]] w fun e w' => e = .returned (.string (xTyp ++ nm ++ xEs ++ T ++ xEnd)) ∧ Below w.heap.size w w' := by
  have z0 : (⟨#[116, 121, 112, 101, 32]⟩ : ByteArray).size = 5 := rfl
  have z1 : (⟨#[32, 61, 32]⟩ : ByteArray).size = 3 := rfl
  have z2 : (⟨#[59, 10]⟩ : ByteArray).size = 2 := rfl
  have c1 := fun W => run_string_add_sum (P := Tryd.prog) (w := W) (⟨#[116, 121, 112, 101, 32]⟩ : ByteArray) nm (by rw [z0]; omega)
  have c2 := fun W => run_string_add_sum (P := Tryd.prog) (w := W) ((⟨#[116, 121, 112, 101, 32]⟩ : ByteArray) ++ nm) (⟨#[32, 61, 32]⟩ : ByteArray) (by rw [ByteArray.size_append, z0, z1]; omega)
  have c3 := fun W => run_string_add_sum (P := Tryd.prog) (w := W) (((⟨#[116, 121, 112, 101, 32]⟩ : ByteArray) ++ nm) ++ (⟨#[32, 61, 32]⟩ : ByteArray)) T (by rw [ByteArray.size_append, ByteArray.size_append, z0, z1]; omega)
  have c4 := fun W => run_string_add_sum (P := Tryd.prog) (w := W) ((((⟨#[116, 121, 112, 101, 32]⟩ : ByteArray) ++ nm) ++ (⟨#[32, 61, 32]⟩ : ByteArray)) ++ T) (⟨#[59, 10]⟩ : ByteArray) (by rw [ByteArray.size_append, ByteArray.size_append, ByteArray.size_append, z0, z1, z2]; omega)
  have BX := row4 w (.int .i64 2) (.string nm) (.slice ta tn tc) (.slice ea en ec) 38
  obtain ⟨w2, hw2⟩ : ∃ W, W = w.alloc (.cells #[.int .i64 2, .string nm, .slice ta tn tc, .slice ea en ec] 38) := ⟨_, rfl⟩
  have HB2 : Hid (Below w.heap.size w w2) := by rw [hw2]; exact bel1 _ _
  rw [← hw2] at BX
  have HCC : Hid (∀ W : World, Below w2.heap.size w2 W → W.cell? ⟨w.heap.size, 1, none⟩ = some (.string nm) ∧ W.cell? ⟨w.heap.size, 2, none⟩ = some (.slice ta tn tc)) := fun W hb => by
    have BW := BX.of_block (hb.block _ BX.lt)
    exact ⟨BW.cell (i := 1) (by omega), BW.cell (i := 2) (by omega)⟩
  have k3 : w2.cell? ⟨w.heap.size, 0, none⟩ = some (.int .i64 2) := BX.cell (i := 0) (by omega)
  obtain ⟨k0, k1⟩ := HCC.out w2 (Below.refl _ _)
  clear BX
  have E0 : Hid (∀ W : World, Below w2.heap.size w2 W → Calls Tryd.prog 22 #[.slice ta tn tc, .int .i64 (tn : Int)] W fun r w' => r = .returned (.string T) ∧ Hid (Below w2.heap.size w2 w')) := fun W hb => (D0.out W (HB2.out.trans (hb.mono HB2.out.size))).mono fun r w' h => ⟨h.1, hb.trans (h.2.out.mono hb.size)⟩
  have E0' := E0.out w2.drew (Below.refl _ _).drew
  clear D0
  go_enter Tryd.func14, Tryd.ntmps14
  go_wp2
  rw [← hw2]
  clear hw2
  go_region_held3 (fun w' => w'.cell? ⟨w.heap.size, 1, none⟩ = some (.string nm) ∧ w'.cell? ⟨w.heap.size, 2, none⟩ = some (.slice ta tn tc)) (go_keep) (first
    | (go_at_call 22; (with_reducible refine E0'.mono ?_); rintro r0 u0 ⟨rfl, V0⟩; obtain ⟨m00, m01⟩ := HCC.out u0 V0.out))
  all_goals
    have HBL : Hid (Below w.heap.size w u0) := HB2.out.trans (V0.out.mono HB2.out.size)
    go_wp2
    go_ret
    exact ⟨rfl, by first | exact HBL.out | exact HBL.out.drew | exact below_drewN HBL.out _⟩

set_option maxRecDepth 100000 in
set_option maxHeartbeats 8000000 in
theorem v_pd3 (w : World) (nm T U : ByteArray) (ta ea : Option Addr) (tn tc en ec : Nat) (zn : nm.size ≤ 1048576) (sT : T.size ≤ 100000000) (sU : U.size ≤ 100000000)
    (D0 : Hid (∀ W, Below w.heap.size w W → Calls Tryd.prog 22 #[.slice ta tn tc, .int .i64 (tn : Int)] W fun r w' => r = .returned (.string T) ∧ Hid (Below W.heap.size W w')))
    (D1 : Hid (∀ W, Below w.heap.size w W → Calls Tryd.prog 23 #[.slice ea en ec, .int .i64 (en : Int)] W fun r w' => r = .returned (.string U) ∧ Hid (Below W.heap.size W w'))) :
    Calls Tryd.prog 14 #[.agg #[.int .i64 3, .string nm, .slice ta tn tc, .slice ea en ec]] w fun e w' => e = .returned (.string (xVal ++ nm ++ xCs ++ T ++ xEs ++ U ++ xEnd)) ∧ Below w.heap.size w w' := by
  have z0 : (⟨#[118, 97, 108, 32]⟩ : ByteArray).size = 4 := rfl
  have z1 : (⟨#[58, 32]⟩ : ByteArray).size = 2 := rfl
  have z2 : (⟨#[32, 61, 32]⟩ : ByteArray).size = 3 := rfl
  have z3 : (⟨#[59, 10]⟩ : ByteArray).size = 2 := rfl
  have c1 := fun W => run_string_add_sum (P := Tryd.prog) (w := W) (⟨#[118, 97, 108, 32]⟩ : ByteArray) nm (by rw [z0]; omega)
  have c2 := fun W => run_string_add_sum (P := Tryd.prog) (w := W) ((⟨#[118, 97, 108, 32]⟩ : ByteArray) ++ nm) (⟨#[58, 32]⟩ : ByteArray) (by rw [ByteArray.size_append, z0, z1]; omega)
  have c3 := fun W => run_string_add_sum (P := Tryd.prog) (w := W) (((⟨#[118, 97, 108, 32]⟩ : ByteArray) ++ nm) ++ (⟨#[58, 32]⟩ : ByteArray)) T (by rw [ByteArray.size_append, ByteArray.size_append, z0, z1]; omega)
  have c4 := fun W => run_string_add_sum (P := Tryd.prog) (w := W) ((((⟨#[118, 97, 108, 32]⟩ : ByteArray) ++ nm) ++ (⟨#[58, 32]⟩ : ByteArray)) ++ T) (⟨#[32, 61, 32]⟩ : ByteArray) (by rw [ByteArray.size_append, ByteArray.size_append, ByteArray.size_append, z0, z1, z2]; omega)
  have c5 := fun W => run_string_add_sum (P := Tryd.prog) (w := W) (((((⟨#[118, 97, 108, 32]⟩ : ByteArray) ++ nm) ++ (⟨#[58, 32]⟩ : ByteArray)) ++ T) ++ (⟨#[32, 61, 32]⟩ : ByteArray)) U (by rw [ByteArray.size_append, ByteArray.size_append, ByteArray.size_append, ByteArray.size_append, z0, z1, z2]; omega)
  have c6 := fun W => run_string_add_sum (P := Tryd.prog) (w := W) ((((((⟨#[118, 97, 108, 32]⟩ : ByteArray) ++ nm) ++ (⟨#[58, 32]⟩ : ByteArray)) ++ T) ++ (⟨#[32, 61, 32]⟩ : ByteArray)) ++ U) (⟨#[59, 10]⟩ : ByteArray) (by rw [ByteArray.size_append, ByteArray.size_append, ByteArray.size_append, ByteArray.size_append, ByteArray.size_append, z0, z1, z2, z3]; omega)
  have BX := row4 w (.int .i64 3) (.string nm) (.slice ta tn tc) (.slice ea en ec) 38
  obtain ⟨w2, hw2⟩ : ∃ W, W = w.alloc (.cells #[.int .i64 3, .string nm, .slice ta tn tc, .slice ea en ec] 38) := ⟨_, rfl⟩
  have HB2 : Hid (Below w.heap.size w w2) := by rw [hw2]; exact bel1 _ _
  rw [← hw2] at BX
  have HCC : Hid (∀ W : World, Below w2.heap.size w2 W → W.cell? ⟨w.heap.size, 1, none⟩ = some (.string nm) ∧ W.cell? ⟨w.heap.size, 2, none⟩ = some (.slice ta tn tc) ∧ W.cell? ⟨w.heap.size, 3, none⟩ = some (.slice ea en ec)) := fun W hb => by
    have BW := BX.of_block (hb.block _ BX.lt)
    exact ⟨BW.cell (i := 1) (by omega), BW.cell (i := 2) (by omega), BW.cell (i := 3) (by omega)⟩
  have k3 : w2.cell? ⟨w.heap.size, 0, none⟩ = some (.int .i64 3) := BX.cell (i := 0) (by omega)
  obtain ⟨k0, k1, k2⟩ := HCC.out w2 (Below.refl _ _)
  clear BX
  have E0 : Hid (∀ W : World, Below w2.heap.size w2 W → Calls Tryd.prog 22 #[.slice ta tn tc, .int .i64 (tn : Int)] W fun r w' => r = .returned (.string T) ∧ Hid (Below w2.heap.size w2 w')) := fun W hb => (D0.out W (HB2.out.trans (hb.mono HB2.out.size))).mono fun r w' h => ⟨h.1, hb.trans (h.2.out.mono hb.size)⟩
  have E1 : Hid (∀ W : World, Below w2.heap.size w2 W → Calls Tryd.prog 23 #[.slice ea en ec, .int .i64 (en : Int)] W fun r w' => r = .returned (.string U) ∧ Hid (Below w2.heap.size w2 w')) := fun W hb => (D1.out W (HB2.out.trans (hb.mono HB2.out.size))).mono fun r w' h => ⟨h.1, hb.trans (h.2.out.mono hb.size)⟩
  have E0' := E0.out w2.drew (Below.refl _ _).drew
  clear D0 D1
  go_enter Tryd.func14, Tryd.ntmps14
  go_wp2
  rw [← hw2]
  clear hw2
  go_region_held3 (fun w' => w'.cell? ⟨w.heap.size, 1, none⟩ = some (.string nm) ∧ w'.cell? ⟨w.heap.size, 2, none⟩ = some (.slice ta tn tc) ∧ w'.cell? ⟨w.heap.size, 3, none⟩ = some (.slice ea en ec)) (go_keep) (first
    | (go_at_call 22; (with_reducible refine E0'.mono ?_); rintro r0 u0 ⟨rfl, V0⟩; obtain ⟨m00, m01, m02⟩ := HCC.out u0 V0.out)
    | (go_at_call 23; (with_reducible refine (E1.out u0 V0.out).mono ?_); rintro r1 u1 ⟨rfl, V1⟩; obtain ⟨m10, m11, m12⟩ := HCC.out u1 V1.out))
  all_goals
    have HBL : Hid (Below w.heap.size w u1) := HB2.out.trans (V1.out.mono HB2.out.size)
    go_wp2
    go_ret
    exact ⟨rfl, by first | exact HBL.out | exact HBL.out.drew | exact below_drewN HBL.out _⟩

theorem v_printDecl (w : World) {d : DC} {p : DPl} (h : DcA w d p) (hok : okD d = true) :
    Calls Tryd.prog 14 #[dV d p] w fun e w' => e = .returned (.string (prD d)) ∧ Below w.heap.size w w' := by
  obtain ⟨ta, tc, ea, ec, h1, h2⟩ := h.form
  have hc : cD d = d.nm.size + cTs d.ty + cEs d.ex := rfl
  have hcc := h.cost
  unfold dV
  rw [h1, h2]
  unfold okD at hok
  rw [Bool.and_eq_true] at hok
  obtain ⟨-, hok⟩ := hok
  unfold prD
  split at hok
  case isTrue z =>
    rw [if_pos z, z]
    exact v_pd1 w d.nm ta ea _ tc _ ec (by omega)
  case isFalse z =>
    rw [if_neg z]
    split at hok
    case isTrue z2 =>
      rw [if_pos z2, z2]
      simp only [Bool.and_eq_true] at hok
      have s1 := prT_sz (Or.inl hok.1) (Nat.le_refl _)
      exact v_pd2 w d.nm (prT d.ty) ta ea _ tc _ ec (by omega) (Nat.le_trans s1 (by omega)) (fun W hb => v_dT W (h.below hb) h1 hok.1)
    case isFalse z2 =>
      simp only [Bool.and_eq_true, decide_eq_true_eq] at hok
      rw [if_neg z2, hok.1.1]
      have s1 := prT_sz (Or.inl hok.1.2) (Nat.le_refl _)
      have s2 := prE_sz hok.2 (Nat.le_refl _)
      exact v_pd3 w d.nm (prT d.ty) (prE d.ex) ta ea _ tc _ ec (by omega) (Nat.le_trans s1 (by omega)) (Nat.le_trans s2 (by omega)) (fun W hb => v_dT W (h.below hb) h1 hok.1.2) (fun W hb => v_dE W (h.below hb) h2 hok.2)

end Go.Proofs.YtcehppndpccldaaDoor

namespace Go.Proofs.YtcehppndpccldaaDoor
open Go.RowKit

def rgh (ds : List DC) : Nat := (ds.map fun d => 4 + d.ty.length + d.ex.length).sum
theorem rgh_le (ds : List DC) : rgh ds ≤ 4 * cDs ds := by
  unfold rgh cDs
  induction ds with
  | nil => simp
  | cons d ds ih =>
    rw [List.map_cons, List.sum_cons, List.map_cons, List.sum_cons, List.length_cons]
    have hc : cD d = d.nm.size + (d.ty.length + (d.ty.map cT).sum) + (d.ex.length + (d.ex.map cE).sum) := rfl
    omega
theorem rgh_take {ds : List DC} {k : Nat} (hk : k < ds.length) : rgh (ds.take (k + 1)) = rgh (ds.take k) + (4 + ds[k].ty.length + ds[k].ex.length) := by
  unfold rgh
  rw [List.take_add_one, List.getElem?_eq_getElem hk, List.map_append, List.sum_append]
  simp
theorem rgh_mono (ds : List DC) (k : Nat) : rgh (ds.take k) ≤ rgh ds := sum_take _ _ _
theorem prDs_app (a b : List DC) : prDs (a ++ b) = prDs a ++ prDs b := by
  induction a with
  | nil => rw [List.nil_append]; exact (em_app _).symm
  | cons d a ih => rw [List.cons_append, prDs, prDs, ih, ByteArray.append_assoc]
theorem prDs_take {ds : List DC} {k : Nat} (hk : k < ds.length) : prDs (ds.take (k + 1)) = prDs (ds.take k) ++ prD ds[k] := by
  rw [List.take_add_one, List.getElem?_eq_getElem hk, prDs_app]
  show _ ++ (prD ds[k] ++ e0) = _
  rw [app_em]
theorem prDs_le {ds : List DC} (h : ds.all okD = true) : rgh ds ≤ (prDs ds).size ∧ (prDs ds).size ≤ 32 * cDs ds := by
  unfold rgh cDs
  induction ds with
  | nil => exact ⟨Nat.zero_le _, Nat.le_refl _⟩
  | cons d ds ih =>
    rw [List.all_cons, Bool.and_eq_true] at h
    have h1 := prD_le h.1
    have h2 := ih h.2
    rw [List.map_cons, List.sum_cons, List.map_cons, List.sum_cons, List.length_cons, prDs, ByteArray.size_append]
    omega
theorem cDs_take (ds : List DC) (k : Nat) : cDs (ds.take k) ≤ cDs ds := by
  unfold cDs
  have := sum_take cD ds k
  have : (ds.take k).length ≤ ds.length := by rw [List.length_take]; omega
  omega
theorem all_take {ds : List DC} {k : Nat} (hk : k < ds.length) : (ds.take (k + 1)).all okD = ((ds.take k).all okD && okD ds[k]) := by
  rw [List.take_add_one, List.getElem?_eq_getElem hk, List.all_append]
  simp
theorem all_no {ds : List DC} {k : Nat} (hk : k < ds.length) (h : okD ds[k] = false) : ds.all okD = false := by
  cases e : ds.all okD with
  | false => rfl
  | true =>
    have := List.all_eq_true.1 e ds[k] (List.getElem_mem hk)
    rw [h] at this
    cases this

/-- A module's declarations in memory that may be looked at. -/
structure DsA (w : World) (v : Value) (xs : List (DC × DPl)) : Prop where
  own : ∃ B, w.ownsRow B 38 4 v xs.length (dcsC xs)
  ok : ∀ x, x ∈ xs → DcA w x.1 x.2
  cost : cDs (xs.map Prod.fst) ≤ 1048576
theorem DsA.below {w w' : World} {v : Value} {xs : List (DC × DPl)} (h : DsA w v xs) (hb : Below w.heap.size w w') : DsA w' v xs := ⟨by obtain ⟨B, r⟩ := h.own; exact ⟨B, own_kp r (below_kp hb) (by decide)⟩, fun x hx => (h.ok x hx).below hb, h.cost⟩
theorem DsA.form {w : World} {v : Value} {xs : List (DC × DPl)} (h : DsA w v xs) : ∃ a c, v = .slice a xs.length c := by obtain ⟨B, r⟩ := h.own; exact own_form r
theorem DsA.len {w : World} {v : Value} {xs : List (DC × DPl)} (h : DsA w v xs) : xs.length ≤ 1048576 := by
  have h1 : cDs (xs.map Prod.fst) = (xs.map Prod.fst).length + ((xs.map Prod.fst).map cD).sum := rfl
  have := h.cost
  rw [List.length_map] at h1
  omega
theorem DsA.item {w : World} {a : Option Addr} {c : Nat} {xs : List (DC × DPl)} (h : DsA w (.slice a xs.length c) xs) {k : Nat} (hk : k < xs.length) : ∃ g ta tc ea ec, a = some ⟨g, 0, none⟩ ∧ w.cell? ⟨g, k * 4, none⟩ = some (Value.int .i64 xs[k].1.kind) ∧ w.cell? ⟨g, k * 4 + 1, none⟩ = some (Value.string xs[k].1.nm) ∧ w.cell? ⟨g, k * 4 + 2, none⟩ = some (Value.slice ta xs[k].1.ty.length tc) ∧ w.cell? ⟨g, k * 4 + 3, none⟩ = some (Value.slice ea xs[k].1.ex.length ec) ∧ DcA w xs[k].1 xs[k].2 ∧ dV xs[k].1 xs[k].2 = .agg #[.int .i64 xs[k].1.kind, .string xs[k].1.nm, .slice ta xs[k].1.ty.length tc, .slice ea xs[k].1.ex.length ec] := by
  obtain ⟨B, r⟩ := h.own
  obtain ⟨g, gc, ev, _⟩ := own_blk r (show 0 < xs.length by omega)
  simp only [Value.slice.injEq] at ev
  obtain ⟨rfl, -, rfl⟩ := ev
  have ok := h.ok _ (List.getElem_mem hk)
  obtain ⟨ta, tc, ea, ec, h1, h2⟩ := ok.form
  exact ⟨g, ta, tc, ea, ec, rfl, own_at (f := dcC) dcC_len r (j := k) (r := 0) rfl hk (by omega) rfl, own_at (f := dcC) dcC_len r rfl hk (by omega) rfl, own_at (f := dcC) dcC_len r rfl hk (by omega) (by rw [← h1]; rfl), own_at (f := dcC) dcC_len r rfl hk (by omega) (by rw [← h2]; rfl), ok, by unfold dV; rw [h1, h2]⟩

set_option maxRecDepth 100000 in
set_option maxHeartbeats 4000000 in
theorem v_valid (w : World) {v : Value} {xs : List (DC × DPl)} (h : DsA w v xs) {l : List DC} (hl : xs.map Prod.fst = l) :
    Calls Tryd.prog 6 #[.agg #[v]] w fun e w' => e = .returned (.bool (okM l)) ∧ Below w.heap.size w w' := by
  obtain ⟨a, c, rfl⟩ := h.form
  have hlen := h.len
  have ll : l.length = xs.length := by rw [← hl, List.length_map]
  have hat : ∀ {k : Nat} (hk : k < xs.length), l[k]'(by omega) = xs[k].1 := fun {k} hk => by subst hl; rw [List.getElem_map]
  have hcost : cDs l ≤ 1048576 := by rw [← hl]; exact h.cost
  have hrg := rgh_le l
  have HRS : Hid (∀ {k : Nat} (hk : k < xs.length), rgh (l.take (k + 1)) = rgh (l.take k) + (4 + xs[k].1.ty.length + xs[k].1.ex.length)) := fun {k} hk => by rw [rgh_take (by omega), hat hk]
  have HRB : Hid (∀ k, rgh (l.take k) ≤ 4194304) := fun k => Nat.le_trans (rgh_mono l k) (by omega)
  have HPS : Hid (∀ {k : Nat} (hk : k < xs.length), prDs (l.take (k + 1)) = prDs (l.take k) ++ prD xs[k].1 ∧ (l.take (k + 1)).all okD = ((l.take k).all okD && okD xs[k].1) ∧ (okD xs[k].1 = false → okM l = false)) := fun {k} hk => by
    refine ⟨by rw [prDs_take (by omega), hat hk], by rw [all_take (by omega), hat hk], fun z => ?_⟩
    unfold okM
    rw [all_no (k := k) (by omega) (by rw [hat hk]; exact z)]
    rfl
  have HPB : Hid (∀ k, (l.take k).all okD = true → (prDs (l.take k)).size ≤ 33554432) := fun k hk => by
    have := (prDs_le hk).2
    have := cDs_take l k
    omega
  have HEX : Hid (1000 < rgh l → okM l = false) := fun hb => by
    unfold okM
    cases e : l.all okD with
    | false => rfl
    | true =>
      have := (prDs_le e).1
      rw [decide_eq_false (by omega)]
      rfl
  have HEN : Hid (l.all okD = true → okM l = decide ((prDs l).size ≤ 1000)) := fun e => by unfold okM; rw [e]; rfl
  have HTK : Hid (l.take xs.length = l) := by show _ = _; rw [← ll]; exact List.take_length
  have HDS : Hid (∀ W, Below w.heap.size w W → DsA W (.slice a xs.length c) xs) := fun W hb => h.below hb
  obtain ⟨b, hb⟩ : ∃ b, b = okM l := ⟨_, rfl⟩
  rw [← hb] at HPS HEX HEN ⊢
  clear h hl ll hat hcost hrg hb
  obtain ⟨w1, hw1⟩ : ∃ W, W = w.alloc (.cells #[.slice a xs.length c] 29) := ⟨_, rfl⟩
  have HB1 : Hid (Below w.heap.size w w1) := by rw [hw1]; exact bel1 _ _
  have HC : Hid (∀ W : World, Below w1.heap.size w1 W → W.cell? ⟨w.heap.size, 0, none⟩ = some (.slice a xs.length c)) := fun W hb => by
    have k0 : w1.cell? ⟨w.heap.size, 0, none⟩ = some (.slice a xs.length c) := by rw [hw1]; exact (row1 w (.slice a xs.length c) 29).cell (i := 0) (by omega)
    exact (hb.cell (p := ⟨w.heap.size, 0, none⟩) (World.block_lt_of_cell? _ _ k0)).trans k0
  go_enter Tryd.func6, Tryd.ntmps6
  go_wp2
  rw [← hw1]
  clear hw1
  go_loopw [3, 4] (fun sz i wr => ∃ k m : Nat, k ≤ xs.length ∧ m ≤ 4194304 ∧ i = .int .i64 k ∧ sz = .int .i64 m ∧ Hid (m = rgh (l.take k)) ∧ Hid (Below w1.heap.size w1 wr)) (fun _ i _ => xs.length - (intOf i).toNat)
  case atStart => exact ⟨0, 0, Nat.zero_le _, by omega, rfl, rfl, rfl, Below.refl _ _⟩
  case round =>
    obtain ⟨k, m, hk, hm, rfl, rfl, HM, HW⟩ := hrel
    have kc := HC.out wr HW.out
    by_cases hlt : k < xs.length
    · obtain ⟨g, ta, tc, ea, ec, rfl, y0, y1, y2, y3, di, dv⟩ := (HDS.out wr (HB1.out.trans (HW.out.mono HB1.out.size))).item hlt
      have hs := HRS.out hlt
      have hs2 := HRB.out (k + 1)
      rw [← HM.out] at hs
      obtain ⟨X, hX⟩ : ∃ X, X = xs[k] := ⟨_, rfl⟩
      rw [← hX] at y0 y1 y2 y3 hs
      clear di dv hX
      have HS : Hid (m + (4 + X.1.ty.length + X.1.ex.length) = rgh (l.take (k + 1))) := hs.symm
      have hb1 : m + (4 + X.1.ty.length + X.1.ex.length) ≤ 4194304 := by omega
      clear hs hs2
      obtain ⟨tn, htn⟩ : ∃ n, n = X.1.ty.length := ⟨_, rfl⟩
      obtain ⟨en, hen⟩ : ∃ n, n = X.1.ex.length := ⟨_, rfl⟩
      rw [← htn, ← hen] at HS hb1
      rw [← htn] at y2
      rw [← hen] at y3
      have a1 : IntKind.i64.wrap ((m : Int) + 4) = (m : Int) + 4 := by rw [IntKind.wrap_i64]; omega
      have a2 : IntKind.i64.wrap ((m : Int) + 4 + (tn : Int)) = (m : Int) + 4 + (tn : Int) := by rw [IntKind.wrap_i64]; omega
      have a3 : IntKind.i64.wrap ((m : Int) + 4 + (tn : Int) + (en : Int)) = (m : Int) + 4 + (tn : Int) + (en : Int) := by rw [IntKind.wrap_i64]; omega
      have hkl : (k : Int) < (xs.length : Int) := by omega
      have hk0 : (0 : Int) ≤ (k : Int) := by omega
      go_wp2
      go_quiet (fail)
      go_wp2
      go_roundw
      case rel => exact ⟨k + 1, m + (4 + tn + en), by omega, by omega, by go_num, by congr 1; omega, HS, by first | exact HW.out | exact HW.out.drew | exact below_drewN HW.out _⟩
      case measure => simp [intOf]; omega
    · have hkn : k = xs.length := by omega
      subst hkn
      rw [HTK.out] at HM
      by_cases hbig : 1000 < m
      · have HF : Hid (b = false) := HEX.out (by rw [← HM.out]; exact hbig)
        have gb : (1000 : Int) < (m : Int) := by omega
        go_wp2
        go_ret
        exact ⟨by rw [HF.out]; rfl, HB1.out.trans (HW.out.mono HB1.out.size)⟩
      · have gb : ¬ (1000 : Int) < (m : Int) := by omega
        have HW1 : Hid (Below w1.heap.size w1 wr) := HW
        go_wp2
        clear HW HM kc
        go_loopw [5, 6] (fun sv i wq => ∃ (k : Nat) (s : ByteArray), k ≤ xs.length ∧ i = .int .i64 k ∧ sv = .string s ∧ Hid (s = prDs (l.take k)) ∧ Hid ((l.take k).all okD = true) ∧ Hid (Below w1.heap.size w1 wq)) (fun _ i _ => xs.length - (intOf i).toNat)
        case atStart => exact ⟨0, _, Nat.zero_le _, rfl, rfl, rfl, rfl, HW1⟩
        case round =>
          obtain ⟨k, s, hk, rfl, rfl, HS, HA, HW⟩ := hrel
          have HWw : Hid (Below w.heap.size w wr) := HB1.out.trans (HW.out.mono HB1.out.size)
          have kc := HC.out wr HW.out
          have sb := HPB.out k HA.out
          rw [← HS.out] at sb
          by_cases hlt : k < xs.length
          · obtain ⟨g, ta, tc, ea, ec, rfl, y0, y1, y2, y3, di, dv⟩ := (HDS.out wr HWw.out).item hlt
            obtain ⟨p1, p2, p3⟩ := HPS.out hlt
            have hsb2 := HPB.out (k + 1)
            rw [p1, p2, HA.out, Bool.true_and, ← HS.out, ByteArray.size_append] at hsb2
            rw [← HS.out] at p1
            rw [HA.out, Bool.true_and] at p2
            have CO := v_declOk wr di
            have CP := fun (W : World) (hb : Below wr.heap.size wr W) (ho : okD xs[k].1 = true) => v_printDecl W (di.below hb) ho
            rw [dv] at CO
            rw [dv] at CP
            obtain ⟨X, hX⟩ : ∃ X, X = xs[k] := ⟨_, rfl⟩
            rw [← hX] at y0 y1 y2 y3 p1 p2 p3 hsb2 CO CP
            have HY : Hid (∀ W, Below wr.heap.size wr W → W.cell? ⟨w.heap.size, 0, none⟩ = some (.slice (some ⟨g, 0, none⟩) xs.length c) ∧ W.cell? ⟨g, k * 4, none⟩ = some (Value.int .i64 X.1.kind) ∧ W.cell? ⟨g, k * 4 + 1, none⟩ = some (Value.string X.1.nm) ∧ W.cell? ⟨g, k * 4 + 2, none⟩ = some (Value.slice ta X.1.ty.length tc) ∧ W.cell? ⟨g, k * 4 + 3, none⟩ = some (Value.slice ea X.1.ex.length ec)) := fun W hb => by
              have q : ∀ {a : Addr} {u : Value}, wr.cell? a = some u → W.cell? a = some u := fun {a u} hh => (hb.cell (p := a) (World.block_lt_of_cell? _ _ hh)).trans hh
              exact ⟨q kc, q y0, q y1, q y2, q y3⟩
            have hkl : (k : Int) < (xs.length : Int) := by omega
            have hk0 : (0 : Int) ≤ (k : Int) := by omega
            clear di dv hX
            cases ho : okD X.1 with
            | false =>
              have HF : Hid (b = false) := p3 ho
              rw [ho] at CO
              have CO' : Hid (Calls Tryd.prog 13 #[.agg #[.int .i64 X.1.kind, .string X.1.nm, .slice ta X.1.ty.length tc, .slice ea X.1.ex.length ec]] wr fun e w' => e = .returned (.bool false) ∧ Below wr.heap.size wr w') := CO
              clear CO CP p1 p2 p3 hsb2 ho
              go_wp2_with (first | (go_at_call 13; refine CO'.out.mono ?_; rintro e w2 ⟨rfl, hb2⟩))
              go_ret
              exact ⟨by rw [HF.out]; rfl, HWw.out.trans (hb2.mono HWw.out.size)⟩
            | true =>
              rw [ho] at CO
              have CO' : Hid (Calls Tryd.prog 13 #[.agg #[.int .i64 X.1.kind, .string X.1.nm, .slice ta X.1.ty.length tc, .slice ea X.1.ex.length ec]] wr fun e w' => e = .returned (.bool true) ∧ Below wr.heap.size wr w') := CO
              obtain ⟨T, hT⟩ : ∃ T, T = prD X.1 := ⟨_, rfl⟩
              rw [← hT] at p1
              have sT : s.size + T.size ≤ 33554432 := by rw [hT]; exact hsb2 ho
              have CP' : Hid (∀ W, Below wr.heap.size wr W → Calls Tryd.prog 14 #[.agg #[.int .i64 X.1.kind, .string X.1.nm, .slice ta X.1.ty.length tc, .slice ea X.1.ex.length ec]] W fun e w' => e = .returned (.string T) ∧ Below W.heap.size W w') := fun W hb => by rw [hT]; exact CP W hb ho
              have HS2 : Hid (s ++ T = prDs (l.take (k + 1))) := p1.symm
              have HA2 : Hid ((l.take (k + 1)).all okD = true) := p2.trans ho
              have cc := fun W => run_string_add_sum (P := Tryd.prog) (w := W) s T (by omega)
              clear CO CP p1 p2 p3 hsb2 ho hT
              go_wp2_with fail
              refine CO'.out.mono ?_
              rintro e w2 ⟨rfl, hb2⟩
              have HW2 : Hid (Below wr.heap.size wr w2) := hb2
              have C2 := CP'.out w2 hb2
              obtain ⟨x0, x1, x2, x3, x4⟩ := HY.out w2 hb2
              clear hb2 kc y0 y1 y2 y3
              go_wp2_with fail
              refine C2.mono ?_
              rintro e w3 ⟨rfl, hb3⟩
              have HW3 : Hid (Below w1.heap.size w1 w3) := HW.out.trans ((HW2.out.trans (hb3.mono HW2.out.size)).mono HW.out.size)
              clear hb3 C2 x0 x1 x2 x3 x4
              go_wp2
              go_roundw
              case rel => exact ⟨k + 1, s ++ T, by omega, by go_num, rfl, HS2, HA2, HW3⟩
              case measure => simp [intOf]; omega
          · have hkn : k = xs.length := by omega
            subst hkn
            rw [HTK.out] at HS HA
            have HF : Hid (b = decide (s.size ≤ 1000)) := by show _ = _; rw [HEN.out HA.out, HS.out]
            go_wp2
            go_ret
            refine ⟨?_, HWw.out⟩
            rw [HF.out]
            show Ending.returned (Value.bool (decide ((s.size : Int) ≤ 1000))) = _
            congr 2
            exact decide_eq_decide.2 (by omega)

end Go.Proofs.YtcehppndpccldaaDoor

