/-
  Outcomes as text: the program's ShowOutcome.
-/
import Derived.Test.YtdolejkpnpchaaaDoorOutG
namespace Go.Proofs.YtdolejkpnpchaaaDoor
open Go.RowKit

/-- The text that is built. -/
def Bld (W : World) (b : Nat) (x : ByteArray) : Prop := Lib.IsBuilder 61 5 b b (Lib.strCells x) W
theorem Bld.below {W W' : World} {b : Nat} {x : ByteArray} (h : Bld W b x) (hb : Below W.heap.size W W') : Bld W' b x := by
  have one : ∀ p, Lib.BuilderAt 61 5 b b p (Lib.strCells x) W → Lib.BuilderAt 61 5 b b p (Lib.strCells x) W' := by
    rintro p ⟨h1, v, h2, h3, h4⟩
    refine ⟨h1, v, ?_, own_bel h3 hb, h4⟩
    rw [hb.block b ?_]; exact h2
    rcases Nat.lt_or_ge b W.heap.size with h' | h'
    · exact h'
    · rw [Array.getElem?_eq_none h'] at h2; simp at h2
  rcases h with h | h
  · exact Or.inl (one _ h)
  · exact Or.inr (one _ h)
theorem Bld.new (w : World) : Bld (w.alloc (.cells #[.pointer none, .slice none 0 0] 61)) w.heap.size ⟨#[]⟩ := Lib.fresh_isBuilder _ _ w
theorem cells_app (x y : ByteArray) : Lib.strCells x ++ Lib.strCells y = Lib.strCells (x ++ y) := by
  unfold Lib.strCells
  rw [← List.map_append, ByteArray.data_append, Array.toList_append]
/-- What is written. -/
theorem p_put (b : Nat) (x s : ByteArray) (w : World) (h : Bld w b x) (hlen : x.size + s.size ≤ 140000000000000) (hBw : b ≤ w.heap.size) :
    Calls Tryd.prog 18 #[.pointer (some ⟨b, 0, none⟩), .string s] w fun e w' => e = .returned (.tuple #[.int .i64 s.size, .nilIface]) ∧ Bld w' b (x ++ s) ∧ Below b w w' ∧ Lib.OthersKept 5 (some b) w w' := by
  refine (p_write b b (Lib.strCells x) s w h (by rw [Lib.strCells_length]; omega) hBw).mono ?_
  rintro e w' ⟨he, h1, h2, h3⟩
  refine ⟨he, Or.inr ?_, h2, h3⟩
  rw [← cells_app]; exact h1
theorem p_string (b : Nat) (x : ByteArray) (w : World) (h : Bld w b x) (hBw : b ≤ w.heap.size) :
    Calls Tryd.prog 23 #[.pointer (some ⟨b, 0, none⟩)] w fun e w' => e = .returned (.string x) ∧ Below b w w' := by
  have C := Tryd.Builder_String_any b b x.data.toList w h hBw
  have e : (⟨x.data.toList.toArray⟩ : ByteArray) = x := by simp
  rw [e] at C
  exact C
theorem ansT_line (A : Nat → AD) (k : Nat) : ansT A k ++ lineA (A k) = ansT A (k + 1) := by
  show _ = (((ansT A k ++ ahead (A k)) ++ fullT (A k)) ++ dgsT (A k).dg (A k).nd) ++ nl
  unfold lineA
  simp only [ByteArray.append_assoc]
theorem lineA_size {a : AD} (h : AOk a) : (lineA a).size ≤ 47200000 := by
  have k1 := ahead_size h.call h.rev h.name
  have k2 := fullT_size a
  have k3 := dgsT_size a.dg a.nd h.dg
  have k4 := h.nd
  unfold lineA
  simp only [ByteArray.size_append, nl_size]
  omega
theorem kept_block {e t : TypeId} {b k : Nat} {w w' : World} {cs : Array Value} {fr : Nat × Nat} (h : Lib.OthersKept e (some b) w w') (hk : w.heap[k]? = some (.cells cs t fr)) (hb : k ≠ b) (ht : t ≠ e) : w'.heap[k]? = w.heap[k]? := by
  rw [h k _ hk (fun h' => hb (Option.some.inj h')) (fun c fz h' => ht (by injection h')), hk]
theorem five_cells (w : World) (x0 x1 x2 x3 x4 : ByteArray) : ∀ (j : Nat) x, [x0, x1, x2, x3, x4][j]? = some x → (w.alloc (.cells #[.string x0, .string x1, .string x2, .string x3, .string x4] 9)).cell? ⟨w.heap.size, j, none⟩ = some (.string x) := by
  intro j x hx
  have r := rowt5 w (.string x0) (.string x1) (.string x2) (.string x3) (.string x4) 9
  match j, hx with
  | 0, hx => cases hx; exact r.cell (i := 0) (by omega)
  | 1, hx => cases hx; exact r.cell (i := 1) (by omega)
  | 2, hx => cases hx; exact r.cell (i := 2) (by omega)
  | 3, hx => cases hx; exact r.cell (i := 3) (by omega)
  | 4, hx => cases hx; exact r.cell (i := 4) (by omega)
/-- A line of five words. -/
theorem p_five (Z : World) (x0 x1 x2 x3 x4 : ByteArray) (hz : (jn [x0, x1, x2, x3, x4]).size ≤ 140000000000000) (W : World) (hW : Below Z.heap.size Z W) :
    Calls Tryd.prog 20 #[.slice (some ⟨W.heap.size, 0, none⟩) 5 5] (W.alloc (.cells #[.string x0, .string x1, .string x2, .string x3, .string x4] 9)) fun e w' => e = .returned (.string (jn [x0, x1, x2, x3, x4] ++ nl)) ∧ Below Z.heap.size Z w' := by
  have C := p_line W.heap.size 5 [x0, x1, x2, x3, x4] (W.alloc (.cells #[.string x0, .string x1, .string x2, .string x3, .string x4] 9)) (five_cells W x0 x1 x2 x3 x4) (by simp) (Nat.le_refl _) (by simp) hz
  refine C.mono ?_
  rintro e w' ⟨he, hb⟩
  have h1 : Below Z.heap.size Z (W.alloc (.cells #[.string x0, .string x1, .string x2, .string x3, .string x4] 9)) := hW.alloc hW.size _
  exact ⟨he, h1.trans (hb.mono h1.size)⟩
theorem jn_ran (r : RD) : jn [⟨#[114, 97, 110]⟩, kw r.kind, r.mod, shw r.rev, shw r.wk] ++ nl = ranT1 r := by
  show ((⟨#[114, 97, 110]⟩ : ByteArray) ++ ((sp ++ kw r.kind) ++ ((sp ++ r.mod) ++ ((sp ++ shw r.rev) ++ ((sp ++ shw r.wk) ++ (⟨#[]⟩ : ByteArray)))))) ++ nl = _
  unfold ranT1
  have e : (⟨#[114, 97, 110, 32]⟩ : ByteArray) = ⟨#[114, 97, 110]⟩ ++ sp := by decide
  rw [e, app_nil']
  simp only [ByteArray.append_assoc]
theorem jn_end (c r d l : Int) : jn [⟨#[101, 110, 100]⟩, shw c, shw r, shw d, shw l] ++ nl = endT c r d l := by
  show ((⟨#[101, 110, 100]⟩ : ByteArray) ++ ((sp ++ shw c) ++ ((sp ++ shw r) ++ ((sp ++ shw d) ++ ((sp ++ shw l) ++ (⟨#[]⟩ : ByteArray)))))) ++ nl = _
  unfold endT
  have e : (⟨#[101, 110, 100, 32]⟩ : ByteArray) = ⟨#[101, 110, 100]⟩ ++ sp := by decide
  rw [e, app_nil']
  simp only [ByteArray.append_assoc]

set_option maxRecDepth 100000 in
set_option maxHeartbeats 4000000 in
theorem p_out (code drops rev slots : Int) (oa : Option Addr) (ga n ca : Nat) (A : Nat → AD) (P : Nat → Option Addr × Nat × Nat) (orr : Option Addr) (gr m cr : Nat) (R : Nat → RD) (st : Value) (w : World) (hn : n ≤ 1048576) (hm : m ≤ 1048576) (HA : Hid (AnsAt w oa ga n A P)) (HK : Hid (∀ i, i < n → AOk (A i))) (HR : Hid (RanAt w orr gr m R)) (HKR : Hid (∀ i, i < m → ROk (R i))) (HI : Hid (i64R code ∧ i64R rev ∧ i64R drops ∧ i64R slots)) (HT : Hid (Ten w)) :
    Calls Tryd.prog 7 #[.agg #[.int .i64 code, .slice oa n ca, .slice orr m cr, .int .i64 drops, .int .i64 rev, .int .i64 slots, st]] w fun e w' => e = .returned (.string (outT A n R m code rev drops slots)) ∧ Below w.heap.size w w' := by
  obtain ⟨b0, hb0⟩ : ∃ b0, b0 = w.heap.size := ⟨_, rfl⟩
  obtain ⟨w1, hw1⟩ : ∃ w1, w1 = w.alloc (.cells #[.int .i64 code, .slice oa n ca, .slice orr m cr, .int .i64 drops, .int .i64 rev, .int .i64 slots, st] 37) := ⟨_, rfl⟩
  have hs1 : w1.heap.size = b0 + 1 := by rw [hw1, hb0]; simp
  have HBW : Hid (Below b0 w w1) := by rw [hw1, hb0]; exact (Below.refl _ _).alloc (Nat.le_refl _) _
  have HT1 : Hid (Ten w1) := HT.out.below (by rw [← hb0]; exact HBW.out)
  have HR1 : Hid (RanAt w1 orr gr m R) := HR.out.below (by rw [← hb0]; exact HBW.out)
  have HA1 : Hid (AnsAt w1 oa ga n A P) := HA.out.below (by rw [← hb0]; exact HBW.out)
  have HBXC : Hid (∀ W, Below (b0 + 1) w1 W → W.cell? ⟨b0, 0, none⟩ = some (.int .i64 code) ∧ W.cell? ⟨b0, 1, none⟩ = some (.slice oa n ca) ∧ W.cell? ⟨b0, 2, none⟩ = some (.slice orr m cr) ∧ W.cell? ⟨b0, 3, none⟩ = some (.int .i64 drops) ∧ W.cell? ⟨b0, 4, none⟩ = some (.int .i64 rev) ∧ W.cell? ⟨b0, 5, none⟩ = some (.int .i64 slots)) := fun W hW => by
    have r : w1.rowIs b0 37 7 (fun i => (#[.int .i64 code, .slice oa n ca, .slice orr m cr, .int .i64 drops, .int .i64 rev, .int .i64 slots, st] : Array Value)[i]?.getD undef) := by
      rw [hw1, hb0]
      exact World.rowIs_alloc w #[.int .i64 code, .slice oa n ca, .slice orr m cr, .int .i64 drops, .int .i64 rev, .int .i64 slots, st] 37 _ (fun i hi => by rw [Array.getElem?_eq_getElem hi]; rfl)
    have r2 := r.of_block (hW.block b0 (Nat.lt_succ_self b0))
    exact ⟨r2.cell (i := 0) (by omega), r2.cell (i := 1) (by omega), r2.cell (i := 2) (by omega), r2.cell (i := 3) (by omega), r2.cell (i := 4) (by omega), r2.cell (i := 5) (by omega)⟩
  obtain ⟨w2, hw2⟩ : ∃ w2, w2 = w1.alloc (.cells #[.pointer none, .slice none 0 0] 61) := ⟨_, rfl⟩
  have O0 : Hid (Bld w2 (b0 + 1) (ansT A 0)) := by rw [hw2, ← hs1]; exact Bld.new w1
  have B0 : Hid (Below (b0 + 1) w1 w2) := by rw [hw2]; exact (Below.refl _ _).alloc (by omega) _
  have f1 := (HBXC.out w2 B0.out).2.1
  have HWZ : Hid (b0 = w.heap.size) := hb0
  go_enter Tryd.func7, Tryd.ntmps7
  go_upto_region 2 with fail
  rw [← hw1, ← hw2, ← hb0]
  clear hw1 hw2 hb0 HT HR HA
  go_wp2_with fail
  clear f1
  go_loopw [11] (fun i wi => ∃ k : Nat, k ≤ n ∧ i = .int .i64 (k : Int) ∧ Hid (Bld wi (b0 + 1) (ansT A k)) ∧ Hid (Below (b0 + 1) w1 wi)) (fun i _ => n - (intOf i).toNat)
  case atStart => exact ⟨0, Nat.zero_le _, rfl, O0, B0⟩
  case round =>
    clear O0 B0
    obtain ⟨k, hk, rfl, HO, HB⟩ := hrel
    by_cases hlt : k < n
    · obtain ⟨call, hcall⟩ : ∃ z, z = (A k).call := ⟨_, rfl⟩
      obtain ⟨nm, hnm⟩ : ∃ z, z = (A k).name := ⟨_, rfl⟩
      obtain ⟨rv, hrv⟩ : ∃ z, z = (A k).rev := ⟨_, rfl⟩
      obtain ⟨fl, hfl⟩ : ∃ z, z = (A k).full := ⟨_, rfl⟩
      obtain ⟨nd, hnd⟩ : ∃ z, z = (A k).nd := ⟨_, rfl⟩
      obtain ⟨od, hod⟩ : ∃ z, z = (P k).1 := ⟨_, rfl⟩
      obtain ⟨cd, hcd⟩ : ∃ z, z = (P k).2.2 := ⟨_, rfl⟩
      have AR := HA1.out.below (W' := wr) (by rw [hs1]; exact HB.out)
      have e0 := AR.here (by omega)
      subst e0
      have k0 := AR.c0 k hlt
      have k1 := AR.c1 k hlt
      have k2 := AR.c2 k hlt
      have k3 := AR.c3 k hlt
      have k4 := AR.c4 k hlt
      rw [← hcall] at k0
      rw [← hnm] at k1
      rw [← hrv] at k2
      rw [← hfl] at k3
      rw [← hnd, ← hod, ← hcd] at k4
      obtain ⟨bA, hbA⟩ : ∃ z, z = wr.heap.size := ⟨_, rfl⟩
      obtain ⟨Y, hY⟩ : ∃ Y, Y = wr.alloc (.cells #[.int .i64 call, .string nm, .int .i64 rv, .bool fl, .slice od nd cd] 47) := ⟨_, rfl⟩
      have hYs : Y.heap.size = bA + 1 := by rw [hY, hbA]; simp
      have hbb : b0 + 1 ≤ bA := by rw [hbA, ← hs1]; exact HB.out.size
      have WY : Below wr.heap.size wr Y := by rw [hY]; exact (Below.refl _ _).alloc (Nat.le_refl _) _
      have OY : Hid (Bld Y (b0 + 1) (ansT A k)) := HO.out.below WY
      have BY : Hid (Below (b0 + 1) w1 Y) := HB.out.trans (WY.mono (by rw [← hbA]; exact hbb))
      have AY := HA1.out.below (W' := Y) (by rw [hs1]; exact BY.out)
      obtain ⟨y0, y1, y2, y3, y4⟩ := (show Box5 Y bA call nm rv fl (.slice od nd cd) by rw [hY, hbA]; exact box5 wr _ _ _ _ _ _)
      obtain ⟨S, hS⟩ : ∃ S, S = lineA (A k) := ⟨_, rfl⟩
      have C1 : Hid (Calls Tryd.prog 19 #[.agg #[.int .i64 call, .string nm, .int .i64 rv, .bool fl, .slice od nd cd]] Y fun e w' => e = .returned (.string S) ∧ Hid (Bld w' (b0 + 1) (ansT A k) ∧ Below (b0 + 1) w1 w')) := by
        rw [hcall, hnm, hrv, hfl, hnd, hod, hS]
        refine (p_answer (A k) (P k).1 (P k).2.1 cd Y (HK.out k hlt) (AY.dh k hlt) (AY.d0 k hlt) (AY.d1 k hlt) (HT1.out.below (by rw [hs1]; exact BY.out))).mono ?_
        rintro e w' ⟨he, hb⟩
        exact ⟨he, OY.out.below hb, BY.out.trans (hb.mono (by omega))⟩
      have z4 : (ansT A k).size ≤ 47200000 * k := ansT_size A k (fun j hj => HK.out j (by omega))
      have z5 : S.size ≤ 47200000 := by rw [hS]; exact lineA_size (HK.out k hlt)
      have HS : Hid (ansT A k ++ S = ansT A (k + 1)) := by show _ = _; rw [hS]; exact ansT_line A k
      clear hcall hnm hrv hfl hnd hod hcd hS AR AY WY
      go_upto_region 5 with fail
      rw [← hY, ← hbA]
      clear hY hbA k0 k1 k2 k3 k4
      go_wp2_with (first
        | (go_at_call 19; refine C1.out.mono ?_; rintro e w5 ⟨rfl, H5⟩; have z6 : b0 + 1 ≤ w5.heap.size := (by rw [← hs1]; exact H5.out.2.size))
        | (go_at_call 18; refine (p_put (b0 + 1) (ansT A k) S _ H5.out.1 (by omega) z6).mono ?_; rintro e w6 ⟨rfl, H6, B6, _⟩))
      rw [HS.out] at H6
      have FIN : Hid (Bld w6 (b0 + 1) (ansT A (k + 1)) ∧ Below (b0 + 1) w1 w6) := ⟨H6, H5.out.2.trans B6⟩
      clear H6 B6 H5 C1 OY BY y0 y1 y2 y3 y4
      go_wp2
      go_roundw
      case rel => exact ⟨k + 1, by omega, by go_num, FIN.out.1, FIN.out.2⟩
      case measure => simp [intOf]; omega
    · have ek : k = n := by omega
      subst ek
      have f2 := (HBXC.out wr HB.out).2.2.1
      have z4 : (ansT A k).size ≤ 47200000 * k := ansT_size A k (fun j hj => HK.out j (by omega))
      have OA0 : Hid (Bld wr (b0 + 1) (ansT A k ++ ransT R 0)) := by
        have e : ansT A k ++ ransT R 0 = ansT A k := app_nil _
        rw [e]; exact HO.out
      clear HO hlt hk
      go_wp2_with fail
      clear f2
      go_loopw [22] (fun i wi => ∃ q : Nat, q ≤ m ∧ i = .int .i64 (q : Int) ∧ Hid (Bld wi (b0 + 1) (ansT A k ++ ransT R q)) ∧ Hid (Below (b0 + 1) w1 wi)) (fun i _ => m - (intOf i).toNat)
      case atStart => exact ⟨0, Nat.zero_le _, rfl, OA0, HB⟩
      case round =>
        clear OA0 HB
        obtain ⟨q, hq, rfl, HO, HB⟩ := hrel
        have z9 : (ransT R q).size ≤ 1048700 * q := ransT_size R q (fun j hj => HKR.out j (by omega))
        by_cases hlq : q < m
        · obtain ⟨kd, hkd⟩ : ∃ z, z = (R q).kind := ⟨_, rfl⟩
          obtain ⟨md, hmd⟩ : ∃ z, z = (R q).mod := ⟨_, rfl⟩
          obtain ⟨rv, hrv⟩ : ∃ z, z = (R q).rev := ⟨_, rfl⟩
          obtain ⟨wk, hwk⟩ : ∃ z, z = (R q).wk := ⟨_, rfl⟩
          have AR := HR1.out.below (W' := wr) (by rw [hs1]; exact HB.out)
          have e0 := AR.here (by omega)
          subst e0
          have k0 := AR.c0 q hlq
          have k1 := AR.c1 q hlq
          have k2 := AR.c2 q hlq
          have k3 := AR.c3 q hlq
          rw [← hkd] at k0
          rw [← hmd] at k1
          rw [← hrv] at k2
          rw [← hwk] at k3
          obtain ⟨bR, hbR⟩ : ∃ z, z = wr.heap.size := ⟨_, rfl⟩
          obtain ⟨Z, hZ⟩ : ∃ Z, Z = wr.alloc (.cells #[.int .i64 kd, .string md, .int .i64 rv, .int .i64 wk] 55) := ⟨_, rfl⟩
          have hZs : Z.heap.size = bR + 1 := by rw [hZ, hbR]; simp
          have hbb : b0 + 1 ≤ bR := by rw [hbR, ← hs1]; exact HB.out.size
          have hne : bR ≠ b0 + 1 := fun e => by
            have hb : b0 + 1 < wr.heap.size := by
              rcases HO.out with h | h
              · exact h.lt
              · exact h.lt
            omega
          have WZ : Below wr.heap.size wr Z := by rw [hZ]; exact (Below.refl _ _).alloc (Nat.le_refl _) _
          have OZ : Hid (Bld Z (b0 + 1) (ansT A k ++ ransT R q)) := HO.out.below WZ
          have BZ : Hid (Below (b0 + 1) w1 Z) := HB.out.trans (WZ.mono (by rw [← hbR]; exact hbb))
          have TZ : Ten Z := HT1.out.below (by rw [hs1]; exact BZ.out)
          have BX : Hid (Box4 Z bR kd md rv wk) := by rw [hZ, hbR]; exact box4 wr _ _ _ _ _
          have BK : Hid (Z.heap[bR]? = some (.cells #[.int .i64 kd, .string md, .int .i64 rv, .int .i64 wk] 55 (0, 0))) := by rw [hZ, hbR]; exact heap_alloc_new wr _
          have HC : Hid (∀ W, Below (bR + 1) Z W → Box4 W bR kd md rv wk) := fun W hW => BX.out.of_block (hW.block bR (Nat.lt_succ_self _))
          have OK := HKR.out q hlq
          obtain ⟨sk, hsk⟩ : ∃ z, z = kw kd := ⟨_, rfl⟩
          obtain ⟨sv, hsv⟩ : ∃ z, z = shw rv := ⟨_, rfl⟩
          obtain ⟨sw, hsw⟩ : ∃ z, z = shw wk := ⟨_, rfl⟩
          obtain ⟨S, hS⟩ : ∃ z, z = ranT1 (R q) := ⟨_, rfl⟩
          have hJ : jn [⟨#[114, 97, 110]⟩, sk, md, sv, sw] ++ nl = S := by rw [hsk, hsv, hsw, hkd, hmd, hrv, hwk, hS]; exact jn_ran (R q)
          have z5 : S.size ≤ 1048700 := by rw [hS]; exact ranT1_size OK
          have z6 : (jn [⟨#[114, 97, 110]⟩, sk, md, sv, sw]).size ≤ 140000000000000 := by
            have : (jn [⟨#[114, 97, 110]⟩, sk, md, sv, sw] ++ nl).size = S.size := by rw [hJ]
            rw [ByteArray.size_append, nl_size] at this; omega
          have CK : Hid (∀ W, Calls Tryd.prog 21 #[.int .i64 kd] W fun e w' => e = .returned (.string sk) ∧ w' = W) := fun W => by rw [hsk]; exact p_kind kd W
          have C1 : Hid (∀ W, Below (bR + 1) Z W → Calls Tryd.prog 22 #[.int .i64 rv] W fun e w' => e = .returned (.string sv) ∧ Below (bR + 1) Z w') := fun W hW => by
            rw [← hZs] at hW
            rw [hsv, ← hZs]; exact p_itoa_in (by rw [hrv]; exact OK.rev) TZ W hW 0
          have C2 : Hid (∀ W, Below (bR + 1) Z W → Calls Tryd.prog 22 #[.int .i64 wk] W fun e w' => e = .returned (.string sw) ∧ Below (bR + 1) Z w') := fun W hW => by
            rw [← hZs] at hW
            rw [hsw, ← hZs]; exact p_itoa_in (by rw [hwk]; exact OK.wk) TZ W hW 0
          have CL : Hid (∀ W, Below (bR + 1) Z W → Calls Tryd.prog 20 #[.slice (some ⟨W.heap.size, 0, none⟩) 5 5] (W.alloc (.cells #[.string ⟨#[114, 97, 110]⟩, .string sk, .string md, .string sv, .string sw] 9)) fun e w' => e = .returned (.string S) ∧ Below (bR + 1) Z w') := fun W hW => by
            rw [← hZs] at hW
            rw [← hJ, ← hZs]; exact p_five Z _ _ _ _ _ z6 W hW
          have CP : Hid (∀ W, Below (bR + 1) Z W → Calls Tryd.prog 18 #[.pointer (some ⟨b0 + 1, 0, none⟩), .string S] W fun e w' => e = .returned (.tuple #[.int .i64 S.size, .nilIface]) ∧ Hid (Bld w' (b0 + 1) (ansT A k ++ ransT R (q + 1)) ∧ Below (b0 + 1) w1 w') ∧ Box4 w' bR kd md rv wk) := fun W hW => by
            have e : ansT A k ++ ransT R (q + 1) = (ansT A k ++ ransT R q) ++ S := by rw [hS, ByteArray.append_assoc]; rfl
            rw [e]
            have hz : bR + 1 ≤ W.heap.size := by rw [← hZs]; exact hW.size
            refine (p_put (b0 + 1) (ansT A k ++ ransT R q) S W (OZ.out.below (by rw [hZs]; exact hW)) (by rw [ByteArray.size_append]; omega) (by omega)).mono ?_
            rintro e w' ⟨he, h1, h2, h3⟩
            refine ⟨he, ⟨h1, (BZ.out.trans (hW.mono (by omega))).trans h2⟩, (HC.out W hW).of_block (kept_block h3 ((hW.block bR (Nat.lt_succ_self _)).trans BK.out) hne (by decide))⟩
          have B0z : Below (bR + 1) Z Z := Below.refl _ _
          obtain ⟨y0, y1, y2, y3⟩ := BX.out
          clear hkd hmd hrv hwk hsk hsv hsw hS hJ OK AR TZ WZ
          go_upto_region 10 with fail
          rw [← hZ, ← hbR]
          clear hZ hbR k0 k1 k2 k3
          go_region_held3 (fun w' => w'.cell? ⟨bR, 0, none⟩ = some (.int .i64 kd) ∧ w'.cell? ⟨bR, 1, none⟩ = some (.string md) ∧ w'.cell? ⟨bR, 2, none⟩ = some (.int .i64 rv) ∧ w'.cell? ⟨bR, 3, none⟩ = some (.int .i64 wk)) (go_keep) (first
            | (go_at_call 21; refine (CK.out _).mono ?_; rintro e w3 ⟨rfl, rfl⟩)
            | (go_at_call 22; refine (C1.out _ (by first | exact B0z | exact B0z.drew)).mono ?_; rintro e w5 ⟨rfl, B5⟩; obtain ⟨a0, a1, a2, a3⟩ := HC.out w5 B5)
            | (go_at_call 22; refine (C2.out _ (by first | exact B5 | exact B5.drew)).mono ?_; rintro e w6 ⟨rfl, B6⟩; obtain ⟨c0, c1, c2, c3⟩ := HC.out w6 B6)
            | (go_at_call 20; refine (CL.out w6 B6).mono ?_; rintro e w7 ⟨rfl, B7⟩; obtain ⟨d0, d1, d2, d3⟩ := HC.out w7 B7)
            | (go_at_call 18; refine (CP.out _ (by first | exact B7 | exact B7.drew)).mono ?_; rintro e w8 ⟨rfl, F8, X8⟩; obtain ⟨g0, g1, g2, g3⟩ := X8))
          all_goals
            clear CK C1 C2 CL CP B5 B6 B7 B0z OZ BZ HC BX BK
            go_wp2
            go_roundw
            case rel => exact ⟨q + 1, by omega, by go_num, F8.out.1, F8.out.2⟩
            case measure => simp [intOf]; omega
        · have eq : q = m := by omega
          subst eq
          obtain ⟨f0, f1, f2, f3, f4, f5⟩ := HBXC.out wr HB.out
          clear f1
          obtain ⟨i0, i1, i2, i3⟩ := HI.out
          obtain ⟨sc, hsc⟩ : ∃ z, z = shw code := ⟨_, rfl⟩
          obtain ⟨sr, hsr⟩ : ∃ z, z = shw rev := ⟨_, rfl⟩
          obtain ⟨sd, hsd⟩ : ∃ z, z = shw drops := ⟨_, rfl⟩
          obtain ⟨sl, hsl⟩ : ∃ z, z = shw slots := ⟨_, rfl⟩
          obtain ⟨S, hS⟩ : ∃ z, z = endT code rev drops slots := ⟨_, rfl⟩
          obtain ⟨X, hX⟩ : ∃ X, X = outT A k R q code rev drops slots := ⟨_, rfl⟩
          obtain ⟨bW, hbW⟩ : ∃ z, z = wr.heap.size := ⟨_, rfl⟩
          have hbb : b0 + 1 ≤ bW := by rw [hbW, ← hs1]; exact HB.out.size
          have TW : Ten wr := HT1.out.below (by rw [hs1]; exact HB.out)
          have hJ : jn [⟨#[101, 110, 100]⟩, sc, sr, sd, sl] ++ nl = S := by rw [hsc, hsr, hsd, hsl, hS]; exact jn_end code rev drops slots
          have z5 : S.size ≤ 100 := by rw [hS]; exact endT_size i0 i1 i2 i3
          have z6 : (jn [⟨#[101, 110, 100]⟩, sc, sr, sd, sl]).size ≤ 140000000000000 := by
            have : (jn [⟨#[101, 110, 100]⟩, sc, sr, sd, sl] ++ nl).size = S.size := by rw [hJ]
            rw [ByteArray.size_append, nl_size] at this; omega
          have HC : Hid (∀ W, Below bW wr W → W.cell? ⟨b0, 0, none⟩ = some (.int .i64 code) ∧ W.cell? ⟨b0, 3, none⟩ = some (.int .i64 drops) ∧ W.cell? ⟨b0, 4, none⟩ = some (.int .i64 rev) ∧ W.cell? ⟨b0, 5, none⟩ = some (.int .i64 slots)) := fun W hW => by
            obtain ⟨h0, h1, h2, h3, h4, h5⟩ := HBXC.out W (HB.out.trans (hW.mono hbb))
            exact ⟨h0, h3, h4, h5⟩
          have C1 : Hid (∀ W, Below bW wr W → Calls Tryd.prog 22 #[.int .i64 code] W fun e w' => e = .returned (.string sc) ∧ Below bW wr w') := fun W hW => by
            rw [hbW] at hW; rw [hsc, hbW]; exact p_itoa_in i0 TW W hW 0
          have C2 : Hid (∀ W, Below bW wr W → Calls Tryd.prog 22 #[.int .i64 rev] W fun e w' => e = .returned (.string sr) ∧ Below bW wr w') := fun W hW => by
            rw [hbW] at hW; rw [hsr, hbW]; exact p_itoa_in i1 TW W hW 0
          have C3 : Hid (∀ W, Below bW wr W → Calls Tryd.prog 22 #[.int .i64 drops] W fun e w' => e = .returned (.string sd) ∧ Below bW wr w') := fun W hW => by
            rw [hbW] at hW; rw [hsd, hbW]; exact p_itoa_in i2 TW W hW 0
          have C4 : Hid (∀ W, Below bW wr W → Calls Tryd.prog 22 #[.int .i64 slots] W fun e w' => e = .returned (.string sl) ∧ Below bW wr w') := fun W hW => by
            rw [hbW] at hW; rw [hsl, hbW]; exact p_itoa_in i3 TW W hW 0
          have CL : Hid (∀ W, Below bW wr W → Calls Tryd.prog 20 #[.slice (some ⟨W.heap.size, 0, none⟩) 5 5] (W.alloc (.cells #[.string ⟨#[101, 110, 100]⟩, .string sc, .string sr, .string sd, .string sl] 9)) fun e w' => e = .returned (.string S) ∧ Below bW wr w') := fun W hW => by
            rw [hbW] at hW; rw [← hJ, hbW]; exact p_five wr _ _ _ _ _ z6 W hW
          have CP : Hid (∀ W, Below bW wr W → Calls Tryd.prog 18 #[.pointer (some ⟨b0 + 1, 0, none⟩), .string S] W fun e w' => e = .returned (.tuple #[.int .i64 S.size, .nilIface]) ∧ Hid (Bld w' (b0 + 1) X ∧ Below (b0 + 1) w1 w')) := fun W hW => by
            have e : X = (ansT A k ++ ransT R q) ++ S := by rw [hX, hS]; rfl
            rw [e]
            have hz : bW ≤ W.heap.size := by rw [hbW]; exact hW.size
            refine (p_put (b0 + 1) (ansT A k ++ ransT R q) S W (HO.out.below (by rw [← hbW]; exact hW)) (by rw [ByteArray.size_append]; omega) (by omega)).mono ?_
            rintro e w' ⟨he, h1, h2, h3⟩
            exact ⟨he, h1, (HB.out.trans (hW.mono hbb)).trans h2⟩
          have B0w : Below bW wr wr := Below.refl _ _
          have HX : Hid (X = outT A k R q code rev drops slots) := hX
          clear hsc hsr hsd hsl hS hX hJ TW i0 i1 i2 i3 f2
          go_upto_region 12 with fail
          clear hbW
          go_region_held3 (fun w' => w'.cell? ⟨b0, 0, none⟩ = some (.int .i64 code) ∧ w'.cell? ⟨b0, 3, none⟩ = some (.int .i64 drops) ∧ w'.cell? ⟨b0, 4, none⟩ = some (.int .i64 rev) ∧ w'.cell? ⟨b0, 5, none⟩ = some (.int .i64 slots)) (go_keep) (first
            | (go_at_call 22; refine (C1.out _ (by first | exact B0w | exact B0w.drew)).mono ?_; rintro e w3 ⟨rfl, B3⟩; obtain ⟨a0, a1, a2, a3⟩ := HC.out w3 B3)
            | (go_at_call 22; refine (C2.out _ (by first | exact B3 | exact B3.drew)).mono ?_; rintro e w4 ⟨rfl, B4⟩; obtain ⟨b0', b1', b2', b3'⟩ := HC.out w4 B4)
            | (go_at_call 22; refine (C3.out _ (by first | exact B4 | exact B4.drew)).mono ?_; rintro e w5 ⟨rfl, B5⟩; obtain ⟨c0, c1, c2, c3⟩ := HC.out w5 B5)
            | (go_at_call 22; refine (C4.out _ (by first | exact B5 | exact B5.drew)).mono ?_; rintro e w6 ⟨rfl, B6⟩; obtain ⟨d0, d1, d2, d3⟩ := HC.out w6 B6)
            | (go_at_call 20; refine (CL.out w6 B6).mono ?_; rintro e w7 ⟨rfl, B7⟩; obtain ⟨e0, e1, e2, e3⟩ := HC.out w7 B7)
            | (go_at_call 18; refine (CP.out _ (by first | exact B7 | exact B7.drew)).mono ?_; rintro e w8 ⟨rfl, F8⟩; obtain ⟨g0, g1, g2, g3, g4, g5⟩ := HBXC.out w8 F8.out.2))
          all_goals
            have hz8 : b0 + 1 ≤ w8.heap.size := by rw [← hs1]; exact F8.out.2.size
            clear C1 C2 C3 C4 CL CP B3 B4 B5 B6 B7 B0w HC
            go_wp2_with (go_at_call 23; refine (p_string (b0 + 1) X w8 F8.out.1 hz8).mono ?_)
            rintro e w9 ⟨rfl, B9⟩
            go_wp2
            go_ret
            refine ⟨ret_s HX.out, ?_⟩
            rw [← HWZ.out]
            exact HBW.out.trans ((F8.out.2.trans B9).mono (Nat.le_succ _))
end Go.Proofs.YtdolejkpnpchaaaDoor
