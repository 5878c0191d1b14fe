/-
  One step: a pair is joined, or told apart.
-/
import Derived.Test.YtdgbcblajgmpcaaFind
import Derived.Deep.DeepCutAuto
namespace Go.Proofs.Ytdgbcblajgmpcaa
open Go.RowKit

/-- All that a step needs of the world: nothing below B has turned since w0; the leaders, the graph, and what is known. -/
structure Eng (B : Nat) (w0 w : World) (M lb kb mb : Nat) (ov : Value) (D : DataW Unit) (N : Nat) (gv : Value) (L : Nat → Nat) (ord : List (Nat × Nat)) : Prop where
  kept : Kept (fun k => k < B) w0 w
  lead : Lead w M lb N L
  g : w.cell? ⟨M, 0, none⟩ = some gv
  kn : Kn w kb mb ov D ord (fun k => k < B ∨ k = M ∨ k = lb)
  lo : B ≤ lb

theorem Kn.later {w w' : World} {kb mb : Nat} {ov : Value} {D : DataW Unit} {ord : List (Nat × Nat)} {keep : Nat → Prop} (h : Kn w kb mb ov D ord keep) (hs : w.heap.size ≤ w'.heap.size) (hb : ∀ k, k < w.heap.size → (k = kb ∨ k = mb ∨ some k = ov.ownBlock) → w'.heap[k]? = w.heap[k]?) : Kn w' kb mb ov D ord keep := by
  refine ⟨h.row.of_block (hb kb h.row.lt (Or.inl rfl)), h.mlt, ?_, h.has, ?_, fun k hk => ?_⟩
  · have hm := h.map
    obtain ⟨es, clock, he, F, hn, hD⟩ := hm
    have hlt := h.map.lt
    exact ⟨es, clock, (hb mb hlt (Or.inr (Or.inl rfl))).trans he, F, hn, hD⟩
  · obtain ⟨h1, h2⟩ := h.own
    refine ⟨h1, ?_⟩
    rcases h2 with h2 | ⟨g, cap, cur, hv, hg, hh, r⟩
    · exact Or.inl h2
    · obtain ⟨hlt, _⟩ := Array.getElem?_eq_some_iff.1 hh
      exact Or.inr ⟨g, cap, cur, hv, hg, (hb g hlt (Or.inr (Or.inr (by rw [hv]; rfl)))).trans hh, r⟩
  · obtain ⟨f1, f2, f3, f4⟩ := h.far k hk
    exact ⟨by omega, f2, f3, f4⟩

/-- More blocks are none of them: those that came later. -/
theorem Kn.more {w w' : World} {kb mb : Nat} {ov : Value} {D : DataW Unit} {ord : List (Nat × Nat)} {keep keep' : Nat → Prop} (h : Kn w' kb mb ov D ord keep) (hw : Kn w kb mb ov D ord keep) (hk : ∀ k, keep' k → keep k ∨ (w.heap.size ≤ k ∧ k < w'.heap.size)) : Kn w' kb mb ov D ord keep' := by
  refine ⟨h.row, h.mlt, h.map, h.has, h.own, fun k hkk => ?_⟩
  rcases hk k hkk with q | ⟨q1, q2⟩
  · exact h.far k q
  · have r1 := hw.row.lt
    have r2 := hw.map.lt
    exact ⟨q2, by omega, by omega, fun e => by have := (hw.own.lt k e.symm).2; omega⟩

theorem Kn.fewer {w : World} {kb mb : Nat} {ov : Value} {D : DataW Unit} {ord : List (Nat × Nat)} {keep keep' : Nat → Prop} (h : Kn w kb mb ov D ord keep) (hk : ∀ k, keep' k → keep k) : Kn w kb mb ov D ord keep' :=
  ⟨h.row, h.mlt, h.map, h.has, h.own, fun k hkk => h.far k (hk k hkk)⟩

theorem Kept.fewer {keep keep' : Nat → Prop} {w w' : World} (h : Kept keep w w') (hk : ∀ k, keep' k → keep k) : Kept keep' w w' := ⟨h.os, h.tape, h.output, h.size, fun k q => h.block k (hk k q)⟩

theorem Kept.drew {keep : Nat → Prop} {a b : World} (h : Kept keep a b) : Kept keep a b.drew := ⟨h.os, h.tape, h.output, h.size, h.block⟩

/-- Behind a find, or a store of a leader. -/
theorem Eng.found {B : Nat} {w0 w w' : World} {M lb kb mb : Nat} {ov gv : Value} {D : DataW Unit} {N : Nat} {L L' : Nat → Nat} {ord : List (Nat × Nat)} (h : Eng B w0 w M lb kb mb ov D N gv L ord) (hl : Lead w' M lb N L') (hk : Kept (fun k => k ≠ lb) w w') (_hs : w'.heap.size = w.heap.size) :
    Eng B w0 w' M lb kb mb ov D N gv L' ord := by
  have hlb := h.kn.far lb (Or.inr (Or.inr rfl))
  refine ⟨h.kept.trans (hk.fewer (fun k q => by have := h.lo; omega)), hl, (hk.cell (a := ⟨M, 0, none⟩) h.lead.ne).trans h.g, h.kn.later hk.size (fun k _ q => hk.block k (fun e => ?_)), h.lo⟩
  subst e
  rcases q with q | q | q
  · exact hlb.2.1 q
  · exact hlb.2.2.1 q
  · exact hlb.2.2.2 q

/-- Behind new blocks and draws. -/
theorem Eng.below {B : Nat} {w0 w w' : World} {M lb kb mb : Nat} {ov gv : Value} {D : DataW Unit} {N : Nat} {L : Nat → Nat} {ord : List (Nat × Nat)} (h : Eng B w0 w M lb kb mb ov D N gv L ord) (hb : Below w.heap.size w w') : Eng B w0 w' M lb kb mb ov D N gv L ord := by
  have hM := h.kn.far M (Or.inr (Or.inl rfl))
  have hkB : ∀ k, k < B → k < w.heap.size := fun k q => (h.kn.far k (Or.inl q)).1
  refine ⟨h.kept.trans ⟨hb.os, hb.tape, hb.output, hb.size, fun k q => hb.block k (hkB k q)⟩, ⟨(hb.cell (p := ⟨M, 1, none⟩) hM.1).trans h.lead.head, h.lead.row.of_block (hb.block _ h.lead.row.lt), h.lead.ne⟩, (hb.cell (p := ⟨M, 0, none⟩) hM.1).trans h.g,
    h.kn.later hb.size (fun k q _ => hb.block k q), h.lo⟩

theorem NodesAt.kept {w w' : World} {ao : Option Addr} {b o n B : Nat} {p : Nat → NP} {G : Nat → ND} (w0 : World) (h : NodesAt w0 ao b o n p G) (hB : w0.heap.size = B) (hk : Kept (fun k => k < B) w0 w') (_ : w = w') : NodesAt w' ao b o n p G :=
  h.below ⟨hk.os, hk.tape, hk.output, hk.size, fun k q => hk.block k (by omega)⟩

theorem pair_rows (w : World) (x0 x1 x2 y0 y1 y2 : Value) (t t' : TypeId) :
    ((w.alloc (.cells #[x0, x1, x2] t)).alloc (.cells #[y0, y1, y2] t')).rowIs w.heap.size t 3 (v3 x0 x1 x2) ∧
    ((w.alloc (.cells #[x0, x1, x2] t)).alloc (.cells #[y0, y1, y2] t')).rowIs (w.heap.size + 1) t' 3 (v3 y0 y1 y2) := by
  have r2 := row3 (w.alloc (.cells #[x0, x1, x2] t)) y0 y1 y2 t'
  simp only [World.size_alloc] at r2
  exact ⟨(row3 w x0 x1 x2 t).alloc _, r2⟩

/-- In a valid graph, kinds and names say how many kids there are. -/
theorem lab_of {N : Nat} {G : Nat → ND} {x y : Nat} (hv : vgr N G = true) (hx : x < N) (hy : y < N) (hk : (G x).kind = (G y).kind) (hn : (G x).nn = (G y).nn) (hm : ∀ j, j < (G x).nn → (G x).nm j = (G y).nm j) : Lab (G x) (G y) := by
  refine ⟨hk, hn, hm, ?_⟩
  have sx := (vgr_node hv hx).1
  have sy := (vgr_node hv hy).1
  by_cases k4 : (G x).kind = 4
  · rw [shp4 k4] at sx
    rw [shp4 (hk ▸ k4)] at sy
    have := of_decide_eq_true sx
    have := of_decide_eq_true sy
    omega
  by_cases k3 : (G x).kind = 3
  · rw [shp3 k3, Bool.and_eq_true] at sx
    rw [shp3 (hk ▸ k3), Bool.and_eq_true] at sy
    have := of_decide_eq_true sx.1
    have := of_decide_eq_true sy.1
    omega
  by_cases k5 : (G x).kind = 0 ∨ (G x).kind = 1 ∨ (G x).kind = 2
  · rw [shp012 k5] at sx
    rw [shp012 (hk ▸ k5)] at sy
    have := of_decide_eq_true sx
    have := of_decide_eq_true sy
    omega
  · rw [shpno (by omega)] at sx
    cases sx

/-- What a step leaves. -/
def StepPost (B : Nat) (w0 : World) (M lb kb mb : Nat) (N : Nat) (gv : Value) (G : Nat → ND) (ρ : Nat → Nat) (ord : List (Nat × Nat)) (x y : Nat) (e : Ending) (w' : World) : Prop :=
  (e = .returned (.bool false) ∧ ¬ Lab (G x) (G y) ∧ Kept (fun k => k < B) w0 w') ∨
  (e = .returned (.bool true) ∧ ∃ (ov' : Value) (D' : DataW Unit) (L' ρ' d' : Nat → Nat) (ord' : List (Nat × Nat)), Eng B w0 w' M lb kb mb ov' D' N gv L' ord' ∧ UF N L' ρ' d' ∧
    ((ρ x = ρ y ∧ ord' = ord ∧ ρ' = ρ) ∨ (ρ x ≠ ρ y ∧ Lab (G x) (G y) ∧ ord' = addKids (G x) (G y) ord (G x).nk ∧ ρ' = join ρ (ρ x) (ρ y))))

set_option maxRecDepth 100000 in
set_option maxHeartbeats 16000000 in
theorem c18 (B : Nat) (w0 : World) (M lb kb mb : Nat) (ov : Value) (D : DataW Unit) (N : Nat) (ao : Option Addr) (gb go gc : Nat) (p : Nat → NP) (G : Nat → ND) (L ρ d : Nat → Nat) (ord : List (Nat × Nat)) (x y : Nat) (w : World)
    (hE : Eng B w0 w M lb kb mb ov D N (.slice ao N gc) L ord) (hu : UF N L ρ d) (hB : w0.heap.size = B) (hG : NodesAt w0 ao gb go N p G) (hv : vgr N G = true) (hx : x < N) (hy : y < N) (ho : ord.length ≤ 20000000) (hkn : (G x).nk ≤ 1048576) :
    Calls Try.prog 18 #[.pointer (some ⟨M, 0, none⟩), .agg #[.int .i64 (x : Int), .int .i64 (y : Int)], .pointer (some ⟨kb, 0, none⟩)] w (StepPost B w0 M lb kb mb N (.slice ao N gc) G ρ ord x y) := by
  have hN := vgr_size hv
  have HV : Hid (vgr N G = true) := hv
  have HG : Hid (NodesAt w0 ao gb go N p G) := hG
  have HB : Hid (w0.heap.size = B) := hB
  have E1 := hE.below (bel1 w (.cells #[.int .i64 (x : Int), .int .i64 (y : Int)] 45))
  have hlb := (hE.kn.far lb (Or.inr (Or.inr rfl))).1
  have HE0 : Hid (Eng B w0 w M lb kb mb ov D N (.slice ao N gc) L ord) := hE
  have E1d := E1.below (Below.refl _ _).drew
  have ld1 := E1d.lead
  clear hE hv hG hB
  go_enter Try.func18, Try.ntmps18
  go_wp2
  go_region_held3 (fun w' => w'.cell? ⟨w.heap.size, 0, none⟩ = some (.int .i64 (x : Int)) ∧ w'.cell? ⟨w.heap.size, 1, none⟩ = some (.int .i64 (y : Int))) (go_keep)
    (first
      | (go_at_call_of 27 (x : Int); refine (c27 M lb N L ρ d x (fun k => k ≠ lb) _ ld1 hu hx hN (fun _ h => h)).mono ?_; rintro e w1 ⟨L1, rfl, hl1, hu1, hr1, hx1, hk1, hs1, _⟩; have y1 := (hk1.cell (a := ⟨w.heap.size, 0, none⟩) (by show w.heap.size ≠ lb; omega)); have y2 := (hk1.cell (a := ⟨w.heap.size, 1, none⟩) (by show w.heap.size ≠ lb; omega)); simp at y1 y2)
      | (go_at_call_of 27 (y : Int); refine (c27 M lb N L1 ρ d y (fun k => k ≠ lb) _ hl1 hu1 hy hN (fun _ h => h)).mono ?_; rintro e w2 ⟨L2, rfl, hl2, hu2, hr2, hx2, hk2, hs2, ht2⟩; have hr3 := ht2 _ hx1 hr1; have y3 := (hk2.cell (a := ⟨w.heap.size, 0, none⟩) (by show w.heap.size ≠ lb; omega)); have y4 := (hk2.cell (a := ⟨w.heap.size, 1, none⟩) (by show w.heap.size ≠ lb; omega))))
  have E2 := (E1d.found hl1 hk1 hs1).found hl2 hk2 hs2
  have hlb2 : lb < w2.heap.size := by rw [hs2, hs1]; simp; omega
  have HQ : Hid (L2 (ρ x) = ρ x ∧ L2 (ρ y) = ρ y) := ⟨hr3, hr2⟩
  have HU : Hid (UF N L2 ρ d) := hu2
  have v1 : w2.cell? ⟨w.heap.size, 0, none⟩ = some (.int .i64 (x : Int)) := y3.trans y1
  have v2' : w2.cell? ⟨w.heap.size, 1, none⟩ = some (.int .i64 (y : Int)) := y4.trans y2
  have xN : ρ x < N := hx1
  have yN : ρ y < N := hx2
  clear y1 y2 y3 y4 hl1 hl2 hk1 hk2 hs1 hs2 hu1 hu2 hr1 hr2 hr3 ht2 hu E1d E1 ld1 hx1 hx2
  by_cases hq : ρ x = ρ y
  · have bq : ((ρ x : Int) == (ρ y : Int)) = true := by rw [beq_iff_eq]; omega
    have FIN : Hid (StepPost B w0 M lb kb mb N (.slice ao N gc) G ρ ord x y (.returned (.bool true)) w2) := Or.inr ⟨rfl, ov, D, L2, ρ, d, ord, E2, HU.out, Or.inl ⟨hq, rfl, rfl⟩⟩
    clear hq E2
    go_wp2
    go_ret
    exact FIN.out
  have bq : ((ρ x : Int) == (ρ y : Int)) = false := beq_eq_false_iff_ne.2 (by omega)
  have HNE : Hid (ρ x ≠ ρ y) := hq
  clear hq
  have NG := NodesAt.kept (w := w2) w0 HG.out HB.out E2.kept rfl
  have at1 := NG.at_ (by omega)
  subst at1
  have g0 := E2.g
  have a0 := NG.c0 x hx
  have a1 := NG.c1 x hx
  have a2 := NG.c2 x hx
  have b0 := NG.c0 y hy
  have b1 := NG.c1 y hy
  have b2 := NG.c2 y hy
  have lx : (x : Int) < (N : Int) := by omega
  have ly : (y : Int) < (N : Int) := by omega
  go_wp2
  go_cut [9, 10] (fun s9 s10 wc => ∃ bx cy : Nat, s9 = .pointer (some ⟨bx, 0, none⟩) ∧ s10 = .pointer (some ⟨cy, 0, none⟩) ∧ bx ≠ cy ∧ w2.heap.size ≤ bx ∧ bx < wc.heap.size ∧ w2.heap.size ≤ cy ∧ cy < wc.heap.size ∧ Below w2.heap.size w2 wc ∧ wc.rowIs bx 53 3 (v3 (.int .i64 (G x).kind) (.slice (p x).a1 (G x).nn (p x).c1) (.slice (p x).a2 (G x).nk (p x).c2)) ∧
    wc.rowIs cy 53 3 (v3 (.int .i64 (G y).kind) (.slice (p y).a1 (G y).nn (p y).c1) (.slice (p y).a2 (G y).nk (p y).c2)))
  case first =>
    go_region_held3 (fun w' => w'.cell? ⟨w.heap.size, 0, none⟩ = some (.int .i64 (x : Int)) ∧ w'.cell? ⟨w.heap.size, 1, none⟩ = some (.int .i64 (y : Int)) ∧ w'.cell? ⟨M, 0, none⟩ = some (.slice (some ⟨gb, go, none⟩) N gc) ∧
      w'.cell? ⟨gb, go + x * 3, none⟩ = some (.int .i64 (G x).kind) ∧ w'.cell? ⟨gb, go + x * 3 + 1, none⟩ = some (.slice (p x).a1 (G x).nn (p x).c1) ∧ w'.cell? ⟨gb, go + x * 3 + 2, none⟩ = some (.slice (p x).a2 (G x).nk (p x).c2) ∧
      w'.cell? ⟨gb, go + y * 3, none⟩ = some (.int .i64 (G y).kind) ∧ w'.cell? ⟨gb, go + y * 3 + 1, none⟩ = some (.slice (p y).a1 (G y).nn (p y).c1) ∧ w'.cell? ⟨gb, go + y * 3 + 2, none⟩ = some (.slice (p y).a2 (G y).nk (p y).c2)) (go_keep) (fail)
    all_goals
      go_wp2
      go_meet
      case rel =>
        have R1 := pair_rows w2 (.int .i64 (G x).kind) (.slice (p x).a1 (G x).nn (p x).c1) (.slice (p x).a2 (G x).nk (p x).c2) (.int .i64 (G y).kind) (.slice (p y).a1 (G y).nn (p y).c1) (.slice (p y).a2 (G y).nk (p y).c2) 53 53
        have R2 := pair_rows w2 (.int .i64 (G y).kind) (.slice (p y).a1 (G y).nn (p y).c1) (.slice (p y).a2 (G y).nk (p y).c2) (.int .i64 (G x).kind) (.slice (p x).a1 (G x).nn (p x).c1) (.slice (p x).a2 (G x).nk (p x).c2) 53 53
        first
          | exact ⟨w2.heap.size, w2.heap.size + 1, rfl, rfl, by omega, by omega, by simp; omega, by omega, by simp, (bel2 _ _ _).drew, R1.1.drew, R1.2.drew⟩
          | exact ⟨w2.heap.size + 1, w2.heap.size, rfl, rfl, by omega, by omega, by simp, by omega, by simp; omega, (bel2 _ _ _).drew, R2.2.drew, R2.1.drew⟩
  case rest =>
    obtain ⟨bx, cy, rfl, rfl, hxy, hbx, hbx', hcy, hcy', hbw, RX, RY⟩ := hcut
    have E3 := E2.below hbw
    have NX := (NG.below hbw).node x hx
    have NY := (NG.below hbw).node y hy
    have k0 : wc.cell? ⟨bx, 0, none⟩ = some (.int .i64 (G x).kind) := RX.cell (i := 0) (by omega)
    have k1 : wc.cell? ⟨bx, 1, none⟩ = some (.slice (p x).a1 (G x).nn (p x).c1) := RX.cell (i := 1) (by omega)
    have k2 : wc.cell? ⟨bx, 2, none⟩ = some (.slice (p x).a2 (G x).nk (p x).c2) := RX.cell (i := 2) (by omega)
    have m0 : wc.cell? ⟨cy, 0, none⟩ = some (.int .i64 (G y).kind) := RY.cell (i := 0) (by omega)
    have m1 : wc.cell? ⟨cy, 1, none⟩ = some (.slice (p y).a1 (G y).nn (p y).c1) := RY.cell (i := 1) (by omega)
    clear g0 a0 a1 a2 b0 b1 b2 v1 v2'
    by_cases hkd : (G x).kind = (G y).kind
    case neg =>
      have bk : ((G x).kind != (G y).kind) = true := by rw [bne_iff_ne]; exact hkd
      have FIN : Hid (StepPost B w0 M lb kb mb N (.slice (some ⟨gb, go, none⟩) N gc) G ρ ord x y (.returned (.bool false)) wc) := Or.inl ⟨rfl, fun h => hkd h.kind, E3.kept⟩
      clear hkd
      go_wp2
      go_ret
      exact FIN.out
    have bk : ((G x).kind != (G y).kind) = false := by rw [bne_eq_false_iff_eq]; exact hkd
    have HKD : Hid ((G x).kind = (G y).kind) := hkd
    clear hkd
    go_wp2_with fail
    refine (c28 (p x).a1 (p y).a1 (p x).b1 (p x).o1 (p x).c1 (p y).b1 (p y).o1 (p y).c1 (G x).nn (G y).nn (G x).nm (G y).nm _ NX.names NY.names).mono ?_
    rintro e wd ⟨rfl, kq, rfl⟩
    have E4 := E3.below (below_drewN' wc kq)
    cases hqs : eqs (G x).nn (G y).nn (G x).nm (G y).nm
    · have FIN : Hid (StepPost B w0 M lb kb mb N (.slice (some ⟨gb, go, none⟩) N gc) G ρ ord x y (.returned (.bool false)) (wc.drewN kq)) := Or.inl ⟨rfl, (fun h => by have := eqs_iff.2 ⟨h.nn, h.nm⟩; rw [hqs] at this; cases this), E4.kept⟩
      clear hqs
      go_wp2
      go_ret
      exact FIN.out
    have HL : Hid (Lab (G x) (G y)) := lab_of HV.out hx hy HKD.out (eqs_iff.1 hqs).1 (eqs_iff.1 hqs).2
    clear hqs
    have q1 := E4.lead.head
    have q2 := E4.lead.row.cell xN
    have q3 := E4.lead.row.frozen (ρ x)
    have lrx : (ρ x : Int) < (N : Int) := by omega
    have hMlb := E4.lead.ne
    have hbl : bx ≠ lb := by omega
    have hcl : cy ≠ lb := by omega
    have E5 : Eng B w0 ((wc.drewN kq).setCell ⟨lb, ρ x, none⟩ (.int .i64 (ρ y : Int))) M lb kb mb ov D N (.slice (some ⟨gb, go, none⟩) N gc) (fun z => if z = ρ x then ρ y else L2 z) ord :=
      E4.found (E4.lead.put (ρ x) (ρ y)) ((Kept.refl _ _).put (fun k h => h)) (by simp [World.setCell])
    have HU5 : Hid (UF N (fun z => if z = ρ x then ρ y else L2 z) (join ρ (ρ x) (ρ y)) _) := HU.out.merge xN yN HQ.out.1 HQ.out.2 HNE.out
    have k2' : ((wc.drewN kq).setCell ⟨lb, ρ x, none⟩ (.int .i64 (ρ y : Int))).cell? ⟨bx, 2, none⟩ = some (.slice (p x).a2 (G x).nk (p x).c2) := by
      rw [World.cell?_setCell_other _ _ _ _ (fun e => hbl (by have := congrArg Addr.block e; first | exact this | exact this.symm))]; exact k2
    have k3' : ((wc.drewN kq).setCell ⟨lb, ρ x, none⟩ (.int .i64 (ρ y : Int))).rowIs bx 53 3 (v3 (.int .i64 (G x).kind) (.slice (p x).a1 (G x).nn (p x).c1) (.slice (p x).a2 (G x).nk (p x).c2)) := World.rowIs.setOther (w := wc.drewN kq) RX (by show bx ≠ lb; exact hbl) _
    have m3' : ((wc.drewN kq).setCell ⟨lb, ρ x, none⟩ (.int .i64 (ρ y : Int))).rowIs cy 53 3 (v3 (.int .i64 (G y).kind) (.slice (p y).a1 (G y).nn (p y).c1) (.slice (p y).a2 (G y).nk (p y).c2)) := World.rowIs.setOther (w := wc.drewN kq) RY (by show cy ≠ lb; exact hcl) _
    have hsw : ((wc.drewN kq).setCell ⟨lb, ρ x, none⟩ (.int .i64 (ρ y : Int))).heap.size = wc.heap.size := by simp [World.setCell]
    have K2 : Kn w2 kb mb ov D ord (fun k => k < B ∨ k = M ∨ k = lb) := E2.kn
    have K5 : Kn ((wc.drewN kq).setCell ⟨lb, ρ x, none⟩ (.int .i64 (ρ y : Int))) kb mb ov D ord (fun k => k < B ∨ k = M ∨ k = lb ∨ k = bx ∨ k = cy) := E5.kn.more K2 (fun k h => by
      rcases h with h | h | h | h | h
      · exact Or.inl (Or.inl h)
      · exact Or.inl (Or.inr (Or.inl h))
      · exact Or.inl (Or.inr (Or.inr h))
      · subst h; exact Or.inr ⟨hbx, by rw [hsw]; exact hbx'⟩
      · subst h; exact Or.inr ⟨hcy, by rw [hsw]; exact hcy'⟩)
    go_wp2
    obtain ⟨wl, hwl⟩ : ∃ wl, wl = (wc.drewN kq).setCell ⟨lb, ρ x, none⟩ (.int .i64 (ρ y : Int)) := ⟨_, rfl⟩
    rw [← hwl] at E5 k3' m3' K5 ⊢
    clear hwl hsw k0 k1 k2 k2' m0 m1 q1 q2 q3 E3 E4 E2 NX NY RX RY K2
    go_loopw [64] (fun s wr => ∃ (k : Nat) (ov' : Value) (D' : DataW Unit), k ≤ (G x).nk ∧ s = .int .i64 k ∧ Kn wr kb mb ov' D' (addKids (G x) (G y) ord k) (fun k => k < B ∨ k = M ∨ k = lb ∨ k = bx ∨ k = cy) ∧ Kept (fun k => k < B ∨ k = M ∨ k = lb ∨ k = bx ∨ k = cy) wl wr) (fun s _ => (G x).nk - (intOf s).toNat)
    case atStart => exact ⟨0, ov, D, Nat.zero_le _, rfl, K5, Kept.refl _ _⟩
    case round =>
      obtain ⟨k, ov', D', hk, rfl, hKn, hKp⟩ := hrel
      have kx : wr.cell? ⟨bx, 2, none⟩ = some (.slice (p x).a2 (G x).nk (p x).c2) := (k3'.of_block (hKp.block bx (Or.inr (Or.inr (Or.inr (Or.inl rfl)))))).cell (i := 2) (by omega)
      have ky : wr.cell? ⟨cy, 2, none⟩ = some (.slice (p y).a2 (G y).nk (p y).c2) := (m3'.of_block (hKp.block cy (Or.inr (Or.inr (Or.inr (Or.inr rfl)))))).cell (i := 2) (by omega)
      have hKB : Kept (fun k => k < B) w0 wr := E5.kept.trans (hKp.fewer (fun k h => Or.inl h))
      by_cases hlt : k < (G x).nk
      case neg =>
        have hkk : k = (G x).nk := by omega
        have hEf : Eng B w0 wr M lb kb mb ov' D' N (.slice (some ⟨gb, go, none⟩) N gc) (fun z => if z = ρ x then ρ y else L2 z) (addKids (G x) (G y) ord (G x).nk) :=
          ⟨hKB, ⟨(hKp.cell (a := ⟨M, 1, none⟩) (Or.inr (Or.inl rfl))).trans E5.lead.head, E5.lead.row.of_block (hKp.block lb (Or.inr (Or.inr (Or.inl rfl)))), E5.lead.ne⟩, (hKp.cell (a := ⟨M, 0, none⟩) (Or.inr (Or.inl rfl))).trans E5.g,
            by rw [← hkk]; exact hKn.fewer (fun k h => by rcases h with h | h | h; exact Or.inl h; exact Or.inr (Or.inl h); exact Or.inr (Or.inr (Or.inl h))), E5.lo⟩
        have FIN : Hid (StepPost B w0 M lb kb mb N (.slice (some ⟨gb, go, none⟩) N gc) G ρ ord x y (.returned (.bool true)) wr) := Or.inr ⟨rfl, ov', D', _, _, _, _, hEf, HU5.out, Or.inr ⟨HNE.out, HL.out, rfl, rfl⟩⟩
        clear hkk hEf
        go_wp2
        go_ret
        exact FIN.out
      have NGr := NodesAt.kept (w := wr) w0 HG.out HB.out hKB rfl
      have hlt' : k < (G y).nk := by rw [← HL.out.nk]; exact hlt
      have tx := (NGr.node x hx).kids.at_ (by omega)
      have ty := (NGr.node y hy).kids.at_ (by omega)
      have gx := (NGr.node x hx).kids.cell k hlt
      have gy := (NGr.node y hy).kids.cell k hlt'
      have bxl := World.block_lt_of_cell? _ _ ((HG.out.node x hx).kids.cell k hlt)
      have byl := World.block_lt_of_cell? _ _ ((HG.out.node y hy).kids.cell k hlt')
      rw [HB.out] at bxl byl
      have ix := vgr_kids HV.out x hx k hlt
      have iy := vgr_kids HV.out y hy k hlt'
      have ex : (G x).kd k = ((kid (G x) k : Nat) : Int) := by unfold kid; omega
      have ey : (G y).kd k = ((kid (G y) k : Nat) : Int) := by unfold kid; omega
      rw [ex] at gx
      rw [ey] at gy
      rw [tx] at kx
      rw [ty] at ky
      have kxN : kid (G x) k < 4611686018427387904 := by omega
      have kyN : kid (G y) k < 4611686018427387904 := by omega
      have hol : (addKids (G x) (G y) ord k).length ≤ 100000000 := by have := addKids_le (G x) (G y) ord k; omega
      have l1 : (k : Int) < ((G x).nk : Int) := by omega
      have l2 : (k : Int) < ((G y).nk : Int) := by omega
      have hKd : Kn wr.drew kb mb ov' D' (addKids (G x) (G y) ord k) (fun k => k < B ∨ k = M ∨ k = lb ∨ k = bx ∨ k = cy) := hKn.later (Nat.le_refl _) (fun _ _ _ => rfl)
      clear tx ty ex ey ix iy NGr hKn
      go_wp2
      go_region_held3 (fun w' => w'.cell? ⟨bx, 2, none⟩ = some (.slice (some ⟨(p x).b2, (p x).o2, none⟩) (G x).nk (p x).c2) ∧ w'.cell? ⟨cy, 2, none⟩ = some (.slice (some ⟨(p y).b2, (p y).o2, none⟩) (G y).nk (p y).c2) ∧
          w'.cell? ⟨(p x).b2, (p x).o2 + k, none⟩ = some (.int .i64 ((kid (G x) k : Nat) : Int)) ∧ w'.cell? ⟨(p y).b2, (p y).o2 + k, none⟩ = some (.int .i64 ((kid (G y) k : Nat) : Int))) (go_keep)
        (first | (go_at_call 26; refine (c26 kb mb ov' D' _ _ (kid (G x) k) (kid (G y) k) _ hKd kxN kyN hol).mono ?_; rintro e w' ⟨xx, ov2, D2, rfl, hKn2, hKp2⟩; have z1 := (hKp2.cell (a := ⟨bx, 2, none⟩) (Or.inr (Or.inr (Or.inr (Or.inl rfl))))).trans kx; have z2 := (hKp2.cell (a := ⟨cy, 2, none⟩) (Or.inr (Or.inr (Or.inr (Or.inr rfl))))).trans ky; have z3 := (hKp2.cell (a := ⟨(p x).b2, (p x).o2 + k, none⟩) (Or.inl bxl)).trans gx; have z4 := (hKp2.cell (a := ⟨(p y).b2, (p y).o2 + k, none⟩) (Or.inl byl)).trans gy))
      all_goals
        have HN2 : Hid (Kn w' kb mb ov2 D2 (addKids (G x) (G y) ord (k + 1)) (fun k => k < B ∨ k = M ∨ k = lb ∨ k = bx ∨ k = cy)) := hKn2
        have HP2 := hKp.drew.trans hKp2
        clear hKn2 hKp2 z1 z2 z3 z4 kx ky gx gy
        go_wp2
        go_roundw
        case rel => exact ⟨k + 1, ov2, D2, by omega, by go_num, HN2.out, HP2⟩
        case measure => simp [intOf]; omega

end Go.Proofs.Ytdgbcblajgmpcaa
