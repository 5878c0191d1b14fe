/-
  The model's arity of an item of a type.
-/
import Derived.Test.YtcehppndpccldaaDoorVbA
namespace Go.Proofs.YtcehppndpccldaaDoor
open Go.RowKit

theorem em_zero {s : ByteArray} (h : s.size = 0) : s = ByteArray.empty := by
  apply ByteArray.ext
  exact Array.eq_empty_of_size_eq_zero h
theorem em_pos {s : ByteArray} (h : ¬ s.size = 0) : ¬ s = ByteArray.empty := fun e => h (by rw [e]; rfl)
def arI (o : Option Fm) : Int := match o with
  | none => -1
  | some f => (f.needs.length : Int)
/-- What is asked of a type's item where it is looked at. -/
structure TiA (w : World) (t : TI) (p : NPl) : Prop where
  ns : NsA w p t.ns
  len : t.ns.length ≤ 1048576
  sz : ∀ k, k < t.ns.length → (t.ns.getD k e0).size ≤ 1048576
  cap : t.ns.length ≤ p.c
  md : t.md.size ≤ 1048576
  nm : t.nm.size ≤ 1048576
theorem TiA.below {w w' : World} {t : TI} {p : NPl} (h : TiA w t p) (hb : Below w.heap.size w w') : TiA w' t p := ⟨h.ns.below hb, h.len, h.sz, h.cap, h.md, h.nm⟩
def tiV (t : TI) (p : NPl) : Value := .agg #[.int .i64 t.op, .string t.md, .string t.nm, .slice p.a t.ns.length p.c]

set_option maxRecDepth 100000 in
set_option maxHeartbeats 4000000 in
theorem v_arT (w : World) {t : TI} {p : NPl} (h : TiA w t p) :
    Calls Tryd.prog 31 #[tiV t p] w fun e w' => e = .returned (.int .i64 (arI (fT t))) ∧ Below w.heap.size w w' := by
  have HN : Hid (∀ W, Below w.heap.size w W → Calls Tryd.prog 49 #[.slice p.a t.ns.length p.c] W fun e w' => e = .returned (.bool (nmOk t.ns)) ∧ ∃ k, w' = W.drewN k) := fun W hb => v_namesOk W (h.ns.below hb) h.len h.sz rfl h.cap
  have HD : Hid (TiA w t p) := h
  unfold tiV
  obtain ⟨op, hop⟩ : ∃ op, op = t.op := ⟨_, rfl⟩
  obtain ⟨md, hmd⟩ : ∃ md, md = t.md := ⟨_, rfl⟩
  obtain ⟨nm, hnm⟩ : ∃ nm, nm = t.nm := ⟨_, rfl⟩
  obtain ⟨n, hn⟩ : ∃ n, n = t.ns.length := ⟨_, rfl⟩
  have HV : Hid (t.op = op ∧ t.md = md ∧ t.nm = nm ∧ t.ns.length = n) := ⟨hop.symm, hmd.symm, hnm.symm, hn.symm⟩
  have zm : md.size ≤ 9223372036854775807 := by have := h.md; rw [hmd]; omega
  have zn : nm.size ≤ 9223372036854775807 := by have := h.nm; rw [hnm]; omega
  have zl : n ≤ 1048576 := by have := h.len; omega
  rw [← hop, ← hmd, ← hnm, ← hn]
  rw [← hn] at HN
  obtain ⟨r, hr⟩ : ∃ r, r = arI (fT t) := ⟨_, rfl⟩
  have HR : Hid (arI (fT t) = r) := hr.symm
  rw [← hr]
  have CG0 : Hid (∀ W, Calls Tryd.prog 19 #[.string nm] W fun e w' => e = .returned (.bool (gn nm)) ∧ w' = W) := fun W => c32 nm W zn
  have CM0 : Hid (∀ W, Calls Tryd.prog 19 #[.string md] W fun e w' => e = .returned (.bool (gn md)) ∧ w' = W) := fun W => c32 md W zm
  clear h hop hmd hnm hn hr
  go_enter Tryd.func31, Tryd.ntmps31
  by_cases h4 : op = 4
  · have b4 : (op == 4) = true := beq_iff_eq.2 h4
    cases hg : gn nm
    case false =>
      have CG := CG0
      rw [hg] at CG
      have HE : Hid (r = -1) := by
        show _ = _
        obtain ⟨v1, v2, v3, v4⟩ := HV.out
        rw [← HR.out]
        unfold fT
        rw [v1, v2, v3, v4]
        rw [if_pos h4]; unfold gPth; rw [hg]; rfl
      clear h4
      go_wp2_with (first | (go_at_call 19; (with_reducible refine (CG.out _).mono ?_); rintro e w' ⟨rfl, rfl⟩))
      go_ret
      exact ⟨by rw [HE.out]; rfl, by first | exact bel1 _ _ | exact below_drewN (bel1 _ _) _⟩
    case true =>
      have CG := CG0
      rw [hg] at CG
      by_cases hz : md.size = 0
      case pos =>
        have lz : ¬ (0 : Int) < (md.size : Int) := by omega
        have me : md = ByteArray.empty := em_zero hz
        have lz2 : ¬ 0 < md.size := by omega
        by_cases hn0 : n = 0
        case pos =>
          have HE : Hid (r = 0) := by
            show _ = _
            obtain ⟨v1, v2, v3, v4⟩ := HV.out
            rw [← HR.out]
            unfold fT
            rw [v1, v2, v3, v4]
            rw [if_pos h4]; unfold gPth; rw [hg, hz, hn0]; rfl
          have ln : ¬ (0 : Int) < (n : Int) := by omega
          clear h4 hz hn0
          go_wp2_with (first | (go_at_call 19; (with_reducible refine (CG.out _).mono ?_); rintro e w' ⟨rfl, rfl⟩))
          go_ret
          exact ⟨by rw [HE.out]; rfl, by first | exact bel1 _ _ | exact below_drewN (bel1 _ _) _⟩
        case neg =>
          have HE : Hid (r = -1) := by
            show _ = _
            obtain ⟨v1, v2, v3, v4⟩ := HV.out
            rw [← HR.out]
            unfold fT
            rw [v1, v2, v3, v4]
            rw [if_pos h4]; unfold gPth; rw [hg, hz, if_neg (by simp [hn0])]; rfl
          have ln : (0 : Int) < (n : Int) := by omega
          clear h4 hz hn0
          go_wp2_with (first | (go_at_call 19; (with_reducible refine (CG.out _).mono ?_); rintro e w' ⟨rfl, rfl⟩))
          go_ret
          exact ⟨by rw [HE.out]; rfl, by first | exact bel1 _ _ | exact below_drewN (bel1 _ _) _⟩
      case neg =>
        have lz : (0 : Int) < (md.size : Int) := by omega
        have me : ¬ md = ByteArray.empty := em_pos hz
        have lz2 : 0 < md.size := by omega
        cases hm : gn md
        case false =>
          have CM := CM0
          rw [hm] at CM
          have HE : Hid (r = -1) := by
            show _ = _
            obtain ⟨v1, v2, v3, v4⟩ := HV.out
            rw [← HR.out]
            unfold fT
            rw [v1, v2, v3, v4]
            rw [if_pos h4]; unfold gPth; rw [hg, hm, decide_eq_false hz]; rfl
          clear h4 hz
          go_wp2_with (first | (go_at_call 19; (with_reducible refine (CG.out _).mono ?_); rintro e w' ⟨rfl, rfl⟩) | (go_at_call 19; (with_reducible refine (CM.out _).mono ?_); rintro e w' ⟨rfl, rfl⟩))
          go_ret
          exact ⟨by rw [HE.out]; rfl, by first | exact bel1 _ _ | exact below_drewN (bel1 _ _) _⟩
        case true =>
          have CM := CM0
          rw [hm] at CM
          by_cases hn0 : n = 0
          case pos =>
            have HE : Hid (r = 0) := by
              show _ = _
              obtain ⟨v1, v2, v3, v4⟩ := HV.out
              rw [← HR.out]
              unfold fT
              rw [v1, v2, v3, v4]
              rw [if_pos h4]; unfold gPth; rw [hg, hm, decide_eq_false hz, hn0]; rfl
            have ln : ¬ (0 : Int) < (n : Int) := by omega
            clear h4 hz hn0
            go_wp2_with (first | (go_at_call 19; (with_reducible refine (CG.out _).mono ?_); rintro e w' ⟨rfl, rfl⟩) | (go_at_call 19; (with_reducible refine (CM.out _).mono ?_); rintro e w' ⟨rfl, rfl⟩))
            go_ret
            exact ⟨by rw [HE.out]; rfl, by first | exact bel1 _ _ | exact below_drewN (bel1 _ _) _⟩
          case neg =>
            have HE : Hid (r = -1) := by
              show _ = _
              obtain ⟨v1, v2, v3, v4⟩ := HV.out
              rw [← HR.out]
              unfold fT
              rw [v1, v2, v3, v4]
              rw [if_pos h4]; unfold gPth; rw [hg, hm, decide_eq_false hz, if_neg (by simp [hn0])]; rfl
            have ln : (0 : Int) < (n : Int) := by omega
            clear h4 hz hn0
            go_wp2_with (first | (go_at_call 19; (with_reducible refine (CG.out _).mono ?_); rintro e w' ⟨rfl, rfl⟩) | (go_at_call 19; (with_reducible refine (CM.out _).mono ?_); rintro e w' ⟨rfl, rfl⟩))
            go_ret
            exact ⟨by rw [HE.out]; rfl, by first | exact bel1 _ _ | exact below_drewN (bel1 _ _) _⟩
  have b4 : (op == 4) = false := beq_eq_false_iff_ne.2 h4
  by_cases hz : md.size = 0
  case neg =>
    have lz : (0 : Int) < (md.size : Int) := by omega
    have me : ¬ md = ByteArray.empty := em_pos hz
    have lz2 : 0 < md.size := by omega
    have HE : Hid (r = -1) := by
      show _ = _
      obtain ⟨v1, v2, v3, v4⟩ := HV.out
      rw [← HR.out]
      unfold fT
      rw [v1, v2, v3, v4]
      rw [if_neg h4, if_neg (fun z => hz z.1)]; rfl
    clear h4 hz
    go_wp2
    go_ret
    exact ⟨by rw [HE.out]; rfl, by first | exact bel1 _ _ | exact below_drewN (bel1 _ _) _⟩
  have lz : ¬ (0 : Int) < (md.size : Int) := by omega
  have me : md = ByteArray.empty := em_zero hz
  have lz2 : ¬ 0 < md.size := by omega
  by_cases hy : nm.size = 0
  case neg =>
    have ly : (0 : Int) < (nm.size : Int) := by omega
    have ne : ¬ nm = ByteArray.empty := em_pos hy
    have ly2 : 0 < nm.size := by omega
    have HE : Hid (r = -1) := by
      show _ = _
      obtain ⟨v1, v2, v3, v4⟩ := HV.out
      rw [← HR.out]
      unfold fT
      rw [v1, v2, v3, v4]
      rw [if_neg h4, if_neg (fun z => hy z.2)]; rfl
    clear h4 hz hy
    go_wp2
    go_ret
    exact ⟨by rw [HE.out]; rfl, by first | exact bel1 _ _ | exact below_drewN (bel1 _ _) _⟩
  have ly : ¬ (0 : Int) < (nm.size : Int) := by omega
  have ne : nm = ByteArray.empty := em_zero hy
  have ly2 : ¬ 0 < nm.size := by omega
  by_cases h5 : op = 5
  · have b5 : (op == 5) = true := beq_iff_eq.2 h5
    subst me
    subst ne
    have HN1 : Hid (Calls Tryd.prog 49 #[.slice p.a n p.c] (w.alloc (.cells #[.int .i64 op, .string ByteArray.empty, .string ByteArray.empty, .slice p.a n p.c] 66)) fun e w' => e = .returned (.bool (nmOk t.ns)) ∧ ∃ k, w' = (w.alloc (.cells #[.int .i64 op, .string ByteArray.empty, .string ByteArray.empty, .slice p.a n p.c] 66)).drewN k) := HN.out _ (bel1 _ _)
    cases ho : nmOk t.ns
    case false =>
      have HE : Hid (r = -1) := by
        show _ = _
        obtain ⟨v1, v2, v3, v4⟩ := HV.out
        rw [← HR.out]
        unfold fT
        rw [v1, v2, v3, v4]
        rw [if_neg h4, if_pos ⟨hz, hy⟩, if_pos h5, ho]; rfl
      rw [ho] at HN1
      clear h4 hz hy h5
      go_wp2_with (first | (go_at_call 49; refine HN1.out.mono ?_; rintro e w' ⟨rfl, k, rfl⟩))
      go_ret
      exact ⟨by rw [HE.out]; rfl, by first | exact bel1 _ _ | exact below_drewN (bel1 _ _) _⟩
    case true =>
      have HE : Hid (r = (n : Int)) := by
        show _ = _
        obtain ⟨v1, v2, v3, v4⟩ := HV.out
        rw [← HR.out]
        unfold fT
        rw [v1, v2, v3, if_neg h4, if_pos ⟨hz, hy⟩, if_pos h5, ho]
        show ((brc t.ns xCs 1).needs.length : Int) = _
        rw [(brc_ok _ _ _).2.1, v4]
      rw [ho] at HN1
      clear h4 hz hy h5
      go_wp2_with (first | (go_at_call 49; refine HN1.out.mono ?_; rintro e w' ⟨rfl, k, rfl⟩))
      go_ret
      exact ⟨by rw [HE.out]; rfl, by first | exact bel1 _ _ | exact below_drewN (bel1 _ _) _⟩
  have b5 : (op == 5) = false := beq_eq_false_iff_ne.2 h5
  by_cases hn0 : n = 0
  case neg =>
    have ln : (0 : Int) < (n : Int) := by omega
    have HE : Hid (r = -1) := by
      show _ = _
      obtain ⟨v1, v2, v3, v4⟩ := HV.out
      rw [← HR.out]
      unfold fT
      rw [v1, v2, v3, v4]
      rw [if_neg h4, if_pos ⟨hz, hy⟩, if_neg h5, if_neg hn0]; rfl
    clear h4 hz hy h5 hn0
    go_wp2
    go_ret
    exact ⟨by rw [HE.out]; rfl, by first | exact bel1 _ _ | exact below_drewN (bel1 _ _) _⟩
  have ln : ¬ (0 : Int) < (n : Int) := by omega
  by_cases h1 : op = 1
  · have b1 : (op == 1) = true := beq_iff_eq.2 h1
    have HE : Hid (r = 0) := by
      show _ = _
      obtain ⟨v1, v2, v3, v4⟩ := HV.out
      rw [← HR.out]
      unfold fT
      rw [v1, v2, v3, v4]
      rw [if_neg h4, if_pos ⟨hz, hy⟩, if_neg h5, if_pos hn0, if_pos h1]; rfl
    clear h4 hz hy h5 hn0 h1
    go_wp2
    go_ret
    exact ⟨by rw [HE.out]; rfl, by first | exact bel1 _ _ | exact below_drewN (bel1 _ _) _⟩
  have b1 : (op == 1) = false := beq_eq_false_iff_ne.2 h1
  by_cases h2 : op = 2
  · have b2 : (op == 2) = true := beq_iff_eq.2 h2
    have HE : Hid (r = 0) := by
      show _ = _
      obtain ⟨v1, v2, v3, v4⟩ := HV.out
      rw [← HR.out]
      unfold fT
      rw [v1, v2, v3, v4]
      rw [if_neg h4, if_pos ⟨hz, hy⟩, if_neg h5, if_pos hn0, if_neg h1, if_pos h2]; rfl
    clear h4 hz hy h5 hn0 h1 h2
    go_wp2
    go_ret
    exact ⟨by rw [HE.out]; rfl, by first | exact bel1 _ _ | exact below_drewN (bel1 _ _) _⟩
  have b2 : (op == 2) = false := beq_eq_false_iff_ne.2 h2
  by_cases h3 : op = 3
  · have b3 : (op == 3) = true := beq_iff_eq.2 h3
    have HE : Hid (r = 0) := by
      show _ = _
      obtain ⟨v1, v2, v3, v4⟩ := HV.out
      rw [← HR.out]
      unfold fT
      rw [v1, v2, v3, v4]
      rw [if_neg h4, if_pos ⟨hz, hy⟩, if_neg h5, if_pos hn0, if_neg h1, if_neg h2, if_pos h3]; rfl
    clear h4 hz hy h5 hn0 h1 h2 h3
    go_wp2
    go_ret
    exact ⟨by rw [HE.out]; rfl, by first | exact bel1 _ _ | exact below_drewN (bel1 _ _) _⟩
  have b3 : (op == 3) = false := beq_eq_false_iff_ne.2 h3
  by_cases h6 : op = 6
  · have b6 : (op == 6) = true := beq_iff_eq.2 h6
    have HE : Hid (r = 2) := by
      show _ = _
      obtain ⟨v1, v2, v3, v4⟩ := HV.out
      rw [← HR.out]
      unfold fT
      rw [v1, v2, v3, v4]
      rw [if_neg h4, if_pos ⟨hz, hy⟩, if_neg h5, if_pos hn0, if_neg h1, if_neg h2, if_neg h3, if_pos h6]; rfl
    clear h4 hz hy h5 hn0 h1 h2 h3 h6
    go_wp2
    go_ret
    exact ⟨by rw [HE.out]; rfl, by first | exact bel1 _ _ | exact below_drewN (bel1 _ _) _⟩
  have b6 : (op == 6) = false := beq_eq_false_iff_ne.2 h6
  have HE : Hid (r = -1) := by
    show _ = _
    obtain ⟨v1, v2, v3, v4⟩ := HV.out
    rw [← HR.out]
    unfold fT
    rw [v1, v2, v3, v4]
    rw [if_neg h4, if_pos ⟨hz, hy⟩, if_neg h5, if_pos hn0, if_neg h1, if_neg h2, if_neg h3, if_neg h6]; rfl
  clear h4 hz hy h5 hn0 h1 h2 h3 h6
  go_wp2
  go_ret
  exact ⟨by rw [HE.out]; rfl, by first | exact bel1 _ _ | exact below_drewN (bel1 _ _) _⟩

end Go.Proofs.YtcehppndpccldaaDoor
