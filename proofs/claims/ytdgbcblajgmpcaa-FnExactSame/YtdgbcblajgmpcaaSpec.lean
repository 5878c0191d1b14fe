/-
  The contracts of the model's look at a graph.
-/
import Derived.Test.YtdgbcblajgmpcaaValid2
namespace Go.Proofs.Ytdgbcblajgmpcaa
open Go.RowKit

theorem quiet_at {P : Program} {f : FuncId} {args : Array Value} {W : World} {m n : Nat} {v : Value}
    (h : Calls P f args (W.drewN (m + n)) fun e w' => e = .returned v ∧ ∃ k, w' = (W.drewN (m + n)).drewN k) : Calls P f args (W.drewN (m + n)) fun e w'' => e = .returned v ∧ ∃ n', w'' = W.drewN (m + n') :=
  h.mono fun _ _ ⟨he, k, hk⟩ => ⟨he, n + k, by rw [hk, World.drewN_drewN, Nat.add_assoc]⟩

set_option maxHeartbeats 4000000 in
theorem c21 (p : NP) (d : ND) (N : Int) (w : World) (h1 : NodeAt w p d) :
    Calls Try.prog 21 #[ndv p d, .int .i64 N] w fun e w' => e = .returned (.bool (nok d N)) ∧ Below w.heap.size w w' := by
  have HB : Hid (∀ w', Below w.heap.size w w' → NodeAt w' p d) := fun w' hb => h1.below hb
  have hkl := h1.kids.len
  have hnl := h1.names.len
  have A2 := h1.kids.at_
  have A3 : Hid (0 < d.nn → p.a1 = some ⟨p.b1, p.o1, none⟩) := h1.names.at_
  have A4 : Hid (∀ i, i < d.nn → (d.nm i).size ≤ 9223372036854775807) := h1.names.size
  clear h1
  unfold ndv
  obtain ⟨a1, b1, o1, c1, a2, b2, o2, c2⟩ := p
  simp only at *
  go_enter Try.func21, Try.ntmps21
  go_wp2
  go_loop [5] (fun i => ∃ k : Nat, k ≤ d.nk ∧ i = .int .i64 k ∧ Hid (∀ j, j < k → decide (0 ≤ d.kd j ∧ d.kd j < N) = true)) (fun i => d.nk - (intOf i).toNat)
  case atStart => exact ⟨0, Nat.zero_le _, rfl, fun j h => absurd h (Nat.not_lt_zero _)⟩
  case round =>
    obtain ⟨k, hk, rfl, HA⟩ := hrel
    by_cases hlt : k < d.nk
    · have e1 := A2 (by omega)
      subst e1
      have g1 := (HB.out _ (bel1 w (.cells #[.int .i64 d.kind, .slice a1 d.nn c1, .slice (some ⟨b2, o2, none⟩) d.nk c2] 53))).kids.cell k hlt
      by_cases h2 : d.kd k < 0
      · have HF : Hid (nok d N = false) := nok_k (allTo_false k hlt (decide_eq_false (by omega)))
        go_wp2
        go_ret
        exact ⟨ret_bool HF.out.symm, bel1 _ _⟩
      · by_cases h3 : d.kd k < N
        · have HK : Hid (decide (0 ≤ d.kd k ∧ d.kd k < N) = true) := decide_eq_true ⟨by omega, h3⟩
          go_wp2
          go_round
          case rel => exact ⟨k + 1, by omega, by go_num, fun j hj => by
            by_cases e : j = k
            · subst e; exact HK.out
            · exact HA.out j (by omega)⟩
          case measure => simp [intOf]; omega
        · have HF : Hid (nok d N = false) := nok_k (allTo_false k hlt (decide_eq_false (by omega)))
          go_wp2
          go_ret
          exact ⟨ret_bool HF.out.symm, bel1 _ _⟩
    · have HV : Hid (nok d N = shp d) := by
        have : kok d.nk d.kd N = true := allTo_true (fun j hj => HA.out j (by omega))
        show nok d N = shp d
        unfold nok; rw [this, Bool.and_true]
      clear HA
      by_cases k4 : d.kind = 4
      · have HS : Hid (shp d = decide (d.nn = 0 ∧ d.nk = 2)) := shp4 k4
        have b4 : (d.kind == 4) = true := beq_iff_eq.2 k4
        clear k4
        by_cases e : d.nn = 0
        · have he : Hid (d.nn = 0) := e
          have b : ((d.nn : Int) == 0) = true := by rw [beq_iff_eq]; omega
          clear e
          go_wp2
          go_ret
          exact ⟨ret_bool (by rw [HV.out, HS.out]; exact fin2 _ (beq_cast _ _) he.out), bel1 _ _⟩
        · have he : Hid (¬ d.nn = 0) := e
          have b : ((d.nn : Int) == 0) = false := beq_eq_false_iff_ne.2 (by omega)
          clear e
          go_wp2
          go_ret
          exact ⟨ret_bool (by rw [HV.out, HS.out]; exact fin3 he.out), bel1 _ _⟩
      have b4 : (d.kind == 4) = false := beq_eq_false_iff_ne.2 (by omega)
      by_cases k3 : d.kind = 3
      · have HS : Hid (shp d = (decide (d.nn = d.nk) && gio d.nn d.nm)) := shp3 k3
        have b3 : (d.kind == 3) = true := beq_iff_eq.2 k3
        clear k3 k4
        by_cases e : d.nn = d.nk
        case neg =>
          have he : Hid (¬ d.nn = d.nk) := e
          have b : ((d.nn : Int) != (d.nk : Int)) = true := by rw [bne_iff_ne]; omega
          clear e
          go_wp2
          go_ret
          exact ⟨ret_bool (by rw [HV.out, HS.out, decide_eq_false he.out, Bool.false_and]), bel1 _ _⟩
        have he : Hid (d.nn = d.nk) := e
        have b : ((d.nn : Int) != (d.nk : Int)) = false := by rw [bne_eq_false_iff_eq]; omega
        clear e
        have HE : Hid (nok d N = gio d.nn d.nm) := by show nok d N = _; rw [HV.out, HS.out, decide_eq_true he.out, Bool.true_and]
        clear HV HS he
        clear A2
        go_wp2
        clear hlt hk hkl
        go_loopw [6] (fun i wr => ∃ k : Nat, k ≤ d.nn ∧ i = .int .i64 k ∧ Hid (∀ j, j < k → (gn (d.nm j) && (decide (j = 0) || lt (d.nm (j - 1)) (d.nm j))) = true) ∧ ∃ m, wr = (w.alloc (.cells #[.int .i64 d.kind, .slice a1 d.nn c1, .slice a2 d.nk c2] 53)).drewN m) (fun i _ => d.nn - (intOf i).toNat)
        case atStart => exact ⟨0, Nat.zero_le _, rfl, fun j h => absurd h (Nat.not_lt_zero _), 0, rfl⟩
        case round =>
          obtain ⟨k, hk, rfl, HA, m, rfl⟩ := hrel
          by_cases hlt : k < d.nn
          case neg =>
            have HF : Hid (nok d N = true) := by show nok d N = true; rw [HE.out]; exact allTo_true (fun j hj => HA.out j (by omega))
            go_wp2
            go_ret
            exact ⟨ret_bool HF.out.symm, below_drewN (bel1 _ _) _⟩
          have e1 := A3.out (by omega)
          subst e1
          have q := (HB.out _ (bel1 w (.cells #[.int .i64 d.kind, .slice (some ⟨b1, o1, none⟩) d.nn c1, .slice a2 d.nk c2] 53))).names
          have g1 := q.cell k hlt
          have hs := A4.out k hlt
          cases hg : gn (d.nm k)
          · have HF : Hid (nok d N = false) := by show nok d N = false; rw [HE.out]; exact allTo_false k hlt (by rw [hg]; rfl)
            clear q
            go_wp2_with (go_at_call 32; refine (c32 _ _ hs).mono ?_; rintro e w' ⟨rfl, rfl⟩)
            go_ret
            exact ⟨ret_bool HF.out.symm, below_drewN (bel1 _ _) _⟩
          · by_cases h0 : k = 0
            · subst h0
              have g1' : (w.alloc (.cells #[.int .i64 d.kind, .slice (some ⟨b1, o1, none⟩) d.nn c1, .slice a2 d.nk c2] 53)).cell? ⟨b1, o1, none⟩ = some (.string (d.nm 0)) := g1
              have HK : Hid ((gn (d.nm 0) && (decide (0 = 0) || lt (d.nm (0 - 1)) (d.nm 0))) = true) := by show (_ && _) = true; rw [hg]; rfl
              clear q
              go_wp2_with (go_at_call 32; refine (c32 _ _ hs).mono ?_; rintro e w' ⟨rfl, rfl⟩)
              go_quiet (fail)
              go_wp2
              go_roundw
              case rel => exact ⟨1, by omega, by go_num, fun j hj => by
                have : j = 0 := by omega
                subst this; exact HK.out, _, rfl⟩
              case measure => simp [intOf]; omega
            · obtain ⟨z, rfl⟩ : ∃ z, k = z + 1 := ⟨k - 1, by omega⟩
              have g2 := q.cell z (by omega)
              have hs2 := A4.out z (by omega)
              clear q
              have hpos : (0 : Int) < (z : Int) + 1 := by omega
              have hw1 : IntKind.i64.wrap ((z : Int) + 1 - 1) = (z : Int) := by rw [IntKind.wrap_i64]; omega
              have hw2 : IntKind.i64.wrap (z : Int) = (z : Int) := by rw [IntKind.wrap_i64]; omega
              have hzn : (z : Int) < (d.nn : Int) := by omega
              have hzn1 : (z : Int) + 1 < (d.nn : Int) := by omega
              have hw3 : IntKind.i64.wrap ((z : Int) + 1) = (z : Int) + 1 := by rw [IntKind.wrap_i64]; omega
              have htn : ((z : Int) + 1).toNat = z + 1 := by omega
              have hlo : (0 : Int) ≤ (z : Int) + 1 := by omega
              have hlo' : ¬ ((z : Int) + 1 < 0) := by omega
              cases hl : lt (d.nm z) (d.nm (z + 1))
              · have HF : Hid (nok d N = false) := by show nok d N = false; rw [HE.out]; exact allTo_false (z + 1) hlt (by rw [hg]; simp [hl])
                go_wp2_with (go_at_call 32; refine (c32 _ _ hs).mono ?_; rintro e w' ⟨rfl, rfl⟩)
                go_quiet ((go_at_call 33; exact quiet_at (c33 _ _ _ hs2 hs)))
                go_wp2
                go_ret
                exact ⟨ret_bool HF.out.symm, below_drewN (below_drewN (bel1 _ _) _) _⟩
              · have HK : Hid ((gn (d.nm (z + 1)) && (decide (z + 1 = 0) || lt (d.nm (z + 1 - 1)) (d.nm (z + 1)))) = true) := by show (_ && _) = true; rw [hg]; simp [hl]
                go_wp2_with (go_at_call 32; refine (c32 _ _ hs).mono ?_; rintro e w' ⟨rfl, rfl⟩)
                go_quiet ((go_at_call 33; exact quiet_at (c33 _ _ _ hs2 hs)))
                go_wp2
                go_roundw
                case rel => exact ⟨z + 1 + 1, by omega, by go_num, fun j hj => by
                  by_cases e : j = z + 1
                  · subst e; exact HK.out
                  · exact HA.out j (by omega), _, rfl⟩
                case measure => simp [intOf]; omega
      have b3 : (d.kind == 3) = false := beq_eq_false_iff_ne.2 (by omega)
      clear A2 A3 A4
      by_cases k5 : d.kind = 0 ∨ d.kind = 1 ∨ d.kind = 2
      · have HS : Hid (shp d = decide (d.nn = 0 ∧ d.nk = 0)) := shp012 k5
        have hex : ∃ x y z : Bool, (d.kind == 0) = x ∧ (d.kind == 1) = y ∧ (d.kind == 2) = z ∧ (x || y || z) = true := ⟨_, _, _, rfl, rfl, rfl, by simpa [or_assoc] using k5⟩
        obtain ⟨x, y, z, b0, b1, b2, hxyz⟩ := hex
        clear k5 k4 k3
        by_cases e : d.nn = 0
        · have he : Hid (d.nn = 0) := e
          have b : ((d.nn : Int) == 0) = true := by rw [beq_iff_eq]; omega
          clear e
          cases x <;> cases y <;> cases z <;> first
            | (exfalso; revert hxyz; decide)
            | (clear hxyz
               go_wp2
               go_ret
               exact ⟨ret_bool (by rw [HV.out, HS.out]; exact fin2 _ (beq_cast _ _) he.out), bel1 _ _⟩)
        · have he : Hid (¬ d.nn = 0) := e
          have b : ((d.nn : Int) == 0) = false := beq_eq_false_iff_ne.2 (by omega)
          clear e
          cases x <;> cases y <;> cases z <;> first
            | (exfalso; revert hxyz; decide)
            | (clear hxyz
               go_wp2
               go_ret
               exact ⟨ret_bool (by rw [HV.out, HS.out]; exact fin3 he.out), bel1 _ _⟩)
      · have HS : Hid (shp d = false) := shpno (by omega)
        have b0 : (d.kind == 0) = false := beq_eq_false_iff_ne.2 (by omega)
        have b1 : (d.kind == 1) = false := beq_eq_false_iff_ne.2 (by omega)
        have b2 : (d.kind == 2) = false := beq_eq_false_iff_ne.2 (by omega)
        clear k3 k4 k5
        go_wp2
        go_ret
        exact ⟨ret_bool (by rw [HV.out, HS.out]), bel1 _ _⟩

end Go.Proofs.Ytdgbcblajgmpcaa
