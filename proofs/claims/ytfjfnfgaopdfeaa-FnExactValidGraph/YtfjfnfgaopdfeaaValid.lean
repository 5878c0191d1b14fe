/-
  The contracts of the program's own look at a graph.
-/
import Derived.Test.YtfjfnfgaopdfeaaEq
import Derived.Test.YtfjfnfgaopdfeaaNames2
namespace Go.Proofs.Ytfjfnfgaopdfeaa
open Go.RowKit

set_option maxHeartbeats 1000000 in
theorem c13 (ga : Option Addr) (N gc : Nat) (ao : Option Addr) (b o n c : Nat) (D : Nat → Int) (w : World) (h1 : IntsAt w ao b o n D) (_hN : N ≤ 9223372036854775807) :
    Calls Try.prog 13 #[.agg #[.slice ga N gc], .slice ao n c] w fun e w' => e = .returned (.bool (kok n D N)) ∧ Below w.heap.size w w' := by
  have hlen := h1.len
  have HB : Hid (∀ w', Below w.heap.size w w' → IntsAt w' ao b o n D) := fun w' hb => h1.below hb
  have A1 := h1.at_
  clear h1
  go_enter Try.func13, Try.ntmps13
  go_wp2
  go_loop [9] (fun i => ∃ k : Nat, k ≤ n ∧ i = .int .i64 k ∧ Hid (∀ j, j < k → decide (0 ≤ D j ∧ D j < N) = true)) (fun i => n - (intOf i).toNat)
  case atStart => exact ⟨0, Nat.zero_le _, rfl, fun j h => absurd h (Nat.not_lt_zero _)⟩
  case round =>
    obtain ⟨k, hk, rfl, HA⟩ := hrel
    by_cases hlt : k < n
    · have e1 := A1 (by omega)
      have g1 := (HB.out _ (bel1 w (.cells #[.slice ga N gc] 29))).cell k hlt
      subst e1
      by_cases h2 : D k < 0
      · have HF : Hid (kok n D N = false) := allTo_false k hlt (decide_eq_false (by omega))
        go_wp2
        go_ret
        exact ⟨ret_bool HF.out.symm, bel1 _ _⟩
      · by_cases h3 : D k < N
        · have HK : Hid (decide (0 ≤ D k ∧ D k < N) = true) := decide_eq_true ⟨by omega, h3⟩
          go_wp2
          go_round
          case rel => exact ⟨k + 1, by omega, by go_num, fun j hj => by
            by_cases e : j = k
            · subst e; exact HK.out
            · exact HA.out j (by omega)⟩
          case measure => simp [intOf]; omega
        · have HF : Hid (kok n D N = false) := allTo_false k hlt (decide_eq_false (by omega))
          go_wp2
          go_ret
          exact ⟨ret_bool HF.out.symm, bel1 _ _⟩
    · have HF : Hid (kok n D N = true) := allTo_true (fun j hj => HA.out j (by omega))
      go_wp2
      go_ret
      exact ⟨ret_bool HF.out.symm, bel1 _ _⟩

theorem lt_irr {a b : ByteArray} (h : lt a b = true) : (a.toList == b.toList) = false := by
  by_cases e : a.toList = b.toList
  · exfalso
    unfold lt at h
    rw [e] at h
    have := bl_append b.toList [] []
    simp only [List.append_nil] at this
    rw [this] at h
    cases h
  · simpa using e

set_option maxHeartbeats 2000000 in
theorem c19 (ao : Option Addr) (b o n c : Nat) (S : Nat → ByteArray) (w : World) (h1 : StrsAt w ao b o n S) :
    Calls Try.prog 19 #[.slice ao n c] w fun e w' => e = .returned (.bool (gio n S)) ∧ w' = w := by
  have hlen := h1.len
  go_enter Try.func19, Try.ntmps19
  go_wp2
  go_loop [7] (fun i => ∃ k : Nat, k ≤ n ∧ i = .int .i64 k ∧ Hid (∀ j, j < k → (gn (S j) && (decide (j = 0) || lt (S (j - 1)) (S j))) = true)) (fun i => n - (intOf i).toNat)
  case atStart => exact ⟨0, Nat.zero_le _, rfl, fun j h => absurd h (Nat.not_lt_zero _)⟩
  case round =>
    obtain ⟨k, hk, rfl, HA⟩ := hrel
    by_cases hlt : k < n
    · have e1 := h1.at_ (by omega)
      have g1 := h1.cell k hlt
      have hs := h1.size k hlt
      subst e1
      cases hg : gn (S k)
      · have HF : Hid (gio n S = false) := allTo_false k hlt (by rw [hg]; rfl)
        go_wp2_with (go_at_call 27; refine (c27 _ _ hs).mono ?_; rintro e w' ⟨rfl, rfl⟩)
        go_ret
        exact ⟨ret_bool HF.out.symm, rfl⟩
      · by_cases h0 : k = 0
        · subst h0
          have g1' : w.cell? ⟨b, o, none⟩ = some (.string (S 0)) := g1
          have HK : Hid ((gn (S 0) && (decide (0 = 0) || lt (S (0 - 1)) (S 0))) = true) := by rw [hg]; rfl
          go_wp2_with (go_at_call 27; refine (c27 _ _ hs).mono ?_; rintro e w' ⟨rfl, rfl⟩)
          go_round
          case rel => exact ⟨1, by omega, by go_num, fun j hj => by
            have : j = 0 := by omega
            subst this; exact HK.out⟩
          case measure => simp [intOf]; omega
        · obtain ⟨q, rfl⟩ : ∃ q, k = q + 1 := ⟨k - 1, by omega⟩
          have g2 := h1.cell q (by omega)
          cases hl : lt (S q) (S (q + 1))
          · have HF : Hid (gio n S = false) := allTo_false (q + 1) hlt (by rw [hg]; simp [hl])
            have hl' : Op.bytesLess (S q).toList (S (q + 1)).toList = false := hl
            go_wp2_with (go_at_call 27; refine (c27 _ _ hs).mono ?_; rintro e w' ⟨rfl, rfl⟩)
            go_ret
            exact ⟨ret_bool HF.out.symm, rfl⟩
          · have HK : Hid ((gn (S (q + 1)) && (decide (q + 1 = 0) || lt (S (q + 1 - 1)) (S (q + 1)))) = true) := by show (_ && _) = true; rw [hg]; simp [hl]
            have hl' : Op.bytesLess (S q).toList (S (q + 1)).toList = true := hl
            go_wp2_with (go_at_call 27; refine (c27 _ _ hs).mono ?_; rintro e w' ⟨rfl, rfl⟩)
            go_round
            case rel => exact ⟨q + 1 + 1, by omega, by go_num, fun j hj => by
              by_cases e : j = q + 1
              · subst e; exact HK.out
              · exact HA.out j (by omega)⟩
            case measure => simp [intOf]; omega
    · have HF : Hid (gio n S = true) := allTo_true (fun j hj => HA.out j (by omega))
      go_wp2
      go_ret
      exact ⟨ret_bool HF.out.symm, rfl⟩

/-- The shape, way by way. -/
theorem shp4 {d : ND} (h : d.kind = 4) : shp d = decide (d.nn = 0 ∧ d.nk = 2) := by unfold shp; rw [if_pos h]
theorem shp3 {d : ND} (h : d.kind = 3) : shp d = (decide (d.nn = d.nk) && gio d.nn d.nm) := by unfold shp; rw [if_neg (by omega), if_pos h]
theorem shp012 {d : ND} (h : d.kind = 0 ∨ d.kind = 1 ∨ d.kind = 2) : shp d = decide (d.nn = 0 ∧ d.nk = 0) := by unfold shp; rw [if_neg (by omega), if_neg (by omega), if_pos h]
theorem shpno {d : ND} (h : d.kind ≠ 0 ∧ d.kind ≠ 1 ∧ d.kind ≠ 2 ∧ d.kind ≠ 3 ∧ d.kind ≠ 4) : shp d = false := by unfold shp; rw [if_neg (by omega), if_neg (by omega), if_neg (by omega)]

theorem fin2 {nn nk : Nat} {m : Nat} (x : Bool) (hx : x = decide (nk = m)) (h : nn = 0) : x = decide (nn = 0 ∧ nk = m) := by rw [hx, decide_eq_decide]; exact ⟨fun e => ⟨h, e⟩, fun e => e.2⟩
theorem fin3 {nn nk : Nat} {m : Nat} (h : ¬ nn = 0) : false = decide (nn = 0 ∧ nk = m) := (decide_eq_false (fun e => h e.1)).symm
theorem beq_cast (n m : Nat) : ((n : Int) == (m : Int)) = decide (n = m) := by rw [Bool.eq_iff_iff]; simp; omega

set_option maxHeartbeats 4000000 in
theorem c12 (p : NP) (d : ND) (w : World) (h1 : NodeAt w p d) :
    Calls Try.prog 12 #[ndv p d] w fun e w' => e = .returned (.bool (shp d)) ∧ Below w.heap.size w w' := by
  have HB : Hid (∀ w', Below w.heap.size w w' → NodeAt w' p d) := fun w' hb => h1.below hb
  clear h1
  unfold ndv
  by_cases k3 : d.kind = 3
  · have HS : Hid (shp d = (decide (d.nn = d.nk) && gio d.nn d.nm)) := shp3 k3
    have b0 : (d.kind == 0) = false := beq_eq_false_iff_ne.2 (by omega)
    have b1 : (d.kind == 1) = false := beq_eq_false_iff_ne.2 (by omega)
    have b2 : (d.kind == 2) = false := beq_eq_false_iff_ne.2 (by omega)
    have b3 : (d.kind == 3) = true := beq_iff_eq.2 k3
    clear k3
    by_cases e : d.nn = d.nk
    · have he : Hid (d.nn = d.nk) := e
      have b : ((d.nn : Int) == (d.nk : Int)) = true := by rw [beq_iff_eq]; omega
      clear e
      go_enter Try.func12, Try.ntmps12
      go_wp2_with fail
      refine (c19 p.a1 p.b1 p.o1 d.nn p.c1 d.nm _ (by exact (HB.out _ (bel1 _ _)).names)).mono ?_
      rintro e w' ⟨rfl, rfl⟩
      go_wp2
      go_ret
      exact ⟨ret_bool (by rw [HS.out, decide_eq_true he.out, Bool.true_and]), bel1 _ _⟩
    · have he : Hid (¬ d.nn = d.nk) := e
      have b : ((d.nn : Int) == (d.nk : Int)) = false := beq_eq_false_iff_ne.2 (by omega)
      clear e
      go_enter Try.func12, Try.ntmps12
      go_wp2
      go_ret
      exact ⟨ret_bool (by rw [HS.out, decide_eq_false he.out, Bool.false_and]), bel1 _ _⟩
  by_cases k4 : d.kind = 4
  · have HS : Hid (shp d = decide (d.nn = 0 ∧ d.nk = 2)) := shp4 k4
    have b0 : (d.kind == 0) = false := beq_eq_false_iff_ne.2 (by omega)
    have b1 : (d.kind == 1) = false := beq_eq_false_iff_ne.2 (by omega)
    have b2 : (d.kind == 2) = false := beq_eq_false_iff_ne.2 (by omega)
    have b3 : (d.kind == 3) = false := beq_eq_false_iff_ne.2 (by omega)
    have b4 : (d.kind == 4) = true := beq_iff_eq.2 k4
    clear k4 k3
    by_cases e : d.nn = 0
    · have he : Hid (d.nn = 0) := e
      have b : ((d.nn : Int) == 0) = true := by rw [beq_iff_eq]; omega
      clear e
      go_enter Try.func12, Try.ntmps12
      go_wp2
      go_ret
      exact ⟨ret_bool (by rw [HS.out]; exact fin2 _ (beq_cast _ _) he.out), bel1 _ _⟩
    · have he : Hid (¬ d.nn = 0) := e
      have b : ((d.nn : Int) == 0) = false := beq_eq_false_iff_ne.2 (by omega)
      clear e
      go_enter Try.func12, Try.ntmps12
      go_wp2
      go_ret
      exact ⟨ret_bool (by rw [HS.out]; exact fin3 he.out), bel1 _ _⟩
  by_cases k5 : d.kind = 0 ∨ d.kind = 1 ∨ d.kind = 2
  · have HS : Hid (shp d = decide (d.nn = 0 ∧ d.nk = 0)) := shp012 k5
    have hex : ∃ x y z : Bool, (d.kind == 0) = x ∧ (d.kind == 1) = y ∧ (d.kind == 2) = z ∧ (x || y || z) = true := ⟨_, _, _, rfl, rfl, rfl, by simpa [or_assoc] using k5⟩
    obtain ⟨x, y, z, b0, b1, b2, hxyz⟩ := hex
    clear k5 k4 k3
    by_cases e : d.nn = 0
    · have he : Hid (d.nn = 0) := e
      have b : ((d.nn : Int) == 0) = true := by rw [beq_iff_eq]; omega
      clear e
      cases x <;> cases y <;> cases z <;> first
        | (exfalso; revert hxyz; decide)
        | (clear hxyz
           go_enter Try.func12, Try.ntmps12
           go_wp2
           go_ret
           exact ⟨ret_bool (by rw [HS.out]; exact fin2 _ (beq_cast _ _) he.out), bel1 _ _⟩)
    · have he : Hid (¬ d.nn = 0) := e
      have b : ((d.nn : Int) == 0) = false := beq_eq_false_iff_ne.2 (by omega)
      clear e
      cases x <;> cases y <;> cases z <;> first
        | (exfalso; revert hxyz; decide)
        | (clear hxyz
           go_enter Try.func12, Try.ntmps12
           go_wp2
           go_ret
           exact ⟨ret_bool (by rw [HS.out]; exact fin3 he.out), bel1 _ _⟩)
  · have HS : Hid (shp d = false) := shpno (by omega)
    have b0 : (d.kind == 0) = false := beq_eq_false_iff_ne.2 (by omega)
    have b1 : (d.kind == 1) = false := beq_eq_false_iff_ne.2 (by omega)
    have b2 : (d.kind == 2) = false := beq_eq_false_iff_ne.2 (by omega)
    have b3 : (d.kind == 3) = false := beq_eq_false_iff_ne.2 (by omega)
    have b4 : (d.kind == 4) = false := beq_eq_false_iff_ne.2 (by omega)
    clear k3 k4 k5
    go_enter Try.func12, Try.ntmps12
    go_wp2
    go_ret
    exact ⟨ret_bool HS.out.symm, bel1 _ _⟩

end Go.Proofs.Ytfjfnfgaopdfeaa
