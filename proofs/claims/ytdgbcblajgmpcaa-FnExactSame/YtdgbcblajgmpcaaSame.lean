/-
  The model's Same.
-/
import Derived.Test.YtdgbcblajgmpcaaClasses
import Derived.Test.YtdgbcblajgmpcaaSpec2
namespace Go.Proofs.Ytdgbcblajgmpcaa
open Go.RowKit

theorem allTo_at {n : Nat} {q : Nat → Bool} (h : allTo n q = true) {k : Nat} (hk : k < n) : q k = true := by
  unfold allTo at h; exact List.all_eq_true.1 h k (List.mem_range.2 hk)

theorem vgr_node {N : Nat} {G : Nat → ND} (h : vgr N G = true) {i : Nat} (hi : i < N) : shp (G i) = true ∧ kok (G i).nk (G i).kd N = true := by
  unfold vgr at h
  rw [Bool.and_eq_true] at h
  have := allTo_at h.2 hi
  unfold nok at this
  rw [Bool.and_eq_true] at this
  exact this

theorem vgr_size {N : Nat} {G : Nat → ND} (h : vgr N G = true) : N ≤ 4000 := by
  unfold vgr at h
  rw [Bool.and_eq_true] at h
  exact of_decide_eq_true h.1

theorem vgr_kids {N : Nat} {G : Nat → ND} (h : vgr N G = true) : Kids N G := fun _ hi _ hj => of_decide_eq_true (allTo_at (vgr_node h hi).2 hj)

/-- What Same answers. -/
structure SameAns (N : Nat) (G : Nat → ND) (a b : Int) : Prop where
  valid : vgr N G = true
  a0 : 0 ≤ a
  a1 : a < N
  b0 : 0 ≤ b
  b1 : b < N
  same : Same N G a.toNat b.toNat

def isN (N : Nat) (a : Int) : Bool := decide (0 ≤ a ∧ a < N)

set_option maxHeartbeats 1000000 in
theorem c11 (ao : Option Addr) (N gc : Nat) (a : Int) (w : World) :
    Calls Try.prog 11 #[.agg #[.slice ao N gc], .int .i64 a] w fun e w' => e = .returned (.bool (isN N a)) ∧ Below w.heap.size w w' := by
  by_cases h0 : 0 ≤ a
  · by_cases h1 : a < N
    · have HE : Hid (isN N a = true) := decide_eq_true ⟨h0, h1⟩
      go_enter Try.func11, Try.ntmps11
      go_wp2
      go_ret
      exact ⟨ret_bool HE.out.symm, bel1 _ _⟩
    · have HE : Hid (isN N a = false) := decide_eq_false (fun h => h1 h.2)
      go_enter Try.func11, Try.ntmps11
      go_wp2
      go_ret
      exact ⟨ret_bool HE.out.symm, bel1 _ _⟩
  · have HE : Hid (isN N a = false) := decide_eq_false (fun h => h0 h.1)
    go_enter Try.func11, Try.ntmps11
    go_wp2
    go_ret
    exact ⟨ret_bool HE.out.symm, bel1 _ _⟩

set_option maxHeartbeats 4000000 in
theorem c5 (ao : Option Addr) (gb go N gc : Nat) (p : Nat → NP) (G : Nat → ND) (a b : Int) (w : World) (h1 : NodesAt w ao gb go N p G) :
    Calls Try.prog 5 #[.agg #[.slice ao N gc], .int .i64 a, .int .i64 b] w fun e w' => ∃ r, e = .returned (.bool r) ∧ (r = true ↔ SameAns N G a b) ∧ Below w.heap.size w w' := by
  have HB : Hid (∀ w', Below w.heap.size w w' → NodesAt w' ao gb go N p G) := fun w' hb => h1.below hb
  clear h1
  go_enter Try.func5, Try.ntmps5
  go_wp2_with fail
  refine (c10 ao gb go N gc p G _ (by exact HB.out _ (bel1 _ _))).mono ?_
  rintro e w1 ⟨rfl, hb1⟩
  have B1 : Below w.heap.size w w1 := (bel1 w _).trans (hb1.mono (by simp))
  have k1 : w1.cell? ⟨w.heap.size, 0, none⟩ = some (.slice ao N gc) := by rw [hb1.cell (p := ⟨w.heap.size, 0, none⟩) (by simp)]; simp
  have z1 : w.heap.size < w1.heap.size := by have := hb1.size; simp at this; omega
  clear hb1
  cases hv : vgr N G
  · have HF : Hid (¬ SameAns N G a b) := fun h => by have := h.valid; rw [hv] at this; cases this
    clear hv
    go_wp2
    go_ret
    exact ⟨false, rfl, iff_no HF.out, B1⟩
  have HV : Hid (vgr N G = true) := hv
  clear hv
  go_wp2_with fail
  refine (c11 ao N gc a _).mono ?_
  rintro e w2 ⟨rfl, hb2⟩
  have B2 : Below w.heap.size w w2 := B1.trans (hb2.mono B1.size)
  have k2 : w2.cell? ⟨w.heap.size, 0, none⟩ = some (.slice ao N gc) := (hb2.cell (p := ⟨w.heap.size, 0, none⟩) z1).trans k1
  have z2 : w.heap.size < w2.heap.size := by have := hb2.size; omega
  clear hb2 B1 k1 z1
  cases ha : isN N a
  · have HF : Hid (¬ SameAns N G a b) := fun h => by
      have : isN N a = true := decide_eq_true ⟨h.a0, h.a1⟩
      rw [ha] at this; cases this
    clear ha
    go_wp2
    go_ret
    exact ⟨false, rfl, iff_no HF.out, B2⟩
  obtain ⟨a0, a1⟩ := of_decide_eq_true ha
  clear ha
  go_wp2_with fail
  refine (c11 ao N gc b _).mono ?_
  rintro e w3 ⟨rfl, hb3⟩
  have B3 : Below w.heap.size w w3 := B2.trans (hb3.mono B2.size)
  have k3 : w3.cell? ⟨w.heap.size, 0, none⟩ = some (.slice ao N gc) := (hb3.cell (p := ⟨w.heap.size, 0, none⟩) z2).trans k2
  have z3 : w.heap.size < w3.heap.size := by have := hb3.size; omega
  clear hb3 B2 k2 z2
  cases hb : isN N b
  · have HF : Hid (¬ SameAns N G a b) := fun h => by
      have : isN N b = true := decide_eq_true ⟨h.b0, h.b1⟩
      rw [hb] at this; cases this
    clear hb
    go_wp2
    go_ret
    exact ⟨false, rfl, iff_no HF.out, B3⟩
  obtain ⟨b0, b1⟩ := of_decide_eq_true hb
  clear hb
  go_wp2_with fail
  refine (c12 ao gb go N gc p G _ (by exact HB.out _ B3) (vgr_kids HV.out) (vgr_size HV.out)).mono ?_
  rintro e w4 ⟨nb, nx, rfl, hI, hS, hb4⟩
  have B4 : Below w.heap.size w w4 := B3.trans (hb4.mono B3.size)
  have f1 := hI.cell a.toNat (by omega)
  have f2 := hI.cell b.toNat (by omega)
  simp only [Nat.zero_add] at f1 f2
  have HS : Hid (nx a.toNat = nx b.toNat ↔ Same N G a.toNat b.toNat) := hS _ _ (by omega) (by omega)
  clear hS hI hb4 B3 k3 z3 HB
  by_cases hq : nx a.toNat = nx b.toNat
  · have bq : ((nx a.toNat : Int) == (nx b.toNat : Int)) = true := by rw [beq_iff_eq]; omega
    have HT : Hid (SameAns N G a b) := ⟨HV.out, a0, a1, b0, b1, HS.out.1 hq⟩
    clear hq
    go_wp2
    go_quiet (fail)
    go_wp2
    go_ret
    exact ⟨true, rfl, ⟨fun _ => HT.out, fun _ => rfl⟩, below_drewN B4 _⟩
  · have bq : ((nx a.toNat : Int) == (nx b.toNat : Int)) = false := beq_eq_false_iff_ne.2 (by omega)
    have HF : Hid (¬ SameAns N G a b) := fun h => hq (HS.out.2 h.same)
    clear hq
    go_wp2
    go_quiet (fail)
    go_wp2
    go_ret
    exact ⟨false, rfl, iff_no HF.out, below_drewN B4 _⟩

end Go.Proofs.Ytdgbcblajgmpcaa
