/-
  The contract of the model's ValidGraph.
-/
import Derived.Test.YtfjfnfgaopdfeaaSpec
namespace Go.Proofs.Ytfjfnfgaopdfeaa
open Go.RowKit

set_option maxHeartbeats 4000000 in
theorem c5 (ao : Option Addr) (b o N c : Nat) (p : Nat → NP) (G : Nat → ND) (w : World) (h1 : NodesAt w ao b o N p G) :
    Calls Try.prog 5 #[.agg #[.slice ao N c]] w fun e w' => e = .returned (.bool (vgr N G)) ∧ Below w.heap.size w w' := by
  have HB : Hid (∀ w', Below w.heap.size w w' → NodesAt w' ao b o N p G) := fun w' hb => h1.below hb
  have A1 := h1.at_
  have hlen := h1.len
  clear h1
  by_cases hbig : 4000 < N
  · have HV : Hid (vgr N G = false) := vgr_big hbig
    go_enter Try.func5, Try.ntmps5
    go_wp2
    go_ret
    exact ⟨ret_bool HV.out.symm, bel1 _ _⟩
  go_enter Try.func5, Try.ntmps5
  go_wp2
  go_loopw [3] (fun i wr => ∃ k : Nat, k ≤ N ∧ i = .int .i64 k ∧ Below w.heap.size w wr ∧ w.heap.size < wr.heap.size ∧ wr.cell? ⟨w.heap.size, 0, none⟩ = some (.slice ao N c) ∧ Hid (∀ j, j < k → nok (G j) N = true)) (fun i _ => N - (intOf i).toNat)
  case atStart => exact ⟨0, Nat.zero_le _, rfl, bel1 _ _, by simp, by simp, fun j h => absurd h (Nat.not_lt_zero _)⟩
  case round =>
    obtain ⟨k, hk, rfl, hb, hz, hc, HA⟩ := hrel
    by_cases hlt : k < N
    · have e1 := A1 (by omega)
      have q1 := HB.out wr hb
      have g0 := q1.c0 k hlt
      have g1 := q1.c1 k hlt
      have g2 := q1.c2 k hlt
      have N1 : NodeAt wr.drew (p k) (G k) := (q1.node k hlt).below (Below.refl _ _).drew
      clear q1 HB
      subst e1
      cases hv : nok (G k) N
      · have HF : Hid (vgr N G = false) := vgr_no k hlt hv
        go_wp2
        go_region_with (go_at_call 10; refine (c10 (p k) (G k) _ _ N1).mono ?_; rintro e w' ⟨rfl, hb'⟩)
        all_goals
          go_wp2
          go_ret
          exact ⟨ret_bool HF.out.symm, hb.trans (Below.trans (Below.refl _ _).drew (hb'.mono hb.size))⟩
      · have HK : Hid (nok (G k) N = true) := hv
        go_wp2
        go_region_with (go_at_call 10; refine (c10 (p k) (G k) _ _ N1).mono ?_; rintro e w' ⟨rfl, hb'⟩)
        all_goals
          have B3 : Below w.heap.size w w' := hb.trans (Below.trans (Below.refl _ _).drew (hb'.mono hb.size))
          have hc'' : w'.cell? ⟨w.heap.size, 0, none⟩ = some (.slice (some ⟨b, o, none⟩) N c) := by rw [hb'.cell (p := ⟨w.heap.size, 0, none⟩) hz]; exact hc
          have hz'' : w.heap.size < w'.heap.size := by have := hb'.size; simp at this; omega
          clear hb'
          go_wp2
          go_roundw
          case rel => exact ⟨k + 1, by omega, by go_num, B3, hz'', hc'', fun j hj => by
            by_cases e : j = k
            · subst e; exact HK.out
            · exact HA.out j (by omega)⟩
          case measure => simp [intOf]; omega
    · have HF : Hid (vgr N G = true) := vgr_yes (by omega) (fun j hj => HA.out j (by omega))
      go_wp2
      go_ret
      exact ⟨ret_bool HF.out.symm, hb⟩

end Go.Proofs.Ytfjfnfgaopdfeaa
