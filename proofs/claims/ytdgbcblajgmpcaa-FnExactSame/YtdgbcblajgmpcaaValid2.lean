/-
  The contract of the program's own ValidGraph.
-/
import Derived.Test.YtdgbcblajgmpcaaValid
import Derived.Test.YtdgbcblajgmpcaaTo3
namespace Go.Proofs.Ytdgbcblajgmpcaa
open Go.RowKit

theorem vgr_big {N : Nat} {G : Nat → ND} (h : 4000 < N) : vgr N G = false := by unfold vgr; rw [decide_eq_false (by omega), Bool.false_and]
theorem vgr_no {N : Nat} {G : Nat → ND} (k : Nat) (hk : k < N) (h : nok (G k) N = false) : vgr N G = false := by unfold vgr; rw [allTo_false k hk h, Bool.and_false]
theorem vgr_yes {N : Nat} {G : Nat → ND} (hN : N ≤ 4000) (h : ∀ j, j < N → nok (G j) N = true) : vgr N G = true := by unfold vgr; rw [decide_eq_true hN, allTo_true h]; rfl
theorem nok_s {d : ND} {N : Int} (h : shp d = false) : nok d N = false := by unfold nok; rw [h, Bool.false_and]
theorem nok_k {d : ND} {N : Int} (h : kok d.nk d.kd N = false) : nok d N = false := by unfold nok; rw [h, Bool.and_false]
theorem nok_y {d : ND} {N : Int} (h : shp d = true) (h' : kok d.nk d.kd N = true) : nok d N = true := by unfold nok; rw [h, h']; rfl

set_option maxHeartbeats 2000000 in
theorem c14 (ao : Option Addr) (b o N c : Nat) (p : Nat → NP) (G : Nat → ND) (w : World) (h1 : NodesAt w ao b o N p G) :
    Calls Try.prog 14 #[.agg #[.slice ao N c]] w fun e w' => e = .returned (.bool (vgr N G)) ∧ Below w.heap.size w w' := by
  have HB : Hid (∀ w', Below w.heap.size w w' → NodesAt w' ao b o N p G) := fun w' hb => h1.below hb
  have A1 := h1.at_
  have hlen := h1.len
  clear h1
  by_cases hbig : 4000 < N
  · have HV : Hid (vgr N G = false) := vgr_big hbig
    go_enter Try.func14, Try.ntmps14
    go_wp2
    go_ret
    exact ⟨ret_bool HV.out.symm, bel1 _ _⟩
  go_enter Try.func14, Try.ntmps14
  go_wp2
  go_loopw [12] (fun i wr => ∃ k : Nat, k ≤ N ∧ i = .int .i64 k ∧ Below w.heap.size w wr ∧ w.heap.size < wr.heap.size ∧ wr.cell? ⟨w.heap.size, 0, none⟩ = some (.slice ao N c) ∧ Hid (∀ j, j < k → nok (G j) N = true)) (fun i _ => N - (intOf i).toNat)
  case atStart => exact ⟨0, Nat.zero_le _, rfl, bel1 _ _, by simp, by simp, fun j h => absurd h (Nat.not_lt_zero _)⟩
  case round =>
    obtain ⟨k, hk, rfl, hb, hz, hc, HA⟩ := hrel
    by_cases hlt : k < N
    · have e1 := A1 (by omega)
      have q1 := HB.out wr hb
      have g0 := q1.c0 k hlt
      have g1 := q1.c1 k hlt
      have g2 := q1.c2 k hlt
      have N1 := q1.node k hlt
      clear q1 HB
      subst e1
      go_wp2_with fail
      refine (c24 (p k) (G k) _ (by exact N1.below (bel1 _ _))).mono ?_
      rintro e w' ⟨rfl, hb'⟩
      have B1 : Below wr.heap.size wr w' := (bel1 wr _).trans (hb'.mono (by simp))
      have B2 : Below w.heap.size w w' := hb.trans (B1.mono hb.size)
      have hc' : w'.cell? ⟨w.heap.size, 0, none⟩ = some (.slice (some ⟨b, o, none⟩) N c) := by rw [B1.cell (p := ⟨w.heap.size, 0, none⟩) hz]; exact hc
      have hk' : w'.cell? ⟨wr.heap.size, 2, none⟩ = some (.slice (p k).a2 (G k).nk (p k).c2) := by rw [hb'.cell (p := ⟨wr.heap.size, 2, none⟩) (by simp)]; simp
      have K2 : IntsAt w' (p k).a2 (p k).b2 (p k).o2 (G k).nk (G k).kd := (N1.below B1).kids
      have hz' : w.heap.size < w'.heap.size := by have := B1.size; omega
      clear hb' N1
      cases hs : shp (G k)
      · have HF : Hid (vgr N G = false) := vgr_no k hlt (nok_s hs)
        go_wp2
        go_ret
        exact ⟨ret_bool HF.out.symm, B2⟩
      · have HSS : Hid (shp (G k) = true) := hs
        go_wp2_with fail
        refine (c15 (some ⟨b, o, none⟩) N c (p k).a2 (p k).b2 (p k).o2 (G k).nk (p k).c2 (G k).kd _ K2 hlen).mono ?_
        rintro e w'' ⟨rfl, hb''⟩
        have B3 : Below w.heap.size w w'' := B2.trans (hb''.mono B2.size)
        have hc'' : w''.cell? ⟨w.heap.size, 0, none⟩ = some (.slice (some ⟨b, o, none⟩) N c) := by rw [hb''.cell (p := ⟨w.heap.size, 0, none⟩) hz']; exact hc'
        have hz'' : w.heap.size < w''.heap.size := by have := hb''.size; omega
        clear hb'' K2
        cases hkk : kok (G k).nk (G k).kd N
        · have HF : Hid (vgr N G = false) := vgr_no k hlt (nok_k hkk)
          go_wp2
          go_ret
          exact ⟨ret_bool HF.out.symm, B3⟩
        · have HK : Hid (nok (G k) N = true) := nok_y HSS.out hkk
          go_wp2
          go_roundw
          case rel => exact ⟨k + 1, by omega, by go_num, B3, hz'', hc'', fun j hj => by
            by_cases e : j = k
            · subst e; exact HK.out
            · exact HA.out j (by omega)⟩
          case measure => simp [intOf]; omega
    · have HF : Hid (vgr N G = true) := vgr_yes (by omega) (fun j hj => HA.out j (by omega))
      go_wp2
      go_ret
      exact ⟨ret_bool HF.out.symm, hb⟩

end Go.Proofs.Ytdgbcblajgmpcaa
