/-
  Tables: the program's and the model's ValidTable.
-/
import Derived.Test.YtefplfcfoapnjaaTabQ
import Derived.Test.YtefplfcfoapnjaaTabSpec
namespace Go.Proofs.Ytefplfcfoapnjaa
open Go.RowKit

set_option maxHeartbeats 1000000 in
theorem c9 (ao : Option Addr) (b o n c : Nat) (p : Nat → SP) (D : Nat → SD) (w : World) (h1 : SlotsAt w ao b o n p D) :
    Calls Try.prog 9 #[.agg #[.slice ao n c]] w fun e w' => e = .returned (.bool (vt n D)) ∧ Below w.heap.size w w' := by
  have HB : Hid (∀ w', Below w.heap.size w w' → SlotsAt w' ao b o n p D) := fun w' hb => h1.below hb
  clear h1
  go_enter Try.func9, Try.ntmps9
  go_wp2_with fail
  refine (c28 ao b o n c p D _ (by exact HB.out _ (bel1 _ _))).mono ?_
  rintro e w1 ⟨ptr, rfl, hb1, _⟩
  go_wp2
  go_ret
  exact ⟨rfl, (bel1 w _).trans (hb1.mono (by simp))⟩

theorem kl_lt {k k' : Int} {m m' : ByteArray} (h : k < k') : kl k m k' m' = true := by unfold kl; simp [h]
theorem kl_gt {k k' : Int} {m m' : ByteArray} (h : k' < k) : kl k m k' m' = false := by
  unfold kl
  rw [decide_eq_false (by omega), decide_eq_false (by omega)]; rfl
theorem kl_eq {k k' : Int} {m m' : ByteArray} (h : k = k') : kl k m k' m' = lt m m' := by
  unfold kl
  rw [decide_eq_false (by omega), decide_eq_true h]; simp

set_option maxHeartbeats 2000000 in
theorem c26 (k : Int) (m : ByteArray) (k' : Int) (m' : ByteArray) (w : World) (hm : m.size ≤ 9223372036854775807) (hm' : m'.size ≤ 9223372036854775807) :
    Calls Try.prog 26 #[.agg #[.int .i64 k, .string m], .agg #[.int .i64 k', .string m']] w fun e w' => e = .returned (.bool (kl k m k' m')) ∧ Below w.heap.size w w' := by
  by_cases h : k = k'
  · have HV : Hid (kl k m k' m' = lt m m') := kl_eq h
    subst h
    go_enter Try.func26, Try.ntmps26
    go_wp2_with fail
    refine (n33 m m' _ hm hm').mono ?_
    rintro e w1 ⟨rfl, kk, rfl⟩
    go_wp2
    go_ret
    exact ⟨ret_bool HV.out.symm, below_drewN (bel2 _ _ _) _⟩
  · have b0 : (k != k') = true := by simp [h]
    have HV : Hid (decide (k < k') = kl k m k' m') := by
      show decide (k < k') = _
      unfold kl
      rw [decide_eq_false h, Bool.false_and, Bool.or_false]
    clear h
    go_enter Try.func26, Try.ntmps26
    go_wp2
    go_ret
    exact ⟨ret_bool HV.out, bel2 _ _ _⟩

set_option maxRecDepth 100000 in
set_option maxHeartbeats 4000000 in
theorem c7 (ao : Option Addr) (b o n c : Nat) (p : Nat → SP) (D : Nat → SD) (w : World) (h1 : SlotsAt w ao b o n p D) :
    Calls Try.prog 7 #[.agg #[.slice ao n c]] w fun e w' => e = .returned (.bool (vt n D)) ∧ Below w.heap.size w w' := by
  have HB : Hid (∀ w', Below w.heap.size w w' → SlotsAt w' ao b o n p D) := fun w' hb => h1.below hb
  have A1 := h1.at_
  have hlen := h1.len
  clear h1
  by_cases hbig : 4096 < n
  · have HV : Hid (vt n D = false) := vt_big hbig
    go_enter Try.func7, Try.ntmps7
    go_wp2
    go_ret
    exact ⟨ret_bool HV.out.symm, bel1 _ _⟩
  go_enter Try.func7, Try.ntmps7
  go_wp2
  go_loopw [3] (fun i wr => ∃ k : Nat, k ≤ n ∧ i = .int .i64 k ∧ Below w.heap.size w wr ∧ w.heap.size < wr.heap.size ∧ wr.cell? ⟨w.heap.size, 0, none⟩ = some (.slice ao n c) ∧ Hid (∀ j, j < k → so D j = true)) (fun i _ => n - (intOf i).toNat)
  case atStart => exact ⟨0, Nat.zero_le _, rfl, bel1 _ _, by simp, by simp, fun j h => absurd h (Nat.not_lt_zero _)⟩
  case round =>
    obtain ⟨k, hk, rfl, hb, hz, hc, HA⟩ := hrel
    by_cases hlt : k < n
    · have e1 := A1 (by omega)
      have q1 := HB.out wr hb
      obtain ⟨x0, x1, x2, x3, x4, x5, x6, x7, x8⟩ := q1.nine k hlt
      have N1 := q1.slot k hlt
      clear q1
      subst e1
      go_wp2_with fail
      refine (c25 (p k) (D k) _ N1).mono ?_
      rintro e w1 ⟨rfl, hb1⟩
      have H1 : Hid (Below w.heap.size w w1) := hb.trans (hb1.mono hb.size)
      have hc1 : w1.cell? ⟨w.heap.size, 0, none⟩ = some (.slice (some ⟨b, o, none⟩) n c) := by rw [hb1.cell (p := ⟨w.heap.size, 0, none⟩) hz]; exact hc
      have hz1 : w.heap.size < w1.heap.size := Nat.lt_of_lt_of_le hz hb1.size
      clear hb1 hb hc hz x0 x1 x2 x3 x4 x5 x6 x7 x8 N1
      cases hv : sv (D k)
      · have HF : Hid (vt n D = false) := vt_no k hlt (so_s hv)
        clear hv
        go_wp2
        go_ret
        exact ⟨ret_bool HF.out.symm, H1.out⟩
      have HSO : Hid (so D k = pl D k) := so_pl hv
      clear hv
      by_cases h0 : k = 0
      · have H0 : Hid (k = 0) := h0
        have n0 : decide (0 < k) = false := decide_eq_false (by omega)
        have HK : Hid (so D k = true) := by show so D k = true; rw [HSO.out, H0.out]; rfl
        have hk1 : IntKind.i64.wrap ((k : Int) + 1) = ((k + 1 : Nat) : Int) := by rw [IntKind.wrap_i64]; omega
        clear h0
        go_wp2
        go_quiet (fail)
        go_wp2
        go_roundw
        case rel => exact ⟨k + 1, by omega, by go_num, below_drewN H1.out _, by simpa using hz1, by simpa using hc1, fun j hj => by
          by_cases e : j = k
          · subst e; exact HK.out
          · exact HA.out j (by omega)⟩
        case measure => simp [intOf]; omega
      · obtain ⟨z, hkz⟩ : ∃ z, k = z + 1 := ⟨k - 1, by omega⟩
        have HKZ : Hid (k = z + 1) := hkz
        have n0 : 0 < k := by omega
        have hw1 : IntKind.i64.wrap ((k : Int) - 1) = (z : Int) := by rw [IntKind.wrap_i64]; omega
        have hq1 : (z : Int) < (n : Int) := by omega
        have hq2 : (0 : Int) ≤ (z : Int) := by omega
        have hq3 : (k : Int) < (n : Int) := by omega
        have HZ : Hid (∀ W, Below w1.heap.size w1 W → W.cell? ⟨w.heap.size, 0, none⟩ = some (.slice (some ⟨b, o, none⟩) n c) ∧ W.cell? ⟨b, o + k * 9, none⟩ = some (.int .i64 (D k).k) ∧ W.cell? ⟨b, o + k * 9 + 1, none⟩ = some (.string (D k).m) ∧ W.cell? ⟨b, o + z * 9, none⟩ = some (.int .i64 (D z).k) ∧ W.cell? ⟨b, o + z * 9 + 1, none⟩ = some (.string (D z).m)) := fun W hW => by
          have q := HB.out W (H1.out.trans (hW.mono H1.out.size))
          obtain ⟨a0, a1, _⟩ := q.nine k hlt
          obtain ⟨b0, b1, _⟩ := q.nine z (by omega)
          exact ⟨by rw [hW.cell (p := ⟨w.heap.size, 0, none⟩) hz1]; exact hc1, a0, a1, b0, b1⟩
        have hsk : (D k).m.size ≤ 9223372036854775807 := ((HB.out w1 H1.out).slot k hlt).sm
        have hsz : (D z).m.size ≤ 9223372036854775807 := ((HB.out w1 H1.out).slot z (by omega)).sm
        have HPL : Hid (pl D k = kl (D z).k (D z).m (D k).k (D k).m) := by show pl D k = _; rw [HKZ.out]; rfl
        obtain ⟨r, hr⟩ : ∃ r, kl (D z).k (D z).m (D k).k (D k).m = r := ⟨_, rfl⟩
        have C26 : Hid (Calls Try.prog 26 #[.agg #[.int .i64 (D z).k, .string (D z).m], .agg #[.int .i64 (D k).k, .string (D k).m]] w1.drew fun e w' => e = .returned (.bool r) ∧ Hid (Below w1.heap.size w1 w')) := by
          rw [← hr]
          exact (c26 _ _ _ _ w1.drew hsz hsk).mono fun e w' ⟨he, hb⟩ => ⟨he, (Below.refl _ _).drew.trans (hb.mono (Nat.le_refl _))⟩
        have HRR : Hid (so D k = r) := HSO.out.trans (HPL.out.trans hr)
        obtain ⟨a0, a1, a2, a3, a4⟩ := HZ.out w1 (Below.refl _ _)
        clear hr hkz h0 HSO HPL hsk hsz hc1
        go_wp2_with fail
        go_region_held3 (fun w' => w'.cell? ⟨w.heap.size, 0, none⟩ = some (.slice (some ⟨b, o, none⟩) n c) ∧ w'.cell? ⟨b, o + k * 9, none⟩ = some (.int .i64 (D k).k) ∧ w'.cell? ⟨b, o + k * 9 + 1, none⟩ = some (.string (D k).m) ∧ w'.cell? ⟨b, o + z * 9, none⟩ = some (.int .i64 (D z).k) ∧ w'.cell? ⟨b, o + z * 9 + 1, none⟩ = some (.string (D z).m)) (go_keep)
          (first | (go_at_call 26; (with_reducible refine C26.out.mono ?_); rintro e w2 ⟨rfl, H2⟩; obtain ⟨c0, c1, c2, c3, c4⟩ := HZ.out w2 H2.out))
        all_goals
          have H3 : Hid (Below w.heap.size w w2) := H1.out.trans (H2.out.mono H1.out.size)
          have hz2 : w.heap.size < w2.heap.size := Nat.lt_of_lt_of_le hz1 H2.out.size
          clear a0 a1 a2 a3 a4 c1 c2 c3 c4 C26 HZ H2 hw1 hq1 hq2
          cases r
          · have HF : Hid (vt n D = false) := vt_no k hlt HRR.out
            go_wp2
            go_ret
            exact ⟨ret_bool HF.out.symm, H3.out⟩
          · go_wp2
            go_roundw
            case rel => exact ⟨k + 1, by omega, by go_num, H3.out, hz2, c0, fun j hj => by
              by_cases e : j = k
              · subst e; exact HRR.out
              · exact HA.out j (by omega)⟩
            case measure => simp [intOf]; omega
    · have HF : Hid (vt n D = true) := vt_yes (by omega) (fun j hj => HA.out j (by omega))
      go_wp2
      go_ret
      exact ⟨ret_bool HF.out.symm, hb⟩

end Go.Proofs.Ytefplfcfoapnjaa
