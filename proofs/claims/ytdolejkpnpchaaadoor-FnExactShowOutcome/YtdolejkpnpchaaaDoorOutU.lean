/-
  Outcomes: the contracts of the functions that copy: keys that ran, answers.
-/
import Derived.Test.YtdolejkpnpchaaaDoorOutT
namespace Go.Proofs.YtdolejkpnpchaaaDoor
open Go.RowKit

theorem four_at {w : World} {B : Nat} {t : TypeId} {a b c d : Value} (h : w.rowIs B t 4 (t4 a b c d)) :
    (w.cell? ⟨B, 0, none⟩ = some a ∧ w.cell? ⟨B, 1, none⟩ = some b ∧ w.cell? ⟨B, 2, none⟩ = some c ∧ w.cell? ⟨B, 3, none⟩ = some d) ∧ (w.frozen? ⟨B, 0, none⟩ = false ∧ w.frozen? ⟨B, 1, none⟩ = false ∧ w.frozen? ⟨B, 2, none⟩ = false ∧ w.frozen? ⟨B, 3, none⟩ = false) :=
  ⟨⟨h.cell (i := 0) (by omega), h.cell (i := 1) (by omega), h.cell (i := 2) (by omega), h.cell (i := 3) (by omega)⟩, ⟨h.frozen _, h.frozen _, h.frozen _, h.frozen _⟩⟩

set_option maxHeartbeats 4000000 in
theorem t_ran (kd : Int) (md : ByteArray) (rv wk : Int) (w : World) :
    Calls Tryd.prog 32 #[.agg #[.int .i64 kd, .string md, .int .i64 rv, .int .i64 wk]] w fun e w' => e = .returned (.agg #[.int .i64 kd, .string md, .int .i64 rv, .int .i64 wk]) ∧ Below w.heap.size w w' := by
  go_enter Tryd.func32, Tryd.ntmps32
  go_wp2_with fail
  refine (c15 kd md _).mono ?_
  rintro e w1 ⟨rfl, hb1⟩
  have B1 := (bel3 w _ _ _).trans (hb1.mono (by simp; omega))
  have R1 := (((rowt4 w (.int .i64 kd) (.string md) (.int .i64 rv) (.int .i64 wk) 79).alloc (.cells #[.int .i64 0, .string ByteArray.empty, .int .i64 0, .int .i64 0] 55)).alloc (.cells #[.int .i64 0, .string ByteArray.empty, .int .i64 0, .int .i64 0] 55)) |>.of_block (hb1.block _ (by simp; omega))
  have R2 := ((rowt4 (w.alloc (.cells #[.int .i64 kd, .string md, .int .i64 rv, .int .i64 wk] 79)) (.int .i64 0) (.string ByteArray.empty) (.int .i64 0) (.int .i64 0) 55).alloc (.cells #[.int .i64 0, .string ByteArray.empty, .int .i64 0, .int .i64 0] 55)) |>.of_block (hb1.block _ (by simp))
  have R3 := (rowt4 ((w.alloc (.cells #[.int .i64 kd, .string md, .int .i64 rv, .int .i64 wk] 79)).alloc (.cells #[.int .i64 0, .string ByteArray.empty, .int .i64 0, .int .i64 0] 55)) (.int .i64 0) (.string ByteArray.empty) (.int .i64 0) (.int .i64 0) 55) |>.of_block (hb1.block _ (by simp))
  simp only [World.size_alloc] at R2 R3
  obtain ⟨⟨x0, x1, x2, x3⟩, _⟩ := four_at R1
  obtain ⟨⟨y0, y1, y2, y3⟩, ⟨z0, z1, z2, z3⟩⟩ := four_at R3
  obtain ⟨⟨m0, m1, m2, m3⟩, ⟨l0, l1, l2, l3⟩⟩ := four_at R2
  have HB1 := hid_of B1
  clear hb1 R1 R2 R3 B1
  go_wp2_with fail
  refine bodyPost_ret (v := .agg #[.int .i64 kd, .string md, .int .i64 rv, .int .i64 wk]) (by simp [results, Tryd.results32, go_sem, m0, m1, m2, m3]) rfl ⟨rfl, ?_⟩
  repeat' (first | with_reducible exact HB1.out | refine Below.setCell ?_ ?_ _)
  all_goals (simp; try omega)

set_option maxHeartbeats 4000000 in
theorem t_rans (oa : Option Addr) (ga o n c : Nat) (R : Nat → RD) (w : World) (hn : n ≤ 1048576) (h1 : RanO w oa ga o n R) :
    Calls Tryd.prog 16 #[.slice oa n c] w fun e w' => e = .returned (.slice (some ⟨w.heap.size, 0, none⟩) n n) ∧ RanAt w' (some ⟨w.heap.size, 0, none⟩) w.heap.size n R ∧ Below w.heap.size w w' ∧ w.heap.size < w'.heap.size := by
  have hmk := makeF4 n hn
  have HB : Hid (∀ w', Below w.heap.size w w' → RanO w' oa ga o n R) := fun w' hb => h1.below hb
  have A1 := h1.here
  clear h1
  go_enter Tryd.func16, Tryd.ntmps16
  go_wp2
  clear hmk
  go_loopw [4] (fun i wr => ∃ k : Nat, k ≤ n ∧ i = .int .i64 k ∧ Fil4 w wr n k (fun i => ent4 (.int .i64 (R i).kind) (.string (R i).mod) (.int .i64 (R i).rev) (.int .i64 (R i).wk))) (fun i _ => n - (intOf i).toNat)
  case atStart => exact ⟨0, Nat.zero_le _, rfl, fil4_start _ _ _⟩
  case round =>
    obtain ⟨k, hk, rfl, hF⟩ := hrel
    by_cases hlt : k < n
    · have e1 := A1 (by omega)
      have q1 := HB.out wr hF.below
      have g0 := q1.c0 k hlt
      have g1 := q1.c1 k hlt
      have g2 := q1.c2 k hlt
      have g3 := q1.c3 k hlt
      clear q1 HB
      subst e1
      go_wp2_with fail
      refine (t_ran (R k).kind (R k).mod (R k).rev (R k).wk _).mono ?_
      rintro e w' ⟨rfl, hb'⟩
      obtain ⟨f, hf, hv⟩ := hF.row
      have hr := hf.of_block (hb'.block _ hf.lt)
      obtain ⟨⟨s0, s1, s2, s3⟩, ⟨t0, t1, t2, t3⟩⟩ := ats4 hr (k * 4) (by omega)
      have HN := fil4_step hF hb' (fun i => ent4 (.int .i64 (R i).kind) (.string (R i).mod) (.int .i64 (R i).rev) (.int .i64 (R i).wk)) (fun _ _ _ => rfl) _ _ _ _ (fun _ _ => rfl)
      unfold put4 at HN
      have HH := hid_of HN
      clear hF hr hf hv hb' HN g0 g1 g2 g3
      go_wp2
      go_roundw
      case rel => exact ⟨k + 1, by omega, by go_num, HH.out⟩
      case measure => simp [intOf]; omega
    · have hkn : k = n := by omega
      subst hkn
      have HE : Hid (RanAt wr (some ⟨w.heap.size, 0, none⟩) w.heap.size k R ∧ Below w.heap.size w wr ∧ w.heap.size < wr.heap.size) := by
        obtain ⟨f, hf, hv⟩ := hF.row
        refine ⟨⟨fun _ => rfl, fun j hj => ?_, fun j hj => ?_, fun j hj => ?_, fun j hj => ?_⟩, hF.below, hf.lt⟩
        · have := hv j 0 hj (by omega)
          rw [hf.cell (by omega)]; exact congrArg some this
        · rw [hf.cell (by omega)]; exact congrArg some (hv j 1 hj (by omega))
        · rw [hf.cell (by omega)]; exact congrArg some (hv j 2 hj (by omega))
        · rw [hf.cell (by omega)]; exact congrArg some (hv j 3 hj (by omega))
      clear hF HB A1
      go_wp2
      go_ret
      exact ⟨rfl, HE.out⟩
end Go.Proofs.YtdolejkpnpchaaaDoor
