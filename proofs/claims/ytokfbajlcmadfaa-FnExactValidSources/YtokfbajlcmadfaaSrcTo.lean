/-
  Sources: the contracts of the functions that copy, and of the model.
-/
import Derived.Test.YtokfbajlcmadfaaSrcEq
import Derived.Test.YtokfbajlcmadfaaNames2
import Derived.Deep.LoopGhost
import Derived.Deep.OwnRows
import Derived.Deep.RegionWith
namespace Go.Proofs.Ytokfbajlcmadfaa
open Go.RowKit

theorem Try.info48 : (Try.prog.info? 48).map (fun i => (i.zero, i.size, i.bytes)) = some (some (.agg #[.string ByteArray.empty, .string ByteArray.empty]), 2, 32) := by kernel_rfl

set_option maxHeartbeats 1000000 in
theorem c11 (s t : ByteArray) (w : World) :
    Calls Try.prog 23 #[.agg #[.string s, .string t]] w fun e w' => e = .returned (.agg #[.string s, .string t]) ∧ Below w.heap.size w w' := by
  go_enter Try.func23, Try.ntmps23
  go_wp2
  refine bodyPost_ret (v := .agg #[.string s, .string t]) (by simp [results, Try.results23, go_sem]) rfl ⟨rfl, ?_⟩
  repeat' (first | exact sbel3 _ _ _ _ | refine Below.setCell ?_ ?_ _)
  all_goals (simp; try omega)

theorem make2 (n : Nat) (hn : n ≤ 1048576) (w : World) :
    (Instr.makeSlice 25 (.int .i64 (n : Int)) (.int .i64 (n : Int))).run Try.prog w = .ok (.slice (some ⟨w.heap.size, 0, none⟩) n n) (w.alloc (.cells (madeCells #[.string ByteArray.empty, .string ByteArray.empty] (n * 2)) 48)) := by
  obtain ⟨i, hi, hzz⟩ := Option.map_eq_some_iff.1 Try.info48
  simp only [Prod.mk.injEq] at hzz
  obtain ⟨hz, hs, hb⟩ := hzz
  have hr := run_make (P := Try.prog) w 25 48 i _ Try.underlying25 hi hz .i64 .i64 n n (by omega) (Int.le_refl _) (by rw [hb]; omega) (by omega)
  rw [Int.toNat_natCast, hs] at hr
  exact hr

/-- The row of new sources, its first k filled. -/
structure Fill2 (w wr : World) (n k : Nat) (S T : Nat → ByteArray) : Prop where
  below : Below w.heap.size w wr
  row : ∃ f, wr.rowIs w.heap.size 48 (n * 2) f ∧ ∀ i, i < k → f (i * 2) = .string (S i) ∧ f (i * 2 + 1) = .string (T i)

theorem fill2_start (w : World) (n : Nat) (S T : Nat → ByteArray) : Fill2 w (w.alloc (.cells (madeCells #[.string ByteArray.empty, .string ByteArray.empty] (n * 2)) 48)) n 0 S T := by
  refine ⟨sbel1 w _, ?_⟩
  have h := World.rowIs_alloc w (madeCells #[.string ByteArray.empty, .string ByteArray.empty] (n * 2)) 48 (fun i => (madeCells #[.string ByteArray.empty, .string ByteArray.empty] (n * 2))[i]!) (fun i hi => by simp [hi])
  rw [size_madeCells] at h
  exact ⟨_, h, fun i hi => absurd hi (Nat.not_lt_zero _)⟩

theorem fill2_step {w wr w' : World} {n k : Nat} {S T : Nat → ByteArray} (h : Fill2 w wr n k S T) (hb : Below wr.heap.size wr w') :
    Fill2 w ((w'.setCell ⟨w.heap.size, k * 2, none⟩ (.string (S k))).setCell ⟨w.heap.size, k * 2 + 1, none⟩ (.string (T k))) n (k + 1) S T := by
  obtain ⟨f, hf, hv⟩ := h.row
  have hlt := hf.lt
  refine ⟨(((h.below.trans (hb.mono h.below.size)).setCell (Nat.le_refl _) _).setCell (Nat.le_refl _) _), ⟨_, ((hf.of_block (hb.block _ hlt)).set (k * 2) _).set (k * 2 + 1) _, fun i hi => ?_⟩⟩
  by_cases e : i = k
  · subst e
    refine ⟨?_, ?_⟩
    · show (if i * 2 = i * 2 + 1 then _ else if i * 2 = i * 2 then _ else _) = _
      rw [if_neg (by omega), if_pos rfl]
    · show (if i * 2 + 1 = i * 2 + 1 then _ else _) = _
      rw [if_pos rfl]
  · obtain ⟨r0, r1⟩ := hv i (by omega)
    refine ⟨?_, ?_⟩
    · show (if i * 2 = k * 2 + 1 then _ else if i * 2 = k * 2 then _ else f (i * 2)) = _
      rw [if_neg (by omega), if_neg (by omega), r0]
    · show (if i * 2 + 1 = k * 2 + 1 then _ else if i * 2 + 1 = k * 2 then _ else f (i * 2 + 1)) = _
      rw [if_neg (by omega), if_neg (by omega), r1]

set_option maxHeartbeats 1000000 in
theorem c6 (ao : Option Addr) (b o n c : Nat) (S T : Nat → ByteArray) (w : World) (h1 : SrcsAt w ao b o n S T) (hn : n ≤ 1048576) :
    Calls Try.prog 8 #[.slice ao n c] w fun e w' => e = .returned (.slice (some ⟨w.heap.size, 0, none⟩) n n) ∧ SrcsAt w' (some ⟨w.heap.size, 0, none⟩) w.heap.size 0 n S T ∧ Below w.heap.size w w' ∧ w.heap.size < w'.heap.size := by
  have hmk := make2 n hn
  have HB : Hid (∀ w', Below w.heap.size w w' → SrcsAt w' ao b o n S T) := fun w' hb => h1.below hb
  have A1 := h1.at_
  have HZ : Hid ((∀ i, i < n → (S i).size ≤ 9223372036854775807) ∧ (∀ i, i < n → (T i).size ≤ 9223372036854775807)) := ⟨h1.sizeS, h1.sizeT⟩
  clear h1
  go_enter Try.func8, Try.ntmps8
  go_wp2
  clear hmk
  go_loopw [4] (fun i wr => ∃ k : Nat, k ≤ n ∧ i = .int .i64 k ∧ Fill2 w wr n k S T) (fun i _ => n - (intOf i).toNat)
  case atStart => exact ⟨0, Nat.zero_le _, rfl, fill2_start _ _ _ _⟩
  case round =>
    obtain ⟨k, hk, rfl, hF⟩ := hrel
    by_cases hlt : k < n
    · have e1 := A1 (by omega)
      have q1 := HB.out wr hF.below
      have g0 := q1.c0 k hlt
      have g1 := q1.c1 k hlt
      clear q1 HB
      subst e1
      go_wp2_with fail
      refine (c11 (S k) (T k) _).mono ?_
      rintro e w' ⟨rfl, hb'⟩
      obtain ⟨f, hf, hv⟩ := hF.row
      have hr := hf.of_block (hb'.block _ hf.lt)
      have s0 := hr.cell (i := k * 2) (by omega)
      have s1 := hr.cell (i := k * 2 + 1) (by omega)
      have t0 := hr.frozen (k * 2)
      have t1 := hr.frozen (k * 2 + 1)
      have HN := fill2_step hF hb'
      clear hF hr hf hv hb'
      go_wp2
      go_roundw
      case rel => exact ⟨k + 1, by omega, by go_num, HN⟩
      case measure => simp [intOf]; omega
    · have hkn : k = n := by omega
      subst hkn
      have HE : Hid (SrcsAt wr (some ⟨w.heap.size, 0, none⟩) w.heap.size 0 k S T ∧ Below w.heap.size w wr ∧ w.heap.size < wr.heap.size) := by
        obtain ⟨f, hf, hv⟩ := hF.row
        refine ⟨⟨fun _ => rfl, fun i hi => ?_, fun i hi => ?_, HZ.out.1, HZ.out.2, by omega⟩, hF.below, hf.lt⟩
        · rw [Nat.zero_add, hf.cell (by omega), (hv i hi).1]
        · rw [Nat.zero_add, hf.cell (by omega), (hv i hi).2]
      clear hF HB A1
      go_wp2
      go_ret
      exact ⟨rfl, HE.out⟩

end Go.Proofs.Ytokfbajlcmadfaa
