/-
  Tables: the contracts of the functions that copy.
-/
import Derived.Test.YtefplfcfoapnjaaTabEq
import Derived.Deep.LoopGhost
import Derived.Deep.OwnRows
namespace Go.Proofs.Ytefplfcfoapnjaa
open Go.RowKit

theorem Try.info41 : (Try.prog.info? 41).map (fun i => (i.zero, i.size, i.bytes)) = some (some (.agg #[.int .i64 0, .string ByteArray.empty]), 2, 24) := by kernel_rfl
theorem Try.info47 : (Try.prog.info? 47).map (fun i => (i.zero, i.size, i.bytes)) = some (some (.agg #[.int .i64 0, .string ByteArray.empty, .bool false, .string ByteArray.empty, .slice none 0 0, .int .i64 0, .int .i64 0, .int .i64 0, .int .i64 0]), 9, 104) := by kernel_rfl

set_option maxHeartbeats 1000000 in
theorem c15 (k : Int) (t : ByteArray) (w : World) :
    Calls Try.prog 15 #[.agg #[.int .i64 k, .string t]] w fun e w' => e = .returned (.agg #[.int .i64 k, .string t]) ∧ Below w.heap.size w w' := by
  go_enter Try.func15, Try.ntmps15
  go_wp2
  refine bodyPost_ret (v := .agg #[.int .i64 k, .string t]) (by simp [results, Try.results15, go_sem]) rfl ⟨rfl, ?_⟩
  repeat' (first | exact bel3 _ _ _ _ | refine Below.setCell ?_ ?_ _)
  all_goals (simp; try omega)

theorem make2 (n : Nat) (hn : n ≤ 1048576) (w : World) :
    (Instr.makeSlice 45 (.int .i64 (n : Int)) (.int .i64 (n : Int))).run Try.prog w = .ok (.slice (some ⟨w.heap.size, 0, none⟩) n n) (w.alloc (.cells (madeCells #[.int .i64 0, .string ByteArray.empty] (n * 2)) 41)) := by
  obtain ⟨i, hi, hzz⟩ := Option.map_eq_some_iff.1 Try.info41
  simp only [Prod.mk.injEq] at hzz
  obtain ⟨hz, hs, hb⟩ := hzz
  have hr := run_make (P := Try.prog) w 45 41 i _ Try.underlying45 hi hz .i64 .i64 n n (by omega) (Int.le_refl _) (by rw [hb]; omega) (by omega)
  rw [Int.toNat_natCast, hs] at hr
  exact hr

/-- The row of new keys, its first k filled. -/
structure Fill2 (w wr : World) (n k : Nat) (S : Nat → Int) (T : Nat → ByteArray) : Prop where
  below : Below w.heap.size w wr
  row : ∃ f, wr.rowIs w.heap.size 41 (n * 2) f ∧ ∀ i, i < k → f (i * 2) = .int .i64 (S i) ∧ f (i * 2 + 1) = .string (T i)

theorem fill2_start (w : World) (n : Nat) (S : Nat → Int) (T : Nat → ByteArray) : Fill2 w (w.alloc (.cells (madeCells #[.int .i64 0, .string ByteArray.empty] (n * 2)) 41)) n 0 S T := by
  refine ⟨bel1 w _, ?_⟩
  have h := World.rowIs_alloc w (madeCells #[.int .i64 0, .string ByteArray.empty] (n * 2)) 41 (fun i => (madeCells #[.int .i64 0, .string ByteArray.empty] (n * 2))[i]!) (fun i hi => by simp [hi])
  rw [size_madeCells] at h
  exact ⟨_, h, fun i hi => absurd hi (Nat.not_lt_zero _)⟩

theorem fill2_step {w wr w' : World} {n k : Nat} {S : Nat → Int} {T : Nat → ByteArray} (h : Fill2 w wr n k S T) (hb : Below wr.heap.size wr w') :
    Fill2 w ((w'.setCell ⟨w.heap.size, k * 2, none⟩ (.int .i64 (S k))).setCell ⟨w.heap.size, k * 2 + 1, none⟩ (.string (T k))) n (k + 1) S T := by
  obtain ⟨f, hf, hv⟩ := h.row
  have hlt := hf.lt
  refine ⟨(((h.below.trans (hb.mono h.below.size)).setCell (Nat.le_refl _) _).setCell (Nat.le_refl _) _), ⟨_, ((hf.of_block (hb.block _ hlt)).set (k * 2) _).set (k * 2 + 1) _, fun i hi => ?_⟩⟩
  by_cases e : i = k
  · subst e
    refine ⟨?_, ?_⟩
    · show (if i * 2 = i * 2 + 1 then _ else if i * 2 = i * 2 then _ else _) = _
      rw [if_neg (by omega), if_pos rfl]
    · show (if i * 2 + 1 = i * 2 + 1 then _ else _) = _
      rw [if_pos rfl]
  · obtain ⟨r0, r1⟩ := hv i (by omega)
    refine ⟨?_, ?_⟩
    · show (if i * 2 = k * 2 + 1 then _ else if i * 2 = k * 2 then _ else f (i * 2)) = _
      rw [if_neg (by omega), if_neg (by omega), r0]
    · show (if i * 2 + 1 = k * 2 + 1 then _ else if i * 2 + 1 = k * 2 then _ else f (i * 2 + 1)) = _
      rw [if_neg (by omega), if_neg (by omega), r1]

set_option maxHeartbeats 1000000 in
theorem c68 (ao : Option Addr) (b o n c : Nat) (S : Nat → Int) (T : Nat → ByteArray) (w : World) (h1 : KeysAt w ao b o n S T) (hn : n ≤ 1048576) :
    Calls Try.prog 68 #[.slice ao n c] w fun e w' => e = .returned (.slice (some ⟨w.heap.size, 0, none⟩) n n) ∧ KeysAt w' (some ⟨w.heap.size, 0, none⟩) w.heap.size 0 n S T ∧ Below w.heap.size w w' ∧ w.heap.size < w'.heap.size := by
  have hmk := make2 n hn
  have HB : Hid (∀ w', Below w.heap.size w w' → KeysAt w' ao b o n S T) := fun w' hb => h1.below hb
  have A1 := h1.at_
  have HZ : Hid (∀ i, i < n → (T i).size ≤ 9223372036854775807) := h1.size
  clear h1
  go_enter Try.func68, Try.ntmps68
  go_wp2
  clear hmk
  go_loopw [4] (fun i wr => ∃ k : Nat, k ≤ n ∧ i = .int .i64 k ∧ Fill2 w wr n k S T) (fun i _ => n - (intOf i).toNat)
  case atStart => exact ⟨0, Nat.zero_le _, rfl, fill2_start _ _ _ _⟩
  case round =>
    obtain ⟨k, hk, rfl, hF⟩ := hrel
    by_cases hlt : k < n
    · have e1 := A1 (by omega)
      have q1 := HB.out wr hF.below
      have g0 := q1.c0 k hlt
      have g1 := q1.c1 k hlt
      clear q1 HB
      subst e1
      go_wp2_with fail
      refine (c15 (S k) (T k) _).mono ?_
      rintro e w' ⟨rfl, hb'⟩
      obtain ⟨f, hf, hv⟩ := hF.row
      have hr := hf.of_block (hb'.block _ hf.lt)
      have s0 := hr.cell (i := k * 2) (by omega)
      have s1 := hr.cell (i := k * 2 + 1) (by omega)
      have t0 := hr.frozen (k * 2)
      have t1 := hr.frozen (k * 2 + 1)
      have HN := fill2_step hF hb'
      clear hF hr hf hv hb'
      go_wp2
      go_roundw
      case rel => exact ⟨k + 1, by omega, by go_num, HN⟩
      case measure => simp [intOf]; omega
    · have hkn : k = n := by omega
      subst hkn
      have HE : Hid (KeysAt wr (some ⟨w.heap.size, 0, none⟩) w.heap.size 0 k S T ∧ Below w.heap.size w wr ∧ w.heap.size < wr.heap.size) := by
        obtain ⟨f, hf, hv⟩ := hF.row
        refine ⟨⟨fun _ => rfl, fun i hi => ?_, fun i hi => ?_, HZ.out, by omega⟩, hF.below, hf.lt⟩
        · rw [Nat.zero_add, hf.cell (by omega), (hv i hi).1]
        · rw [Nat.zero_add, hf.cell (by omega), (hv i hi).2]
      clear hF HB A1
      go_wp2
      go_ret
      exact ⟨rfl, HE.out⟩

theorem nine_frozen {w : World} {B : Nat} {t : TypeId} {f : Nat → Value} (h : w.rowIs B t 9 f) :
    w.frozen? ⟨B, 0, none⟩ = false ∧ w.frozen? ⟨B, 1, none⟩ = false ∧ w.frozen? ⟨B, 2, none⟩ = false ∧ w.frozen? ⟨B, 3, none⟩ = false ∧ w.frozen? ⟨B, 4, none⟩ = false ∧
    w.frozen? ⟨B, 5, none⟩ = false ∧ w.frozen? ⟨B, 6, none⟩ = false ∧ w.frozen? ⟨B, 7, none⟩ = false ∧ w.frozen? ⟨B, 8, none⟩ = false :=
  ⟨h.frozen 0, h.frozen 1, h.frozen 2, h.frozen 3, h.frozen 4, h.frozen 5, h.frozen 6, h.frozen 7, h.frozen 8⟩

theorem v9_all {f : Nat → Value} {a0 a1 a2 a3 a4 a5 a6 a7 a8 : Value} (h0 : f 0 = a0) (h1 : f 1 = a1) (h2 : f 2 = a2) (h3 : f 3 = a3) (h4 : f 4 = a4) (h5 : f 5 = a5) (h6 : f 6 = a6) (h7 : f 7 = a7) (h8 : f 8 = a8) (i : Nat) (hi : i < 9) : f i = v9 a0 a1 a2 a3 a4 a5 a6 a7 a8 i := by
  match i, hi with
  | 0, _ => exact h0
  | 1, _ => exact h1
  | 2, _ => exact h2
  | 3, _ => exact h3
  | 4, _ => exact h4
  | 5, _ => exact h5
  | 6, _ => exact h6
  | 7, _ => exact h7
  | 8, _ => exact h8

set_option maxHeartbeats 4000000 in
theorem c49 (p : SP) (d : SD) (w : World) (h1 : SlotAt w p d) (hn : d.n ≤ 1048576) :
    Calls Try.prog 49 #[sdv p d] w fun e w' => ∃ p', e = .returned (sdv p' d) ∧ SlotAt w' p' d ∧ Below w.heap.size w w' ∧ w.heap.size ≤ p'.b ∧ p'.c = d.n := by
  have HB : Hid (∀ w', Below w.heap.size w w' → SlotAt w' p d) := fun w' hb => h1.below hb
  have HS : Hid (d.m.size ≤ 9223372036854775807 ∧ d.v.size ≤ 9223372036854775807 ∧ -9223372036854775808 ≤ d.own ∧ d.own ≤ 9223372036854775807) := ⟨h1.sm, h1.sv, h1.lo, h1.hi⟩
  clear h1
  unfold sdv
  go_enter Try.func49, Try.ntmps49
  go_wp2_with fail
  refine (c15 d.k d.m _).mono ?_
  rintro e w1 ⟨rfl, hb1⟩
  have B1 := (bel3 w _ _ _).trans (hb1.mono (by simp; omega))
  have R1 := (((row9 w (.int .i64 d.k) (.string d.m) (.bool d.has) (.string d.v) (.slice p.a d.n p.c) (.int .i64 d.ver) (.int .i64 d.chg) (.int .i64 d.own) (.int .i64 d.sin) 89).alloc (.cells #[.int .i64 0, .string ByteArray.empty, .bool false, .string ByteArray.empty, .slice none 0 0, .int .i64 0, .int .i64 0, .int .i64 0, .int .i64 0] 47)).alloc (.cells #[.int .i64 0, .string ByteArray.empty, .bool false, .string ByteArray.empty, .slice none 0 0, .int .i64 0, .int .i64 0, .int .i64 0, .int .i64 0] 47)) |>.of_block (hb1.block _ (by simp; omega))
  have R2 := ((row9 (w.alloc (.cells #[.int .i64 d.k, .string d.m, .bool d.has, .string d.v, .slice p.a d.n p.c, .int .i64 d.ver, .int .i64 d.chg, .int .i64 d.own, .int .i64 d.sin] 89)) (.int .i64 0) (.string ByteArray.empty) (.bool false) (.string ByteArray.empty) (.slice none 0 0) (.int .i64 0) (.int .i64 0) (.int .i64 0) (.int .i64 0) 47).alloc (.cells #[.int .i64 0, .string ByteArray.empty, .bool false, .string ByteArray.empty, .slice none 0 0, .int .i64 0, .int .i64 0, .int .i64 0, .int .i64 0] 47)) |>.of_block (hb1.block _ (by simp))
  have R3 := (row9 ((w.alloc (.cells #[.int .i64 d.k, .string d.m, .bool d.has, .string d.v, .slice p.a d.n p.c, .int .i64 d.ver, .int .i64 d.chg, .int .i64 d.own, .int .i64 d.sin] 89)).alloc (.cells #[.int .i64 0, .string ByteArray.empty, .bool false, .string ByteArray.empty, .slice none 0 0, .int .i64 0, .int .i64 0, .int .i64 0, .int .i64 0] 47)) (.int .i64 0) (.string ByteArray.empty) (.bool false) (.string ByteArray.empty) (.slice none 0 0) (.int .i64 0) (.int .i64 0) (.int .i64 0) (.int .i64 0) 47) |>.of_block (hb1.block _ (by simp))
  simp only [World.size_alloc] at R2 R3
  obtain ⟨x0, x1, x2, x3, x4, x5, x6, x7, x8⟩ := nine_cells R1
  obtain ⟨y0, y1, y2, y3, y4, y5, y6, y7, y8⟩ := nine_cells R3
  obtain ⟨z0, z1, z2, z3, z4, z5, z6, z7, z8⟩ := nine_frozen R3
  clear hb1
  have HR : Hid (w1.rowIs w.heap.size 89 9 _ ∧ w1.rowIs (w.heap.size + 1) 47 9 _ ∧ w1.rowIs (w.heap.size + 1 + 1) 47 9 _) := ⟨R1, R2, R3⟩
  clear R1 R2 R3
  go_wp2_with fail
  have B2 := (((B1.setCell (p := ⟨w.heap.size + 1 + 1, 0, none⟩) (by show w.heap.size ≤ w.heap.size + 1 + 1; omega) (.int .i64 d.k)).setCell (p := ⟨w.heap.size + 1 + 1, 1, none⟩) (by show w.heap.size ≤ w.heap.size + 1 + 1; omega) (.string d.m)).setCell (p := ⟨w.heap.size + 1 + 1, 2, none⟩) (by show w.heap.size ≤ w.heap.size + 1 + 1; omega) (.bool d.has)).setCell (p := ⟨w.heap.size + 1 + 1, 3, none⟩) (by show w.heap.size ≤ w.heap.size + 1 + 1; omega) (.string d.v)
  refine (c68 p.a p.b p.o d.n p.c d.dk d.dm _ (by exact (HB.out _ B2).keys) hn).mono ?_
  rintro e w2 ⟨rfl, K2, hb2, hz2⟩
  obtain ⟨R1, R2, R3⟩ := HR.out
  have S1 := ((((R1.setOther (a := ⟨w.heap.size + 1 + 1, 0, none⟩) (by show w.heap.size ≠ w.heap.size + 1 + 1; omega) (.int .i64 d.k)).setOther (a := ⟨w.heap.size + 1 + 1, 1, none⟩) (by show w.heap.size ≠ w.heap.size + 1 + 1; omega) (.string d.m)).setOther (a := ⟨w.heap.size + 1 + 1, 2, none⟩) (by show w.heap.size ≠ w.heap.size + 1 + 1; omega) (.bool d.has)).setOther (a := ⟨w.heap.size + 1 + 1, 3, none⟩) (by show w.heap.size ≠ w.heap.size + 1 + 1; omega) (.string d.v))
  have S2 := ((((R2.setOther (a := ⟨w.heap.size + 1 + 1, 0, none⟩) (by show w.heap.size + 1 ≠ w.heap.size + 1 + 1; omega) (.int .i64 d.k)).setOther (a := ⟨w.heap.size + 1 + 1, 1, none⟩) (by show w.heap.size + 1 ≠ w.heap.size + 1 + 1; omega) (.string d.m)).setOther (a := ⟨w.heap.size + 1 + 1, 2, none⟩) (by show w.heap.size + 1 ≠ w.heap.size + 1 + 1; omega) (.bool d.has)).setOther (a := ⟨w.heap.size + 1 + 1, 3, none⟩) (by show w.heap.size + 1 ≠ w.heap.size + 1 + 1; omega) (.string d.v))
  have S3 := ((((R3.set 0 (.int .i64 d.k)).set 1 (.string d.m)).set 2 (.bool d.has)).set 3 (.string d.v)).congr (v9_all (a0 := .int .i64 d.k) (a1 := .string d.m) (a2 := .bool d.has) (a3 := .string d.v) (a4 := .slice none 0 0) (a5 := .int .i64 0) (a6 := .int .i64 0) (a7 := .int .i64 0) (a8 := .int .i64 0) rfl rfl rfl rfl rfl rfl rfl rfl rfl)
  have hzz : w.heap.size + 1 + 1 < w1.heap.size := World.block_lt_of_cell? _ _ y0
  have B3 := B2.trans (hb2.mono B2.size)
  have T1 := S1.of_block (hb2.block _ S1.lt)
  have T2 := S2.of_block (hb2.block _ S2.lt)
  have T3 := S3.of_block (hb2.block _ S3.lt)
  simp only [World.size_setCell] at K2 hz2
  clear R1 R2 R3 S1 S2 S3 hb2 HR x0 x1 x2 x3 x4 x5 x6 x7 x8 y0 y1 y2 y3 y4 y5 y6 y7 y8 z0 z1 z2 z3 z4 z5 z6 z7 z8 B1 B2
  obtain ⟨x0, x1, x2, x3, x4, x5, x6, x7, x8⟩ := nine_cells T1
  obtain ⟨y0, y1, y2, y3, y4, y5, y6, y7, y8⟩ := nine_cells T3
  obtain ⟨z0, z1, z2, z3, z4, z5, z6, z7, z8⟩ := nine_frozen T3
  obtain ⟨m0, m1, m2, m3, m4, m5, m6, m7, m8⟩ := nine_cells T2
  obtain ⟨l0, l1, l2, l3, l4, l5, l6, l7, l8⟩ := nine_frozen T2
  have HK : Hid (KeysAt w2 (some ⟨w1.heap.size, 0, none⟩) w1.heap.size 0 d.n d.dk d.dm ∧ Below w.heap.size w w2) := ⟨by simpa using K2, B3⟩
  clear K2 B3 T1 T2 T3 hz2
  simp only [World.size_setCell]
  go_wp2_with fail
  refine bodyPost_ret (v := .agg #[.int .i64 d.k, .string d.m, .bool d.has, .string d.v, .slice (some ⟨w1.heap.size, 0, none⟩) d.n d.n, .int .i64 d.ver, .int .i64 d.chg, .int .i64 d.own, .int .i64 d.sin])
    (by simp [results, Try.results49, go_sem, m0, m1, m2, m3, m4, m5, m6, m7, m8]) rfl
    ⟨⟨some ⟨w1.heap.size, 0, none⟩, w1.heap.size, 0, d.n⟩, rfl, ⟨?_, HS.out.1, HS.out.2.1, HS.out.2.2.1, HS.out.2.2.2⟩, ?_, ?_, rfl⟩
  · repeat' (first | with_reducible exact HK.out.1 | refine KeysAt.set ?_ ?_ _)
    all_goals (simp; try omega)
  · repeat' (first | with_reducible exact HK.out.2 | refine Below.setCell ?_ ?_ _)
    all_goals (simp; try omega)
  · show w.heap.size ≤ w1.heap.size
    omega

end Go.Proofs.Ytefplfcfoapnjaa
