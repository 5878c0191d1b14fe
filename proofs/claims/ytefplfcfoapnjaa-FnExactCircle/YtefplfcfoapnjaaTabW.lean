/-
  Waits: how they lie in memory, and the law's functions on them.
-/
import Derived.Test.YtefplfcfoapnjaaTabSz
import Derived.Test.YtefplfcfoapnjaaTabTo2
import Derived.Test.YtefplfcfoapnjaaTabO
namespace Go.Proofs.Ytefplfcfoapnjaa
open Go.RowKit

/-- What a wait holds. -/
structure WD where
  o : Int
  k : Int
  m : ByteArray

/-- A wait's cells. -/
def wc (d : WD) : Nat → Value
  | 0 => .int .i64 d.o
  | 1 => .int .i64 d.k
  | _ => .string d.m

abbrev wdv (d : WD) : Value := .agg #[.int .i64 d.o, .int .i64 d.k, .string d.m]

/-- A slice of waits. -/
structure WaitsAt (w : World) (ao : Option Addr) (b o n : Nat) (E : Nat → WD) : Prop where
  at_ : 0 < n → ao = some ⟨b, o, none⟩
  cell : ∀ i j, i < n → j < 3 → w.cell? ⟨b, o + i * 3 + j, none⟩ = some (wc (E i) j)
  size : ∀ i, i < n → (E i).m.size ≤ 9223372036854775807
  len : n ≤ 9223372036854775807

theorem WaitsAt.below {w w' : World} {ao : Option Addr} {b o n : Nat} {E : Nat → WD} (h : WaitsAt w ao b o n E) (hb : Below w.heap.size w w') : WaitsAt w' ao b o n E :=
  ⟨h.at_, fun i j hi hj => by rw [hb.cell (p := ⟨b, o + i * 3 + j, none⟩) (World.block_lt_of_cell? _ _ (h.cell i j hi hj))]; exact h.cell i j hi hj, h.size, h.len⟩

theorem WaitsAt.three {w : World} {ao : Option Addr} {b o n : Nat} {E : Nat → WD} (h : WaitsAt w ao b o n E) (i : Nat) (hi : i < n) :
    w.cell? ⟨b, o + i * 3, none⟩ = some (.int .i64 (E i).o) ∧ w.cell? ⟨b, o + i * 3 + 1, none⟩ = some (.int .i64 (E i).k) ∧ w.cell? ⟨b, o + i * 3 + 2, none⟩ = some (.string (E i).m) :=
  ⟨h.cell i 0 hi (by omega), h.cell i 1 hi (by omega), h.cell i 2 hi (by omega)⟩

set_option maxHeartbeats 1000000 in
theorem c37 (d : WD) (w : World) :
    Calls Try.prog 37 #[wdv d, wdv d] w fun e w' => e = .returned (.bool true) ∧ Below w.heap.size w w' := by
  unfold wdv
  go_enter Try.func37, Try.ntmps37
  go_wp2_with fail
  refine (c41 d.k d.m _).mono ?_
  rintro e w1 ⟨rfl, hb1⟩
  go_wp2
  go_ret
  exact ⟨rfl, (bel2 w _ _).trans (hb1.mono (by simp; omega))⟩

set_option maxHeartbeats 2000000 in
theorem c17 (ao ao' : Option Addr) (b o c b' o' c' n : Nat) (E : Nat → WD) (w : World) (h1 : WaitsAt w ao b o n E) (h2 : WaitsAt w ao' b' o' n E) :
    Calls Try.prog 17 #[.slice ao n c, .slice ao' n c'] w fun e w' => e = .returned (.bool true) ∧ Below w.heap.size w w' := by
  have hlen := h1.len
  have HB : Hid (∀ w', Below w.heap.size w w' → WaitsAt w' ao b o n E ∧ WaitsAt w' ao' b' o' n E) := fun w' hb => ⟨h1.below hb, h2.below hb⟩
  have A1 := h1.at_
  have A2 := h2.at_
  clear h1 h2
  go_enter Try.func17, Try.ntmps17
  go_wp2
  go_loopw [5] (fun i wr => ∃ k : Nat, k ≤ n ∧ i = .int .i64 k ∧ Below w.heap.size w wr) (fun i _ => n - (intOf i).toNat)
  case atStart => exact ⟨0, Nat.zero_le _, rfl, Below.refl _ _⟩
  case round =>
    obtain ⟨k, hk, rfl, hb⟩ := hrel
    by_cases hlt : k < n
    · have e1 := A1 (by omega)
      have e2 := A2 (by omega)
      obtain ⟨q1, q2⟩ := HB.out wr hb
      obtain ⟨g0, g1, g2⟩ := q1.three k hlt
      obtain ⟨f0, f1, f2⟩ := q2.three k hlt
      clear q1 q2 HB
      subst e1 e2
      go_wp2
      go_region_with (go_at_call 37; refine (c37 (E k) _).mono ?_; rintro e w' ⟨rfl, hb'⟩)
      all_goals
        go_wp2
        go_roundw
        case rel => exact ⟨k + 1, by omega, by go_num, hb.trans (Below.trans (Below.refl _ _).drew (hb'.mono hb.size))⟩
        case measure => simp [intOf]; omega
    · go_wp2
      go_ret
      exact ⟨rfl, hb⟩

set_option maxHeartbeats 1000000 in
theorem c30 (d : WD) (L : Int) (w : World) (hL : 0 ≤ L) (hL2 : L ≤ 1048576) (hs : d.m.size ≤ 9223372036854775807) :
    Calls Try.prog 30 #[wdv d, .int .i64 L] w fun e w' => ∃ r, e = .returned (.int .i64 r) ∧ Left L r (d.m.size ≤ 1048576) ∧ Below w.heap.size w w' := by
  unfold wdv
  go_enter Try.func30, Try.ntmps30
  go_wp2_with fail
  refine (c12 d.k d.m L _ hL hL2 hs).mono ?_
  rintro e w1 ⟨r, rfl, hr, hb1⟩
  have B1 := (bel1 w _).trans (hb1.mono (by simp))
  by_cases h : r < 0
  · go_wp2
    go_ret
    exact ⟨-1, rfl, Left.no hL, B1⟩
  · have HR : Hid (Left L r (d.m.size ≤ 1048576)) := hr
    clear hr
    go_wp2
    go_ret
    exact ⟨r, rfl, HR.out, B1⟩

set_option maxHeartbeats 1000000 in
theorem c11 (ao : Option Addr) (b o n c : Nat) (E : Nat → WD) (L : Int) (w : World) (hL : 0 ≤ L) (hL2 : L ≤ 1048576) (h1 : WaitsAt w ao b o n E) :
    Calls Try.prog 11 #[.slice ao n c, .int .i64 L] w fun e w' => ∃ r, e = .returned (.int .i64 r) ∧ Left L r (n ≤ 1048576 ∧ ∀ i, i < n → (E i).m.size ≤ 1048576) ∧ Below w.heap.size w w' := by
  have HB : Hid (∀ w', Below w.heap.size w w' → WaitsAt w' ao b o n E) := fun w' hb => h1.below hb
  have hn := h1.len
  have A1 := h1.at_
  clear h1
  by_cases h : L - n < 0
  · go_enter Try.func11, Try.ntmps11
    go_wp2
    go_ret
    exact ⟨-1, rfl, Left.no hL, Below.refl _ _⟩
  · go_enter Try.func11, Try.ntmps11
    go_wp2
    go_loopw [1, 5] (fun l i wr => ∃ (k : Nat) (x : Int), k ≤ n ∧ i = .int .i64 k ∧ l = .int .i64 x ∧ 0 ≤ x ∧ x ≤ L ∧ Below w.heap.size w wr ∧ Hid (∀ i, i < k → (E i).m.size ≤ 1048576)) (fun _ i _ => n - (intOf i).toNat)
    case atStart => exact ⟨0, L - n, Nat.zero_le _, rfl, rfl, by omega, by omega, Below.refl _ _, fun i hi => absurd hi (Nat.not_lt_zero _)⟩
    case round =>
      obtain ⟨k, x, hk, rfl, rfl, hx, hx2, hb, HA⟩ := hrel
      by_cases hlt : k < n
      · have e1 := A1 (by omega)
        have q1 := HB.out wr hb
        obtain ⟨g0, g1, g2⟩ := q1.three k hlt
        have z1 := q1.size k hlt
        clear q1 HB
        subst e1
        go_wp2_with fail
        refine (c30 (E k) x _ hx (by omega) z1).mono ?_
        rintro e w' ⟨r, rfl, hr, hb'⟩
        by_cases h3 : r < 0
        · go_wp2
          go_ret
          exact ⟨-1, rfl, Left.no hL, hb.trans (hb'.mono hb.size)⟩
        · have r1 := hr.hi
          have HR : Hid ((E k).m.size ≤ 1048576) := hr.ok (by omega)
          clear hr
          go_wp2
          go_roundw
          case rel => exact ⟨k + 1, r, by omega, by go_num, rfl, by omega, by omega, hb.trans (hb'.mono hb.size), fun i hi => by
            by_cases e : i = k
            · subst e; exact HR.out
            · exact HA.out i (by omega)⟩
          case measure => simp [intOf]; omega
      · go_wp2
        go_ret
        exact ⟨x, rfl, ⟨by omega, by omega, fun _ => ⟨by omega, fun i hi => HA.out i (by omega)⟩⟩, hb⟩

theorem Try.info68 : (Try.prog.info? 68).map (fun i => (i.zero, i.size, i.bytes)) = some (some (.agg #[.int .i64 0, .int .i64 0, .string ByteArray.empty]), 3, 32) := by kernel_rfl

theorem makeW (n : Nat) (hn : n ≤ 1048576) (w : World) :
    (Instr.makeSlice 39 (.int .i64 (n : Int)) (.int .i64 (n : Int))).run Try.prog w = .ok (.slice (some ⟨w.heap.size, 0, none⟩) n n) (w.alloc (.cells (madeCells #[.int .i64 0, .int .i64 0, .string ByteArray.empty] (n * 3)) 68)) := by
  obtain ⟨i, hi, hzz⟩ := Option.map_eq_some_iff.1 Try.info68
  simp only [Prod.mk.injEq] at hzz
  obtain ⟨hz, hs, hb⟩ := hzz
  have hr := run_make (P := Try.prog) w 39 68 i _ Try.underlying39 hi hz .i64 .i64 n n (by omega) (Int.le_refl _) (by rw [hb]; omega) (by omega)
  rw [Int.toNat_natCast, hs] at hr
  exact hr

set_option maxHeartbeats 2000000 in
theorem c34 (d : WD) (w : World) :
    Calls Try.prog 34 #[wdv d] w fun e w' => e = .returned (wdv d) ∧ Below w.heap.size w w' := by
  unfold wdv
  go_enter Try.func34, Try.ntmps34
  go_wp2_with fail
  refine (c15 d.k d.m _).mono ?_
  rintro e w1 ⟨rfl, hb1⟩
  have HB : Hid (Below w.heap.size w w1) := (bel3 w _ _ _).trans (hb1.mono (by simp; omega))
  have R2 := ((row3 (w.alloc (.cells #[.int .i64 d.o, .int .i64 d.k, .string d.m] 63)) (.int .i64 0) (.int .i64 0) (.string ByteArray.empty) 68).alloc (.cells #[.int .i64 d.o, .int .i64 0, .string ByteArray.empty] 68)).of_block (hb1.block _ (by simp))
  have R3 := (row3 ((w.alloc (.cells #[.int .i64 d.o, .int .i64 d.k, .string d.m] 63)).alloc (.cells #[.int .i64 0, .int .i64 0, .string ByteArray.empty] 68)) (.int .i64 d.o) (.int .i64 0) (.string ByteArray.empty) 68).of_block (hb1.block _ (by simp))
  simp only [World.size_alloc] at R2 R3
  have a0 : w1.cell? ⟨w.heap.size + 1 + 1, 0, none⟩ = some (.int .i64 d.o) := R3.cell (i := 0) (by omega)
  have a1 : w1.cell? ⟨w.heap.size + 1 + 1, 1, none⟩ = some (.int .i64 0) := R3.cell (i := 1) (by omega)
  have a2 : w1.cell? ⟨w.heap.size + 1 + 1, 2, none⟩ = some (.string ByteArray.empty) := R3.cell (i := 2) (by omega)
  have f1 := R3.frozen 1
  have f2 := R3.frozen 2
  have r0 : w1.cell? ⟨w.heap.size + 1, 0, none⟩ = some (.int .i64 0) := R2.cell (i := 0) (by omega)
  have r1 : w1.cell? ⟨w.heap.size + 1, 1, none⟩ = some (.int .i64 0) := R2.cell (i := 1) (by omega)
  have r2 : w1.cell? ⟨w.heap.size + 1, 2, none⟩ = some (.string ByteArray.empty) := R2.cell (i := 2) (by omega)
  have g0 := R2.frozen 0
  have g1 := R2.frozen 1
  have g2 := R2.frozen 2
  clear R2 R3 hb1
  go_wp2
  refine bodyPost_ret (v := .agg #[.int .i64 d.o, .int .i64 d.k, .string d.m]) (by simp [results, Try.results34, go_sem, r0, r1, r2]) rfl ⟨rfl, ?_⟩
  repeat' (first | with_reducible exact HB.out | refine Below.setCell ?_ ?_ _)
  all_goals (simp; try omega)

/-- The row of new waits, its first k filled. -/
structure FillW (w wr : World) (n k : Nat) (E : Nat → WD) : Prop where
  below : Below w.heap.size w wr
  row : ∃ f, wr.rowIs w.heap.size 68 (n * 3) f ∧ ∀ i j, i < k → j < 3 → f (i * 3 + j) = wc (E i) j

theorem fillW_start (w : World) (n : Nat) (E : Nat → WD) : FillW w (w.alloc (.cells (madeCells #[.int .i64 0, .int .i64 0, .string ByteArray.empty] (n * 3)) 68)) n 0 E := by
  refine ⟨bel1 w _, ?_⟩
  have h := World.rowIs_alloc w (madeCells #[.int .i64 0, .int .i64 0, .string ByteArray.empty] (n * 3)) 68 (fun i => (madeCells #[.int .i64 0, .int .i64 0, .string ByteArray.empty] (n * 3))[i]!) (fun i hi => by simp [hi])
  rw [size_madeCells] at h
  exact ⟨_, h, fun i j hi => absurd hi (Nat.not_lt_zero _)⟩

theorem fillW_step {w wr w' : World} {n k : Nat} {E : Nat → WD} (h : FillW w wr n k E) (hb : Below wr.heap.size wr w') :
    FillW w (((w'.setCell ⟨w.heap.size, k * 3, none⟩ (.int .i64 (E k).o)).setCell ⟨w.heap.size, k * 3 + 1, none⟩ (.int .i64 (E k).k)).setCell ⟨w.heap.size, k * 3 + 2, none⟩ (.string (E k).m)) n (k + 1) E := by
  obtain ⟨f, hf, hv⟩ := h.row
  have hlt := hf.lt
  refine ⟨((((h.below.trans (hb.mono h.below.size)).setCell (Nat.le_refl _) _).setCell (Nat.le_refl _) _).setCell (Nat.le_refl _) _), ⟨_, (((hf.of_block (hb.block _ hlt)).set (k * 3) _).set (k * 3 + 1) _).set (k * 3 + 2) _, fun i j hi hj => ?_⟩⟩
  show (if i * 3 + j = k * 3 + 2 then _ else if i * 3 + j = k * 3 + 1 then _ else if i * 3 + j = k * 3 then _ else f (i * 3 + j)) = _
  by_cases e : i = k
  · subst e
    match j, hj with
    | 0, _ => rw [if_neg (by omega), if_neg (by omega), if_pos (by omega)]; rfl
    | 1, _ => rw [if_neg (by omega), if_pos (by omega)]; rfl
    | 2, _ => rw [if_pos (by omega)]; rfl
  · rw [if_neg (by omega), if_neg (by omega), if_neg (by omega)]
    exact hv i j (by omega) hj

set_option maxHeartbeats 2000000 in
theorem c14 (ao : Option Addr) (b o n c : Nat) (E : Nat → WD) (w : World) (h1 : WaitsAt w ao b o n E) (hn : n ≤ 1048576) :
    Calls Try.prog 14 #[.slice ao n c] w fun e w' => e = .returned (.slice (some ⟨w.heap.size, 0, none⟩) n n) ∧ WaitsAt w' (some ⟨w.heap.size, 0, none⟩) w.heap.size 0 n E ∧ Below w.heap.size w w' ∧ w.heap.size < w'.heap.size := by
  have hmk := makeW n hn
  have HB : Hid (∀ w', Below w.heap.size w w' → WaitsAt w' ao b o n E) := fun w' hb => h1.below hb
  have A1 := h1.at_
  have HZ : Hid (∀ i, i < n → (E i).m.size ≤ 9223372036854775807) := h1.size
  clear h1
  go_enter Try.func14, Try.ntmps14
  go_wp2
  clear hmk
  go_loopw [4] (fun i wr => ∃ k : Nat, k ≤ n ∧ i = .int .i64 k ∧ FillW w wr n k E) (fun i _ => n - (intOf i).toNat)
  case atStart => exact ⟨0, Nat.zero_le _, rfl, fillW_start _ _ _⟩
  case round =>
    obtain ⟨k, hk, rfl, hF⟩ := hrel
    by_cases hlt : k < n
    · have e1 := A1 (by omega)
      have q1 := HB.out wr hF.below
      obtain ⟨g0, g1, g2⟩ := q1.three k hlt
      clear q1 HB
      subst e1
      go_wp2_with fail
      refine (c34 (E k) _).mono ?_
      rintro e w' ⟨rfl, hb'⟩
      obtain ⟨f, hf, hv⟩ := hF.row
      have hr := hf.of_block (hb'.block _ hf.lt)
      have s0 := hr.cell (i := k * 3) (by omega)
      have s1 := hr.cell (i := k * 3 + 1) (by omega)
      have s2 := hr.cell (i := k * 3 + 2) (by omega)
      have t0 := hr.frozen (k * 3)
      have t1 := hr.frozen (k * 3 + 1)
      have t2 := hr.frozen (k * 3 + 2)
      have HN := fillW_step hF hb'
      clear hF hr hf hv hb'
      unfold wdv
      go_wp2
      go_roundw
      case rel => exact ⟨k + 1, by omega, by go_num, HN⟩
      case measure => simp [intOf]; omega
    · have hkn : k = n := by omega
      subst hkn
      have HE : Hid (WaitsAt wr (some ⟨w.heap.size, 0, none⟩) w.heap.size 0 k E ∧ Below w.heap.size w wr ∧ w.heap.size < wr.heap.size) := by
        obtain ⟨f, hf, hv⟩ := hF.row
        refine ⟨⟨fun _ => rfl, fun i j hi hj => ?_, HZ.out, by omega⟩, hF.below, hf.lt⟩
        rw [Nat.zero_add, hf.cell (by omega), hv i j hi hj]
      clear hF HB A1
      go_wp2
      go_ret
      exact ⟨rfl, HE.out⟩

end Go.Proofs.Ytefplfcfoapnjaa
