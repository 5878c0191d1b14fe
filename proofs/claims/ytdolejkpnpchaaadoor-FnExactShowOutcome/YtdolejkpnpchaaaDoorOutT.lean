/-
  Outcomes: the contracts of the functions that copy.
-/
import Derived.Test.YtdolejkpnpchaaaDoorOutS
import Derived.Test.YtdolejkpnpchaaaDoorTabTo2
namespace Go.Proofs.YtdolejkpnpchaaaDoor
open Go.RowKit

theorem Tryd.infoF2 : (Tryd.prog.info? 51).map (fun i => (i.zero, i.size, i.bytes)) = some (some (.agg #[.int .i64 0, .int .i64 0]), 2, 16) := by kernel_rfl
theorem makeF2 (n : Nat) (hn : n ≤ 1048576) (w : World) :
    (Instr.makeSlice 45 (.int .i64 (n : Int)) (.int .i64 (n : Int))).run Tryd.prog w = .ok (.slice (some ⟨w.heap.size, 0, none⟩) n n) (w.alloc (.cells (madeCells #[.int .i64 0, .int .i64 0] (n * 2)) 51)) := by
  obtain ⟨i, hi, hzz⟩ := Option.map_eq_some_iff.1 Tryd.infoF2
  simp only [Prod.mk.injEq] at hzz
  obtain ⟨hz, hs, hb⟩ := hzz
  have hr := run_make (P := Tryd.prog) w 45 51 i _ Tryd.underlying45 hi hz .i64 .i64 n n (by omega) (Int.le_refl _) (by rw [hb]; omega) (by omega)
  rw [Int.toNat_natCast, hs] at hr
  exact hr
def ent2 (a b : Value) : Nat → Value
  | 0 => a
  | _ => b
def put2 (w : World) (g o : Nat) (a b : Value) : World :=
  (w.setCell ⟨g, o, none⟩ a).setCell ⟨g, o + 1, none⟩ b
theorem put2_below {w w' : World} {base g o : Nat} {a b : Value} (h : Below base w w') (hb : base ≤ g) : Below base w (put2 w' g o a b) :=
  (h.setCell hb _).setCell hb _
theorem put2_row {w : World} {g o : Nat} {a b : Value} {t : TypeId} {n : Nat} {f : Nat → Value} (h : w.rowIs g t n f) : (put2 w g o a b).rowIs g t n (fun x => if o ≤ x ∧ x < o + 2 then ent2 a b (x - o) else f x) :=
  ((h.set o _).set (o + 1) _).congr (fun x _ => by
    show (if x = o + 1 then _ else if x = o then _ else f x) = _
    by_cases h : o ≤ x ∧ x < o + 2
    · obtain ⟨j, rfl⟩ : ∃ j, x = o + j := ⟨x - o, by omega⟩
      rw [if_pos h, Nat.add_sub_cancel_left]
      have hj : j < 2 := by omega
      match j, hj with
      | 0, _ => simp [ent2]
      | 1, _ => simp [ent2]
    · rw [if_neg h, if_neg (by omega), if_neg (by omega)])
/-- The row of new entries, its first k filled. -/
structure Fil2 (w wr : World) (n k : Nat) (F : Nat → Nat → Value) : Prop where
  below : Below w.heap.size w wr
  row : ∃ f, wr.rowIs w.heap.size 51 (n * 2) f ∧ ∀ i j, i < k → j < 2 → f (i * 2 + j) = F i j
theorem fil2_start (w : World) (n : Nat) (F : Nat → Nat → Value) : Fil2 w (w.alloc (.cells (madeCells #[.int .i64 0, .int .i64 0] (n * 2)) 51)) n 0 F := by
  refine ⟨bel1 w _, ?_⟩
  have h := World.rowIs_alloc w (madeCells #[.int .i64 0, .int .i64 0] (n * 2)) 51 (fun i => (madeCells #[.int .i64 0, .int .i64 0] (n * 2))[i]!) (fun i hi => by simp [hi])
  rw [size_madeCells] at h
  exact ⟨_, h, fun i j hi => absurd hi (Nat.not_lt_zero _)⟩
theorem fil2_step {w wr w' : World} {n k : Nat} {F : Nat → Nat → Value} (h : Fil2 w wr n k F) (hb : Below wr.heap.size wr w') (F' : Nat → Nat → Value) (hF : ∀ i j, i < k → F' i j = F i j) (a b : Value) (hE : ∀ j, j < 2 → F' k j = ent2 a b j) :
    Fil2 w (put2 w' w.heap.size (k * 2) a b) n (k + 1) F' := by
  obtain ⟨f, hf, hv⟩ := h.row
  have hlt := hf.lt
  refine ⟨put2_below (h.below.trans (hb.mono h.below.size)) (Nat.le_refl _), ⟨_, put2_row (hf.of_block (hb.block _ hlt)), fun i j hi hj => ?_⟩⟩
  by_cases e : i = k
  · subst e
    rw [if_pos (by omega), Nat.add_sub_cancel_left, hE j hj]
  · rw [if_neg (by omega), hv i j (by omega) hj, hF i j (by omega)]
theorem ats2 {w : World} {B : Nat} {t : TypeId} {n : Nat} {f : Nat → Value} (h : w.rowIs B t n f) (o : Nat) (ho : o + 2 ≤ n) :
    (w.cell? ⟨B, o, none⟩ = some (f o) ∧ w.cell? ⟨B, o + 1, none⟩ = some (f (o + 1))) ∧ (w.frozen? ⟨B, o, none⟩ = false ∧ w.frozen? ⟨B, o + 1, none⟩ = false) :=
  ⟨⟨h.cell (by omega), h.cell (by omega)⟩, ⟨h.frozen _, h.frozen _⟩⟩

theorem Tryd.infoF4 : (Tryd.prog.info? 55).map (fun i => (i.zero, i.size, i.bytes)) = some (some (.agg #[.int .i64 0, .string ByteArray.empty, .int .i64 0, .int .i64 0]), 4, 40) := by kernel_rfl
theorem makeF4 (n : Nat) (hn : n ≤ 1048576) (w : World) :
    (Instr.makeSlice 32 (.int .i64 (n : Int)) (.int .i64 (n : Int))).run Tryd.prog w = .ok (.slice (some ⟨w.heap.size, 0, none⟩) n n) (w.alloc (.cells (madeCells #[.int .i64 0, .string ByteArray.empty, .int .i64 0, .int .i64 0] (n * 4)) 55)) := by
  obtain ⟨i, hi, hzz⟩ := Option.map_eq_some_iff.1 Tryd.infoF4
  simp only [Prod.mk.injEq] at hzz
  obtain ⟨hz, hs, hb⟩ := hzz
  have hr := run_make (P := Tryd.prog) w 32 55 i _ Tryd.underlying32 hi hz .i64 .i64 n n (by omega) (Int.le_refl _) (by rw [hb]; omega) (by omega)
  rw [Int.toNat_natCast, hs] at hr
  exact hr
def ent4 (a b c d : Value) : Nat → Value
  | 0 => a
  | 1 => b
  | 2 => c
  | _ => d
def put4 (w : World) (g o : Nat) (a b c d : Value) : World :=
  (((w.setCell ⟨g, o, none⟩ a).setCell ⟨g, o + 1, none⟩ b).setCell ⟨g, o + 2, none⟩ c).setCell ⟨g, o + 3, none⟩ d
theorem put4_below {w w' : World} {base g o : Nat} {a b c d : Value} (h : Below base w w') (hb : base ≤ g) : Below base w (put4 w' g o a b c d) :=
  (((h.setCell hb _).setCell hb _).setCell hb _).setCell hb _
theorem put4_row {w : World} {g o : Nat} {a b c d : Value} {t : TypeId} {n : Nat} {f : Nat → Value} (h : w.rowIs g t n f) : (put4 w g o a b c d).rowIs g t n (fun x => if o ≤ x ∧ x < o + 4 then ent4 a b c d (x - o) else f x) :=
  ((((h.set o _).set (o + 1) _).set (o + 2) _).set (o + 3) _).congr (fun x _ => by
    show (if x = o + 3 then _ else if x = o + 2 then _ else if x = o + 1 then _ else if x = o then _ else f x) = _
    by_cases h : o ≤ x ∧ x < o + 4
    · obtain ⟨j, rfl⟩ : ∃ j, x = o + j := ⟨x - o, by omega⟩
      rw [if_pos h, Nat.add_sub_cancel_left]
      have hj : j < 4 := by omega
      match j, hj with
      | 0, _ => simp [ent4]
      | 1, _ => simp [ent4]
      | 2, _ => simp [ent4]
      | 3, _ => simp [ent4]
    · rw [if_neg h, if_neg (by omega), if_neg (by omega), if_neg (by omega), if_neg (by omega)])
/-- The row of new entries, its first k filled. -/
structure Fil4 (w wr : World) (n k : Nat) (F : Nat → Nat → Value) : Prop where
  below : Below w.heap.size w wr
  row : ∃ f, wr.rowIs w.heap.size 55 (n * 4) f ∧ ∀ i j, i < k → j < 4 → f (i * 4 + j) = F i j
theorem fil4_start (w : World) (n : Nat) (F : Nat → Nat → Value) : Fil4 w (w.alloc (.cells (madeCells #[.int .i64 0, .string ByteArray.empty, .int .i64 0, .int .i64 0] (n * 4)) 55)) n 0 F := by
  refine ⟨bel1 w _, ?_⟩
  have h := World.rowIs_alloc w (madeCells #[.int .i64 0, .string ByteArray.empty, .int .i64 0, .int .i64 0] (n * 4)) 55 (fun i => (madeCells #[.int .i64 0, .string ByteArray.empty, .int .i64 0, .int .i64 0] (n * 4))[i]!) (fun i hi => by simp [hi])
  rw [size_madeCells] at h
  exact ⟨_, h, fun i j hi => absurd hi (Nat.not_lt_zero _)⟩
theorem fil4_step {w wr w' : World} {n k : Nat} {F : Nat → Nat → Value} (h : Fil4 w wr n k F) (hb : Below wr.heap.size wr w') (F' : Nat → Nat → Value) (hF : ∀ i j, i < k → F' i j = F i j) (a b c d : Value) (hE : ∀ j, j < 4 → F' k j = ent4 a b c d j) :
    Fil4 w (put4 w' w.heap.size (k * 4) a b c d) n (k + 1) F' := by
  obtain ⟨f, hf, hv⟩ := h.row
  have hlt := hf.lt
  refine ⟨put4_below (h.below.trans (hb.mono h.below.size)) (Nat.le_refl _), ⟨_, put4_row (hf.of_block (hb.block _ hlt)), fun i j hi hj => ?_⟩⟩
  by_cases e : i = k
  · subst e
    rw [if_pos (by omega), Nat.add_sub_cancel_left, hE j hj]
  · rw [if_neg (by omega), hv i j (by omega) hj, hF i j (by omega)]
theorem ats4 {w : World} {B : Nat} {t : TypeId} {n : Nat} {f : Nat → Value} (h : w.rowIs B t n f) (o : Nat) (ho : o + 4 ≤ n) :
    (w.cell? ⟨B, o, none⟩ = some (f o) ∧ w.cell? ⟨B, o + 1, none⟩ = some (f (o + 1)) ∧ w.cell? ⟨B, o + 2, none⟩ = some (f (o + 2)) ∧ w.cell? ⟨B, o + 3, none⟩ = some (f (o + 3))) ∧ (w.frozen? ⟨B, o, none⟩ = false ∧ w.frozen? ⟨B, o + 1, none⟩ = false ∧ w.frozen? ⟨B, o + 2, none⟩ = false ∧ w.frozen? ⟨B, o + 3, none⟩ = false) :=
  ⟨⟨h.cell (by omega), h.cell (by omega), h.cell (by omega), h.cell (by omega)⟩, ⟨h.frozen _, h.frozen _, h.frozen _, h.frozen _⟩⟩

theorem Tryd.infoF5 : (Tryd.prog.info? 47).map (fun i => (i.zero, i.size, i.bytes)) = some (some (.agg #[.int .i64 0, .string ByteArray.empty, .int .i64 0, .bool false, .slice none 0 0]), 5, 64) := by kernel_rfl
theorem makeF5 (n : Nat) (hn : n ≤ 1048576) (w : World) :
    (Instr.makeSlice 31 (.int .i64 (n : Int)) (.int .i64 (n : Int))).run Tryd.prog w = .ok (.slice (some ⟨w.heap.size, 0, none⟩) n n) (w.alloc (.cells (madeCells #[.int .i64 0, .string ByteArray.empty, .int .i64 0, .bool false, .slice none 0 0] (n * 5)) 47)) := by
  obtain ⟨i, hi, hzz⟩ := Option.map_eq_some_iff.1 Tryd.infoF5
  simp only [Prod.mk.injEq] at hzz
  obtain ⟨hz, hs, hb⟩ := hzz
  have hr := run_make (P := Tryd.prog) w 31 47 i _ Tryd.underlying31 hi hz .i64 .i64 n n (by omega) (Int.le_refl _) (by rw [hb]; omega) (by omega)
  rw [Int.toNat_natCast, hs] at hr
  exact hr
def ent5 (a b c d e : Value) : Nat → Value
  | 0 => a
  | 1 => b
  | 2 => c
  | 3 => d
  | _ => e
def put5 (w : World) (g o : Nat) (a b c d e : Value) : World :=
  ((((w.setCell ⟨g, o, none⟩ a).setCell ⟨g, o + 1, none⟩ b).setCell ⟨g, o + 2, none⟩ c).setCell ⟨g, o + 3, none⟩ d).setCell ⟨g, o + 4, none⟩ e
theorem put5_below {w w' : World} {base g o : Nat} {a b c d e : Value} (h : Below base w w') (hb : base ≤ g) : Below base w (put5 w' g o a b c d e) :=
  ((((h.setCell hb _).setCell hb _).setCell hb _).setCell hb _).setCell hb _
theorem put5_row {w : World} {g o : Nat} {a b c d e : Value} {t : TypeId} {n : Nat} {f : Nat → Value} (h : w.rowIs g t n f) : (put5 w g o a b c d e).rowIs g t n (fun x => if o ≤ x ∧ x < o + 5 then ent5 a b c d e (x - o) else f x) :=
  (((((h.set o _).set (o + 1) _).set (o + 2) _).set (o + 3) _).set (o + 4) _).congr (fun x _ => by
    show (if x = o + 4 then _ else if x = o + 3 then _ else if x = o + 2 then _ else if x = o + 1 then _ else if x = o then _ else f x) = _
    by_cases h : o ≤ x ∧ x < o + 5
    · obtain ⟨j, rfl⟩ : ∃ j, x = o + j := ⟨x - o, by omega⟩
      rw [if_pos h, Nat.add_sub_cancel_left]
      have hj : j < 5 := by omega
      match j, hj with
      | 0, _ => simp [ent5]
      | 1, _ => simp [ent5]
      | 2, _ => simp [ent5]
      | 3, _ => simp [ent5]
      | 4, _ => simp [ent5]
    · rw [if_neg h, if_neg (by omega), if_neg (by omega), if_neg (by omega), if_neg (by omega), if_neg (by omega)])
/-- The row of new entries, its first k filled. -/
structure Fil5 (w wr : World) (n k : Nat) (F : Nat → Nat → Value) : Prop where
  below : Below w.heap.size w wr
  row : ∃ f, wr.rowIs w.heap.size 47 (n * 5) f ∧ ∀ i j, i < k → j < 5 → f (i * 5 + j) = F i j
theorem fil5_start (w : World) (n : Nat) (F : Nat → Nat → Value) : Fil5 w (w.alloc (.cells (madeCells #[.int .i64 0, .string ByteArray.empty, .int .i64 0, .bool false, .slice none 0 0] (n * 5)) 47)) n 0 F := by
  refine ⟨bel1 w _, ?_⟩
  have h := World.rowIs_alloc w (madeCells #[.int .i64 0, .string ByteArray.empty, .int .i64 0, .bool false, .slice none 0 0] (n * 5)) 47 (fun i => (madeCells #[.int .i64 0, .string ByteArray.empty, .int .i64 0, .bool false, .slice none 0 0] (n * 5))[i]!) (fun i hi => by simp [hi])
  rw [size_madeCells] at h
  exact ⟨_, h, fun i j hi => absurd hi (Nat.not_lt_zero _)⟩
theorem fil5_step {w wr w' : World} {n k : Nat} {F : Nat → Nat → Value} (h : Fil5 w wr n k F) (hb : Below wr.heap.size wr w') (F' : Nat → Nat → Value) (hF : ∀ i j, i < k → F' i j = F i j) (a b c d e : Value) (hE : ∀ j, j < 5 → F' k j = ent5 a b c d e j) :
    Fil5 w (put5 w' w.heap.size (k * 5) a b c d e) n (k + 1) F' := by
  obtain ⟨f, hf, hv⟩ := h.row
  have hlt := hf.lt
  refine ⟨put5_below (h.below.trans (hb.mono h.below.size)) (Nat.le_refl _), ⟨_, put5_row (hf.of_block (hb.block _ hlt)), fun i j hi hj => ?_⟩⟩
  by_cases e : i = k
  · subst e
    rw [if_pos (by omega), Nat.add_sub_cancel_left, hE j hj]
  · rw [if_neg (by omega), hv i j (by omega) hj, hF i j (by omega)]
theorem ats5 {w : World} {B : Nat} {t : TypeId} {n : Nat} {f : Nat → Value} (h : w.rowIs B t n f) (o : Nat) (ho : o + 5 ≤ n) :
    (w.cell? ⟨B, o, none⟩ = some (f o) ∧ w.cell? ⟨B, o + 1, none⟩ = some (f (o + 1)) ∧ w.cell? ⟨B, o + 2, none⟩ = some (f (o + 2)) ∧ w.cell? ⟨B, o + 3, none⟩ = some (f (o + 3)) ∧ w.cell? ⟨B, o + 4, none⟩ = some (f (o + 4))) ∧ (w.frozen? ⟨B, o, none⟩ = false ∧ w.frozen? ⟨B, o + 1, none⟩ = false ∧ w.frozen? ⟨B, o + 2, none⟩ = false ∧ w.frozen? ⟨B, o + 3, none⟩ = false ∧ w.frozen? ⟨B, o + 4, none⟩ = false) :=
  ⟨⟨h.cell (by omega), h.cell (by omega), h.cell (by omega), h.cell (by omega), h.cell (by omega)⟩, ⟨h.frozen _, h.frozen _, h.frozen _, h.frozen _, h.frozen _⟩⟩


set_option maxHeartbeats 1000000 in
theorem t_diag (x y : Int) (w : World) :
    Calls Tryd.prog 53 #[.agg #[.int .i64 x, .int .i64 y]] w fun e w' => e = .returned (.agg #[.int .i64 x, .int .i64 y]) ∧ Below w.heap.size w w' := by
  go_enter Tryd.func53, Tryd.ntmps53
  go_wp2
  refine bodyPost_ret (v := .agg #[.int .i64 x, .int .i64 y]) (by simp [results, Tryd.results53, go_sem]) rfl ⟨rfl, ?_⟩
  repeat' (first | exact bel3 _ _ _ _ | refine Below.setCell ?_ ?_ _)
  all_goals (simp; try omega)

set_option maxHeartbeats 1000000 in
theorem t_diags (od : Option Addr) (gd o nd cd : Nat) (dg : Nat → Int × Int) (w : World) (hn : nd ≤ 1048576) (dh : 0 < nd → od = some ⟨gd, o, none⟩) (d0 : ∀ j, j < nd → w.cell? ⟨gd, o + j * 2, none⟩ = some (.int .i64 (dg j).1)) (d1 : ∀ j, j < nd → w.cell? ⟨gd, o + j * 2 + 1, none⟩ = some (.int .i64 (dg j).2)) :
    Calls Tryd.prog 43 #[.slice od nd cd] w fun e w' => e = .returned (.slice (some ⟨w.heap.size, 0, none⟩) nd nd) ∧ (∀ j, j < nd → w'.cell? ⟨w.heap.size, j * 2, none⟩ = some (.int .i64 (dg j).1) ∧ w'.cell? ⟨w.heap.size, j * 2 + 1, none⟩ = some (.int .i64 (dg j).2)) ∧ Below w.heap.size w w' ∧ w.heap.size < w'.heap.size := by
  have hmk := makeF2 nd hn
  have HB : Hid (∀ w', Below w.heap.size w w' → ∀ j, j < nd → w'.cell? ⟨gd, o + j * 2, none⟩ = some (.int .i64 (dg j).1) ∧ w'.cell? ⟨gd, o + j * 2 + 1, none⟩ = some (.int .i64 (dg j).2)) := fun w' hb j hj => ⟨cell_kept (d0 j hj) hb, cell_kept (d1 j hj) hb⟩
  clear d0 d1
  go_enter Tryd.func43, Tryd.ntmps43
  go_wp2
  clear hmk
  go_loopw [4] (fun i wr => ∃ k : Nat, k ≤ nd ∧ i = .int .i64 k ∧ Fil2 w wr nd k (fun i => ent2 (.int .i64 (dg i).1) (.int .i64 (dg i).2))) (fun i _ => nd - (intOf i).toNat)
  case atStart => exact ⟨0, Nat.zero_le _, rfl, fil2_start _ _ _⟩
  case round =>
    obtain ⟨k, hk, rfl, hF⟩ := hrel
    by_cases hlt : k < nd
    · have e1 := dh (by omega)
      obtain ⟨g0, g1⟩ := HB.out wr hF.below k hlt
      subst e1
      go_wp2_with fail
      refine (t_diag (dg k).1 (dg k).2 _).mono ?_
      rintro e w' ⟨rfl, hb'⟩
      obtain ⟨f, hf, hv⟩ := hF.row
      have hr := hf.of_block (hb'.block _ hf.lt)
      obtain ⟨⟨s0, s1⟩, ⟨t0, t1⟩⟩ := ats2 hr (k * 2) (by omega)
      have HN := fil2_step hF hb' (fun i => ent2 (.int .i64 (dg i).1) (.int .i64 (dg i).2)) (fun _ _ _ => rfl) _ _ (fun _ _ => rfl)
      unfold put2 at HN
      have HH := hid_of HN
      clear hF hr hf hv hb' HN g0 g1
      go_wp2
      go_roundw
      case rel => exact ⟨k + 1, by omega, by go_num, HH.out⟩
      case measure => simp [intOf]; omega
    · have hkn : k = nd := by omega
      subst hkn
      have HE : Hid ((∀ j, j < k → wr.cell? ⟨w.heap.size, j * 2, none⟩ = some (.int .i64 (dg j).1) ∧ wr.cell? ⟨w.heap.size, j * 2 + 1, none⟩ = some (.int .i64 (dg j).2)) ∧ Below w.heap.size w wr ∧ w.heap.size < wr.heap.size) := by
        obtain ⟨f, hf, hv⟩ := hF.row
        refine ⟨fun j hj => ⟨?_, ?_⟩, hF.below, hf.lt⟩
        · have := hv j 0 hj (by omega)
          rw [hf.cell (by omega)]; exact congrArg some this
        · rw [hf.cell (by omega)]; exact congrArg some (hv j 1 hj (by omega))
      clear hF HB
      go_wp2
      go_ret
      exact ⟨rfl, HE.out⟩
end Go.Proofs.YtdolejkpnpchaaaDoor
