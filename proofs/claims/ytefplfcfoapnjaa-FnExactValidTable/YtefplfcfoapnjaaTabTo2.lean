/-
  Tables: the contracts of the functions that copy, the last ones.
-/
import Derived.Test.YtefplfcfoapnjaaTabTo
namespace Go.Proofs.Ytefplfcfoapnjaa
open Go.RowKit

theorem make9 (n : Nat) (hn : n ≤ 1048576) (w : World) :
    (Instr.makeSlice 27 (.int .i64 (n : Int)) (.int .i64 (n : Int))).run Try.prog w = .ok (.slice (some ⟨w.heap.size, 0, none⟩) n n) (w.alloc (.cells (madeCells #[.int .i64 0, .string ByteArray.empty, .bool false, .string ByteArray.empty, .slice none 0 0, .int .i64 0, .int .i64 0, .int .i64 0, .int .i64 0] (n * 9)) 47)) := by
  obtain ⟨i, hi, hzz⟩ := Option.map_eq_some_iff.1 Try.info47
  simp only [Prod.mk.injEq] at hzz
  obtain ⟨hz, hs, hb⟩ := hzz
  have hr := run_make (P := Try.prog) w 27 47 i _ Try.underlying27 hi hz .i64 .i64 n n (by omega) (Int.le_refl _) (by rw [hb]; omega) (by omega)
  rw [Int.toNat_natCast, hs] at hr
  exact hr

/-- The row of new slots, its first k filled. -/
structure Fill9 (w wr : World) (n k : Nat) (p : Nat → SP) (D : Nat → SD) : Prop where
  below : Below w.heap.size w wr
  row : ∃ f, wr.rowIs w.heap.size 47 (n * 9) f ∧ ∀ i j, i < k → j < 9 → f (i * 9 + j) = sc (p i) (D i) j
  slot : ∀ i, i < k → SlotAt wr (p i) (D i) ∧ w.heap.size < (p i).b ∧ (p i).c = (D i).n

theorem fill9_start (w : World) (n : Nat) (p : Nat → SP) (D : Nat → SD) : Fill9 w (w.alloc (.cells (madeCells #[.int .i64 0, .string ByteArray.empty, .bool false, .string ByteArray.empty, .slice none 0 0, .int .i64 0, .int .i64 0, .int .i64 0, .int .i64 0] (n * 9)) 47)) n 0 p D := by
  refine ⟨bel1 w _, ?_, fun i hi => absurd hi (Nat.not_lt_zero _)⟩
  have h := World.rowIs_alloc w (madeCells #[.int .i64 0, .string ByteArray.empty, .bool false, .string ByteArray.empty, .slice none 0 0, .int .i64 0, .int .i64 0, .int .i64 0, .int .i64 0] (n * 9)) 47 (fun i => (madeCells #[.int .i64 0, .string ByteArray.empty, .bool false, .string ByteArray.empty, .slice none 0 0, .int .i64 0, .int .i64 0, .int .i64 0, .int .i64 0] (n * 9))[i]!) (fun i hi => by simp [hi])
  rw [size_madeCells] at h
  exact ⟨_, h, fun i j hi => absurd hi (Nat.not_lt_zero _)⟩

/-- A slot put into its nine cells. -/
def putSlot (w : World) (b o : Nat) (p : SP) (d : SD) : World :=
  ((((((((w.setCell ⟨b, o, none⟩ (.int .i64 d.k)).setCell ⟨b, o + 1, none⟩ (.string d.m)).setCell ⟨b, o + 2, none⟩ (.bool d.has)).setCell ⟨b, o + 3, none⟩ (.string d.v)).setCell ⟨b, o + 4, none⟩ (.slice p.a d.n p.c)).setCell
    ⟨b, o + 5, none⟩ (.int .i64 d.ver)).setCell ⟨b, o + 6, none⟩ (.int .i64 d.chg)).setCell ⟨b, o + 7, none⟩ (.int .i64 d.own)).setCell ⟨b, o + 8, none⟩ (.int .i64 d.sin)

theorem putSlot_below {w w' : World} {base b o : Nat} {p : SP} {d : SD} (h : Below base w w') (hb : base ≤ b) : Below base w (putSlot w' b o p d) :=
  ((((((((h.setCell hb _).setCell hb _).setCell hb _).setCell hb _).setCell hb _).setCell hb _).setCell hb _).setCell hb _).setCell hb _

theorem putSlot_slot {w : World} {b o : Nat} {p q : SP} {d e : SD} (h : SlotAt w q e) (hb : q.b ≠ b) : SlotAt (putSlot w b o p d) q e :=
  ((((((((h.set hb _).set hb _).set hb _).set hb _).set hb _).set hb _).set hb _).set hb _).set hb _

theorem putSlot_row {w : World} {b o : Nat} {p : SP} {d : SD} {t : TypeId} {n : Nat} {f : Nat → Value} (h : w.rowIs b t n f) : (putSlot w b o p d).rowIs b t n (fun x => if o ≤ x ∧ x < o + 9 then sc p d (x - o) else f x) :=
  (((((((((h.set o _).set (o + 1) _).set (o + 2) _).set (o + 3) _).set (o + 4) _).set (o + 5) _).set (o + 6) _).set (o + 7) _).set (o + 8) _).congr (fun x _ => by
    show (if x = o + 8 then _ else if x = o + 7 then _ else if x = o + 6 then _ else if x = o + 5 then _ else if x = o + 4 then _ else if x = o + 3 then _ else if x = o + 2 then _ else if x = o + 1 then _ else if x = o then _ else f x) = _
    by_cases h : o ≤ x ∧ x < o + 9
    · obtain ⟨j, rfl⟩ : ∃ j, x = o + j := ⟨x - o, by omega⟩
      rw [if_pos h, Nat.add_sub_cancel_left]
      have hj : j < 9 := by omega
      match j, hj with
      | 0, _ => simp [sc]
      | 1, _ => simp [sc]
      | 2, _ => simp [sc]
      | 3, _ => simp [sc]
      | 4, _ => simp [sc]
      | 5, _ => simp [sc]
      | 6, _ => simp [sc]
      | 7, _ => simp [sc]
      | 8, _ => simp [sc]
    · rw [if_neg h, if_neg (by omega), if_neg (by omega), if_neg (by omega), if_neg (by omega), if_neg (by omega), if_neg (by omega), if_neg (by omega), if_neg (by omega), if_neg (by omega)])

theorem fill9_step {w wr w' : World} {n k : Nat} {p : Nat → SP} {D : Nat → SD} (h : Fill9 w wr n k p D) (hb : Below wr.heap.size wr w') (q : SP) (hq : SlotAt w' q (D k)) (h1 : wr.heap.size ≤ q.b) (h2 : q.c = (D k).n) :
    Fill9 w (putSlot w' w.heap.size (k * 9) q (D k)) n (k + 1) (fun i => if i = k then q else p i) D := by
  obtain ⟨f, hf, hv⟩ := h.row
  have hlt := hf.lt
  refine ⟨putSlot_below (h.below.trans (hb.mono h.below.size)) (Nat.le_refl _), ⟨_, putSlot_row (hf.of_block (hb.block _ hlt)), fun i j hi hj => ?_⟩, fun i hi => ?_⟩
  · by_cases e : i = k
    · subst e
      simp only [if_true]
      rw [if_pos (by omega), Nat.add_sub_cancel_left]
    · simp only [if_neg e]
      rw [if_neg (by omega)]
      exact hv i j (by omega) hj
  · by_cases e : i = k
    · subst e
      simp only [if_true]
      exact ⟨putSlot_slot hq (by omega), by omega, h2⟩
    · obtain ⟨n1, n2, n3⟩ := h.slot i (by omega)
      simp only [if_neg e]
      exact ⟨putSlot_slot (n1.below hb) (by omega), n2, n3⟩

theorem nine_at {w : World} {B : Nat} {t : TypeId} {n : Nat} {f : Nat → Value} (h : w.rowIs B t n f) (o : Nat) (ho : o + 9 ≤ n) :
    (w.cell? ⟨B, o, none⟩ = some (f o) ∧ w.cell? ⟨B, o + 1, none⟩ = some (f (o + 1)) ∧ w.cell? ⟨B, o + 2, none⟩ = some (f (o + 2)) ∧ w.cell? ⟨B, o + 3, none⟩ = some (f (o + 3)) ∧ w.cell? ⟨B, o + 4, none⟩ = some (f (o + 4)) ∧
      w.cell? ⟨B, o + 5, none⟩ = some (f (o + 5)) ∧ w.cell? ⟨B, o + 6, none⟩ = some (f (o + 6)) ∧ w.cell? ⟨B, o + 7, none⟩ = some (f (o + 7)) ∧ w.cell? ⟨B, o + 8, none⟩ = some (f (o + 8))) ∧
    (w.frozen? ⟨B, o, none⟩ = false ∧ w.frozen? ⟨B, o + 1, none⟩ = false ∧ w.frozen? ⟨B, o + 2, none⟩ = false ∧ w.frozen? ⟨B, o + 3, none⟩ = false ∧ w.frozen? ⟨B, o + 4, none⟩ = false ∧
      w.frozen? ⟨B, o + 5, none⟩ = false ∧ w.frozen? ⟨B, o + 6, none⟩ = false ∧ w.frozen? ⟨B, o + 7, none⟩ = false ∧ w.frozen? ⟨B, o + 8, none⟩ = false) :=
  ⟨⟨h.cell (by omega), h.cell (by omega), h.cell (by omega), h.cell (by omega), h.cell (by omega), h.cell (by omega), h.cell (by omega), h.cell (by omega), h.cell (by omega)⟩,
    ⟨h.frozen _, h.frozen _, h.frozen _, h.frozen _, h.frozen _, h.frozen _, h.frozen _, h.frozen _, h.frozen _⟩⟩

set_option maxHeartbeats 4000000 in
theorem c27 (ao : Option Addr) (b o n c : Nat) (p : Nat → SP) (D : Nat → SD) (w : World) (h1 : SlotsAt w ao b o n p D) (hn : n ≤ 1048576) (hG : ∀ i, i < n → (D i).n ≤ 1048576) :
    Calls Try.prog 27 #[.slice ao n c] w fun e w' => e = .returned (.slice (some ⟨w.heap.size, 0, none⟩) n n) ∧ (∃ p', SlotsAt w' (some ⟨w.heap.size, 0, none⟩) w.heap.size 0 n p' D ∧ ∀ i, i < n → w.heap.size < (p' i).b ∧ (p' i).c = (D i).n) ∧ Below w.heap.size w w' ∧ w.heap.size < w'.heap.size := by
  have hmk := make9 n hn
  have HB : Hid (∀ w', Below w.heap.size w w' → SlotsAt w' ao b o n p D) := fun w' hb => h1.below hb
  have A1 := h1.at_
  have HG : Hid (∀ i, i < n → (D i).n ≤ 1048576) := hG
  clear h1 hG
  go_enter Try.func27, Try.ntmps27
  go_wp2
  clear hmk
  go_loopw [4] (fun i wr => ∃ (k : Nat) (q : Nat → SP), k ≤ n ∧ i = .int .i64 k ∧ Fill9 w wr n k q D) (fun i _ => n - (intOf i).toNat)
  case atStart => exact ⟨0, p, Nat.zero_le _, rfl, fill9_start _ _ _ _⟩
  case round =>
    obtain ⟨k, q, hk, rfl, hF⟩ := hrel
    by_cases hlt : k < n
    · have e1 := A1 (by omega)
      have q1 := HB.out wr hF.below
      obtain ⟨x0, x1, x2, x3, x4, x5, x6, x7, x8⟩ := q1.nine k hlt
      have N1 := q1.slot k hlt
      clear q1 HB
      subst e1
      go_wp2_with fail
      refine (c49 (p k) (D k) _ N1 (HG.out k hlt)).mono ?_
      rintro e w' ⟨p', rfl, hq, hb', hp1, hp2⟩
      obtain ⟨f, hf, hv⟩ := hF.row
      have hr := hf.of_block (hb'.block _ hf.lt)
      obtain ⟨⟨s0, s1, s2, s3, s4, s5, s6, s7, s8⟩, ⟨t0, t1, t2, t3, t4, t5, t6, t7, t8⟩⟩ := nine_at hr (k * 9) (by omega)
      have HN := fill9_step hF hb' p' hq hp1 hp2
      unfold putSlot at HN
      have HH : Hid (Fill9 w _ n (k + 1) _ D) := HN
      clear hF hr hf hv hq hb' hp1 hp2 N1 HN x0 x1 x2 x3 x4 x5 x6 x7 x8
      go_wp2
      go_roundw
      case rel => exact ⟨k + 1, _, by omega, by go_num, HH.out⟩
      case measure => simp [intOf]; omega
    · have hkn : k = n := by omega
      subst hkn
      have HE : Hid ((∃ p', SlotsAt wr (some ⟨w.heap.size, 0, none⟩) w.heap.size 0 k p' D ∧ ∀ i, i < k → w.heap.size < (p' i).b ∧ (p' i).c = (D i).n) ∧ Below w.heap.size w wr ∧ w.heap.size < wr.heap.size) := by
        obtain ⟨f, hf, hv⟩ := hF.row
        refine ⟨⟨q, ⟨fun _ => rfl, fun i j hi hj => ?_, fun i hi => (hF.slot i hi).1, by omega⟩, fun i hi => (hF.slot i hi).2⟩, hF.below, hf.lt⟩
        rw [Nat.zero_add, hf.cell (by omega), hv i j hi hj]
      clear hF HB A1
      go_wp2
      go_ret
      exact ⟨rfl, HE.out⟩

theorem row1 (w : World) (a : Value) (t : TypeId) : (w.alloc (.cells #[a] t)).rowIs w.heap.size t 1 (fun _ => a) :=
  World.rowIs_alloc w #[a] t _ (fun i hi => by
    match i, hi with
    | 0, _ => rfl)

set_option maxHeartbeats 1000000 in
theorem c8 (ao : Option Addr) (b o n c : Nat) (p : Nat → SP) (D : Nat → SD) (w : World) (h1 : SlotsAt w ao b o n p D) (hn : n ≤ 1048576) (hG : ∀ i, i < n → (D i).n ≤ 1048576) :
    Calls Try.prog 8 #[.agg #[.slice ao n c]] w fun e w' => ∃ b' p', e = .returned (.agg #[.slice (some ⟨b', 0, none⟩) n n]) ∧ SlotsAt w' (some ⟨b', 0, none⟩) b' 0 n p' D ∧ Below w.heap.size w w' ∧ w.heap.size ≤ b' ∧ ∀ i, i < n → b' < (p' i).b ∧ (p' i).c = (D i).n := by
  have HB : Hid (∀ w', Below w.heap.size w w' → SlotsAt w' ao b o n p D) := fun w' hb => h1.below hb
  clear h1
  go_enter Try.func8, Try.ntmps8
  go_wp2_with fail
  refine (c27 ao b o n c p D _ (by exact HB.out _ (bel3 _ _ _ _)) hn hG).mono ?_
  rintro e w1 ⟨rfl, ⟨p', hN, hp⟩, hb1, hz1⟩
  have B1 := (bel3 w _ _ _).trans (hb1.mono (by simp; omega))
  have r1 := (row1 (w.alloc (.cells #[.slice ao n c] 24)) (.slice none 0 0) 29)
  have r2 := (row1 ((w.alloc (.cells #[.slice ao n c] 24)).alloc (.cells #[.slice none 0 0] 29)) (.slice none 0 0) 29)
  have s1 := ((r1.alloc (.cells #[.slice none 0 0] 29))).of_block (hb1.block _ (by simp))
  have s2 := r2.of_block (hb1.block _ (by simp))
  simp only [World.size_alloc] at s1 s2 hN hp hz1
  have k0 := s1.cell (i := 0) (by omega)
  have k1 := s1.frozen 0
  have k2 := s2.cell (i := 0) (by omega)
  have k3 := s2.frozen 0
  clear hb1 s1 s2 r1 r2 HB
  go_wp2_with fail
  have e1 := (hN.set (a := ⟨w.heap.size + 1 + 1, 0, none⟩) (by show w.heap.size + 1 + 1 + 1 ≠ w.heap.size + 1 + 1; omega) (fun i hi => by have := hp i hi; show (p' i).b ≠ w.heap.size + 1 + 1; omega)
    (.slice (some ⟨w.heap.size + 1 + 1 + 1, 0, none⟩) n n)).set (a := ⟨w.heap.size + 1, 0, none⟩) (by show w.heap.size + 1 + 1 + 1 ≠ w.heap.size + 1; omega) (fun i hi => by have := hp i hi; show (p' i).b ≠ w.heap.size + 1; omega)
    (.slice (some ⟨w.heap.size + 1 + 1 + 1, 0, none⟩) n n)
  have hB := (B1.setCell (p := ⟨w.heap.size + 1 + 1, 0, none⟩) (by show w.heap.size ≤ w.heap.size + 1 + 1; omega) (.slice (some ⟨w.heap.size + 1 + 1 + 1, 0, none⟩) n n)).setCell (p := ⟨w.heap.size + 1, 0, none⟩) (by show w.heap.size ≤ w.heap.size + 1; omega) (.slice (some ⟨w.heap.size + 1 + 1 + 1, 0, none⟩) n n)
  exact bodyPost_ret (v := .agg #[.slice (some ⟨w.heap.size + 1 + 1 + 1, 0, none⟩) n n]) (by simp [results, Try.results8, go_sem, k0]) rfl ⟨w.heap.size + 1 + 1 + 1, p', rfl, e1, hB, by omega, hp⟩

end Go.Proofs.Ytefplfcfoapnjaa
