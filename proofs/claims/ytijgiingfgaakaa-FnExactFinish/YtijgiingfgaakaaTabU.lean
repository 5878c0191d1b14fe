/-
  Tables: the copies of the law, in memory of their own.
-/
import Derived.Test.YtijgiingfgaakaaTabN
namespace Go.Proofs.Ytijgiingfgaakaa
open Go.RowKit

theorem KeysRow.set {w : World} {b n : Nat} {K : Nat → Int} {M : Nat → ByteArray} (h : KeysRow w b n K M) {a : Addr} (ha : b ≠ a.block) (v : Value) : KeysRow (w.setCell a v) b n K M :=
  h.of (Below.heap_setCell _ _ _ _ ha)
theorem KeysNew.set {w : World} {lo hi : Nat} {ao : Option Addr} {b n : Nat} {K : Nat → Int} {M : Nat → ByteArray} (h : KeysNew w lo hi ao b n K M) {a : Addr} (ha : a.block < lo) (v : Value) : KeysNew (w.setCell a v) lo hi ao b n K M :=
  ⟨h.at_, fun q => (h.row q).set (by have := h.inn q; omega) v, h.inn⟩
theorem TabNew.set {w : World} {lo hi : Nat} {ao : Option Addr} {b n : Nat} {p : Nat → SP} {D : Nat → SD} (h : TabNew w lo hi ao b n p D) {a : Addr} (ha : a.block < lo) (v : Value) : TabNew (w.setCell a v) lo hi ao b n p D :=
  ⟨h.at_, fun q => (h.row q).of (Below.heap_setCell _ _ _ _ (by have := h.inn q; omega)), h.inn, fun i hi => ⟨(h.keys i hi).1.set ha v, (h.keys i hi).2⟩, h.dist⟩

set_option maxHeartbeats 1000000 in
theorem u68 (ao : Option Addr) (b o n c : Nat) (S : Nat → Int) (T : Nat → ByteArray) (w : World) (h1 : KeysAt w ao b o n S T) (hn : n ≤ 1048576) :
    Calls Try.prog 26 #[.slice ao n c] w fun e w' => e = .returned (.slice (some ⟨w.heap.size, 0, none⟩) n n) ∧ KeysRow w' w.heap.size n S T ∧ Below w.heap.size w w' ∧ w.heap.size < w'.heap.size := by
  have hmk := make2 n hn
  have HB : Hid (∀ w', Below w.heap.size w w' → KeysAt w' ao b o n S T) := fun w' hb => h1.below hb
  have A1 := h1.at_
  clear h1
  go_enter Try.func26, Try.ntmps26
  go_wp2
  clear hmk
  go_loopw [4] (fun i wr => ∃ k : Nat, k ≤ n ∧ i = .int .i64 k ∧ Fill2 w wr n k S T) (fun i _ => n - (intOf i).toNat)
  case atStart => exact ⟨0, Nat.zero_le _, rfl, fill2_start _ _ _ _⟩
  case round =>
    obtain ⟨k, hk, rfl, hF⟩ := hrel
    by_cases hlt : k < n
    · have e1 := A1 (by omega)
      have q1 := HB.out wr hF.below
      have g0 := q1.c0 k hlt
      have g1 := q1.c1 k hlt
      clear q1 HB
      subst e1
      go_wp2_with fail
      refine (c15 (S k) (T k) _).mono ?_
      rintro e w' ⟨rfl, hb'⟩
      obtain ⟨f, hf, hv⟩ := hF.row
      have hr := hf.of_block (hb'.block _ hf.lt)
      have s0 := hr.cell (i := k * 2) (by omega)
      have s1 := hr.cell (i := k * 2 + 1) (by omega)
      have t0 := hr.frozen (k * 2)
      have t1 := hr.frozen (k * 2 + 1)
      have HN := fill2_step hF hb'
      clear hF hr hf hv hb'
      go_wp2
      go_roundw
      case rel => exact ⟨k + 1, by omega, by go_num, HN⟩
      case measure => simp [intOf]; omega
    · have hkn : k = n := by omega
      subst hkn
      have HE : Hid (KeysRow wr w.heap.size k S T ∧ Below w.heap.size w wr ∧ w.heap.size < wr.heap.size) := by
        obtain ⟨f, hf, hv⟩ := hF.row
        exact ⟨⟨_, f, hf, Nat.le_refl _, hv⟩, hF.below, hf.lt⟩
      clear hF HB A1
      go_wp2
      go_ret
      exact ⟨rfl, HE.out⟩


set_option maxHeartbeats 4000000 in
theorem u49 (p : SP) (d : SD) (w : World) (h1 : SlotAt w p d) (hn : d.n ≤ 1048576) :
    Calls Try.prog 65 #[sdv p d] w fun e w' => ∃ p', e = .returned (sdv p' d) ∧ KeysRow w' p'.b d.n d.dk d.dm ∧ p'.a = some ⟨p'.b, 0, none⟩ ∧ p'.o = 0 ∧ Below w.heap.size w w' ∧ w.heap.size ≤ p'.b := by
  have HB : Hid (∀ w', Below w.heap.size w w' → SlotAt w' p d) := fun w' hb => h1.below hb
  clear h1
  unfold sdv
  go_enter Try.func65, Try.ntmps65
  go_wp2_with fail
  refine (c15 d.k d.m _).mono ?_
  rintro e w1 ⟨rfl, hb1⟩
  have B1 := (bel3 w _ _ _).trans (hb1.mono (by simp; omega))
  have R1 := (((row9 w (.int .i64 d.k) (.string d.m) (.bool d.has) (.string d.v) (.slice p.a d.n p.c) (.int .i64 d.ver) (.int .i64 d.chg) (.int .i64 d.own) (.int .i64 d.sin) 94).alloc (.cells #[.int .i64 0, .string ByteArray.empty, .bool false, .string ByteArray.empty, .slice none 0 0, .int .i64 0, .int .i64 0, .int .i64 0, .int .i64 0] 40)).alloc (.cells #[.int .i64 0, .string ByteArray.empty, .bool false, .string ByteArray.empty, .slice none 0 0, .int .i64 0, .int .i64 0, .int .i64 0, .int .i64 0] 40)) |>.of_block (hb1.block _ (by simp; omega))
  have R2 := ((row9 (w.alloc (.cells #[.int .i64 d.k, .string d.m, .bool d.has, .string d.v, .slice p.a d.n p.c, .int .i64 d.ver, .int .i64 d.chg, .int .i64 d.own, .int .i64 d.sin] 94)) (.int .i64 0) (.string ByteArray.empty) (.bool false) (.string ByteArray.empty) (.slice none 0 0) (.int .i64 0) (.int .i64 0) (.int .i64 0) (.int .i64 0) 40).alloc (.cells #[.int .i64 0, .string ByteArray.empty, .bool false, .string ByteArray.empty, .slice none 0 0, .int .i64 0, .int .i64 0, .int .i64 0, .int .i64 0] 40)) |>.of_block (hb1.block _ (by simp))
  have R3 := (row9 ((w.alloc (.cells #[.int .i64 d.k, .string d.m, .bool d.has, .string d.v, .slice p.a d.n p.c, .int .i64 d.ver, .int .i64 d.chg, .int .i64 d.own, .int .i64 d.sin] 94)).alloc (.cells #[.int .i64 0, .string ByteArray.empty, .bool false, .string ByteArray.empty, .slice none 0 0, .int .i64 0, .int .i64 0, .int .i64 0, .int .i64 0] 40)) (.int .i64 0) (.string ByteArray.empty) (.bool false) (.string ByteArray.empty) (.slice none 0 0) (.int .i64 0) (.int .i64 0) (.int .i64 0) (.int .i64 0) 40) |>.of_block (hb1.block _ (by simp))
  simp only [World.size_alloc] at R2 R3
  obtain ⟨x0, x1, x2, x3, x4, x5, x6, x7, x8⟩ := nine_cells R1
  obtain ⟨y0, y1, y2, y3, y4, y5, y6, y7, y8⟩ := nine_cells R3
  obtain ⟨z0, z1, z2, z3, z4, z5, z6, z7, z8⟩ := nine_frozen R3
  clear hb1
  have HR : Hid (w1.rowIs w.heap.size 94 9 _ ∧ w1.rowIs (w.heap.size + 1) 40 9 _ ∧ w1.rowIs (w.heap.size + 1 + 1) 40 9 _) := ⟨R1, R2, R3⟩
  clear R1 R2 R3
  go_wp2_with fail
  have B2 := (((B1.setCell (p := ⟨w.heap.size + 1 + 1, 0, none⟩) (by show w.heap.size ≤ w.heap.size + 1 + 1; omega) (.int .i64 d.k)).setCell (p := ⟨w.heap.size + 1 + 1, 1, none⟩) (by show w.heap.size ≤ w.heap.size + 1 + 1; omega) (.string d.m)).setCell (p := ⟨w.heap.size + 1 + 1, 2, none⟩) (by show w.heap.size ≤ w.heap.size + 1 + 1; omega) (.bool d.has)).setCell (p := ⟨w.heap.size + 1 + 1, 3, none⟩) (by show w.heap.size ≤ w.heap.size + 1 + 1; omega) (.string d.v)
  refine (u68 p.a p.b p.o d.n p.c d.dk d.dm _ (by exact (HB.out _ B2).keys) hn).mono ?_
  rintro e w2 ⟨rfl, K2, hb2, hz2⟩
  obtain ⟨R1, R2, R3⟩ := HR.out
  have S1 := ((((R1.setOther (a := ⟨w.heap.size + 1 + 1, 0, none⟩) (by show w.heap.size ≠ w.heap.size + 1 + 1; omega) (.int .i64 d.k)).setOther (a := ⟨w.heap.size + 1 + 1, 1, none⟩) (by show w.heap.size ≠ w.heap.size + 1 + 1; omega) (.string d.m)).setOther (a := ⟨w.heap.size + 1 + 1, 2, none⟩) (by show w.heap.size ≠ w.heap.size + 1 + 1; omega) (.bool d.has)).setOther (a := ⟨w.heap.size + 1 + 1, 3, none⟩) (by show w.heap.size ≠ w.heap.size + 1 + 1; omega) (.string d.v))
  have S2 := ((((R2.setOther (a := ⟨w.heap.size + 1 + 1, 0, none⟩) (by show w.heap.size + 1 ≠ w.heap.size + 1 + 1; omega) (.int .i64 d.k)).setOther (a := ⟨w.heap.size + 1 + 1, 1, none⟩) (by show w.heap.size + 1 ≠ w.heap.size + 1 + 1; omega) (.string d.m)).setOther (a := ⟨w.heap.size + 1 + 1, 2, none⟩) (by show w.heap.size + 1 ≠ w.heap.size + 1 + 1; omega) (.bool d.has)).setOther (a := ⟨w.heap.size + 1 + 1, 3, none⟩) (by show w.heap.size + 1 ≠ w.heap.size + 1 + 1; omega) (.string d.v))
  have S3 := ((((R3.set 0 (.int .i64 d.k)).set 1 (.string d.m)).set 2 (.bool d.has)).set 3 (.string d.v)).congr (v9_all (a0 := .int .i64 d.k) (a1 := .string d.m) (a2 := .bool d.has) (a3 := .string d.v) (a4 := .slice none 0 0) (a5 := .int .i64 0) (a6 := .int .i64 0) (a7 := .int .i64 0) (a8 := .int .i64 0) rfl rfl rfl rfl rfl rfl rfl rfl rfl)
  have hzz : w.heap.size + 1 + 1 < w1.heap.size := World.block_lt_of_cell? _ _ y0
  have B3 := B2.trans (hb2.mono B2.size)
  have T1 := S1.of_block (hb2.block _ S1.lt)
  have T2 := S2.of_block (hb2.block _ S2.lt)
  have T3 := S3.of_block (hb2.block _ S3.lt)
  simp only [World.size_setCell] at K2 hz2
  clear R1 R2 R3 S1 S2 S3 hb2 HR x0 x1 x2 x3 x4 x5 x6 x7 x8 y0 y1 y2 y3 y4 y5 y6 y7 y8 z0 z1 z2 z3 z4 z5 z6 z7 z8 B1 B2
  obtain ⟨x0, x1, x2, x3, x4, x5, x6, x7, x8⟩ := nine_cells T1
  obtain ⟨y0, y1, y2, y3, y4, y5, y6, y7, y8⟩ := nine_cells T3
  obtain ⟨z0, z1, z2, z3, z4, z5, z6, z7, z8⟩ := nine_frozen T3
  obtain ⟨m0, m1, m2, m3, m4, m5, m6, m7, m8⟩ := nine_cells T2
  obtain ⟨l0, l1, l2, l3, l4, l5, l6, l7, l8⟩ := nine_frozen T2
  have HK : Hid (KeysRow w2 w1.heap.size d.n d.dk d.dm ∧ Below w.heap.size w w2) := ⟨by simpa using K2, B3⟩
  clear K2 B3 T1 T2 T3 hz2
  simp only [World.size_setCell]
  go_wp2_with fail
  refine bodyPost_ret (v := .agg #[.int .i64 d.k, .string d.m, .bool d.has, .string d.v, .slice (some ⟨w1.heap.size, 0, none⟩) d.n d.n, .int .i64 d.ver, .int .i64 d.chg, .int .i64 d.own, .int .i64 d.sin])
    (by simp [results, Try.results65, go_sem, m0, m1, m2, m3, m4, m5, m6, m7, m8]) rfl
    ⟨⟨some ⟨w1.heap.size, 0, none⟩, w1.heap.size, 0, d.n⟩, rfl, ?_, rfl, rfl, ?_, ?_⟩
  · repeat' (first | with_reducible exact HK.out.1 | refine KeysRow.set ?_ ?_ _)
    all_goals (simp; try omega)
  · repeat' (first | with_reducible exact HK.out.2 | refine Below.setCell ?_ ?_ _)
    all_goals (simp; try omega)
  · show w.heap.size ≤ w1.heap.size
    omega


/-- The row of new slots, its first k filled. -/
structure FillN (w wr : World) (n k : Nat) (p : Nat → SP) (D : Nat → SD) : Prop where
  below : Below w.heap.size w wr
  row : ∃ f, wr.rowIs w.heap.size 40 (n * 9) f ∧ ∀ i j, i < k → j < 9 → f (i * 9 + j) = sc (p i) (D i) j
  slot : ∀ i, i < k → KeysRow wr (p i).b (D i).n (D i).dk (D i).dm ∧ (p i).a = some ⟨(p i).b, 0, none⟩ ∧ (p i).o = 0 ∧ w.heap.size < (p i).b ∧ (p i).b < wr.heap.size
  dist : ∀ i j, i < k → j < k → i ≠ j → (p i).b ≠ (p j).b

theorem filln_start (w : World) (n : Nat) (p : Nat → SP) (D : Nat → SD) : FillN w (w.alloc (.cells (madeCells #[.int .i64 0, .string ByteArray.empty, .bool false, .string ByteArray.empty, .slice none 0 0, .int .i64 0, .int .i64 0, .int .i64 0, .int .i64 0] (n * 9)) 40)) n 0 p D :=
  ⟨(fill9_start w n p D).below, (fill9_start w n p D).row, fun _ hi => absurd hi (Nat.not_lt_zero _), fun _ _ hi => absurd hi (Nat.not_lt_zero _)⟩

theorem KeysRow.put {w : World} {b b' o n : Nat} {K : Nat → Int} {M : Nat → ByteArray} {p : SP} {d : SD} (h : KeysRow w b n K M) (hb : b ≠ b') : KeysRow (putSlot w b' o p d) b n K M := by
  unfold putSlot
  exact ((((((((h.set hb _).set hb _).set hb _).set hb _).set hb _).set hb _).set hb _).set hb _).set hb _

theorem size_put (w : World) (b o : Nat) (p : SP) (d : SD) : (putSlot w b o p d).heap.size = w.heap.size := by unfold putSlot; simp

theorem filln_step {w wr w' : World} {n k : Nat} {p : Nat → SP} {D : Nat → SD} (h : FillN w wr n k p D) (hb : Below wr.heap.size wr w') (q : SP) (hq : KeysRow w' q.b (D k).n (D k).dk (D k).dm) (ha : q.a = some ⟨q.b, 0, none⟩) (ho : q.o = 0) (h1 : wr.heap.size ≤ q.b) :
    FillN w (putSlot w' w.heap.size (k * 9) q (D k)) n (k + 1) (fun i => if i = k then q else p i) D := by
  obtain ⟨f, hf, hv⟩ := h.row
  have hlt := hf.lt
  refine ⟨putSlot_below (h.below.trans (hb.mono h.below.size)) (Nat.le_refl _), ⟨_, putSlot_row (hf.of_block (hb.block _ hlt)), fun i j hi hj => ?_⟩, fun i hi => ?_, fun i j hi hj hij => ?_⟩
  · by_cases e : i = k
    · subst e
      simp only [if_true]
      rw [if_pos (by omega), Nat.add_sub_cancel_left]
    · simp only [if_neg e]
      rw [if_neg (by omega)]
      exact hv i j (by omega) hj
  · by_cases e : i = k
    · subst e
      simp only [if_true]
      exact ⟨hq.put (by omega), ha, ho, by omega, by rw [size_put]; exact hq.lt⟩
    · obtain ⟨n1, n2, n3, n4, n5⟩ := h.slot i (by omega)
      simp only [if_neg e]
      exact ⟨(n1.of (hb.block _ n5)).put (by omega), n2, n3, n4, by rw [size_put]; have := hb.size; omega⟩
  · by_cases e : i = k
    · subst e
      simp only [if_true, if_neg (Ne.symm hij)]
      have := h.slot j (by omega); omega
    · by_cases e2 : j = k
      · subst e2
        simp only [if_true, if_neg e]
        have := h.slot i (by omega); omega
      · simp only [if_neg e, if_neg e2]
        exact h.dist i j (by omega) (by omega) hij

set_option maxHeartbeats 4000000 in
theorem u27 (ao : Option Addr) (b o n c : Nat) (p : Nat → SP) (D : Nat → SD) (w : World) (h1 : SlotsAt w ao b o n p D) (hn : n ≤ 1048576) (hG : ∀ i, i < n → (D i).n ≤ 1048576) :
    Calls Try.prog 36 #[.slice ao n c] w fun e w' => e = .returned (.slice (some ⟨w.heap.size, 0, none⟩) n n) ∧ ∃ p', TabNew w' w.heap.size w'.heap.size (some ⟨w.heap.size, 0, none⟩) w.heap.size n p' D ∧ (∀ i, i < n → (p' i).b ≠ w.heap.size) ∧ (∀ i, i < n → w.heap.size < (p' i).b) ∧ Below w.heap.size w w' ∧ w.heap.size < w'.heap.size := by
  have hmk := make9 n hn
  have HB : Hid (∀ w', Below w.heap.size w w' → SlotsAt w' ao b o n p D) := fun w' hb => h1.below hb
  have A1 := h1.at_
  have HG : Hid (∀ i, i < n → (D i).n ≤ 1048576) := hG
  clear h1 hG
  go_enter Try.func36, Try.ntmps36
  go_wp2
  clear hmk
  go_loopw [4] (fun i wr => ∃ (k : Nat) (q : Nat → SP), k ≤ n ∧ i = .int .i64 k ∧ FillN w wr n k q D) (fun i _ => n - (intOf i).toNat)
  case atStart => exact ⟨0, p, Nat.zero_le _, rfl, filln_start _ _ _ _⟩
  case round =>
    obtain ⟨k, q, hk, rfl, hF⟩ := hrel
    by_cases hlt : k < n
    · have e1 := A1 (by omega)
      have q1 := HB.out wr hF.below
      obtain ⟨x0, x1, x2, x3, x4, x5, x6, x7, x8⟩ := q1.nine k hlt
      have N1 := q1.slot k hlt
      clear q1 HB
      subst e1
      go_wp2_with fail
      refine (u49 (p k) (D k) _ N1 (HG.out k hlt)).mono ?_
      rintro e w' ⟨p', rfl, hq, hqa, hqo, hb', hp1⟩
      obtain ⟨f, hf, hv⟩ := hF.row
      have hr := hf.of_block (hb'.block _ hf.lt)
      obtain ⟨⟨s0, s1, s2, s3, s4, s5, s6, s7, s8⟩, ⟨t0, t1, t2, t3, t4, t5, t6, t7, t8⟩⟩ := nine_at hr (k * 9) (by omega)
      have HN := filln_step hF hb' p' hq hqa hqo hp1
      unfold putSlot at HN
      have HH : Hid (FillN w _ n (k + 1) _ D) := HN
      clear hF hr hf hv hq hqa hqo hb' hp1 N1 HN x0 x1 x2 x3 x4 x5 x6 x7 x8
      go_wp2
      go_roundw
      case rel => exact ⟨k + 1, _, by omega, by go_num, HH.out⟩
      case measure => simp [intOf]; omega
    · have hkn : k = n := by omega
      subst hkn
      have HE : Hid (∃ p', TabNew wr w.heap.size wr.heap.size (some ⟨w.heap.size, 0, none⟩) w.heap.size k p' D ∧ (∀ i, i < k → (p' i).b ≠ w.heap.size) ∧ (∀ i, i < k → w.heap.size < (p' i).b) ∧ Below w.heap.size w wr ∧ w.heap.size < wr.heap.size) := by
        obtain ⟨f, hf, hv⟩ := hF.row
        have hS := hF.slot
        refine ⟨q, ⟨fun _ => rfl, fun _ => ⟨_, f, hf, Nat.le_refl _, hv⟩, fun _ => ⟨Nat.le_refl _, hf.lt⟩, fun i hi => ?_, fun i j hi hj hij _ _ => hF.dist i j hi hj hij⟩, fun i hi => by have := hS i hi; omega, fun i hi => (hS i hi).2.2.2.1, hF.below, hf.lt⟩
        obtain ⟨n1, n2, n3, n4, n5⟩ := hS i hi
        exact ⟨⟨fun _ => n2, fun _ => n1, fun _ => by omega⟩, n3, fun _ => by omega⟩
      clear hF HB A1
      go_wp2
      go_ret
      exact ⟨rfl, HE.out⟩


set_option maxHeartbeats 1000000 in
theorem u8 (ao : Option Addr) (b o n c : Nat) (p : Nat → SP) (D : Nat → SD) (w : World) (h1 : SlotsAt w ao b o n p D) (hn : n ≤ 1048576) (hG : ∀ i, i < n → (D i).n ≤ 1048576) :
    Calls Try.prog 10 #[.agg #[.slice ao n c]] w fun e w' => ∃ b' p', e = .returned (.agg #[.slice (some ⟨b', 0, none⟩) n n]) ∧ TabNew w' w.heap.size w'.heap.size (some ⟨b', 0, none⟩) b' n p' D ∧ Below w.heap.size w w' := by
  have HB : Hid (∀ w', Below w.heap.size w w' → SlotsAt w' ao b o n p D) := fun w' hb => h1.below hb
  clear h1
  go_enter Try.func10, Try.ntmps10
  go_wp2_with fail
  refine (u27 ao b o n c p D _ (by exact HB.out _ (bel3 _ _ _ _)) hn hG).mono ?_
  rintro e w1 ⟨rfl, p', hN, hp0, hp, hb1, hz1⟩
  have B1 := (bel3 w _ _ _).trans (hb1.mono (by simp; omega))
  have r1 := (row1 (w.alloc (.cells #[.slice ao n c] 24)) (.slice none 0 0) 28)
  have r2 := (row1 ((w.alloc (.cells #[.slice ao n c] 24)).alloc (.cells #[.slice none 0 0] 28)) (.slice none 0 0) 28)
  have s1 := ((r1.alloc (.cells #[.slice none 0 0] 28))).of_block (hb1.block _ (by simp))
  have s2 := r2.of_block (hb1.block _ (by simp))
  simp only [World.size_alloc] at s1 s2 hN hp hp0 hz1
  have k0 := s1.cell (i := 0) (by omega)
  have k1 := s1.frozen 0
  have k2 := s2.cell (i := 0) (by omega)
  have k3 := s2.frozen 0
  clear hb1 s1 s2 r1 r2 HB
  go_wp2_with fail
  have e1 := (hN.set (a := ⟨w.heap.size + 1 + 1, 0, none⟩) (by show w.heap.size + 1 + 1 < w.heap.size + 1 + 1 + 1; omega) (.slice (some ⟨w.heap.size + 1 + 1 + 1, 0, none⟩) n n)).set (a := ⟨w.heap.size + 1, 0, none⟩) (by show w.heap.size + 1 < w.heap.size + 1 + 1 + 1; omega) (.slice (some ⟨w.heap.size + 1 + 1 + 1, 0, none⟩) n n)
  have hB := (B1.setCell (p := ⟨w.heap.size + 1 + 1, 0, none⟩) (by show w.heap.size ≤ w.heap.size + 1 + 1; omega) (.slice (some ⟨w.heap.size + 1 + 1 + 1, 0, none⟩) n n)).setCell (p := ⟨w.heap.size + 1, 0, none⟩) (by show w.heap.size ≤ w.heap.size + 1; omega) (.slice (some ⟨w.heap.size + 1 + 1 + 1, 0, none⟩) n n)
  exact bodyPost_ret (v := .agg #[.slice (some ⟨w.heap.size + 1 + 1 + 1, 0, none⟩) n n]) (by simp [results, Try.results10, go_sem, k0]) rfl ⟨w.heap.size + 1 + 1 + 1, p', rfl, e1.wide (by omega) (by simp), hB⟩


end Go.Proofs.Ytijgiingfgaakaa
