/-
  The contracts of the functions that copy, the last ones.
-/
import Derived.Test.YtfjfnfgaopdfeaaTo2
namespace Go.Proofs.Ytfjfnfgaopdfeaa
open Go.RowKit

theorem Try.info38 : (Try.prog.info? 38).map (fun i => (i.zero, i.size, i.bytes)) = some (some (.agg #[.int .i64 0, .slice none 0 0, .slice none 0 0]), 3, 56) := by kernel_rfl

theorem make3 (n : Nat) (hn : n ≤ 1048576) (w : World) :
    (Instr.makeSlice 27 (.int .i64 (n : Int)) (.int .i64 (n : Int))).run Try.prog w = .ok (.slice (some ⟨w.heap.size, 0, none⟩) n n) (w.alloc (.cells (madeCells #[.int .i64 0, .slice none 0 0, .slice none 0 0] (n * 3)) 38)) := by
  obtain ⟨i, hi, hzz⟩ := Option.map_eq_some_iff.1 Try.info38
  simp only [Prod.mk.injEq] at hzz
  obtain ⟨hz, hs, hb⟩ := hzz
  have hr := run_make (P := Try.prog) w 27 38 i _ Try.underlying27 hi hz .i64 .i64 n n (by omega) (Int.le_refl _) (by rw [hb]; omega) (by omega)
  rw [Int.toNat_natCast, hs] at hr
  exact hr

/-- The row of new nodes, its first k filled. -/
structure Fill3 (w wr : World) (n k : Nat) (p : Nat → NP) (G : Nat → ND) : Prop where
  below : Below w.heap.size w wr
  row : ∃ f, wr.rowIs w.heap.size 38 (n * 3) f ∧ ∀ i, i < k → f (i * 3) = .int .i64 (G i).kind ∧ f (i * 3 + 1) = .slice (p i).a1 (G i).nn (p i).c1 ∧ f (i * 3 + 2) = .slice (p i).a2 (G i).nk (p i).c2
  node : ∀ i, i < k → NodeAt wr (p i) (G i) ∧ w.heap.size < (p i).b1 ∧ w.heap.size < (p i).b2

theorem fill3_start (w : World) (n : Nat) (p : Nat → NP) (G : Nat → ND) : Fill3 w (w.alloc (.cells (madeCells #[.int .i64 0, .slice none 0 0, .slice none 0 0] (n * 3)) 38)) n 0 p G := by
  refine ⟨bel1 w _, ?_, fun i hi => absurd hi (Nat.not_lt_zero _)⟩
  have h := World.rowIs_alloc w (madeCells #[.int .i64 0, .slice none 0 0, .slice none 0 0] (n * 3)) 38 (fun i => (madeCells #[.int .i64 0, .slice none 0 0, .slice none 0 0] (n * 3))[i]!) (fun i hi => by simp [hi])
  rw [size_madeCells] at h
  exact ⟨_, h, fun i hi => absurd hi (Nat.not_lt_zero _)⟩

theorem fill3_step {w wr w' : World} {n k : Nat} {p : Nat → NP} {G : Nat → ND} (h : Fill3 w wr n k p G) (hb : Below wr.heap.size wr w') (q : NP) (hq : NodeAt w' q (G k)) (h1 : wr.heap.size ≤ q.b1) (h2 : wr.heap.size ≤ q.b2) :
    Fill3 w (((w'.setCell ⟨w.heap.size, k * 3, none⟩ (.int .i64 (G k).kind)).setCell ⟨w.heap.size, k * 3 + 1, none⟩ (.slice q.a1 (G k).nn q.c1)).setCell ⟨w.heap.size, k * 3 + 2, none⟩ (.slice q.a2 (G k).nk q.c2)) n (k + 1) (fun i => if i = k then q else p i) G := by
  obtain ⟨f, hf, hv⟩ := h.row
  have hlt := hf.lt
  refine ⟨((((h.below.trans (hb.mono h.below.size)).setCell (Nat.le_refl _) _).setCell (Nat.le_refl _) _).setCell (Nat.le_refl _) _), ⟨_, (((hf.of_block (hb.block _ hlt)).set (k * 3) _).set (k * 3 + 1) _).set (k * 3 + 2) _, fun i hi => ?_⟩, fun i hi => ?_⟩
  · by_cases e : i = k
    · subst e
      refine ⟨?_, ?_, ?_⟩
      · show (if i * 3 = i * 3 + 2 then _ else if i * 3 = i * 3 + 1 then _ else if i * 3 = i * 3 then _ else _) = _
        rw [if_neg (by omega), if_neg (by omega), if_pos rfl]
      · show (if i * 3 + 1 = i * 3 + 2 then _ else if i * 3 + 1 = i * 3 + 1 then _ else _) = _
        rw [if_neg (by omega), if_pos rfl, if_pos rfl]
      · show (if i * 3 + 2 = i * 3 + 2 then _ else _) = _
        rw [if_pos rfl, if_pos rfl]
    · obtain ⟨r0, r1, r2⟩ := hv i (by omega)
      refine ⟨?_, ?_, ?_⟩
      · show (if i * 3 = k * 3 + 2 then _ else if i * 3 = k * 3 + 1 then _ else if i * 3 = k * 3 then _ else f (i * 3)) = _
        rw [if_neg (by omega), if_neg (by omega), if_neg (by omega), r0]
      · show (if i * 3 + 1 = k * 3 + 2 then _ else if i * 3 + 1 = k * 3 + 1 then _ else if i * 3 + 1 = k * 3 then _ else f (i * 3 + 1)) = _
        rw [if_neg (by omega), if_neg (by omega), if_neg (by omega), r1, if_neg e]
      · show (if i * 3 + 2 = k * 3 + 2 then _ else if i * 3 + 2 = k * 3 + 1 then _ else if i * 3 + 2 = k * 3 then _ else f (i * 3 + 2)) = _
        rw [if_neg (by omega), if_neg (by omega), if_neg (by omega), r2, if_neg e]
  · have key : ∀ (x : NP) (d : ND), NodeAt w' x d → w.heap.size < x.b1 → w.heap.size < x.b2 →
        NodeAt (((w'.setCell ⟨w.heap.size, k * 3, none⟩ (.int .i64 (G k).kind)).setCell ⟨w.heap.size, k * 3 + 1, none⟩ (.slice q.a1 (G k).nn q.c1)).setCell ⟨w.heap.size, k * 3 + 2, none⟩ (.slice q.a2 (G k).nk q.c2)) x d := fun x d hx g1 g2 =>
      (((hx.set (a := ⟨w.heap.size, k * 3, none⟩) (by show x.b1 ≠ w.heap.size; omega) (by show x.b2 ≠ w.heap.size; omega) _).set (a := ⟨w.heap.size, k * 3 + 1, none⟩) (by show x.b1 ≠ w.heap.size; omega) (by show x.b2 ≠ w.heap.size; omega) _).set
        (a := ⟨w.heap.size, k * 3 + 2, none⟩) (by show x.b1 ≠ w.heap.size; omega) (by show x.b2 ≠ w.heap.size; omega) _)
    by_cases e : i = k
    · subst e
      simp only [if_true]
      exact ⟨key q _ hq (by omega) (by omega), by omega, by omega⟩
    · obtain ⟨n1, n2, n3⟩ := h.node i (by omega)
      simp only [if_neg e]
      exact ⟨key _ _ (n1.below hb) n2 n3, n2, n3⟩

set_option maxHeartbeats 1000000 in
theorem c11 (ao : Option Addr) (b o n c : Nat) (p : Nat → NP) (G : Nat → ND) (w : World) (h1 : NodesAt w ao b o n p G) (hn : n ≤ 1048576) (hG : ∀ i, i < n → (G i).nn ≤ 1048576 ∧ (G i).nk ≤ 1048576) :
    Calls Try.prog 11 #[.slice ao n c] w fun e w' => e = .returned (.slice (some ⟨w.heap.size, 0, none⟩) n n) ∧ (∃ p', NodesAt w' (some ⟨w.heap.size, 0, none⟩) w.heap.size 0 n p' G ∧ ∀ i, i < n → w.heap.size < (p' i).b1 ∧ w.heap.size < (p' i).b2) ∧ Below w.heap.size w w' ∧ w.heap.size < w'.heap.size := by
  have hmk := make3 n hn
  have HB : Hid (∀ w', Below w.heap.size w w' → NodesAt w' ao b o n p G) := fun w' hb => h1.below hb
  have A1 := h1.at_
  have HG : Hid (∀ i, i < n → (G i).nn ≤ 1048576 ∧ (G i).nk ≤ 1048576) := hG
  clear h1 hG
  go_enter Try.func11, Try.ntmps11
  go_wp2
  clear hmk
  go_loopw [4] (fun i wr => ∃ (k : Nat) (q : Nat → NP), k ≤ n ∧ i = .int .i64 k ∧ Fill3 w wr n k q G) (fun i _ => n - (intOf i).toNat)
  case atStart => exact ⟨0, p, Nat.zero_le _, rfl, fill3_start _ _ _ _⟩
  case round =>
    obtain ⟨k, q, hk, rfl, hF⟩ := hrel
    by_cases hlt : k < n
    · have e1 := A1 (by omega)
      have q1 := HB.out wr hF.below
      have g0 := q1.c0 k hlt
      have g1 := q1.c1 k hlt
      have g2 := q1.c2 k hlt
      have N1 := q1.node k hlt
      clear q1 HB
      subst e1
      go_wp2_with fail
      refine (c18 (p k) (G k) _ N1 (HG.out k hlt).1 (HG.out k hlt).2).mono ?_
      rintro e w' ⟨p', rfl, hq, hb', hp1, hp2⟩
      obtain ⟨f, hf, hv⟩ := hF.row
      have hr := hf.of_block (hb'.block _ hf.lt)
      have s0 := hr.cell (i := k * 3) (by omega)
      have s1 := hr.cell (i := k * 3 + 1) (by omega)
      have s2 := hr.cell (i := k * 3 + 2) (by omega)
      have t0 := hr.frozen (k * 3)
      have t1 := hr.frozen (k * 3 + 1)
      have t2 := hr.frozen (k * 3 + 2)
      have HN := fill3_step hF hb' p' hq hp1 hp2
      clear hF hr hf hv hq hb' hp1 hp2 N1
      go_wp2
      go_roundw
      case rel => exact ⟨k + 1, _, by omega, by go_num, HN⟩
      case measure => simp [intOf]; omega
    · have hkn : k = n := by omega
      subst hkn
      have HE : Hid ((∃ p', NodesAt wr (some ⟨w.heap.size, 0, none⟩) w.heap.size 0 k p' G ∧ ∀ i, i < k → w.heap.size < (p' i).b1 ∧ w.heap.size < (p' i).b2) ∧ Below w.heap.size w wr ∧ w.heap.size < wr.heap.size) := by
        obtain ⟨f, hf, hv⟩ := hF.row
        refine ⟨⟨q, ⟨fun _ => rfl, fun i hi => ?_, fun i hi => ?_, fun i hi => ?_, fun i hi => (hF.node i hi).1, by omega⟩, fun i hi => (hF.node i hi).2⟩, hF.below, hf.lt⟩
        · rw [Nat.zero_add, hf.cell (by omega), (hv i hi).1]
        · rw [Nat.zero_add, hf.cell (by omega), (hv i hi).2.1]
        · rw [Nat.zero_add, hf.cell (by omega), (hv i hi).2.2]
      clear hF HB A1
      go_wp2
      go_ret
      exact ⟨rfl, HE.out⟩

theorem NodesAt.set {w : World} {ao : Option Addr} {b o n : Nat} {p : Nat → NP} {G : Nat → ND} (h : NodesAt w ao b o n p G) {a : Addr} (ha : b ≠ a.block) (hp : ∀ i, i < n → (p i).b1 ≠ a.block ∧ (p i).b2 ≠ a.block) (v : Value) :
    NodesAt (w.setCell a v) ao b o n p G :=
  ⟨h.at_, fun i hi => by rw [World.cell?_setCell_other _ _ _ _ (fun e => ha (by have := congrArg Addr.block e; first | exact this | exact this.symm))]; exact h.c0 i hi,
    fun i hi => by rw [World.cell?_setCell_other _ _ _ _ (fun e => ha (by have := congrArg Addr.block e; first | exact this | exact this.symm))]; exact h.c1 i hi,
    fun i hi => by rw [World.cell?_setCell_other _ _ _ _ (fun e => ha (by have := congrArg Addr.block e; first | exact this | exact this.symm))]; exact h.c2 i hi,
    fun i hi => (h.node i hi).set (hp i hi).1 (hp i hi).2 v, h.len⟩

theorem row1 (w : World) (a : Value) (t : TypeId) : (w.alloc (.cells #[a] t)).rowIs w.heap.size t 1 (fun _ => a) :=
  World.rowIs_alloc w #[a] t _ (fun i hi => by
    match i, hi with
    | 0, _ => rfl)

set_option maxHeartbeats 1000000 in
theorem c6 (ao : Option Addr) (b o n c : Nat) (p : Nat → NP) (G : Nat → ND) (w : World) (h1 : NodesAt w ao b o n p G) (hn : n ≤ 1048576) (hG : ∀ i, i < n → (G i).nn ≤ 1048576 ∧ (G i).nk ≤ 1048576) :
    Calls Try.prog 6 #[.agg #[.slice ao n c]] w fun e w' => ∃ b' p', e = .returned (.agg #[.slice (some ⟨b', 0, none⟩) n n]) ∧ NodesAt w' (some ⟨b', 0, none⟩) b' 0 n p' G ∧ Below w.heap.size w w' := by
  have HB : Hid (∀ w', Below w.heap.size w w' → NodesAt w' ao b o n p G) := fun w' hb => h1.below hb
  clear h1
  go_enter Try.func6, Try.ntmps6
  go_wp2_with fail
  refine (c11 ao b o n c p G _ (by exact HB.out _ (bel3 _ _ _ _)) hn hG).mono ?_
  rintro e w1 ⟨rfl, ⟨p', hN, hp⟩, hb1, hz1⟩
  have B1 := (bel3 w _ _ _).trans (hb1.mono (by simp; omega))
  have r1 := (row1 (w.alloc (.cells #[.slice ao n c] 24)) (.slice none 0 0) 29)
  have r2 := (row1 ((w.alloc (.cells #[.slice ao n c] 24)).alloc (.cells #[.slice none 0 0] 29)) (.slice none 0 0) 29)
  have s1 := ((r1.alloc (.cells #[.slice none 0 0] 29))).of_block (hb1.block _ (by simp))
  have s2 := r2.of_block (hb1.block _ (by simp))
  simp only [World.size_alloc] at s1 s2 hN hp hz1
  have k0 := s1.cell (i := 0) (by omega)
  have k1 := s1.frozen 0
  have k2 := s2.cell (i := 0) (by omega)
  have k3 := s2.frozen 0
  clear hb1 s1 s2 r1 r2 HB
  go_wp2_with fail
  have e1 := (hN.set (a := ⟨w.heap.size + 1 + 1, 0, none⟩) (by show w.heap.size + 1 + 1 + 1 ≠ w.heap.size + 1 + 1; omega) (fun i hi => by have := hp i hi; exact ⟨by show (p' i).b1 ≠ w.heap.size + 1 + 1; omega, by show (p' i).b2 ≠ w.heap.size + 1 + 1; omega⟩)
    (.slice (some ⟨w.heap.size + 1 + 1 + 1, 0, none⟩) n n)).set (a := ⟨w.heap.size + 1, 0, none⟩) (by show w.heap.size + 1 + 1 + 1 ≠ w.heap.size + 1; omega) (fun i hi => by have := hp i hi; exact ⟨by show (p' i).b1 ≠ w.heap.size + 1; omega, by show (p' i).b2 ≠ w.heap.size + 1; omega⟩)
    (.slice (some ⟨w.heap.size + 1 + 1 + 1, 0, none⟩) n n)
  have hB := (B1.setCell (p := ⟨w.heap.size + 1 + 1, 0, none⟩) (by show w.heap.size ≤ w.heap.size + 1 + 1; omega) (.slice (some ⟨w.heap.size + 1 + 1 + 1, 0, none⟩) n n)).setCell (p := ⟨w.heap.size + 1, 0, none⟩) (by show w.heap.size ≤ w.heap.size + 1; omega) (.slice (some ⟨w.heap.size + 1 + 1 + 1, 0, none⟩) n n)
  exact bodyPost_ret (v := .agg #[.slice (some ⟨w.heap.size + 1 + 1 + 1, 0, none⟩) n n]) (by simp [results, Try.results6, go_sem, k0]) rfl ⟨w.heap.size + 1 + 1 + 1, p', rfl, e1, hB⟩

end Go.Proofs.Ytfjfnfgaopdfeaa
