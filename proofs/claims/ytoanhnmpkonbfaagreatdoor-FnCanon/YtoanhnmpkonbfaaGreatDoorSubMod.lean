/-
  The model's Sub: the pairs one after the other.
-/
import Derived.Test.YtoanhnmpkonbfaaGreatDoorSubDem
import Derived.Test.YtoanhnmpkonbfaaGreatDoorMH
import Derived.Test.YtoanhnmpkonbfaaGreatDoorSubImpl
import Derived.Deep.RegionHeld3
namespace Go.Proofs.YtoanhnmpkonbfaaGreatDoor
open Go.RowKit Go.Maps

theorem Tryz.infoBl : (Tryz.prog.info? 4).map (fun i => (i.zero, i.size, i.bytes)) = some (some (.bool false), 1, 1) := by kernel_rfl

/-- Where the model's walk stands. -/
structure SB (w : World) (b0 b2 N : Nat) (sl : Value) (ord : List (Nat × Nat)) (v : Value) (W : World) : Prop where
  b : Below w.heap.size w W
  g : W.cell? ⟨b0, 0, none⟩ = some sl
  own : W.ownsRow (b0 + 1) 67 2 v ord.length (pcells ord)
  met : W.rowIs b2 4 (N * N) (metv N ord)
  ne : v.ownBlock ≠ some b2
theorem SB.below {w W W' : World} {b0 b2 N : Nat} {sl v : Value} {ord : List (Nat × Nat)} (h : SB w b0 b2 N sl ord v W) (hb : Below W.heap.size W W') : SB w b0 b2 N sl ord v W' :=
  ⟨h.b.trans (hb.mono h.b.size), cell_on h.g hb, own_block h.own (fun k e => hb.block k (h.own.lt k e.symm).2), h.met.of_block (hb.block _ h.met.lt), h.ne⟩

/-- A pair more. -/
theorem SB.add {w W W3 : World} {b0 b2 N x y gg cap cap2 : Nat} {sl : Value} {oa : Option Addr} {ord : List (Nat × Nat)} {o : Obj} (h : SB w b0 b2 N sl ord (.slice oa ord.length cap) W) (hw : w.heap.size = b0) (h2 : b0 + 1 ≤ b2) (hy : y < N)
    (ho : W3.ownsRow (b0 + 1) 67 2 (.slice (some ⟨gg, 0, none⟩) (ord.length + 1) cap2) (ord.length + 1) (pcells ord ++ [.int .i64 (x : Int), .int .i64 (y : Int)]))
    (hg : ((W.setCell ⟨b2, x * N + y, none⟩ (.bool true)).alloc o).grownBy W3 (Value.slice oa ord.length cap).ownBlock) (hat : (Value.slice oa ord.length cap).ownBlock = some gg ∨ gg = W.heap.size + 1) :
    SB w b0 b2 N sl (ord ++ [(x, y)]) (.slice (some ⟨gg, 0, none⟩) (ord.length + 1) cap2) W3 ∧ ∀ k, k < W.heap.size → k ≠ b2 → some k ≠ (Value.slice oa ord.length cap).ownBlock → W3.heap[k]? = W.heap[k]? := by
  have hgs := hg.size
  have hml := h.met.lt
  have hob : ∀ k, some k = (Value.slice oa ord.length cap).ownBlock → b0 + 1 ≤ k := fun k e => (h.own.lt k e.symm).1
  have oth : ∀ k, k < W.heap.size → k ≠ b2 → some k ≠ (Value.slice oa ord.length cap).ownBlock → W3.heap[k]? = W.heap[k]? := fun k h3 h4 h5 => by
    rw [hg.block k (by simp; omega) h5, Below.heap_alloc _ _ _ (by simp; omega), Below.heap_setCell _ _ _ _ (by show k ≠ b2; exact h4)]
  have hne : some b2 ≠ (Value.slice oa ord.length cap).ownBlock := fun e => h.ne e.symm
  refine ⟨⟨⟨hg.os.trans h.b.os, hg.tape.trans h.b.tape, hg.output.trans h.b.output, ?_, fun k hk => ?_⟩, ?_, ?_, ?_, fun e => ?_⟩, oth⟩
  · have := h.b.size; simp at hgs; omega
  · have := h.b.size
    rw [oth k (by omega) (by omega) (fun e => by have := hob k e; omega), h.b.block k hk]
  · have hl := cell_lt' h.g
    rw [World.cell?_of_block (a := ⟨b0, 0, none⟩) (oth b0 hl (by omega) (fun e => by have := hob b0 e; omega))]
    exact h.g
  · rw [List.length_append, pcells_append]
    exact ho
  · have hb3 : W3.heap[b2]? = (W.setCell ⟨b2, x * N + y, none⟩ (.bool true)).heap[b2]? := by rw [hg.block b2 (by simp; omega) hne, Below.heap_alloc _ _ _ (by simpa using hml)]
    exact ((h.met.set (x * N + y) (.bool true)).of_block hb3).congr (fun i _ => metv_add hy i)
  · have e2 : gg = b2 := by simpa [Value.ownBlock] using e
    rcases hat with h4 | h4
    · rw [e2] at h4; exact h.ne h4
    · omega

/-- The demands of a pair in memory, apart from what is written. -/
structure LK (L : List (Nat × Nat)) (gl : Nat) (v : Value) (W : World) : Prop where
  c0 : ∀ j q, L[j]? = some q → W.cell? ⟨gl, j * 2, none⟩ = some (.int .i64 (q.1 : Int))
  c1 : ∀ j q, L[j]? = some q → W.cell? ⟨gl, j * 2 + 1, none⟩ = some (.int .i64 (q.2 : Int))
  ne : v.ownBlock ≠ some gl
theorem LK.same {L : List (Nat × Nat)} {gl : Nat} {v v' : Value} {W W' : World} (h : LK L gl v W) (hb : W'.heap[gl]? = W.heap[gl]?) (hn : v'.ownBlock ≠ some gl) : LK L gl v' W' :=
  ⟨fun j q hq => (World.cell?_of_block (a := ⟨gl, j * 2, none⟩) hb).trans (h.c0 j q hq), fun j q hq => (World.cell?_of_block (a := ⟨gl, j * 2 + 1, none⟩) hb).trans (h.c1 j q hq), hn⟩
theorem take_snoc {L : List (Nat × Nat)} {j : Nat} {q : Nat × Nat} (h : L[j]? = some q) : L.take (j + 1) = L.take j ++ [q] := by
  rw [List.take_add_one, h]; rfl

set_option maxRecDepth 100000 in
set_option maxHeartbeats 8000000 in
theorem m_sub {N gb go : Nat} {p : Nat → NP} {G : Nat → ND} (ao : Option Addr) (gc a b : Nat) (w : World) (h : NodesAt w ao gb go N p G) (ha : a < N) (hb : b < N) (hK : Kids N G) (hP : ∀ x, x < N → Plain (G x)) (hS : ∀ x, x < N → Srt (G x)) (hN : N ≤ 4000) (hn : ∀ x, x < N → (G x).nn ≤ 1048576) :
    Calls Tryz.prog 29 #[.agg #[.slice ao N gc], .int .i64 (a : Int), .int .i64 (b : Int)] w fun e w' => ∃ r, e = .returned (.bool r) ∧ (r = true ↔ SubP G a b) ∧ Below w.heap.size w w' := by
  obtain ⟨i0, hi0, hz0, hz1, hz2⟩ := info_parts Tryz.infoDm
  obtain ⟨sl, hsl⟩ : ∃ sl : Value, sl = .slice ao N gc := ⟨_, rfl⟩
  have HG : Hid (∀ W, Below w.heap.size w W → NodesAt W ao gb go N p G) := fun W hW => h.below hW
  have HK : Hid (Kids N G ∧ (∀ x, x < N → Plain (G x)) ∧ (∀ x, x < N → Srt (G x)) ∧ (∀ x, x < N → (G x).nn ≤ 1048576)) := ⟨hK, hP, hS, hn⟩
  obtain ⟨M, hM⟩ : ∃ M, M = N * N := ⟨_, rfl⟩
  have hMb : M ≤ 16000000 := by rw [hM]; exact Nat.mul_le_mul hN hN
  have hMi : ((N : Int)) * (N : Int) = (M : Int) := by rw [hM]; push_cast; rfl
  have hmk := run_make_row' (P := Tryz.prog) 30 4 (.bool false) 1 Tryz.underlying30 Tryz.infoBl rfl .i64 .i64 M (by omega) (by omega)
  have hab : a * N + b < M := by rw [hM]; exact Nat.lt_of_lt_of_le (Nat.add_lt_add_left hb _) (by rw [← Nat.succ_mul]; exact Nat.mul_le_mul_right _ ha)
  obtain ⟨AB, hAB⟩ : ∃ AB, AB = a * N + b := ⟨_, rfl⟩
  have hABi : (a : Int) * (N : Int) + (b : Int) = (AB : Int) := by rw [hAB]; push_cast; rfl
  have hAN : (a : Int) * (N : Int) ≤ 16000000 := by
    have h1 : a * N ≤ M := by omega
    have h2 : ((a * N : Nat) : Int) ≤ (M : Int) := by omega
    push_cast at h2
    omega
  have hAN0 : (0 : Int) ≤ (a : Int) * (N : Int) := Int.mul_nonneg (by omega) (by omega)
  have hMM : (N : Int) * (N : Int) ≤ 16000000 := by rw [hMi]; omega
  have hMM0 : (0 : Int) ≤ (N : Int) * (N : Int) := Int.mul_nonneg (by omega) (by omega)
  rw [← hAB] at hab
  have habi : (AB : Int) < (M : Int) := by omega
  have HM : Hid (M = N * N ∧ AB = a * N + b) := ⟨hM, hAB⟩
  clear h hK hP hS hn hM hAB
  obtain ⟨W1, hW1⟩ : ∃ W1, W1 = (w.alloc (.cells #[.slice ao N gc] 25)).alloc (.cells #[.int .i64 (a : Int), .int .i64 (b : Int)] 67) := ⟨_, rfl⟩
  obtain ⟨W2, hW2⟩ : ∃ W2, W2 = W1.alloc (.cells (madeCells #[.bool false] M) 4) := ⟨_, rfl⟩
  have z1 : W1.heap.size = w.heap.size + 1 + 1 := by rw [hW1]; simp
  have B1 : Below w.heap.size w W1 := by rw [hW1]; exact bel2 _ _ _
  have B2 : Below w.heap.size w W2 := by rw [hW2]; exact B1.trans ((bel1 _ _).mono B1.size)
  have RM : W2.rowIs (w.heap.size + 1 + 1) 4 M (fun _ => .bool false) := by
    have z := World.rowIs_made W1 (.bool false) M 4
    rw [← hW2, z1] at z; exact z
  have RG : W2.rowIs w.heap.size 25 1 (fun _ => .slice ao N gc) := by
    have z := (row1 w (.slice ao N gc) 25).alloc (.cells #[.int .i64 (a : Int), .int .i64 (b : Int)] 67)
    rw [← hW1] at z
    rw [hW2]; exact z.alloc _
  have OA : W2.ownsRow (w.heap.size + 1) 67 2 (.slice (some ⟨w.heap.size + 1, 0, none⟩) 1 1) 1 (pcells [(a, b)]) := by
    have z := World.ownsRow_lit (base := w.heap.size + 1) (e := 67) (size := 2) (w.alloc (.cells #[.slice ao N gc] 25)) #[.int .i64 (a : Int), .int .i64 (b : Int)] 1 (by simp) (by unfold maxLen; omega) rfl
    rw [World.size_alloc] at z
    rw [← hW1] at z
    rw [hW2]
    exact (z.alloc _)
  have OA2 : ∀ (u : Value), (W2.setCell ⟨w.heap.size + 1 + 1, AB, none⟩ u).ownsRow (w.heap.size + 1) 67 2 (.slice (some ⟨w.heap.size + 1, 0, none⟩) 1 1) 1 (pcells [(a, b)]) := fun u => own_block OA (fun k e => Below.heap_setCell _ _ _ _ (by
    have : w.heap.size + 1 = k := by simpa [Value.ownBlock] using e.symm
    show k ≠ w.heap.size + 1 + 1
    omega))
  have HSB : Hid (SB w w.heap.size (w.heap.size + 1 + 1) N sl [(a, b)] (.slice (some ⟨w.heap.size + 1, 0, none⟩) 1 1) (W2.setCell ⟨w.heap.size + 1 + 1, AB, none⟩ (.bool true))) := by
    refine ⟨B2.setCell (p := ⟨w.heap.size + 1 + 1, AB, none⟩) (by show w.heap.size ≤ w.heap.size + 1 + 1; omega) _, ?_, OA2 _, ?_, ?_⟩
    · rw [hsl, World.cell?_of_block (a := ⟨w.heap.size, 0, none⟩) (Below.heap_setCell _ _ _ _ (by show w.heap.size ≠ w.heap.size + 1 + 1; omega))]
      exact RG.cell (i := 0) (by omega)
    · rw [← HM.out.1]
      refine (RM.set AB (.bool true)).congr (fun i _ => ?_)
      have h0 := metv_add (N := N) (x := a) (y := b) (ord := []) hb i
      rw [← HM.out.2] at h0
      exact h0
    · intro e
      simp [Value.ownBlock] at e
  have c0 : (((w.alloc (.cells #[.slice ao N gc] 25)).alloc (.cells #[.int .i64 (a : Int), .int .i64 (b : Int)] 67)).alloc (.cells (madeCells #[.bool false] M) 4)).cell? ⟨w.heap.size + 1 + 1, AB, none⟩ = some (.bool false) := by
    have := RM.cell (i := AB) hab
    rw [hW2, hW1] at this; exact this
  have c1 : (((w.alloc (.cells #[.slice ao N gc] 25)).alloc (.cells #[.int .i64 (a : Int), .int .i64 (b : Int)] 67)).alloc (.cells (madeCells #[.bool false] M) 4)).frozen? ⟨w.heap.size + 1 + 1, AB, none⟩ = false := by
    have := RM.frozen AB
    rw [hW2, hW1] at this; exact this
  have HW2 : Hid (W2 = (((w.alloc (.cells #[.slice ao N gc] 25)).alloc (.cells #[.int .i64 (a : Int), .int .i64 (b : Int)] 67)).alloc (.cells (madeCells #[.bool false] M) 4))) := by rw [hW2, hW1]; rfl
  obtain ⟨b0, hb0⟩ : ∃ b0, b0 = w.heap.size := ⟨_, rfl⟩
  obtain ⟨b2, hb2⟩ : ∃ b2, b2 = w.heap.size + 1 + 1 := ⟨_, rfl⟩
  have HB : Hid (b0 = w.heap.size ∧ b2 = b0 + 2) := ⟨hb0, by omega⟩
  obtain ⟨W3, hW3⟩ : ∃ W3, W3 = W2.setCell ⟨w.heap.size + 1 + 1, AB, none⟩ (.bool true) := ⟨_, rfl⟩
  rw [← hW3, ← hb2] at HSB
  rw [← hb0] at HSB
  have HSL : Hid (sl = .slice ao N gc) := hsl
  have HW3 : Hid (W3 = (((w.alloc (.cells #[.slice ao N gc] 25)).alloc (.cells #[.int .i64 (a : Int), .int .i64 (b : Int)] 67)).alloc (.cells ((madeCells #[.bool false] M).setIfInBounds AB (.bool true)) 4))) := by
    rw [hW3, hW2, hW1]
    exact World.setCell_alloc_at _ _ _ _ _ (by simp)
  clear RM RG OA OA2 B1 B2 z1 hW1 hW2 hsl W1 hW3
  go_enter Tryz.func29, Tryz.ntmps29
  go_wp2_with fail
  rw [← HW3.out, ← hb2, ← hb0]
  clear c0 c1 HW2 hb0 hb2 hmk HW3
  go_loopw [7, 10] (fun v i wr => ∃ (k : Nat) (ord : List (Nat × Nat)) (oa : Option Addr) (cap : Nat), k ≤ ord.length ∧ ord.length ≤ M ∧ i = .int .i64 (k : Int) ∧ v = .slice oa ord.length cap ∧ Hid (SB w b0 b2 N sl ord (.slice oa ord.length cap) wr) ∧ Hid (SInv N G a b ord k)) (fun _ i _ => M - (intOf i).toNat)
  case atStart => exact ⟨0, [(a, b)], _, _, Nat.zero_le _, by show 1 ≤ M; omega, rfl, rfl, HSB, SInv.start ha hb⟩
  case round =>
    obtain ⟨k, ord, oa, cap, hk, hoM, rfl, rfl, HS, HI⟩ := hrel
    obtain ⟨m, hm⟩ : ∃ m, m = ord.length := ⟨_, rfl⟩
    rw [← hm] at hk hoM HS ⊢
    have HMm : Hid (m = ord.length) := hm
    clear hm
    by_cases hlt : k < m
    · obtain ⟨x, y, hxy⟩ : ∃ x y, ord[k]? = some (x, y) := ⟨_, _, List.getElem?_eq_getElem (by rw [← HMm.out]; exact hlt)⟩
      obtain ⟨g, rfl⟩ : ∃ g, oa = some ⟨g, 0, none⟩ := by
        rcases HS.out.own.2 with ⟨h1, h2⟩ | ⟨g, c, _, h1, _⟩
        · rw [← HMm.out] at h2; omega
        · simp only [Value.slice.injEq] at h1; exact ⟨g, h1.1⟩
      have HQ : Hid (ord[k]? = some (x, y)) := hxy
      have hxN : x < N ∧ y < N := HI.out.bound _ (List.mem_of_getElem? hxy)
      obtain ⟨ec1, ec2⟩ := pcells_at hxy
      have HZ : Hid (∀ W, Below wr.heap.size wr W → W.cell? ⟨b0, 0, none⟩ = some sl ∧ W.cell? ⟨g, k * 2, none⟩ = some (.int .i64 (x : Int)) ∧ W.cell? ⟨g, k * 2 + 1, none⟩ = some (.int .i64 (y : Int))) := fun W hW => by
        have h1 : wr.ownsRow (b0 + 1) 67 2 (.slice (some ⟨g, 0, none⟩) ord.length cap) ord.length (pcells ord) := by
          have := HS.out.own
          rw [HMm.out] at this; exact this
        have hl : k < ord.length := by rw [← HMm.out]; exact hlt
        have q1 : wr.cell? ⟨g, k * 2, none⟩ = some (.int .i64 (x : Int)) := by rw [h1.cellAt (k * 2) (by omega)]; exact ec1
        have q2 : wr.cell? ⟨g, k * 2 + 1, none⟩ = some (.int .i64 (y : Int)) := by rw [h1.cellAt (k * 2 + 1) (by omega)]; exact ec2
        exact ⟨cell_on HS.out.g hW, cell_on q1 hW, cell_on q2 hW⟩
      have CD : Hid (∀ W, Below wr.heap.size wr W → Calls Tryz.prog 47 #[.agg #[sl], .agg #[.int .i64 (x : Int), .int .i64 (y : Int)]] W fun e w' => ∃ v c, e = .returned (.tuple #[v, .bool c]) ∧ Hid ((c = true ↔ Can (G x) (G y)) ∧ (Can (G x) (G y) → w'.ownsRow W.heap.size 67 2 v (demL (G x) (G y)).length (pcells (demL (G x) (G y)))) ∧ Below wr.heap.size wr w' ∧ wr.heap.size ≤ W.heap.size)) := fun W hW => by
        rw [HSL.out]
        refine (m_dem ao gc x y W (HG.out W (HS.out.b.trans (hW.mono HS.out.b.size))) hxN.1 hxN.2 HK.out.1 HK.out.2.1 HK.out.2.2.2).mono ?_
        rintro e w' ⟨v, c, h1, h2, h3, h4⟩
        exact ⟨v, c, h1, h2, h3, hW.trans (h4.mono hW.size), hW.size⟩
      clear hxy ec1 ec2
      obtain ⟨f0, f1, f2⟩ := HZ.out wr (Below.refl _ _)
      have hki : (k : Int) < (m : Int) := by omega
      have hk0 : (0 : Int) ≤ (k : Int) := by omega
      go_wp2_with fail
      go_region_held3 (fun w' => w'.cell? ⟨b0, 0, none⟩ = some sl ∧ w'.cell? ⟨g, k * 2, none⟩ = some (.int .i64 (x : Int)) ∧ w'.cell? ⟨g, k * 2 + 1, none⟩ = some (.int .i64 (y : Int))) (go_keep)
        (first | (go_at_call 47; (with_reducible refine (CD.out _ (Below.refl _ _).drew).mono ?_); rintro e w5 ⟨v, c, rfl, H5⟩; obtain ⟨u0, u1, u2⟩ := HZ.out w5 H5.out.2.2.1))
      all_goals
        clear f0 f1 f2 u0 u1 u2
        cases c
        · have hno : ¬ SubP G a b := HI.out.no HQ.out (fun h => by have := H5.out.1.2 h; cases this)
          have HE : Hid (∃ r, Ending.returned (Value.bool false) = .returned (.bool r) ∧ (r = true ↔ SubP G a b) ∧ Below w.heap.size w w5) := ⟨false, rfl, ⟨fun h => (by cases h), fun h => absurd h hno⟩, HS.out.b.trans (H5.out.2.2.1.mono HS.out.b.size)⟩
          clear hno
          go_wp2
          go_ret
          exact HE.out
        · have hcan : Can (G x) (G y) := H5.out.1.1 rfl
          obtain ⟨L, hL⟩ : ∃ L, L = demL (G x) (G y) := ⟨_, rfl⟩
          have O5 := H5.out.2.1 hcan
          rw [← hL] at O5
          have hLlt : ∀ q, q ∈ L → q.1 < N ∧ q.2 < N := fun q hq => demL_lt HK.out.1 HK.out.2.1 hxN.1 hxN.2 hcan (by rw [← hL]; exact hq)
          have HNX : Hid (SInv N G a b (addAll ord L) (k + 1)) := by rw [hL]; exact sinv_all HI.out HK.out.1 HK.out.2.1 HQ.out hcan
          have HLL : Hid (∀ q, q ∈ L → q.1 < N ∧ q.2 < N) := hLlt
          obtain ⟨oL, cL, rfl⟩ := own_form O5
          have HSB5 : Hid (SB w b0 b2 N sl ord (.slice (some ⟨g, 0, none⟩) m cap) w5) := HS.out.below H5.out.2.2.1
          have hgl : ∃ gl, (0 < L.length → oL = some ⟨gl, 0, none⟩) ∧ LK L gl (.slice (some ⟨g, 0, none⟩) m cap) w5 ∧ gl ≠ b2 ∧ (0 < L.length → gl < w5.heap.size) := by
            have hg1 : g < wr.heap.size := (HS.out.own.lt g rfl).2
            have hb1 : b2 < wr.heap.size := HS.out.met.lt
            have hw := H5.out.2.2.2
            have hw5 := H5.out.2.2.1.size
            rcases O5.2 with ⟨h1, h2⟩ | ⟨gl, cc, cur, h1, h2, h3, _⟩
            · have e0 : L = [] := List.length_eq_zero_iff.1 h2
              subst e0
              exact ⟨w5.heap.size, fun h => absurd h (by simp), ⟨fun j q hq => by simp at hq, fun j q hq => by simp at hq, fun e => by simp [Value.ownBlock] at e; omega⟩, by omega, fun h => absurd h (by simp)⟩
            · simp only [Value.slice.injEq] at h1
              obtain ⟨rfl, _, rfl⟩ := h1
              refine ⟨gl, fun _ => rfl, ⟨fun j q hq => ?_, fun j q hq => ?_, fun e => ?_⟩, by omega, fun _ => (Array.getElem?_eq_some_iff.1 h3).1⟩
              · have hj : j < L.length := (List.getElem?_eq_some_iff.1 hq).1
                rw [O5.cellAt (j * 2) (by omega)]; exact (pcells_at hq).1
              · have hj : j < L.length := (List.getElem?_eq_some_iff.1 hq).1
                rw [O5.cellAt (j * 2 + 1) (by omega)]; exact (pcells_at hq).2
              · have : g = gl := by simpa [Value.ownBlock] using e
                omega
          obtain ⟨gl, hgl1, hgl2, hgl3, hgl4⟩ := hgl
          have HGL : Hid ((0 < L.length → oL = some ⟨gl, 0, none⟩) ∧ gl ≠ b2 ∧ (0 < L.length → gl < w5.heap.size)) := ⟨hgl1, hgl3, hgl4⟩
          have HLK5 : Hid (LK L gl (.slice (some ⟨g, 0, none⟩) m cap) w5) := hgl2
          obtain ⟨nL, hnL⟩ : ∃ nL, nL = L.length := ⟨_, rfl⟩
          have HNL : Hid (nL = L.length) := hnL
          rw [← hnL]
          have hnLb : nL ≤ 9223372036854775807 := by
            have := O5.2
            rcases this with ⟨_, h2⟩ | ⟨_, cc, _, h1, _, _, h4, h5, _⟩
            · omega
            · simp only [Value.slice.injEq] at h1
              unfold maxLen at h5
              omega
          clear O5 hgl1 hgl2 hgl3 hgl4 hLlt hcan hnL hL CD HZ
          go_wp2_with fail
          go_loopw [7, 13] (fun v i wq => ∃ (j : Nat) (oj : List (Nat × Nat)) (ob : Option Addr) (cb : Nat), j ≤ nL ∧ i = .int .i64 (j : Int) ∧ v = .slice ob oj.length cb ∧ Hid (oj = addAll ord (L.take j)) ∧ Hid (SB w b0 b2 N sl oj (.slice ob oj.length cb) wq) ∧ Hid (LK L gl (.slice ob oj.length cb) wq) ∧ Hid (w5.heap.size ≤ wq.heap.size)) (fun _ i _ => nL - (intOf i).toNat)
          case atStart => exact ⟨0, ord, _, _, Nat.zero_le _, rfl, by rw [← HMm.out], rfl, by rw [← HMm.out]; exact HSB5, by rw [← HMm.out]; exact HLK5, Nat.le_refl _⟩
          case round =>
            obtain ⟨j, oj, ob, cb, hj, rfl, rfl, HOJ, HSj, HLj, HWj⟩ := hrel
            obtain ⟨mj, hmj⟩ : ∃ mj, mj = oj.length := ⟨_, rfl⟩
            rw [← hmj] at HSj HLj ⊢
            have HMJ : Hid (mj = oj.length) := hmj
            clear hmj
            by_cases hjl : j < nL
            · obtain ⟨qx, qy, hq⟩ : ∃ qx qy, L[j]? = some (qx, qy) := ⟨_, _, List.getElem?_eq_getElem (by rw [← HNL.out]; exact hjl)⟩
              obtain ⟨hqx, hqy⟩ := HLL.out _ (List.mem_of_getElem? hq)
              have eL := HGL.out.1 (by rw [← HNL.out]; omega)
              subst eL
              have r0 := HLj.out.c0 j _ hq
              have r1 := HLj.out.c1 j _ hq
              have HQJ : Hid (L[j]? = some (qx, qy)) := hq
              have hAT : qx * N + qy < M := by rw [HM.out.1]; exact Nat.lt_of_lt_of_le (Nat.add_lt_add_left hqy _) (by rw [← Nat.succ_mul]; exact Nat.mul_le_mul_right _ hqx)
              obtain ⟨AT, hATe⟩ : ∃ AT, AT = qx * N + qy := ⟨_, rfl⟩
              have hATi : (qx : Int) * (N : Int) + (qy : Int) = (AT : Int) := by rw [hATe]; push_cast; rfl
              have hQN : (qx : Int) * (N : Int) ≤ 16000000 := by
                have h1 : qx * N ≤ M := by omega
                have h2 : ((qx * N : Nat) : Int) ≤ (M : Int) := by omega
                push_cast at h2
                omega
              have hQN0 : (0 : Int) ≤ (qx : Int) * (N : Int) := Int.mul_nonneg (by omega) (by omega)
              rw [← hATe] at hAT
              have hATm : (AT : Int) < (M : Int) := by omega
              have HAT : Hid (AT = qx * N + qy) := hATe
              have mt : wr.cell? ⟨b2, AT, none⟩ = some (.bool (decide ((qx, qy) ∈ oj))) := by
                have h1 := HSj.out.met.cell (i := AT) (by rw [← HM.out.1]; exact hAT)
                rw [hATe, metv_at hqy] at h1
                rw [hATe]; exact h1
              have mf := HSj.out.met.frozen AT
              have hji : (j : Int) < (nL : Int) := by omega
              have hj0 : (0 : Int) ≤ (j : Int) := by omega
              clear hq hATe HSB5 HLK5
              by_cases hin : (qx, qy) ∈ oj
              · rw [decide_eq_true hin] at mt
                have HOJ2 : Hid (oj = addAll ord (L.take (j + 1))) := by
                  have e1 : addAll ord (L.take (j + 1)) = addP (addAll ord (L.take j)) (qx, qy) := by rw [take_snoc HQJ.out, addAll_snoc]
                  show oj = _
                  rw [e1, ← HOJ.out]
                  unfold addP
                  rw [if_pos (by simpa using hin)]
                clear hin
                go_wp2_with fail
                go_quiet (fail)
                have HSN : Hid (SB w b0 b2 N sl oj (.slice ob oj.length cb) (wr.drewN nq)) := by
                  have h1 : SB w b0 b2 N sl oj (.slice ob mj cb) (wr.drewN nq) := HSj.out.below ⟨rfl, rfl, rfl, Nat.le_refl _, fun _ _ => rfl⟩
                  rw [HMJ.out] at h1; exact h1
                have HLN : Hid (LK L gl (.slice ob oj.length cb) (wr.drewN nq)) := by
                  have h1 : LK L gl (.slice ob mj cb) (wr.drewN nq) := HLj.out.same rfl HLj.out.ne
                  rw [HMJ.out] at h1; exact h1
                clear r0 r1
                go_wp2
                go_roundw
                case rel => exact ⟨j + 1, oj, ob, cb, by omega, by go_num, by rw [HMJ.out], HOJ2, HSN, HLN, HWj⟩
                case measure => simp [intOf]; omega
              · rw [decide_eq_false hin] at mt
                have HNI : Hid ((qx, qy) ∉ oj) := hin
                clear hin
                go_wp2_with fail
                go_quiet (fail)
                obtain ⟨wz, hwz⟩ : ∃ wz, wz = wr.drewN nq := ⟨_, rfl⟩
                rw [← hwz]
                have HSz : Hid (SB w b0 b2 N sl oj (.slice ob mj cb) wz) := by rw [hwz]; exact HSj.out.below ⟨rfl, rfl, rfl, Nat.le_refl _, fun _ _ => rfl⟩
                have HLz : Hid (LK L gl (.slice ob mj cb) wz) := by rw [hwz]; exact HLj.out.same rfl HLj.out.ne
                have HWz : Hid (w5.heap.size ≤ wz.heap.size) := by rw [hwz]; exact HWj.out
                have mt2 : wz.cell? ⟨b2, AT, none⟩ = some (.bool false) := by rw [hwz]; exact mt
                have mf2 : wz.frozen? ⟨b2, AT, none⟩ = false := by rw [hwz]; exact mf
                have r2 : wz.cell? ⟨gl, j * 2, none⟩ = some (.int .i64 (qx : Int)) := by rw [hwz]; exact r0
                have r3 : wz.cell? ⟨gl, j * 2 + 1, none⟩ = some (.int .i64 (qy : Int)) := by rw [hwz]; exact r1
                have ngb : ¬ gl = b2 := HGL.out.2.1
                have O6 : (wz.setCell ⟨b2, AT, none⟩ (.bool true)).ownsRow (b0 + 1) 67 2 (.slice ob mj cb) mj (pcells oj) := by
                  have h1 := HSz.out.own
                  rw [← HMJ.out] at h1
                  exact own_block h1 (fun k e => Below.heap_setCell _ _ _ _ (by
                    show k ≠ b2
                    intro e2
                    rw [e2] at e
                    exact HSz.out.ne e.symm))
                have hb0z : b0 + 1 ≤ wz.heap.size := by
                  have h1 := HSz.out.met.lt
                  have := HB.out
                  omega
                have hmjM : mj ≤ 16000000 := by
                  have h1 : oj.length ≤ (addAll ord L).length := by
                    have h2 := addAll_len (addAll ord (L.take j)) (L.drop j)
                    have h3 : addAll (addAll ord (L.take j)) (L.drop j) = addAll ord L := by unfold addAll; rw [← List.foldl_append, List.take_append_drop]
                    rw [h3, ← HOJ.out] at h2; exact h2
                  have h4 := HNX.out.len
                  rw [← HM.out.1] at h4
                  rw [HMJ.out]; omega
                clear mt mf r0 r1 hwz HSj HLj HWj
                go_wp2_with (first | (at_builtin; refine wpList_append_lies _ rfl _ _ 68 rfl (b0 + 1) 67 i0 _ 2 16 Tryz.underlying68 hi0 hz0 hz1 hz2 rfl (by omega) (.slice ob mj cb) mj (pcells oj) rfl (O6.alloc _) ⟨wz.heap.size, 0, none⟩ 1 1 [.int .i64 (qx : Int), .int .i64 (qy : Int)] rfl rfl (World.news_of_block (cs := #[.int .i64 (qx : Int), .int .i64 (qy : Int)]) (t := 67) (fr := (0, 0)) (by have := heap_alloc_new (wz.setCell ⟨b2, AT, none⟩ (.bool true)) (.cells #[.int .i64 (qx : Int), .int .i64 (qy : Int)] 67); simpa using this)) (by simp [Value.oneCell']) (by omega) (by unfold maxLen; omega) (by omega) (by simp; omega) (wz.heap.size + 1) (by simp) ?_; intro gg cap3 w7 hown7 hg7 hat7 hlt7))
                have HA7 : Hid (SB w b0 b2 N sl (oj ++ [(qx, qy)]) (.slice (some ⟨gg, 0, none⟩) (mj + 1) cap3) w7 ∧ LK L gl (.slice (some ⟨gg, 0, none⟩) (mj + 1) cap3) w7 ∧ w5.heap.size ≤ w7.heap.size) := by
                  have h1 := HSz.out
                  have e1 := HMJ.out
                  have e2 := HAT.out
                  subst e1
                  subst e2
                  have h2 := h1.add HB.out.1.symm (by have := HB.out; omega) hqy hown7 hg7 hat7
                  have hgl : gl < wz.heap.size := Nat.lt_of_lt_of_le (HGL.out.2.2 (by rw [← HNL.out]; omega)) HWz.out
                  refine ⟨h2.1, HLz.out.same (h2.2 gl hgl HGL.out.2.1 (fun e => HLz.out.ne e.symm)) (fun e => ?_), ?_⟩
                  · have e3 : gg = gl := by simpa [Value.ownBlock] using e
                    rcases hat7 with h5 | h5
                    · rw [e3] at h5; exact HLz.out.ne h5
                    · omega
                  · have h5 := hg7.size
                    have h6 := HWz.out
                    simp at h5
                    omega
                have HOJ2 : Hid (oj ++ [(qx, qy)] = addAll ord (L.take (j + 1))) := by
                  have e1 : addAll ord (L.take (j + 1)) = addP (addAll ord (L.take j)) (qx, qy) := by rw [take_snoc HQJ.out, addAll_snoc]
                  show oj ++ [(qx, qy)] = _
                  rw [e1, ← HOJ.out]
                  unfold addP
                  rw [if_neg (by simpa using HNI.out)]
                have HLE : Hid ((oj ++ [(qx, qy)]).length = mj + 1) := by
                  show (oj ++ [(qx, qy)]).length = mj + 1
                  rw [List.length_append, HMJ.out]; rfl
                go_roundw
                case rel => exact ⟨j + 1, oj ++ [(qx, qy)], _, _, by omega, by go_num, by rw [HLE.out], HOJ2, by rw [HLE.out]; exact HA7.out.1, by rw [HLE.out]; exact HA7.out.2.1, HA7.out.2.2⟩
                case measure => simp [intOf]; omega
            · have ej : j = nL := by omega
              subst ej
              have e3 : oj = addAll ord L := by rw [HOJ.out, List.take_of_length_le (by rw [← HNL.out]; exact Nat.le_refl _)]
              have HF : Hid (k + 1 ≤ oj.length ∧ oj.length ≤ M ∧ SB w b0 b2 N sl oj (.slice ob oj.length cb) wr ∧ SInv N G a b oj (k + 1)) := by
                have h1 := HSj.out
                rw [HMJ.out] at h1
                have h2 := addAll_len ord L
                have h3 := HNX.out.len
                rw [← HM.out.1] at h3
                rw [← e3] at h2 h3
                have h4 := HMm.out
                exact ⟨by omega, h3, h1, by rw [e3]; exact HNX.out⟩
              clear e3
              go_wp2
              go_roundw
              case rel => exact ⟨k + 1, oj, ob, cb, HF.out.1, HF.out.2.1, by go_num, by rw [HMJ.out], HF.out.2.2.1, HF.out.2.2.2⟩
              case measure => simp [intOf]; omega
    · have HE : Hid (∃ r, Ending.returned (Value.bool true) = .returned (.bool r) ∧ (r = true ↔ SubP G a b) ∧ Below w.heap.size w wr) := ⟨true, rfl, ⟨fun _ => HI.out.end (by rw [← HMm.out]; omega) HK.out.1 HK.out.2.1 HK.out.2.2.1, fun _ => rfl⟩, HS.out.b⟩
      go_wp2
      go_ret
      exact HE.out

end Go.Proofs.YtoanhnmpkonbfaaGreatDoor
