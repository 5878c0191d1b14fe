/-
  What the model demands of a pair.
-/
import Derived.Test.YtoanhnmpkonbfaaGreatDoorMI
import Derived.Test.YtoanhnmpkonbfaaGreatDoorMG
import Derived.Test.YtoanhnmpkonbfaaGreatDoorEdgesOf
import Derived.Deep.RegionLaw
namespace Go.Proofs.YtoanhnmpkonbfaaGreatDoor
open Go.RowKit Go.Maps

theorem Tryz.infoDm : (Tryz.prog.info? 67).map (fun i => (i.zero, i.size, i.bytes)) = some (some (.agg #[.int .i64 0, .int .i64 0]), 2, 16) := by kernel_rfl

/-- What the demands of a pair are handed back as. -/
def DemPost (d e : ND) (w : World) (E : Ending) (w' : World) : Prop :=
  ∃ v c, E = .returned (.tuple #[v, .bool c]) ∧ (c = true ↔ Can d e) ∧ (Can d e → w'.ownsRow w.heap.size 67 2 v (demL d e).length (pcells (demL d e))) ∧ Below w.heap.size w w'

/-- The boxes of the two nodes. -/
structure DB (w : World) (bx by_ : Nat) (d e : ND) (p q : NP) (W : World) : Prop where
  b : Below w.heap.size w W
  x0 : W.cell? ⟨bx, 0, none⟩ = some (.int .i64 d.kind)
  x1 : W.cell? ⟨bx, 1, none⟩ = some (.slice p.a1 d.nn p.c1)
  x2 : W.cell? ⟨bx, 2, none⟩ = some (.slice p.a2 d.nk p.c2)
  y0 : W.cell? ⟨by_, 0, none⟩ = some (.int .i64 e.kind)
  y1 : W.cell? ⟨by_, 1, none⟩ = some (.slice q.a1 e.nn q.c1)
  y2 : W.cell? ⟨by_, 2, none⟩ = some (.slice q.a2 e.nk q.c2)
  nx : NodeAt W p d
  ny : NodeAt W q e
theorem cell_lt' {w : World} {p : Addr} {v : Value} (h : w.cell? p = some v) : p.block < w.heap.size := by
  rcases Nat.lt_or_ge p.block w.heap.size with h1 | h1
  · exact h1
  · rw [World.cell?, Array.getElem?_eq_none h1] at h; simp at h
theorem cell_on {w w' : World} {p : Addr} {v : Value} (h : w.cell? p = some v) (hb : Below w.heap.size w w') : w'.cell? p = some v := (hb.cell (cell_lt' h)).trans h
theorem DB.below {w : World} {bx by_ : Nat} {d e : ND} {p q : NP} {W W' : World} (h : DB w bx by_ d e p q W) (hb : Below W.heap.size W W') : DB w bx by_ d e p q W' :=
  ⟨h.b.trans (hb.mono h.b.size), cell_on h.x0 hb, cell_on h.x1 hb, cell_on h.x2 hb, cell_on h.y0 hb, cell_on h.y1 hb, cell_on h.y2 hb, h.nx.below hb, h.ny.below hb⟩


theorem dem_any {d e : ND} {w W : World} {v : Value} (h : d.kind = 0 ∨ e.kind = 0) (ho : W.ownsRow w.heap.size 67 2 v 0 []) (hb : Below w.heap.size w W) : DemPost d e w (.returned (.tuple #[v, .bool true])) W := by
  refine ⟨v, true, rfl, ⟨fun _ => ?_, fun _ => rfl⟩, fun _ => ?_, hb⟩
  · exact h.elim Or.inl (fun h => Or.inr (Or.inl h))
  · rw [demL_any h]; exact ho
theorem dem_no {d e : ND} {w W : World} {v : Value} (h : ¬ Can d e) (hb : Below w.heap.size w W) : DemPost d e w (.returned (.tuple #[v, .bool false])) W :=
  ⟨v, false, rfl, ⟨fun h2 => (by cases h2), fun h2 => absurd h2 h⟩, fun h2 => absurd h2 h, hb⟩
theorem dem_yes {d e : ND} {w W : World} {v : Value} {L : List (Nat × Nat)} (h : Can d e) (hL : demL d e = L) (ho : W.ownsRow w.heap.size 67 2 v L.length (pcells L)) (hb : Below w.heap.size w W) : DemPost d e w (.returned (.tuple #[v, .bool true])) W :=
  ⟨v, true, rfl, ⟨fun _ => h, fun _ => rfl⟩, fun _ => by rw [hL]; exact ho, hb⟩

/-- The demands so far, in memory of their own; all that was there before stands. -/
structure DK (w W3 : World) (bz : Nat) (v : Value) (L : List (Nat × Nat)) (W : World) : Prop where
  own : W.ownsRow w.heap.size 67 2 v L.length (pcells L)
  same : ∀ k, k < W3.heap.size → k ≠ bz → W.heap[k]? = W3.heap[k]?
  b : Below w.heap.size w W
  sz : W3.heap.size ≤ W.heap.size
  nb : ∀ k, v.ownBlock = some k → k = bz ∨ W3.heap.size ≤ k
theorem DK.below {w W3 W W' : World} {bz : Nat} {v : Value} {L : List (Nat × Nat)} (h : DK w W3 bz v L W) (hb : Below W.heap.size W W') : DK w W3 bz v L W' :=
  ⟨own_block h.own (fun k e => hb.block k (h.own.lt k e.symm).2), fun k h1 h2 => (hb.block k (Nat.lt_of_lt_of_le h1 h.sz)).trans (h.same k h1 h2), h.b.trans (hb.mono h.b.size), Nat.le_trans h.sz hb.size, h.nb⟩
theorem DK.step {w W3 W W4 : World} {bz n gg cap cap2 x y : Nat} {oa : Option Addr} {L : List (Nat × Nat)} {o : Obj} (h : DK w W3 bz (.slice oa n cap) L W) (hn : n = L.length)
    (ho : W4.ownsRow w.heap.size 67 2 (.slice (some ⟨gg, 0, none⟩) (n + 1) cap2) (n + 1) (pcells L ++ [.int .i64 (x : Int), .int .i64 (y : Int)])) (hg : (W.alloc o).grownBy W4 (Value.slice oa n cap).ownBlock) (hat : (Value.slice oa n cap).ownBlock = some gg ∨ gg = W.heap.size + 1) :
    DK w W3 bz (.slice (some ⟨gg, 0, none⟩) (n + 1) cap2) (L ++ [(x, y)]) W4 := by
  have hgs := hg.size
  have hsz := h.sz
  have oth : ∀ k, k < W.heap.size → some k ≠ (Value.slice oa n cap).ownBlock → W4.heap[k]? = W.heap[k]? := fun k h3 h5 => by
    rw [hg.block k (by simp; omega) h5, Below.heap_alloc _ _ _ h3]
  refine ⟨?_, fun k h1 h2 => ?_, ⟨hg.os.trans h.b.os, hg.tape.trans h.b.tape, hg.output.trans h.b.output, ?_, fun k hk => ?_⟩, ?_, fun k e => ?_⟩
  · rw [List.length_append, pcells_append, ← hn]; exact ho
  · rw [oth k (by omega) (fun e => ?_), h.same k h1 h2]
    rcases h.nb k e.symm with h3 | h3
    · exact h2 h3
    · omega
  · have := h.b.size; simp at hgs; omega
  · have := h.b.size
    rw [oth k (by omega) (fun e => by have := (h.own.lt k e.symm).1; omega), h.b.block k hk]
  · simp at hgs; omega
  · have e2 : gg = k := by simpa [Value.ownBlock] using e
    subst e2
    rcases hat with h4 | h4
    · exact h.nb _ h4
    · exact Or.inr (by omega)

set_option maxRecDepth 100000 in
set_option maxHeartbeats 8000000 in
theorem m_dem {N gb go : Nat} {p : Nat → NP} {G : Nat → ND} (ao : Option Addr) (gc a b : Nat) (w : World) (h : NodesAt w ao gb go N p G) (ha : a < N) (hb : b < N) (hK : Kids N G) (hP : ∀ x, x < N → Plain (G x)) (hn : ∀ x, x < N → (G x).nn ≤ 1048576) :
    Calls Tryz.prog 47 #[.agg #[.slice ao N gc], .agg #[.int .i64 (a : Int), .int .i64 (b : Int)]] w (DemPost (G a) (G b) w) := by
  have at1 := h.at_ (by omega)
  subst at1
  obtain ⟨d, hd⟩ : ∃ d, d = G a := ⟨_, rfl⟩
  obtain ⟨e, he⟩ : ∃ e, e = G b := ⟨_, rfl⟩
  obtain ⟨P, hPp⟩ : ∃ P, P = p a := ⟨_, rfl⟩
  obtain ⟨Q, hQq⟩ : ∃ Q, Q = p b := ⟨_, rfl⟩
  obtain ⟨W0, hW0⟩ : ∃ W0, W0 = (w.alloc (.cells #[.slice (some ⟨gb, go, none⟩) N gc] 25)).alloc (.cells #[.int .i64 (a : Int), .int .i64 (b : Int)] 67) := ⟨_, rfl⟩
  obtain ⟨W1, hW1⟩ : ∃ W1, W1 = W0.alloc (.cells #[.int .i64 d.kind, .slice P.a1 d.nn P.c1, .slice P.a2 d.nk P.c2] 39) := ⟨_, rfl⟩
  obtain ⟨W2, hW2⟩ : ∃ W2, W2 = W1.alloc (.cells #[.int .i64 e.kind, .slice Q.a1 e.nn Q.c1, .slice Q.a2 e.nk Q.c2] 39) := ⟨_, rfl⟩
  obtain ⟨W3, hW3⟩ : ∃ W3, W3 = W2.alloc (.cells #[] 67) := ⟨_, rfl⟩
  have B0 : Below w.heap.size w W0 := by rw [hW0]; exact bel2 _ _ _
  have B1 : Below w.heap.size w W1 := by rw [hW1]; exact B0.trans ((bel1 _ _).mono B0.size)
  have B2 : Below w.heap.size w W2 := by rw [hW2]; exact B1.trans ((bel1 _ _).mono B1.size)
  have B3 : Below w.heap.size w W3 := by rw [hW3]; exact B2.trans ((bel1 _ _).mono B2.size)
  have z0 : W0.heap.size = w.heap.size + 2 := by rw [hW0]; simp
  have z1 : W1.heap.size = w.heap.size + 3 := by rw [hW1]; simp [z0]
  have z2 : W2.heap.size = w.heap.size + 4 := by rw [hW2]; simp [z1]
  have NG := h.below B0
  have NG1 := h.below B1
  have NG3 := h.below B3
  have RG : W0.rowIs w.heap.size 25 1 (fun _ => .slice (some ⟨gb, go, none⟩) N gc) := by rw [hW0]; exact (row1 w (.slice (some ⟨gb, go, none⟩) N gc) 25).alloc _
  have RP : W0.rowIs (w.heap.size + 1) 67 2 (v2 (.int .i64 (a : Int)) (.int .i64 (b : Int))) := by
    have z := row2 (w.alloc (.cells #[.slice (some ⟨gb, go, none⟩) N gc] 25)) (.int .i64 (a : Int)) (.int .i64 (b : Int)) 67
    rw [World.size_alloc] at z
    rw [hW0]; exact z
  have RG1 : W1.rowIs w.heap.size 25 1 (fun _ => .slice (some ⟨gb, go, none⟩) N gc) := by rw [hW1]; exact RG.alloc _
  have RP1 : W1.rowIs (w.heap.size + 1) 67 2 (v2 (.int .i64 (a : Int)) (.int .i64 (b : Int))) := by rw [hW1]; exact RP.alloc _
  have s0 : W0.cell? ⟨w.heap.size, 0, none⟩ = some (.slice (some ⟨gb, go, none⟩) N gc) := RG.cell (i := 0) (by omega)
  have s1 : W0.cell? ⟨w.heap.size + 1, 0, none⟩ = some (.int .i64 (a : Int)) := RP.cell (i := 0) (by omega)
  have a0 := NG.c0 a ha
  have a1 := NG.c1 a ha
  have a2 := NG.c2 a ha
  have r0 : W1.cell? ⟨w.heap.size, 0, none⟩ = some (.slice (some ⟨gb, go, none⟩) N gc) := RG1.cell (i := 0) (by omega)
  have r2 : W1.cell? ⟨w.heap.size + 1, 1, none⟩ = some (.int .i64 (b : Int)) := RP1.cell (i := 1) (by omega)
  have b0 := NG1.c0 b hb
  have b1 := NG1.c1 b hb
  have b2 := NG1.c2 b hb
  rw [← hd, ← hPp] at a1 a2
  rw [← hd] at a0
  rw [← he, ← hQq] at b1 b2
  rw [← he] at b0
  have lx : (a : Int) < (N : Int) := by omega
  have ly : (b : Int) < (N : Int) := by omega
  have RX : W3.rowIs (w.heap.size + 2) 39 3 (v3 (.int .i64 d.kind) (.slice P.a1 d.nn P.c1) (.slice P.a2 d.nk P.c2)) := by
    have z := row3 W0 (.int .i64 d.kind) (.slice P.a1 d.nn P.c1) (.slice P.a2 d.nk P.c2) 39
    rw [← hW1, z0] at z
    rw [hW3, hW2]; exact (z.alloc _).alloc _
  have RY : W3.rowIs (w.heap.size + 3) 39 3 (v3 (.int .i64 e.kind) (.slice Q.a1 e.nn Q.c1) (.slice Q.a2 e.nk Q.c2)) := by
    have z := row3 W1 (.int .i64 e.kind) (.slice Q.a1 e.nn Q.c1) (.slice Q.a2 e.nk Q.c2) 39
    rw [← hW2, z1] at z
    rw [hW3]; exact z.alloc _
  have O3 : W3.ownsRow w.heap.size 67 2 (.slice (some ⟨w.heap.size + 4, 0, none⟩) 0 0) 0 [] := by
    have z := World.ownsRow_lit (base := w.heap.size) (e := 67) (size := 2) W2 #[] 0 (by omega) (by unfold maxLen; omega) rfl
    rw [← hW3, z2] at z; exact z
  obtain ⟨bz0, hbz0⟩ : ∃ bz0, bz0 = w.heap.size + 4 := ⟨_, rfl⟩
  obtain ⟨bx, hbx⟩ : ∃ bx, bx = w.heap.size + 2 := ⟨_, rfl⟩
  obtain ⟨by_, hby⟩ : ∃ by_, by_ = w.heap.size + 3 := ⟨_, rfl⟩
  rw [← hbx] at RX
  rw [← hby] at RY
  have ND : NodeAt W3 P d := by rw [hPp, hd]; exact NG3.node a ha
  have NE : NodeAt W3 Q e := by rw [hQq, he]; exact NG3.node b hb
  have D3 : Hid (DB w bx by_ d e P Q W3) := ⟨B3, RX.cell (i := 0) (by omega), RX.cell (i := 1) (by omega), RX.cell (i := 2) (by omega), RY.cell (i := 0) (by omega), RY.cell (i := 1) (by omega), RY.cell (i := 2) (by omega), ND, NE⟩
  have HO : Hid (W3.ownsRow w.heap.size 67 2 (.slice (some ⟨w.heap.size + 4, 0, none⟩) 0 0) 0 []) := O3
  have x0 : W3.cell? ⟨bx, 0, none⟩ = some (.int .i64 d.kind) := RX.cell (i := 0) (by omega)
  have y0 : W3.cell? ⟨by_, 0, none⟩ = some (.int .i64 e.kind) := RY.cell (i := 0) (by omega)
  have HPd : Hid (Plain d ∧ Plain e ∧ d.nn ≤ 1048576 ∧ e.nn ≤ 1048576) := by rw [hd, he]; exact ⟨hP a ha, hP b hb, hn a ha, hn b hb⟩
  have HKd : Hid ((∀ j, j < d.nk → 0 ≤ d.kd j) ∧ (∀ j, j < e.nk → 0 ≤ e.kd j)) := by rw [hd, he]; exact ⟨fun j hj => (hK a ha j hj).1, fun j hj => (hK b hb j hj).1⟩
  have HPB : Hid ((∀ j, j < d.nk → P.b2 < w.heap.size) ∧ (∀ j, j < e.nk → Q.b2 < w.heap.size) ∧ (∀ j, j < e.nn → Q.b1 < w.heap.size) ∧ bz0 = w.heap.size + 4 ∧ W3.heap.size = w.heap.size + 5) := by
    rw [hd, he, hPp, hQq]
    exact ⟨fun j hj => cell_lt' ((h.node a ha).kids.cell j hj), fun j hj => cell_lt' ((h.node b hb).kids.cell j hj), fun j hj => cell_lt' ((h.node b hb).names.cell j hj), hbz0, by rw [hW3, World.size_alloc, z2]⟩
  have HND : Hid (∀ W, Below w.heap.size w W → NodeAt W P d ∧ NodeAt W Q e) := fun W hW => by
    rw [hd, he, hPp, hQq]
    exact ⟨(h.node a ha).below hW, (h.node b hb).below hW⟩
  rw [← hd, ← he]
  clear h NG NG1 NG3 RG RP RG1 RP1 B0 B1 B2 B3 hK hP hn RX RY O3 ND NE hd he hPp hQq
  have HW3 : Hid (W3 = (((((w.alloc (.cells #[.slice (some ⟨gb, go, none⟩) N gc] 25)).alloc (.cells #[.int .i64 (a : Int), .int .i64 (b : Int)] 67)).alloc (.cells #[.int .i64 d.kind, .slice P.a1 d.nn P.c1, .slice P.a2 d.nk P.c2] 39)).alloc (.cells #[.int .i64 e.kind, .slice Q.a1 e.nn Q.c1, .slice Q.a2 e.nk Q.c2] 39)).alloc (.cells #[] 67))) := by rw [hW3, hW2, hW1, hW0]; rfl
  obtain ⟨bz, hbz⟩ : ∃ bz, bz = w.heap.size + 4 := ⟨_, rfl⟩
  have HK0 : Hid (DK w W3 bz (.slice (some ⟨bz, 0, none⟩) 0 0) [] W3) := by
    rw [hbz]
    exact ⟨HO.out, fun _ _ _ => rfl, D3.out.b, Nat.le_refl _, fun k e => Or.inl (by simpa [Value.ownBlock] using e.symm)⟩
  have HBZ : Hid (bz = w.heap.size + 4 ∧ bx = w.heap.size + 2 ∧ by_ = w.heap.size + 3) := ⟨hbz, hbx, hby⟩
  rw [← hbz] at HO
  have e4 : Hid (bx = w.heap.size + 1 + 1 ∧ by_ = w.heap.size + 1 + 1 + 1 ∧ bz = w.heap.size + 1 + 1 + 1 + 1) := ⟨hbx, hby, hbz⟩
  rw [hW1, hW0] at r0 r2 b0 b1 b2
  rw [hW0] at s0 s1 a0 a1 a2
  clear z0 z1 z2 hW3 hW2 hW1 hW0 W0 W1 W2 hbx hby hbz
  go_enter Tryz.func47, Tryz.ntmps47
  go_upto_region 4 with fail
  rw [← HW3.out, ← e4.out.2.2, ← e4.out.2.1, ← e4.out.1]
  clear s0 s1 a0 a1 a2 r0 r2 b0 b1 b2 HW3 lx ly
  obtain ⟨kx, hkx⟩ : ∃ kx, kx = d.kind := ⟨_, rfl⟩
  obtain ⟨ky, hky⟩ : ∃ ky, ky = e.kind := ⟨_, rfl⟩
  rw [← hkx] at x0
  rw [← hky] at y0
  have HKK : Hid (kx = d.kind ∧ ky = e.kind) := ⟨hkx, hky⟩
  clear hkx hky
  by_cases c1 : kx = 0
  · have hE := dem_any (d := d) (e := e) (w := w) (Or.inl (by rw [← HKK.out.1]; exact c1)) HO.out D3.out.b
    have HE : Hid (DemPost d e w (.returned (.tuple #[.slice (some ⟨bz, 0, none⟩) 0 0, .bool true])) W3) := hE
    clear hE
    go_wp2
    go_ret2
    exact HE.out
  by_cases c2 : ky = 0
  · have hE := dem_any (d := d) (e := e) (w := w) (Or.inr (by rw [← HKK.out.2]; exact c2)) HO.out D3.out.b
    have HE : Hid (DemPost d e w (.returned (.tuple #[.slice (some ⟨bz, 0, none⟩) 0 0, .bool true])) W3) := hE
    clear hE
    go_wp2
    go_ret2
    exact HE.out
  have c1b : (kx == 0) = false := beq_eq_false_iff_ne.2 c1
  have c2b : (ky == 0) = false := beq_eq_false_iff_ne.2 c2
  by_cases c3 : kx = ky
  · subst c3
    obtain ⟨hPd, hPe, hnd, hne⟩ := HPd.out
    by_cases c4 : kx = 4
    · -- TWO FUNCTIONS
      have kd : d.nk = 2 := by rw [hPd.kids, if_neg (by rw [← HKK.out.1]; omega), if_pos (by rw [← HKK.out.1]; exact c4)]
      have ke : e.nk = 2 := by rw [hPe.kids, if_neg (by rw [← HKK.out.2]; omega), if_pos (by rw [← HKK.out.2]; exact c4)]
      clear hPd hPe hnd hne
      obtain ⟨i0, hi0, hz0, hz1, hz2⟩ := info_parts Tryz.infoDm
      obtain ⟨pa, hpa⟩ : ∃ pa, pa = P.b2 := ⟨_, rfl⟩
      obtain ⟨po, hpo⟩ : ∃ po, po = P.o2 := ⟨_, rfl⟩
      obtain ⟨pc, hpc⟩ : ∃ pc, pc = P.c2 := ⟨_, rfl⟩
      obtain ⟨qa, hqa⟩ : ∃ qa, qa = Q.b2 := ⟨_, rfl⟩
      obtain ⟨qo, hqo⟩ : ∃ qo, qo = Q.o2 := ⟨_, rfl⟩
      obtain ⟨qc, hqc⟩ : ∃ qc, qc = Q.c2 := ⟨_, rfl⟩
      have hpB := HPB.out.1 0 (by omega)
      have hqB := HPB.out.2.1 0 (by omega)
      rw [← hpa] at hpB
      rw [← hqa] at hqB
      have HZ3 : Hid (W3.cell? ⟨bx, 2, none⟩ = some (.slice (some ⟨pa, po, none⟩) 2 pc) ∧ W3.cell? ⟨by_, 2, none⟩ = some (.slice (some ⟨qa, qo, none⟩) 2 qc) ∧ W3.cell? ⟨pa, po, none⟩ = some (.int .i64 (kid d 0 : Int)) ∧ W3.cell? ⟨pa, po + 1, none⟩ = some (.int .i64 (kid d 1 : Int)) ∧ W3.cell? ⟨qa, qo, none⟩ = some (.int .i64 (kid e 0 : Int)) ∧ W3.cell? ⟨qa, qo + 1, none⟩ = some (.int .i64 (kid e 1 : Int))) := by
        have D := D3.out
        have k1 : ((kid d 0 : Nat) : Int) = d.kd 0 := Int.toNat_of_nonneg (HKd.out.1 0 (by omega))
        have k2 : ((kid d 1 : Nat) : Int) = d.kd 1 := Int.toNat_of_nonneg (HKd.out.1 1 (by omega))
        have k3 : ((kid e 0 : Nat) : Int) = e.kd 0 := Int.toNat_of_nonneg (HKd.out.2 0 (by omega))
        have k4 : ((kid e 1 : Nat) : Int) = e.kd 1 := Int.toNat_of_nonneg (HKd.out.2 1 (by omega))
        have t1 := D.x2
        have t2 := D.y2
        rw [kd, D.nx.kids.at_ (by omega), ← hpa, ← hpo, ← hpc] at t1
        rw [ke, D.ny.kids.at_ (by omega), ← hqa, ← hqo, ← hqc] at t2
        show _ ∧ _
        rw [k1, k2, k3, k4]
        refine ⟨t1, t2, ?_, ?_, ?_, ?_⟩
        · rw [hpa, hpo]; exact D.nx.kids.cell 0 (by omega)
        · rw [hpa, hpo]; exact D.nx.kids.cell 1 (by omega)
        · rw [hqa, hqo]; exact D.ny.kids.cell 0 (by omega)
        · rw [hqa, hqo]; exact D.ny.kids.cell 1 (by omega)
      have HX : Hid (bx < W3.heap.size ∧ by_ < W3.heap.size ∧ pa < W3.heap.size ∧ qa < W3.heap.size ∧ w.heap.size ≤ W3.heap.size ∧ bx ≠ bz ∧ by_ ≠ bz ∧ pa ≠ bz ∧ qa ≠ bz) := by
        have h1 := HBZ.out
        have h2 := HPB.out.2.2.2.2
        exact ⟨by omega, by omega, by omega, by omega, by omega, by omega, by omega, by omega, by omega⟩
      have HZ : Hid (∀ W : World, (∀ k, k < W3.heap.size → k ≠ bz → W.heap[k]? = W3.heap[k]?) → W.cell? ⟨bx, 2, none⟩ = some (.slice (some ⟨pa, po, none⟩) 2 pc) ∧ W.cell? ⟨by_, 2, none⟩ = some (.slice (some ⟨qa, qo, none⟩) 2 qc) ∧ W.cell? ⟨pa, po, none⟩ = some (.int .i64 (kid d 0 : Int)) ∧ W.cell? ⟨pa, po + 1, none⟩ = some (.int .i64 (kid d 1 : Int)) ∧ W.cell? ⟨qa, qo, none⟩ = some (.int .i64 (kid e 0 : Int)) ∧ W.cell? ⟨qa, qo + 1, none⟩ = some (.int .i64 (kid e 1 : Int))) := fun W hW => by
        obtain ⟨u1, u2, u3, u4, u5, u6⟩ := HZ3.out
        obtain ⟨l1, l2, l3, l4, _, n1, n2, n3, n4⟩ := HX.out
        exact ⟨(World.cell?_of_block (hW _ l1 n1)).trans u1, (World.cell?_of_block (hW _ l2 n2)).trans u2, (World.cell?_of_block (hW _ l3 n3)).trans u3, (World.cell?_of_block (hW _ l3 n3)).trans u4, (World.cell?_of_block (hW _ l4 n4)).trans u5, (World.cell?_of_block (hW _ l4 n4)).trans u6⟩
      clear HZ3 hpB hqB
      have hCAN : Can d e := Or.inr (Or.inr ⟨by rw [← HKK.out.1, ← HKK.out.2], Or.inl (by rw [← HKK.out.1]; exact c4)⟩)
      have hDL : demL d e = [(kid e 0, kid d 0), (kid d 1, kid e 1)] := demL_fun (by rw [← HKK.out.1]; exact c4) (by rw [← HKK.out.2]; exact c4)
      have HCD : Hid (Can d e ∧ demL d e = [(kid e 0, kid d 0), (kid d 1, kid e 1)]) := ⟨hCAN, hDL⟩
      clear hCAN hDL kd ke hpa hpo hpc hqa hqo hqc
      obtain ⟨ud0, hud0⟩ : ∃ z, z = kid d 0 := ⟨_, rfl⟩
      obtain ⟨ud1, hud1⟩ : ∃ z, z = kid d 1 := ⟨_, rfl⟩
      obtain ⟨ue0, hue0⟩ : ∃ z, z = kid e 0 := ⟨_, rfl⟩
      obtain ⟨ue1, hue1⟩ : ∃ z, z = kid e 1 := ⟨_, rfl⟩
      rw [← hud0, ← hud1, ← hue0, ← hue1] at HZ HCD
      clear hud0 hud1 hue0 hue1
      obtain ⟨f1, f2, f3, f4, f5, f6⟩ := HZ.out W3 (fun _ _ _ => rfl)
      obtain ⟨l1, l2, l3, l4, l5, m1, m2, m3, m4⟩ := HX.out
      have O0 := HK0.out.own
      go_wp2_with fail
      go_region_law (refine step_append_lies _ (by rfl) _ _ _ (by rfl) w.heap.size 67 i0 _ 2 16 Tryz.underlying68 hi0 hz0 hz1 hz2 rfl (by omega) (.slice (some ⟨bz, 0, none⟩) 0 0) 0 (pcells []) (by rfl) ((O0.alloc _).drew) ⟨W3.heap.size, 0, none⟩ 1 1 [.int .i64 (ue0 : Int), .int .i64 (ud0 : Int)] (by rfl) (by rfl) (World.news_of_block (cs := #[.int .i64 (ue0 : Int), .int .i64 (ud0 : Int)]) (t := 67) (fr := (0, 0)) (heap_alloc_new W3 _)) (by simp [Value.oneCell']) (by omega) (by unfold maxLen; omega) (by omega) (by simp; omega) (W3.heap.size + 1) (by simp) ?_; intro g1 cap1 W4 hown1 hg1 hat1 hlt1)
      all_goals
        have hg1b : (W3.alloc (.cells #[.int .i64 (ue0 : Int), .int .i64 (ud0 : Int)] 67)).grownBy W4 (Value.slice (some ⟨bz, 0, none⟩) 0 0).ownBlock := ⟨hg1.os, hg1.tape, hg1.output, hg1.size, hg1.block⟩
        have HK1 : Hid (DK w W3 bz (.slice (some ⟨g1, 0, none⟩) 1 cap1) [(ue0, ud0)] W4) := HK0.out.step (L := []) rfl hown1 hg1b hat1
        clear hg1 hg1b hown1 hat1 hlt1 f1 f2 f3 f4 f5 f6 O0
        obtain ⟨f1, f2, f3, f4, f5, f6⟩ := HZ.out W4 HK1.out.same
        have O1 := HK1.out.own
        have l6 := HK1.out.sz
        go_wp2_with fail
        go_region_law (refine step_append_lies _ (by rfl) _ _ _ (by rfl) w.heap.size 67 i0 _ 2 16 Tryz.underlying68 hi0 hz0 hz1 hz2 rfl (by omega) (.slice (some ⟨g1, 0, none⟩) 1 cap1) 1 (pcells [(ue0, ud0)]) (by rfl) ((O1.alloc _).drew) ⟨W4.heap.size, 0, none⟩ 1 1 [.int .i64 (ud1 : Int), .int .i64 (ue1 : Int)] (by rfl) (by rfl) (World.news_of_block (cs := #[.int .i64 (ud1 : Int), .int .i64 (ue1 : Int)]) (t := 67) (fr := (0, 0)) (heap_alloc_new W4 _)) (by simp [Value.oneCell']) (by omega) (by unfold maxLen; omega) (by omega) (by simp; omega) (W4.heap.size + 1) (by simp) ?_; intro g2 cap2 W5 hown2 hg2 hat2 hlt2)
      all_goals
        have hg2b : (W4.alloc (.cells #[.int .i64 (ud1 : Int), .int .i64 (ue1 : Int)] 67)).grownBy W5 (Value.slice (some ⟨g1, 0, none⟩) 1 cap1).ownBlock := ⟨hg2.os, hg2.tape, hg2.output, hg2.size, hg2.block⟩
        have HK2 : Hid (DK w W3 bz (.slice (some ⟨g2, 0, none⟩) 2 cap2) [(ue0, ud0), (ud1, ue1)] W5) := HK1.out.step (L := [(ue0, ud0)]) rfl hown2 hg2b hat2
        have HE : Hid (DemPost d e w (.returned (.tuple #[.slice (some ⟨g2, 0, none⟩) 2 cap2, .bool true])) W5) := dem_yes HCD.out.1 HCD.out.2 HK2.out.own HK2.out.b
        clear hg2 hg2b hown2 hat2 hlt2 f1 f2 f3 f4 f5 f6 O1
        go_wp2
        go_ret2
        exact HE.out
    · -- RECORDS AND THE BARE KINDS
      have hdk : d.nn ≤ d.nk := by
        by_cases h3 : d.kind = 3
        · rw [hPd.kids, if_pos h3]; exact Nat.le_refl _
        · rw [hPd.bare h3]; exact Nat.zero_le _
      have hek : e.nn ≤ e.nk := by
        by_cases h3 : e.kind = 3
        · rw [hPe.kids, if_pos h3]; exact Nat.le_refl _
        · rw [hPe.bare h3]; exact Nat.zero_le _
      have HREC : Hid ((Can d e ↔ ∀ i, i < e.nn → posOf d (e.nm i) < d.nn) ∧ demL d e = demTo d e e.nn) :=
        ⟨can_rec (by rw [← HKK.out.1]; exact c1) (by rw [← HKK.out.2]; exact c1) (by rw [← HKK.out.1]; exact c4) (by rw [← HKK.out.1, ← HKK.out.2]), demL_rec (by rw [← HKK.out.1]; exact c1) (by rw [← HKK.out.2]; exact c1) (by rw [← HKK.out.1]; exact c4)⟩
      have HNN : Hid (d.nn ≤ d.nk ∧ e.nn ≤ e.nk ∧ e.nn ≤ 1048576) := ⟨hdk, hek, hne⟩
      clear hPd hPe hnd hdk hek
      obtain ⟨i0, hi0, hz0, hz1, hz2⟩ := info_parts Tryz.infoDm
      obtain ⟨en, hen⟩ : ∃ en, en = e.nn := ⟨_, rfl⟩
      rw [← hen] at hne HREC HNN
      have HEN : Hid (en = e.nn) := hen
      clear hen
      have HBX : Hid (∀ W : World, (∀ k, k < W3.heap.size → k ≠ bz → W.heap[k]? = W3.heap[k]?) → W.cell? ⟨bx, 0, none⟩ = some (.int .i64 d.kind) ∧ W.cell? ⟨bx, 1, none⟩ = some (.slice P.a1 d.nn P.c1) ∧ W.cell? ⟨bx, 2, none⟩ = some (.slice P.a2 d.nk P.c2) ∧ W.cell? ⟨by_, 1, none⟩ = some (.slice Q.a1 en Q.c1) ∧ W.cell? ⟨by_, 2, none⟩ = some (.slice Q.a2 e.nk Q.c2)) := fun W hW => by
        have h1 := HBZ.out
        have h2 := HPB.out.2.2.2.2
        have D := D3.out
        rw [HEN.out]
        exact ⟨(World.cell?_of_block (hW bx (by omega) (by omega))).trans D.x0, (World.cell?_of_block (hW bx (by omega) (by omega))).trans D.x1, (World.cell?_of_block (hW bx (by omega) (by omega))).trans D.x2, (World.cell?_of_block (hW by_ (by omega) (by omega))).trans D.y1, (World.cell?_of_block (hW by_ (by omega) (by omega))).trans D.y2⟩
      go_wp2_with fail
      go_loopw [8, 9] (fun v i wr => ∃ (k : Nat) (oa : Option Addr) (cap : Nat), k ≤ en ∧ i = .int .i64 (k : Int) ∧ v = .slice oa k cap ∧ Hid (DK w W3 bz (.slice oa k cap) (demTo d e k) wr) ∧ Hid (∀ j, j < k → posOf d (e.nm j) < d.nn)) (fun _ i _ => en - (intOf i).toNat)
      case atStart => exact ⟨0, _, _, Nat.zero_le _, rfl, rfl, HK0, fun j h => absurd h (Nat.not_lt_zero _)⟩
      case round =>
        obtain ⟨k, oa, cap, hk, rfl, rfl, HDK, HPO⟩ := hrel
        obtain ⟨f0, f1, f2, f3, f4⟩ := HBX.out wr HDK.out.same
        by_cases hlt : k < en
        · obtain ⟨s, hs⟩ : ∃ s, s = e.nm k := ⟨_, rfl⟩
          obtain ⟨nE1, nE2⟩ := HND.out wr HDK.out.b
          have en1 : k < e.nn := by rw [← HEN.out]; exact hlt
          have g1 := nE2.names.at_ (by omega)
          have g2 := nE2.names.cell k en1
          have g3 := nE2.kids.at_ (by have := HNN.out; omega)
          have g4 := nE2.kids.cell k (by have := HNN.out; omega)
          rw [← hs] at g2
          rw [g1] at f3
          rw [g3] at f4
          have HG : Hid (Q.a1 = some ⟨Q.b1, Q.o1, none⟩ ∧ Q.a2 = some ⟨Q.b2, Q.o2, none⟩) := ⟨g1, g3⟩
          have HS : Hid (s = e.nm k) := hs
          have hek2 : (k : Int) < ((e.nk : Nat) : Int) := by have := HNN.out; omega
          have hki : (k : Int) < (en : Int) := by omega
          have hk0 : (0 : Int) ≤ (k : Int) := by omega
          have k4 : ((kid e k : Nat) : Int) = e.kd k := Int.toNat_of_nonneg (HKd.out.2 k (by have := HNN.out; omega))
          rw [← k4] at g4
          have HZ : Hid (∀ W, Below wr.heap.size wr W → W.cell? ⟨bx, 0, none⟩ = some (.int .i64 d.kind) ∧ W.cell? ⟨bx, 1, none⟩ = some (.slice P.a1 d.nn P.c1) ∧ W.cell? ⟨bx, 2, none⟩ = some (.slice P.a2 d.nk P.c2) ∧ W.cell? ⟨by_, 1, none⟩ = some (.slice (some ⟨Q.b1, Q.o1, none⟩) en Q.c1) ∧ W.cell? ⟨by_, 2, none⟩ = some (.slice (some ⟨Q.b2, Q.o2, none⟩) e.nk Q.c2) ∧ W.cell? ⟨Q.b1, Q.o1 + k, none⟩ = some (.string s) ∧ W.cell? ⟨Q.b2, Q.o2 + k, none⟩ = some (.int .i64 ((kid e k : Nat) : Int))) := fun W hW =>
            ⟨cell_on f0 hW, cell_on f1 hW, cell_on f2 hW, cell_on f3 hW, cell_on f4 hW, cell_on g2 hW, cell_on g4 hW⟩
          have CK : Hid (∀ W, Below wr.heap.size wr W → Calls Tryz.prog 72 #[.agg #[.int .i64 d.kind, .slice P.a1 d.nn P.c1, .slice P.a2 d.nk P.c2], .string s] W fun e w' => e = .returned (.int .i64 (kidBy d s)) ∧ Hid (Below wr.heap.size wr w')) := fun W hW =>
            (m62 P d s W (HND.out W (HDK.out.b.trans (hW.mono HDK.out.b.size))).1 HNN.out.1).mono fun e w' ⟨h1, h2⟩ => ⟨h1, hW.trans (h2.mono hW.size)⟩
          obtain ⟨kb, hkb⟩ : ∃ kb, kb = kidBy d s := ⟨_, rfl⟩
          rw [← hkb] at CK
          have HKB : Hid (kb = kidBy d s) := hkb
          obtain ⟨ke, hke⟩ : ∃ ke, ke = kid e k := ⟨_, rfl⟩
          rw [← hke] at HZ g4
          have HKE : Hid (ke = kid e k) := hke
          clear hs hkb hke k4 nE1 nE2 g1 g3 en1
          go_wp2_with fail
          go_region_held3 (fun w' => w'.cell? ⟨bx, 0, none⟩ = some (.int .i64 d.kind) ∧ w'.cell? ⟨bx, 1, none⟩ = some (.slice P.a1 d.nn P.c1) ∧ w'.cell? ⟨bx, 2, none⟩ = some (.slice P.a2 d.nk P.c2) ∧ w'.cell? ⟨by_, 1, none⟩ = some (.slice (some ⟨Q.b1, Q.o1, none⟩) en Q.c1) ∧ w'.cell? ⟨Q.b1, Q.o1 + k, none⟩ = some (.string s)) (go_keep)
            (first | (go_at_call 72; (with_reducible refine (CK.out _ (Below.refl _ _).drew).mono ?_); rintro e w5 ⟨rfl, H5⟩; obtain ⟨q0, q1, q2, q3, q4, q5, q6⟩ := HZ.out w5 H5.out))
          all_goals
            clear f0 f1 f2 f3 f4 g2 g4
            have HD5 : Hid (DK w W3 bz (.slice oa k cap) (demTo d e k) w5) := HDK.out.below H5.out
            by_cases hin : posOf d s < d.nn
            · have ekb : kb = ((kid d (posOf d s) : Nat) : Int) := by rw [HKB.out]; exact kidBy_in hin (fun j hj => HKd.out.1 j (by have := HNN.out; omega))
              obtain ⟨kq, hkq⟩ : ∃ kq, kq = kid d (posOf d s) := ⟨_, rfl⟩
              rw [← hkq] at ekb
              subst ekb
              have HKQ : Hid (kq = kid d (posOf d s)) := hkq
              have hkq0 : ¬ ((kq : Nat) : Int) < 0 := by omega
              have O5 : w5.ownsRow w.heap.size 67 2 (.slice oa k cap) k (pcells (demTo d e k)) := by
                have := HD5.out.own
                rw [demTo_len] at this; exact this
              have hws5 : w.heap.size ≤ w5.heap.size := HD5.out.b.size
              clear hkq
              go_wp2_with (first | (at_builtin; refine wpList_append_lies _ rfl _ _ 68 rfl w.heap.size 67 i0 _ 2 16 Tryz.underlying68 hi0 hz0 hz1 hz2 rfl (by omega) (.slice oa k cap) k (pcells (demTo d e k)) rfl (O5.alloc _) ⟨w5.heap.size, 0, none⟩ 1 1 [.int .i64 (kq : Int), .int .i64 (ke : Int)] rfl rfl (World.news_of_block (cs := #[.int .i64 (kq : Int), .int .i64 (ke : Int)]) (t := 67) (fr := (0, 0)) (heap_alloc_new w5 _)) (by simp [Value.oneCell']) (by omega) (by unfold maxLen; omega) (by omega) (by simp; omega) (w5.heap.size + 1) (by simp) ?_; intro gg cap3 w6 hown6 hg6 hat6 hlt6))
              have HK6 : Hid (DK w W3 bz (.slice (some ⟨gg, 0, none⟩) (k + 1) cap3) (demTo d e (k + 1)) w6) := by
                have := HD5.out.step (demTo_len d e k).symm hown6 hg6 hat6
                rw [HKQ.out, HKE.out, HS.out, ← demTo_succ] at this
                exact this
              have HPO2 : Hid (∀ j, j < k + 1 → posOf d (e.nm j) < d.nn) := Lib.hid (fun j hj => by
                rcases Nat.lt_or_ge j k with h7 | h7
                · exact HPO.out j h7
                · have : j = k := by omega
                  rw [this, ← HS.out]; exact hin)
              clear hown6 hg6 hat6 q0 q1 q2 q3 q4 q5 q6 O5
              go_wp2
              go_roundw
              case rel => exact ⟨_, _, _, _, ⟨k + 1, by omega, by go_num, _, _, rfl, HK6, HPO2⟩, rfl, rfl, rfl, rfl⟩
              case measure => simp [intOf]; omega
            · have ekb : kb = -1 := by rw [HKB.out]; exact kidBy_out hin
              subst ekb
              have hno : ¬ Can d e := fun h7 => hin (by rw [HS.out]; exact HREC.out.1.1 h7 k hlt)
              have HE : Hid (∀ v, DemPost d e w (.returned (.tuple #[v, .bool false])) (w5.alloc (.cells #[] 67))) := fun v => dem_no hno (HD5.out.b.alloc HD5.out.b.size _)
              clear hno
              go_wp2
              go_ret2
              exact HE.out _
        · have hke : k = en := by omega
          subst hke
          have HE : Hid (DemPost d e w (.returned (.tuple #[.slice oa k cap, .bool true])) wr) := dem_yes (HREC.out.1.2 HPO.out) HREC.out.2 HDK.out.own HDK.out.b
          go_wp2
          go_ret2
          exact HE.out
  · have hno : ¬ Can d e := by
      rintro (h | h | ⟨h, _⟩)
      · exact c1 (by rw [HKK.out.1]; exact h)
      · exact c2 (by rw [HKK.out.2]; exact h)
      · exact c3 (by rw [HKK.out.1, HKK.out.2]; exact h)
    have c3b : (kx == ky) = false := beq_eq_false_iff_ne.2 c3
    have HE : Hid (DemPost d e w (.returned (.tuple #[.slice (some ⟨bz, 0, none⟩) 0 0, .bool false])) W3) := dem_no hno D3.out.b
    clear hno
    go_wp2
    go_ret2
    exact HE.out

end Go.Proofs.YtoanhnmpkonbfaaGreatDoor
