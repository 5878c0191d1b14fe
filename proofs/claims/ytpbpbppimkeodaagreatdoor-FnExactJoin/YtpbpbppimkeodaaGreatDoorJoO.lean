/-
  A field more: the program's withField.
-/
import Derived.Test.YtpbpbppimkeodaaGreatDoorJoN
import Derived.Test.YtpbpbppimkeodaaGreatDoorMD
namespace Go.Proofs.YtpbpbppimkeodaaGreatDoor
open Go.RowKit Go.Maps

/-- Two rows of one's own, of names and of numbers. -/
structure Two (base : Nat) (w : World) (vn vk : Value) (S : List ByteArray) (K : List Int) (m : Nat) : Prop where
  own1 : w.ownsRow base 9 1 vn m (tcells S)
  own2 : w.ownsRow base 3 1 vk m (zcells K)
  ne : ∀ b, vn.ownBlock = some b → vk.ownBlock ≠ some b

/-- All but two blocks are as they were. -/
structure But2 (w w' : World) (x y : Option Nat) : Prop where
  os : w'.os = w.os
  tape : w'.tape = w.tape
  output : w'.output = w.output
  size : w.heap.size ≤ w'.heap.size
  block : ∀ j, j < w.heap.size → some j ≠ x → some j ≠ y → w'.heap[j]? = w.heap[j]?

set_option maxRecDepth 100000 in
set_option maxHeartbeats 4000000 in
theorem p_field (base : Nat) (na ka : Option Addr) (nc kc m : Nat) (S : List ByteArray) (K : List Int) (k z : Int) (s : ByteArray) (w : World) (h : Two base w (.slice na m nc) (.slice ka m kc) S K m) (hb : base ≤ w.heap.size) (hm : m ≤ 4194304) :
    Calls Tryz.prog 141 #[.agg #[.int .i64 k, .slice na m nc, .slice ka m kc], .string s, .int .i64 z] w fun e w' =>
      ∃ gg c1 hh c2, e = .returned (.agg #[.int .i64 k, .slice (some ⟨gg, 0, none⟩) (m + 1) c1, .slice (some ⟨hh, 0, none⟩) (m + 1) c2]) ∧ Two base w' (.slice (some ⟨gg, 0, none⟩) (m + 1) c1) (.slice (some ⟨hh, 0, none⟩) (m + 1) c2) (S ++ [s]) (K ++ [z]) (m + 1) ∧
        But2 w w' (Value.slice na m nc).ownBlock (Value.slice ka m kc).ownBlock ∧ ((Value.slice na m nc).ownBlock = some gg ∨ w.heap.size ≤ gg) ∧ ((Value.slice ka m kc).ownBlock = some hh ∨ w.heap.size ≤ hh) := by
  obtain ⟨i9, hs0, hs1, hs2, hs3⟩ := info_parts Tryz.info9
  obtain ⟨i1, hj0, hj1, hj2, hj3⟩ := info_parts Tryz.info3
  obtain ⟨W2, hW2⟩ : ∃ W2, W2 = (w.alloc (.cells #[.int .i64 k, .slice na m nc, .slice ka m kc] 48)).alloc (.cells #[.int .i64 0, .slice none 0 0, .slice none 0 0] 48) := ⟨_, rfl⟩
  have B2 : Below w.heap.size w W2 := by rw [hW2]; exact bel2 _ _ _
  have OWN1 : ((w.alloc (.cells #[.int .i64 k, .slice na m nc, .slice ka m kc] 48)).alloc (.cells #[.int .i64 0, .slice none 0 0, .slice none 0 0] 48)).ownsRow base 9 1 (.slice na m nc) m (tcells S) := (h.own1.alloc _).alloc _
  have HH : Hid (Two base w (.slice na m nc) (.slice ka m kc) S K m) := h
  clear h
  go_enter Tryz.func141, Tryz.ntmps141
  have HR6 : Hid (∀ w6, (((w.alloc (.cells #[.int .i64 k, .slice na m nc, .slice ka m kc] 48)).alloc (.cells #[.int .i64 0, .slice none 0 0, .slice none 0 0] 48)).alloc (.cells #[.string s] 9)).grownBy w6 (Value.slice na m nc).ownBlock → w6.rowIs w.heap.size 48 3 (v3 (.int .i64 k) (.slice na m nc) (.slice ka m kc)) ∧ w6.rowIs (w.heap.size + 1) 48 3 (v3 (.int .i64 0) (.slice none 0 0) (.slice none 0 0)) ∧ w.heap.size + 3 ≤ w6.heap.size ∧ w6.ownsRow base 3 1 (.slice ka m kc) m (zcells K)) := fun w6 hg => by
    have hz := hg.size
    simp only [World.size_alloc] at hz
    have r1 := (row3 w (.int .i64 k) (.slice na m nc) (.slice ka m kc) 48)
    have r2 := (row3 (w.alloc (.cells #[.int .i64 k, .slice na m nc, .slice ka m kc] 48)) (.int .i64 0) (.slice none 0 0) (.slice none 0 0) 48)
    simp only [World.size_alloc] at r2
    have n1 : ∀ j, w.heap.size ≤ j → some j ≠ (Value.slice na m nc).ownBlock := fun j hj e => by have := (HH.out.own1.lt j e.symm).2; omega
    refine ⟨((r1.alloc _).alloc _).of_block (hg.block _ (by simp; omega) (n1 _ (Nat.le_refl _))), (r2.alloc _).of_block (hg.block _ (by simp) (n1 _ (by omega))), by omega, ?_⟩
    exact own_block (((HH.out.own2.alloc (.cells #[.int .i64 k, .slice na m nc, .slice ka m kc] 48)).alloc (.cells #[.int .i64 0, .slice none 0 0, .slice none 0 0] 48)).alloc (.cells #[.string s] 9)) (fun j e => hg.block j (by have := (HH.out.own2.lt j e.symm).2; simp; omega) (fun e2 => HH.out.ne j e2.symm e.symm))
  go_wp2_with (first
    | (at_builtin; (refine wpList_append_lies _ rfl _ _ 46 rfl base 9 i9 _ 1 16 Tryz.underlying46 hs0 hs1 hs2 hs3 rfl (by omega) (.slice na m nc) m (tcells S) rfl (by exact OWN1.alloc _) ⟨w.heap.size + 1 + 1, 0, none⟩ 1 1 [.string s] rfl rfl (by have := cell_one_new ((w.alloc (.cells #[.int .i64 k, .slice na m nc, .slice ka m kc] 48)).alloc (.cells #[.int .i64 0, .slice none 0 0, .slice none 0 0] 48)) (.string s) 9; simpa using this) (by simp [Value.oneCell']) (by omega) (by unfold maxLen; omega) (by first | omega | (simp; omega)) (by first | omega | (simp; omega)) (w.heap.size + 1 + 1 + 1) (by first | rfl | simp) ?_); intro gg cap6 w6 hown6 hg6 hat6 hlt6; obtain ⟨R6, Q6, z6, OWN2⟩ := HR6.out w6 hg6; have a1 := R6.cell (i := 1) (by omega); have b1 := R6.frozen 1; have R7 := R6.set 1 (.slice (some ⟨gg, 0, none⟩) (m + 1) cap6); have a2 : (w6.setCell ⟨w.heap.size, 1, none⟩ (.slice (some ⟨gg, 0, none⟩) (m + 1) cap6)).cell? ⟨w.heap.size, 2, none⟩ = some (.slice ka m kc) := R7.cell (i := 2) (by omega); have OWN7 : (w6.setCell ⟨w.heap.size, 1, none⟩ (.slice (some ⟨gg, 0, none⟩) (m + 1) cap6)).ownsRow base 3 1 (.slice ka m kc) m (zcells K) := own_block OWN2 (fun j e => Below.heap_setCell _ _ _ _ (by show j ≠ w.heap.size; have := (HH.out.own2.lt j e.symm).2; omega)); have hb6 : base ≤ w6.heap.size := (by omega))
    | (at_builtin; go_loud (refine wpList_append_lies _ rfl _ _ 25 rfl base 3 i1 _ 1 8 Tryz.underlying25 hj0 hj1 hj2 hj3 rfl (by omega) (.slice ka m kc) m (zcells K) rfl (by exact OWN7.alloc _) ⟨w6.heap.size, 0, none⟩ 1 1 [.int .i64 z] rfl rfl (by have := cell_one_new (w6.setCell ⟨w.heap.size, 1, none⟩ (.slice (some ⟨gg, 0, none⟩) (m + 1) cap6)) (.int .i64 z) 3; simpa using this) (by simp [Value.oneCell']) (by omega) (by unfold maxLen; omega) (by first | omega | (simp; omega)) (by first | omega | (simp; omega)) (w6.heap.size + 1) (by first | rfl | simp) ?_); intro hh cap8 w8 hown8 hg8 hat8 hlt8; have n2 : ∀ j, w.heap.size ≤ j → some j ≠ (Value.slice ka m kc).ownBlock := (fun j hj e => by have := (HH.out.own2.lt j e.symm).2; omega); have R8 := (R7.alloc (.cells #[.int .i64 z] 3)).of_block (hg8.block w.heap.size (by simp; omega) (n2 _ (Nat.le_refl _))); have Q8 := ((Q6.setOther (a := ⟨w.heap.size, 1, none⟩) (by show w.heap.size + 1 ≠ w.heap.size; omega) (.slice (some ⟨gg, 0, none⟩) (m + 1) cap6)).alloc (.cells #[.int .i64 z] 3)).of_block (hg8.block (w.heap.size + 1) (by simp; omega) (n2 _ (by omega))); have c2 := R8.cell (i := 2) (by omega); have d2 := R8.frozen 2; have R9 := R8.set 2 (.slice (some ⟨hh, 0, none⟩) (m + 1) cap8); have e0 : (w8.setCell ⟨w.heap.size, 2, none⟩ (.slice (some ⟨hh, 0, none⟩) (m + 1) cap8)).cell? ⟨w.heap.size, 0, none⟩ = some (.int .i64 k) := R9.cell (i := 0) (by omega); have e1 : (w8.setCell ⟨w.heap.size, 2, none⟩ (.slice (some ⟨hh, 0, none⟩) (m + 1) cap8)).cell? ⟨w.heap.size, 1, none⟩ = some (.slice (some ⟨gg, 0, none⟩) (m + 1) cap6) := R9.cell (i := 1) (by omega); have e2 : (w8.setCell ⟨w.heap.size, 2, none⟩ (.slice (some ⟨hh, 0, none⟩) (m + 1) cap8)).cell? ⟨w.heap.size, 2, none⟩ = some (.slice (some ⟨hh, 0, none⟩) (m + 1) cap8) := R9.cell (i := 2) (by omega); have Q9 := Q8.setOther (a := ⟨w.heap.size, 2, none⟩) (by show w.heap.size + 1 ≠ w.heap.size; omega) (.slice (some ⟨hh, 0, none⟩) (m + 1) cap8); have g0 : (w8.setCell ⟨w.heap.size, 2, none⟩ (.slice (some ⟨hh, 0, none⟩) (m + 1) cap8)).cell? ⟨w.heap.size + 1, 0, none⟩ = some (.int .i64 0) := Q9.cell (i := 0) (by omega); have g1 : (w8.setCell ⟨w.heap.size, 2, none⟩ (.slice (some ⟨hh, 0, none⟩) (m + 1) cap8)).cell? ⟨w.heap.size + 1, 1, none⟩ = some (.slice none 0 0) := Q9.cell (i := 1) (by omega); have g2 : (w8.setCell ⟨w.heap.size, 2, none⟩ (.slice (some ⟨hh, 0, none⟩) (m + 1) cap8)).cell? ⟨w.heap.size + 1, 2, none⟩ = some (.slice none 0 0) := Q9.cell (i := 2) (by omega); have k0 := Q9.frozen 0; have k1 := Q9.frozen 1; have k2 := Q9.frozen 2))
  have hk8 := hg8.size
  have hz6 := hg6.size
  simp only [World.size_alloc, World.size_setCell] at hk8 hz6
  obtain ⟨WF, hWF⟩ : ∃ WF, WF = ((((w8.setCell ⟨w.heap.size, 2, none⟩ (.slice (some ⟨hh, 0, none⟩) (m + 1) cap8)).setCell ⟨w.heap.size + 1, 0, none⟩ (.int .i64 k)).setCell ⟨w.heap.size + 1, 1, none⟩ (.slice (some ⟨gg, 0, none⟩) (m + 1) cap6)).setCell ⟨w.heap.size + 1, 2, none⟩ (.slice (some ⟨hh, 0, none⟩) (m + 1) cap8)) := ⟨_, rfl⟩
  have bF : ∀ j, j ≠ w.heap.size → j ≠ w.heap.size + 1 → WF.heap[j]? = w8.heap[j]? := fun j h1 h2 => by
    rw [hWF]
    exact (((Below.heap_setCell _ _ _ _ (by show j ≠ w.heap.size + 1; exact h2)).trans (Below.heap_setCell _ _ _ _ (by show j ≠ w.heap.size + 1; exact h2))).trans (Below.heap_setCell _ _ _ _ (by show j ≠ w.heap.size + 1; exact h2))).trans (Below.heap_setCell _ _ _ _ (by show j ≠ w.heap.size; exact h1))
  have b8 : ∀ j, j < w6.heap.size → j ≠ w.heap.size → some j ≠ (Value.slice ka m kc).ownBlock → w8.heap[j]? = w6.heap[j]? := fun j hj h1 h2 => (hg8.block j (by simp; omega) h2).trans ((Below.heap_alloc _ _ _ (by simpa using hj)).trans (Below.heap_setCell _ _ _ _ (by show j ≠ w.heap.size; exact h1)))
  have b6 : ∀ j, j < w.heap.size → some j ≠ (Value.slice na m nc).ownBlock → w6.heap[j]? = w.heap[j]? := fun j hj h2 => (hg6.block j (by simp; omega) h2).trans ((Below.heap_alloc _ _ _ (by simp; omega)).trans ((bel2 w _ _).block j hj))
  have hsF : WF.heap.size = w8.heap.size := by rw [hWF]; simp
  have gn : (Value.slice na m nc).ownBlock = some gg ∨ w.heap.size ≤ gg := by rcases hat6 with q | q; exact Or.inl q; exact Or.inr (by omega)
  have hn : (Value.slice ka m kc).ownBlock = some hh ∨ w.heap.size ≤ hh := by rcases hat8 with q | q; exact Or.inl q; exact Or.inr (by omega)
  have g1n : gg ≠ w.heap.size ∧ gg ≠ w.heap.size + 1 := by
    rcases hat6 with q | q
    · have := (HH.out.own1.lt gg q).2; omega
    · omega
  have h1n : hh ≠ w.heap.size ∧ hh ≠ w.heap.size + 1 := by
    rcases hat8 with q | q
    · have := (HH.out.own2.lt hh q).2; omega
    · omega
  have ggk : some gg ≠ (Value.slice ka m kc).ownBlock := fun e => by
    rcases hat6 with q | q
    · exact HH.out.ne gg q e.symm
    · have := (HH.out.own2.lt gg e.symm).2; omega
  have FIN : Hid (Two base WF (.slice (some ⟨gg, 0, none⟩) (m + 1) cap6) (.slice (some ⟨hh, 0, none⟩) (m + 1) cap8) (S ++ [s]) (K ++ [z]) (m + 1) ∧ But2 w WF (Value.slice na m nc).ownBlock (Value.slice ka m kc).ownBlock) := by
    refine ⟨⟨?_, ?_, fun b e1 e2 => ?_⟩, ⟨?_, ?_, ?_, by omega, fun j hj h1 h2 => ?_⟩⟩
    · unfold tcells; rw [List.map_append]
      exact own_block hown6 (fun j e => by
        have : j = gg := by simpa [Value.ownBlock] using e
        rw [this, bF gg g1n.1 g1n.2]
        exact b8 gg hlt6 g1n.1 ggk)
    · unfold zcells; rw [List.map_append]
      exact own_block hown8 (fun j e => by
        have : j = hh := by simpa [Value.ownBlock] using e
        rw [this]; exact bF hh h1n.1 h1n.2)
    · have e3 : gg = b := by simpa [Value.ownBlock] using e1
      have e4 : hh = b := by simpa [Value.ownBlock] using e2
      rcases hat8 with q | q
      · exact ggk (by rw [q, e4, e3])
      · omega
    · rw [hWF]; exact hg8.os.trans hg6.os
    · rw [hWF]; exact hg8.tape.trans hg6.tape
    · rw [hWF]; exact hg8.output.trans hg6.output
    · exact (bF j (by omega) (by omega)).trans ((b8 j (by omega) (by omega) h2).trans (b6 j hj h1))
  rw [← hWF]
  exact bodyPost_ret (v := .agg #[.int .i64 k, .slice (some ⟨gg, 0, none⟩) (m + 1) cap6, .slice (some ⟨hh, 0, none⟩) (m + 1) cap8]) (by rw [hWF]; simp [results, Tryz.results141, go_sem, g0, g1, g2]) rfl ⟨gg, cap6, hh, cap8, rfl, FIN.out.1, FIN.out.2, gn, hn⟩

end Go.Proofs.YtpbpbppimkeodaaGreatDoor
