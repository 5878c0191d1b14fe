/-
  Canon where the graph is not valid, there are too many roots, or one is no node: the program's and the model's.
-/
import Derived.Test.YtpbpbppimkeodaaGreatDoorMP
import Derived.Test.YtpbpbppimkeodaaGreatDoorCls
import Derived.BigQuiet
namespace Go.Proofs.YtpbpbppimkeodaaGreatDoor
open Go.RowKit Go.Maps

/-- What an empty answer is. -/
def NoCanon (w : World) (e : Ending) (w' : World) : Prop := ∃ lb : Nat, e = .returned (.tuple #[.agg #[.slice none 0 0], .slice (some ⟨lb, 0, none⟩) 0 0]) ∧ Below w.heap.size w w'

set_option maxRecDepth 100000 in
set_option maxHeartbeats 8000000 in
theorem w_canon_bad {N b o : Nat} {p : Nat → NP} {G : Nat → ND} (ao ra : Option Addr) (gc R rc rl ro : Nat) (D : Nat → Int) (w : World) (hR : R ≤ 1048576) (hN : N ≤ 1048576)
    (hbad : vgr N G = false ∨ 2000 < R ∨ kok R D N = false) (hG : NodesAt w ao b o N p G) (hI : IntsAt w ra rl ro R D) :
    Calls Tryz.prog 11 #[.agg #[.slice ao N gc], .slice ra R rc] w (NoCanon w) := by
  have HG : Hid (∀ w', Below w.heap.size w w' → NodesAt w' ao b o N p G) := fun w' hb => hG.below hb
  have HI : Hid (∀ w', Below w.heap.size w w' → IntsAt w' ra rl ro R D) := fun w' hb => hI.below hb
  clear hG hI
  obtain ⟨W0, hW0⟩ : ∃ W0, W0 = (w.alloc (.cells #[.slice ao N gc] 29)).alloc (.cells #[.slice none 0 0] 29) := ⟨_, rfl⟩
  have B0 : Below w.heap.size w W0 := by rw [hW0]; exact bel2 _ _ _
  have z0 : w.heap.size + 1 < W0.heap.size := by rw [hW0]; simp
  have r0 : W0.rowIs (w.heap.size + 1) 29 1 (fun _ => .slice none 0 0) := by
    rw [hW0]
    have := row1 (w.alloc (.cells #[.slice ao N gc] 29)) (.slice none 0 0) 29
    simpa using this
  have c0 : W0.cell? ⟨w.heap.size, 0, none⟩ = some (.slice ao N gc) := by rw [hW0]; exact ((row1 _ _ _).alloc _).cell (i := 0) (by omega)
  have FIN : Hid (∀ (W : World), Below w.heap.size w W → NoCanon w (.returned (.tuple #[.agg #[.slice none 0 0], .slice (some ⟨W.heap.size, 0, none⟩) 0 0])) ((W.alloc (.cells #[] 3)).setCell ⟨w.heap.size + 1, 0, none⟩ (.slice none 0 0))) := fun W hW =>
    ⟨W.heap.size, rfl, (hW.alloc hW.size _).setCell (by show w.heap.size ≤ w.heap.size + 1; omega) _⟩
  go_enter Tryz.func11, Tryz.ntmps11
  go_wp2_with fail
  rw [← hW0]
  clear hW0
  refine (g14 ao b o N gc p G W0 (HG.out W0 B0)).mono ?_
  rintro e w1 ⟨rfl, hb1⟩
  have B1 : Below w.heap.size w w1 := B0.trans (hb1.mono B0.size)
  have c1 : w1.cell? ⟨w.heap.size, 0, none⟩ = some (.slice ao N gc) := (hb1.cell (p := ⟨w.heap.size, 0, none⟩) (by show w.heap.size < W0.heap.size; omega)).trans c0
  have r1 := r0.of_block (hb1.block _ z0)
  clear hb1 r0 c0
  have q0 := (r1.alloc (.cells #[] 3)).cell (i := 0) (by omega)
  have q1 := (r1.alloc (.cells #[] 3)).frozen 0
  cases hv : vgr N G with
  | false =>
    have F := FIN.out w1 B1
    clear r1
    go_wp2
    exact bodyPost_ret (v := .tuple #[.agg #[.slice none 0 0], .slice (some ⟨w1.heap.size, 0, none⟩) 0 0]) (by simp [results, Tryz.results11, go_sem, q0]) rfl F
  | true =>
    by_cases hR2 : 2000 < R
    · have qR : (2000 : Int) < (R : Int) := by omega
      have F := FIN.out w1 B1
      clear r1
      go_wp2
      exact bodyPost_ret (v := .tuple #[.agg #[.slice none 0 0], .slice (some ⟨w1.heap.size, 0, none⟩) 0 0]) (by simp [results, Tryz.results11, go_sem, q0]) rfl F
    · have qR : ¬ (2000 : Int) < (R : Int) := by omega
      have hk : kok R D N = false := by
        rcases hbad with h | h | h
        · rw [hv] at h; cases h
        · exact absurd h hR2
        · exact h
      clear q0 q1
      go_wp2_with fail
      refine (g15 ao N gc ra rl ro R rc D w1 (HI.out w1 B1) (by omega)).mono ?_
      rintro e w2 ⟨rfl, hb2⟩
      rw [hk]
      have B2 : Below w.heap.size w w2 := B1.trans (hb2.mono B1.size)
      have r2 := r1.of_block (hb2.block _ r1.lt)
      have q0 := (r2.alloc (.cells #[] 3)).cell (i := 0) (by omega)
      have q1 := (r2.alloc (.cells #[] 3)).frozen 0
      have F := FIN.out w2 B2
      clear hb2 r1 r2 c1
      go_wp2
      exact bodyPost_ret (v := .tuple #[.agg #[.slice none 0 0], .slice (some ⟨w2.heap.size, 0, none⟩) 0 0]) (by simp [results, Tryz.results11, go_sem, q0]) rfl F

end Go.Proofs.YtpbpbppimkeodaaGreatDoor
