/-
  The contract of willDo.
-/
import Derived.Test.YtifmaglbglelbaaGreatDoorSubWalk
namespace Go.Proofs.YtifmaglbglelbaaGreatDoor
open Go.RowKit Go.Maps

set_option maxRecDepth 100000 in
set_option maxHeartbeats 8000000 in
theorem w26 {N gb go : Nat} {p : Nat → NP} {G : Nat → ND} (ao : Option Addr) (gc : Nat) (keep : Nat → Prop) (a b : Nat) (w : World) (hk : ∀ k, keep k → k < w.heap.size) (hG : ∀ w', Kept keep w w' → NodesAt w' ao gb go N p G) (ha : a < N) (hb : b < N) (hK : Kids N G) (hP : ∀ x, x < N → Plain (G x)) (hS : ∀ x, x < N → Srt (G x)) (hN : N ≤ 4000) (hn : ∀ i, i < N → (G i).nn ≤ 1048576) :
    Calls Tryz.prog 17 #[.agg #[.slice ao N gc], .int .i64 (a : Int), .int .i64 (b : Int)] w (WillPost G a b keep w) := by
  have hmf : ∀ (fn : Fn) (first cap : Array Value) (w : World), (Instr.makeFunc fn first cap).run Tryz.prog w = .ok (.func fn first cap) w := fun _ _ _ _ => rfl
  obtain ⟨W0, hW0⟩ : ∃ W0, W0 = w.alloc (.cells #[.slice ao N gc] 29) := ⟨_, rfl⟩
  have BW : Below w.heap.size w W0 := by rw [hW0]; exact bel1 _ _
  have C : Hid (∀ W, Below W0.heap.size W0 W → Calls Tryz.prog 27 #[.agg #[.int .i64 (a : Int), .int .i64 (b : Int)], .int .i64 9223372036854775807, .func (.func 28) #[] #[.pointer (some ⟨w.heap.size, 0, none⟩)]] W (WillPost G a b keep w)) := fun W hW => by
    have B := BW.trans (hW.mono BW.size)
    have KW : Kept keep w W := ⟨B.os, B.tape, B.output, B.size, fun k hk' => B.block k (hk k hk')⟩
    have RG : W0.rowIs w.heap.size 29 1 (fun _ => .slice ao N gc) := by rw [hW0]; exact row1 w (.slice ao N gc) 29
    have RW := RG.of_block (hW.block w.heap.size RG.lt)
    refine (w36 ao gc w.heap.size (fun k => keep k ∨ k = w.heap.size) a b W (fun k h => ?_) (fun w' h => hG w' (KW.trans ⟨h.os, h.tape, h.output, h.size, fun k hk' => h.block k (Or.inl hk')⟩)) (fun w' h => (RW.of_block (h.block w.heap.size (Or.inr rfl))).cell (i := 0) (by omega)) ha hb hK hP hS hN hn).mono (fun e w' z => ⟨z.1, KW.trans ⟨z.2.os, z.2.tape, z.2.output, z.2.size, fun k hk' => z.2.block k (Or.inl hk')⟩⟩)
    rcases h with h | h
    · have := hk k h; have := B.size; omega
    · subst h; exact RW.lt
  clear hG hK hP hS hn BW
  subst hW0
  go_enter Tryz.func17, Tryz.ntmps17
  go_wp2_with (first | (go_at_call 27; (first | (with_reducible refine (C.out _ (Below.refl _ _)).mono ?_) | (with_reducible refine (C.out _ (Below.refl _ _).drew).mono ?_))))
  intro e w5 hE
  obtain ⟨r, rfl⟩ : ∃ r, e = .returned (.bool r) := by
    rcases hE.1 with ⟨z, _⟩ | ⟨z, _⟩
    · exact ⟨_, z⟩
    · exact ⟨_, z⟩
  have FH : Hid (WillPost G a b keep w (.returned (.bool r)) w5) := hE
  clear hE C
  go_wp2
  go_ret
  exact FH.out

end Go.Proofs.YtifmaglbglelbaaGreatDoor
