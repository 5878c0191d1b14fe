/-
  From the reading of the arguments to the memory that the walks speak of.
-/
import Derived.Test.YtijgiingfgaakaaRows
import Derived.Test.YtijgiingfgaakaaTabOpen
import Derived.WalkKit
import Derived.ProofKit
import Derived.OpenShut
import Derived.ChangeOld
import Derived.Below
namespace Go.Proofs.Ytijgiingfgaakaa
open Go.ChangeShapes Go.WideShapes Go.ChangeAt Go.RowKit Go.Deep
open Go.ChangeMaps (open_string shut_string)

theorem Try.own : ownKnob Try.prog.godebug = none := by kernel_rfl
theorem Try.laidOut : laidOutB Try.prog = true := by kernel_rfl

theorem array1 {α : Type} {cs : Array α} (h : cs.size = 1) : ∃ c0, cs = #[c0] := by
  obtain ⟨l⟩ := cs
  match l, h with
  | [c0], _ => exact ⟨c0, rfl⟩
theorem array2 {α : Type} {cs : Array α} (h : cs.size = 2) : ∃ c0 c1, cs = #[c0, c1] := by
  obtain ⟨l⟩ := cs
  match l, h with
  | [c0, c1], _ => exact ⟨c0, c1, rfl⟩

set_option maxRecDepth 100000 in
theorem table_arg {H : Type} {enc : TypeId × Value → H} {W : World} {held : Bool} {r : Reach} {b0 : Nat} {v : Value} {d : DataW H} {q : List MemPlace}
    (hv : Value.okWide Try.prog W r b0 24 v) (h : DataW.Trod enc Try.prog W 0 (fun _ => true) held 24 v d q) :
    ∃ ao b o n c p D, v = .agg #[.slice ao n c] ∧ SlotsAt W ao b o n p D := by
  obtain ⟨cs, rfl, hsz⟩ := okWide_struct Try.underlying24 hv
  obtain ⟨c0, rfl⟩ := array1 (hsz.trans Try.cells24)
  obtain ⟨fuel, hf⟩ := h
  obtain ⟨y0, n, _, _, h0⟩ := trod_struct1 Try.underlying24 hf
  obtain ⟨ao, b, o, n', c, p, D, hcs, hN⟩ := slots_open h0
  simp [Value.cells, Try.cells22] at hcs
  subst hcs
  exact ⟨ao, b, o, n', c, p, D, rfl, hN⟩

set_option maxRecDepth 100000 in
theorem key_arg {H : Type} {enc : TypeId × Value → H} {W : World} {held : Bool} {r : Reach} {b0 : Nat} {v : Value} {d : DataW H} {q : List MemPlace}
    (hv : Value.okWide Try.prog W r b0 35 v) (h : DataW.Trod enc Try.prog W 0 (fun _ => true) held 35 v d q) :
    ∃ k m, v = .agg #[.int .i64 k, .string m] ∧ m.size ≤ 9223372036854775807 := by
  obtain ⟨cs, rfl, hsz⟩ := okWide_struct Try.underlying35 hv
  obtain ⟨c0, c1, rfl⟩ := array2 (hsz.trans Try.cells35)
  obtain ⟨fuel, hf⟩ := h
  obtain ⟨⟨k, m⟩, hcs, hm⟩ := key_open hf
  simp [Value.cells] at hcs
  obtain ⟨rfl, rfl⟩ := hcs
  unfold maxLen at hm
  exact ⟨k, m, rfl, by omega⟩

set_option maxRecDepth 100000 in
theorem keys_arg {H : Type} {enc : TypeId × Value → H} {W : World} {held : Bool} {r : Reach} {b0 : Nat} {v : Value} {d : DataW H} {q : List MemPlace}
    (hv : Value.okWide Try.prog W r b0 49 v) (h : DataW.Trod enc Try.prog W 0 (fun _ => true) held 49 v d q) :
    ∃ ao b o n c K M, v = .slice ao n c ∧ KeysAt W ao b o n K M := by
  obtain ⟨a, l, c', rfl⟩ := okWide_slice Try.underlying49 hv
  obtain ⟨fuel, hf⟩ := h
  obtain ⟨ao, b, o, n, c, K, M, hcs, hN⟩ := keys_open hf
  simp [Value.cells] at hcs
  obtain ⟨rfl, rfl, rfl⟩ := hcs
  exact ⟨_, b, o, _, _, K, M, rfl, hN⟩

end Go.Proofs.Ytijgiingfgaakaa
