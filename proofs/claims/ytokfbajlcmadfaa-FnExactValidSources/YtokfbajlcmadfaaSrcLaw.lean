/-
  Sources: the law's own walk.
-/
import Derived.Test.YtokfbajlcmadfaaSrcImpl
import Derived.Test.YtokfbajlcmadfaaSrcSpec
import Derived.Deep.Cut
namespace Go.Proofs.Ytokfbajlcmadfaa
open Go.RowKit

theorem sbeld {w w' : World} (h : Below w.heap.size w w') (k : Nat) : Below w.heap.size w (w'.drewN k) := below_drewN h k

set_option maxHeartbeats 4000000 in
theorem c3 (ao : Option Addr) (b o n c : Nat) (S T : Nat → ByteArray) (w : World) (h1 : SrcsAt w ao b o n S T) :
    Calls Try.prog 3 #[.slice ao n c] w fun e w' => e = .returned (.bool true) ∧ Below w.heap.size w w' := by
  have HB : Hid (∀ w', Below w.heap.size w w' → SrcsAt w' ao b o n S T) := fun w' hb => h1.below hb
  go_enter Try.func3, Try.ntmps3
  go_wp2_with fail
  refine (c4 ao b o n c S T 1048576 _ (by omega) (by omega) h1).mono ?_
  rintro e w1 ⟨r, rfl, hr, B1⟩
  clear h1
  by_cases h3 : r < 0
  · go_wp2
    go_ret
    exact ⟨rfl, B1⟩
  obtain ⟨hn, hG⟩ := hr.ok (by omega)
  have HS : Hid (∀ i, i < n → (S i).size ≤ 1048576) := fun i hi => (hG i hi).1
  clear hr hG
  go_wp2_with fail
  refine (c6 ao b o n c S T _ (by exact HB.out _ B1) hn).mono ?_
  rintro e w2 ⟨rfl, N2, hb2, _⟩
  have B2 : Below w.heap.size w w2 := B1.trans (hb2.mono B1.size)
  go_wp2_with fail
  refine (c5 _ w1.heap.size 0 n n S T _ N2).mono ?_
  rintro e w3 ⟨rfl, m3, rfl⟩
  have B3 : Below w.heap.size w (w2.drewN m3) := sbeld B2 m3
  clear hb2 N2 B1
  generalize hw3 : w2.drewN m3 = W3 at *
  clear hw3 B2
  go_wp2_with fail
  refine (c6 ao b o n c S T _ (by exact HB.out _ B3) hn).mono ?_
  rintro e w4 ⟨rfl, N4, hb4, _⟩
  have B4 : Below w.heap.size w w4 := B3.trans (hb4.mono B3.size)
  clear hb4
  go_wp2_with fail
  refine (c7 _ W3.heap.size 0 n n S T _ N4 HS.out).mono ?_
  rintro e w5 ⟨rfl, hb5⟩
  have B5 : Below w.heap.size w w5 := B4.trans (hb5.mono B4.size)
  have N5 := N4.below hb5
  clear hb5 N4 B4
  go_wp2_with fail
  refine (c6 ao b o n c S T _ (by exact HB.out _ B5) hn).mono ?_
  rintro e w6 ⟨rfl, N6, hb6, _⟩
  have B6 : Below w.heap.size w w6 := B5.trans (hb6.mono B5.size)
  have N56 := N5.below hb6
  clear hb6 N5
  go_wp2_with fail
  refine (c8 _ _ W3.heap.size 0 n w5.heap.size 0 n n S T _ N56 N6).mono ?_
  rintro e w7 ⟨rfl, hb7⟩
  have B7 : Below w.heap.size w w7 := B6.trans (hb7.mono B6.size)
  clear hb7
  go_wp2
  go_ret
  exact ⟨rfl, B7⟩

end Go.Proofs.Ytokfbajlcmadfaa
