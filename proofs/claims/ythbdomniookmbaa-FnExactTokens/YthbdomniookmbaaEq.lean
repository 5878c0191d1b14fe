/-
  The contracts of the functions that compare.
-/
import Derived.Test.YthbdomniookmbaaProg
import Derived.Test.YthbdomniookmbaaMem
import Derived.WalkKit
import Derived.WalkSpells
import Derived.WalkLawsBesides
import Derived.Deep.QuietTactic
import Derived.BigQuiet
import Derived.Deep.RegionWith
namespace Go.Proofs.Ythbdomniookmbaa
open Go.RowKit

set_option maxHeartbeats 1000000 in
theorem c50 (ao ao' : Option Addr) (b o c b' o' c' n : Nat) (D : Nat → Int) (w : World) (h1 : IntsAt w ao b o n D) (h2 : IntsAt w ao' b' o' n D) :
    Calls Try.prog 50 #[.slice ao n c, .slice ao' n c'] w fun e w' => e = .returned (.bool true) ∧ ∃ k, w' = w.drewN k := by
  have hlen := h1.len
  go_enter Try.func50, Try.ntmps50
  go_wp2
  go_loopw [5] (fun i wr => ∃ k : Nat, k ≤ n ∧ i = .int .i64 k ∧ ∃ m, wr = w.drewN m) (fun i _ => n - (intOf i).toNat)
  case atStart => exact ⟨0, Nat.zero_le _, rfl, 0, rfl⟩
  case round =>
    obtain ⟨k, hk, rfl, m, rfl⟩ := hrel
    by_cases hlt : k < n
    · have e1 := h1.at_ (by omega)
      have e2 := h2.at_ (by omega)
      have g1 := h1.cell k hlt
      have g2 := h2.cell k hlt
      subst e1 e2
      go_wp2
      go_quiet (fail)
      go_wp2
      go_roundw
      case rel => exact ⟨k + 1, by omega, by go_num, _, rfl⟩
      case measure => simp [intOf]; omega
    · go_wp2
      go_ret
      exact ⟨rfl, _, rfl⟩

set_option maxHeartbeats 1000000 in
theorem c49 (ao ao' : Option Addr) (b o c b' o' c' n : Nat) (S : Nat → ByteArray) (w : World) (h1 : StrsAt w ao b o n S) (h2 : StrsAt w ao' b' o' n S) :
    Calls Try.prog 49 #[.slice ao n c, .slice ao' n c'] w fun e w' => e = .returned (.bool true) ∧ ∃ k, w' = w.drewN k := by
  have hlen := h1.len
  go_enter Try.func49, Try.ntmps49
  go_wp2
  go_loopw [5] (fun i wr => ∃ k : Nat, k ≤ n ∧ i = .int .i64 k ∧ ∃ m, wr = w.drewN m) (fun i _ => n - (intOf i).toNat)
  case atStart => exact ⟨0, Nat.zero_le _, rfl, 0, rfl⟩
  case round =>
    obtain ⟨k, hk, rfl, m, rfl⟩ := hrel
    by_cases hlt : k < n
    · have e1 := h1.at_ (by omega)
      have e2 := h2.at_ (by omega)
      have g1 := h1.cell k hlt
      have g2 := h2.cell k hlt
      subst e1 e2
      go_wp2
      go_quiet (fail)
      go_wp2
      go_roundw
      case rel => exact ⟨k + 1, by omega, by go_num, _, rfl⟩
      case measure => simp [intOf]; omega
    · go_wp2
      go_ret
      exact ⟨rfl, _, rfl⟩

theorem bel1 (w : World) (o1 : Obj) : Below w.heap.size w (w.alloc o1) := (Below.refl _ _).alloc (Nat.le_refl _) _
theorem bel2 (w : World) (o1 o2 : Obj) : Below w.heap.size w ((w.alloc o1).alloc o2) := (bel1 w o1).alloc (by simp) _
theorem bel2d (w : World) (o1 o2 : Obj) (k : Nat) : Below w.heap.size w (((w.alloc o1).alloc o2).drewN k) := below_drewN (bel2 w o1 o2) k

set_option maxHeartbeats 1000000 in
theorem c39 (p p' : NP) (d : ND) (w : World) (h1 : NodeAt w p d) (h2 : NodeAt w p' d) :
    Calls Try.prog 39 #[ndv p d, ndv p' d] w fun e w' => e = .returned (.bool true) ∧ Below w.heap.size w w' := by
  have HB : Hid (∀ w', Below w.heap.size w w' → NodeAt w' p d ∧ NodeAt w' p' d) := fun w' hb => ⟨h1.below hb, h2.below hb⟩
  clear h1 h2
  unfold ndv
  go_enter Try.func39, Try.ntmps39
  go_wp2_with fail
  refine (c49 p.a1 p'.a1 p.b1 p.o1 p.c1 p'.b1 p'.o1 p'.c1 d.nn d.nm _ (by exact (HB.out _ (bel2 _ _ _)).1.names) (by exact (HB.out _ (bel2 _ _ _)).2.names)).mono ?_
  rintro e w' ⟨rfl, k, rfl⟩
  go_wp2_with fail
  refine (c50 p.a2 p'.a2 p.b2 p.o2 p.c2 p'.b2 p'.o2 p'.c2 d.nk d.kd _ (by exact (HB.out _ (bel2d _ _ _ _)).1.kids) (by exact (HB.out _ (bel2d _ _ _ _)).2.kids)).mono ?_
  rintro e w' ⟨rfl, k', rfl⟩
  go_wp2
  go_ret
  exact ⟨rfl, bel2d _ _ _ _⟩

set_option maxHeartbeats 2000000 in
theorem c29 (ao ao' : Option Addr) (b o c b' o' c' n : Nat) (p p' : Nat → NP) (G : Nat → ND) (w : World) (h1 : NodesAt w ao b o n p G) (h2 : NodesAt w ao' b' o' n p' G) :
    Calls Try.prog 29 #[.slice ao n c, .slice ao' n c'] w fun e w' => e = .returned (.bool true) ∧ Below w.heap.size w w' := by
  have hlen := h1.len
  have HB : Hid (∀ w', Below w.heap.size w w' → NodesAt w' ao b o n p G ∧ NodesAt w' ao' b' o' n p' G) := fun w' hb => ⟨h1.below hb, h2.below hb⟩
  have A1 := h1.at_
  have A2 := h2.at_
  clear h1 h2
  go_enter Try.func29, Try.ntmps29
  go_wp2
  go_loopw [5] (fun i wr => ∃ k : Nat, k ≤ n ∧ i = .int .i64 k ∧ Below w.heap.size w wr) (fun i _ => n - (intOf i).toNat)
  case atStart => exact ⟨0, Nat.zero_le _, rfl, Below.refl _ _⟩
  case round =>
    obtain ⟨k, hk, rfl, hb⟩ := hrel
    by_cases hlt : k < n
    · have e1 := A1 (by omega)
      have e2 := A2 (by omega)
      obtain ⟨q1, q2⟩ := HB.out wr hb
      have g0 := q1.c0 k hlt
      have g1 := q1.c1 k hlt
      have g2 := q1.c2 k hlt
      have f0 := q2.c0 k hlt
      have f1 := q2.c1 k hlt
      have f2 := q2.c2 k hlt
      have N1 : NodeAt wr.drew (p k) (G k) := (q1.node k hlt).below (Below.refl _ _).drew
      have N2 : NodeAt wr.drew (p' k) (G k) := (q2.node k hlt).below (Below.refl _ _).drew
      clear q1 q2 HB
      subst e1 e2
      go_wp2
      go_region_with (go_at_call 39; refine (c39 (p k) (p' k) (G k) _ N1 N2).mono ?_; rintro e w' ⟨rfl, hb'⟩)
      all_goals
        go_wp2
        go_roundw
        case rel => exact ⟨k + 1, by omega, by go_num, hb.trans (Below.trans (Below.refl _ _).drew (hb'.mono hb.size))⟩
        case measure => simp [intOf]; omega
    · go_wp2
      go_ret
      exact ⟨rfl, hb⟩

set_option maxHeartbeats 1000000 in
theorem c14 (ao ao' : Option Addr) (b o c b' o' c' n : Nat) (p p' : Nat → NP) (G : Nat → ND) (w : World) (h1 : NodesAt w ao b o n p G) (h2 : NodesAt w ao' b' o' n p' G) :
    Calls Try.prog 14 #[.agg #[.slice ao n c], .agg #[.slice ao' n c']] w fun e w' => e = .returned (.bool true) ∧ Below w.heap.size w w' := by
  have HB : Hid (∀ w', Below w.heap.size w w' → NodesAt w' ao b o n p G ∧ NodesAt w' ao' b' o' n p' G) := fun w' hb => ⟨h1.below hb, h2.below hb⟩
  clear h1 h2
  go_enter Try.func14, Try.ntmps14
  go_wp2_with fail
  refine (c29 ao ao' b o c b' o' c' n p p' G _ (by exact (HB.out _ (bel2 _ _ _)).1) (by exact (HB.out _ (bel2 _ _ _)).2)).mono ?_
  rintro e w' ⟨rfl, hb⟩
  go_wp2
  go_ret
  exact ⟨rfl, (bel2 _ _ _).trans (hb.mono (by simp; omega))⟩

end Go.Proofs.Ythbdomniookmbaa
