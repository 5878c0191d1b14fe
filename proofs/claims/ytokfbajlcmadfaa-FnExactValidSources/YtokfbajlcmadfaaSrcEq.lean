/-
  Sources: the contracts of the functions that compare and count.
-/
import Derived.Test.YtokfbajlcmadfaaProg
import Derived.Test.YtokfbajlcmadfaaSrc
import Derived.WalkKit
import Derived.WalkSpells
import Derived.WalkLawsBesides
import Derived.Deep.QuietTactic
import Derived.BigQuiet
import Derived.Deep.RegionWith
namespace Go.Proofs.Ytokfbajlcmadfaa
open Go.RowKit

theorem sbel1 (w : World) (o1 : Obj) : Below w.heap.size w (w.alloc o1) := (Below.refl _ _).alloc (Nat.le_refl _) _
theorem sbel2 (w : World) (o1 o2 : Obj) : Below w.heap.size w ((w.alloc o1).alloc o2) := (sbel1 w o1).alloc (by simp) _
theorem sbel3 (w : World) (o1 o2 o3 : Obj) : Below w.heap.size w (((w.alloc o1).alloc o2).alloc o3) := (sbel2 w o1 o2).alloc (by simp; omega) _

set_option maxHeartbeats 1000000 in
theorem c15 (s t : ByteArray) (w : World) :
    Calls Try.prog 27 #[.agg #[.string s, .string t], .agg #[.string s, .string t]] w fun e w' => e = .returned (.bool true) ∧ Below w.heap.size w w' := by
  go_enter Try.func27, Try.ntmps27
  go_wp2
  go_ret
  exact ⟨rfl, sbel2 _ _ _⟩

set_option maxHeartbeats 2000000 in
theorem c8 (ao ao' : Option Addr) (b o c b' o' c' n : Nat) (S T : Nat → ByteArray) (w : World) (h1 : SrcsAt w ao b o n S T) (h2 : SrcsAt w ao' b' o' n S T) :
    Calls Try.prog 10 #[.slice ao n c, .slice ao' n c'] w fun e w' => e = .returned (.bool true) ∧ Below w.heap.size w w' := by
  have hlen := h1.len
  have HB : Hid (∀ w', Below w.heap.size w w' → SrcsAt w' ao b o n S T ∧ SrcsAt w' ao' b' o' n S T) := fun w' hb => ⟨h1.below hb, h2.below hb⟩
  have A1 := h1.at_
  have A2 := h2.at_
  clear h1 h2
  go_enter Try.func10, Try.ntmps10
  go_wp2
  go_loopw [5] (fun i wr => ∃ k : Nat, k ≤ n ∧ i = .int .i64 k ∧ Below w.heap.size w wr) (fun i _ => n - (intOf i).toNat)
  case atStart => exact ⟨0, Nat.zero_le _, rfl, Below.refl _ _⟩
  case round =>
    obtain ⟨k, hk, rfl, hb⟩ := hrel
    by_cases hlt : k < n
    · have e1 := A1 (by omega)
      have e2 := A2 (by omega)
      obtain ⟨q1, q2⟩ := HB.out wr hb
      have g0 := q1.c0 k hlt
      have g1 := q1.c1 k hlt
      have f0 := q2.c0 k hlt
      have f1 := q2.c1 k hlt
      clear q1 q2 HB
      subst e1 e2
      go_wp2
      go_region_with (go_at_call 27; refine (c15 (S k) (T k) _).mono ?_; rintro e w' ⟨rfl, hb'⟩)
      all_goals
        go_wp2
        go_roundw
        case rel => exact ⟨k + 1, by omega, by go_num, hb.trans (Below.trans (Below.refl _ _).drew (hb'.mono hb.size))⟩
        case measure => simp [intOf]; omega
    · go_wp2
      go_ret
      exact ⟨rfl, hb⟩

/-- What a count gives: it never grows, and where it is not below 0 the thing was small. -/
structure Left (L r : Int) (q : Prop) : Prop where
  lo : -1 ≤ r
  hi : r ≤ L
  ok : 0 ≤ r → q

theorem Left.no {L : Int} {q : Prop} (h : 0 ≤ L) : Left L (-1) q := ⟨by omega, by omega, fun h => by omega⟩

set_option maxHeartbeats 1000000 in
theorem c9 (s t : ByteArray) (L : Int) (w : World) (hL : 0 ≤ L) (hL2 : L ≤ 1048576) (hs : s.size ≤ 9223372036854775807) (ht : t.size ≤ 9223372036854775807) :
    Calls Try.prog 21 #[.agg #[.string s, .string t], .int .i64 L] w fun e w' => ∃ r, e = .returned (.int .i64 r) ∧ Left L r (s.size ≤ 1048576 ∧ t.size ≤ 1048576) ∧ Below w.heap.size w w' := by
  by_cases h : L - s.size < 0
  · go_enter Try.func21, Try.ntmps21
    go_wp2
    go_ret
    exact ⟨-1, rfl, Left.no hL, sbel1 _ _⟩
  · by_cases h' : L - s.size - t.size < 0
    · go_enter Try.func21, Try.ntmps21
      go_wp2
      go_ret
      exact ⟨-1, rfl, Left.no hL, sbel1 _ _⟩
    · go_enter Try.func21, Try.ntmps21
      go_wp2
      go_ret
      exact ⟨L - s.size - t.size, rfl, ⟨by omega, by omega, fun _ => by omega⟩, sbel1 _ _⟩

set_option maxHeartbeats 1000000 in
theorem c4 (ao : Option Addr) (b o n c : Nat) (S T : Nat → ByteArray) (L : Int) (w : World) (hL : 0 ≤ L) (hL2 : L ≤ 1048576) (h1 : SrcsAt w ao b o n S T) :
    Calls Try.prog 6 #[.slice ao n c, .int .i64 L] w fun e w' => ∃ r, e = .returned (.int .i64 r) ∧ Left L r (n ≤ 1048576 ∧ ∀ i, i < n → (S i).size ≤ 1048576 ∧ (T i).size ≤ 1048576) ∧ Below w.heap.size w w' := by
  have HB : Hid (∀ w', Below w.heap.size w w' → SrcsAt w' ao b o n S T) := fun w' hb => h1.below hb
  have hn := h1.len
  have A1 := h1.at_
  clear h1
  by_cases h : L - n < 0
  · go_enter Try.func6, Try.ntmps6
    go_wp2
    go_ret
    exact ⟨-1, rfl, Left.no hL, Below.refl _ _⟩
  · go_enter Try.func6, Try.ntmps6
    go_wp2
    go_loopw [1, 5] (fun l i wr => ∃ (k : Nat) (x : Int), k ≤ n ∧ i = .int .i64 k ∧ l = .int .i64 x ∧ 0 ≤ x ∧ x ≤ L ∧ Below w.heap.size w wr ∧ Hid (∀ i, i < k → (S i).size ≤ 1048576 ∧ (T i).size ≤ 1048576)) (fun _ i _ => n - (intOf i).toNat)
    case atStart => exact ⟨0, L - n, Nat.zero_le _, rfl, rfl, by omega, by omega, Below.refl _ _, fun i hi => absurd hi (Nat.not_lt_zero _)⟩
    case round =>
      obtain ⟨k, x, hk, rfl, rfl, hx, hx2, hb, HA⟩ := hrel
      by_cases hlt : k < n
      · have e1 := A1 (by omega)
        have q1 := HB.out wr hb
        have g0 := q1.c0 k hlt
        have g1 := q1.c1 k hlt
        have z0 := q1.sizeS k hlt
        have z1 := q1.sizeT k hlt
        clear q1 HB
        subst e1
        go_wp2_with fail
        refine (c9 (S k) (T k) x _ hx (by omega) z0 z1).mono ?_
        rintro e w' ⟨r, rfl, hr, hb'⟩
        by_cases h3 : r < 0
        · go_wp2
          go_ret
          exact ⟨-1, rfl, Left.no hL, hb.trans (hb'.mono hb.size)⟩
        · have r1 := hr.hi
          have HR : Hid ((S k).size ≤ 1048576 ∧ (T k).size ≤ 1048576) := hr.ok (by omega)
          clear hr
          go_wp2
          go_roundw
          case rel => exact ⟨k + 1, r, by omega, by go_num, rfl, by omega, by omega, hb.trans (hb'.mono hb.size), fun i hi => by
            by_cases e : i = k
            · subst e; exact HR.out
            · exact HA.out i (by omega)⟩
          case measure => simp [intOf]; omega
      · go_wp2
        go_ret
        exact ⟨x, rfl, ⟨by omega, by omega, fun _ => ⟨by omega, fun i hi => HA.out i (by omega)⟩⟩, hb⟩

end Go.Proofs.Ytokfbajlcmadfaa
