/-
  The contracts of the functions that count.
-/
import Derived.Test.YtfjfnfgaopdfeaaEq
namespace Go.Proofs.Ytfjfnfgaopdfeaa
open Go.RowKit

/-- What a count gives: it never grows, and where it is not below 0 the thing was small. -/
structure Left (L r : Int) (q : Prop) : Prop where
  lo : -1 ≤ r
  hi : r ≤ L
  ok : 0 ≤ r → q

theorem Left.no {L : Int} {q : Prop} (h : 0 ≤ L) : Left L (-1) q := ⟨by omega, by omega, fun h => by omega⟩

set_option maxHeartbeats 400000 in
theorem c22 (ao : Option Addr) (n c : Nat) (L : Int) (w : World) (hL : 0 ≤ L) (hL2 : L ≤ 1048576) (hn : n ≤ 9223372036854775807) :
    Calls Try.prog 22 #[.slice ao n c, .int .i64 L] w fun e w' => ∃ r, e = .returned (.int .i64 r) ∧ Left L r (n ≤ 1048576) ∧ w' = w := by
  by_cases h : L - n < 0
  · go_enter Try.func22, Try.ntmps22
    go_wp2
    go_ret
    exact ⟨-1, rfl, Left.no hL, rfl⟩
  · go_enter Try.func22, Try.ntmps22
    go_wp2
    go_ret
    exact ⟨L - n, rfl, ⟨by omega, by omega, fun _ => by omega⟩, rfl⟩

set_option maxHeartbeats 1000000 in
theorem c21 (ao : Option Addr) (b o n c : Nat) (S : Nat → ByteArray) (L : Int) (w : World) (hL : 0 ≤ L) (hL2 : L ≤ 1048576) (h1 : StrsAt w ao b o n S) :
    Calls Try.prog 21 #[.slice ao n c, .int .i64 L] w fun e w' => ∃ r, e = .returned (.int .i64 r) ∧ Left L r (n ≤ 1048576) ∧ w' = w := by
  have hn := h1.len
  by_cases h : L - n < 0
  · go_enter Try.func21, Try.ntmps21
    go_wp2
    go_ret
    exact ⟨-1, rfl, Left.no hL, rfl⟩
  · go_enter Try.func21, Try.ntmps21
    go_wp2
    go_loop [1, 5] (fun l i => ∃ (k : Nat) (x : Int), k ≤ n ∧ i = .int .i64 k ∧ l = .int .i64 x ∧ 0 ≤ x ∧ x ≤ L) (fun _ i => n - (intOf i).toNat)
    case atStart => exact ⟨0, L - n, Nat.zero_le _, rfl, rfl, by omega, by omega⟩
    case round =>
      obtain ⟨k, x, hk, rfl, rfl, hx, hx2⟩ := hrel
      by_cases hlt : k < n
      · have e1 := h1.at_ (by omega)
        have g1 := h1.cell k hlt
        have hs := h1.size k hlt
        subst e1
        by_cases h3 : x - (S k).size < 0
        · go_wp2
          go_ret
          exact ⟨-1, rfl, Left.no hL, rfl⟩
        · go_wp2
          go_round
          case rel => exact ⟨k + 1, _, by omega, by go_num, rfl, by omega, by omega⟩
          case measure => simp [intOf]; omega
      · go_wp2
        go_ret
        exact ⟨x, rfl, ⟨by omega, by omega, fun _ => by omega⟩, rfl⟩

set_option maxHeartbeats 1000000 in
theorem c15 (p : NP) (d : ND) (L : Int) (w : World) (hL : 0 ≤ L) (hL2 : L ≤ 1048576) (h1 : NodeAt w p d) :
    Calls Try.prog 15 #[ndv p d, .int .i64 L] w fun e w' => ∃ r, e = .returned (.int .i64 r) ∧ Left L r (d.nn ≤ 1048576 ∧ d.nk ≤ 1048576) ∧ Below w.heap.size w w' := by
  have HB : Hid (∀ w', Below w.heap.size w w' → NodeAt w' p d) := fun w' hb => h1.below hb
  have hk := h1.kids.len
  clear h1
  unfold ndv
  go_enter Try.func15, Try.ntmps15
  go_wp2_with fail
  refine (c21 p.a1 p.b1 p.o1 d.nn p.c1 d.nm L _ hL hL2 (by exact (HB.out _ (bel1 _ _)).names)).mono ?_
  rintro e w' ⟨r, rfl, hr, rfl⟩
  by_cases h2 : r < 0
  · go_wp2
    go_ret
    exact ⟨-1, rfl, Left.no hL, bel1 _ _⟩
  · have r1 := hr.hi
    have HR := hr.ok (by omega)
    clear hr
    go_wp2_with fail
    refine (c22 p.a2 d.nk p.c2 r _ (by omega) (by omega) hk).mono ?_
    rintro e w' ⟨r', rfl, hr', rfl⟩
    by_cases h3 : r' < 0
    · go_wp2
      go_ret
      exact ⟨-1, rfl, Left.no hL, bel1 _ _⟩
    · have t1 := hr'.hi
      have t2 := hr'.ok (by omega)
      clear hr'
      go_wp2
      go_ret
      exact ⟨r', rfl, ⟨by omega, by omega, fun _ => ⟨HR, t2⟩⟩, bel1 _ _⟩

set_option maxHeartbeats 1000000 in
theorem c9 (ao : Option Addr) (b o n c : Nat) (p : Nat → NP) (G : Nat → ND) (L : Int) (w : World) (hL : 0 ≤ L) (hL2 : L ≤ 1048576) (h1 : NodesAt w ao b o n p G) :
    Calls Try.prog 9 #[.slice ao n c, .int .i64 L] w fun e w' => ∃ r, e = .returned (.int .i64 r) ∧ Left L r (n ≤ 1048576 ∧ ∀ i, i < n → (G i).nn ≤ 1048576 ∧ (G i).nk ≤ 1048576) ∧ Below w.heap.size w w' := by
  have HB : Hid (∀ w', Below w.heap.size w w' → NodesAt w' ao b o n p G) := fun w' hb => h1.below hb
  have hn := h1.len
  have A1 := h1.at_
  clear h1
  by_cases h : L - n < 0
  · go_enter Try.func9, Try.ntmps9
    go_wp2
    go_ret
    exact ⟨-1, rfl, Left.no hL, Below.refl _ _⟩
  · go_enter Try.func9, Try.ntmps9
    go_wp2
    go_loopw [1, 5] (fun l i wr => ∃ (k : Nat) (x : Int), k ≤ n ∧ i = .int .i64 k ∧ l = .int .i64 x ∧ 0 ≤ x ∧ x ≤ L ∧ Below w.heap.size w wr ∧ Hid (∀ i, i < k → (G i).nn ≤ 1048576 ∧ (G i).nk ≤ 1048576)) (fun _ i _ => n - (intOf i).toNat)
    case atStart => exact ⟨0, L - n, Nat.zero_le _, rfl, rfl, by omega, by omega, Below.refl _ _, fun i hi => absurd hi (Nat.not_lt_zero _)⟩
    case round =>
      obtain ⟨k, x, hk, rfl, rfl, hx, hx2, hb, HA⟩ := hrel
      by_cases hlt : k < n
      · have e1 := A1 (by omega)
        have q1 := HB.out wr hb
        have g0 := q1.c0 k hlt
        have g1 := q1.c1 k hlt
        have g2 := q1.c2 k hlt
        have N1 := q1.node k hlt
        clear q1 HB
        subst e1
        go_wp2_with fail
        refine (c15 (p k) (G k) x _ hx (by omega) N1).mono ?_
        rintro e w' ⟨r, rfl, hr, hb'⟩
        by_cases h3 : r < 0
        · go_wp2
          go_ret
          exact ⟨-1, rfl, Left.no hL, hb.trans (hb'.mono hb.size)⟩
        · have r1 := hr.hi
          have HR : Hid ((G k).nn ≤ 1048576 ∧ (G k).nk ≤ 1048576) := hr.ok (by omega)
          clear hr
          go_wp2
          go_roundw
          case rel => exact ⟨k + 1, r, by omega, by go_num, rfl, by omega, by omega, hb.trans (hb'.mono hb.size), fun i hi => by
            by_cases e : i = k
            · subst e; exact HR.out
            · exact HA.out i (by omega)⟩
          case measure => simp [intOf]; omega
      · go_wp2
        go_ret
        exact ⟨x, rfl, ⟨by omega, by omega, fun _ => ⟨by omega, fun i hi => HA.out i (by omega)⟩⟩, hb⟩

set_option maxHeartbeats 1000000 in
theorem c4 (ao : Option Addr) (b o n c : Nat) (p : Nat → NP) (G : Nat → ND) (L : Int) (w : World) (hL : 0 ≤ L) (hL2 : L ≤ 1048576) (h1 : NodesAt w ao b o n p G) :
    Calls Try.prog 4 #[.agg #[.slice ao n c], .int .i64 L] w fun e w' => ∃ r, e = .returned (.int .i64 r) ∧ Left L r (n ≤ 1048576 ∧ ∀ i, i < n → (G i).nn ≤ 1048576 ∧ (G i).nk ≤ 1048576) ∧ Below w.heap.size w w' := by
  have HB : Hid (∀ w', Below w.heap.size w w' → NodesAt w' ao b o n p G) := fun w' hb => h1.below hb
  clear h1
  go_enter Try.func4, Try.ntmps4
  go_wp2_with fail
  refine (c9 ao b o n c p G L _ hL hL2 (by exact HB.out _ (bel1 _ _))).mono ?_
  rintro e w' ⟨r, rfl, hr, hb⟩
  have hb2 := (bel1 w _).trans (hb.mono (by simp))
  by_cases h3 : r < 0
  · go_wp2
    go_ret
    exact ⟨-1, rfl, Left.no hL, hb2⟩
  · go_wp2
    go_ret
    exact ⟨r, rfl, hr, hb2⟩

end Go.Proofs.Ytfjfnfgaopdfeaa
