/-
  Outcomes: the contracts of the functions that count.
-/
import Derived.Test.YtdolejkpnpchaaaDoorOutD
import Derived.Test.YtdolejkpnpchaaaDoorTabSz
namespace Go.Proofs.YtdolejkpnpchaaaDoor
open Go.RowKit

/-- Where the findings of an answer lie. -/
structure DP where
  a : Option Addr
  b : Nat
  o : Nat
  c : Nat
/-- Answers in memory, from any place on. -/
structure AnsO (W : World) (oa : Option Addr) (ga o n : Nat) (A : Nat → AD) (P : Nat → DP) : Prop where
  here : 0 < n → oa = some ⟨ga, o, none⟩
  c0 : ∀ i, i < n → W.cell? ⟨ga, o + i * 5, none⟩ = some (.int .i64 (A i).call)
  c1 : ∀ i, i < n → W.cell? ⟨ga, o + i * 5 + 1, none⟩ = some (.string (A i).name)
  c2 : ∀ i, i < n → W.cell? ⟨ga, o + i * 5 + 2, none⟩ = some (.int .i64 (A i).rev)
  c3 : ∀ i, i < n → W.cell? ⟨ga, o + i * 5 + 3, none⟩ = some (.bool (A i).full)
  c4 : ∀ i, i < n → W.cell? ⟨ga, o + i * 5 + 4, none⟩ = some (.slice (P i).a (A i).nd (P i).c)
  dh : ∀ i, i < n → 0 < (A i).nd → (P i).a = some ⟨(P i).b, (P i).o, none⟩
  d0 : ∀ i, i < n → ∀ j, j < (A i).nd → W.cell? ⟨(P i).b, (P i).o + j * 2, none⟩ = some (.int .i64 ((A i).dg j).1)
  d1 : ∀ i, i < n → ∀ j, j < (A i).nd → W.cell? ⟨(P i).b, (P i).o + j * 2 + 1, none⟩ = some (.int .i64 ((A i).dg j).2)
/-- Keys that ran, in memory, from any place on. -/
structure RanO (W : World) (oa : Option Addr) (ga o n : Nat) (R : Nat → RD) : Prop where
  here : 0 < n → oa = some ⟨ga, o, none⟩
  c0 : ∀ i, i < n → W.cell? ⟨ga, o + i * 4, none⟩ = some (.int .i64 (R i).kind)
  c1 : ∀ i, i < n → W.cell? ⟨ga, o + i * 4 + 1, none⟩ = some (.string (R i).mod)
  c2 : ∀ i, i < n → W.cell? ⟨ga, o + i * 4 + 2, none⟩ = some (.int .i64 (R i).rev)
  c3 : ∀ i, i < n → W.cell? ⟨ga, o + i * 4 + 3, none⟩ = some (.int .i64 (R i).wk)
theorem AnsO.below {W W' : World} {oa : Option Addr} {ga o n : Nat} {A : Nat → AD} {P : Nat → DP} (h : AnsO W oa ga o n A P) (hb : Below W.heap.size W W') : AnsO W' oa ga o n A P :=
  ⟨h.here, fun i hi => cell_kept (h.c0 i hi) hb, fun i hi => cell_kept (h.c1 i hi) hb, fun i hi => cell_kept (h.c2 i hi) hb, fun i hi => cell_kept (h.c3 i hi) hb, fun i hi => cell_kept (h.c4 i hi) hb, h.dh, fun i hi j hj => cell_kept (h.d0 i hi j hj) hb, fun i hi j hj => cell_kept (h.d1 i hi j hj) hb⟩
theorem RanO.below {W W' : World} {oa : Option Addr} {ga o n : Nat} {R : Nat → RD} (h : RanO W oa ga o n R) (hb : Below W.heap.size W W') : RanO W' oa ga o n R :=
  ⟨h.here, fun i hi => cell_kept (h.c0 i hi) hb, fun i hi => cell_kept (h.c1 i hi) hb, fun i hi => cell_kept (h.c2 i hi) hb, fun i hi => cell_kept (h.c3 i hi) hb⟩

set_option maxHeartbeats 1000000 in
theorem s_diags (od : Option Addr) (nd cd : Nat) (L : Int) (w : World) (hL : 0 ≤ L) (hL2 : L ≤ 1048576) (hs : nd ≤ 9223372036854775807) :
    Calls Tryd.prog 40 #[.slice od nd cd, .int .i64 L] w fun e w' => ∃ r, e = .returned (.int .i64 r) ∧ Left L r (nd ≤ 1048576) ∧ Below w.heap.size w w' := by
  by_cases h : L - nd < 0
  · go_enter Tryd.func40, Tryd.ntmps40
    go_wp2
    go_ret
    exact ⟨-1, rfl, Left.no hL, Below.refl _ _⟩
  · go_enter Tryd.func40, Tryd.ntmps40
    go_wp2
    go_ret
    exact ⟨L - nd, rfl, ⟨by omega, by omega, fun _ => by omega⟩, Below.refl _ _⟩

set_option maxHeartbeats 1000000 in
theorem s_answer (call : Int) (nm : ByteArray) (rv : Int) (fl : Bool) (od : Option Addr) (nd cd : Nat) (L : Int) (w : World) (hL : 0 ≤ L) (hL2 : L ≤ 1048576) (hs : nd ≤ 9223372036854775807) (hm : nm.size ≤ 9223372036854775807) :
    Calls Tryd.prog 27 #[.agg #[.int .i64 call, .string nm, .int .i64 rv, .bool fl, .slice od nd cd], .int .i64 L] w fun e w' => ∃ r, e = .returned (.int .i64 r) ∧ Left L r (nm.size ≤ 1048576 ∧ nd ≤ 1048576) ∧ Below w.heap.size w w' := by
  by_cases h : L - nm.size < 0
  · go_enter Tryd.func27, Tryd.ntmps27
    go_wp2
    go_ret
    exact ⟨-1, rfl, Left.no hL, bel1 _ _⟩
  · go_enter Tryd.func27, Tryd.ntmps27
    go_wp2_with fail
    refine (s_diags od nd cd (L - nm.size) _ (by omega) (by omega) hs).mono ?_
    rintro e w' ⟨r, rfl, hr, hb'⟩
    have hb : Below w.heap.size w w' := (bel1 _ _).trans (hb'.mono (by simp))
    have r1 := hr.hi
    by_cases h3 : r < 0
    · go_wp2
      go_ret
      exact ⟨-1, rfl, Left.no hL, hb⟩
    · have h4 := hr.ok (by omega)
      clear hr hb'
      go_wp2
      go_ret
      exact ⟨r, rfl, ⟨by omega, by omega, fun _ => ⟨by omega, h4⟩⟩, hb⟩

/-- Answers whose lengths are lengths. -/
def ALen (A : Nat → AD) (n : Nat) : Prop := ∀ i, i < n → (A i).name.size ≤ 9223372036854775807 ∧ (A i).nd ≤ 9223372036854775807

set_option maxHeartbeats 1000000 in
theorem s_answers (oa : Option Addr) (ga o n ca : Nat) (A : Nat → AD) (P : Nat → DP) (L : Int) (w : World) (hL : 0 ≤ L) (hL2 : L ≤ 1048576) (hn : n ≤ 9223372036854775807) (h1 : AnsO w oa ga o n A P) (h2 : ALen A n) :
    Calls Tryd.prog 9 #[.slice oa n ca, .int .i64 L] w fun e w' => ∃ r, e = .returned (.int .i64 r) ∧ Left L r (n ≤ 1048576 ∧ ∀ i, i < n → (A i).name.size ≤ 1048576 ∧ (A i).nd ≤ 1048576) ∧ Below w.heap.size w w' := by
  have HB : Hid (∀ w', Below w.heap.size w w' → AnsO w' oa ga o n A P) := fun w' hb => h1.below hb
  have A1 := h1.here
  have HL : Hid (ALen A n) := h2
  clear h1 h2
  by_cases h : L - n < 0
  · go_enter Tryd.func9, Tryd.ntmps9
    go_wp2
    go_ret
    exact ⟨-1, rfl, Left.no hL, Below.refl _ _⟩
  · go_enter Tryd.func9, Tryd.ntmps9
    go_wp2
    go_loopw [1, 5] (fun l i wr => ∃ (k : Nat) (x : Int), k ≤ n ∧ i = .int .i64 k ∧ l = .int .i64 x ∧ 0 ≤ x ∧ x ≤ L ∧ Below w.heap.size w wr ∧ Hid (∀ i, i < k → (A i).name.size ≤ 1048576 ∧ (A i).nd ≤ 1048576)) (fun _ i _ => n - (intOf i).toNat)
    case atStart => exact ⟨0, L - n, Nat.zero_le _, rfl, rfl, by omega, by omega, Below.refl _ _, fun i hi => absurd hi (Nat.not_lt_zero _)⟩
    case round =>
      obtain ⟨k, x, hk, rfl, rfl, hx, hx2, hb, HA⟩ := hrel
      by_cases hlt : k < n
      · have e1 := A1 (by omega)
        have q1 := HB.out wr hb
        have g0 := q1.c0 k hlt
        have g1 := q1.c1 k hlt
        have g2 := q1.c2 k hlt
        have g3 := q1.c3 k hlt
        have g4 := q1.c4 k hlt
        obtain ⟨z1, z2⟩ := HL.out k hlt
        clear q1 HB
        subst e1
        go_wp2_with fail
        refine (s_answer (A k).call (A k).name (A k).rev (A k).full (P k).a (A k).nd (P k).c x _ hx (by omega) z2 z1).mono ?_
        rintro e w' ⟨r, rfl, hr, hb'⟩
        by_cases h3 : r < 0
        · go_wp2
          go_ret
          exact ⟨-1, rfl, Left.no hL, hb.trans (hb'.mono hb.size)⟩
        · have r1 := hr.hi
          have HR : Hid ((A k).name.size ≤ 1048576 ∧ (A k).nd ≤ 1048576) := hr.ok (by omega)
          clear hr
          go_wp2
          go_roundw
          case rel => exact ⟨k + 1, r, by omega, by go_num, rfl, by omega, by omega, hb.trans (hb'.mono hb.size), fun i hi => by
            by_cases e : i = k
            · subst e; exact HR.out
            · exact HA.out i (by omega)⟩
          case measure => simp [intOf]; omega
      · go_wp2
        go_ret
        exact ⟨x, rfl, ⟨by omega, by omega, fun _ => ⟨by omega, fun i hi => HA.out i (by omega)⟩⟩, hb⟩

set_option maxHeartbeats 1000000 in
theorem s_ran (kd : Int) (md : ByteArray) (rv wk : Int) (L : Int) (w : World) (hL : 0 ≤ L) (hL2 : L ≤ 1048576) (hm : md.size ≤ 9223372036854775807) :
    Calls Tryd.prog 28 #[.agg #[.int .i64 kd, .string md, .int .i64 rv, .int .i64 wk], .int .i64 L] w fun e w' => ∃ r, e = .returned (.int .i64 r) ∧ Left L r (md.size ≤ 1048576) ∧ Below w.heap.size w w' := by
  go_enter Tryd.func28, Tryd.ntmps28
  go_wp2_with fail
  refine (c12 kd md L _ hL hL2 hm).mono ?_
  rintro e w' ⟨r, rfl, hr, hb'⟩
  have hb : Below w.heap.size w w' := (bel1 _ _).trans (hb'.mono (by simp))
  by_cases h3 : r < 0
  · go_wp2
    go_ret
    exact ⟨-1, rfl, Left.no hL, hb⟩
  · go_wp2
    go_ret
    exact ⟨r, rfl, hr, hb⟩

def RLen (R : Nat → RD) (m : Nat) : Prop := ∀ i, i < m → (R i).mod.size ≤ 9223372036854775807

set_option maxHeartbeats 1000000 in
theorem s_rans (oa : Option Addr) (ga o n ca : Nat) (R : Nat → RD) (L : Int) (w : World) (hL : 0 ≤ L) (hL2 : L ≤ 1048576) (hn : n ≤ 9223372036854775807) (h1 : RanO w oa ga o n R) (h2 : RLen R n) :
    Calls Tryd.prog 10 #[.slice oa n ca, .int .i64 L] w fun e w' => ∃ r, e = .returned (.int .i64 r) ∧ Left L r (n ≤ 1048576 ∧ ∀ i, i < n → (R i).mod.size ≤ 1048576) ∧ Below w.heap.size w w' := by
  have HB : Hid (∀ w', Below w.heap.size w w' → RanO w' oa ga o n R) := fun w' hb => h1.below hb
  have A1 := h1.here
  have HL : Hid (RLen R n) := h2
  clear h1 h2
  by_cases h : L - n < 0
  · go_enter Tryd.func10, Tryd.ntmps10
    go_wp2
    go_ret
    exact ⟨-1, rfl, Left.no hL, Below.refl _ _⟩
  · go_enter Tryd.func10, Tryd.ntmps10
    go_wp2
    go_loopw [1, 5] (fun l i wr => ∃ (k : Nat) (x : Int), k ≤ n ∧ i = .int .i64 k ∧ l = .int .i64 x ∧ 0 ≤ x ∧ x ≤ L ∧ Below w.heap.size w wr ∧ Hid (∀ i, i < k → (R i).mod.size ≤ 1048576)) (fun _ i _ => n - (intOf i).toNat)
    case atStart => exact ⟨0, L - n, Nat.zero_le _, rfl, rfl, by omega, by omega, Below.refl _ _, fun i hi => absurd hi (Nat.not_lt_zero _)⟩
    case round =>
      obtain ⟨k, x, hk, rfl, rfl, hx, hx2, hb, HA⟩ := hrel
      by_cases hlt : k < n
      · have e1 := A1 (by omega)
        have q1 := HB.out wr hb
        have g0 := q1.c0 k hlt
        have g1 := q1.c1 k hlt
        have g2 := q1.c2 k hlt
        have g3 := q1.c3 k hlt
        have z1 := HL.out k hlt
        clear q1 HB
        subst e1
        go_wp2_with fail
        refine (s_ran (R k).kind (R k).mod (R k).rev (R k).wk x _ hx (by omega) z1).mono ?_
        rintro e w' ⟨r, rfl, hr, hb'⟩
        by_cases h3 : r < 0
        · go_wp2
          go_ret
          exact ⟨-1, rfl, Left.no hL, hb.trans (hb'.mono hb.size)⟩
        · have r1 := hr.hi
          have HR : Hid ((R k).mod.size ≤ 1048576) := hr.ok (by omega)
          clear hr
          go_wp2
          go_roundw
          case rel => exact ⟨k + 1, r, by omega, by go_num, rfl, by omega, by omega, hb.trans (hb'.mono hb.size), fun i hi => by
            by_cases e : i = k
            · subst e; exact HR.out
            · exact HA.out i (by omega)⟩
          case measure => simp [intOf]; omega
      · go_wp2
        go_ret
        exact ⟨x, rfl, ⟨by omega, by omega, fun _ => ⟨by omega, fun i hi => HA.out i (by omega)⟩⟩, hb⟩

set_option maxHeartbeats 2000000 in
theorem s_outcome (code drops rev slots : Int) (oa : Option Addr) (ga a0 n ca : Nat) (A : Nat → AD) (P : Nat → DP) (orr : Option Addr) (gr r0 m cr : Nat) (R : Nat → RD) (ot : Option Addr) (bt o nt ct : Nat) (p : Nat → SP) (D : Nat → SD) (L : Int) (w : World) (hL : 0 ≤ L) (hL2 : L ≤ 1048576) (hn : n ≤ 9223372036854775807) (hm : m ≤ 9223372036854775807) (h1 : AnsO w oa ga a0 n A P) (h2 : ALen A n) (h3 : RanO w orr gr r0 m R) (h4 : RLen R m) (h5 : SlotsAt w ot bt o nt p D) :
    Calls Tryd.prog 4 #[.agg #[.int .i64 code, .slice oa n ca, .slice orr m cr, .int .i64 drops, .int .i64 rev, .int .i64 slots, .slice ot nt ct], .int .i64 L] w fun e w' => ∃ r, e = .returned (.int .i64 r) ∧ Left L r ((n ≤ 1048576 ∧ ∀ i, i < n → (A i).name.size ≤ 1048576 ∧ (A i).nd ≤ 1048576) ∧ (m ≤ 1048576 ∧ ∀ i, i < m → (R i).mod.size ≤ 1048576) ∧ (nt ≤ 1048576 ∧ ∀ i, i < nt → small (D i))) ∧ Below w.heap.size w w' := by
  obtain ⟨w1, hw1⟩ : ∃ w1, w1 = w.alloc (.cells #[.int .i64 code, .slice oa n ca, .slice orr m cr, .int .i64 drops, .int .i64 rev, .int .i64 slots, .slice ot nt ct] 28) := ⟨_, rfl⟩
  have r : w1.rowIs w.heap.size 28 7 (fun i => (#[.int .i64 code, .slice oa n ca, .slice orr m cr, .int .i64 drops, .int .i64 rev, .int .i64 slots, .slice ot nt ct] : Array Value)[i]?.getD undef) := by
    rw [hw1]
    exact World.rowIs_alloc w #[.int .i64 code, .slice oa n ca, .slice orr m cr, .int .i64 drops, .int .i64 rev, .int .i64 slots, .slice ot nt ct] 28 _ (fun i hi => by rw [Array.getElem?_eq_getElem hi]; rfl)
  have hs1 : w1.heap.size = w.heap.size + 1 := by rw [hw1]; simp
  have B1 : Below w.heap.size w w1 := by rw [hw1]; exact (Below.refl _ _).alloc (Nat.le_refl _) _
  have HC : Hid (∀ W, Below w1.heap.size w1 W → W.cell? ⟨w.heap.size, 1, none⟩ = some (.slice oa n ca) ∧ W.cell? ⟨w.heap.size, 2, none⟩ = some (.slice orr m cr) ∧ W.cell? ⟨w.heap.size, 6, none⟩ = some (.slice ot nt ct)) := fun W hW => by
    have r2 := r.of_block (hW.block w.heap.size (by omega))
    exact ⟨r2.cell (i := 1) (by omega), r2.cell (i := 2) (by omega), r2.cell (i := 6) (by omega)⟩
  have C1 := hid_of (fun (W : World) (hW : Below w1.heap.size w1 W) => s_answers oa ga a0 n ca A P L W hL hL2 hn (h1.below (B1.trans (hW.mono (by omega)))) h2)
  have HR : Hid (∀ W, Below w1.heap.size w1 W → RanO W orr gr r0 m R) := fun W hW => h3.below (B1.trans (hW.mono (by omega)))
  have HS : Hid (∀ W, Below w1.heap.size w1 W → SlotsAt W ot bt o nt p D) := fun W hW => h5.below (B1.trans (hW.mono (by omega)))
  have H4 : Hid (RLen R m) := h4
  obtain ⟨d1, d2, d3⟩ := HC.out w1 (Below.refl _ _)
  have HB1 : Hid (Below w.heap.size w w1) := B1
  clear r h1 h2 h3 h4 h5 B1
  go_enter Tryd.func4, Tryd.ntmps4
  go_upto_region 1 with fail
  rw [← hw1]
  clear hw1
  go_wp2_with fail
  refine (C1.out _ (Below.refl _ _)).mono ?_
  rintro e w2 ⟨r1, rfl, L1, b2⟩
  clear d1 d2 d3 C1
  obtain ⟨d1, d2, d3⟩ := HC.out w2 b2
  by_cases g1 : r1 < 0
  · go_wp2
    go_ret
    exact ⟨-1, rfl, Left.no hL, HB1.out.trans (b2.mono (by omega))⟩
  · have e1 := L1.hi
    have HL1 := hid_of (L1.ok (by omega))
    clear L1
    go_wp2_with fail
    refine (s_rans orr gr r0 m cr R r1 w2 (by omega) (by omega) hm (HR.out _ b2) H4.out).mono ?_
    rintro e w3 ⟨r2, rfl, L2, b3'⟩
    have b3 : Below w1.heap.size w1 w3 := b2.trans (b3'.mono b2.size)
    clear d1 d2 d3 b3'
    obtain ⟨d1, d2, d3⟩ := HC.out w3 b3
    by_cases g2 : r2 < 0
    · go_wp2
      go_ret
      exact ⟨-1, rfl, Left.no hL, HB1.out.trans (b3.mono (by omega))⟩
    · have e2 := L2.hi
      have HL2 := hid_of (L2.ok (by omega))
      clear L2
      go_wp2_with fail
      refine (c6 ot bt o nt ct p D r2 w3 (by omega) (by omega) (HS.out _ b3)).mono ?_
      rintro e w4 ⟨r3, rfl, L3, b4'⟩
      have b4 : Below w1.heap.size w1 w4 := b3.trans (b4'.mono b3.size)
      clear d1 d2 d3 b4'
      by_cases g3 : r3 < 0
      · go_wp2
        go_ret
        exact ⟨-1, rfl, Left.no hL, HB1.out.trans (b4.mono (by omega))⟩
      · have e3 := L3.hi
        have HL3 := hid_of (L3.ok (by omega))
        clear L3
        go_wp2
        go_ret
        exact ⟨r3, rfl, ⟨by omega, by omega, fun _ => ⟨HL1.out, HL2.out, HL3.out⟩⟩, HB1.out.trans (b4.mono (by omega))⟩
end Go.Proofs.YtdolejkpnpchaaaDoor
