/-
  Outcomes: the contracts of the functions that compare.
-/
import Derived.Test.YtdolejkpnpchaaaDoorOutW
namespace Go.Proofs.YtdolejkpnpchaaaDoor
open Go.RowKit

set_option maxHeartbeats 1000000 in
theorem e_diag (x y : Int) (w : World) :
    Calls Tryd.prog 60 #[.agg #[.int .i64 x, .int .i64 y], .agg #[.int .i64 x, .int .i64 y]] w fun e w' => e = .returned (.bool true) ∧ Below w.heap.size w w' := by
  go_enter Tryd.func60, Tryd.ntmps60
  go_wp2
  go_ret
  exact ⟨rfl, bel2 _ _ _⟩

/-- Findings in memory. -/
structure DgAt (W : World) (od : Option Addr) (gd nd : Nat) (dg : Nat → Int × Int) : Prop where
  here : 0 < nd → od = some ⟨gd, 0, none⟩
  c0 : ∀ j, j < nd → W.cell? ⟨gd, j * 2, none⟩ = some (.int .i64 (dg j).1)
  c1 : ∀ j, j < nd → W.cell? ⟨gd, j * 2 + 1, none⟩ = some (.int .i64 (dg j).2)
theorem DgAt.below {W W' : World} {od : Option Addr} {gd nd : Nat} {dg : Nat → Int × Int} (h : DgAt W od gd nd dg) (hb : Below W.heap.size W W') : DgAt W' od gd nd dg :=
  ⟨h.here, fun j hj => cell_kept (h.c0 j hj) hb, fun j hj => cell_kept (h.c1 j hj) hb⟩
theorem AnsAt.dgs {W : World} {oa : Option Addr} {ga n : Nat} {A : Nat → AD} {P : Nat → Option Addr × Nat × Nat} (h : AnsAt W oa ga n A P) {i : Nat} (hi : i < n) : DgAt W (P i).1 (P i).2.1 (A i).nd (A i).dg := ⟨h.dh i hi, h.d0 i hi, h.d1 i hi⟩

set_option maxHeartbeats 2000000 in
theorem e_diags (od od' : Option Addr) (gd gd' nd c c' : Nat) (dg : Nat → Int × Int) (w : World) (hlen : nd ≤ 1048576) (h1 : DgAt w od gd nd dg) (h2 : DgAt w od' gd' nd dg) :
    Calls Tryd.prog 49 #[.slice od nd c, .slice od' nd c'] w fun e w' => e = .returned (.bool true) ∧ Below w.heap.size w w' := by
  have HB : Hid (∀ w', Below w.heap.size w w' → DgAt w' od gd nd dg ∧ DgAt w' od' gd' nd dg) := fun w' hb => ⟨h1.below hb, h2.below hb⟩
  have A1 := h1.here
  have A2 := h2.here
  clear h1 h2
  go_enter Tryd.func49, Tryd.ntmps49
  go_wp2
  go_loopw [5] (fun i wr => ∃ k : Nat, k ≤ nd ∧ i = .int .i64 k ∧ Below w.heap.size w wr) (fun i _ => nd - (intOf i).toNat)
  case atStart => exact ⟨0, Nat.zero_le _, rfl, Below.refl _ _⟩
  case round =>
    obtain ⟨k, hk, rfl, hb⟩ := hrel
    by_cases hlt : k < nd
    · have e1 := A1 (by omega)
      have e2 := A2 (by omega)
      obtain ⟨q1, q2⟩ := HB.out wr hb
      have g0 := q1.c0 k hlt
      have g1 := q1.c1 k hlt
      have f0 := q2.c0 k hlt
      have f1 := q2.c1 k hlt
      clear q1 q2 HB
      subst e1 e2
      go_wp2
      go_region_with (go_at_call 60; refine (e_diag (dg k).1 (dg k).2 _).mono ?_; rintro e w' ⟨rfl, hb'⟩)
      all_goals
        go_wp2
        go_roundw
        case rel => exact ⟨k + 1, by omega, by go_num, hb.trans (Below.trans (Below.refl _ _).drew (hb'.mono hb.size))⟩
        case measure => simp [intOf]; omega
    · go_wp2
      go_ret
      exact ⟨rfl, hb⟩

set_option maxHeartbeats 2000000 in
theorem e_answer (a : AD) (od od' : Option Addr) (gd gd' c c' : Nat) (w : World) (hlen : a.nd ≤ 1048576) (h1 : DgAt w od gd a.nd a.dg) (h2 : DgAt w od' gd' a.nd a.dg) :
    Calls Tryd.prog 37 #[.agg #[.int .i64 a.call, .string a.name, .int .i64 a.rev, .bool a.full, .slice od a.nd c], .agg #[.int .i64 a.call, .string a.name, .int .i64 a.rev, .bool a.full, .slice od' a.nd c']] w fun e w' => e = .returned (.bool true) ∧ Below w.heap.size w w' := by
  have HB : Hid (∀ w', Below w.heap.size w w' → DgAt w' od gd a.nd a.dg ∧ DgAt w' od' gd' a.nd a.dg) := fun w' hb => ⟨h1.below hb, h2.below hb⟩
  clear h1 h2
  go_enter Tryd.func37, Tryd.ntmps37
  go_wp2_with fail
  obtain ⟨q1, q2⟩ := HB.out _ (bel2 w _ _)
  refine (e_diags od od' gd gd' a.nd c c' a.dg _ hlen q1 q2).mono ?_
  rintro e w' ⟨rfl, hb'⟩
  have hb := hid_of ((bel2 w _ _).trans (hb'.mono (by simp; omega)))
  clear q1 q2 hb'
  go_wp2
  go_ret
  exact ⟨rfl, hb.out⟩

set_option maxHeartbeats 1000000 in
theorem e_ran (kd : Int) (md : ByteArray) (rv wk : Int) (w : World) :
    Calls Tryd.prog 38 #[.agg #[.int .i64 kd, .string md, .int .i64 rv, .int .i64 wk], .agg #[.int .i64 kd, .string md, .int .i64 rv, .int .i64 wk]] w fun e w' => e = .returned (.bool true) ∧ Below w.heap.size w w' := by
  go_enter Tryd.func38, Tryd.ntmps38
  go_wp2_with fail
  refine (c41 kd md _).mono ?_
  rintro e w1 ⟨rfl, hb1⟩
  have B1 := hid_of ((bel2 w _ _).trans (hb1.mono (by simp; omega)))
  have R1 := ((rowt4 w (.int .i64 kd) (.string md) (.int .i64 rv) (.int .i64 wk) 55).alloc (.cells #[.int .i64 kd, .string md, .int .i64 rv, .int .i64 wk] 55)).of_block (hb1.block _ (by simp; omega))
  have R2 := (rowt4 (w.alloc (.cells #[.int .i64 kd, .string md, .int .i64 rv, .int .i64 wk] 55)) (.int .i64 kd) (.string md) (.int .i64 rv) (.int .i64 wk) 55).of_block (hb1.block _ (by simp))
  simp only [World.size_alloc] at R2
  obtain ⟨⟨x0, x1, x2, x3⟩, _⟩ := four_at R1
  obtain ⟨⟨y0, y1, y2, y3⟩, _⟩ := four_at R2
  clear R1 R2 hb1
  go_wp2
  go_ret
  exact ⟨rfl, B1.out⟩

set_option maxHeartbeats 2000000 in
theorem e_rans (oa oa' : Option Addr) (ga ga' n c c' : Nat) (R : Nat → RD) (w : World) (hlen : n ≤ 1048576) (h1 : RanAt w oa ga n R) (h2 : RanAt w oa' ga' n R) :
    Calls Tryd.prog 25 #[.slice oa n c, .slice oa' n c'] w fun e w' => e = .returned (.bool true) ∧ Below w.heap.size w w' := by
  have HB : Hid (∀ w', Below w.heap.size w w' → RanAt w' oa ga n R ∧ RanAt w' oa' ga' n R) := fun w' hb => ⟨h1.below hb, h2.below hb⟩
  have A1 := h1.here
  have A2 := h2.here
  clear h1 h2
  go_enter Tryd.func25, Tryd.ntmps25
  go_wp2
  go_loopw [5] (fun i wr => ∃ k : Nat, k ≤ n ∧ i = .int .i64 k ∧ Below w.heap.size w wr) (fun i _ => n - (intOf i).toNat)
  case atStart => exact ⟨0, Nat.zero_le _, rfl, Below.refl _ _⟩
  case round =>
    obtain ⟨k, hk, rfl, hb⟩ := hrel
    by_cases hlt : k < n
    · have e1 := A1 (by omega)
      have e2 := A2 (by omega)
      obtain ⟨q1, q2⟩ := HB.out wr hb
      have g0 := q1.c0 k hlt
      have g1 := q1.c1 k hlt
      have g2 := q1.c2 k hlt
      have g3 := q1.c3 k hlt
      have f0 := q2.c0 k hlt
      have f1 := q2.c1 k hlt
      have f2 := q2.c2 k hlt
      have f3 := q2.c3 k hlt
      clear q1 q2 HB
      subst e1 e2
      go_wp2
      go_region_with (go_at_call 38; refine (e_ran (R k).kind (R k).mod (R k).rev (R k).wk _).mono ?_; rintro e w' ⟨rfl, hb'⟩)
      all_goals
        go_wp2
        go_roundw
        case rel => exact ⟨k + 1, by omega, by go_num, hb.trans (Below.trans (Below.refl _ _).drew (hb'.mono hb.size))⟩
        case measure => simp [intOf]; omega
    · go_wp2
      go_ret
      exact ⟨rfl, hb⟩

set_option maxHeartbeats 2000000 in
theorem e_answers (oa oa' : Option Addr) (ga ga' n c c' : Nat) (A : Nat → AD) (P P' : Nat → Option Addr × Nat × Nat) (w : World) (hlen : n ≤ 1048576) (hd : ∀ i, i < n → (A i).nd ≤ 1048576) (h1 : AnsAt w oa ga n A P) (h2 : AnsAt w oa' ga' n A P') :
    Calls Tryd.prog 24 #[.slice oa n c, .slice oa' n c'] w fun e w' => e = .returned (.bool true) ∧ Below w.heap.size w w' := by
  have HB : Hid (∀ w', Below w.heap.size w w' → AnsAt w' oa ga n A P ∧ AnsAt w' oa' ga' n A P') := fun w' hb => ⟨h1.below hb, h2.below hb⟩
  have HD : Hid (∀ i, i < n → (A i).nd ≤ 1048576) := hd
  have A1 := h1.here
  have A2 := h2.here
  clear h1 h2 hd
  go_enter Tryd.func24, Tryd.ntmps24
  go_wp2
  go_loopw [5] (fun i wr => ∃ k : Nat, k ≤ n ∧ i = .int .i64 k ∧ Below w.heap.size w wr) (fun i _ => n - (intOf i).toNat)
  case atStart => exact ⟨0, Nat.zero_le _, rfl, Below.refl _ _⟩
  case round =>
    obtain ⟨k, hk, rfl, hb⟩ := hrel
    by_cases hlt : k < n
    · have e1 := A1 (by omega)
      have e2 := A2 (by omega)
      obtain ⟨q1, q2⟩ := HB.out wr hb
      have g0 := q1.c0 k hlt
      have g1 := q1.c1 k hlt
      have g2 := q1.c2 k hlt
      have g3 := q1.c3 k hlt
      have g4 := q1.c4 k hlt
      have f0 := q2.c0 k hlt
      have f1 := q2.c1 k hlt
      have f2 := q2.c2 k hlt
      have f3 := q2.c3 k hlt
      have f4 := q2.c4 k hlt
      have CE := hid_of (e_answer (A k) (P k).1 (P' k).1 (P k).2.1 (P' k).2.1 (P k).2.2 (P' k).2.2 wr (HD.out k hlt) (q1.dgs hlt) (q2.dgs hlt))
      have CE2 := hid_of (e_answer (A k) (P k).1 (P' k).1 (P k).2.1 (P' k).2.1 (P k).2.2 (P' k).2.2 wr.drew (HD.out k hlt) ⟨(q1.dgs hlt).here, (q1.dgs hlt).c0, (q1.dgs hlt).c1⟩ ⟨(q2.dgs hlt).here, (q2.dgs hlt).c0, (q2.dgs hlt).c1⟩)
      clear q1 q2 HB
      subst e1 e2
      go_wp2
      go_region_with (go_at_call 37; (first | (with_reducible refine CE2.out.mono ?_) | (with_reducible refine CE.out.mono ?_)); rintro e w' ⟨rfl, hb'⟩)
      all_goals
        clear CE CE2
        go_wp2
        go_roundw
        case rel => exact ⟨k + 1, by omega, by go_num, hb.trans (Below.trans (Below.refl _ _).drew (hb'.mono hb.size))⟩
        case measure => simp [intOf]; omega
    · go_wp2
      go_ret
      exact ⟨rfl, hb⟩
end Go.Proofs.YtdolejkpnpchaaaDoor
