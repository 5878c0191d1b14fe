/-
  Tables: the contract of the program's look at one slot, whole.
-/
import Derived.Test.YtefplfcfoapnjaaTabJ
import Derived.Deep.RegionHeld
namespace Go.Proofs.Ytefplfcfoapnjaa
open Go.RowKit

set_option maxRecDepth 100000 in
set_option maxHeartbeats 8000000 in
theorem c52 (eb : Nat) (p : SP) (d : SD) (w : World) (h1 : SlotAt w p d) (x0 : w.cell? ⟨eb, 0, none⟩ = some (.int .i64 d.k)) (x1 : w.cell? ⟨eb, 1, none⟩ = some (.string d.m)) (x2 : w.cell? ⟨eb, 2, none⟩ = some (.int .i64 d.sin))
    (x3 : w.cell? ⟨eb, 3, none⟩ = some (.int .i64 d.own)) (x4 : w.cell? ⟨eb, 4, none⟩ = some (.bool d.has)) (x5 : w.cell? ⟨eb, 5, none⟩ = some (.string d.v)) (x6 : w.cell? ⟨eb, 6, none⟩ = some (.slice p.a d.n p.c))
    (x7 : w.cell? ⟨eb, 7, none⟩ = some (.int .i64 d.ver)) (x8 : w.cell? ⟨eb, 8, none⟩ = some (.int .i64 d.chg)) :
    Calls Try.prog 52 #[.pointer (some ⟨eb, 0, none⟩)] w fun e w' => e = .returned (.bool (sv d)) ∧ Below w.heap.size w w' := by
  have HB : Hid (∀ w', Below w.heap.size w w' → SlotAt w' p d) := fun w' hb => h1.below hb
  have hsm := h1.sm
  have hsv := h1.sv
  have hlo := h1.lo
  have hhi := h1.hi
  clear h1
  have hlt : eb < w.heap.size := World.block_lt_of_cell? _ _ x0
  go_enter Try.func52, Try.ntmps52
  go_wp2_with fail
  refine (c55 d.k d.m _ hsm).mono ?_
  rintro e w1 ⟨rfl, hb1⟩
  rw [← hb1.cell (p := ⟨eb, 2, none⟩) hlt] at x2
  rw [← hb1.cell (p := ⟨eb, 3, none⟩) hlt] at x3
  rw [← hb1.cell (p := ⟨eb, 4, none⟩) hlt] at x4
  rw [← hb1.cell (p := ⟨eb, 5, none⟩) hlt] at x5
  rw [← hb1.cell (p := ⟨eb, 6, none⟩) hlt] at x6
  rw [← hb1.cell (p := ⟨eb, 7, none⟩) hlt] at x7
  rw [← hb1.cell (p := ⟨eb, 8, none⟩) hlt] at x8
  clear x0 x1
  cases hk : kv d.k d.m
  · have HV : Hid (sv d = false) := svi_key hk
    go_wp2
    go_ret
    exact ⟨ret_bool HV.out.symm, hb1⟩
  have HK : Hid (kv d.k d.m = true) := hk
  clear hk
  obtain ⟨x, hx⟩ : ∃ x, x = IntKind.i64.wrap (d.own - 1) := ⟨_, rfl⟩
  have HW := worker_held hlo hhi hx
  obtain ⟨q, hq⟩ : ∃ q : Bool, q = decide (0 ≤ x ∧ x < 16) := ⟨_, rfl⟩
  obtain ⟨s1, hs1⟩ : ∃ q : Bool, q = decide (1 ≤ d.sin) := ⟨_, rfl⟩
  obtain ⟨a0, ha0⟩ : ∃ q : Bool, (d.own == 0) = q := ⟨_, rfl⟩
  obtain ⟨a1, ha1⟩ : ∃ q : Bool, (d.sin == 0) = q := ⟨_, rfl⟩
  have C56 : Hid (∀ W, Calls Try.prog 56 #[.int .i64 x] W fun e w' => e = .returned (.bool q) ∧ w' = W) := fun W => by rw [hq]; exact c56 x W
  have C57 : Hid (∀ W, Calls Try.prog 57 #[.int .i64 d.sin] W fun e w' => e = .returned (.bool s1) ∧ w' = W) := fun W => by rw [hs1]; exact c57 d.sin W
  have HF : Hid (decide (free d) = (a0 && a1)) := by
    show decide (free d) = (a0 && a1)
    rw [← ha0, ← ha1]; exact free_b d
  have HH : Hid (decide (held d) = (q && s1)) := by
    show decide (held d) = (q && s1)
    rw [hq, hs1]; exact held_b HW
  have I1 : ¬ (q = true ∧ a0 = true) := fun ⟨u, v⟩ => by
    rw [hq, decide_eq_true_eq, HW] at u
    rw [← ha0, beq_iff_eq] at v
    omega
  have I2 : ¬ (s1 = true ∧ a1 = true) := fun ⟨u, v⟩ => by
    rw [hs1, decide_eq_true_eq] at u
    rw [← ha1, beq_iff_eq] at v
    omega
  have hx' := hx.symm
  clear hq hs1 HW hx hlo hhi hsm
  cases hh : d.has
  · have HV : Hid (sv d = decide (held d ∧ d.v.size = 0 ∧ d.n = 0 ∧ d.ver = 0 ∧ d.chg = 0)) := svi_none HK.out hh
    rw [hh] at x4
    clear hh HK
    by_cases hb : (q && s1) = true
    · have HE : Hid (∀ r : Bool, (r = true ↔ (d.v.toList = [] ∧ d.n = 0 ∧ d.ver = 0 ∧ d.chg = 0)) → r = sv d) := fun r hr => by
        have : held d := of_decide_eq_true (by rw [HH.out]; exact hb)
        rw [HV.out, Bool.eq_iff_iff, hr, decide_eq_true_iff, size_toList]
        exact ⟨fun h => ⟨this, h⟩, fun h => h.2⟩
      obtain ⟨rfl, rfl⟩ : q = true ∧ s1 = true := by simpa using hb
      obtain rfl : a0 = false := by cases a0; rfl; exact absurd ⟨rfl, rfl⟩ I1
      obtain rfl : a1 = false := by cases a1; rfl; exact absurd ⟨rfl, rfl⟩ I2
      clear hb I1 I2 HV HF HH
      go_wp2_with (first | (go_at_call 56; refine (C56.out _).mono ?_; rintro e w2 ⟨rfl, rfl⟩) | (go_at_call 57; refine (C57.out _).mono ?_; rintro e w3 ⟨rfl, rfl⟩))
      all_goals
        clear x2 x3 x4 x5 x6 x7 x8 C56 C57 ha0 ha1 hx' HB
        go_ret
        exact ⟨ret_bool (HE.out _ (by simp [*])), hb1⟩
    · have HN : Hid (sv d = false) := by
        show sv d = false
        rw [HV.out]; refine decide_eq_false (fun c => hb ?_); rw [← HH.out]; exact decide_eq_true c.1
      clear HV HF HH
      cases q <;> cases s1 <;> cases a0 <;> cases a1 <;> first
        | (exfalso; revert I1; decide)
        | (exfalso; revert I2; decide)
        | (exfalso; revert hb; decide)
        | (clear hb I1 I2
           go_wp2_with (first | (go_at_call 56; refine (C56.out _).mono ?_; rintro e w2 ⟨rfl, rfl⟩) | (go_at_call 57; refine (C57.out _).mono ?_; rintro e w3 ⟨rfl, rfl⟩))
           go_ret
           exact ⟨ret_bool HN.out.symm, hb1⟩)
  · have HV : Hid (sv d = (decide (free d ∨ held d) && (decide (1 ≤ d.chg) && (decide (d.chg ≤ d.ver) && dv d.n d.dk d.dm)))) := svi_has HK.out hh
    have HO : Hid (decide (free d ∨ held d) = ((a0 && a1) || (q && s1))) := by
      show decide (free d ∨ held d) = _
      rw [← HF.out, ← HH.out]; simp
    rw [hh] at x4
    have C72 : Hid (Calls Try.prog 72 #[.slice p.a d.n p.c] w1.drew fun e w' => e = .returned (.bool (dv d.n d.dk d.dm)) ∧ Hid (Below w1.heap.size w1 w')) := (c72 p.a p.b p.o d.n p.c d.dk d.dm w1.drew (HB.out _ hb1.drew).keys).mono fun e w' ⟨he, hb⟩ => ⟨he, (Below.refl _ _).drew.trans (hb.mono (Nat.le_refl _))⟩
    obtain ⟨dd, hdd⟩ : ∃ q : Bool, dv d.n d.dk d.dm = q := ⟨_, rfl⟩
    rw [hdd] at C72 HV
    clear hh HK HF HH HB hdd
    by_cases hb : ((a0 && a1) || (q && s1)) = true
    · have HE : Hid (sv d = (decide (1 ≤ d.chg) && (decide (d.chg ≤ d.ver) && dd))) := by
        show sv d = _
        rw [HV.out, HO.out, hb, Bool.true_and]
      clear HV HO
      by_cases y1 : 1 ≤ d.chg
      case neg =>
        have HF : Hid (sv d = false) := by show sv d = false; rw [HE.out, decide_eq_false y1, Bool.false_and]
        have u1 : decide (1 ≤ d.chg) = false := decide_eq_false y1
        clear y1
        cases q <;> cases s1 <;> cases a0 <;> cases a1 <;> first
          | (exfalso; revert I1; decide)
          | (exfalso; revert I2; decide)
          | (exfalso; revert hb; decide)
          | (clear hb I1 I2
             go_wp2_with (first | (go_at_call 56; refine (C56.out _).mono ?_; rintro e w2 ⟨rfl, rfl⟩) | (go_at_call 57; refine (C57.out _).mono ?_; rintro e w3 ⟨rfl, rfl⟩))
             go_quiet (fail)
             go_wp2
             go_ret
             exact ⟨ret_bool HF.out.symm, below_drewN hb1 _⟩)
      by_cases y2 : d.chg ≤ d.ver
      case neg =>
        have HF : Hid (sv d = false) := by show sv d = false; rw [HE.out, decide_eq_false y2, Bool.false_and, Bool.and_false]
        have u2 : decide (d.chg ≤ d.ver) = false := decide_eq_false y2
        clear y2
        cases q <;> cases s1 <;> cases a0 <;> cases a1 <;> first
          | (exfalso; revert I1; decide)
          | (exfalso; revert I2; decide)
          | (exfalso; revert hb; decide)
          | (clear hb I1 I2
             go_wp2_with (first | (go_at_call 56; refine (C56.out _).mono ?_; rintro e w2 ⟨rfl, rfl⟩) | (go_at_call 57; refine (C57.out _).mono ?_; rintro e w3 ⟨rfl, rfl⟩))
             go_quiet (fail)
             go_wp2
             go_ret
             exact ⟨ret_bool HF.out.symm, below_drewN hb1 _⟩)
      have HF : Hid (sv d = dd) := by show sv d = _; rw [HE.out, decide_eq_true y1, decide_eq_true y2, Bool.true_and, Bool.true_and]
      clear HE
      have HB1 : Hid (Below w.heap.size w w1) := hb1
      clear hb1
      cases q <;> cases s1 <;> cases a0 <;> cases a1 <;> first
        | (exfalso; revert I1; decide)
        | (exfalso; revert I2; decide)
        | (exfalso; revert hb; decide)
        | (clear hb I1 I2
           go_wp2_with (first | (go_at_call 56; refine (C56.out _).mono ?_; rintro e w2 ⟨rfl, hw2⟩; subst hw2) | (go_at_call 57; refine (C57.out _).mono ?_; rintro e w3 ⟨rfl, hw3⟩; subst hw3))
           first
             | (go_region_held (fun w' => w'.cell? ⟨eb, 6, none⟩ = some (.slice p.a d.n p.c) ∧ w'.cell? ⟨eb, 7, none⟩ = some (.int .i64 d.ver) ∧ w'.cell? ⟨eb, 8, none⟩ = some (.int .i64 d.chg)) (go_keep)
             (first | (go_at_call 72; refine (C72.out).mono ?_; rintro e w4 ⟨rfl, hb4⟩; have z6 := (hb4.out.cell (p := ⟨eb, 6, none⟩) (World.block_lt_of_cell? _ _ x6)).trans x6; have z7 := (hb4.out.cell (p := ⟨eb, 7, none⟩) (World.block_lt_of_cell? _ _ x7)).trans x7; have z8 := (hb4.out.cell (p := ⟨eb, 8, none⟩) (World.block_lt_of_cell? _ _ x8)).trans x8)))
             | fail
           all_goals
             go_wp2
             go_ret
             exact ⟨ret_bool HF.out.symm, HB1.out.trans (hb4.out.mono HB1.out.size)⟩)
    · have HN : Hid (sv d = false) := by
        show sv d = false
        rw [HV.out, HO.out, Bool.eq_false_iff.2 hb, Bool.false_and]
      clear HV HO
      cases q <;> cases s1 <;> cases a0 <;> cases a1 <;> first
        | (exfalso; revert I1; decide)
        | (exfalso; revert I2; decide)
        | (exfalso; revert hb; decide)
        | (clear hb I1 I2
           go_wp2_with (first | (go_at_call 56; refine (C56.out _).mono ?_; rintro e w2 ⟨rfl, rfl⟩) | (go_at_call 57; refine (C57.out _).mono ?_; rintro e w3 ⟨rfl, rfl⟩))
           go_quiet (fail)
           go_wp2
           go_ret
           exact ⟨ret_bool HN.out.symm, below_drewN hb1 _⟩)

end Go.Proofs.Ytefplfcfoapnjaa
