/-
  Tables: the contracts of the model.
-/
import Derived.Test.YtefplfcfoapnjaaTabEq
import Derived.Test.YtefplfcfoapnjaaNames2
namespace Go.Proofs.Ytefplfcfoapnjaa
open Go.RowKit

theorem kv_no {k : Int} {m : ByteArray} (h : ¬ (1 ≤ k ∧ k ≤ 3)) : kv k m = false := by unfold kv; rw [decide_eq_false h, Bool.false_and]
theorem kv_yes {k : Int} {m : ByteArray} (h : 1 ≤ k ∧ k ≤ 3) : kv k m = gn m := by unfold kv; rw [decide_eq_true h, Bool.true_and]

set_option maxHeartbeats 1000000 in
theorem c31 (k : Int) (m : ByteArray) (w : World) (hs : m.size ≤ 9223372036854775807) :
    Calls Try.prog 31 #[.agg #[.int .i64 k, .string m]] w fun e w' => e = .returned (.bool (kv k m)) ∧ Below w.heap.size w w' := by
  by_cases h : 1 ≤ k ∧ k ≤ 3
  · have HV : Hid (kv k m = gn m) := kv_yes h
    have hex : ∃ x y z : Bool, (k == 1) = x ∧ (k == 2) = y ∧ (k == 3) = z ∧ (x || y || z) = true := ⟨_, _, _, rfl, rfl, rfl, by simp; omega⟩
    obtain ⟨x, y, z, b0, b1, b2, hxyz⟩ := hex
    clear h
    cases x <;> cases y <;> cases z <;> first
      | (exfalso; revert hxyz; decide)
      | (clear hxyz
         go_enter Try.func31, Try.ntmps31
         go_wp2_with (go_at_call 54; refine (n32 _ _ hs).mono ?_; rintro e w' ⟨rfl, rfl⟩)
         go_ret
         exact ⟨ret_bool HV.out.symm, bel1 _ _⟩)
  · have HV : Hid (kv k m = false) := kv_no h
    have b0 : (k == 1) = false := beq_eq_false_iff_ne.2 (by omega)
    have b1 : (k == 2) = false := beq_eq_false_iff_ne.2 (by omega)
    have b2 : (k == 3) = false := beq_eq_false_iff_ne.2 (by omega)
    clear h
    go_enter Try.func31, Try.ntmps31
    go_wp2
    go_ret
    exact ⟨ret_bool HV.out.symm, bel1 _ _⟩

set_option maxHeartbeats 1000000 in
theorem c47 (ao : Option Addr) (b o n c : Nat) (K : Nat → Int) (M : Nat → ByteArray) (w : World) (h1 : KeysAt w ao b o n K M) :
    Calls Try.prog 47 #[.slice ao n c] w fun e w' => e = .returned (.bool (dv n K M)) ∧ Below w.heap.size w w' := by
  have HB : Hid (∀ w', Below w.heap.size w w' → KeysAt w' ao b o n K M) := fun w' hb => h1.below hb
  have hn := h1.len
  have A1 := h1.at_
  clear h1
  by_cases h : 1000 < n
  · have HV : Hid (dv n K M = false) := dv_big h
    go_enter Try.func47, Try.ntmps47
    go_wp2
    go_ret
    exact ⟨ret_bool HV.out.symm, Below.refl _ _⟩
  · go_enter Try.func47, Try.ntmps47
    go_wp2
    go_loopw [3] (fun i wr => ∃ (k : Nat), k ≤ n ∧ i = .int .i64 k ∧ Below w.heap.size w wr ∧ Hid (∀ i, i < k → kv (K i) (M i) = true)) (fun i _ => n - (intOf i).toNat)
    case atStart => exact ⟨0, Nat.zero_le _, rfl, Below.refl _ _, fun i hi => absurd hi (Nat.not_lt_zero _)⟩
    case round =>
      obtain ⟨k, hk, rfl, hb, HA⟩ := hrel
      by_cases hlt : k < n
      · have e1 := A1 (by omega)
        have q1 := HB.out wr hb
        have g0 := q1.c0 k hlt
        have g1 := q1.c1 k hlt
        have z1 := q1.size k hlt
        clear q1 HB
        subst e1
        go_wp2_with fail
        refine (c31 (K k) (M k) _ z1).mono ?_
        rintro e w' ⟨rfl, hb'⟩
        cases hv : kv (K k) (M k)
        · have HV : Hid (dv n K M = false) := dv_no k hlt hv
          go_wp2
          go_ret
          exact ⟨ret_bool HV.out.symm, hb.trans (hb'.mono hb.size)⟩
        · have HR : Hid (kv (K k) (M k) = true) := hv
          clear hv
          go_wp2
          go_roundw
          case rel => exact ⟨k + 1, by omega, by go_num, hb.trans (hb'.mono hb.size), fun i hi => by
            by_cases e : i = k
            · subst e; exact HR.out
            · exact HA.out i (by omega)⟩
          case measure => simp [intOf]; omega
      · have HV : Hid (dv n K M = true) := dv_yes (by omega) (fun i hi => HA.out i (by omega))
        go_wp2
        go_ret
        exact ⟨ret_bool HV.out.symm, hb⟩

theorem sv_key {d : SD} (h : kv d.k d.m = false) : sv d = false := by unfold sv; rw [h, Bool.false_and]
theorem sv_neither {d : SD} (h : ¬ held d) (h' : ¬ free d) : sv d = false := by
  unfold sv
  cases d.has
  · rw [if_neg (by simp), decide_eq_false (fun q => h q.1), Bool.and_false]
  · rw [if_pos rfl, decide_eq_false (fun q => q.1.elim h' h), Bool.false_and, Bool.and_false]
theorem sv_has {d : SD} (hk : kv d.k d.m = true) (hh : d.has = true) (h : held d ∨ free d) : sv d = (decide (1 ≤ d.chg) && (decide (d.chg ≤ d.ver) && dv d.n d.dk d.dm)) := by
  unfold sv
  rw [hk, hh, if_pos rfl, Bool.true_and]
  have : (free d ∨ held d) := h.elim Or.inr Or.inl
  by_cases h1 : 1 ≤ d.chg <;> by_cases h2 : d.chg ≤ d.ver <;> simp [this, h1, h2]
theorem sv_none {d : SD} (hk : kv d.k d.m = true) (hh : d.has = false) : sv d = decide (held d ∧ d.v.size = 0 ∧ d.n = 0 ∧ d.ver = 0 ∧ d.chg = 0) := by
  unfold sv
  rw [hk, hh, if_neg (by simp), Bool.true_and]

theorem beq_dec (x y : Int) : (x == y) = decide (x = y) := by rw [Bool.eq_iff_iff]; simp

set_option maxHeartbeats 8000000 in
theorem c25 (p : SP) (d : SD) (w : World) (h1 : SlotAt w p d) :
    Calls Try.prog 25 #[sdv p d] w fun e w' => e = .returned (.bool (sv d)) ∧ Below w.heap.size w w' := by
  have HB : Hid (∀ w', Below w.heap.size w w' → SlotAt w' p d) := fun w' hb => h1.below hb
  have hsm := h1.sm
  have hsv := h1.sv
  clear h1
  unfold sdv
  go_enter Try.func25, Try.ntmps25
  go_wp2_with fail
  refine (c31 d.k d.m _ hsm).mono ?_
  rintro e w1 ⟨rfl, hb1⟩
  have B1 := (bel1 w _).trans (hb1.mono (by simp))
  obtain ⟨x0, x1, x2, x3, x4, x5, x6, x7, x8⟩ := (row9 w (.int .i64 d.k) (.string d.m) (.bool d.has) (.string d.v) (.slice p.a d.n p.c) (.int .i64 d.ver) (.int .i64 d.chg) (.int .i64 d.own) (.int .i64 d.sin) 47) |>.of_block (hb1.block _ (by simp)) |> nine_cells
  clear hb1
  cases hk : kv d.k d.m
  · have HV : Hid (sv d = false) := sv_key hk
    go_wp2
    go_ret
    exact ⟨ret_bool HV.out.symm, B1⟩
  have HK : Hid (kv d.k d.m = true) := hk
  clear hk
  by_cases hh : held d
  · obtain ⟨q1, q2, q3⟩ := hh
    have HH : Hid (held d) := ⟨q1, q2, q3⟩
    cases hs : d.has
    · have HV : Hid (sv d = decide (held d ∧ d.v.size = 0 ∧ d.n = 0 ∧ d.ver = 0 ∧ d.chg = 0)) := sv_none HK.out hs
      have HE : Hid (∀ r : Bool, (r = true ↔ (d.v.size = 0 ∧ d.n = 0 ∧ d.ver = 0 ∧ d.chg = 0)) → r = sv d) := fun r hr => by
        rw [HV.out, Bool.eq_iff_iff, hr, decide_eq_true_iff]
        exact ⟨fun h => ⟨HH.out, h⟩, fun h => h.2⟩
      rw [hs] at x2
      clear HV HH hs HK
      by_cases y1 : d.v.size = 0
      case neg =>
        have b1 : ((d.v.size : Int) == 0) = false := beq_eq_false_iff_ne.2 (by omega)
        have HF : Hid (false = sv d) := HE.out false (by simp [y1])
        clear y1
        go_wp2
        go_ret
        exact ⟨ret_bool HF.out, B1⟩
      have b1 : ((d.v.size : Int) == 0) = true := by rw [beq_iff_eq]; omega
      by_cases y2 : d.n = 0
      case neg =>
        have b2 : ((d.n : Int) == 0) = false := beq_eq_false_iff_ne.2 (by omega)
        have HF : Hid (false = sv d) := HE.out false (by simp [y2])
        clear y1 y2
        go_wp2
        go_ret
        exact ⟨ret_bool HF.out, B1⟩
      have b2 : ((d.n : Int) == 0) = true := by rw [beq_iff_eq]; omega
      by_cases y3 : d.ver = 0
      case neg =>
        have b3 : (d.ver == 0) = false := beq_eq_false_iff_ne.2 (by omega)
        have HF : Hid (false = sv d) := HE.out false (by simp [y3])
        clear y1 y2 y3
        go_wp2
        go_ret
        exact ⟨ret_bool HF.out, B1⟩
      have b3 : (d.ver == 0) = true := by rw [beq_iff_eq]; omega
      have HF : Hid ((d.chg == 0) = sv d) := HE.out _ (by rw [beq_iff_eq]; exact ⟨fun h => ⟨y1, y2, y3, h⟩, fun h => h.2.2.2⟩)
      clear y1 y2 y3
      go_wp2
      go_ret
      exact ⟨ret_bool HF.out, B1⟩
    · have HV : Hid (sv d = (decide (1 ≤ d.chg) && (decide (d.chg ≤ d.ver) && dv d.n d.dk d.dm))) := sv_has HK.out hs (Or.inl HH.out)
      rw [hs] at x2
      clear hs HH HK
      by_cases y1 : 1 ≤ d.chg
      case neg =>
        have HF : Hid (sv d = false) := by show sv d = false; rw [HV.out, decide_eq_false y1, Bool.false_and]
        go_wp2
        go_ret
        exact ⟨ret_bool HF.out.symm, B1⟩
      by_cases y2 : d.chg ≤ d.ver
      case neg =>
        have HF : Hid (sv d = false) := by show sv d = false; rw [HV.out, decide_eq_false y2, Bool.false_and, Bool.and_false]
        go_wp2
        go_ret
        exact ⟨ret_bool HF.out.symm, B1⟩
      have HF : Hid (sv d = dv d.n d.dk d.dm) := by show sv d = _; rw [HV.out, decide_eq_true y1, decide_eq_true y2, Bool.true_and, Bool.true_and]
      clear HV
      go_wp2_with fail
      refine (c47 p.a p.b p.o d.n p.c d.dk d.dm _ (by exact (HB.out _ B1).keys)).mono ?_
      rintro e w2 ⟨rfl, hb2⟩
      go_wp2
      go_ret
      exact ⟨ret_bool HF.out.symm, B1.trans (hb2.mono B1.size)⟩
  by_cases hf : free d
  · obtain ⟨q1, q2⟩ := hf
    have HH : Hid (free d) := ⟨q1, q2⟩
    have HN : Hid (¬ held d) := hh
    clear hh
    have b0 : (d.own == 0) = true := by rw [beq_iff_eq]; omega
    have b1 : (d.sin == 0) = true := by rw [beq_iff_eq]; omega
    have u0 : ¬ 1 ≤ d.own := by omega
    clear q1 q2
    cases hs : d.has
    · have HV : Hid (sv d = false) := by show sv d = false; rw [sv_none HK.out hs]; exact decide_eq_false (fun q => HN.out q.1)
      rw [hs] at x2
      clear HH hs HK
      go_wp2
      go_ret
      exact ⟨ret_bool HV.out.symm, B1⟩
    · have HV : Hid (sv d = (decide (1 ≤ d.chg) && (decide (d.chg ≤ d.ver) && dv d.n d.dk d.dm))) := sv_has HK.out hs (Or.inr HH.out)
      rw [hs] at x2
      clear hs HH HK
      by_cases y1 : 1 ≤ d.chg
      case neg =>
        have HF : Hid (sv d = false) := by show sv d = false; rw [HV.out, decide_eq_false y1, Bool.false_and]
        go_wp2
        go_ret
        exact ⟨ret_bool HF.out.symm, B1⟩
      by_cases y2 : d.chg ≤ d.ver
      case neg =>
        have HF : Hid (sv d = false) := by show sv d = false; rw [HV.out, decide_eq_false y2, Bool.false_and, Bool.and_false]
        go_wp2
        go_ret
        exact ⟨ret_bool HF.out.symm, B1⟩
      have HF : Hid (sv d = dv d.n d.dk d.dm) := by show sv d = _; rw [HV.out, decide_eq_true y1, decide_eq_true y2, Bool.true_and, Bool.true_and]
      clear HV
      go_wp2_with fail
      refine (c47 p.a p.b p.o d.n p.c d.dk d.dm _ (by exact (HB.out _ B1).keys)).mono ?_
      rintro e w2 ⟨rfl, hb2⟩
      go_wp2
      go_ret
      exact ⟨ret_bool HF.out.symm, B1.trans (hb2.mono B1.size)⟩
  have HV : Hid (sv d = false) := sv_neither hh hf
  unfold held at hh
  unfold free at hf
  have o0 := beq_dec d.own 0
  have o1 := beq_dec d.sin 0
  by_cases q1 : 1 ≤ d.own <;> by_cases q2 : d.own ≤ 16 <;> by_cases q3 : 1 ≤ d.sin <;> by_cases q0 : d.own = 0 <;> by_cases q5 : d.sin = 0 <;> try (exfalso; omega)
  all_goals
    clear hh hf
    simp only [q0, q5, decide_true, decide_false] at o0 o1
    try (have q0' : d.own = 0 := q0; clear q0)
    try (have q5' : d.sin = 0 := q5; clear q5)
    first | have u1 := decide_eq_false q1 | have u1 := decide_eq_true q1
    first | have u2 := decide_eq_false q2 | have u2 := decide_eq_true q2
    first | have u3 := decide_eq_false q3 | have u3 := decide_eq_true q3
    clear q1 q2 q3
    go_wp2
    go_ret
    exact ⟨ret_bool HV.out.symm, B1⟩

end Go.Proofs.Ytefplfcfoapnjaa
