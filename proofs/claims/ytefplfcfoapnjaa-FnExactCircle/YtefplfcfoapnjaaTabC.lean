/-
  Tables: the program's Circle.
-/
import Derived.Test.YtefplfcfoapnjaaTabF
import Derived.Test.YtefplfcfoapnjaaTabQ
import Derived.Test.YtefplfcfoapnjaaTabW
namespace Go.Proofs.Ytefplfcfoapnjaa
open Go.RowKit

instance (k : Int) (m : ByteArray) (k' : Int) (m' : ByteArray) : Decidable (sk k m k' m') := inferInstanceAs (Decidable (_ ∧ _))

/-- The slot of a key. -/
def slotOf (n : Nat) (D : Nat → SD) (k : Int) (m : ByteArray) : Option Nat := (List.range n).find? fun i => decide (sk (D i).k (D i).m k m)
/-- The first wait of a worker. -/
def waitOf (n : Nat) (E : Nat → WD) (x : Int) : Option Nat := (List.range n).find? fun j => decide ((E j).o = x)

/-- Along the waits. -/
def chn (n : Nat) (D : Nat → SD) (nw : Nat) (E : Nat → WD) (wk rev : Int) : Nat → Int → ByteArray → Bool
  | 0, _, _ => false
  | left + 1, k, m =>
    match slotOf n D k m with
    | none => false
    | some i =>
      if (D i).sin = rev then
        if (D i).own = wk + 1 then true else
          match waitOf nw E ((D i).own - 1) with
          | none => false
          | some j => chn n D nw E wk rev left (E j).k (E j).m
      else false

/-- Circle. -/
def cir (n : Nat) (D : Nat → SD) (nw : Nat) (E : Nat → WD) (wk : Int) (k : Int) (m : ByteArray) (rev : Int) : Bool :=
  (vt n D && (kv k m && (decide (0 ≤ wk ∧ wk < 16) && decide (1 ≤ rev)))) && (decide (nw ≤ 16) && chn n D nw E wk rev 17 k m)

theorem find_range {n i : Nat} {f : Nat → Bool} (hi : i < n) (h : f i = true) (hm : ∀ j, j < i → f j = false) : (List.range n).find? f = some i := by
  rw [List.find?_range_eq_some]
  exact ⟨h, List.mem_range.2 hi, fun j hj => by simp [hm j hj]⟩

theorem none_range {n : Nat} {f : Nat → Bool} (h : ∀ j, j < n → f j = false) : (List.range n).find? f = none := by
  rw [List.find?_eq_none]
  intro j hj
  simp [h j (List.mem_range.1 hj)]

set_option maxRecDepth 100000 in
set_option maxHeartbeats 2000000 in
theorem c59 (xb eb i : Nat) (d : WD) (x : Int) (w : World) (h0 : w.cell? ⟨xb, 0, none⟩ = some (.pointer (some ⟨eb, i * 9, none⟩))) (h1 : w.cell? ⟨eb, i * 9 + 3, none⟩ = some (.int .i64 x)) (hx : 1 ≤ x ∧ x ≤ 16) :
    Calls Try.prog 59 #[wdv d, .pointer (some ⟨xb, 0, none⟩)] w fun e w' => e = .returned (.bool (decide (d.o = x - 1))) ∧ Below w.heap.size w w' := by
  unfold wdv
  have hw : IntKind.i64.wrap (x - 1) = x - 1 := by rw [IntKind.wrap_i64]; omega
  have HE : Hid ((d.o == x - 1) = decide (d.o = x - 1)) := by show (d.o == x - 1) = decide (d.o = x - 1); rw [Bool.eq_iff_iff]; simp
  have l0 : (w.alloc (.cells #[.int .i64 d.o, .int .i64 d.k, .string d.m] 68)).cell? ⟨xb, 0, none⟩ = some (.pointer (some ⟨eb, i * 9, none⟩)) := by rw [(bel1 w _).cell (p := ⟨xb, 0, none⟩) (World.block_lt_of_cell? _ _ h0)]; exact h0
  have l1 : (w.alloc (.cells #[.int .i64 d.o, .int .i64 d.k, .string d.m] 68)).cell? ⟨eb, i * 9 + 3, none⟩ = some (.int .i64 x) := by rw [(bel1 w _).cell (p := ⟨eb, i * 9 + 3, none⟩) (World.block_lt_of_cell? _ _ h1)]; exact h1
  clear hx h0 h1
  go_enter Try.func59, Try.ntmps59
  go_wp2
  go_quiet (fail)
  go_wp2
  go_ret
  exact ⟨ret_bool HE.out, below_drewN (bel1 _ _) _⟩

/-- What the look for a wait gives. -/
def WaitPost (w : World) (nw : Nat) (E : Nat → WD) (x : Int) (e : Ending) (w' : World) : Prop :=
  Below w.heap.size w w' ∧ ((waitOf nw E x = none ∧ e = .returned (.int .i64 (-1))) ∨ ∃ j : Nat, j < nw ∧ waitOf nw E x = some j ∧ e = .returned (.int .i64 (j : Int)))

set_option maxRecDepth 100000 in
set_option maxHeartbeats 2000000 in
theorem c58 (xb eb i : Nat) (x : Int) (ao : Option Addr) (b o nw c : Nat) (E : Nat → WD) (w : World) (h0 : w.cell? ⟨xb, 0, none⟩ = some (.pointer (some ⟨eb, i * 9, none⟩))) (h1 : w.cell? ⟨eb, i * 9 + 3, none⟩ = some (.int .i64 x)) (hx : 1 ≤ x ∧ x ≤ 16) (hE : WaitsAt w ao b o nw E) :
    Calls Try.prog 58 #[.slice ao nw c, .func (.func 59) #[] #[.pointer (some ⟨xb, 0, none⟩)]] w fun e w' => WaitPost w nw E (x - 1) e w' := by
  have HB : Hid (∀ w', Below w.heap.size w w' → WaitsAt w' ao b o nw E ∧ w'.cell? ⟨xb, 0, none⟩ = some (.pointer (some ⟨eb, i * 9, none⟩)) ∧ w'.cell? ⟨eb, i * 9 + 3, none⟩ = some (.int .i64 x)) := fun w' hb =>
    ⟨hE.below hb, by rw [hb.cell (p := ⟨xb, 0, none⟩) (World.block_lt_of_cell? _ _ h0)]; exact h0, by rw [hb.cell (p := ⟨eb, i * 9 + 3, none⟩) (World.block_lt_of_cell? _ _ h1)]; exact h1⟩
  have hn := hE.len
  have A1 := hE.at_
  clear hE h0 h1
  go_enter Try.func58, Try.ntmps58
  go_wp2
  go_loopw [8] (fun s wr => ∃ (k : Nat), k ≤ nw ∧ s = .int .i64 k ∧ Below w.heap.size w wr ∧ Hid (∀ j, j < k → decide ((E j).o = x - 1) = false)) (fun s _ => nw - (intOf s).toNat)
  case atStart => exact ⟨0, Nat.zero_le _, rfl, Below.refl _ _, fun i hi => absurd hi (Nat.not_lt_zero _)⟩
  case round =>
    obtain ⟨k, hk, rfl, hb, HA⟩ := hrel
    by_cases hlt : k < nw
    · have e1 := A1 (by omega)
      obtain ⟨q1, q2, q3⟩ := HB.out wr hb
      obtain ⟨g0, g1, g2⟩ := q1.three k hlt
      have C59 : Hid (Calls Try.prog 59 #[wdv (E k), .pointer (some ⟨xb, 0, none⟩)] wr fun e w' => e = .returned (.bool (decide ((E k).o = x - 1))) ∧ Below wr.heap.size wr w') := c59 xb eb i (E k) x wr q2 q3 hx
      clear q1 q2 q3 HB
      subst e1
      unfold wdv at C59
      go_wp2_with fail
      refine C59.out.mono ?_
      rintro e w' ⟨rfl, hb'⟩
      cases hv : decide ((E k).o = x - 1)
      · have HR : Hid (decide ((E k).o = x - 1) = false) := hv
        go_wp2
        go_roundw
        case rel => exact ⟨k + 1, by omega, by go_num, hb.trans (hb'.mono hb.size), fun j hj => by
          by_cases e : j = k
          · subst e; exact HR.out
          · exact HA.out j (by omega)⟩
        case measure => simp [intOf]; omega
      · have HV : Hid (waitOf nw E (x - 1) = some k) := find_range hlt hv HA.out
        go_wp2
        go_ret
        exact ⟨hb.trans (hb'.mono hb.size), Or.inr ⟨k, hlt, HV.out, rfl⟩⟩
    · have HV : Hid (waitOf nw E (x - 1) = none) := none_range (fun j hj => HA.out j (by omega))
      go_wp2
      go_ret
      exact ⟨hb, Or.inl ⟨HV.out, rfl⟩⟩

theorem ret_tup {q : Option Addr} {a b : Bool} (h : a = b) : Ending.returned (.tuple #[.pointer q, .bool a]) = .returned (.tuple #[.pointer q, .bool b]) := by rw [h]

/-- What openFor gives. -/
def ForPost (w : World) (n : Nat) (p : Nat → SP) (D : Nat → SD) (k : Int) (m : ByteArray) (wk rev : Int) (e : Ending) (w' : World) : Prop :=
  ∃ ptr, e = .returned (.tuple #[.pointer ptr, .bool (vt n D && (kv k m && (decide (0 ≤ wk ∧ wk < 16) && decide (1 ≤ rev))))]) ∧ Below w.heap.size w w' ∧ (vt n D = true → ∃ sb, ptr = some ⟨sb, 0, none⟩ ∧ Opened w w' sb n p D)

theorem Opened.below {w w1 w2 : World} {sb n : Nat} {p : Nat → SP} {D : Nat → SD} (h : Opened w w1 sb n p D) (hb : Below w1.heap.size w1 w2) : Opened w w2 sb n p D := by
  obtain ⟨base, lb, sv, h1, h2, h3, h4, h5, h6⟩ := h.st
  exact ⟨base, lb, sv, h1.below hb, by rw [hb.cell (p := ⟨sb, 0, none⟩) (World.block_lt_of_cell? _ _ h2)]; exact h2, h3, h4, h5, h6⟩

theorem Opened.weak {w0 w w1 : World} {sb n : Nat} {p : Nat → SP} {D : Nat → SD} (h : Opened w w1 sb n p D) (hs : w0.heap.size ≤ w.heap.size) : Opened w0 w1 sb n p D := by
  obtain ⟨base, lb, sv, h1, h2, h3, h4, h5, h6⟩ := h.st
  exact ⟨base, lb, sv, h1, h2, by omega, h4, h5, h6⟩

set_option maxRecDepth 100000 in
set_option maxHeartbeats 4000000 in
theorem c35 (ao : Option Addr) (b o n c : Nat) (p : Nat → SP) (D : Nat → SD) (k : Int) (m : ByteArray) (wk rev : Int) (w : World) (h1 : SlotsAt w ao b o n p D) (hm : m.size ≤ 9223372036854775807) :
    Calls Try.prog 35 #[.agg #[.slice ao n c], .agg #[.int .i64 k, .string m], .int .i64 wk, .int .i64 rev] w fun e w' => ForPost w n p D k m wk rev e w' := by
  have HB : Hid (∀ w', Below w.heap.size w w' → SlotsAt w' ao b o n p D) := fun w' hb => h1.below hb
  clear h1
  go_enter Try.func35, Try.ntmps35
  go_wp2_with fail
  refine (c28 ao b o n c p D _ (by exact HB.out _ (bel2 _ _ _))).mono ?_
  rintro e w1 ⟨ptr, rfl, hb1, hO⟩
  have HB1 : Hid (Below w.heap.size w w1) := (bel2 w _ _).trans (hb1.mono (by simp; omega))
  have HO : Hid (vt n D = true → ∃ sb, ptr = some ⟨sb, 0, none⟩ ∧ Opened w w1 sb n p D) := fun h => by
    obtain ⟨sb, r1, r2⟩ := hO h
    exact ⟨sb, r1, r2.weak (by simp; omega)⟩
  have k0 : w1.cell? ⟨w.heap.size + 1, 0, none⟩ = some (.int .i64 k) := by rw [hb1.cell (p := ⟨w.heap.size + 1, 0, none⟩) (by simp)]; simp
  have k1 : w1.cell? ⟨w.heap.size + 1, 1, none⟩ = some (.string m) := by rw [hb1.cell (p := ⟨w.heap.size + 1, 1, none⟩) (by simp)]; simp
  clear hb1 hO HB
  obtain ⟨v, hv⟩ : ∃ v, vt n D = v := ⟨_, rfl⟩
  rw [hv]
  have HV : Hid (vt n D = v) := hv
  clear hv
  cases v
  · go_wp2_with fail
    go_ret2
    exact ⟨ptr, ret_tup (by rw [HV.out]; rfl), HB1.out, fun h => by rw [HV.out] at h; cases h⟩
  · go_wp2_with fail
    refine (c55 k m _ hm).mono ?_
    rintro e w2 ⟨rfl, hb2⟩
    have HB2 : Hid (Below w.heap.size w w2) := HB1.out.trans (hb2.mono HB1.out.size)
    have HO2 : Hid (vt n D = true → ∃ sb, ptr = some ⟨sb, 0, none⟩ ∧ Opened w w2 sb n p D) := fun h => by
      obtain ⟨sb, r1, r2⟩ := HO.out h
      exact ⟨sb, r1, r2.below hb2⟩
    clear hb2 HO HB1 k0 k1
    obtain ⟨kk, hkk⟩ : ∃ v, kv k m = v := ⟨_, rfl⟩
    obtain ⟨q, hq⟩ : ∃ q : Bool, q = decide (0 ≤ wk ∧ wk < 16) := ⟨_, rfl⟩
    obtain ⟨s1, hs1⟩ : ∃ q : Bool, q = decide (1 ≤ rev) := ⟨_, rfl⟩
    have C56 : Hid (∀ W, Calls Try.prog 56 #[.int .i64 wk] W fun e w' => e = .returned (.bool q) ∧ w' = W) := fun W => by rw [hq]; exact c56 wk W
    have C57 : Hid (∀ W, Calls Try.prog 57 #[.int .i64 rev] W fun e w' => e = .returned (.bool s1) ∧ w' = W) := fun W => by rw [hs1]; exact c57 rev W
    have HE : Hid ((vt n D && (kv k m && (decide (0 ≤ wk ∧ wk < 16) && decide (1 ≤ rev)))) = (kk && (q && s1))) := by
      show (vt n D && (kv k m && (decide (0 ≤ wk ∧ wk < 16) && decide (1 ≤ rev)))) = (kk && (q && s1))
      rw [HV.out, hkk, ← hq, ← hs1, Bool.true_and]
    rw [hkk]
    clear hkk hq hs1 HV
    cases kk <;> cases q <;> cases s1
    all_goals
      go_wp2_with (first | (go_at_call 56; refine (C56.out _).mono ?_; rintro e w3 ⟨rfl, hw3⟩; subst hw3) | (go_at_call 57; refine (C57.out _).mono ?_; rintro e w4 ⟨rfl, hw4⟩; subst hw4))
      go_ret2
      exact ⟨ptr, ret_tup (by rw [HE.out]; rfl), HB2.out, HO2.out⟩

theorem slot_none {n : Nat} {D : Nat → SD} {k : Int} {m : ByteArray} (h : ∀ j, j < n → ¬ sk (D j).k (D j).m k m) : slotOf n D k m = none := none_range (fun j hj => decide_eq_false (h j hj))
theorem sk_both {k1 : Int} {m1 : ByteArray} {k2 : Int} {m2 : ByteArray} {k : Int} {m : ByteArray} (h1 : sk k1 m1 k m) (h2 : sk k2 m2 k m) : sk k1 m1 k2 m2 := ⟨h1.1.trans h2.1.symm, h1.2.trans h2.2.symm⟩
theorem kl_irr {k1 : Int} {m1 : ByteArray} {k2 : Int} {m2 : ByteArray} (h : sk k1 m1 k2 m2) : kl k1 m1 k2 m2 = false := by
  have := (ck_zero k1 m1 k2 m2).2 h
  rw [← ck_lt, this]; rfl
theorem slot_some {n i : Nat} {D : Nat → SD} {k : Int} {m : ByteArray} (hU : Up n D) (hi : i < n) (h : sk (D i).k (D i).m k m) : slotOf n D k m = some i :=
  find_range hi (decide_eq_true h) (fun j hj => decide_eq_false (fun hs => by
    have h1 := hU j i hj hi
    rw [kl_irr (sk_both hs h)] at h1
    cases h1))

end Go.Proofs.Ytefplfcfoapnjaa
