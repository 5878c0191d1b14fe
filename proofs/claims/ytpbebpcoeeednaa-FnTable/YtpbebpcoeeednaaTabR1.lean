/-
  Tables: which slots a release keeps, without a program; the closure of release and the look for the first slot that goes.
-/
import Derived.Test.YtpbebpcoeeednaaTabX3
import Derived.Laws.IdiomCopy
import Derived.Lib.SliceRun
namespace Go.Proofs.Ytpbebpcoeeednaa
open Go.RowKit

/-- The slot goes. -/
def del (wk : Int) (d : SD) : Bool := decide (d.own = wk + 1) && !d.has
/-- The slot, let go of. -/
def rel (wk : Int) (d : SD) : SD := if d.own = wk + 1 then { d with own := 0, sin := 0 } else d
/-- The places of the slots that stay. -/
def ks (n : Nat) (D : Nat → SD) (wk : Int) : List Nat := (List.range n).filter (fun i => !del wk (D i))
def kc (D : Nat → SD) (wk : Int) (q : Nat) : Nat := (ks q D wk).length
def kt (n : Nat) (D : Nat → SD) (wk : Int) (j : Nat) : Nat := (ks n D wk).getD j 0

theorem ks_succ (n : Nat) (D : Nat → SD) (wk : Int) : ks (n + 1) D wk = ks n D wk ++ (if del wk (D n) then [] else [n]) := by
  unfold ks
  rw [List.range_succ, List.filter_append]
  cases h : del wk (D n) <;> simp [h]
theorem kc_zero (D : Nat → SD) (wk : Int) : kc D wk 0 = 0 := rfl
theorem kc_del {D : Nat → SD} {wk : Int} {q : Nat} (h : del wk (D q) = true) : kc D wk (q + 1) = kc D wk q := by
  unfold kc; rw [ks_succ, h]; simp
theorem kc_keep {D : Nat → SD} {wk : Int} {q : Nat} (h : del wk (D q) = false) : kc D wk (q + 1) = kc D wk q + 1 := by
  unfold kc; rw [ks_succ, h]; simp
theorem kc_le (D : Nat → SD) (wk : Int) (q : Nat) : kc D wk q ≤ q := by
  induction q with
  | zero => exact Nat.le_refl _
  | succ q ih =>
    cases h : del wk (D q)
    · rw [kc_keep h]; omega
    · rw [kc_del h]; omega
theorem kc_mono {D : Nat → SD} {wk : Int} {a b : Nat} (h : a ≤ b) : kc D wk a ≤ kc D wk b := by
  induction b with
  | zero => have : a = 0 := by omega
            subst this; exact Nat.le_refl _
  | succ b ih =>
    by_cases e : a = b + 1
    · subst e; exact Nat.le_refl _
    · have := ih (by omega)
      cases hh : del wk (D b)
      · rw [kc_keep hh]; omega
      · rw [kc_del hh]; omega
theorem kt_at {n q : Nat} {D : Nat → SD} {wk : Int} (hq : q < n) (h : del wk (D q) = false) : kt n D wk (kc D wk q) = q := by
  induction n with
  | zero => omega
  | succ n ih =>
    unfold kt
    rw [ks_succ]
    by_cases e : q = n
    · subst e
      rw [h]
      unfold kc
      simp
    · have h1 := ih (by omega)
      have h2 : kc D wk q < (ks n D wk).length := by
        have := kc_mono (D := D) (wk := wk) (a := q + 1) (b := n) (by omega)
        rw [kc_keep h] at this
        exact this
      unfold kt at h1
      rw [List.getD_eq_getElem?_getD] at h1 ⊢
      rw [List.getElem?_append_left h2]
      exact h1
theorem kc_all {D : Nat → SD} {wk : Int} : ∀ {q : Nat}, (∀ j, j < q → del wk (D j) = false) → kc D wk q = q := by
  intro q
  induction q with
  | zero => intro _; rfl
  | succ q ih => intro h; rw [kc_keep (h q (by omega)), ih (fun j hj => h j (by omega))]

/-- The entry's cells, as an argument. -/
abbrev eva (p : SP) (d : SD) : Value := .agg #[.int .i64 d.k, .string d.m, .int .i64 d.sin, .int .i64 d.own, .bool d.has, .string d.v, .slice p.a d.n p.c, .int .i64 d.ver, .int .i64 d.chg]

set_option maxRecDepth 100000 in
set_option maxHeartbeats 2000000 in
theorem t_gone (xb : Nat) (wk : Int) (p : SP) (d : SD) (w : World) (h0 : w.cell? ⟨xb, 0, none⟩ = some (.int .i64 wk)) (hwk : 0 ≤ wk ∧ wk < 16) :
    Calls Try.prog 74 #[eva p d, .pointer (some ⟨xb, 0, none⟩)] w fun e w' => e = .returned (.bool (del wk d)) ∧ Below w.heap.size w w' := by
  unfold eva
  have h1 : (w.alloc (.cells #[.int .i64 d.k, .string d.m, .int .i64 d.sin, .int .i64 d.own, .bool d.has, .string d.v, .slice p.a d.n p.c, .int .i64 d.ver, .int .i64 d.chg] 81)).cell? ⟨xb, 0, none⟩ = some (.int .i64 wk) := by rw [(bel1 w _).cell (p := ⟨xb, 0, none⟩) (World.block_lt_of_cell? _ _ h0)]; exact h0
  have hwk1 : IntKind.i64.wrap (wk + 1) = wk + 1 := by rw [IntKind.wrap_i64]; omega
  clear h0
  obtain ⟨a, ha⟩ : ∃ a, (d.own == wk + 1) = a := ⟨_, rfl⟩
  have HD : Hid (del wk d = (a && !d.has)) := by
    show del wk d = _
    unfold del
    rw [← ha]
    congr 1
  cases a
  · go_enter Try.func74, Try.ntmps74
    go_wp2
    go_ret
    exact ⟨ret_bool (by rw [HD.out]; rfl), bel1 _ _⟩
  · go_enter Try.func74, Try.ntmps74
    go_wp2
    go_ret
    exact ⟨ret_bool (by rw [HD.out]; rfl), bel1 _ _⟩

/-- The entries in memory. -/
structure Ents (w : World) (g xb n N : Nat) (wk : Int) (p : Nat → SP) (D : Nat → SD) : Prop where
  x : w.cell? ⟨xb, 0, none⟩ = some (.int .i64 wk)
  row : ∃ f, w.rowIs g 81 N f ∧ n * 9 ≤ N ∧ ∀ a b, a < n → b < 9 → f (a * 9 + b) = ecf (p a) (D a) b

theorem Ents.below {w w' : World} {g xb n N : Nat} {wk : Int} {p : Nat → SP} {D : Nat → SD} (h : Ents w g xb n N wk p D) (hb : Below w.heap.size w w') : Ents w' g xb n N wk p D := by
  obtain ⟨f, h1, h2, h3⟩ := h.row
  exact ⟨by rw [hb.cell (p := ⟨xb, 0, none⟩) (World.block_lt_of_cell? _ _ h.x)]; exact h.x, f, h1.of_block (hb.block _ h1.lt), h2, h3⟩
theorem Ents.ent {w : World} {g xb n N : Nat} {wk : Int} {p : Nat → SP} {D : Nat → SD} (h : Ents w g xb n N wk p D) {i : Nat} (hi : i < n) : Ent w g (i * 9) (p i) (D i) := by
  obtain ⟨f, h1, h2, h3⟩ := h.row
  have key : ∀ b, b < 9 → w.cell? ⟨g, i * 9 + b, none⟩ = some (ecf (p i) (D i) b) := fun b hb => by rw [h1.cell (by omega), h3 i b hi hb]
  exact ⟨key 0 (by omega), key 1 (by omega), key 2 (by omega), key 3 (by omega), key 4 (by omega), key 5 (by omega), key 6 (by omega), key 7 (by omega), key 8 (by omega)⟩

set_option maxRecDepth 100000 in
set_option maxHeartbeats 4000000 in
theorem t_index (g xb n N cap : Nat) (wk : Int) (p : Nat → SP) (D : Nat → SD) (w : World) (h : Ents w g xb n N wk p D) (hn : n ≤ 1048576) (hwk : 0 ≤ wk ∧ wk < 16) :
    Calls Try.prog 94 #[.slice (some ⟨g, 0, none⟩) n cap, .func (.func 74) #[] #[.pointer (some ⟨xb, 0, none⟩)]] w fun e w' => Below w.heap.size w w' ∧ ((e = .returned (.int .i64 (-1)) ∧ ∀ j, j < n → del wk (D j) = false) ∨ ∃ i : Nat, e = .returned (.int .i64 (i : Int)) ∧ i < n ∧ del wk (D i) = true ∧ ∀ j, j < i → del wk (D j) = false) := by
  have HB : Hid (∀ w', Below w.heap.size w w' → Ents w' g xb n N wk p D) := fun w' hb => h.below hb
  clear h
  go_enter Try.func94, Try.ntmps94
  go_wp2
  go_loopw [8] (fun i wr => ∃ k : Nat, k ≤ n ∧ i = .int .i64 k ∧ Hid (Below w.heap.size w wr) ∧ Hid (∀ j, j < k → del wk (D j) = false)) (fun i _ => n - (intOf i).toNat)
  case atStart => exact ⟨0, Nat.zero_le _, rfl, Below.refl _ _, fun j hj => absurd hj (Nat.not_lt_zero _)⟩
  case round =>
    obtain ⟨k, hk, rfl, HW, HA⟩ := hrel
    by_cases hlt : k < n
    · have q1 := HB.out wr HW.out
      have E := q1.ent hlt
      unfold Ent at E
      obtain ⟨a0, a1, a2, a3, a4, a5, a6, a7, a8⟩ := E
      obtain ⟨r, hr⟩ : ∃ r, del wk (D k) = r := ⟨_, rfl⟩
      have HR : Hid (del wk (D k) = r) := hr
      have CG : Hid (Calls Try.prog 74 #[.agg #[.int .i64 (D k).k, .string (D k).m, .int .i64 (D k).sin, .int .i64 (D k).own, .bool (D k).has, .string (D k).v, .slice (p k).a (D k).n (p k).c, .int .i64 (D k).ver, .int .i64 (D k).chg], .pointer (some ⟨xb, 0, none⟩)] wr fun e w' => e = .returned (.bool r) ∧ Hid (Below wr.heap.size wr w')) := by
        rw [← hr]; exact t_gone xb wk (p k) (D k) wr q1.x hwk
      clear hr q1
      go_wp2_with fail
      refine CG.out.mono ?_
      rintro e w2 ⟨rfl, H2⟩
      have HW2 : Hid (Below w.heap.size w w2) := HW.out.trans (H2.out.mono HW.out.size)
      clear a0 a1 a2 a3 a4 a5 a6 a7 a8 CG H2
      cases r
      · go_wp2
        go_roundw
        case rel => exact ⟨k + 1, by omega, by go_num, HW2, fun j hj => by
          by_cases e : j = k
          · subst e; exact HR.out
          · exact HA.out j (by omega)⟩
        case measure => simp [intOf]; omega
      · have HI : Hid (k < n) := hlt
        go_wp2
        go_ret
        exact ⟨HW2.out, Or.inr ⟨k, rfl, HI.out, HR.out, HA.out⟩⟩
    · have hkn : k = n := by omega
      subst hkn
      go_wp2
      go_ret
      exact ⟨HW.out, Or.inl ⟨rfl, HA.out⟩⟩

end Go.Proofs.Ytpbebpcoeeednaa
