/-
  Tables: an entry of the open table, changed where it stands.
-/
import Derived.Test.YtijgiingfgaakaaTabB2
import Derived.Test.YtijgiingfgaakaaTabE
namespace Go.Proofs.Ytijgiingfgaakaa
open Go.RowKit

/-- A function changed at one place. -/
def updF {α : Type} (f : Nat → α) (i : Nat) (x : α) (j : Nat) : α := if j = i then x else f j
theorem updF_at {α : Type} (f : Nat → α) (i : Nat) (x : α) : updF f i x i = x := if_pos rfl
theorem updF_ne {α : Type} {f : Nat → α} {i j : Nat} {x : α} (h : j ≠ i) : updF f i x j = f j := if_neg h
theorem updF_self {α : Type} (f : Nat → α) (i : Nat) : updF f i (f i) = f := by
  funext j; unfold updF; by_cases e : j = i
  · rw [if_pos e, e]
  · rw [if_neg e]

/-- An entry's cells by their places. -/
def ecf (p : SP) (d : SD) : Nat → Value
  | 0 => .int .i64 d.k
  | 1 => .string d.m
  | 2 => .int .i64 d.sin
  | 3 => .int .i64 d.own
  | 4 => .bool d.has
  | 5 => .string d.v
  | 6 => .slice p.a d.n p.c
  | 7 => .int .i64 d.ver
  | _ => .int .i64 d.chg

theorem ec_at (p : SP) (d : SD) (j : Nat) (hj : j < 9) : (ec p d)[j]? = some (ecf p d j) := by
  match j, hj with
  | 0, _ => rfl
  | 1, _ => rfl
  | 2, _ => rfl
  | 3, _ => rfl
  | 4, _ => rfl
  | 5, _ => rfl
  | 6, _ => rfl
  | 7, _ => rfl
  | 8, _ => rfl

/-- An owned row as a row, and back. -/
theorem row_of_own {w : World} {base : Nat} {e : TypeId} {size n g cap : Nat} {xs : List Value} (h : w.ownsRow base e size (.slice (some ⟨g, 0, none⟩) n cap) n xs) :
    ∃ f, w.rowIs g e (cap * size) f ∧ n ≤ cap ∧ cap ≤ maxLen ∧ base ≤ g ∧ xs.length = n * size ∧ ∀ j, j < n * size → xs[j]? = some (f j) := by
  obtain ⟨h1, h2⟩ := h
  rcases h2 with ⟨hv, _⟩ | ⟨g', cap', cur, hv, hb, hh, hc, hm, hs, ht⟩
  · cases hv
  · simp only [Value.slice.injEq, Option.some.injEq, Addr.mk.injEq] at hv
    obtain ⟨⟨rfl, _, _⟩, _, rfl⟩ := hv
    refine ⟨fun i => cur[i]!, ⟨cur, hh, hs, fun i hi => by simp [hs, hi]⟩, hc, hm, hb, h1, fun j hj => ?_⟩
    have hjc : j < cur.size := by
      rw [hs]
      exact Nat.lt_of_lt_of_le hj (Nat.mul_le_mul_right _ hc)
    rw [← ht, List.getElem?_take, if_pos hj, Array.getElem?_toList]
    simp [hjc]

theorem own_of_row {w : World} {base : Nat} {e : TypeId} {size n g cap : Nat} {xs : List Value} {f : Nat → Value} (h : w.rowIs g e (cap * size) f) (hc : n ≤ cap) (hm : cap ≤ maxLen) (hb : base ≤ g) (hl : xs.length = n * size) (hx : ∀ j, j < n * size → xs[j]? = some (f j)) :
    w.ownsRow base e size (.slice (some ⟨g, 0, none⟩) n cap) n xs := by
  obtain ⟨cur, hh, hs, hf⟩ := h
  refine ⟨hl, Or.inr ⟨g, cap, cur, rfl, hb, hh, hc, hm, hs, ?_⟩⟩
  apply List.ext_getElem?
  intro j
  by_cases hj : j < n * size
  · rw [List.getElem?_take, if_pos hj, Array.getElem?_toList, hx j hj, hf j (Nat.lt_of_lt_of_le hj (Nat.mul_le_mul_right _ hc))]
  · rw [List.getElem?_take, if_neg hj, List.getElem?_eq_none (by omega)]

theorem os_row {w : World} {base lb g n cap : Nat} {p : Nat → SP} {D : Nat → SD} (h : OS w base lb (.slice (some ⟨g, 0, none⟩) n cap) n p D) :
    ∃ f, w.rowIs g 78 (cap * 9) f ∧ n ≤ cap ∧ cap ≤ maxLen ∧ base ≤ g ∧ g ≠ lb ∧ ∀ a b, a < n → b < 9 → f (a * 9 + b) = ecf (p a) (D a) b := by
  obtain ⟨f, h1, h2, h3, h4, _, h6⟩ := row_of_own h.own
  refine ⟨f, h1, h2, h3, h4, fun e => h.ne (by rw [← e]; rfl), fun a b ha hb => ?_⟩
  have := h6 (a * 9 + b) (by omega)
  rw [ecells_at p D n a b ha hb, ec_at _ _ _ hb] at this
  exact (Option.some.inj this).symm

theorem os_put {w w' : World} {base lb g n cap i : Nat} {p : Nat → SP} {D : Nat → SD} {q : SP} {d : SD} (h : OS w base lb (.slice (some ⟨g, 0, none⟩) n cap) n p D) (hl : w'.heap[lb]? = w.heap[lb]?) {f : Nat → Value} (hr : w'.rowIs g 78 (cap * 9) f)
    (h1 : ∀ a b, a < n → a ≠ i → b < 9 → f (a * 9 + b) = ecf (p a) (D a) b) (h2 : ∀ b, b < 9 → f (i * 9 + b) = ecf q d b) : OS w' base lb (.slice (some ⟨g, 0, none⟩) n cap) n (updF p i q) (updF D i d) := by
  obtain ⟨_, _, k2, k3, k4, _, _⟩ := row_of_own h.own
  refine ⟨h.row.of_block hl, own_of_row hr k2 k3 k4 (ecells_len _ _ _) (fun j hj => ?_), h.lo, h.ne, h.form⟩
  obtain ⟨a, b, rfl, hb⟩ : ∃ a b, j = a * 9 + b ∧ b < 9 := ⟨j / 9, j % 9, by omega, by omega⟩
  have ha : a < n := by omega
  rw [ecells_at _ _ n a b ha hb, ec_at _ _ _ hb]
  by_cases e : a = i
  · subst e
    rw [updF_at, updF_at, h2 b hb]
  · rw [updF_ne e, updF_ne e, h1 a b ha e hb]

set_option maxHeartbeats 1000000 in
theorem t_letGo (eb eo : Nat) (x y : Value) (w : World) (h0 : w.cell? ⟨eb, eo + 2, none⟩ = some x) (h1 : w.cell? ⟨eb, eo + 3, none⟩ = some y) (f0 : w.frozen? ⟨eb, eo + 2, none⟩ = false) (f1 : w.frozen? ⟨eb, eo + 3, none⟩ = false) :
    Calls Try.prog 72 #[.pointer (some ⟨eb, eo, none⟩)] w fun e w' => e = .returned (.tuple #[]) ∧ w' = (w.setCell ⟨eb, eo + 2, none⟩ (.int .i64 0)).setCell ⟨eb, eo + 3, none⟩ (.int .i64 0) := by
  go_enter Try.func72, Try.ntmps72
  go_wp2
  exact bodyPost_end (v := .tuple #[]) (by simp [results, Try.results72]) rfl ⟨rfl, rfl⟩

/-- The slot that a worker holds since a revision. -/
def mine (n : Nat) (D : Nat → SD) (k : Int) (m : ByteArray) (wk rev : Int) : Option Nat :=
  match slotOf n D k m with
  | none => none
  | some i => if (D i).sin = rev ∧ (D i).own = wk + 1 ∧ (D i).ver ≤ rev then some i else none

theorem mine_none {n : Nat} {D : Nat → SD} {k : Int} {m : ByteArray} {wk rev : Int} (h : slotOf n D k m = none) : mine n D k m wk rev = none := by unfold mine; rw [h]
theorem mine_no {n i : Nat} {D : Nat → SD} {k : Int} {m : ByteArray} {wk rev : Int} (h : slotOf n D k m = some i) (h2 : ¬ ((D i).sin = rev ∧ (D i).own = wk + 1 ∧ (D i).ver ≤ rev)) : mine n D k m wk rev = none := by unfold mine; rw [h]; exact if_neg h2
theorem mine_yes {n i : Nat} {D : Nat → SD} {k : Int} {m : ByteArray} {wk rev : Int} (h : slotOf n D k m = some i) (h2 : (D i).sin = rev ∧ (D i).own = wk + 1 ∧ (D i).ver ≤ rev) : mine n D k m wk rev = some i := by unfold mine; rw [h]; exact if_pos h2

/-- What held gives. -/
def HeldPost (w : World) (g n : Nat) (D : Nat → SD) (k : Int) (m : ByteArray) (wk rev : Int) (e : Ending) (w' : World) : Prop :=
  Below w.heap.size w w' ∧ ((mine n D k m wk rev = none ∧ e = .returned (.pointer none)) ∨ ∃ i, mine n D k m wk rev = some i ∧ i < n ∧ e = .returned (.pointer (some ⟨g, i * 9, none⟩)))

/-- What find found. -/
def FR (g n : Nat) (D : Nat → SD) (k : Int) (m : ByteArray) (r : Option Addr) : Prop :=
  (r = none ∧ ∀ j, j < n → ¬ sk (D j).k (D j).m k m) ∨ ∃ i, r = some ⟨g, i * 9, none⟩ ∧ i < n ∧ sk (D i).k (D i).m k m

set_option maxRecDepth 100000 in
set_option maxHeartbeats 8000000 in
theorem t_held (base lb g n cap sb : Nat) (p : Nat → SP) (D : Nat → SD) (k : Int) (m : ByteArray) (wk rev : Int) (w : World) (hOS : OS w base lb (.slice (some ⟨g, 0, none⟩) n cap) n p D) (hsb : w.cell? ⟨sb, 0, none⟩ = some (.pointer (some ⟨lb, 0, none⟩))) (hU : Up n D) (hn : n ≤ 1048576) (hwk : 0 ≤ wk ∧ wk < 16) :
    Calls Try.prog 86 #[.pointer (some ⟨sb, 0, none⟩), .agg #[.int .i64 k, .string m, .int .i64 rev], .int .i64 wk] w fun e w' => HeldPost w g n D k m wk rev e w' := by
  have HU : Hid (Up n D) := hU
  have HO : Hid (∀ w', Below w.heap.size w w' → OS w' base lb (.slice (some ⟨g, 0, none⟩) n cap) n p D ∧ w'.cell? ⟨sb, 0, none⟩ = some (.pointer (some ⟨lb, 0, none⟩))) := fun w' hb => ⟨hOS.below hb, by rw [hb.cell (p := ⟨sb, 0, none⟩) (World.block_lt_of_cell? _ _ hsb)]; exact hsb⟩
  clear hOS hsb hU
  have BB := bel1 w (.cells #[.int .i64 k, .string m, .int .i64 rev] 76)
  have R3 := row3 w (.int .i64 k) (.string m) (.int .i64 rev) 76
  go_enter Try.func86, Try.ntmps86
  go_wp2_with fail
  obtain ⟨X, hX⟩ : ∃ X, X = w.alloc (.cells #[.int .i64 k, .string m, .int .i64 rev] 76) := ⟨_, rfl⟩
  rw [← hX] at R3 BB
  rw [← hX]
  clear hX
  have HX : Hid (Below w.heap.size w X ∧ X.rowIs w.heap.size 76 3 (v3 (.int .i64 k) (.string m) (.int .i64 rev))) := ⟨BB, R3⟩
  have HZ : Hid (∀ W, Below X.heap.size X W → W.cell? ⟨sb, 0, none⟩ = some (.pointer (some ⟨lb, 0, none⟩)) ∧ W.cell? ⟨w.heap.size, 0, none⟩ = some (.int .i64 k) ∧ W.cell? ⟨w.heap.size, 1, none⟩ = some (.string m) ∧ W.cell? ⟨w.heap.size, 2, none⟩ = some (.int .i64 rev)) := fun W hW => by
    have r := HX.out.2.of_block (hW.block _ HX.out.2.lt)
    exact ⟨(HO.out W (HX.out.1.trans (hW.mono HX.out.1.size))).2, r.cell (i := 0) (by omega), r.cell (i := 1) (by omega), r.cell (i := 2) (by omega)⟩
  have C39 : Hid (∀ W, Below X.heap.size X W → Calls Try.prog 45 #[.pointer (some ⟨lb, 0, none⟩), .agg #[.int .i64 k, .string m]] W fun e w' => ∃ r, e = .returned (.pointer r) ∧ Hid (FR g n D k m r) ∧ Hid (Below X.heap.size X w')) := fun W hW =>
    (c39 base lb g n cap p D k m W (HO.out W (HX.out.1.trans (hW.mono HX.out.1.size))).1 HU.out hn).mono fun e w' ⟨hb, hf⟩ => by
      rcases hf with ⟨he, hf⟩ | ⟨i, he, hf⟩
      · exact ⟨none, he, Or.inl ⟨rfl, hf⟩, hW.trans (hb.mono hW.size)⟩
      · exact ⟨some ⟨g, i * 9, none⟩, he, Or.inr ⟨i, rfl, hf⟩, hW.trans (hb.mono hW.size)⟩
  obtain ⟨z0, z1, z2, _⟩ := HZ.out X (Below.refl _ _)
  clear R3 BB
  go_region_held3 (fun w' => w'.cell? ⟨sb, 0, none⟩ = some (.pointer (some ⟨lb, 0, none⟩)) ∧ w'.cell? ⟨w.heap.size, 0, none⟩ = some (.int .i64 k) ∧ w'.cell? ⟨w.heap.size, 1, none⟩ = some (.string m)) (go_keep)
    (first | (go_at_call 45; (with_reducible refine (C39.out _ (Below.refl _ _).drew).mono ?_); rintro e w3 ⟨r, rfl, HF, H3⟩; obtain ⟨y0, y1, y2, y3⟩ := HZ.out w3 H3.out))
  all_goals
    have HY : Hid (Below w.heap.size w w3) := HX.out.1.trans (H3.out.mono HX.out.1.size)
    clear z0 z1 z2 C39 HZ H3 HX
    rcases HF.out with ⟨hr, hno⟩ | ⟨i, hr, hi, hsk⟩
    · have HN : Hid (mine n D k m wk rev = none) := mine_none (slot_none hno)
      subst hr
      clear HF hno
      go_wp2
      go_quiet (fail)
      go_wp2
      go_ret
      exact ⟨below_drewN HY.out _, Or.inl ⟨HN.out, rfl⟩⟩
    · have HS : Hid (slotOf n D k m = some i) := slot_some HU.out hi hsk
      obtain ⟨a0, a1, a2, a3, a4, a5, a6, a7, a8⟩ := nine_ec (HO.out w3 HY.out).1.own i hi
      subst hr
      clear HF
      have hEQ := eq73 (D i).k (D i).sin k rev (D i).m m
      have hgd := Try.guard73
      have b1 : ((D i).k == k) = true := by rw [beq_iff_eq]; exact hsk.1
      have b2 : ((D i).m.toList == m.toList) = true := by rw [beq_iff_eq]; exact hsk.2
      rw [b1, b2, Bool.true_and, Bool.true_and] at hEQ
      obtain ⟨bb, hbb⟩ : ∃ bb, ((D i).sin == rev) = bb := ⟨_, rfl⟩
      rw [hbb] at hEQ
      have HBB : Hid (((D i).sin == rev) = bb) := hbb
      have HI : Hid (i < n) := hi
      clear b1 b2 hbb hsk
      cases bb
      · have HN : Hid (mine n D k m wk rev = none) := mine_no HS.out (fun h => beq_eq_false_iff_ne.1 HBB.out h.1)
        go_wp2
        go_quiet (fail)
        go_wp2
        go_ret
        exact ⟨below_drewN HY.out _, Or.inl ⟨HN.out, rfl⟩⟩
      · have hwk1 : IntKind.i64.wrap (wk + 1) = wk + 1 := by rw [IntKind.wrap_i64]; omega
        by_cases ho : (D i).own = wk + 1
        · have b3 : ((D i).own == wk + 1) = true := by rw [beq_iff_eq]; exact ho
          have b4 : ((D i).own != wk + 1) = false := by rw [bne, b3]; rfl
          have HOW : Hid ((D i).own = wk + 1) := ho
          clear ho
          by_cases hv : (D i).ver ≤ rev
          · have HN : Hid (mine n D k m wk rev = some i) := mine_yes HS.out ⟨beq_iff_eq.1 HBB.out, HOW.out, hv⟩
            have b5 : decide (rev < (D i).ver) = false := decide_eq_false (by omega)
            clear hv
            go_wp2
            go_quiet (fail)
            clear hEQ hgd
            go_wp2
            go_ret
            exact ⟨below_drewN HY.out _, Or.inr ⟨i, HN.out, HI.out, rfl⟩⟩
          · have HN : Hid (mine n D k m wk rev = none) := mine_no HS.out (fun h => hv h.2.2)
            have b5 : decide (rev < (D i).ver) = true := decide_eq_true (by omega)
            clear hv
            go_wp2
            go_quiet (fail)
            clear hEQ hgd
            go_wp2
            go_ret
            exact ⟨below_drewN HY.out _, Or.inl ⟨HN.out, rfl⟩⟩
        · have b3 : ((D i).own == wk + 1) = false := beq_eq_false_iff_ne.2 ho
          have b4 : ((D i).own != wk + 1) = true := by rw [bne, b3]; rfl
          have HN : Hid (mine n D k m wk rev = none) := mine_no HS.out (fun h => ho h.2.1)
          clear ho
          go_wp2
          go_quiet (fail)
          clear hEQ hgd
          go_wp2
          go_ret
          exact ⟨below_drewN HY.out _, Or.inl ⟨HN.out, rfl⟩⟩

end Go.Proofs.Ytijgiingfgaakaa
