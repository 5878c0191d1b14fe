/-
  Tables: what a claim gives, without a program; the call of the model's put.
-/
import Derived.Test.YtpbebpcoeeednaaTabX5
namespace Go.Proofs.Ytpbebpcoeeednaa
open Go.RowKit

/-- A new slot. -/
def nw (k : Int) (m : ByteArray) (wk rev : Int) : SD := ⟨k, m, false, ByteArray.empty, 0, fun _ => 0, fun _ => ByteArray.empty, 0, 0, wk + 1, rev⟩
/-- A slot that is taken. -/
def tk (d : SD) (wk rev : Int) : SD := { d with own := wk + 1, sin := rev }
/-- Where a new slot belongs. -/
def posK (n : Nat) (D : Nat → SD) (k : Int) (m : ByteArray) : Nat := (List.range n).findIdx (fun j => !kl (D j).k (D j).m k m)

theorem pos_le (n : Nat) (D : Nat → SD) (k : Int) (m : ByteArray) : posK n D k m ≤ n := by
  have := List.findIdx_le_length (p := fun j => !kl (D j).k (D j).m k m) (xs := List.range n)
  rw [List.length_range] at this
  exact this
theorem pos_lt {n j : Nat} {D : Nat → SD} {k : Int} {m : ByteArray} (h : j < posK n D k m) : kl (D j).k (D j).m k m = true := by
  have := List.not_of_lt_findIdx (p := fun j => !kl (D j).k (D j).m k m) (xs := List.range n) h
  simpa using this
theorem pos_at {n : Nat} {D : Nat → SD} {k : Int} {m : ByteArray} (h : posK n D k m < n) : kl (D (posK n D k m)).k (D (posK n D k m)).m k m = false := by
  have := List.findIdx_getElem (p := fun j => !kl (D j).k (D j).m k m) (xs := List.range n) (w := by rw [List.length_range]; exact h)
  rw [List.getElem_range] at this
  simpa [posK] using this
theorem pos_ge {n j : Nat} {D : Nat → SD} {k : Int} {m : ByteArray} (hU : Up n D) (h : posK n D k m ≤ j) (hj : j < n) : kl (D j).k (D j).m k m = false := by
  by_cases e : posK n D k m = j
  · subst e; exact pos_at hj
  · cases hh : kl (D j).k (D j).m k m
    · rfl
    · have := kl_trans (hU (posK n D k m) j (by omega) hj) hh
      rw [pos_at (n := n) (D := D) (k := k) (m := m) (by omega)] at this
      cases this
theorem pos_uniq {n i : Nat} {D : Nat → SD} {k : Int} {m : ByteArray} (hi : i ≤ n) (h1 : ∀ j, j < i → kl (D j).k (D j).m k m = true) (h2 : i < n → kl (D i).k (D i).m k m = false) : i = posK n D k m := by
  rcases Nat.lt_trichotomy i (posK n D k m) with h | h | h
  · have := pos_lt h
    rw [h2 (Nat.lt_of_lt_of_le h (pos_le n D k m))] at this
    cases this
  · exact h
  · have := h1 _ h
    rw [pos_at (n := n) (D := D) (k := k) (m := m) (by omega)] at this
    cases this

def clmC (n : Nat) (D : Nat → SD) (k : Int) (m : ByteArray) (rev cpy : Int) : Int :=
  match slotOf n D k m with
  | none => if cpy ≤ (n : Int) then 2 else 0
  | some i => if (D i).sin = rev then 1 else 0
def clmN (n : Nat) (D : Nat → SD) (k : Int) (m : ByteArray) (cpy : Int) : Nat :=
  match slotOf n D k m with
  | none => if cpy ≤ (n : Int) then n else n + 1
  | some _ => n
def clmD (n : Nat) (D : Nat → SD) (k : Int) (m : ByteArray) (wk rev cpy : Int) : Nat → SD :=
  match slotOf n D k m with
  | none => if cpy ≤ (n : Int) then D else putD false (posK n D k m) (nw k m wk rev) D
  | some i => if (D i).sin = rev then D else updF D i (tk (D i) wk rev)

theorem clm_full {n : Nat} {D : Nat → SD} {k : Int} {m : ByteArray} {wk rev cpy : Int} (h : slotOf n D k m = none) (h2 : cpy ≤ (n : Int)) : clmC n D k m rev cpy = 2 ∧ clmN n D k m cpy = n ∧ clmD n D k m wk rev cpy = D := by
  unfold clmC clmN clmD; rw [h]; simp [h2]
theorem clm_new {n : Nat} {D : Nat → SD} {k : Int} {m : ByteArray} {wk rev cpy : Int} (h : slotOf n D k m = none) (h2 : ¬ cpy ≤ (n : Int)) : clmC n D k m rev cpy = 0 ∧ clmN n D k m cpy = n + 1 ∧ clmD n D k m wk rev cpy = putD false (posK n D k m) (nw k m wk rev) D := by
  unfold clmC clmN clmD; rw [h]; simp [h2]
theorem clm_no {n i : Nat} {D : Nat → SD} {k : Int} {m : ByteArray} {wk rev cpy : Int} (h : slotOf n D k m = some i) (h2 : (D i).sin = rev) : clmC n D k m rev cpy = 1 ∧ clmN n D k m cpy = n ∧ clmD n D k m wk rev cpy = D := by
  unfold clmC clmN clmD; rw [h]; simp [h2]
theorem clm_take {n i : Nat} {D : Nat → SD} {k : Int} {m : ByteArray} {wk rev cpy : Int} (h : slotOf n D k m = some i) (h2 : ¬ (D i).sin = rev) : clmC n D k m rev cpy = 0 ∧ clmN n D k m cpy = n ∧ clmD n D k m wk rev cpy = updF D i (tk (D i) wk rev) := by
  unfold clmC clmN clmD; rw [h]; simp [h2]

theorem sv_sin {d : SD} {rev : Int} (h : sv d = true) (hr : 1 ≤ rev) (h2 : d.sin = rev) : d.own ≠ 0 := by
  unfold sv at h
  rw [Bool.and_eq_true] at h
  have h3 := h.2
  cases hh : d.has
  · rw [hh] at h3
    simp only [Bool.false_eq_true, if_false, decide_eq_true_eq] at h3
    have := h3.1
    unfold held at this
    omega
  · rw [hh] at h3
    simp only [if_true, Bool.and_eq_true, decide_eq_true_eq] at h3
    have := h3.1.1
    unfold held free at this
    omega

theorem vt_sv' {n i : Nat} {D : Nat → SD} (h : vt n D = true) (hi : i < n) : sv (D i) = true := by
  unfold vt allTo at h
  rw [Bool.and_eq_true, List.all_eq_true] at h
  have := h.2 i (List.mem_range.2 hi)
  unfold so at this
  rw [Bool.and_eq_true] at this
  exact this.1

theorem keys_no (W : World) (K : Nat → Int) (M : Nat → ByteArray) : KeysAt W none 0 0 0 K M :=
  ⟨fun h => absurd h (Nat.lt_irrefl _), fun _ h => absurd h (Nat.not_lt_zero _), fun _ h => absurd h (Nat.not_lt_zero _), fun _ h => absurd h (Nat.not_lt_zero _), by omega⟩

theorem Bx.span {w W W' : World} {ao : Option Addr} {n c : Nat} {k : Int} {m : ByteArray} (h : Bx w W ao n c k m) {l2 h2 : Nat} (hs : Span l2 h2 W W') (hl : w.heap.size + 1 + 1 < l2) : Bx w W' ao n c k m :=
  ⟨h.t.of_block (hs.block _ h.t.lt (by omega)), h.k.of_block (hs.block _ h.k.lt (by omega)), h.r.of_block (hs.block _ h.r.lt (by omega)), hs.toBelow h.b (by omega) h.b.size⟩

theorem put_call {ao : Option Addr} {b o n c : Nat} {p : Nat → SP} {D : Nat → SD} {k : Int} {m : ByteArray} {w W : World} (X : Bx w W ao n c k m) (HB : ∀ w', Below w.heap.size w w' → SlotsAt w' ao b o n p D) (hn : n ≤ 1048576) (hG : ∀ i, i < n → (D i).n ≤ 1048576) (ps : SP) (ds : SD) (same : Bool) (pos : Nat) (hs : SlotAt W ps ds) (hsn : ds.n ≤ 1048576)
    (hp1 : ∀ j, j < pos → kl (D j).k (D j).m ds.k ds.m = true) (hp2 : ∀ j, pos ≤ j → j < n → kl (D j).k (D j).m ds.k ds.m = false) (hp3 : ∀ j, j < n → decide (sk (D j).k (D j).m ds.k ds.m) = (same && decide (j = pos))) (hp4 : same = true → pos < n) (hp5 : pos ≤ n) :
    Calls Try.prog 59 #[.agg #[.slice ao n c], sdv ps ds] W fun e w' => ∃ (ta : Option Addr) (tc : Nat), e = .returned (.agg #[.slice ta (if same then n else n + 1) tc]) ∧ w'.cell? ⟨w.heap.size + 1 + 1, 0, none⟩ = some (.slice none 0 0) ∧ w'.frozen? ⟨w.heap.size + 1 + 1, 0, none⟩ = false ∧ Hid (∀ cd, TabPost2 w (if same then n else n + 1) (putD same pos ds D) cd (.returned (.tuple #[.agg #[.slice ta (if same then n else n + 1) tc], .int .i64 cd])) (w'.setCell ⟨w.heap.size + 1 + 1, 0, none⟩ (.slice ta (if same then n else n + 1) tc))) :=
  (t_put ao b o n c p D ps ds same pos W (HB W X.b) hn hG hs hsn hp1 hp2 hp3 hp4 hp5).mono fun e w' ⟨ta, tb, tc, tq, he, hT, hb⟩ => ⟨ta, tc, he, (X.below hb).r.cell (i := 0) (by omega), (X.below hb).r.frozen 0, fun cd => tab_post X hb hT⟩

end Go.Proofs.Ytpbebpcoeeednaa
