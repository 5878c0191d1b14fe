/-
  Tables: the program's Confirm.
-/
import Derived.Test.YtijgiingfgaakaaTabX2
namespace Go.Proofs.Ytijgiingfgaakaa
open Go.RowKit

/-- What a function that gives a table and a code gives. -/
def TabPost2 (w : World) (n : Nat) (D : Nat → SD) (code : Int) (e : Ending) (w' : World) : Prop :=
  ∃ ao b c q, e = .returned (.tuple #[.agg #[.slice ao n c], .int .i64 code]) ∧ TabNew w' w.heap.size w'.heap.size ao b n q D ∧ Below w.heap.size w w'

/-- What is asked of the arguments. -/
def okA (n : Nat) (D : Nat → SD) (k : Int) (m : ByteArray) (wk rev : Int) : Bool := vt n D && (kv k m && (decide (0 ≤ wk ∧ wk < 16) && decide (1 ≤ rev)))

theorem okA_parts {n : Nat} {D : Nat → SD} {k : Int} {m : ByteArray} {wk rev : Int} (h : okA n D k m wk rev = true) : vt n D = true ∧ kv k m = true ∧ (0 ≤ wk ∧ wk < 16) ∧ 1 ≤ rev := by
  unfold okA at h
  simp only [Bool.and_eq_true, decide_eq_true_eq] at h
  exact ⟨h.1, h.2.1, h.2.2.1, h.2.2.2⟩

theorem vt_len {n : Nat} {D : Nat → SD} (hv : vt n D = true) : n ≤ 4096 := by
  by_cases h : 4096 < n
  · rw [vt_big h] at hv; cases hv
  · omega

/-- What must hold of the slots that are written out. -/
structure Good (w : World) (p : SP) (d : SD) : Prop where
  at_ : SlotAt w p d
  sm : small d

theorem good_cfm {w : World} {p : SP} {d : SD} (h : Good w p d) (rev : Int) : Good w p (cfm d rev) :=
  ⟨⟨h.at_.keys, h.at_.sm, h.at_.sv, by show (-9223372036854775808 : Int) ≤ 0; omega, by show (0 : Int) ≤ 9223372036854775807; omega⟩, h.sm⟩
theorem good_conf {w : World} {n : Nat} {p : Nat → SP} {D : Nat → SD} {k : Int} {m : ByteArray} {wk rev : Int} (h : ∀ i, i < n → Good w (p i) (D i)) : ∀ i, i < n → Good w (p i) (confD n D k m wk rev i) := by
  intro i hi
  cases hm : mine n D k m wk rev with
  | none => rw [(conf_none hm).2]; exact h i hi
  | some j =>
    cases hh : (D j).has
    · rw [(conf_no hm hh).2]; exact h i hi
    · rw [(conf_yes hm hh).2]
      by_cases e : i = j
      · subst e
        rw [updF_at]; exact good_cfm (h i hi) rev
      · rw [updF_ne e]; exact h i hi

set_option maxRecDepth 100000 in
set_option maxHeartbeats 8000000 in
theorem t_Confirm (ao : Option Addr) (b o n c : Nat) (p : Nat → SP) (D : Nat → SD) (k : Int) (m : ByteArray) (wk rev : Int) (w : World) (h1 : SlotsAt w ao b o n p D) (hm : m.size ≤ 9223372036854775807) (hs : ∀ i, i < n → small (D i)) :
    Calls Try.prog 31 #[.agg #[.slice ao n c], .agg #[.int .i64 k, .string m], .int .i64 wk, .int .i64 rev] w fun e w' =>
      TabPost2 w (if okA n D k m wk rev then n else 0) (confD n D k m wk rev) (if okA n D k m wk rev then confC n D k m wk rev else 9) e w' := by
  have HB : Hid (∀ w', Below w.heap.size w w' → SlotsAt w' ao b o n p D) := fun w' hb => h1.below hb
  have HS : Hid (∀ i, i < n → small (D i)) := hs
  clear h1 hs
  obtain ⟨n', hn'⟩ : ∃ n', n' = if okA n D k m wk rev then n else 0 := ⟨_, rfl⟩
  obtain ⟨cd, hcd⟩ : ∃ cd, cd = if okA n D k m wk rev then confC n D k m wk rev else 9 := ⟨_, rfl⟩
  rw [← hn', ← hcd]
  have HN : Hid (n' = if okA n D k m wk rev then n else 0) := hn'
  have HC : Hid (cd = if okA n D k m wk rev then confC n D k m wk rev else 9) := hcd
  clear hn' hcd
  have rT := ((row1 w (.slice ao n c) 28).alloc (.cells #[.int .i64 k, .string m] 37)).alloc (.cells #[.slice none 0 0] 28)
  have rK := (row2 (w.alloc (.cells #[.slice ao n c] 28)) (.int .i64 k) (.string m) 37).alloc (.cells #[.slice none 0 0] 28)
  have rR := row1 ((w.alloc (.cells #[.slice ao n c] 28)).alloc (.cells #[.int .i64 k, .string m] 37)) (.slice none 0 0) 28
  simp only [World.size_alloc] at rK rR
  have HR : Hid (_ ∧ _) := And.intro rK rR
  clear rT rK rR
  go_enter Try.func31, Try.ntmps31
  go_wp2_with fail
  refine (c35 ao b o n c p D k m wk rev _ (by exact HB.out _ (bel3 _ _ _ _)) hm).mono ?_
  rintro e w1 ⟨ptr, rfl, hb1, hO⟩
  have B1 : Hid (Below w.heap.size w w1) := (bel3 w _ _ _).trans (hb1.mono (by simp; omega))
  have R1 : Hid (w1.rowIs (w.heap.size + 1) 37 2 _ ∧ w1.rowIs (w.heap.size + 1 + 1) 28 1 _) := ⟨HR.out.1.of_block (hb1.block _ (by simp)), HR.out.2.of_block (hb1.block _ (by simp))⟩
  have HO : Hid (vt n D = true → ∃ sb, ptr = some ⟨sb, 0, none⟩ ∧ ∃ base lb g cap, OS w1 base lb (.slice (some ⟨g, 0, none⟩) n cap) n p D ∧ w1.cell? ⟨sb, 0, none⟩ = some (.pointer (some ⟨lb, 0, none⟩)) ∧ w.heap.size + 1 + 1 < base ∧ base ≤ sb ∧ sb ≠ lb ∧ sb ≠ g) := fun hv => by
    obtain ⟨sb, e1, hop⟩ := hO hv
    obtain ⟨base, lb, sv, k1, k2, k3, k4, k5, k6⟩ := hop.st
    obtain ⟨g, cap, rfl⟩ := k1.form
    simp only [World.size_alloc] at k3
    exact ⟨sb, e1, base, lb, g, cap, k1, k2, by omega, k4, k5, fun e => k6 (by rw [e]; rfl)⟩
  clear hb1 hO HR
  obtain ⟨ok, hok⟩ : ∃ ok, ok = okA n D k m wk rev := ⟨_, rfl⟩
  have HOK : Hid (ok = okA n D k m wk rev) := hok
  have e0 : (vt n D && (kv k m && (decide (0 ≤ wk ∧ wk < 16) && decide (1 ≤ rev)))) = ok := hok.symm
  rw [e0]
  clear hok e0
  have r0 := R1.out.2.cell (i := 0) (by omega)
  have rf := R1.out.2.frozen 0
  cases ok
  · have HN0 : Hid (n' = 0 ∧ cd = 9) := by rw [HN.out, HC.out, ← HOK.out]; exact ⟨rfl, rfl⟩
    go_wp2
    refine bodyPost_ret (v := .tuple #[.agg #[.slice none 0 0], .int .i64 9]) (by simp [results, Try.results31, go_sem, r0]) rfl ?_
    unfold TabPost2
    rw [HN0.out.1, HN0.out.2]
    exact ⟨none, 0, 0, p, rfl, tab_none _ _ _ _ _ _ _, B1.out.setCell (by show w.heap.size ≤ w.heap.size + 1 + 1; omega) _⟩
  · obtain ⟨p1, p2, p3, p4⟩ := okA_parts HOK.out.symm
    obtain ⟨sb, rfl, base, lb, g, cap, k1, k2, k3, k4, k5, k6⟩ := HO.out p1
    have hn := vt_len p1
    have hgb : base ≤ g := (os_row k1).choose_spec.2.2.2.1
    have HUP : Hid (Up n D) := up_of p1
    have HK : Hid (OS w1 base lb (.slice (some ⟨g, 0, none⟩) n cap) n p D ∧ w1.cell? ⟨sb, 0, none⟩ = some (.pointer (some ⟨lb, 0, none⟩))) := ⟨k1, k2⟩
    have HN1 : Hid (n' = n ∧ cd = confC n D k m wk rev) := by rw [HN.out, HC.out, ← HOK.out]; exact ⟨rfl, rfl⟩
    have y0 : w1.cell? ⟨w.heap.size + 1, 0, none⟩ = some (.int .i64 k) := R1.out.1.cell (i := 0) (by omega)
    have y1 : w1.cell? ⟨w.heap.size + 1, 1, none⟩ = some (.string m) := R1.out.1.cell (i := 1) (by omega)
    clear k1 k2 p1 p2 p4 r0 rf
    go_wp2_with fail
    refine (t_confirm base lb g n cap sb p D k m wk rev _ HK.out.1 HK.out.2 k6 HUP.out (by omega) p3).mono ?_
    rintro e w2 ⟨rfl, L2⟩
    have B2 : Hid (Below w.heap.size w w2) := L2.span.toBelow B1.out (by omega) B1.out.size
    have R2 : Hid (w2.rowIs (w.heap.size + 1 + 1) 28 1 (fun _ => .slice none 0 0)) := R1.out.2.of_block (L2.span.block _ R1.out.2.lt (by omega))
    have O2 : Hid (Opened w w2 sb n p (confD n D k m wk rev)) := ⟨base, lb, _, L2.os, L2.sb, by omega, k4, k5, fun e => k6 (by simpa [Value.ownBlock] using e)⟩
    have G2 : Hid (∀ i, i < n → Good w2 (p i) (confD n D k m wk rev i)) := good_conf (fun i hi => ⟨(HB.out w2 B2.out).slot i hi, HS.out i hi⟩)
    clear L2 y0 y1
    go_wp2_with fail
    refine (t_table w sb n p _ w2 O2.out (fun i hi => (G2.out i hi).at_) (fun i hi => (G2.out i hi).sm) (by omega)).mono ?_
    rintro e w3 ⟨ta, tb, tc, tq, rfl, T3, hb3⟩
    have R3 := R2.out.of_block (hb3.block _ R2.out.lt)
    have r0 := R3.cell (i := 0) (by omega)
    have rf := R3.frozen 0
    have HF : Hid (TabNew w3 w2.heap.size w3.heap.size ta tb n tq (confD n D k m wk rev) ∧ Below w.heap.size w w3 ∧ w.heap.size + 1 + 1 < w2.heap.size) := ⟨T3, B2.out.trans (hb3.mono B2.out.size), R2.out.lt⟩
    clear T3 hb3 R3
    go_wp2
    refine bodyPost_ret (v := .tuple #[.agg #[.slice ta n tc], .int .i64 (confC n D k m wk rev)]) (by simp [results, Try.results31, go_sem, r0]) rfl ?_
    unfold TabPost2
    rw [HN1.out.1, HN1.out.2]
    exact ⟨ta, tb, tc, tq, rfl, (HF.out.1.set (a := ⟨w.heap.size + 1 + 1, 0, none⟩) HF.out.2.2 _).wide (by have := HF.out.2.2; omega) (by simp), HF.out.2.1.setCell (by show w.heap.size ≤ w.heap.size + 1 + 1; omega) _⟩

end Go.Proofs.Ytijgiingfgaakaa
