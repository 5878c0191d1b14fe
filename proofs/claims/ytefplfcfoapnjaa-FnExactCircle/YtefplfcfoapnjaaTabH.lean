/-
  Tables: the program's Circle.
-/
import Derived.Test.YtefplfcfoapnjaaTabD
namespace Go.Proofs.Ytefplfcfoapnjaa
open Go.RowKit

theorem cir_no {n nw : Nat} {D : Nat → SD} {E : Nat → WD} {wk k rev : Int} {m : ByteArray} (h : (vt n D && (kv k m && (decide (0 ≤ wk ∧ wk < 16) && decide (1 ≤ rev)))) = false) : cir n D nw E wk k m rev = false := by unfold cir; rw [h, Bool.false_and]
theorem cir_many {n nw : Nat} {D : Nat → SD} {E : Nat → WD} {wk k rev : Int} {m : ByteArray} (h : 16 < nw) : cir n D nw E wk k m rev = false := by unfold cir; rw [decide_eq_false (by omega : ¬ nw ≤ 16), Bool.false_and, Bool.and_false]
theorem cir_yes {n nw : Nat} {D : Nat → SD} {E : Nat → WD} {wk k rev : Int} {m : ByteArray} (h : (vt n D && (kv k m && (decide (0 ≤ wk ∧ wk < 16) && decide (1 ≤ rev)))) = true) (h2 : nw ≤ 16) : cir n D nw E wk k m rev = chn n D nw E wk rev 17 k m := by unfold cir; rw [h, decide_eq_true h2, Bool.true_and, Bool.true_and]

set_option maxRecDepth 100000 in
set_option maxHeartbeats 4000000 in
theorem c16 (ao : Option Addr) (b o n c : Nat) (p : Nat → SP) (D : Nat → SD) (wo : Option Addr) (wb wf nw wc : Nat) (E : Nat → WD) (wk : Int) (k : Int) (m : ByteArray) (rev : Int) (w : World) (h1 : SlotsAt w ao b o n p D) (h2 : WaitsAt w wo wb wf nw E) (hm : m.size ≤ 9223372036854775807) :
    Calls Try.prog 16 #[.agg #[.slice ao n c], .slice wo nw wc, .int .i64 wk, .agg #[.int .i64 k, .string m], .int .i64 rev] w fun e w' => e = .returned (.bool (cir n D nw E wk k m rev)) ∧ Below w.heap.size w w' := by
  have HB : Hid (∀ w', Below w.heap.size w w' → SlotsAt w' ao b o n p D ∧ WaitsAt w' wo wb wf nw E) := fun w' hb => ⟨h1.below hb, h2.below hb⟩
  have hlen := h2.len
  clear h1 h2
  go_enter Try.func16, Try.ntmps16
  go_wp2_with fail
  refine (c35 ao b o n c p D k m wk rev _ (by exact (HB.out _ (bel2 _ _ _)).1) hm).mono ?_
  rintro e w1 ⟨ptr, rfl, hb1, hO⟩
  have H1 : Hid (Below w.heap.size w w1) := (bel2 w _ _).trans (hb1.mono (by simp; omega))
  have k0 : w1.cell? ⟨w.heap.size + 1, 0, none⟩ = some (.int .i64 k) := by rw [hb1.cell (p := ⟨w.heap.size + 1, 0, none⟩) (by simp)]; simp
  have k1 : w1.cell? ⟨w.heap.size + 1, 1, none⟩ = some (.string m) := by rw [hb1.cell (p := ⟨w.heap.size + 1, 1, none⟩) (by simp)]; simp
  clear hb1
  obtain ⟨v, hv⟩ : ∃ v, (vt n D && (kv k m && (decide (0 ≤ wk ∧ wk < 16) && decide (1 ≤ rev)))) = v := ⟨_, rfl⟩
  rw [hv]
  cases v
  · have HN : Hid (cir n D nw E wk k m rev = false) := cir_no hv
    clear hv hO
    go_wp2
    go_ret
    exact ⟨ret_bool HN.out.symm, H1.out⟩
  · by_cases hnw : nw ≤ 16
    case neg =>
      have HN : Hid (cir n D nw E wk k m rev = false) := cir_many (by omega)
      clear hv hO
      go_wp2
      go_ret
      exact ⟨ret_bool HN.out.symm, H1.out⟩
    have HN : Hid (cir n D nw E wk k m rev = chn n D nw E wk rev 17 k m) := cir_yes hv hnw
    simp only [Bool.and_eq_true, decide_eq_true_eq] at hv
    obtain ⟨hvt, _, hwk, hrev⟩ := hv
    obtain ⟨sb, rfl, hop⟩ := hO hvt
    have C36 : Hid (Calls Try.prog 36 #[.pointer (some ⟨sb, 0, none⟩), .slice wo nw wc, .int .i64 wk, .agg #[.int .i64 k, .string m, .int .i64 rev]] w1 fun e w' => e = .returned (.bool (chn n D nw E wk rev 17 k m)) ∧ Below w1.heap.size w1 w') := c36 wo wb wf nw wc E _ sb n p D k m wk rev w1 hop (HB.out w1 H1.out).2 hvt hwk hrev
    clear hop hvt hwk hrev hO
    go_wp2_with fail
    refine C36.out.mono ?_
    rintro e w2 ⟨rfl, hb2⟩
    go_wp2
    go_ret
    exact ⟨ret_bool HN.out.symm, H1.out.trans (hb2.mono H1.out.size)⟩

end Go.Proofs.Ytefplfcfoapnjaa
