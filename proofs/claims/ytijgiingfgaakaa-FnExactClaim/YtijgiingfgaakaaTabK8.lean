/-
  Tables: the program's Claim.
-/
import Derived.Test.YtijgiingfgaakaaTabK7
import Derived.Test.YtijgiingfgaakaaTabX3
namespace Go.Proofs.Ytijgiingfgaakaa
open Go.RowKit

/-- What is asked of the arguments of a claim. -/
def okB (n : Nat) (D : Nat → SD) (k : Int) (m : ByteArray) (wk rev cpy : Int) : Bool := okA n D k m wk rev && decide (1 ≤ cpy ∧ cpy ≤ 4096)

theorem clmN_le (n : Nat) (D : Nat → SD) (k : Int) (m : ByteArray) (cpy : Int) : clmN n D k m cpy ≤ n + 1 := by
  unfold clmN
  split
  · split <;> omega
  · omega

theorem kv_small {k : Int} {m : ByteArray} (h : kv k m = true) : m.size ≤ 12 := by
  unfold kv at h
  rw [Bool.and_eq_true] at h
  have h2 := h.2
  by_cases hc : 12 < m.size
  · rw [gn_short (Or.inr hc)] at h2; cases h2
  · omega

theorem good_clm {w : World} {n : Nat} {p : Nat → SP} {D : Nat → SD} {k : Int} {m : ByteArray} {wk cpy : Int} (h : ∀ i, i < n → Good w (p i) (D i)) (hk : kv k m = true) (hwk : 0 ≤ wk ∧ wk < 16) (rev : Int) : ∀ i, i < clmN n D k m cpy → Good w (clmP n p D k m cpy i) (clmD n D k m wk rev cpy i) := by
  intro i hi
  have hm := kv_small hk
  cases hs : slotOf n D k m with
  | none =>
    by_cases hc : cpy ≤ (n : Int)
    · rw [(clm_full (wk := wk) (rev := rev) hs hc).2.1] at hi
      rw [(clm_full hs hc).2.2]
      unfold clmP; rw [hs]; simp only [hc, if_true]
      exact h i hi
    · rw [(clm_new (wk := wk) (rev := rev) hs hc).2.1] at hi
      rw [(clm_new hs hc).2.2, putD_ins]
      unfold clmP; rw [hs]; simp only [hc, if_false]
      have hp := pos_le n D k m
      rcases Nat.lt_trichotomy i (posK n D k m) with c | c | c
      · rw [insF_lt c, insF_lt c]; exact h i (by omega)
      · rw [c, insF_at, insF_at]
        exact ⟨⟨keys_no _ _ _, by show m.size ≤ _; omega, by show (0 : Nat) ≤ _; omega, by show (-9223372036854775808 : Int) ≤ wk + 1; omega, by show wk + 1 ≤ (9223372036854775807 : Int); omega⟩, ⟨by show m.size ≤ _; omega, by show (0 : Nat) ≤ _; omega, by show (0 : Nat) ≤ _; omega, fun j hj => absurd hj (Nat.not_lt_zero _)⟩⟩
      · rw [insF_gt c, insF_gt c]; exact h (i - 1) (by omega)
  | some j =>
    by_cases hc : (D j).sin = rev
    · rw [(clm_no (wk := wk) (rev := rev) hs hc).2.1] at hi
      rw [(clm_no hs hc).2.2]
      unfold clmP; rw [hs]
      exact h i hi
    · rw [(clm_take (wk := wk) (rev := rev) hs hc).2.1] at hi
      rw [(clm_take hs hc).2.2]
      unfold clmP; rw [hs]
      have hg := h i hi
      by_cases e : i = j
      · subst e
        rw [updF_at]
        exact ⟨⟨hg.at_.keys, hg.at_.sm, hg.at_.sv, by show (-9223372036854775808 : Int) ≤ wk + 1; omega, by show wk + 1 ≤ (9223372036854775807 : Int); omega⟩, hg.sm⟩
      · rw [updF_ne e]; exact hg

set_option maxRecDepth 100000 in
set_option maxHeartbeats 8000000 in
theorem t_Claim (ao : Option Addr) (b o n c : Nat) (p : Nat → SP) (D : Nat → SD) (k : Int) (m : ByteArray) (wk rev cpy : Int) (w : World) (h1 : SlotsAt w ao b o n p D) (hm : m.size ≤ 9223372036854775807) (hs : ∀ i, i < n → small (D i)) :
    Calls Try.prog 23 #[.agg #[.slice ao n c], .agg #[.int .i64 k, .string m], .int .i64 wk, .int .i64 rev, .int .i64 cpy] w fun e w' =>
      TabPost2 w (if okB n D k m wk rev cpy then clmN n D k m cpy else 0) (clmD n D k m wk rev cpy) (if okB n D k m wk rev cpy then clmC n D k m rev cpy else 9) e w' := by
  have HB : Hid (∀ w', Below w.heap.size w w' → SlotsAt w' ao b o n p D) := fun w' hb => h1.below hb
  have HS : Hid (∀ i, i < n → small (D i)) := hs
  clear h1 hs
  obtain ⟨n', hn'⟩ : ∃ n', n' = if okB n D k m wk rev cpy then clmN n D k m cpy else 0 := ⟨_, rfl⟩
  obtain ⟨cd, hcd⟩ : ∃ cd, cd = if okB n D k m wk rev cpy then clmC n D k m rev cpy else 9 := ⟨_, rfl⟩
  rw [← hn', ← hcd]
  have HN : Hid (n' = if okB n D k m wk rev cpy then clmN n D k m cpy else 0) := hn'
  have HC : Hid (cd = if okB n D k m wk rev cpy then clmC n D k m rev cpy else 9) := hcd
  clear hn' hcd
  have rT := ((row1 w (.slice ao n c) 28).alloc (.cells #[.int .i64 k, .string m] 37)).alloc (.cells #[.slice none 0 0] 28)
  have rK := (row2 (w.alloc (.cells #[.slice ao n c] 28)) (.int .i64 k) (.string m) 37).alloc (.cells #[.slice none 0 0] 28)
  have rR := row1 ((w.alloc (.cells #[.slice ao n c] 28)).alloc (.cells #[.int .i64 k, .string m] 37)) (.slice none 0 0) 28
  simp only [World.size_alloc] at rK rR
  have HR : Hid (_ ∧ _) := And.intro rK rR
  clear rT rK rR
  go_enter Try.func23, Try.ntmps23
  go_wp2_with fail
  refine (r35 ao b o n c p D k m wk rev _ (by exact HB.out _ (bel3 _ _ _ _)) hm).mono ?_
  rintro e w1 ⟨ptr, rfl, hb1, hO⟩
  have B1 : Hid (Below w.heap.size w w1) := (bel3 w _ _ _).trans (hb1.mono (by simp; omega))
  have R1 : Hid (w1.rowIs (w.heap.size + 1) 37 2 _ ∧ w1.rowIs (w.heap.size + 1 + 1) 28 1 _) := ⟨HR.out.1.of_block (hb1.block _ (by simp)), HR.out.2.of_block (hb1.block _ (by simp))⟩
  have HO : Hid (vt n D = true → ∃ sb, ptr = some ⟨sb, 0, none⟩ ∧ ∃ base lb g, OS w1 base lb (.slice (some ⟨g, 0, none⟩) n (n + 1)) n p D ∧ w1.cell? ⟨sb, 0, none⟩ = some (.pointer (some ⟨lb, 0, none⟩)) ∧ w.heap.size + 1 + 1 < base ∧ base ≤ sb ∧ sb ≠ lb ∧ sb ≠ g) := fun hv => by
    obtain ⟨sb, e1, hop⟩ := hO hv
    obtain ⟨base, lb, g, k1, k2, k3, k4, k5, k6⟩ := hop.st
    simp only [World.size_alloc] at k3
    exact ⟨sb, e1, base, lb, g, k1, k2, by omega, k4, k5, k6⟩
  clear hb1 hO HR
  obtain ⟨ok, hok⟩ : ∃ ok, ok = okA n D k m wk rev := ⟨_, rfl⟩
  have HOK : Hid (ok = okA n D k m wk rev) := hok
  have e0 : (vt n D && (kv k m && (decide (0 ≤ wk ∧ wk < 16) && decide (1 ≤ rev)))) = ok := hok.symm
  rw [e0]
  clear hok e0
  have r0 := R1.out.2.cell (i := 0) (by omega)
  have rf := R1.out.2.frozen 0
  cases ok
  · have HN0 : Hid (n' = 0 ∧ cd = 9) := by
      have e1 : okB n D k m wk rev cpy = false := by unfold okB; rw [← HOK.out]; rfl
      rw [HN.out, HC.out, e1]; exact ⟨rfl, rfl⟩
    go_wp2
    refine bodyPost_ret (v := .tuple #[.agg #[.slice none 0 0], .int .i64 9]) (by simp [results, Try.results23, go_sem, r0]) rfl ?_
    unfold TabPost2
    rw [HN0.out.1, HN0.out.2]
    exact ⟨none, 0, 0, p, rfl, tab_none _ _ _ _ _ _ _, B1.out.setCell (by show w.heap.size ≤ w.heap.size + 1 + 1; omega) _⟩
  by_cases hcl : 1 ≤ cpy ∧ cpy ≤ 4096
  case neg =>
    have HN0 : Hid (n' = 0 ∧ cd = 9) := by
      have e1 : okB n D k m wk rev cpy = false := by unfold okB; rw [decide_eq_false hcl, Bool.and_false]
      rw [HN.out, HC.out, e1]; exact ⟨rfl, rfl⟩
    by_cases hc1 : cpy < 1
    · clear hcl
      go_wp2
      refine bodyPost_ret (v := .tuple #[.agg #[.slice none 0 0], .int .i64 9]) (by simp [results, Try.results23, go_sem, r0]) rfl ?_
      unfold TabPost2
      rw [HN0.out.1, HN0.out.2]
      exact ⟨none, 0, 0, p, rfl, tab_none _ _ _ _ _ _ _, B1.out.setCell (by show w.heap.size ≤ w.heap.size + 1 + 1; omega) _⟩
    · have hc2 : 4096 < cpy := by omega
      clear hcl
      go_wp2
      refine bodyPost_ret (v := .tuple #[.agg #[.slice none 0 0], .int .i64 9]) (by simp [results, Try.results23, go_sem, r0]) rfl ?_
      unfold TabPost2
      rw [HN0.out.1, HN0.out.2]
      exact ⟨none, 0, 0, p, rfl, tab_none _ _ _ _ _ _ _, B1.out.setCell (by show w.heap.size ≤ w.heap.size + 1 + 1; omega) _⟩
  case pos =>
    obtain ⟨p1, p2, p3, p4⟩ := okA_parts HOK.out.symm
    obtain ⟨sb, rfl, base, lb, g, k1, k2, k3, k4, k5, k6⟩ := HO.out p1
    have hn := vt_len p1
    have hgb : base ≤ g := (os_row k1).choose_spec.2.2.2.1
    have hlb : base ≤ lb := k1.lo
    have HUP : Hid (Up n D) := up_of p1
    have HKV : Hid (kv k m = true) := p2
    have HK : Hid (OS w1 base lb (.slice (some ⟨g, 0, none⟩) n (n + 1)) n p D ∧ w1.cell? ⟨sb, 0, none⟩ = some (.pointer (some ⟨lb, 0, none⟩))) := ⟨k1, k2⟩
    have HN1 : Hid (n' = clmN n D k m cpy ∧ cd = clmC n D k m rev cpy) := by
      have e1 : okB n D k m wk rev cpy = true := by unfold okB; rw [← HOK.out, decide_eq_true hcl]; rfl
      rw [HN.out, HC.out, e1]; exact ⟨rfl, rfl⟩
    have y0 : w1.cell? ⟨w.heap.size + 1, 0, none⟩ = some (.int .i64 k) := R1.out.1.cell (i := 0) (by omega)
    have y1 : w1.cell? ⟨w.heap.size + 1, 1, none⟩ = some (.string m) := R1.out.1.cell (i := 1) (by omega)
    have hc1 : ¬ cpy < 1 := by omega
    have hc2 : ¬ 4096 < cpy := by omega
    clear k1 k2 p1 p2 p4 r0 rf hcl
    go_wp2_with fail
    refine (t_claim base lb g n (n + 1) sb p D k m wk rev cpy _ HK.out.1 HK.out.2 k6 k5 HUP.out (Nat.le_refl _) (by omega) p3).mono ?_
    rintro e w2 ⟨rfl, L2⟩
    have hw1 := B1.out.size
    have B2 : Hid (Below w.heap.size w w2) := ⟨L2.kept.os.trans B1.out.os, L2.kept.tape.trans B1.out.tape, L2.kept.output.trans B1.out.output, Nat.le_trans hw1 L2.kept.size, fun x hx => (L2.kept.block x ⟨by omega, by omega, by omega⟩).trans (B1.out.block x hx)⟩
    have R2 : Hid (w2.rowIs (w.heap.size + 1 + 1) 28 1 (fun _ => .slice none 0 0)) := R1.out.2.of_block (L2.kept.block _ ⟨R1.out.2.lt, by omega, by omega⟩)
    have O2 : Hid (Opened w w2 sb (clmN n D k m cpy) (clmP n p D k m cpy) (clmD n D k m wk rev cpy)) := ⟨base, lb, _, L2.os, L2.sb, by omega, k4, k5, fun e => k6 (by simpa [Value.ownBlock] using e)⟩
    have G2 : Hid (∀ i, i < clmN n D k m cpy → Good w2 (clmP n p D k m cpy i) (clmD n D k m wk rev cpy i)) := good_clm (fun i hi => ⟨(HB.out w2 B2.out).slot i hi, HS.out i hi⟩) HKV.out p3 rev
    have hnn : clmN n D k m cpy ≤ 1048576 := by have := clmN_le n D k m cpy; omega
    obtain ⟨n2, hn2⟩ : ∃ n2, n2 = clmN n D k m cpy := ⟨_, rfl⟩
    obtain ⟨c2, hcc2⟩ : ∃ c2, c2 = clmC n D k m rev cpy := ⟨_, rfl⟩
    rw [← hn2] at O2 G2 HN1 hnn
    rw [← hcc2] at HN1
    rw [← hcc2]
    clear hn2 hcc2
    clear L2 y0 y1
    go_wp2_with fail
    refine (t_table w sb n2 _ _ w2 O2.out (fun i hi => (G2.out i hi).at_) (fun i hi => (G2.out i hi).sm) hnn).mono ?_
    rintro e w3 ⟨ta, tb, tc, tq, rfl, T3, hb3⟩
    have R3 := R2.out.of_block (hb3.block _ R2.out.lt)
    have r0 := R3.cell (i := 0) (by omega)
    have rf := R3.frozen 0
    have HF : Hid (TabNew w3 w2.heap.size w3.heap.size ta tb n2 tq (clmD n D k m wk rev cpy) ∧ Below w.heap.size w w3 ∧ w.heap.size + 1 + 1 < w2.heap.size) := ⟨T3, B2.out.trans (hb3.mono B2.out.size), R2.out.lt⟩
    clear T3 hb3 R3
    go_wp2
    refine bodyPost_ret (v := .tuple #[.agg #[.slice ta n2 tc], .int .i64 c2]) (by simp [results, Try.results23, go_sem, r0]) rfl ?_
    unfold TabPost2
    rw [HN1.out.1, HN1.out.2]
    exact ⟨ta, tb, tc, tq, rfl, (HF.out.1.set (a := ⟨w.heap.size + 1 + 1, 0, none⟩) HF.out.2.2 _).wide (by have := HF.out.2.2; omega) (by simp), HF.out.2.1.setCell (by show w.heap.size ≤ w.heap.size + 1 + 1; omega) _⟩

end Go.Proofs.Ytijgiingfgaakaa
