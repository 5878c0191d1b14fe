/-
  Tables: the program's Release.
-/
import Derived.Test.YtijgiingfgaakaaTabR4
import Derived.Test.YtijgiingfgaakaaTabX3
namespace Go.Proofs.Ytijgiingfgaakaa
open Go.RowKit

/-- What is asked of the arguments. -/
def okR (n : Nat) (D : Nat → SD) (wk : Int) : Bool := vt n D && decide (0 ≤ wk ∧ wk < 16)

theorem kt_lt {n j : Nat} {D : Nat → SD} {wk : Int} (h : j < kc D wk n) : kt n D wk j < n := by
  have h' : j < (ks n D wk).length := h
  have hm : kt n D wk j ∈ ks n D wk := by
    unfold kt
    rw [List.getD_eq_getElem?_getD, List.getElem?_eq_getElem h']
    exact List.getElem_mem h'
  unfold ks at hm
  rw [List.mem_filter, List.mem_range] at hm
  exact hm.1

theorem good_rel {w : World} {p : SP} {d : SD} (h : Good w p d) (wk : Int) : Good w p (rel wk d) := by
  unfold rel
  by_cases e : d.own = wk + 1
  · rw [if_pos e]
    exact ⟨⟨h.at_.keys, h.at_.sm, h.at_.sv, by show (-9223372036854775808 : Int) ≤ 0; omega, by show (0 : Int) ≤ 9223372036854775807; omega⟩, h.sm⟩
  · rw [if_neg e]; exact h

set_option maxRecDepth 100000 in
set_option maxHeartbeats 8000000 in
theorem t_Release (ao : Option Addr) (b o n c : Nat) (p : Nat → SP) (D : Nat → SD) (wk : Int) (w : World) (h1 : SlotsAt w ao b o n p D) (hs : ∀ i, i < n → small (D i)) :
    Calls Try.prog 11 #[.agg #[.slice ao n c], .int .i64 wk] w fun e w' =>
      TabPost w (if okR n D wk then kc D wk n else 0) (relD n D wk) e w' := by
  have HB : Hid (∀ w', Below w.heap.size w w' → SlotsAt w' ao b o n p D) := fun w' hb => h1.below hb
  have HS : Hid (∀ i, i < n → small (D i)) := hs
  clear h1 hs
  obtain ⟨n', hn'⟩ : ∃ n', n' = if okR n D wk then kc D wk n else 0 := ⟨_, rfl⟩
  rw [← hn']
  have HN : Hid (n' = if okR n D wk then kc D wk n else 0) := hn'
  clear hn'
  have rR := row1 (w.alloc (.cells #[.slice ao n c] 28)) (.slice none 0 0) 28
  simp only [World.size_alloc] at rR
  have HR : Hid (World.rowIs _ _ _ _ _) := rR
  clear rR
  go_enter Try.func11, Try.ntmps11
  go_wp2_with fail
  refine (c28 ao b o n c p D _ (by exact HB.out _ (bel2 _ _ _))).mono ?_
  rintro e w1 ⟨ptr, rfl, hb1, hO⟩
  have B1 : Hid (Below w.heap.size w w1) := (bel2 w _ _).trans (hb1.mono (by simp; omega))
  have R1 : Hid (w1.rowIs (w.heap.size + 1) 28 1 (fun _ => .slice none 0 0)) := HR.out.of_block (hb1.block _ (by simp))
  have HO : Hid (vt n D = true → ∃ sb, ptr = some ⟨sb, 0, none⟩ ∧ ∃ base lb g cap, OS w1 base lb (.slice (some ⟨g, 0, none⟩) n cap) n p D ∧ w1.cell? ⟨sb, 0, none⟩ = some (.pointer (some ⟨lb, 0, none⟩)) ∧ w.heap.size + 1 < base ∧ base ≤ sb ∧ sb ≠ lb ∧ sb ≠ g) := fun hv => by
    obtain ⟨sb, e1, hop⟩ := hO hv
    obtain ⟨base, lb, sv, k1, k2, k3, k4, k5, k6⟩ := hop.st
    obtain ⟨g, cap, rfl⟩ := k1.form
    simp only [World.size_alloc] at k3
    exact ⟨sb, e1, base, lb, g, cap, k1, k2, by omega, k4, k5, fun e => k6 (by rw [e]; rfl)⟩
  clear hb1 hO HR
  have r0 := R1.out.cell (i := 0) (by omega)
  have rf := R1.out.frozen 0
  obtain ⟨v, hv⟩ : ∃ v, vt n D = v := ⟨_, rfl⟩
  rw [hv]
  have HV : Hid (vt n D = v) := hv
  clear hv
  cases v
  · have HN0 : Hid (n' = 0) := by show n' = 0; rw [HN.out]; exact if_neg (by unfold okR; rw [HV.out]; simp)
    go_wp2_with fail
    refine bodyPost_ret (v := .agg #[.slice none 0 0]) (by simp [results, Try.results11, go_sem, r0]) rfl ?_
    rw [HN0.out]
    exact ⟨none, 0, 0, p, rfl, tab_none _ _ _ _ _ _ _, B1.out.setCell (by show w.heap.size ≤ w.heap.size + 1; omega) _⟩
  obtain ⟨q, hq⟩ : ∃ q : Bool, q = decide (0 ≤ wk ∧ wk < 16) := ⟨_, rfl⟩
  have HQ : Hid (q = decide (0 ≤ wk ∧ wk < 16)) := hq
  have C56 : Hid (∀ W, Calls Try.prog 38 #[.int .i64 wk] W fun e w' => e = .returned (.bool q) ∧ w' = W) := fun W => by rw [hq]; exact c56 wk W
  clear hq
  cases q
  · have HN0 : Hid (n' = 0) := by show n' = 0; rw [HN.out]; exact if_neg (by unfold okR; rw [HV.out, ← HQ.out]; simp)
    go_wp2_with (go_at_call 38; refine (C56.out _).mono ?_; rintro e w3 ⟨rfl, hw3⟩; subst hw3)
    refine bodyPost_ret (v := .agg #[.slice none 0 0]) (by simp [results, Try.results11, go_sem, r0]) rfl ?_
    rw [HN0.out]
    exact ⟨none, 0, 0, p, rfl, tab_none _ _ _ _ _ _ _, B1.out.setCell (by show w.heap.size ≤ w.heap.size + 1; omega) _⟩
  · have p1 : vt n D = true := HV.out
    have p3 : 0 ≤ wk ∧ wk < 16 := of_decide_eq_true HQ.out.symm
    obtain ⟨sb, rfl, base, lb, g, cap, k1, k2, k3, k4, k5, k6⟩ := HO.out p1
    have hn := vt_len p1
    have HK : Hid (OS w1 base lb (.slice (some ⟨g, 0, none⟩) n cap) n p D ∧ w1.cell? ⟨sb, 0, none⟩ = some (.pointer (some ⟨lb, 0, none⟩))) := ⟨k1, k2⟩
    have HN1 : Hid (n' = kc D wk n) := by show n' = kc D wk n; rw [HN.out]; exact if_pos (by unfold okR; rw [HV.out, ← HQ.out]; rfl)
    obtain ⟨c1, hc1⟩ : ∃ c1, c1 = kc D wk n := ⟨_, rfl⟩
    have HC1 : Hid (c1 = kc D wk n) := hc1
    have hcn : c1 ≤ n := by rw [hc1]; exact kc_le D wk n
    have CR : Hid (Calls Try.prog 39 #[.pointer (some ⟨sb, 0, none⟩), .int .i64 wk] w1 fun e w' => e = .returned (.tuple #[]) ∧ OS w' base lb (.slice (some ⟨g, 0, none⟩) c1 cap) c1 (relP n D wk p) (relD n D wk) ∧ w'.cell? ⟨sb, 0, none⟩ = some (.pointer (some ⟨lb, 0, none⟩)) ∧ Below base w1 w') := by
      rw [hc1]; exact t_release base lb g n cap sb p D wk w1 HK.out.1 HK.out.2 k6 k5 (by omega) p3
    clear k1 k2 p1 r0 rf hc1
    go_wp2_with (first | (go_at_call 38; refine (C56.out _).mono ?_; rintro e w3 ⟨rfl, hw3⟩; subst hw3))
    refine CR.out.mono ?_
    rintro e w2 ⟨rfl, L2, LS, LB⟩
    have hbw : w.heap.size + 1 < base := k3
    have B2 : Hid (Below w.heap.size w w2) := B1.out.trans (LB.mono (by omega))
    have R2 : Hid (w2.rowIs (w.heap.size + 1) 28 1 (fun _ => .slice none 0 0)) := R1.out.of_block (LB.block _ (by omega))
    have O2 : Hid (Opened w w2 sb c1 (relP n D wk p) (relD n D wk)) := ⟨base, lb, _, L2, LS, by omega, k4, k5, fun e => k6 (by simpa [Value.ownBlock] using e)⟩
    have G2 : Hid (∀ i, i < c1 → Good w2 (relP n D wk p i) (relD n D wk i)) := fun i hi => by
      have hk := kt_lt (n := n) (D := D) (wk := wk) (j := i) (by rw [← HC1.out]; exact hi)
      exact good_rel ⟨(HB.out w2 B2.out).slot _ hk, HS.out _ hk⟩ wk
    clear L2 LS LB CR
    go_wp2_with fail
    refine (t_table w sb c1 _ _ w2 O2.out (fun i hi => (G2.out i hi).at_) (fun i hi => (G2.out i hi).sm) (by omega)).mono ?_
    rintro e w3 ⟨ta, tb, tc, tq, rfl, T3, hb3⟩
    have R3 := R2.out.of_block (hb3.block _ R2.out.lt)
    have r0 := R3.cell (i := 0) (by omega)
    have rf := R3.frozen 0
    have HF : Hid (TabNew w3 w2.heap.size w3.heap.size ta tb c1 tq (relD n D wk) ∧ Below w.heap.size w w3 ∧ w.heap.size + 1 < w2.heap.size) := ⟨T3, B2.out.trans (hb3.mono B2.out.size), R2.out.lt⟩
    clear T3 hb3 R3
    go_wp2
    refine bodyPost_ret (v := .agg #[.slice ta c1 tc]) (by simp [results, Try.results11, go_sem, r0]) rfl ?_
    rw [HN1.out, ← HC1.out]
    exact ⟨ta, tb, tc, tq, rfl, (HF.out.1.set (a := ⟨w.heap.size + 1, 0, none⟩) HF.out.2.2 _).wide (by have := HF.out.2.2; omega) (by simp), HF.out.2.1.setCell (by show w.heap.size ≤ w.heap.size + 1; omega) _⟩

end Go.Proofs.Ytijgiingfgaakaa
