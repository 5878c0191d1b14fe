/-
  Tables: Finish, the program's and the model's.
-/
import Derived.Test.YtpbebpcoeeednaaTabZ
namespace Go.Proofs.Ytpbebpcoeeednaa
open Go.RowKit

theorem ba_ext {a b : ByteArray} (h : a.toList = b.toList) : a = b := by
  rw [ByteArray.toList_eq, ByteArray.toList_eq] at h
  exact ByteArray.ext (Array.toList_inj.1 h)

theorem good_fin {w : World} {n : Nat} {p : Nat → SP} {D : Nat → SD} {k : Int} {m : ByteArray} {wk rev : Int} {v : ByteArray} {q : SP} {dn : Nat} {dK : Nat → Int} {dM : Nat → ByteArray} (h : ∀ i, i < n → Good w (p i) (D i)) (hd : KeysAt w q.a q.b q.o dn dK dM) (hv : v.size ≤ 1048576 ∧ dn ≤ 1048576 ∧ ∀ j, j < dn → (dM j).size ≤ 1048576) : ∀ i, i < n → Good w (finP n D k m wk rev p q i) (finD n D k m wk rev v dn dK dM i) := by
  intro i hi
  cases hm : mine n D k m wk rev with
  | none => rw [(fin_none (v := v) (dn := dn) (dK := dK) (dM := dM) (p := p) (q := q) hm).2.1, (fin_none (v := v) (dn := dn) (dK := dK) (dM := dM) (p := p) (q := q) hm).2.2]; exact h i hi
  | some j =>
    rw [(fin_yes (v := v) (dn := dn) (dK := dK) (dM := dM) (p := p) (q := q) hm).2.1, (fin_yes (v := v) (dn := dn) (dK := dK) (dM := dM) (p := p) (q := q) hm).2.2]
    by_cases e : i = j
    · subst e
      rw [updF_at, updF_at]
      have g := h i hi
      exact ⟨⟨hd, g.at_.sm, by show v.size ≤ _; have := hv.1; omega, by show (-9223372036854775808 : Int) ≤ 0; omega, by show (0 : Int) ≤ 9223372036854775807; omega⟩, g.sm.1, hv.1, hv.2.1, hv.2.2⟩
    · rw [updF_ne e, updF_ne e]; exact h i hi

set_option maxRecDepth 100000 in
set_option maxHeartbeats 8000000 in
theorem t_Finish (ao : Option Addr) (b o n c : Nat) (p : Nat → SP) (D : Nat → SD) (k : Int) (m : ByteArray) (wk rev : Int) (v : ByteArray) (q : SP) (dn : Nat) (dK : Nat → Int) (dM : Nat → ByteArray) (w : World) (h1 : SlotsAt w ao b o n p D) (hm : m.size ≤ 9223372036854775807) (hs : ∀ i, i < n → small (D i)) (hd : KeysAt w q.a q.b q.o dn dK dM) (hvs : v.size ≤ 1048576) (hds : dn ≤ 1048576 ∧ ∀ j, j < dn → (dM j).size ≤ 1048576) :
    Calls Try.prog 28 #[.agg #[.slice ao n c], .agg #[.int .i64 k, .string m], .int .i64 wk, .int .i64 rev, .string v, .slice q.a dn q.c] w fun e w' =>
      TabPost2 w (if (okA n D k m wk rev && dv dn dK dM) then n else 0) (finD n D k m wk rev v dn dK dM) (if (okA n D k m wk rev && dv dn dK dM) then finC n D k m wk rev else 9) e w' := by
  have HB : Hid (∀ w', Below w.heap.size w w' → SlotsAt w' ao b o n p D) := fun w' hb => h1.below hb
  have HS : Hid (∀ i, i < n → small (D i)) := hs
  have HDK : Hid (∀ w', Below w.heap.size w w' → KeysAt w' q.a q.b q.o dn dK dM) := fun w' hb => hd.below hb
  have HVS : Hid (v.size ≤ 1048576 ∧ dn ≤ 1048576 ∧ ∀ j, j < dn → (dM j).size ≤ 1048576) := ⟨hvs, hds⟩
  clear h1 hs hd hds
  obtain ⟨n', hn'⟩ : ∃ n', n' = if (okA n D k m wk rev && dv dn dK dM) then n else 0 := ⟨_, rfl⟩
  obtain ⟨cd, hcd⟩ : ∃ cd, cd = if (okA n D k m wk rev && dv dn dK dM) then finC n D k m wk rev else 9 := ⟨_, rfl⟩
  rw [← hn', ← hcd]
  have HN : Hid (n' = if (okA n D k m wk rev && dv dn dK dM) then n else 0) := hn'
  have HC : Hid (cd = if (okA n D k m wk rev && dv dn dK dM) then finC n D k m wk rev else 9) := hcd
  clear hn' hcd
  have rT := ((row1 w (.slice ao n c) 28).alloc (.cells #[.int .i64 k, .string m] 37)).alloc (.cells #[.slice none 0 0] 28)
  have rK := (row2 (w.alloc (.cells #[.slice ao n c] 28)) (.int .i64 k) (.string m) 37).alloc (.cells #[.slice none 0 0] 28)
  have rR := row1 ((w.alloc (.cells #[.slice ao n c] 28)).alloc (.cells #[.int .i64 k, .string m] 37)) (.slice none 0 0) 28
  simp only [World.size_alloc] at rK rR
  have HR : Hid (_ ∧ _) := And.intro rK rR
  clear rT rK rR
  go_enter Try.func28, Try.ntmps28
  go_wp2_with fail
  refine (c35 ao b o n c p D k m wk rev _ (by exact HB.out _ (bel3 _ _ _ _)) hm).mono ?_
  rintro e w1 ⟨ptr, rfl, hb1, hO⟩
  have B1 : Hid (Below w.heap.size w w1) := (bel3 w _ _ _).trans (hb1.mono (by simp; omega))
  have R1 : Hid (w1.rowIs (w.heap.size + 1) 37 2 _ ∧ w1.rowIs (w.heap.size + 1 + 1) 28 1 _) := ⟨HR.out.1.of_block (hb1.block _ (by simp)), HR.out.2.of_block (hb1.block _ (by simp))⟩
  have HO : Hid (vt n D = true → ∃ sb, ptr = some ⟨sb, 0, none⟩ ∧ ∃ base lb g cap, OS w1 base lb (.slice (some ⟨g, 0, none⟩) n cap) n p D ∧ w1.cell? ⟨sb, 0, none⟩ = some (.pointer (some ⟨lb, 0, none⟩)) ∧ w.heap.size + 1 + 1 < base ∧ base ≤ sb ∧ sb ≠ lb ∧ sb ≠ g) := fun hv => by
    obtain ⟨sb, e1, hop⟩ := hO hv
    obtain ⟨base, lb, sv, k1, k2, k3, k4, k5, k6⟩ := hop.st
    obtain ⟨g, cap, rfl⟩ := k1.form
    simp only [World.size_alloc] at k3
    exact ⟨sb, e1, base, lb, g, cap, k1, k2, by omega, k4, k5, fun e => k6 (by rw [e]; rfl)⟩
  clear hb1 hO HR
  obtain ⟨ok, hok⟩ : ∃ ok, ok = okA n D k m wk rev := ⟨_, rfl⟩
  have HOK : Hid (ok = okA n D k m wk rev) := hok
  have e0 : (vt n D && (kv k m && (decide (0 ≤ wk ∧ wk < 16) && decide (1 ≤ rev)))) = ok := hok.symm
  rw [e0]
  clear hok e0
  have r0 := R1.out.2.cell (i := 0) (by omega)
  have rf := R1.out.2.frozen 0
  cases ok
  · have HN0 : Hid (n' = 0 ∧ cd = 9) := by rw [HN.out, HC.out, ← HOK.out]; exact ⟨rfl, rfl⟩
    go_wp2
    refine bodyPost_ret (v := .tuple #[.agg #[.slice none 0 0], .int .i64 9]) (by simp [results, Try.results28, go_sem, r0]) rfl ?_
    unfold TabPost2
    rw [HN0.out.1, HN0.out.2]
    exact ⟨none, 0, 0, p, rfl, tab_none _ _ _ _ _ _ _, B1.out.setCell (by show w.heap.size ≤ w.heap.size + 1 + 1; omega) _⟩
  go_wp2_with fail
  refine (c72 q.a q.b q.o dn q.c dK dM _ (HDK.out _ B1.out)).mono ?_
  rintro e wV ⟨rfl, hbV⟩
  have RV : Hid (wV.rowIs (w.heap.size + 1) 37 2 _ ∧ wV.rowIs (w.heap.size + 1 + 1) 28 1 _) := ⟨R1.out.1.of_block (hbV.block _ R1.out.1.lt), R1.out.2.of_block (hbV.block _ R1.out.2.lt)⟩
  have BV : Hid (Below w.heap.size w wV) := B1.out.trans (hbV.mono B1.out.size)
  have HOV : Hid (vt n D = true → ∃ sb, ptr = some ⟨sb, 0, none⟩ ∧ ∃ base lb g cap, OS wV base lb (.slice (some ⟨g, 0, none⟩) n cap) n p D ∧ wV.cell? ⟨sb, 0, none⟩ = some (.pointer (some ⟨lb, 0, none⟩)) ∧ w.heap.size + 1 + 1 < base ∧ base ≤ sb ∧ sb ≠ lb ∧ sb ≠ g) := fun hv => by
    obtain ⟨sb, e1, base, lb, g, cap, k1, k2, k3⟩ := HO.out hv
    exact ⟨sb, e1, base, lb, g, cap, k1.below hbV, by rw [hbV.cell (p := ⟨sb, 0, none⟩) (World.block_lt_of_cell? _ _ k2)]; exact k2, k3⟩
  clear hbV r0 rf R1 B1 HO
  have r0 := RV.out.2.cell (i := 0) (by omega)
  have rf := RV.out.2.frozen 0
  obtain ⟨dd, hdd⟩ : ∃ dd, dv dn dK dM = dd := ⟨_, rfl⟩
  have HDD : Hid (dv dn dK dM = dd) := hdd
  rw [hdd]
  clear hdd
  cases dd
  · have HN0 : Hid (n' = 0 ∧ cd = 9) := by rw [HN.out, HC.out, ← HOK.out, HDD.out]; exact ⟨rfl, rfl⟩
    go_wp2
    refine bodyPost_ret (v := .tuple #[.agg #[.slice none 0 0], .int .i64 9]) (by simp [results, Try.results28, go_sem, r0]) rfl ?_
    unfold TabPost2
    rw [HN0.out.1, HN0.out.2]
    exact ⟨none, 0, 0, p, rfl, tab_none _ _ _ _ _ _ _, BV.out.setCell (by show w.heap.size ≤ w.heap.size + 1 + 1; omega) _⟩
  · obtain ⟨p1, p2, p3, p4⟩ := okA_parts HOK.out.symm
    obtain ⟨sb, rfl, base, lb, g, cap, k1, k2, k3, k4, k5, k6⟩ := HOV.out p1
    have hn := vt_len p1
    have hgb : base ≤ g := (os_row k1).choose_spec.2.2.2.1
    have HUP : Hid (Up n D) := up_of p1
    have HK : Hid (OS wV base lb (.slice (some ⟨g, 0, none⟩) n cap) n p D ∧ wV.cell? ⟨sb, 0, none⟩ = some (.pointer (some ⟨lb, 0, none⟩))) := ⟨k1, k2⟩
    have HN1 : Hid (n' = n ∧ cd = finC n D k m wk rev) := by rw [HN.out, HC.out, ← HOK.out, HDD.out]; exact ⟨rfl, rfl⟩
    have y0 : wV.cell? ⟨w.heap.size + 1, 0, none⟩ = some (.int .i64 k) := RV.out.1.cell (i := 0) (by omega)
    have y1 : wV.cell? ⟨w.heap.size + 1, 1, none⟩ = some (.string m) := RV.out.1.cell (i := 1) (by omega)
    clear k1 k2 p1 p2 p4 r0 rf
    go_wp2_with fail
    refine (t_finish base lb g n cap sb p D k m wk rev v q dn dK dM _ HK.out.1 HK.out.2 k6 HUP.out (by omega) p3).mono ?_
    rintro e w2 ⟨rfl, L2⟩
    have B2 : Hid (Below w.heap.size w w2) := L2.span.toBelow BV.out (by omega) BV.out.size
    have R2 : Hid (w2.rowIs (w.heap.size + 1 + 1) 28 1 (fun _ => .slice none 0 0)) := RV.out.2.of_block (L2.span.block _ RV.out.2.lt (by omega))
    have O2 : Hid (Opened w w2 sb n (finP n D k m wk rev p q) (finD n D k m wk rev v dn dK dM)) := ⟨base, lb, _, L2.os, L2.sb, by omega, k4, k5, fun e => k6 (by simpa [Value.ownBlock] using e)⟩
    have G2 : Hid (∀ i, i < n → Good w2 (finP n D k m wk rev p q i) (finD n D k m wk rev v dn dK dM i)) := good_fin (fun i hi => ⟨(HB.out w2 B2.out).slot i hi, HS.out i hi⟩) (HDK.out w2 B2.out) HVS.out
    clear L2 y0 y1
    go_wp2_with fail
    refine (t_table w sb n _ _ w2 O2.out (fun i hi => (G2.out i hi).at_) (fun i hi => (G2.out i hi).sm) (by omega)).mono ?_
    rintro e w3 ⟨ta, tb, tc, tq, rfl, T3, hb3⟩
    have R3 := R2.out.of_block (hb3.block _ R2.out.lt)
    have r0 := R3.cell (i := 0) (by omega)
    have rf := R3.frozen 0
    have HF : Hid (TabNew w3 w2.heap.size w3.heap.size ta tb n tq (finD n D k m wk rev v dn dK dM) ∧ Below w.heap.size w w3 ∧ w.heap.size + 1 + 1 < w2.heap.size) := ⟨T3, B2.out.trans (hb3.mono B2.out.size), R2.out.lt⟩
    clear T3 hb3 R3
    go_wp2
    refine bodyPost_ret (v := .tuple #[.agg #[.slice ta n tc], .int .i64 (finC n D k m wk rev)]) (by simp [results, Try.results28, go_sem, r0]) rfl ?_
    unfold TabPost2
    rw [HN1.out.1, HN1.out.2]
    exact ⟨ta, tb, tc, tq, rfl, (HF.out.1.set (a := ⟨w.heap.size + 1 + 1, 0, none⟩) HF.out.2.2 _).wide (by have := HF.out.2.2; omega) (by simp), HF.out.2.1.setCell (by show w.heap.size ≤ w.heap.size + 1 + 1; omega) _⟩

set_option maxRecDepth 100000 in
set_option maxHeartbeats 8000000 in
theorem s_Finish (ao : Option Addr) (b o n c : Nat) (p : Nat → SP) (D : Nat → SD) (k : Int) (m : ByteArray) (wk rev : Int) (v : ByteArray) (q : SP) (dn : Nat) (dK : Nat → Int) (dM : Nat → ByteArray) (w : World) (h1 : SlotsAt w ao b o n p D) (hm : m.size ≤ 9223372036854775807) (hn : n ≤ 1048576) (hs : ∀ i, i < n → small (D i)) (hd : KeysAt w q.a q.b q.o dn dK dM) (hvs : v.size ≤ 1048576) (hds : dn ≤ 1048576 ∧ ∀ j, j < dn → (dM j).size ≤ 1048576) :
    Calls Try.prog 26 #[.agg #[.slice ao n c], .agg #[.int .i64 k, .string m], .int .i64 wk, .int .i64 rev, .string v, .slice q.a dn q.c] w fun e w' =>
      TabPost2 w (if (okA n D k m wk rev && dv dn dK dM) then n else 0) (finD n D k m wk rev v dn dK dM) (if (okA n D k m wk rev && dv dn dK dM) then finC n D k m wk rev else 9) e w' := by
  have HB : Hid (∀ w', Below w.heap.size w w' → SlotsAt w' ao b o n p D) := fun w' hb => h1.below hb
  have HS : Hid (∀ i, i < n → small (D i)) := hs
  have HG : Hid (∀ i, i < n → (D i).n ≤ 1048576) := fun i hi => (hs i hi).2.2.1
  have HDK : Hid (∀ w', Below w.heap.size w w' → KeysAt w' q.a q.b q.o dn dK dM) := fun w' hb => hd.below hb
  have HVS : Hid (v.size ≤ 1048576 ∧ dn ≤ 1048576 ∧ ∀ j, j < dn → (dM j).size ≤ 1048576) := ⟨hvs, hds⟩
  clear h1 hs hd hds
  obtain ⟨n', hn'⟩ : ∃ n', n' = if (okA n D k m wk rev && dv dn dK dM) then n else 0 := ⟨_, rfl⟩
  obtain ⟨cd, hcd⟩ : ∃ cd, cd = if (okA n D k m wk rev && dv dn dK dM) then finC n D k m wk rev else 9 := ⟨_, rfl⟩
  rw [← hn', ← hcd]
  have HN : Hid (n' = if (okA n D k m wk rev && dv dn dK dM) then n else 0) := hn'
  have HC : Hid (cd = if (okA n D k m wk rev && dv dn dK dM) then finC n D k m wk rev else 9) := hcd
  clear hn' hcd
  have rT := ((row1 w (.slice ao n c) 28).alloc (.cells #[.int .i64 k, .string m] 37)).alloc (.cells #[.slice none 0 0] 28)
  have rK := (row2 (w.alloc (.cells #[.slice ao n c] 28)) (.int .i64 k) (.string m) 37).alloc (.cells #[.slice none 0 0] 28)
  have rR := row1 ((w.alloc (.cells #[.slice ao n c] 28)).alloc (.cells #[.int .i64 k, .string m] 37)) (.slice none 0 0) 28
  simp only [World.size_alloc] at rK rR
  have HX : Hid (Bx w _ ao n c k m) := ⟨rT, rK, rR, bel3 w _ _ _⟩
  clear rT rK rR
  go_enter Try.func26, Try.ntmps26
  go_wp2_with fail
  refine (c7 ao b o n c p D _ (HB.out _ (bel3 _ _ _ _))).mono ?_
  rintro e w1 ⟨rfl, hb1⟩
  have X1 : Hid (Bx w w1 ao n c k m) := HX.out.below hb1
  have cT := X1.out.t.cell (i := 0) (by omega)
  have k0 : w1.cell? ⟨w.heap.size + 1, 0, none⟩ = some (.int .i64 k) := X1.out.k.cell (i := 0) (by omega)
  have k1 : w1.cell? ⟨w.heap.size + 1, 1, none⟩ = some (.string m) := X1.out.k.cell (i := 1) (by omega)
  have r0 := X1.out.r.cell (i := 0) (by omega)
  have rf := X1.out.r.frozen 0
  clear hb1 HX
  cases hv : vt n D
  · have HN0 : Hid (n' = 0 ∧ cd = 9) := (fun (hf : okA n D k m wk rev = false) => (by rw [HN.out, HC.out, hf]; exact ⟨rfl, rfl⟩ : n' = 0 ∧ cd = 9)) (by unfold okA; rw [hv]; rfl)
    clear hv
    go_wp2
    refine bodyPost_ret (v := .tuple #[.agg #[.slice none 0 0], .int .i64 9]) (by simp [results, Try.results26, go_sem, r0]) rfl (nine_post HN0.out X1.out)
  have HV : Hid (vt n D = true) := hv
  clear hv
  go_wp2_with fail
  refine (c31 k m _ hm).mono ?_
  rintro e w2 ⟨rfl, hb2⟩
  have X2 : Hid (Bx w w2 ao n c k m) := X1.out.below hb2
  clear hb2 cT k0 k1 r0 rf X1
  have cT := X2.out.t.cell (i := 0) (by omega)
  have k0 : w2.cell? ⟨w.heap.size + 1, 0, none⟩ = some (.int .i64 k) := X2.out.k.cell (i := 0) (by omega)
  have k1 : w2.cell? ⟨w.heap.size + 1, 1, none⟩ = some (.string m) := X2.out.k.cell (i := 1) (by omega)
  have r0 := X2.out.r.cell (i := 0) (by omega)
  have rf := X2.out.r.frozen 0
  cases hk : kv k m
  · have HN0 : Hid (n' = 0 ∧ cd = 9) := (fun (hf : okA n D k m wk rev = false) => (by rw [HN.out, HC.out, hf]; exact ⟨rfl, rfl⟩ : n' = 0 ∧ cd = 9)) (by unfold okA; rw [hk, Bool.false_and, Bool.and_false])
    clear hk
    go_wp2
    refine bodyPost_ret (v := .tuple #[.agg #[.slice none 0 0], .int .i64 9]) (by simp [results, Try.results26, go_sem, r0]) rfl (nine_post HN0.out X2.out)
  have HK : Hid (kv k m = true) := hk
  clear hk
  by_cases hwk : 0 ≤ wk ∧ wk < 16
  case neg =>
    have HN0 : Hid (n' = 0 ∧ cd = 9) := (fun (hf : okA n D k m wk rev = false) => (by rw [HN.out, HC.out, hf]; exact ⟨rfl, rfl⟩ : n' = 0 ∧ cd = 9)) (by unfold okA; rw [decide_eq_false hwk, Bool.false_and, Bool.and_false, Bool.and_false])
    have C32 : Hid (∀ W, Calls Try.prog 37 #[.int .i64 wk] W fun e w' => e = .returned (.bool false) ∧ w' = W) := fun W => by have := t_workerOk wk W; rw [decide_eq_false hwk] at this; exact this
    clear hwk
    go_wp2_with (go_at_call 37; refine (C32.out _).mono ?_; rintro e w3 ⟨rfl, hw3⟩; subst hw3)
    refine bodyPost_ret (v := .tuple #[.agg #[.slice none 0 0], .int .i64 9]) (by simp [results, Try.results26, go_sem, r0]) rfl (nine_post HN0.out X2.out)
  have C32 : Hid (∀ W, Calls Try.prog 37 #[.int .i64 wk] W fun e w' => e = .returned (.bool true) ∧ w' = W) := fun W => by have := t_workerOk wk W; rw [decide_eq_true hwk] at this; exact this
  by_cases hrev : 1 ≤ rev
  case neg =>
    have HN0 : Hid (n' = 0 ∧ cd = 9) := (fun (hf : okA n D k m wk rev = false) => (by rw [HN.out, HC.out, hf]; exact ⟨rfl, rfl⟩ : n' = 0 ∧ cd = 9)) (by unfold okA; rw [decide_eq_false hrev, Bool.and_false, Bool.and_false, Bool.and_false])
    have hr2 : rev < 1 := by omega
    clear hwk hrev
    go_wp2_with (go_at_call 37; refine (C32.out _).mono ?_; rintro e w3 ⟨rfl, hw3⟩; subst hw3)
    refine bodyPost_ret (v := .tuple #[.agg #[.slice none 0 0], .int .i64 9]) (by simp [results, Try.results26, go_sem, r0]) rfl (nine_post HN0.out X2.out)
  have HOK : Hid (okA n D k m wk rev = true) := by show _ = _; unfold okA; rw [HV.out, HK.out, decide_eq_true hwk, decide_eq_true hrev]; rfl
  have C53 : Hid (∀ W, Below w2.heap.size w2 W → Calls Try.prog 56 #[.slice q.a dn q.c] W fun e w' => e = .returned (.bool (dv dn dK dM)) ∧ Hid (Below W.heap.size W w')) := fun W hW => c47 q.a q.b q.o dn q.c dK dM W (HDK.out W (X2.out.b.trans (hW.mono X2.out.b.size)))
  have hwk0 : 0 ≤ wk := hwk.1
  have HWK : Hid (0 ≤ wk ∧ wk < 16) := hwk
  clear hwk
  go_wp2_with (first | (go_at_call 37; refine (C32.out _).mono ?_; rintro e w3 ⟨rfl, hw3⟩; subst hw3))
  refine (C53.out _ (Below.refl _ _)).mono ?_
  rintro e wV ⟨rfl, hbV⟩
  have XV : Hid (Bx w wV ao n c k m) := X2.out.below hbV.out
  clear hbV cT k0 k1 r0 rf C53
  have cT := XV.out.t.cell (i := 0) (by omega)
  have k0 : wV.cell? ⟨w.heap.size + 1, 0, none⟩ = some (.int .i64 k) := XV.out.k.cell (i := 0) (by omega)
  have k1 : wV.cell? ⟨w.heap.size + 1, 1, none⟩ = some (.string m) := XV.out.k.cell (i := 1) (by omega)
  have r0 := XV.out.r.cell (i := 0) (by omega)
  have rf := XV.out.r.frozen 0
  obtain ⟨dd, hdd⟩ : ∃ dd, dv dn dK dM = dd := ⟨_, rfl⟩
  have HDD : Hid (dv dn dK dM = dd) := hdd
  rw [hdd]
  clear hdd
  cases dd
  · have HN0 : Hid (n' = 0 ∧ cd = 9) := by rw [HN.out, HC.out, HOK.out, HDD.out]; exact ⟨rfl, rfl⟩
    go_wp2
    refine bodyPost_ret (v := .tuple #[.agg #[.slice none 0 0], .int .i64 9]) (by simp [results, Try.results26, go_sem, r0]) rfl (nine_post HN0.out XV.out)
  have HN1 : Hid (n' = n ∧ cd = finC n D k m wk rev) := by rw [HN.out, HC.out, HOK.out, HDD.out]; exact ⟨rfl, rfl⟩
  have HUP : Hid (Up n D) := up_of HV.out
  have CM : Hid (Calls Try.prog 57 #[.agg #[.slice ao n c], .agg #[.int .i64 k, .string m], .int .i64 wk, .int .i64 rev] wV fun e w' => MineS wV n D k m wk rev e w') := t_mine ao b o n c p D k m wk rev wV (HB.out wV XV.out.b) hn HG.out HWK.out
  go_wp2_with fail
  refine CM.out.mono ?_
  rintro e w4 ⟨d, oa, cap, r, rfl, hr, hb4, hO4, hF4⟩
  have X4 : Hid (Bx w w4 ao n c k m) := XV.out.below hb4
  have HMO := mine_of (wk := wk) (rev := rev) hF4 hwk0
  have rX := row_sc w4 ⟨oa, 0, 0, cap⟩ d 40
  have BX := bel1 w4 (.cells #[.int .i64 d.k, .string d.m, .bool d.has, .string d.v, .slice oa d.n cap, .int .i64 d.ver, .int .i64 d.chg, .int .i64 d.own, .int .i64 d.sin] 40)
  have X5 : Hid (Bx w (w4.alloc (.cells #[.int .i64 d.k, .string d.m, .bool d.has, .string d.v, .slice oa d.n cap, .int .i64 d.ver, .int .i64 d.chg, .int .i64 d.own, .int .i64 d.sin] 40)) ao n c k m) := X4.out.below BX
  obtain ⟨y0, y1, y2, y3, y4, y5, y6, y7, y8⟩ := nine_sc rX
  clear hb4 hO4 cT k0 k1 r0 rf rX BX
  have cT := X5.out.t.cell (i := 0) (by omega)
  have k0 : (w4.alloc (.cells #[.int .i64 d.k, .string d.m, .bool d.has, .string d.v, .slice oa d.n cap, .int .i64 d.ver, .int .i64 d.chg, .int .i64 d.own, .int .i64 d.sin] 40)).cell? ⟨w.heap.size + 1, 0, none⟩ = some (.int .i64 k) := X5.out.k.cell (i := 0) (by omega)
  have k1 : (w4.alloc (.cells #[.int .i64 d.k, .string d.m, .bool d.has, .string d.v, .slice oa d.n cap, .int .i64 d.ver, .int .i64 d.chg, .int .i64 d.own, .int .i64 d.sin] 40)).cell? ⟨w.heap.size + 1, 1, none⟩ = some (.string m) := X5.out.k.cell (i := 1) (by omega)
  have CC : Hid (Calls Try.prog 58 #[.agg #[.slice ao n c]] (w4.alloc (.cells #[.int .i64 d.k, .string d.m, .bool d.has, .string d.v, .slice oa d.n cap, .int .i64 d.ver, .int .i64 d.chg, .int .i64 d.own, .int .i64 d.sin] 40)) fun e w' => ∃ (ta : Option Addr) (tc : Nat), e = .returned (.agg #[.slice ta n tc]) ∧ w'.cell? ⟨w.heap.size + 1 + 1, 0, none⟩ = some (.slice none 0 0) ∧ w'.frozen? ⟨w.heap.size + 1 + 1, 0, none⟩ = false ∧ Hid (∀ cd, TabPost2 w n D cd (.returned (.tuple #[.agg #[.slice ta n tc], .int .i64 cd])) (w'.setCell ⟨w.heap.size + 1 + 1, 0, none⟩ (.slice ta n tc)))) :=
    (t_copy ao b o n c p D _ (HB.out _ X5.out.b) hn HG.out).mono fun e w' ⟨ta, tb, tc, tq, he, hT, hb⟩ => ⟨ta, tc, he, ((X5.out.below hb).r).cell (i := 0) (by omega), (X5.out.below hb).r.frozen 0, fun cd => tab_post X5.out hb hT⟩
  unfold sdl
  cases r
  · have HCN : Hid (finC n D k m wk rev = 1 ∧ finD n D k m wk rev v dn dK dM = D ∧ finP n D k m wk rev p q = p) := fin_none (HMO.2 (of_decide_eq_false hr.symm))
    clear HMO hr hF4
    go_wp2_with fail
    refine CC.out.mono ?_
    rintro e w6 ⟨ta, tc, rfl, r0, rf, HP⟩
    go_wp2
    refine bodyPost_ret (v := .tuple #[.agg #[.slice ta n tc], .int .i64 1]) (by simp [results, Try.results26, go_sem, r0]) rfl ?_
    rw [HN1.out.1, HN1.out.2, HCN.out.1, HCN.out.2.1]
    exact HP.out 1
  · have hIM : isMine d k m wk rev := of_decide_eq_true hr.symm
    obtain ⟨i, hi, hmi, hdi⟩ := HMO.1 hIM
    have HMI : Hid (i < n ∧ mine n D k m wk rev = some i ∧ d = D i ∧ k = d.k ∧ m = d.m) := ⟨hi, hmi, hdi, hIM.1.1.symm, ba_ext hIM.1.2.symm⟩
    clear HMO hr hmi hdi hIM hF4 CC
    have HCN : Hid (finC n D k m wk rev = 0 ∧ finD n D k m wk rev v dn dK dM = updF D i (fin (D i) rev v dn dK dM) ∧ finP n D k m wk rev p q = updF p i q) := fin_yes HMI.out.2.1
    have CP : Hid (∀ chg : Int, (fin (D i) rev v dn dK dM).chg = chg → Calls Try.prog 59 #[.agg #[.slice ao n c], .agg #[.int .i64 k, .string m, .bool true, .string v, .slice q.a dn q.c, .int .i64 rev, .int .i64 chg, .int .i64 0, .int .i64 0]] (w4.alloc (.cells #[.int .i64 d.k, .string d.m, .bool d.has, .string d.v, .slice oa d.n cap, .int .i64 d.ver, .int .i64 d.chg, .int .i64 d.own, .int .i64 d.sin] 40)) fun e w' => ∃ (ta : Option Addr) (tc : Nat), e = .returned (.agg #[.slice ta n tc]) ∧ w'.cell? ⟨w.heap.size + 1 + 1, 0, none⟩ = some (.slice none 0 0) ∧ w'.frozen? ⟨w.heap.size + 1 + 1, 0, none⟩ = false ∧ Hid (TabPost2 w n (updF D i (fin (D i) rev v dn dK dM)) 0 (.returned (.tuple #[.agg #[.slice ta n tc], .int .i64 0])) (w'.setCell ⟨w.heap.size + 1 + 1, 0, none⟩ (.slice ta n tc)))) := fun chg hchg => by
      obtain ⟨u1, u2, u3⟩ := up_put HUP.out HMI.out.1
      have hFit : Fit (D i) := ((HB.out w (Below.refl _ _)).slot i HMI.out.1).fit
      have hS : SlotAt (w4.alloc (.cells #[.int .i64 d.k, .string d.m, .bool d.has, .string d.v, .slice oa d.n cap, .int .i64 d.ver, .int .i64 d.chg, .int .i64 d.own, .int .i64 d.sin] 40)) q (fin (D i) rev v dn dK dM) := ⟨HDK.out _ X5.out.b, hFit.sm, by show v.size ≤ _; have := HVS.out.1; omega, by show (-9223372036854775808 : Int) ≤ 0; omega, by show (0 : Int) ≤ 9223372036854775807; omega⟩
      have := t_put ao b o n c p D q (fin (D i) rev v dn dK dM) true i (w4.alloc (.cells #[.int .i64 d.k, .string d.m, .bool d.has, .string d.v, .slice oa d.n cap, .int .i64 d.ver, .int .i64 d.chg, .int .i64 d.own, .int .i64 d.sin] 40)) (HB.out _ X5.out.b) hn HG.out hS HVS.out.2.1 u1 u2 u3 (fun _ => HMI.out.1) (Nat.le_of_lt HMI.out.1)
      rw [putD_upd, if_pos rfl] at this
      have e1 : (sdv q (fin (D i) rev v dn dK dM)) = .agg #[.int .i64 k, .string m, .bool true, .string v, .slice q.a dn q.c, .int .i64 rev, .int .i64 chg, .int .i64 0, .int .i64 0] := by
        unfold sdv
        rw [hchg]
        have ek : (fin (D i) rev v dn dK dM).k = k := by show (D i).k = k; rw [HMI.out.2.2.2.1, HMI.out.2.2.1]
        have em : (fin (D i) rev v dn dK dM).m = m := by show (D i).m = m; rw [HMI.out.2.2.2.2, HMI.out.2.2.1]
        rw [ek, em]; rfl
      rw [e1] at this
      exact this.mono fun e w' ⟨ta, tb, tc, tq, he, hT, hb⟩ => ⟨ta, tc, he, ((X5.out.below hb).r).cell (i := 0) (by omega), (X5.out.below hb).r.frozen 0, tab_post X5.out hb hT⟩
    obtain ⟨hh, hhe⟩ : ∃ hh, d.has = hh := ⟨_, rfl⟩
    have HHE : Hid (d.has = hh) := hhe
    rw [hhe] at X5 CP cT k0 k1 y0 y1 y2 y3 y4 y5 y6 y7 y8
    rw [hhe]
    clear hhe
    cases hh
    · have HCE : Hid ((fin (D i) rev v dn dK dM).chg = rev) := by
        show (if (D i).has && _ then _ else _) = _
        rw [← HMI.out.2.2.1, HHE.out]; rfl
      go_wp2_with fail
      refine (CP.out _ HCE.out).mono ?_
      rintro e w6 ⟨ta, tc, rfl, r0, rf, HP⟩
      go_wp2
      refine bodyPost_ret (v := .tuple #[.agg #[.slice ta n tc], .int .i64 0]) (by simp [results, Try.results26, go_sem, r0]) rfl ?_
      rw [HN1.out.1, HN1.out.2, HCN.out.1, HCN.out.2.1]
      exact HP.out
    · obtain ⟨sv, hsve⟩ : ∃ sv, (d.v.toList == v.toList) = sv := ⟨_, rfl⟩
      have HSE : Hid ((d.v.toList == v.toList) = sv) := hsve
      have HCE0 : Hid ((fin (D i) rev v dn dK dM).chg = if sv then d.chg else rev) := by
        show (if (D i).has && ((D i).v.toList == v.toList) then _ else _) = _
        rw [← HMI.out.2.2.1, HHE.out, HSE.out]; rfl
      cases sv
      · have HCE : Hid ((fin (D i) rev v dn dK dM).chg = rev) := HCE0.out
        go_wp2_with fail
        refine (CP.out _ HCE.out).mono ?_
        rintro e w6 ⟨ta, tc, rfl, r0, rf, HP⟩
        go_wp2
        refine bodyPost_ret (v := .tuple #[.agg #[.slice ta n tc], .int .i64 0]) (by simp [results, Try.results26, go_sem, r0]) rfl ?_
        rw [HN1.out.1, HN1.out.2, HCN.out.1, HCN.out.2.1]
        exact HP.out
      · have HCE : Hid ((fin (D i) rev v dn dK dM).chg = d.chg) := HCE0.out
        go_wp2_with fail
        refine (CP.out _ HCE.out).mono ?_
        rintro e w6 ⟨ta, tc, rfl, r0, rf, HP⟩
        go_wp2
        refine bodyPost_ret (v := .tuple #[.agg #[.slice ta n tc], .int .i64 0]) (by simp [results, Try.results26, go_sem, r0]) rfl ?_
        rw [HN1.out.1, HN1.out.2, HCN.out.1, HCN.out.2.1]
        exact HP.out

end Go.Proofs.Ytpbebpcoeeednaa
