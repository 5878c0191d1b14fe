/-
  Tables: the model's Claim.
-/
import Derived.Test.YtijgiingfgaakaaTabK2
import Derived.Test.YtijgiingfgaakaaTabK8
namespace Go.Proofs.Ytijgiingfgaakaa
open Go.RowKit

set_option maxRecDepth 100000 in
set_option maxHeartbeats 8000000 in
theorem s_Claim (ao : Option Addr) (b o n c : Nat) (p : Nat → SP) (D : Nat → SD) (k : Int) (m : ByteArray) (wk rev cpy : Int) (w : World) (h1 : SlotsAt w ao b o n p D) (hm : m.size ≤ 9223372036854775807) (hn : n ≤ 1048576) (hs : ∀ i, i < n → small (D i)) :
    Calls Try.prog 22 #[.agg #[.slice ao n c], .agg #[.int .i64 k, .string m], .int .i64 wk, .int .i64 rev, .int .i64 cpy] w fun e w' =>
      TabPost2 w (if okB n D k m wk rev cpy then clmN n D k m cpy else 0) (clmD n D k m wk rev cpy) (if okB n D k m wk rev cpy then clmC n D k m rev cpy else 9) e w' := by
  have HB : Hid (∀ w', Below w.heap.size w w' → SlotsAt w' ao b o n p D) := fun w' hb => h1.below hb
  have HS : Hid (∀ i, i < n → small (D i)) := hs
  have HG : Hid (∀ i, i < n → (D i).n ≤ 1048576) := fun i hi => (hs i hi).2.2.1
  clear h1 hs
  obtain ⟨n', hn'⟩ : ∃ n', n' = if okB n D k m wk rev cpy then clmN n D k m cpy else 0 := ⟨_, rfl⟩
  obtain ⟨cd, hcd⟩ : ∃ cd, cd = if okB n D k m wk rev cpy then clmC n D k m rev cpy else 9 := ⟨_, rfl⟩
  rw [← hn', ← hcd]
  have HN : Hid (n' = if okB n D k m wk rev cpy then clmN n D k m cpy else 0) := hn'
  have HC : Hid (cd = if okB n D k m wk rev cpy then clmC n D k m rev cpy else 9) := hcd
  clear hn' hcd
  have rT := ((row1 w (.slice ao n c) 28).alloc (.cells #[.int .i64 k, .string m] 37)).alloc (.cells #[.slice none 0 0] 28)
  have rK := (row2 (w.alloc (.cells #[.slice ao n c] 28)) (.int .i64 k) (.string m) 37).alloc (.cells #[.slice none 0 0] 28)
  have rR := row1 ((w.alloc (.cells #[.slice ao n c] 28)).alloc (.cells #[.int .i64 k, .string m] 37)) (.slice none 0 0) 28
  simp only [World.size_alloc] at rK rR
  have HX : Hid (Bx w _ ao n c k m) := ⟨rT, rK, rR, bel3 w _ _ _⟩
  clear rT rK rR
  go_enter Try.func22, Try.ntmps22
  go_wp2_with fail
  refine (c7 ao b o n c p D _ (HB.out _ (bel3 _ _ _ _))).mono ?_
  rintro e w1 ⟨rfl, hb1⟩
  have X1 : Hid (Bx w w1 ao n c k m) := HX.out.below hb1
  have cT := X1.out.t.cell (i := 0) (by omega)
  have k0 : w1.cell? ⟨w.heap.size + 1, 0, none⟩ = some (.int .i64 k) := X1.out.k.cell (i := 0) (by omega)
  have k1 : w1.cell? ⟨w.heap.size + 1, 1, none⟩ = some (.string m) := X1.out.k.cell (i := 1) (by omega)
  have r0 := X1.out.r.cell (i := 0) (by omega)
  have rf := X1.out.r.frozen 0
  clear hb1 HX
  cases hv : vt n D
  · have HN0 : Hid (n' = 0 ∧ cd = 9) := (fun (hf : okA n D k m wk rev = false) => (by have hf2 : okB n D k m wk rev cpy = false := (by unfold okB; rw [hf]; rfl); rw [HN.out, HC.out, hf2]; exact ⟨rfl, rfl⟩ : n' = 0 ∧ cd = 9)) (by unfold okA; rw [hv]; rfl)
    clear hv
    go_wp2
    refine bodyPost_ret (v := .tuple #[.agg #[.slice none 0 0], .int .i64 9]) (by simp [results, Try.results22, go_sem, r0]) rfl (nine_post HN0.out X1.out)
  have HV : Hid (vt n D = true) := hv
  clear hv
  go_wp2_with fail
  refine (c31 k m _ hm).mono ?_
  rintro e w2 ⟨rfl, hb2⟩
  have X2 : Hid (Bx w w2 ao n c k m) := X1.out.below hb2
  clear hb2 cT k0 k1 r0 rf X1
  have cT := X2.out.t.cell (i := 0) (by omega)
  have k0 : w2.cell? ⟨w.heap.size + 1, 0, none⟩ = some (.int .i64 k) := X2.out.k.cell (i := 0) (by omega)
  have k1 : w2.cell? ⟨w.heap.size + 1, 1, none⟩ = some (.string m) := X2.out.k.cell (i := 1) (by omega)
  have r0 := X2.out.r.cell (i := 0) (by omega)
  have rf := X2.out.r.frozen 0
  cases hk : kv k m
  · have HN0 : Hid (n' = 0 ∧ cd = 9) := (fun (hf : okA n D k m wk rev = false) => (by have hf2 : okB n D k m wk rev cpy = false := (by unfold okB; rw [hf]; rfl); rw [HN.out, HC.out, hf2]; exact ⟨rfl, rfl⟩ : n' = 0 ∧ cd = 9)) (by unfold okA; rw [hk, Bool.false_and, Bool.and_false])
    clear hk
    go_wp2
    refine bodyPost_ret (v := .tuple #[.agg #[.slice none 0 0], .int .i64 9]) (by simp [results, Try.results22, go_sem, r0]) rfl (nine_post HN0.out X2.out)
  have HK : Hid (kv k m = true) := hk
  clear hk
  by_cases hwk : 0 ≤ wk ∧ wk < 16
  case neg =>
    have HN0 : Hid (n' = 0 ∧ cd = 9) := (fun (hf : okA n D k m wk rev = false) => (by have hf2 : okB n D k m wk rev cpy = false := (by unfold okB; rw [hf]; rfl); rw [HN.out, HC.out, hf2]; exact ⟨rfl, rfl⟩ : n' = 0 ∧ cd = 9)) (by unfold okA; rw [decide_eq_false hwk, Bool.false_and, Bool.and_false, Bool.and_false])
    have C32 : Hid (∀ W, Calls Try.prog 34 #[.int .i64 wk] W fun e w' => e = .returned (.bool false) ∧ w' = W) := fun W => by have := t_workerOk wk W; rw [decide_eq_false hwk] at this; exact this
    clear hwk
    go_wp2_with (go_at_call 34; refine (C32.out _).mono ?_; rintro e w3 ⟨rfl, hw3⟩; subst hw3)
    refine bodyPost_ret (v := .tuple #[.agg #[.slice none 0 0], .int .i64 9]) (by simp [results, Try.results22, go_sem, r0]) rfl (nine_post HN0.out X2.out)
  have C32 : Hid (∀ W, Calls Try.prog 34 #[.int .i64 wk] W fun e w' => e = .returned (.bool true) ∧ w' = W) := fun W => by have := t_workerOk wk W; rw [decide_eq_true hwk] at this; exact this
  by_cases hrev : 1 ≤ rev
  case neg =>
    have HN0 : Hid (n' = 0 ∧ cd = 9) := (fun (hf : okA n D k m wk rev = false) => (by have hf2 : okB n D k m wk rev cpy = false := (by unfold okB; rw [hf]; rfl); rw [HN.out, HC.out, hf2]; exact ⟨rfl, rfl⟩ : n' = 0 ∧ cd = 9)) (by unfold okA; rw [decide_eq_false hrev, Bool.and_false, Bool.and_false, Bool.and_false])
    have hr2 : rev < 1 := by omega
    clear hwk hrev
    go_wp2_with (go_at_call 34; refine (C32.out _).mono ?_; rintro e w3 ⟨rfl, hw3⟩; subst hw3)
    refine bodyPost_ret (v := .tuple #[.agg #[.slice none 0 0], .int .i64 9]) (by simp [results, Try.results22, go_sem, r0]) rfl (nine_post HN0.out X2.out)
  have HOK : Hid (okA n D k m wk rev = true) := by show _ = _; unfold okA; rw [HV.out, HK.out, decide_eq_true hwk, decide_eq_true hrev]; rfl
  have hr3 : ¬ rev < 1 := by omega
  by_cases hcl : 1 ≤ cpy ∧ cpy ≤ 4096
  case neg =>
    have HN0 : Hid (n' = 0 ∧ cd = 9) := by
      have e1 : okB n D k m wk rev cpy = false := by unfold okB; rw [decide_eq_false hcl, Bool.and_false]
      rw [HN.out, HC.out, e1]; exact ⟨rfl, rfl⟩
    by_cases hc1 : cpy < 1
    · clear hwk hrev hcl
      go_wp2_with (go_at_call 34; refine (C32.out _).mono ?_; rintro e w3 ⟨rfl, hw3⟩; subst hw3)
      refine bodyPost_ret (v := .tuple #[.agg #[.slice none 0 0], .int .i64 9]) (by simp [results, Try.results22, go_sem, r0]) rfl (nine_post HN0.out X2.out)
    · have hc2 : 4096 < cpy := by omega
      clear hwk hrev hcl
      go_wp2_with (go_at_call 34; refine (C32.out _).mono ?_; rintro e w3 ⟨rfl, hw3⟩; subst hw3)
      refine bodyPost_ret (v := .tuple #[.agg #[.slice none 0 0], .int .i64 9]) (by simp [results, Try.results22, go_sem, r0]) rfl (nine_post HN0.out X2.out)
  case pos =>
    have HN1 : Hid (n' = clmN n D k m cpy ∧ cd = clmC n D k m rev cpy) := by
      have e1 : okB n D k m wk rev cpy = true := by unfold okB; rw [HOK.out, decide_eq_true hcl]; rfl
      rw [HN.out, HC.out, e1]; exact ⟨rfl, rfl⟩
    have hc1 : ¬ cpy < 1 := by omega
    have hc2 : ¬ 4096 < cpy := by omega
    have CM : Hid (Calls Try.prog 50 #[.agg #[.slice ao n c], .agg #[.int .i64 k, .string m], .int .i64 wk, .int .i64 rev, .int .i64 cpy] w2 fun e w' => ∃ (ta : Option Addr) (tc : Nat), e = .returned (.tuple #[.agg #[.slice ta n' tc], .int .i64 cd]) ∧ w'.cell? ⟨w.heap.size + 1 + 1, 0, none⟩ = some (.slice none 0 0) ∧ w'.frozen? ⟨w.heap.size + 1 + 1, 0, none⟩ = false ∧ Hid (TabPost2 w n' (clmD n D k m wk rev cpy) cd (.returned (.tuple #[.agg #[.slice ta n' tc], .int .i64 cd])) (w'.setCell ⟨w.heap.size + 1 + 1, 0, none⟩ (.slice ta n' tc)))) := by
      rw [HN1.out.1, HN1.out.2]
      exact (s_claim ao b o n c p D k m wk rev cpy w2 (HB.out w2 X2.out.b) hn HS.out HV.out HK.out hm hwk hrev).mono fun e w' ⟨ta, tb, tc, tq, he, hT, hb⟩ => ⟨ta, tc, he, ((X2.out.below hb).r).cell (i := 0) (by omega), (X2.out.below hb).r.frozen 0, tab_post X2.out hb hT⟩
    clear hwk hrev hcl
    go_wp2_with (go_at_call 34; refine (C32.out _).mono ?_; rintro e w3 ⟨rfl, hw3⟩; subst hw3)
    refine CM.out.mono ?_
    rintro e w6 ⟨ta, tc, rfl, r0', rf', HP⟩
    go_wp2
    refine bodyPost_ret (v := .tuple #[.agg #[.slice ta n' tc], .int .i64 cd]) (by simp [results, Try.results22, go_sem, r0']) rfl ?_
    exact HP.out

end Go.Proofs.Ytijgiingfgaakaa
