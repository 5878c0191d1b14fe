/-
  Tables: the law's look at the marks on slots; marks on tables.
-/
import Derived.Test.YtijgiingfgaakaaTabM2
import Derived.Test.YtijgiingfgaakaaTabS
namespace Go.Proofs.Ytijgiingfgaakaa
open Go.RowKit

set_option maxRecDepth 100000 in
set_option maxHeartbeats 4000000 in
theorem t_heldSlotS (lo hi : Nat) (ao : Option Addr) (b n c : Nat) (p : Nat → SP) (D : Nat → SD) (x : Nat) (w : World) (h1 : TabNew w lo hi ao b n p (MD x D)) (hx1 : 1 ≤ x) (hx2 : x ≤ 1048576) (hn : n ≤ 1048576) (hG : ∀ i, i < n → (D i).n ≤ 1048576) :
    Calls Try.prog 43 #[.slice ao n c, .int .i64 (x : Int)] w fun e w' => e = .returned (.int .i64 ((cnt x D n : Nat) : Int)) ∧ Below w.heap.size w w' := by
  have A1 := h1.at_
  have HB : Hid (∀ w', Below w.heap.size w w' → TabNew w' lo hi ao b n p (MD x D)) := fun w' hb => h1.below hb
  have HG : Hid (∀ i, i < n → (D i).n ≤ 1048576) := hG
  have HC : Hid (∀ i, i ≤ n → x ≤ cnt x D i ∧ cnt x D i ≤ x + i * 2097160) := cnt_le x D n hG
  clear h1 hG
  go_enter Try.func43, Try.ntmps43
  go_wp2
  go_loopw [1, 5] (fun y i wr => ∃ k : Nat, k ≤ n ∧ i = .int .i64 k ∧ y = .int .i64 ((cnt x D k : Nat) : Int) ∧ Hid (Below w.heap.size w wr)) (fun _ i _ => n - (intOf i).toNat)
  case atStart => exact ⟨0, Nat.zero_le _, rfl, rfl, Below.refl _ _⟩
  case round =>
    obtain ⟨k, hk, rfl, rfl, hb⟩ := hrel
    by_cases hlt : k < n
    · have e1 := A1 (by omega)
      subst e1
      have hc := HC.out k hk
      have hg := HG.out k hlt
      obtain ⟨y, hy⟩ : ∃ y : Nat, y = cnt x D k := ⟨_, rfl⟩
      obtain ⟨z, hz⟩ : ∃ z : Nat, z = y + 4 + 2 * (D k).n := ⟨_, rfl⟩
      have HX : Hid (y = cnt x D k) := hy
      have HZ : Hid (z = y + 4 + 2 * (D k).n) := hz
      have hy1 : 1 ≤ y := by omega
      have hy2 : y ≤ 2199032235009 := by omega
      have hz1 : z ≤ 2199034332169 := by omega
      have HW : Hid (∀ W, Below w.heap.size w W → (W.cell? ⟨b, k * 9, none⟩ = some (.int .i64 (y : Int)) ∧ W.cell? ⟨b, k * 9 + 1, none⟩ = some (.string (mt (y + 1))) ∧ W.cell? ⟨b, k * 9 + 2, none⟩ = some (.bool (((y : Int) + 1 + 1) % 3 == 0)) ∧ W.cell? ⟨b, k * 9 + 3, none⟩ = some (.string (mt (y + 3))) ∧ W.cell? ⟨b, k * 9 + 4, none⟩ = some (.slice (p k).a (D k).n (p k).c) ∧
          W.cell? ⟨b, k * 9 + 5, none⟩ = some (.int .i64 (z : Int)) ∧ W.cell? ⟨b, k * 9 + 6, none⟩ = some (.int .i64 ((z : Int) + 1)) ∧ W.cell? ⟨b, k * 9 + 7, none⟩ = some (.int .i64 ((z : Int) + 1 + 1)) ∧ W.cell? ⟨b, k * 9 + 8, none⟩ = some (.int .i64 ((z : Int) + 1 + 1 + 1))) ∧ KeysNew W lo hi (p k).a (p k).b (D k).n (mkK (y + 4)) (mkM (y + 4))) := fun W hW => by
        have T := HB.out W hW
        obtain ⟨N, f, hr, hN, hf⟩ := T.row (by omega)
        have key : ∀ j, j < 9 → W.cell? ⟨b, k * 9 + j, none⟩ = some (sc (p k) (MD x D k) j) := fun j hj => by rw [hr.cell (by omega), hf k j hlt hj]
        have e0 : ((z : Int) + 1) = ((y + 5 + 2 * (D k).n : Nat) : Int) := by omega
        have e2 : ((z : Int) + 1 + 1) = ((y + 6 + 2 * (D k).n : Nat) : Int) := by omega
        have e3 : ((z : Int) + 1 + 1 + 1) = ((y + 7 + 2 * (D k).n : Nat) : Int) := by omega
        rw [e3, e2, e0, hz, hy]
        exact ⟨⟨key 0 (by omega), key 1 (by omega), key 2 (by omega), key 3 (by omega), key 4 (by omega), key 5 (by omega), key 6 (by omega), key 7 (by omega), key 8 (by omega)⟩, (T.keys k hlt).1⟩
      obtain ⟨⟨g0, g1, g2, g3, g4, g5, g6, g7, g8⟩, _⟩ := HW.out wr hb.out
      rw [← hy]
      clear hy hz hc g2 g3 g4 g5 g6 g7 g8
      go_wp2_with fail
      have C1 : Hid (∀ W v, v = ((y + 1 : Nat) : Int) → Below wr.heap.size wr W → Calls Try.prog 59 #[.int .i64 v] W fun e w' => e = .returned (.string (mt (y + 1))) ∧ Hid (Below w.heap.size w w')) := fun W v hv hW => (t_markText v (y + 1) W hv (by omega) (by omega)).mono fun e w' ⟨he, h2⟩ => ⟨he, hb.out.trans ((hW.trans (h2.mono hW.size)).mono hb.out.size)⟩
      go_region_held3 (fun w' => w'.cell? ⟨b, k * 9 + 1, none⟩ = some (.string (mt (y + 1)))) (first | go_keep | assumption)
        (first | (go_at_call 59; refine (C1.out _ _ (by omega) (Below.refl _ _).drew).mono ?_; rintro e w2 ⟨rfl, hb2⟩; obtain ⟨⟨-, x1, x2, x3, -, -, -, -, -⟩, -⟩ := HW.out w2 hb2.out))
      all_goals
        clear g0 g1 C1
        go_wp2_with fail
        have C3 : Hid (∀ W v, v = ((y + 3 : Nat) : Int) → Below w2.heap.size w2 W → Calls Try.prog 59 #[.int .i64 v] W fun e w' => e = .returned (.string (mt (y + 3))) ∧ Hid (Below w.heap.size w w')) := fun W v hv hW => (t_markText v (y + 3) W hv (by omega) (by omega)).mono fun e w' ⟨he, h2⟩ => ⟨he, hb2.out.trans ((hW.trans (h2.mono hW.size)).mono hb2.out.size)⟩
        go_region_held3 (fun w' => w'.cell? ⟨b, k * 9 + 3, none⟩ = some (.string (mt (y + 3)))) (first | go_keep | assumption)
          (first | (go_at_call 59; refine (C3.out _ _ (by omega) (Below.refl _ _).drew).mono ?_; rintro e w3 ⟨rfl, hb3⟩; obtain ⟨⟨-, -, -, y3, y4, -, -, -, -⟩, K3⟩ := HW.out w3 hb3.out))
        all_goals
          have HK3 : Hid (KeysNew w3 lo hi (p k).a (p k).b (D k).n (mkK (y + 4)) (mkM (y + 4))) := K3
          clear x1 x2 x3 C3 K3
          go_wp2_with fail
          refine (t_heldKeyS' _ lo hi (p k).a (p k).b (D k).n (p k).c (y + 4) _ (by omega) HK3.out (by omega) (by omega) hg).mono ?_
          rintro e w4 ⟨rfl, hb4⟩
          have H4 : Hid (Below w.heap.size w w4) := hb3.out.trans (hb4.mono hb3.out.size)
          obtain ⟨⟨-, -, -, -, -, z5, z6, z7, z8⟩, -⟩ := HW.out w4 H4.out
          have hzz := HZ.out
          rw [← hzz]
          clear hb4 y3 y4 HK3 hzz
          have hz2 : ¬ (z : Int) < 0 := by omega
          go_wp2
          go_roundw
          case rel => exact ⟨k + 1, by omega, by go_num, by have := HX.out; have := HZ.out; show _ = Value.int .i64 ((cnt x D k + 8 + 2 * (D k).n : Nat) : Int); first | (congr 1; omega) | (simp; omega), H4⟩
          case measure => simp [intOf]; omega
    · have hkn : k = n := by omega
      subst hkn
      go_wp2
      go_ret
      exact ⟨rfl, hb.out⟩

set_option maxHeartbeats 1000000 in
theorem t_markTable (lo hi : Nat) (ao : Option Addr) (b n c : Nat) (p : Nat → SP) (D : Nat → SD) (x : Nat) (w : World) (h1 : TabNew w lo hi ao b n p D) (hx1 : 1 ≤ x) (hx2 : x ≤ 1048576) (hn : n ≤ 1048576) (hG : ∀ i, i < n → (D i).n ≤ 1048576) :
    Calls Try.prog 13 #[.agg #[.slice ao n c], .int .i64 (x : Int)] w fun e w' => e = .returned (.int .i64 ((cnt x D n : Nat) : Int)) ∧ TabNew w' lo hi ao b n p (MD x D) ∧ Span lo hi w w' := by
  have HT : Hid (TabNew (w.alloc (.cells #[.slice ao n c] 28)) lo hi ao b n p D) := h1.below (bel1 _ _)
  have HS : Hid (Span lo hi w (w.alloc (.cells #[.slice ao n c] 28))) := Span.of_below (bel1 _ _)
  have HG : Hid (∀ i, i < n → (D i).n ≤ 1048576) := hG
  clear h1 hG
  go_enter Try.func13, Try.ntmps13
  go_wp2_with fail
  refine (t_markSlotS lo hi ao b n c p D x _ HT.out hx1 hx2 hn HG.out).mono ?_
  rintro e w1 ⟨rfl, T1, S1⟩
  have F : Hid (TabNew w1 lo hi ao b n p (MD x D) ∧ Span lo hi w w1) := ⟨T1, HS.out.trans S1⟩
  clear T1 S1
  go_wp2
  go_ret
  exact ⟨rfl, F.out⟩

set_option maxHeartbeats 1000000 in
theorem t_heldTable (lo hi : Nat) (ao : Option Addr) (b n c : Nat) (p : Nat → SP) (D : Nat → SD) (x : Nat) (w : World) (h1 : TabNew w lo hi ao b n p (MD x D)) (hx1 : 1 ≤ x) (hx2 : x ≤ 1048576) (hn : n ≤ 1048576) (hG : ∀ i, i < n → (D i).n ≤ 1048576) :
    Calls Try.prog 14 #[.agg #[.slice ao n c], .int .i64 (x : Int)] w fun e w' => e = .returned (.int .i64 ((cnt x D n : Nat) : Int)) ∧ Below w.heap.size w w' := by
  have HT : Hid (TabNew (w.alloc (.cells #[.slice ao n c] 28)) lo hi ao b n p (MD x D)) := h1.below (bel1 _ _)
  have HG : Hid (∀ i, i < n → (D i).n ≤ 1048576) := hG
  clear h1 hG
  go_enter Try.func14, Try.ntmps14
  go_wp2_with fail
  refine (t_heldSlotS lo hi ao b n c p D x _ HT.out hx1 hx2 hn HG.out).mono ?_
  rintro e w1 ⟨rfl, hb1⟩
  have F : Hid (Below w.heap.size w w1) := (bel1 w _).trans (hb1.mono (by simp))
  obtain ⟨q, hq⟩ : ∃ q : Nat, q = cnt x D n := ⟨_, rfl⟩
  rw [← hq]
  have HQ : Hid (q = cnt x D n) := hq
  have hq0 : ¬ (q : Int) < 0 := by omega
  clear hb1 hq
  go_wp2
  go_ret
  exact ⟨by rw [HQ.out]; rfl, F.out⟩

set_option maxHeartbeats 1000000 in
theorem t_markSlot (lo hi : Nat) (b : Nat) (d : SD) (oa : Option Addr) (cap x : Nat) (w : World) (h1 : KeysNew w lo hi oa b d.n d.dk d.dm) (hx1 : 1 ≤ x) (hx2 : x ≤ 1048576) (hn : d.n ≤ 1048576) :
    Calls Try.prog 20 #[sdl d oa cap, .int .i64 (x : Int)] w fun e w' => e = .returned (.int .i64 ((x + 2 * d.n : Nat) : Int)) ∧ KeysNew w' lo hi oa b d.n (mkK x) (mkM x) ∧ Span lo hi w w' := by
  unfold sdl
  have HT : Hid (∀ w', Below w.heap.size w w' → KeysNew w' lo hi oa b d.n d.dk d.dm) := fun w' hb => h1.below hb
  have HI : Hid (0 < d.n → lo ≤ b ∧ b < hi) := h1.inn
  clear h1
  go_enter Try.func20, Try.ntmps20
  go_wp2_with fail
  refine (t_markKeyS lo hi oa b d.n cap d.dk d.dm x _ (by exact HT.out _ (bel1 _ _)) hx1 (by omega) hn).mono ?_
  rintro e w1 ⟨rfl, T1, S1⟩
  have F : Hid (KeysNew w1 lo hi oa b d.n (mkK x) (mkM x) ∧ Span lo hi w w1) := ⟨T1, (Span.of_below (bel1 _ _)).trans (S1.span HI.out)⟩
  clear T1 S1
  go_wp2
  go_ret
  exact ⟨rfl, F.out⟩

set_option maxHeartbeats 1000000 in
theorem t_heldSlot (lo hi : Nat) (b : Nat) (d : SD) (oa : Option Addr) (cap x : Nat) (w : World) (h1 : KeysNew w lo hi oa b d.n (mkK x) (mkM x)) (hx1 : 1 ≤ x) (hx2 : x ≤ 1048576) (hn : d.n ≤ 1048576) :
    Calls Try.prog 21 #[sdl d oa cap, .int .i64 (x : Int)] w fun e w' => e = .returned (.int .i64 ((x + 2 * d.n : Nat) : Int)) ∧ Below w.heap.size w w' := by
  unfold sdl
  have HT : Hid (∀ w', Below w.heap.size w w' → KeysNew w' lo hi oa b d.n (mkK x) (mkM x)) := fun w' hb => h1.below hb
  clear h1
  go_enter Try.func21, Try.ntmps21
  go_wp2_with fail
  refine (t_heldKeyS lo hi oa b d.n cap x _ (by exact HT.out _ (bel1 _ _)) hx1 (by omega) hn).mono ?_
  rintro e w1 ⟨rfl, hb1⟩
  have F : Hid (Below w.heap.size w w1) := (bel1 w _).trans (hb1.mono (by simp))
  obtain ⟨q, hq⟩ : ∃ q : Nat, q = x + 2 * d.n := ⟨_, rfl⟩
  rw [← hq]
  have HQ : Hid (q = x + 2 * d.n) := hq
  have hq0 : ¬ (q : Int) < 0 := by omega
  clear hb1 hq
  go_wp2
  go_ret
  exact ⟨by rw [HQ.out]; rfl, F.out⟩

end Go.Proofs.Ytijgiingfgaakaa
