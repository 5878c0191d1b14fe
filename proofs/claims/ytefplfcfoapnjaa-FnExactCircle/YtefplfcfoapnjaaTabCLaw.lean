/-
  Tables: the walk of the law on Circle.
-/
import Derived.Test.YtefplfcfoapnjaaTabT
namespace Go.Proofs.Ytefplfcfoapnjaa
open Go.RowKit

set_option maxRecDepth 100000 in
set_option maxHeartbeats 8000000 in
theorem c4 (ao : Option Addr) (b o n c : Nat) (p : Nat → SP) (D : Nat → SD) (wo : Option Addr) (wb wf nw wcp : Nat) (E : Nat → WD) (wk : Int) (k : Int) (m : ByteArray) (rev : Int) (w : World) (h1 : SlotsAt w ao b o n p D) (h2 : WaitsAt w wo wb wf nw E) (hm : m.size ≤ 9223372036854775807) :
    Calls Try.prog 4 #[.agg #[.slice ao n c], .slice wo nw wcp, .int .i64 wk, .agg #[.int .i64 k, .string m], .int .i64 rev] w fun e w' => e = .returned (.bool true) ∧ Below w.heap.size w w' := by
  have HB : Hid (∀ w', Below w.heap.size w w' → CH w' ao b o n p D wo wb wf nw E) := fun w' hb => ⟨h1.below hb, h2.below hb⟩
  clear h1 h2
  go_enter Try.func4, Try.ntmps4
  go_wp2_with fail
  refine (c6 ao b o n c p D 1048576 _ (by omega) (by omega) (by exact (HB.out _ (bel2 _ _ _)).s)).mono ?_
  rintro e w1 ⟨r, rfl, hr, hb1⟩
  have B1 : Below w.heap.size w w1 := (bel2 w _ _).trans (hb1.mono (by simp; omega))
  have t1 : w1.cell? ⟨w.heap.size, 0, none⟩ = some (.slice ao n c) := by rw [hb1.cell (p := ⟨w.heap.size, 0, none⟩) (by simp; omega)]; simp
  have u1 : w1.cell? ⟨w.heap.size + 1, 0, none⟩ = some (.int .i64 k) := by rw [hb1.cell (p := ⟨w.heap.size + 1, 0, none⟩) (by simp)]; simp
  have v1 : w1.cell? ⟨w.heap.size + 1, 1, none⟩ = some (.string m) := by rw [hb1.cell (p := ⟨w.heap.size + 1, 1, none⟩) (by simp)]; simp
  clear hb1
  by_cases h3 : r < 0
  · go_wp2
    go_ret
    exact ⟨rfl, B1⟩
  obtain ⟨hn, hG⟩ := hr.ok (by omega)
  have HG : Hid (∀ i, i < n → (D i).n ≤ 1048576) := fun i hi => (hG i hi).2.2.1
  have hr1 := hr.hi
  clear hr hG
  go_wp2_with fail
  refine (c11 wo wb wf nw wcp E r _ (by omega) (by omega) (by exact (HB.out _ B1).e)).mono ?_
  rintro e w2 ⟨r2, rfl, hr2, hb2⟩
  have B2 : Below w.heap.size w w2 := B1.trans (hb2.mono B1.size)
  have t2 : w2.cell? ⟨w.heap.size, 0, none⟩ = some (.slice ao n c) := by rw [hb2.cell (p := ⟨w.heap.size, 0, none⟩) (World.block_lt_of_cell? _ _ t1)]; exact t1
  have u2 : w2.cell? ⟨w.heap.size + 1, 0, none⟩ = some (.int .i64 k) := by rw [hb2.cell (p := ⟨w.heap.size + 1, 0, none⟩) (World.block_lt_of_cell? _ _ u1)]; exact u1
  have v2 : w2.cell? ⟨w.heap.size + 1, 1, none⟩ = some (.string m) := by rw [hb2.cell (p := ⟨w.heap.size + 1, 1, none⟩) (World.block_lt_of_cell? _ _ v1)]; exact v1
  clear hb2 t1 u1 v1 B1
  by_cases h4 : r2 < 0
  · go_wp2
    go_ret
    exact ⟨rfl, B2⟩
  obtain ⟨hnw, _⟩ := hr2.ok (by omega)
  have hr21 := hr2.hi
  clear hr2
  go_wp2_with fail
  refine (c12 k m r2 _ (by omega) (by omega) hm).mono ?_
  rintro e w3 ⟨r3, rfl, hr3, hb3⟩
  have B3 : Below w.heap.size w w3 := B2.trans (hb3.mono B2.size)
  have t3 : w3.cell? ⟨w.heap.size, 0, none⟩ = some (.slice ao n c) := by rw [hb3.cell (p := ⟨w.heap.size, 0, none⟩) (World.block_lt_of_cell? _ _ t2)]; exact t2
  have u3 : w3.cell? ⟨w.heap.size + 1, 0, none⟩ = some (.int .i64 k) := by rw [hb3.cell (p := ⟨w.heap.size + 1, 0, none⟩) (World.block_lt_of_cell? _ _ u2)]; exact u2
  have v3 : w3.cell? ⟨w.heap.size + 1, 1, none⟩ = some (.string m) := by rw [hb3.cell (p := ⟨w.heap.size + 1, 1, none⟩) (World.block_lt_of_cell? _ _ v2)]; exact v2
  clear hb3 t2 u2 v2 B2 hr3
  by_cases h5 : r3 < 0
  · go_wp2
    go_ret
    exact ⟨rfl, B3⟩
  have HB3 : Hid (Below w.heap.size w w3) := B3
  clear B3
  obtain ⟨cc, hcc⟩ : ∃ cc, cir n D nw E wk k m rev = cc := ⟨_, rfl⟩
  have C8 : Hid (∀ W, Below w3.heap.size w3 W → Calls Try.prog 8 #[.agg #[.slice ao n c]] W fun e w' => ∃ b' p', e = .returned (.agg #[.slice (some ⟨b', 0, none⟩) n n]) ∧ Hid (SlotsAt w' (some ⟨b', 0, none⟩) b' 0 n p' D) ∧ Hid (Below w3.heap.size w3 w')) := fun W hW =>
    (c8 ao b o n c p D W (HB.out W (HB3.out.trans (hW.mono HB3.out.size))).s hn HG.out).mono fun e w' ⟨b', p', he, hN, hb, _⟩ => ⟨b', p', he, hN, hW.trans (hb.mono hW.size)⟩
  have C14 : Hid (∀ W, Hid (Below w3.heap.size w3 W) → Calls Try.prog 14 #[.slice wo nw wcp] W fun e w' => ∃ bw, e = .returned (.slice (some ⟨bw, 0, none⟩) nw nw) ∧ Hid (WaitsAt w' (some ⟨bw, 0, none⟩) bw 0 nw E) ∧ Hid (Below w3.heap.size w3 w') ∧ Hid (Below W.heap.size W w')) := fun W hW =>
    (c14 wo wb wf nw wcp E W (HB.out W (HB3.out.trans (hW.out.mono HB3.out.size))).e hnw).mono fun e w' ⟨he, hN, hb, _⟩ => ⟨W.heap.size, he, hN, hW.out.trans (hb.mono hW.out.size), hb⟩
  have C15 : Hid (∀ W, Hid (Below w3.heap.size w3 W) → Calls Try.prog 15 #[.agg #[.int .i64 k, .string m]] W fun e w' => e = .returned (.agg #[.int .i64 k, .string m]) ∧ Hid (Below w3.heap.size w3 w') ∧ Hid (Below W.heap.size W w')) := fun W hW =>
    (c15 k m W).mono fun e w' ⟨he, hb⟩ => ⟨he, hW.out.trans (hb.mono hW.out.size), hb⟩
  have C13 : Hid (∀ W b' p' bw, Hid (SlotsAt W (some ⟨b', 0, none⟩) b' 0 n p' D) → Hid (WaitsAt W (some ⟨bw, 0, none⟩) bw 0 nw E) → Hid (Below w3.heap.size w3 W) → Calls Try.prog 13 #[.agg #[.slice (some ⟨b', 0, none⟩) n n], .slice (some ⟨bw, 0, none⟩) nw nw, .int .i64 wk, .agg #[.int .i64 k, .string m], .int .i64 rev] W fun e w' => e = .returned (.bool cc) ∧ Hid (Below w3.heap.size w3 w')) := fun W b' p' bw hS hE hW => by
    rw [← hcc]
    exact (c13 _ b' 0 n n p' D _ bw 0 nw nw E wk k m rev W hS.out hE.out hm hn HG.out).mono fun e w' ⟨he, hb⟩ => ⟨he, hW.out.trans (hb.mono hW.out.size)⟩
  have HZ : Hid (∀ W, Below w3.heap.size w3 W → W.cell? ⟨w.heap.size, 0, none⟩ = some (.slice ao n c) ∧ W.cell? ⟨w.heap.size + 1, 0, none⟩ = some (.int .i64 k) ∧ W.cell? ⟨w.heap.size + 1, 1, none⟩ = some (.string m)) := fun W hW =>
    ⟨by rw [hW.cell (p := ⟨w.heap.size, 0, none⟩) (World.block_lt_of_cell? _ _ t3)]; exact t3, by rw [hW.cell (p := ⟨w.heap.size + 1, 0, none⟩) (World.block_lt_of_cell? _ _ u3)]; exact u3, by rw [hW.cell (p := ⟨w.heap.size + 1, 1, none⟩) (World.block_lt_of_cell? _ _ v3)]; exact v3⟩
  have HCC : Hid (cir n D nw E wk k m rev = cc) := hcc
  clear hcc
  go_wp2_with fail
  go_region_held3 (fun w' => w'.cell? ⟨w.heap.size, 0, none⟩ = some (.slice ao n c) ∧ w'.cell? ⟨w.heap.size + 1, 0, none⟩ = some (.int .i64 k) ∧ w'.cell? ⟨w.heap.size + 1, 1, none⟩ = some (.string m)) (go_keep)
    (first
      | (go_at_call 8; (with_reducible refine (C8.out _ (Below.refl _ _).drew).mono ?_); rintro e w4 ⟨b4, p4, rfl, S4, H4⟩; obtain ⟨t4, u4, v4⟩ := HZ.out w4 H4.out)
      | (go_at_call 14; (with_reducible refine (C14.out _ H4).mono ?_); rintro e w5 ⟨b5, rfl, E5, H5, K5⟩; obtain ⟨t5, u5, v5⟩ := HZ.out w5 H5.out; have S5 : Hid (SlotsAt w5 (some ⟨b4, 0, none⟩) b4 0 n p4 D) := S4.out.below K5.out)
      | (go_at_call 15; (with_reducible refine (C15.out _ H5).mono ?_); rintro e w6 ⟨rfl, H6, K6⟩; obtain ⟨t6, u6, v6⟩ := HZ.out w6 H6.out; have S6 : Hid (SlotsAt w6 (some ⟨b4, 0, none⟩) b4 0 n p4 D) := S5.out.below K6.out; have E6 : Hid (WaitsAt w6 (some ⟨b5, 0, none⟩) b5 0 nw E) := E5.out.below K6.out)
      | (go_at_call 13; (with_reducible refine (C13.out _ b4 p4 b5 S6 E6 H6).mono ?_); rintro e w7 ⟨rfl, H7⟩; obtain ⟨t7, u7, v7⟩ := HZ.out w7 H7.out))
  have B7 : Hid (Below w.heap.size w w7) := HB3.out.trans (H7.out.mono HB3.out.size)
  clear C8 C14 C15 C13 HZ t3 u3 v3 t4 u4 v4 t5 u5 v5 t6 u6 v6 S4 S5 S6 E5 E6 H4 H5 H6 H7 K5 K6 HB3
  go_wp2_with fail
  refine (c8 ao b o n c p D _ (by exact (HB.out _ B7.out).s) hn HG.out).mono ?_
  rintro e w8 ⟨b8, p8, rfl, N8, hb8, _⟩
  have B8 : Hid (Below w.heap.size w w8) := B7.out.trans (hb8.mono B7.out.size)
  have NX : Hid (SlotsAt (w8.alloc (.cells #[.slice (some ⟨b8, 0, none⟩) n n] 29)) (some ⟨b8, 0, none⟩) b8 0 n p8 D) := N8.below (bel1 _ _)
  have t8 : (w8.alloc (.cells #[.slice (some ⟨b8, 0, none⟩) n n] 29)).cell? ⟨w.heap.size, 0, none⟩ = some (.slice ao n c) := by rw [(hb8.trans ((bel1 w8 _).mono hb8.size)).cell (p := ⟨w.heap.size, 0, none⟩) (World.block_lt_of_cell? _ _ t7)]; exact t7
  have u8 : (w8.alloc (.cells #[.slice (some ⟨b8, 0, none⟩) n n] 29)).cell? ⟨w.heap.size + 1, 0, none⟩ = some (.int .i64 k) := by rw [(hb8.trans ((bel1 w8 _).mono hb8.size)).cell (p := ⟨w.heap.size + 1, 0, none⟩) (World.block_lt_of_cell? _ _ u7)]; exact u7
  have v8 : (w8.alloc (.cells #[.slice (some ⟨b8, 0, none⟩) n n] 29)).cell? ⟨w.heap.size + 1, 1, none⟩ = some (.string m) := by rw [(hb8.trans ((bel1 w8 _).mono hb8.size)).cell (p := ⟨w.heap.size + 1, 1, none⟩) (World.block_lt_of_cell? _ _ v7)]; exact v7
  have x8 : (w8.alloc (.cells #[.slice (some ⟨b8, 0, none⟩) n n] 29)).cell? ⟨w8.heap.size, 0, none⟩ = some (.slice (some ⟨b8, 0, none⟩) n n) := (row1 w8 _ 29).cell (i := 0) (by omega)
  have BX : Hid (Below w.heap.size w (w8.alloc (.cells #[.slice (some ⟨b8, 0, none⟩) n n] 29))) := B8.out.alloc B8.out.size _
  clear N8 hb8 t7 u7 v7 B7
  go_wp2_with fail
  obtain ⟨xb, hxb⟩ : ∃ xb, xb = w8.heap.size := ⟨_, rfl⟩
  obtain ⟨X, hX⟩ : ∃ X, X = w8.alloc (.cells #[.slice (some ⟨b8, 0, none⟩) n n] 29) := ⟨_, rfl⟩
  rw [← hX] at NX t8 u8 v8 x8 BX
  rw [← hX]
  rw [← hxb] at x8
  rw [← hxb]
  clear hX hxb B8
  refine (c14 wo wb wf nw wcp E X (by exact (HB.out _ BX.out).e) hnw).mono ?_
  rintro e w9 ⟨rfl, N9, hb9, _⟩
  obtain ⟨b9, hb9e⟩ : ∃ b9, b9 = X.heap.size := ⟨_, rfl⟩
  rw [← hb9e] at N9
  rw [← hb9e]
  clear hb9e
  have B9 : Hid (Below w.heap.size w w9) := BX.out.trans (hb9.mono BX.out.size)
  have NX9 : Hid (SlotsAt w9 (some ⟨b8, 0, none⟩) b8 0 n p8 D) := NX.out.below hb9
  have NW9 : Hid (WaitsAt w9 (some ⟨b9, 0, none⟩) b9 0 nw E) := N9
  have t9 : w9.cell? ⟨w.heap.size, 0, none⟩ = some (.slice ao n c) := by rw [hb9.cell (p := ⟨w.heap.size, 0, none⟩) (World.block_lt_of_cell? _ _ t8)]; exact t8
  have u9 : w9.cell? ⟨w.heap.size + 1, 0, none⟩ = some (.int .i64 k) := by rw [hb9.cell (p := ⟨w.heap.size + 1, 0, none⟩) (World.block_lt_of_cell? _ _ u8)]; exact u8
  have v9 : w9.cell? ⟨w.heap.size + 1, 1, none⟩ = some (.string m) := by rw [hb9.cell (p := ⟨w.heap.size + 1, 1, none⟩) (World.block_lt_of_cell? _ _ v8)]; exact v8
  have x9 : w9.cell? ⟨xb, 0, none⟩ = some (.slice (some ⟨b8, 0, none⟩) n n) := by rw [hb9.cell (p := ⟨xb, 0, none⟩) (World.block_lt_of_cell? _ _ x8)]; exact x8
  clear N9 hb9 NX t8 u8 v8 x8 BX
  have HZ : Hid (∀ W, Below w9.heap.size w9 W → W.cell? ⟨w.heap.size, 0, none⟩ = some (.slice ao n c) ∧ W.cell? ⟨w.heap.size + 1, 0, none⟩ = some (.int .i64 k) ∧ W.cell? ⟨w.heap.size + 1, 1, none⟩ = some (.string m) ∧ W.cell? ⟨xb, 0, none⟩ = some (.slice (some ⟨b8, 0, none⟩) n n)) := fun W hW =>
    ⟨by rw [hW.cell (p := ⟨w.heap.size, 0, none⟩) (World.block_lt_of_cell? _ _ t9)]; exact t9, by rw [hW.cell (p := ⟨w.heap.size + 1, 0, none⟩) (World.block_lt_of_cell? _ _ u9)]; exact u9, by rw [hW.cell (p := ⟨w.heap.size + 1, 1, none⟩) (World.block_lt_of_cell? _ _ v9)]; exact v9, by rw [hW.cell (p := ⟨xb, 0, none⟩) (World.block_lt_of_cell? _ _ x9)]; exact x9⟩
  have C15 : Hid (∀ W, Below w9.heap.size w9 W → Calls Try.prog 15 #[.agg #[.int .i64 k, .string m]] W fun e w' => e = .returned (.agg #[.int .i64 k, .string m]) ∧ Hid (Below w9.heap.size w9 w')) := fun W hW =>
    (c15 k m W).mono fun e w' ⟨he, hb⟩ => ⟨he, hW.trans (hb.mono hW.size)⟩
  have C16 : Hid (∀ W, Hid (Below w9.heap.size w9 W) → Calls Try.prog 16 #[.agg #[.slice (some ⟨b8, 0, none⟩) n n], .slice (some ⟨b9, 0, none⟩) nw nw, .int .i64 wk, .agg #[.int .i64 k, .string m], .int .i64 rev] W fun e w' => e = .returned (.bool cc) ∧ Hid (Below w9.heap.size w9 w')) := fun W hW => by
    rw [← HCC.out]
    exact (c16 _ b8 0 n n p8 D _ b9 0 nw nw E wk k m rev W (NX9.out.below hW.out) (NW9.out.below hW.out) hm).mono fun e w' ⟨he, hb⟩ => ⟨he, hW.out.trans (hb.mono hW.out.size)⟩
  go_wp2_with fail
  go_region_held3 (fun w' => w'.cell? ⟨w.heap.size + 1, 0, none⟩ = some (.int .i64 k) ∧ w'.cell? ⟨w.heap.size + 1, 1, none⟩ = some (.string m) ∧ w'.cell? ⟨xb, 0, none⟩ = some (.slice (some ⟨b8, 0, none⟩) n n)) (go_keep)
    (first
      | (go_at_call 15; (with_reducible refine (C15.out _ (Below.refl _ _).drew).mono ?_); rintro e w10 ⟨rfl, H10⟩; obtain ⟨t10, u10, v10, x10⟩ := HZ.out w10 H10.out)
      | (go_at_call 16; (with_reducible refine (C16.out _ H10).mono ?_); rintro e w11 ⟨rfl, H11⟩; obtain ⟨t11, u11, v11, x11⟩ := HZ.out w11 H11.out))
  have B11 : Hid (Below w.heap.size w w11) := B9.out.trans (H11.out.mono B9.out.size)
  have NX11 : Hid (SlotsAt w11 (some ⟨b8, 0, none⟩) b8 0 n p8 D) := NX9.out.below H11.out
  have NW11 : Hid (WaitsAt w11 (some ⟨b9, 0, none⟩) b9 0 nw E) := NW9.out.below H11.out
  clear C15 C16 HZ t9 u9 v9 x9 t10 u10 v10 x10 u11 v11 H10 H11 NX9 NW9 B9
  have HZ : Hid (∀ W, Below w11.heap.size w11 W → W.cell? ⟨w.heap.size, 0, none⟩ = some (.slice ao n c) ∧ W.cell? ⟨xb, 0, none⟩ = some (.slice (some ⟨b8, 0, none⟩) n n)) := fun W hW =>
    ⟨by rw [hW.cell (p := ⟨w.heap.size, 0, none⟩) (World.block_lt_of_cell? _ _ t11)]; exact t11, by rw [hW.cell (p := ⟨xb, 0, none⟩) (World.block_lt_of_cell? _ _ x11)]; exact x11⟩
  have C8 : Hid (∀ W, Below w11.heap.size w11 W → Calls Try.prog 8 #[.agg #[.slice ao n c]] W fun e w' => ∃ b' p', e = .returned (.agg #[.slice (some ⟨b', 0, none⟩) n n]) ∧ Hid (SlotsAt w' (some ⟨b', 0, none⟩) b' 0 n p' D) ∧ Hid (Below w11.heap.size w11 w')) := fun W hW =>
    (c8 ao b o n c p D W (HB.out W (B11.out.trans (hW.mono B11.out.size))).s hn HG.out).mono fun e w' ⟨b', p', he, hN, hb, _⟩ => ⟨b', p', he, hN, hW.trans (hb.mono hW.size)⟩
  have C10 : Hid (∀ W b' p', Hid (SlotsAt W (some ⟨b', 0, none⟩) b' 0 n p' D) → Hid (Below w11.heap.size w11 W) → Calls Try.prog 10 #[.agg #[.slice (some ⟨b8, 0, none⟩) n n], .agg #[.slice (some ⟨b', 0, none⟩) n n]] W fun e w' => e = .returned (.bool true) ∧ Hid (Below w11.heap.size w11 w')) := fun W b' p' hS hW =>
    (c10 _ _ b8 0 n b' 0 n n p8 p' D W (NX11.out.below hW.out) hS.out).mono fun e w' ⟨he, hb⟩ => ⟨he, hW.out.trans (hb.mono hW.out.size)⟩
  go_wp2_with fail
  go_region_held3 (fun w' => w'.cell? ⟨w.heap.size, 0, none⟩ = some (.slice ao n c) ∧ w'.cell? ⟨xb, 0, none⟩ = some (.slice (some ⟨b8, 0, none⟩) n n)) (go_keep)
    (first
      | (go_at_call 8; (with_reducible refine (C8.out _ (Below.refl _ _).drew).mono ?_); rintro e w12 ⟨b12, p12, rfl, S12, H12⟩; obtain ⟨t12, x12⟩ := HZ.out w12 H12.out)
      | (go_at_call 10; (with_reducible refine (C10.out _ b12 p12 S12 H12).mono ?_); rintro e w13 ⟨rfl, H13⟩; obtain ⟨t13, x13⟩ := HZ.out w13 H13.out))
  have B13 : Hid (Below w.heap.size w w13) := B11.out.trans (H13.out.mono B11.out.size)
  have NW13 : Hid (WaitsAt w13 (some ⟨b9, 0, none⟩) b9 0 nw E) := NW11.out.below H13.out
  clear C8 C10 HZ t11 x11 t12 x12 t13 x13 H12 H13 NX11 NW11 S12 B11
  go_wp2_with fail
  refine (c14 wo wb wf nw wcp E w13 (by exact (HB.out _ B13.out).e) hnw).mono ?_
  rintro e w14 ⟨rfl, N14, hb14, _⟩
  have B14 : Hid (Below w.heap.size w w14) := B13.out.trans (hb14.mono B13.out.size)
  have C17 : Hid (Calls Try.prog 17 #[.slice (some ⟨b9, 0, none⟩) nw nw, .slice (some ⟨w13.heap.size, 0, none⟩) nw nw] w14 fun e w' => e = .returned (.bool true) ∧ Below w14.heap.size w14 w') := c17 _ _ b9 0 nw w13.heap.size 0 nw nw E w14 (NW13.out.below hb14) N14
  clear N14 hb14
  go_wp2_with fail
  refine C17.out.mono ?_
  rintro e w15 ⟨rfl, hb15⟩
  go_wp2
  go_ret
  exact ⟨rfl, B14.out.trans (hb15.mono B14.out.size)⟩

end Go.Proofs.Ytefplfcfoapnjaa
