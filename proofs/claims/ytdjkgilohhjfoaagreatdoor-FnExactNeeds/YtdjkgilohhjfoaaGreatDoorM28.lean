/-
  Merged for the claim: NdF SrcOpen.
-/
import Derived.Test.YtdjkgilohhjfoaaGreatDoorM15
import Derived.Test.YtdjkgilohhjfoaaGreatDoorM27
import Derived.Test.YtdjkgilohhjfoaaGreatDoorM23
import Derived.Test.YtdjkgilohhjfoaaGreatDoorProg
import Derived.ProofKit
import Derived.Deep.Slices
import Derived.Deep.Strs
namespace Go.Proofs.YtdjkgilohhjfoaaGreatDoor
open Go.RowKit

theorem lv_keys {w : World} {B : Nat} {v : Value} {ks : List (Int × ByteArray)} (h : w.ownsRow B 31 2 v ks.length (kysC ks)) : ∃ a g c, v = .slice a ks.length c ∧ (0 < ks.length → a = some ⟨g, 0, none⟩) ∧ Lv w (lK ⟨a, g, c⟩ ks.length) ∧ ∀ x, x ∈ lK ⟨a, g, c⟩ ks.length → B ≤ x.1 := by
  obtain ⟨a, c, rfl⟩ := own_form h
  by_cases hp : 0 < ks.length
  · obtain ⟨h1, h2⟩ := h
    rcases h2 with ⟨_, h3⟩ | ⟨g, cap, cur, hv, hb, hh, hc, hm, hs, ht⟩
    · omega
    · simp only [Value.slice.injEq] at hv
      obtain ⟨rfl, -, rfl⟩ := hv
      have hr : w.rowIs g 31 cur.size (fun j => cur[j]?.getD default) := ⟨cur, hh, rfl, fun i hi => by
        show cur[i]? = some (cur[i]?.getD default)
        rw [Array.getElem?_eq_getElem hi]; rfl⟩
      refine ⟨_, g, c, rfl, fun _ => rfl, fun x hx => ?_, fun x hx => ?_⟩
      · obtain ⟨e1, e2⟩ := mem_lK hx
        have e1' : x.1 = g := e1
        refine ⟨by rw [e1']; exact ⟨_, _, _, hr⟩, cur[x.2.1]?.getD default, ?_⟩
        unfold lad
        rw [e1']
        exact hr.cell (by omega)
      · rw [(mem_lK hx).1]; exact hb
  · have e0 : ks.length = 0 := by omega
    rw [e0]
    exact ⟨a, 0, c, rfl, (fun h => absurd h (Nat.lt_irrefl _)), (fun x hx => absurd hx (by simp [lK])), (fun x hx => absurd hx (by simp [lK]))⟩
theorem own_mkd {w w' : World} {A : List LA} {x B k m : Nat} {t : TypeId} {v : Value} {xs : List Value} (h : w.ownsRow B t k v m xs) (M : Mkd w w' A x) (hne : ∀ b, v.ownBlock = some b → ∀ a, a ∈ A → a.1 ≠ b) : w'.ownsRow B t k v m xs := own_block h (fun b e => M.block b (h.lt b e.symm).2 (hne b e.symm))
theorem below_mkd {w w1 w2 : World} {A : List LA} {x : Nat} (h : Below w.heap.size w w1) (M : Mkd w1 w2 A x) (hA : ∀ a, a ∈ A → w.heap.size ≤ a.1) : Below w.heap.size w w2 :=
  ⟨M.os.trans h.os, M.tape.trans h.tape, M.output.trans h.output, Nat.le_trans h.size M.size, fun k hk => (M.block k (Nat.lt_of_lt_of_le hk h.size) (fun a ha e => by have := hA a ha; omega)).trans (h.block k hk)⟩

set_option maxRecDepth 100000 in
set_option maxHeartbeats 8000000 in
theorem l_Needs {ao : Option Addr} {b o n c : Nat} {S T : Nat → ByteArray} (w : World) (h1 : SrcsAt w ao b o n S T) (k : Int) (m : ByteArray) (hm : m.size ≤ 9223372036854775807) (hgv : GV w) :
    Calls Tryz.prog 3 #[.slice ao n c, .agg #[.int .i64 k, .string m]] w fun e w' => e = .returned (.bool true) ∧ Below w.heap.size w w' := by
  obtain ⟨W0, hW0⟩ : ∃ W0, W0 = w.alloc (.cells #[.int .i64 k, .string m] 24) := ⟨_, rfl⟩
  have hs0 : W0.heap.size = w.heap.size + 1 := by rw [hW0]; simp
  have B0 : Below w.heap.size w W0 := by rw [hW0]; exact bel1 _ _
  have HB0 : Hid (∀ W, Below W0.heap.size W0 W → Below w.heap.size w W) := fun W hb => B0.trans (hb.mono (by omega))
  have HRK : Hid (W0.rowIs w.heap.size 24 2 (fun i => if i = 0 then .int .i64 k else .string m)) := by rw [hW0]; exact row2k w _ _ _
  have HKC : Hid (∀ W, Below W0.heap.size W0 W → W.cell? ⟨w.heap.size, 0, none⟩ = some (.int .i64 k) ∧ W.cell? ⟨w.heap.size, 1, none⟩ = some (.string m)) := fun W' hb => by
    have r := HRK.out.of_block (hb.block _ HRK.out.lt)
    exact ⟨r.cell (i := 0) (by omega), r.cell (i := 1) (by omega)⟩
  have CS : Hid (Calls Tryz.prog 4 #[.slice ao n c, .int .i64 1048576] W0 fun e w' => ∃ r, e = .returned (.int .i64 r) ∧ Left 1048576 r (n ≤ 1048576 ∧ ∀ i, i < n → (S i).size ≤ 1048576 ∧ (T i).size ≤ 1048576) ∧ Below W0.heap.size W0 w') := sc4 ao b o n c S T 1048576 W0 (by omega) (by omega) (h1.below B0)
  have HB : Hid (∀ W, Below W0.heap.size W0 W → SrcsAt W ao b o n S T ∧ GV W) := fun W hb => ⟨h1.below (HB0.out W hb), hgv.on (HB0.out W hb)⟩
  clear h1 hgv B0
  go_enter Tryz.func3, Tryz.ntmps3
  go_upto_region 1 with fail
  rw [← hW0]
  clear hW0
  go_wp2_with fail
  refine CS.out.mono ?_
  rintro e w1 ⟨r, rfl, hL, b1⟩
  by_cases hr : r < 0
  · have HF := HB0.out w1 b1
    go_wp2
    go_ret
    exact ⟨rfl, HF⟩
  obtain ⟨hn1, hsz⟩ := hL.ok (by omega)
  have hrl := hL.hi
  obtain ⟨k0, k1⟩ := HKC.out w1 b1
  have CZ : Hid (Calls Tryz.prog 5 #[.agg #[.int .i64 k, .string m], .int .i64 r] w1 fun e w' => ∃ r2, e = .returned (.int .i64 r2) ∧ Left r r2 (m.size ≤ 1048576) ∧ Below w1.heap.size w1 w') := z_key k m r w1 (by omega) (by omega) hm
  have HB1 : Hid (Below W0.heap.size W0 w1) := b1
  clear b1 hL CS
  go_wp2_with fail
  refine CZ.out.mono ?_
  rintro e w2 ⟨r2, rfl, hL2, b2⟩
  have B2 : Below W0.heap.size W0 w2 := HB1.out.trans (b2.mono HB1.out.size)
  by_cases hr2 : r2 < 0
  · have HF := HB0.out w2 B2
    go_wp2
    go_ret
    exact ⟨rfl, HF⟩
  have hm1 := hL2.ok (by omega)
  obtain ⟨R, hR⟩ : ∃ R, R = nedA S T n k m := ⟨_, rfl⟩
  have HRL : Hid (R.length ≤ 1001) := by show R.length ≤ 1001; rw [hR]; exact nedA_len S T n k m
  have HTO : Hid (∀ W, Below W0.heap.size W0 W → Calls Tryz.prog 7 #[.slice ao n c] W fun e w' => e = .returned (.slice (some ⟨W.heap.size, 0, none⟩) n n) ∧ SrcsAt w' (some ⟨W.heap.size, 0, none⟩) W.heap.size 0 n S T ∧ Below W.heap.size W w' ∧ W.heap.size < w'.heap.size ∧ ∃ f, w'.rowIs W.heap.size 45 (n * 2) f) := fun W hb => sc6 ao b o n c S T W (HB.out W hb).1 hn1
  have HSP : Hid (∀ (W : World) (X : Nat), SrcsAt W (some ⟨X, 0, none⟩) X 0 n S T → Calls Tryz.prog 6 #[.slice (some ⟨X, 0, none⟩) n n, .agg #[.int .i64 k, .string m]] W (KyR W R)) := fun W X h => by rw [hR]; exact s_Needs W h k m hm1
  have HIM : Hid (∀ (W : World) (X : Nat), Below W0.heap.size W0 W → SrcsAt W (some ⟨X, 0, none⟩) X 0 n S T → Calls Tryz.prog 9 #[.slice (some ⟨X, 0, none⟩) n n, .agg #[.int .i64 k, .string m]] W (KyR W R)) := fun W X hb h => by rw [hR]; exact p_Needs W h (fun i hi => (hsz i hi).1) k m hm1 (HB.out W hb).2
  obtain ⟨N, hN⟩ : ∃ N, N = R.length := ⟨_, rfl⟩
  have HN : Hid (N = R.length) := hN
  clear hL2 b2 hR hsz hN k0 k1 CZ
  go_wp2_with fail
  go_cut [6] (fun s6 wc => ∃ (a9 : Option Addr) (c9 : Nat), s6 = .slice a9 N c9 ∧ Hid (Below w2.heap.size w2 wc) ∧ Hid (wc.ownsRow w2.heap.size 31 2 (.slice a9 N c9) R.length (kysC R)))
  case first =>
    refine wp_region_held_drew (S := fun W => W.cell? ⟨w.heap.size, 0, none⟩ = some (.int .i64 k) ∧ W.cell? ⟨w.heap.size, 1, none⟩ = some (.string m)) (by kernel_rfl) (HKC.out _ B2.drew) (fun hHeld => ?_)
    refine wpAnyH_take (i := 0) (oi := ⟨some 23, _, _, _, _, _⟩) (v := ?_) rfl (by kernel_rfl) (by kernel_rfl) (by kernel_rfl) (fun _ _ _ h => h) (Or.inl ⟨by kernel_rfl, ?_⟩) (by assumption) ?_
    rotate_left
    · (intro wS hSw; (try dsimp only at hSw); (go_simp <;> with_reducible rfl))
    (try simp only [Act.put]); (try simp only [List.setIfInBounds_toArray]); (try simp only [List.set_cons_succ]); (try simp only [List.set_cons_zero])
    refine wpAnyH_take (i := 2) (oi := ⟨some 25, _, _, _, _, _⟩) (v := ?_) rfl (by kernel_rfl) (by kernel_rfl) (by kernel_rfl) (fun _ _ _ h => h) (Or.inl ⟨by kernel_rfl, ?_⟩) (by assumption) ?_
    rotate_left
    · (intro wS hSw; (try dsimp only at hSw); (go_simp <;> with_reducible rfl))
    (try simp only [Act.put]); (try simp only [List.setIfInBounds_toArray]); (try simp only [List.set_cons_succ]); (try simp only [List.set_cons_zero])
    refine wpAnyH_ready (rs := [1]) (by kernel_rfl) (by simp) ?_
    refine AllReadyH.cons rfl (fun K hK => ?_) AllReadyH.nil
    go_simp
    go_wp2_with (first | (go_at_call 7; refine (HTO.out _ B2.drew).mono ?_; rintro e wA ⟨rfl, hSwA, bwA, _, _⟩))
    have DwA : Below w2.heap.size w2 wA := (Below.refl _ _).drew.trans bwA
    have BwA : Below W0.heap.size W0 wA := B2.trans (DwA.mono B2.size)
    refine hK.out _ _ (HKC.out _ BwA) (fun hHeld2 => ?_)
    clear hK K
    refine wpAnyH_ready (rs := [3]) (by kernel_rfl) (by simp) ?_
    refine AllReadyH.cons rfl (fun K hK => ?_) AllReadyH.nil
    go_simp
    go_wp2_with (first | (go_at_call 8; refine (t_key k m _).mono ?_; rintro e wB ⟨rfl, bwB⟩))
    have DwB : Below w2.heap.size w2 wB := DwA.trans (bwB.mono DwA.size)
    have BwB : Below W0.heap.size W0 wB := B2.trans (DwB.mono B2.size)
    refine hK.out _ _ (HKC.out _ BwB) (fun hHeld2 => ?_)
    clear hK K
    have hS := hSwA.below bwB
    clear hSwA bwA bwB
    refine wpAnyH_ready (rs := [4]) (by kernel_rfl) (by simp) ?_
    refine AllReadyH.cons rfl (fun K hK => ?_) AllReadyH.nil
    go_simp
    go_wp2_with (first | (go_at_call 6; refine (HSP.out wB _ hS).mono ?_; rintro e wC ⟨bC, v9, rfl, hO9⟩))
    have DwC : Below w2.heap.size w2 wC := DwB.trans (bC.mono DwB.size)
    have BwC : Below W0.heap.size W0 wC := B2.trans (DwC.mono B2.size)
    have HOC : Hid (wC.ownsRow w2.heap.size 31 2 v9 R.length (kysC R)) := own_mono hO9 DwB.size
    obtain ⟨a9, c9, hv9⟩ := own_form hO9
    rw [← HN.out] at hv9
    subst hv9
    refine hK.out _ _ (HKC.out _ BwC) (fun hHeld2 => ?_)
    clear hK K
    refine wpAnyH_ready (rs := [5]) (by kernel_rfl) (by simp) ?_
    refine AllReadyH.cons rfl (fun K hK => ?_) AllReadyH.nil
    go_simp
    refine hK.out _ _ (HKC.out _ BwC) (fun hHeld2 => ?_)
    clear hK K
    refine wpAnyH_done (by kernel_rfl) ?_ _
    have HBC : Hid (Below w2.heap.size w2 wC) := DwC
    clear hO9 bC BwA BwB BwC DwA DwB DwC hS
    go_wp2
    go_meet
    case rel => exact ⟨a9, c9, rfl, HBC, HOC⟩
  rename World => wk
  obtain ⟨a0, c0, rfl, HC3, HO3⟩ := hcut
  have HB3 : Hid (Below W0.heap.size W0 wk) := B2.trans (HC3.out.mono B2.size)
  have HO0 : Hid (wk.ownsRow W0.heap.size 31 2 (.slice a0 N c0) R.length (kysC R)) := own_mono HO3.out B2.size
  clear B2 HC3 HO3
  go_wp2_with fail
  refine (HTO.out wk HB3.out).mono ?_
  rintro e w4 ⟨rfl, hS4, b4, hlt4, fX, rX⟩
  have HB4 : Hid (Below W0.heap.size W0 w4) := HB3.out.trans (b4.mono HB3.out.size)
  have HS4 : Hid (SrcsAt w4 (some ⟨wk.heap.size, 0, none⟩) wk.heap.size 0 n S T) := hS4
  have HK4 : Hid (Below wk.heap.size wk w4 ∧ wk.heap.size < w4.heap.size) := ⟨b4, hlt4⟩
  have HRX : Hid (w4.rowIs wk.heap.size 45 (n * 2) fX) := rX
  obtain ⟨k0, k1⟩ := HKC.out w4 HB4.out
  clear hS4 b4 rX hlt4
  go_wp2_with fail
  refine (t_key k m _).mono ?_
  rintro e w4' ⟨rfl, b4'⟩
  have HB4' : Hid (Below W0.heap.size W0 w4') := HB4.out.trans (b4'.mono HB4.out.size)
  have HQ4 : Hid (Below w4.heap.size w4 w4') := b4'
  have C4 : Hid (Calls Tryz.prog 9 #[.slice (some ⟨wk.heap.size, 0, none⟩) n n, .agg #[.int .i64 k, .string m]] w4' (KyR w4' R)) := HIM.out w4' _ HB4'.out (HS4.out.below b4')
  clear b4' k0 k1
  go_wp2_with fail
  refine C4.out.mono ?_
  rintro e w5 ⟨b5, v1, rfl, hO1⟩
  have HO1 : Hid (w5.ownsRow w4.heap.size 31 2 v1 R.length (kysC R)) := own_mono hO1 HQ4.out.size
  obtain ⟨a1, c1, hv1⟩ := own_form hO1
  rw [← HN.out] at hv1
  subst hv1
  have HK5 : Hid (Below w4.heap.size w4 w5) := HQ4.out.trans (b5.mono HQ4.out.size)
  have HB5 : Hid (Below W0.heap.size W0 w5) := HB4.out.trans (HK5.out.mono HB4.out.size)
  have HZ5 : Hid (w5.ownsRow W0.heap.size 31 2 (.slice a0 N c0) R.length (kysC R)) := ownR_below (ownR_below HO0.out HK4.out.1) HK5.out
  have C5 : Hid (Calls Tryz.prog 10 #[.slice a1 N c1, .slice a0 N c0] w5 fun e w' => e = .returned (.bool true) ∧ Below w5.heap.size w5 w') := e_keys w5 HO1.out HZ5.out (by have := HRL.out; omega)
  clear b5 hO1 C4
  go_wp2_with fail
  refine C5.out.mono ?_
  rintro e w6 ⟨rfl, b6⟩
  have HK6 : Hid (Below w5.heap.size w5 w6) := b6
  have HB6 : Hid (Below W0.heap.size W0 w6) := HB5.out.trans (b6.mono HB5.out.size)
  clear b6 C5
  go_wp2_with fail
  refine (HTO.out w6 HB6.out).mono ?_
  rintro e w7 ⟨rfl, hS7, b7, _, _⟩
  have B47 : Below w4.heap.size w4 w7 := (HK5.out.trans (HK6.out.mono HK5.out.size)).trans (b7.mono (Nat.le_trans HK5.out.size HK6.out.size))
  have HB7 : Hid (Below W0.heap.size W0 w7) := HB6.out.trans (b7.mono HB6.out.size)
  have C7 : Hid (Calls Tryz.prog 11 #[.slice (some ⟨wk.heap.size, 0, none⟩) n n, .slice (some ⟨w6.heap.size, 0, none⟩) n n] w7 fun e w' => e = .returned (.bool true) ∧ Below w7.heap.size w7 w') := sc8 _ _ _ _ _ _ _ _ _ S T w7 (HS4.out.below B47) hS7
  have HK7 : Hid (Below w6.heap.size w6 w7) := b7
  clear hS7 b7 B47
  go_wp2_with fail
  refine C7.out.mono ?_
  rintro e w8 ⟨rfl, b8⟩
  have K58 : Below w5.heap.size w5 w8 := (HK6.out.trans (HK7.out.mono HK6.out.size)).trans (b8.mono (Nat.le_trans HK6.out.size HK7.out.size))
  have K48 : Below w4.heap.size w4 w8 := HK5.out.trans (K58.mono HK5.out.size)
  have HB8 : Hid (Below W0.heap.size W0 w8) := HB7.out.trans (b8.mono HB7.out.size)
  have HA8 : Hid (w8.ownsRow w4.heap.size 31 2 (.slice a1 N c1) R.length (kysC R)) := ownR_below HO1.out K58
  have HZ8 : Hid (w8.ownsRow W0.heap.size 31 2 (.slice a0 N c0) R.length (kysC R)) := ownR_below HZ5.out K58
  have rX8 := HRX.out.of_block (K48.block _ HRX.out.lt)
  have HLX : Hid (Lv w8 (lN ⟨some ⟨wk.heap.size, 0, none⟩, wk.heap.size, n⟩ (n * 2))) := fun x hx => by
    obtain ⟨e1, e2, e3⟩ := mem_lN hx
    have e1' : x.1 = wk.heap.size := e1
    refine ⟨by rw [e1']; exact ⟨_, _, _, rX8⟩, fX x.2.1, ?_⟩
    unfold lad
    rw [e1']
    exact rX8.cell e2
  have CM : Hid (Calls Tryz.prog 12 #[.slice (some ⟨wk.heap.size, 0, none⟩) n n, .int .i64 1] w8 fun e w' => e = .returned (.int .i64 ((1 + n * 2 : Nat) : Int)) ∧ Mkd w8 w' (lN ⟨some ⟨wk.heap.size, 0, none⟩, wk.heap.size, n⟩ (n * 2)) 1) := t_markSrcs 1 ⟨some ⟨wk.heap.size, 0, none⟩, wk.heap.size, n⟩ n 1 w8 rfl (fun _ => rfl) HLX.out (Nat.le_refl _) (by omega)
  obtain ⟨y, hy⟩ : ∃ y : Nat, y = 1 + n * 2 := ⟨_, rfl⟩
  rw [← hy] at CM
  have ny : ¬ (y : Int) < 0 := by omega
  clear K58 K48 b8 rX8 C7 hy
  go_wp2_with fail
  refine CM.out.mono ?_
  rintro e w9 ⟨rfl, M9⟩
  have HX9 : Hid (∀ x, x ∈ lN ⟨some ⟨wk.heap.size, 0, none⟩, wk.heap.size, n⟩ (n * 2) → x.1 = wk.heap.size) := fun x hx => (mem_lN hx).1
  have h34 := HK4.out.2
  have h3 := HB3.out.size
  have HA9 : Hid (w9.ownsRow w4.heap.size 31 2 (.slice a1 N c1) R.length (kysC R)) := own_mkd HA8.out M9 (fun b e x hx e2 => by have := HX9.out x hx; have := (HA8.out.lt b e).1; omega)
  have HZ9 : Hid (w9.ownsRow W0.heap.size 31 2 (.slice a0 N c0) R.length (kysC R)) := own_mkd HZ8.out M9 (fun b e x hx e2 => by have := HX9.out x hx; have := (HO0.out.lt b e).2; omega)
  have HB9 : Hid (Below W0.heap.size W0 w9) := below_mkd HB8.out M9 (fun x hx => by have := HX9.out x hx; omega)
  have C9 : Hid (Calls Tryz.prog 10 #[.slice a1 N c1, .slice a0 N c0] w9 fun e w' => e = .returned (.bool true) ∧ Below w9.heap.size w9 w') := e_keys w9 HA9.out HZ9.out (by have := HRL.out; omega)
  clear M9 CM
  go_wp2_with fail
  refine C9.out.mono ?_
  rintro e w10 ⟨rfl, b10⟩
  have HA10 : Hid (w10.ownsRow w4.heap.size 31 2 (.slice a1 N c1) R.length (kysC R)) := ownR_below HA9.out b10
  have HZ10 : Hid (w10.ownsRow W0.heap.size 31 2 (.slice a0 N c0) R.length (kysC R)) := ownR_below HZ9.out b10
  have HB10 : Hid (Below W0.heap.size W0 w10) := HB9.out.trans (b10.mono HB9.out.size)
  obtain ⟨aa, g, cc, ev, hat, hlv, hlo⟩ := lv_keys HA10.out
  rw [← HN.out] at ev hat hlv hlo
  simp only [Value.slice.injEq, true_and] at ev
  obtain ⟨rfl, rfl⟩ := ev
  have hN8 : N ≤ 1001 := by rw [HN.out]; exact HRL.out
  have CM2 : Hid (Calls Tryz.prog 13 #[.slice a1 N c1, .int .i64 1] w10 fun e w' => e = .returned (.int .i64 ((1 + N * 2 : Nat) : Int)) ∧ Mkd w10 w' (lK ⟨a1, g, c1⟩ N) 1) := t_markKeys 1 ⟨a1, g, c1⟩ N 1 w10 rfl hat hlv (Nat.le_refl _) (by omega)
  obtain ⟨mm, hmm⟩ : ∃ mm : Nat, mm = 1 + N * 2 := ⟨_, rfl⟩
  rw [← hmm] at CM2
  have HM : Hid (mm = 1 + N * 2) := hmm
  have nm : ¬ (mm : Int) < 0 := by omega
  have HAT : Hid (0 < N → a1 = some ⟨g, 0, none⟩) := hat
  have HLO : Hid (∀ x, x ∈ lK ⟨a1, g, c1⟩ N → w4.heap.size ≤ x.1) := hlo
  clear hmm hat hlv hlo b10 C9
  go_wp2_with fail
  refine CM2.out.mono ?_
  rintro e w11 ⟨rfl, M11⟩
  have CH : Hid (Calls Tryz.prog 14 #[.slice a1 N c1, .int .i64 1] w11 fun e w' => e = .returned (.int .i64 ((1 + N * 2 : Nat) : Int)) ∧ Below w11.heap.size w11 w') := t_heldKeys 1 ⟨a1, g, c1⟩ N 1 w11 rfl HAT.out M11.at_ (Nat.le_refl _) (by omega)
  rw [← HM.out] at CH
  have HB11 : Hid (Below W0.heap.size W0 w11) := below_mkd HB10.out M11 (fun x hx => by have := HLO.out x hx; have := HB4.out.size; omega)
  have HZ11 : Hid (w11.ownsRow W0.heap.size 31 2 (.slice a0 N c0) R.length (kysC R)) := own_mkd HZ10.out M11 (fun b e x hx e2 => by have := HLO.out x hx; have := (HO0.out.lt b e).2; omega)
  clear M11 CM2
  go_wp2_with fail
  refine CH.out.mono ?_
  rintro e w12 ⟨rfl, b12⟩
  have B12 : Below W0.heap.size W0 w12 := HB11.out.trans (b12.mono HB11.out.size)
  have HZ12 : Hid (w12.ownsRow W0.heap.size 31 2 (.slice a0 N c0) R.length (kysC R)) := ownR_below HZ11.out b12
  clear b12 CH
  go_wp2_with fail
  go_cut [12] (fun s6 wd => ∃ (a9 : Option Addr) (c9 : Nat), s6 = .slice a9 N c9 ∧ Hid (Below w12.heap.size w12 wd) ∧ Hid (wd.ownsRow w12.heap.size 31 2 (.slice a9 N c9) R.length (kysC R)))
  case first =>
    refine wp_region_held_drew (S := fun W => W.cell? ⟨w.heap.size, 0, none⟩ = some (.int .i64 k) ∧ W.cell? ⟨w.heap.size, 1, none⟩ = some (.string m)) (by kernel_rfl) (HKC.out _ B12.drew) (fun hHeld => ?_)
    refine wpAnyH_take (i := 0) (oi := ⟨some 65, _, _, _, _, _⟩) (v := ?_) rfl (by kernel_rfl) (by kernel_rfl) (by kernel_rfl) (fun _ _ _ h => h) (Or.inl ⟨by kernel_rfl, ?_⟩) (by assumption) ?_
    rotate_left
    · (intro wS hSw; (try dsimp only at hSw); (go_simp <;> with_reducible rfl))
    (try simp only [Act.put]); (try simp only [List.setIfInBounds_toArray]); (try simp only [List.set_cons_succ]); (try simp only [List.set_cons_zero])
    refine wpAnyH_take (i := 2) (oi := ⟨some 67, _, _, _, _, _⟩) (v := ?_) rfl (by kernel_rfl) (by kernel_rfl) (by kernel_rfl) (fun _ _ _ h => h) (Or.inl ⟨by kernel_rfl, ?_⟩) (by assumption) ?_
    rotate_left
    · (intro wS hSw; (try dsimp only at hSw); (go_simp <;> with_reducible rfl))
    (try simp only [Act.put]); (try simp only [List.setIfInBounds_toArray]); (try simp only [List.set_cons_succ]); (try simp only [List.set_cons_zero])
    refine wpAnyH_ready (rs := [1]) (by kernel_rfl) (by simp) ?_
    refine AllReadyH.cons rfl (fun K hK => ?_) AllReadyH.nil
    go_simp
    go_wp2_with (first | (go_at_call 7; refine (HTO.out _ B12.drew).mono ?_; rintro e wA ⟨rfl, hSwA, bwA, _, _⟩))
    have DwA : Below w12.heap.size w12 wA := (Below.refl _ _).drew.trans bwA
    have BwA : Below W0.heap.size W0 wA := B12.trans (DwA.mono B12.size)
    refine hK.out _ _ (HKC.out _ BwA) (fun hHeld2 => ?_)
    clear hK K
    refine wpAnyH_ready (rs := [3]) (by kernel_rfl) (by simp) ?_
    refine AllReadyH.cons rfl (fun K hK => ?_) AllReadyH.nil
    go_simp
    go_wp2_with (first | (go_at_call 8; refine (t_key k m _).mono ?_; rintro e wB ⟨rfl, bwB⟩))
    have DwB : Below w12.heap.size w12 wB := DwA.trans (bwB.mono DwA.size)
    have BwB : Below W0.heap.size W0 wB := B12.trans (DwB.mono B12.size)
    refine hK.out _ _ (HKC.out _ BwB) (fun hHeld2 => ?_)
    clear hK K
    have hS := hSwA.below bwB
    clear hSwA bwA bwB
    refine wpAnyH_ready (rs := [4]) (by kernel_rfl) (by simp) ?_
    refine AllReadyH.cons rfl (fun K hK => ?_) AllReadyH.nil
    go_simp
    go_wp2_with (first | (go_at_call 9; refine (HIM.out wB _ BwB hS).mono ?_; rintro e wC ⟨bC, v9, rfl, hO9⟩))
    have DwC : Below w12.heap.size w12 wC := DwB.trans (bC.mono DwB.size)
    have BwC : Below W0.heap.size W0 wC := B12.trans (DwC.mono B12.size)
    have HOC : Hid (wC.ownsRow w12.heap.size 31 2 v9 R.length (kysC R)) := own_mono hO9 DwB.size
    obtain ⟨a9, c9, hv9⟩ := own_form hO9
    rw [← HN.out] at hv9
    subst hv9
    refine hK.out _ _ (HKC.out _ BwC) (fun hHeld2 => ?_)
    clear hK K
    refine wpAnyH_ready (rs := [5]) (by kernel_rfl) (by simp) ?_
    refine AllReadyH.cons rfl (fun K hK => ?_) AllReadyH.nil
    go_simp
    refine hK.out _ _ (HKC.out _ BwC) (fun hHeld2 => ?_)
    clear hK K
    refine wpAnyH_done (by kernel_rfl) ?_ _
    have HBC : Hid (Below w12.heap.size w12 wC) := DwC
    clear hO9 bC BwA BwB BwC DwA DwB DwC hS
    go_wp2
    go_meet
    case rel => exact ⟨a9, c9, rfl, HBC, HOC⟩
  rename World => wd
  obtain ⟨a2, c2, rfl, HB14, HO2⟩ := hcut
  have HZ14 : Hid (wd.ownsRow W0.heap.size 31 2 (.slice a0 N c0) R.length (kysC R)) := ownR_below HZ12.out HB14.out
  have HF14 : Hid (Below W0.heap.size W0 wd) := B12.trans (HB14.out.mono B12.size)
  have C14 : Hid (Calls Tryz.prog 10 #[.slice a2 N c2, .slice a0 N c0] wd fun e w' => e = .returned (.bool true) ∧ Below wd.heap.size wd w') := e_keys wd HO2.out HZ14.out (by have := HRL.out; omega)
  clear B12
  go_wp2_with fail
  refine C14.out.mono ?_
  rintro e w15 ⟨rfl, b15⟩
  have HF : Hid (Below w.heap.size w w15) := HB0.out _ (HF14.out.trans (b15.mono HF14.out.size))
  clear b15 C14
  go_wp2
  go_ret
  exact ⟨rfl, HF.out⟩

end Go.Proofs.YtdjkgilohhjfoaaGreatDoor

namespace Go.Proofs.YtdjkgilohhjfoaaGreatDoor
open Go.ChangeShapes Go.WideShapes Go.ChangeAt Go.RowKit Go.Deep

theorem Tryz.cells9 : Tryz.prog.cellsOf 9 = 1 := by kernel_rfl
theorem Tryz.cells40 : Tryz.prog.cellsOf 40 = 2 := by kernel_rfl

theorem addr_plain {w : World} {a : Addr} {v : Value} (h : w.cell? (a.add 0) = some v) : a = ⟨a.block, a.off, none⟩ := by
  obtain ⟨b, o, s⟩ := a
  have hs : s = none := by simpa [Addr.add] using World.cell?_spot h
  subst hs; rfl

theorem addr_at {w : World} {a : Addr} {v : Value} {i : Nat} (hp : a = ⟨a.block, a.off, none⟩) (h : w.cell? (a.add i) = some v) : w.cell? ⟨a.block, a.off + i, none⟩ = some v := by
  rw [hp, add_plain] at h; exact h

section
variable {H : Type} {enc : TypeId × Value → H} {W : World} {held : Bool}

set_option maxRecDepth 4000 in
theorem src_open {fuel : Nat} {cs : List Value} {x : DataW H × List MemPlace} (h : DataW.trod enc Tryz.prog W 0 (fun _ => true) held fuel 40 cs = some x) :
    ∃ y : ByteArray × ByteArray, cs = [.string y.1, .string y.2] ∧ y.1.size ≤ maxLen ∧ y.2.size ≤ maxLen := by
  obtain ⟨y0, y1, n, _, hlen, h0, h1⟩ := trod_struct2 Tryz.underlying40 h
  rw [Tryz.cells40] at hlen
  match cs, hlen with
  | [v0, v1], _ =>
    simp only [Tryz.cells9, List.drop_zero, List.drop_succ_cons, List.take_succ_cons, List.take_zero] at h0 h1
    obtain ⟨s, hs, hsz⟩ := DataW.trod_string Tryz.underlying9 h0
    obtain ⟨t, ht, htz⟩ := DataW.trod_string Tryz.underlying9 h1
    simp only [List.cons.injEq, and_true] at hs ht
    subst hs ht
    exact ⟨(s, t), rfl, hsz.2, htz.2⟩

theorem srcs_open {fuel : Nat} {cs : List Value} {x : DataW H × List MemPlace} (h : DataW.trod enc Tryz.prog W 0 (fun _ => true) held fuel 22 cs = some x) :
    ∃ ao b o n c S T, cs = [.slice ao n c] ∧ SrcsAt W ao b o n S T := by
  rcases open_slice Tryz.underlying22 h with ⟨rfl, _⟩ | ⟨a, len, cap, m, n, D, Pl, rfl, _, hl, hm, hmm, _, hx⟩
  · exact ⟨none, 0, 0, 0, 0, fun _ => ByteArray.empty, fun _ => ByteArray.empty, rfl, ⟨fun h => absurd h (Nat.lt_irrefl _), fun i h => absurd h (Nat.not_lt_zero _), fun i h => absurd h (Nat.not_lt_zero _), fun i h => absurd h (Nat.not_lt_zero _), fun i h => absurd h (Nat.not_lt_zero _), by omega⟩⟩
  · simp only [if_true] at hmm
    subst hmm
    rw [Tryz.cells40] at hx
    have each : ∀ i, i < m → ∃ y : ByteArray × ByteArray, (W.cell? (a.add (i * 2)) = some (.string y.1) ∧ W.cell? (a.add (i * 2 + 1)) = some (.string y.2)) ∧ y.1.size ≤ maxLen ∧ y.2.size ≤ maxLen := by
      intro i hi
      obtain ⟨cs', h1, h2⟩ := hx i hi
      obtain ⟨y, rfl, hy⟩ := src_open h2
      obtain ⟨_, _, hc⟩ := World.cells?_some h1
      have e0 := hc 0 (by omega)
      have e1 := hc 1 (by omega)
      rw [add_add] at e0 e1
      exact ⟨y, ⟨e0, e1⟩, hy⟩
    obtain ⟨y, hy⟩ := choose_lt each
    unfold maxLen at hm hy
    have hp : 0 < len → a = ⟨a.block, a.off, none⟩ := fun hp => by
      have := (hy 0 (by omega)).1.1
      rw [Nat.zero_mul] at this
      exact addr_plain this
    refine ⟨some a, a.block, a.off, len, m, fun i => (y i).1, fun i => (y i).2, rfl, ⟨fun h => congrArg some (hp h), fun i hi => addr_at (hp (by omega)) (hy i (by omega)).1.1, fun i hi => ?_, fun i hi => ?_, fun i hi => ?_, by omega⟩⟩
    · have := addr_at (hp (by omega)) (hy i (by omega)).1.2
      rw [Nat.add_assoc]; exact this
    · have := (hy i (by omega)).2.1; omega
    · have := (hy i (by omega)).2.2; omega

end
end Go.Proofs.YtdjkgilohhjfoaaGreatDoor

