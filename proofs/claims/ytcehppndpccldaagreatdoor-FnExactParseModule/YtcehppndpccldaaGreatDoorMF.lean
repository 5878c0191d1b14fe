/-
  Merged for the claim: PhI PhJ PhK PhL.
-/
import Derived.Test.YtcehppndpccldaaGreatDoorME
namespace Go.Proofs.YtcehppndpccldaaGreatDoor
open Go.RowKit

set_option maxRecDepth 100000 in
set_option maxHeartbeats 4000000 in
theorem t_heldTs (z : Int) (a : Option Addr) (c b : Nat) (xs : List (TI × NPl)) (x : Nat) (w : World) (hz : z = (x : Int)) (ha : 0 < xs.length → a = some ⟨b, 0, none⟩) (hat : ∀ y, y ∈ xs → AtT y) (hh : HH w (hTs b 0 xs)) (hm : Hm w (lTs b 0 xs) x) (hx1 : 1 ≤ x) (hx2 : x + (lTs b 0 xs).length ≤ 2305843009213693952) (hlen : xs.length ≤ 1000000) :
    Calls Tryz.prog 57 #[.slice a xs.length c, .int .i64 z] w fun e w' => e = .returned (.int .i64 ((x + (lTs b 0 xs).length : Nat) : Int)) ∧ Below w.heap.size w w' := by
  subst hz
  have HA : Hid (0 < xs.length → a = some ⟨b, 0, none⟩) := ha
  have HAT : Hid (∀ y, y ∈ xs → AtT y) := hat
  have HHH : Hid (∀ W, Below w.heap.size w W → HH W (hTs b 0 xs)) := fun W hb => hh.below hb
  have HMM : Hid (∀ W, Below w.heap.size w W → Hm W (lTs b 0 xs) x) := fun W hb => hm.below hb
  have HX2 : Hid (x + (lTs b 0 xs).length ≤ 2305843009213693952) := hx2
  have HX1 : Hid (1 ≤ x) := hx1
  clear ha hat hh hm hx1 hx2
  go_enter Tryz.func57, Tryz.ntmps57
  go_wp2
  go_loopw [1, 5] (fun y i wr => ∃ k : Nat, k ≤ xs.length ∧ i = .int .i64 k ∧ y = .int .i64 ((x + (lTs b 0 (xs.take k)).length : Nat) : Int) ∧ Below w.heap.size w wr) (fun _ i _ => xs.length - (intOf i).toNat)
  case atStart => exact ⟨0, Nat.zero_le _, rfl, by simp [lTs], Below.refl _ _⟩
  case round =>
    obtain ⟨k, hk, rfl, rfl, hb⟩ := hrel
    by_cases hlt : k < xs.length
    · have e1 := HA.out (by omega)
      subst e1
      obtain ⟨s1, s2⟩ := lTs_at b hlt
      obtain ⟨X, hX⟩ : ∃ X, X = xs[k] := ⟨_, rfl⟩
      have HXM : Hid (X ∈ xs) := by rw [hX]; exact List.getElem_mem hlt
      have HHM : Hid (∀ c, c ∈ hT b k X → c ∈ hTs b 0 xs) := fun c hc => mem_hTs b xs 0 k hlt c (by rw [Nat.zero_add, ← hX]; exact hc)
      rw [← hX] at s1 s2
      obtain ⟨A, hA⟩ : ∃ A, A = lTs b 0 (xs.take k) := ⟨_, rfl⟩
      rw [← hA] at s1 s2 ⊢
      have HS1 : Hid (lTs b 0 (xs.take (k + 1)) = A ++ lT b k X) := s1
      obtain ⟨y, hy⟩ : ∃ y : Nat, y = x + A.length := ⟨_, rfl⟩
      have HY : Hid (y = x + A.length) := hy
      have hy1 : 1 ≤ y := by have := HX1.out; omega
      have hyT : y + (lT b k X).length ≤ 2305843009213693952 := by
        have := HX2.out
        rw [s2, List.length_append, List.length_append] at this
        omega
      have HYT : Hid (y + (lT b k X).length ≤ 2305843009213693952) := hyT
      have hlL : 3 ≤ (lT b k X).length := by unfold lT; simp
      have hy2 : y + 3 ≤ 2305843009213693952 := by omega
      rw [← hy]
      have hat := HAT.out X HXM.out
      have HATX : Hid (AtT X) := hat
      have HC : Hid (∀ W, Below w.heap.size w W → (W.cell? ⟨b, k * 4, none⟩ = some (.int .i64 (y : Int)) ∧ W.cell? ⟨b, k * 4 + 1, none⟩ = some (.string (mt (y + 1))) ∧ W.cell? ⟨b, k * 4 + 2, none⟩ = some (.string (mt (y + 2)))) ∧ (W.cell? ⟨b, k * 4 + 3, none⟩ = some (.slice X.2.a X.1.ns.length X.2.c)) ∧ Hm W (lN X.2 X.1.ns.length) (y + 3)) := fun W hW => by
        have hm := HMM.out W hW
        rw [s2, Hm.app, Hm.app, ← hy] at hm
        have hL := hm.2.1
        unfold lT at hL
        have hh := HHH.out W hW
        obtain ⟨c0, hL⟩ := hL
        obtain ⟨c1, hL⟩ := hL
        obtain ⟨c2, hL⟩ := hL
        refine ⟨⟨c0, c1, c2⟩, ?_, hL⟩
        · have := hh (b, k * 4 + 3, .slice X.2.a X.1.ns.length X.2.c) (HHM.out _ (by unfold hT; simp))
          exact this
      clear hX hA s1 s2 hy hyT hlL
      obtain ⟨⟨g0, g1, g2⟩, gh0, -⟩ := HC.out wr hb
      have CM1 : Hid (∀ (W : World) (z : Int), Below w.heap.size w W → z = ((y + 1 : Nat) : Int) → Calls Tryz.prog 54 #[.int .i64 z] W fun e w' => e = .returned (.string (mt (y + 1))) ∧ Below w.heap.size w w' ∧ w'.cell? ⟨b, k * 4 + 1, none⟩ = some (.string (mt (y + 1)))) := fun W z hW hz => (t_markText z (y + 1) W hz (by omega) (by omega)).mono (fun e w' h => ⟨h.1, hW.trans (h.2.mono hW.size), (HC.out w' (hW.trans (h.2.mono hW.size))).1.2.1⟩)
      go_wp2
      go_region_held3 (fun w' => w'.cell? ⟨b, k * 4 + 1, none⟩ = some (.string (mt (y + 1)))) (first | go_keep | assumption) ((go_at_call 54; (with_reducible refine (CM1.out wr.drew _ hb.drew (by omega)).mono ?_); rintro e w1 ⟨rfl, B1, r1⟩))
      clear CM1 g0 g1 g2 gh0 r1
      obtain ⟨⟨tb0, tb1, tb2⟩, tbh0, -⟩ := HC.out w1 B1
      have CM2 : Hid (∀ (W : World) (z : Int), Below w.heap.size w W → z = ((y + 2 : Nat) : Int) → Calls Tryz.prog 54 #[.int .i64 z] W fun e w' => e = .returned (.string (mt (y + 2))) ∧ Below w.heap.size w w' ∧ w'.cell? ⟨b, k * 4 + 2, none⟩ = some (.string (mt (y + 2)))) := fun W z hW hz => (t_markText z (y + 2) W hz (by omega) (by omega)).mono (fun e w' h => ⟨h.1, hW.trans (h.2.mono hW.size), (HC.out w' (hW.trans (h.2.mono hW.size))).1.2.2⟩)
      go_wp2
      go_region_held3 (fun w' => w'.cell? ⟨b, k * 4 + 2, none⟩ = some (.string (mt (y + 2)))) (first | go_keep | assumption) ((go_at_call 54; (with_reducible refine (CM2.out w1.drew _ B1.drew (by omega)).mono ?_); rintro e w2 ⟨rfl, B2, r2⟩))
      clear CM2 tb0 tb1 tb2 tbh0 r2
      obtain ⟨⟨gc0, gc1, gc2⟩, gch0, -⟩ := HC.out w2 B2
      have HM0 := (HC.out w2 B2).2.2
      have HHM0 : Hid (Hm w2 (lN X.2 X.1.ns.length) (y + 3)) := HM0
      have HHH0 : Hid (HH w2 (hTs b 0 xs)) := HHH.out w2 B2
      have HB0 : Hid (Below w.heap.size w w2) := B2
      clear HM0
      go_wp2_with fail
      refine (t_heldNames _ X.2 X.1.ns.length (y + 3) _ (by omega) HATX.out HHM0.out (by omega) (by have := HYT.out; unfold lT at this; simp only [List.length_cons, lN_len] at this; omega)).mono ?_
      rintro e u0 ⟨rfl, L0⟩
      have U0 : Below w.heap.size w u0 := HB0.out.trans (L0.mono HB0.out.size)
      obtain ⟨y0, hy0⟩ : ∃ y0 : Nat, y0 = y + 3 + X.1.ns.length := ⟨_, rfl⟩
      have HY0 : Hid (y0 = y + 3 + X.1.ns.length) := hy0
      rw [← hy0]
      have ny0 : ¬ (y0 : Int) < 0 := by omega
      have py0 : 1 ≤ y0 := by omega
      have by0 : y0 ≤ 2305843009213693952 := by
        have := HYT.out
        unfold lT at this
        simp only [List.length_cons, lN_len] at this
        skip
        omega
      clear hy0 L0 HHM0 HHH0 gc0 gc1 gc2 gch0
      have HLN : Hid (x + (lTs b 0 (xs.take (k + 1))).length = y0) := by
        show _ = _
        rw [HS1.out, List.length_append]
        unfold lT
        simp only [List.length_cons, lN_len]
        have := HY.out
        have := HY0.out
        skip
        omega
      go_wp2
      go_roundw
      case rel => exact ⟨k + 1, by omega, by go_num, by rw [HLN.out], U0⟩
      case measure => simp [intOf]; omega
    · have hkn : k = xs.length := by omega
      subst hkn
      rw [List.take_length]
      go_wp2
      go_ret
      exact ⟨rfl, hb⟩


end Go.Proofs.YtcehppndpccldaaGreatDoor

namespace Go.Proofs.YtcehppndpccldaaGreatDoor
open Go.RowKit

set_option maxRecDepth 100000 in
set_option maxHeartbeats 4000000 in
theorem t_heldEs (z : Int) (a : Option Addr) (c b : Nat) (xs : List (EI × EPl)) (x : Nat) (w : World) (hz : z = (x : Int)) (ha : 0 < xs.length → a = some ⟨b, 0, none⟩) (hat : ∀ y, y ∈ xs → AtE y) (hh : HH w (hEs b 0 xs)) (hm : Hm w (lEs b 0 xs) x) (hx1 : 1 ≤ x) (hx2 : x + (lEs b 0 xs).length ≤ 2305843009213693952) (hlen : xs.length ≤ 1000000) :
    Calls Tryz.prog 58 #[.slice a xs.length c, .int .i64 z] w fun e w' => e = .returned (.int .i64 ((x + (lEs b 0 xs).length : Nat) : Int)) ∧ Below w.heap.size w w' := by
  subst hz
  have HA : Hid (0 < xs.length → a = some ⟨b, 0, none⟩) := ha
  have HAT : Hid (∀ y, y ∈ xs → AtE y) := hat
  have HHH : Hid (∀ W, Below w.heap.size w W → HH W (hEs b 0 xs)) := fun W hb => hh.below hb
  have HMM : Hid (∀ W, Below w.heap.size w W → Hm W (lEs b 0 xs) x) := fun W hb => hm.below hb
  have HX2 : Hid (x + (lEs b 0 xs).length ≤ 2305843009213693952) := hx2
  have HX1 : Hid (1 ≤ x) := hx1
  clear ha hat hh hm hx1 hx2
  go_enter Tryz.func58, Tryz.ntmps58
  go_wp2
  go_loopw [1, 5] (fun y i wr => ∃ k : Nat, k ≤ xs.length ∧ i = .int .i64 k ∧ y = .int .i64 ((x + (lEs b 0 (xs.take k)).length : Nat) : Int) ∧ Below w.heap.size w wr) (fun _ i _ => xs.length - (intOf i).toNat)
  case atStart => exact ⟨0, Nat.zero_le _, rfl, by simp [lEs], Below.refl _ _⟩
  case round =>
    obtain ⟨k, hk, rfl, rfl, hb⟩ := hrel
    by_cases hlt : k < xs.length
    · have e1 := HA.out (by omega)
      subst e1
      obtain ⟨s1, s2⟩ := lEs_at b hlt
      obtain ⟨X, hX⟩ : ∃ X, X = xs[k] := ⟨_, rfl⟩
      have HXM : Hid (X ∈ xs) := by rw [hX]; exact List.getElem_mem hlt
      have HHM : Hid (∀ c, c ∈ hE b k X → c ∈ hEs b 0 xs) := fun c hc => mem_hEs b xs 0 k hlt c (by rw [Nat.zero_add, ← hX]; exact hc)
      rw [← hX] at s1 s2
      obtain ⟨A, hA⟩ : ∃ A, A = lEs b 0 (xs.take k) := ⟨_, rfl⟩
      rw [← hA] at s1 s2 ⊢
      have HS1 : Hid (lEs b 0 (xs.take (k + 1)) = A ++ lE b k X) := s1
      obtain ⟨y, hy⟩ : ∃ y : Nat, y = x + A.length := ⟨_, rfl⟩
      have HY : Hid (y = x + A.length) := hy
      have hy1 : 1 ≤ y := by have := HX1.out; omega
      have hyT : y + (lE b k X).length ≤ 2305843009213693952 := by
        have := HX2.out
        rw [s2, List.length_append, List.length_append] at this
        omega
      have HYT : Hid (y + (lE b k X).length ≤ 2305843009213693952) := hyT
      have hlL : 4 ≤ (lE b k X).length := by unfold lE; simp
      have hy2 : y + 4 ≤ 2305843009213693952 := by omega
      rw [← hy]
      have hat := HAT.out X HXM.out
      have HATX : Hid (AtE X) := hat
      obtain ⟨ta, tc, htvta, htata, hatsta, hzlta⟩ := hat.2
      have HtaV : Hid (X.2.tv = .slice ta X.2.zs.length tc) := htvta
      have HtaA : Hid (0 < X.2.zs.length → ta = some ⟨vb X.2.tv, 0, none⟩) := htata
      have HtaS : Hid (∀ u, u ∈ X.2.zs → AtT u) := hatsta
      have HtaL : Hid (X.2.zs.length ≤ 1000000) := hzlta
      clear htvta htata hatsta hzlta
      clear hat
      have HC : Hid (∀ W, Below w.heap.size w W → (W.cell? ⟨b, k * 6, none⟩ = some (.int .i64 (y : Int)) ∧ W.cell? ⟨b, k * 6 + 1, none⟩ = some (.int .i64 ((y : Int) + 1)) ∧ W.cell? ⟨b, k * 6 + 2, none⟩ = some (.string (mt (y + 2))) ∧ W.cell? ⟨b, k * 6 + 3, none⟩ = some (.string (mt (y + 3)))) ∧ (W.cell? ⟨b, k * 6 + 4, none⟩ = some (.slice X.2.np.a X.1.ns.length X.2.np.c) ∧ W.cell? ⟨b, k * 6 + 5, none⟩ = some (.slice ta X.2.zs.length tc)) ∧ Hm W (lN X.2.np X.1.ns.length) (y + 4) ∧ Hm W (lTs (vb X.2.tv) 0 X.2.zs) (y + 4 + X.1.ns.length)) := fun W hW => by
        have hm := HMM.out W hW
        rw [s2, Hm.app, Hm.app, ← hy] at hm
        have hL := hm.2.1
        unfold lE at hL
        have hh := HHH.out W hW
        obtain ⟨c0, hL⟩ := hL
        obtain ⟨c1, hL⟩ := hL
        obtain ⟨c2, hL⟩ := hL
        obtain ⟨c3, hL⟩ := hL
        rw [Hm.app] at hL
        refine ⟨⟨c0, c1, c2, c3⟩, ⟨?_, ?_⟩, ?_, ?_⟩
        · have := hh (b, k * 6 + 4, .slice X.2.np.a X.1.ns.length X.2.np.c) (HHM.out _ (by unfold hE; simp))
          exact this
        · have := hh (b, k * 6 + 5, X.2.tv) (HHM.out _ (by unfold hE; simp))
          rw [HtaV.out] at this
          exact this
        · exact hL.1
        · have := hL.2
          rw [lN_len] at this
          exact this
      clear hX hA s1 s2 hy hyT hlL
      obtain ⟨⟨g0, g1, g2, g3⟩, ⟨gh0, gh1⟩, -⟩ := HC.out wr hb
      have CM2 : Hid (∀ (W : World) (z : Int), Below w.heap.size w W → z = ((y + 2 : Nat) : Int) → Calls Tryz.prog 54 #[.int .i64 z] W fun e w' => e = .returned (.string (mt (y + 2))) ∧ Below w.heap.size w w' ∧ w'.cell? ⟨b, k * 6 + 2, none⟩ = some (.string (mt (y + 2)))) := fun W z hW hz => (t_markText z (y + 2) W hz (by omega) (by omega)).mono (fun e w' h => ⟨h.1, hW.trans (h.2.mono hW.size), (HC.out w' (hW.trans (h.2.mono hW.size))).1.2.2.1⟩)
      go_wp2
      go_region_held3 (fun w' => w'.cell? ⟨b, k * 6 + 2, none⟩ = some (.string (mt (y + 2)))) (first | go_keep | assumption) ((go_at_call 54; (with_reducible refine (CM2.out wr.drew _ hb.drew (by omega)).mono ?_); rintro e w2 ⟨rfl, B2, r2⟩))
      clear CM2 g0 g1 g2 g3 gh0 gh1 r2
      obtain ⟨⟨gc0, gc1, gc2, gc3⟩, ⟨gch0, gch1⟩, -⟩ := HC.out w2 B2
      have CM3 : Hid (∀ (W : World) (z : Int), Below w.heap.size w W → z = ((y + 3 : Nat) : Int) → Calls Tryz.prog 54 #[.int .i64 z] W fun e w' => e = .returned (.string (mt (y + 3))) ∧ Below w.heap.size w w' ∧ w'.cell? ⟨b, k * 6 + 3, none⟩ = some (.string (mt (y + 3)))) := fun W z hW hz => (t_markText z (y + 3) W hz (by omega) (by omega)).mono (fun e w' h => ⟨h.1, hW.trans (h.2.mono hW.size), (HC.out w' (hW.trans (h.2.mono hW.size))).1.2.2.2⟩)
      go_wp2
      go_region_held3 (fun w' => w'.cell? ⟨b, k * 6 + 3, none⟩ = some (.string (mt (y + 3)))) (first | go_keep | assumption) ((go_at_call 54; (with_reducible refine (CM3.out w2.drew _ B2.drew (by omega)).mono ?_); rintro e w3 ⟨rfl, B3, r3⟩))
      clear CM3 gc0 gc1 gc2 gc3 gch0 gch1 r3
      obtain ⟨⟨td0, td1, td2, td3⟩, ⟨tdh0, tdh1⟩, -⟩ := HC.out w3 B3
      have HM0 := (HC.out w3 B3).2.2.1
      have HHM0 : Hid (Hm w3 (lN X.2.np X.1.ns.length) (y + 4)) := HM0
      have HHH0 : Hid (HH w3 (hEs b 0 xs)) := HHH.out w3 B3
      have HB0 : Hid (Below w.heap.size w w3) := B3
      clear HM0
      go_wp2_with fail
      refine (t_heldNames _ X.2.np X.1.ns.length (y + 4) _ (by omega) HATX.out.1 HHM0.out (by omega) (by have := HYT.out; unfold lE at this; simp only [List.length_cons, List.length_append, lN_len] at this; omega)).mono ?_
      rintro e u0 ⟨rfl, L0⟩
      have U0 : Below w.heap.size w u0 := HB0.out.trans (L0.mono HB0.out.size)
      obtain ⟨y0, hy0⟩ : ∃ y0 : Nat, y0 = y + 4 + X.1.ns.length := ⟨_, rfl⟩
      have HY0 : Hid (y0 = y + 4 + X.1.ns.length) := hy0
      rw [← hy0]
      have ny0 : ¬ (y0 : Int) < 0 := by omega
      have py0 : 1 ≤ y0 := by omega
      have by0 : y0 ≤ 2305843009213693952 := by
        have := HYT.out
        unfold lE at this
        simp only [List.length_cons, List.length_append, lN_len] at this
        skip
        omega
      clear hy0 L0 HHM0 HHH0 td0 td1 td2 td3 tdh0 tdh1
      obtain ⟨⟨p0, p1, p2, p3⟩, ⟨ph0, ph1⟩, -⟩ := HC.out u0 U0
      have HM1 := (HC.out u0 U0).2.2.2
      have HHM1 : Hid (Hm u0 (lTs (vb X.2.tv) 0 X.2.zs) (y + 4 + X.1.ns.length)) := HM1
      have HHH1 : Hid (HH u0 (hEs b 0 xs)) := HHH.out u0 U0
      have HB1 : Hid (Below w.heap.size w u0) := U0
      clear HM1
      go_wp2_with fail
      refine (t_heldTs _ ta tc (vb X.2.tv) X.2.zs (y0) _ (by omega) HtaA.out HtaS.out (fun c hc => HHH1.out c (HHM.out c (by unfold hE; simp [hc]))) (by rw [HY0.out]; exact HHM1.out) (by omega) (by have := HYT.out; unfold lE at this; simp only [List.length_cons, List.length_append, lN_len] at this; have := HY0.out; omega) HtaL.out).mono ?_
      rintro e u1 ⟨rfl, L1⟩
      have U1 : Below w.heap.size w u1 := HB1.out.trans (L1.mono HB1.out.size)
      obtain ⟨y1, hy1⟩ : ∃ y1 : Nat, y1 = y0 + (lTs (vb X.2.tv) 0 X.2.zs).length := ⟨_, rfl⟩
      have HY1 : Hid (y1 = y0 + (lTs (vb X.2.tv) 0 X.2.zs).length) := hy1
      rw [← hy1]
      have ny1 : ¬ (y1 : Int) < 0 := by omega
      have py1 : 1 ≤ y1 := by omega
      have by1 : y1 ≤ 2305843009213693952 := by
        have := HYT.out
        unfold lE at this
        simp only [List.length_cons, List.length_append, lN_len] at this
        have := HY0.out
        omega
      clear hy1 L1 HHM1 HHH1 p0 p1 p2 p3 ph0 ph1
      have HLN : Hid (x + (lEs b 0 (xs.take (k + 1))).length = y1) := by
        show _ = _
        rw [HS1.out, List.length_append]
        unfold lE
        simp only [List.length_cons, List.length_append, lN_len]
        have := HY.out
        have := HY0.out
        have := HY1.out
        omega
      go_wp2
      go_roundw
      case rel => exact ⟨k + 1, by omega, by go_num, by rw [HLN.out], U1⟩
      case measure => simp [intOf]; omega
    · have hkn : k = xs.length := by omega
      subst hkn
      rw [List.take_length]
      go_wp2
      go_ret
      exact ⟨rfl, hb⟩


end Go.Proofs.YtcehppndpccldaaGreatDoor

namespace Go.Proofs.YtcehppndpccldaaGreatDoor
open Go.RowKit

set_option maxRecDepth 100000 in
set_option maxHeartbeats 4000000 in
theorem t_heldDs (z : Int) (a : Option Addr) (c b : Nat) (xs : List (DC × DPl)) (x : Nat) (w : World) (hz : z = (x : Int)) (ha : 0 < xs.length → a = some ⟨b, 0, none⟩) (hat : ∀ y, y ∈ xs → AtD y) (hh : HH w (hDs b 0 xs)) (hm : Hm w (lDs b 0 xs) x) (hx1 : 1 ≤ x) (hx2 : x + (lDs b 0 xs).length ≤ 2305843009213693952) (hlen : xs.length ≤ 1000000) :
    Calls Tryz.prog 30 #[.slice a xs.length c, .int .i64 z] w fun e w' => e = .returned (.int .i64 ((x + (lDs b 0 xs).length : Nat) : Int)) ∧ Below w.heap.size w w' := by
  subst hz
  have HA : Hid (0 < xs.length → a = some ⟨b, 0, none⟩) := ha
  have HAT : Hid (∀ y, y ∈ xs → AtD y) := hat
  have HHH : Hid (∀ W, Below w.heap.size w W → HH W (hDs b 0 xs)) := fun W hb => hh.below hb
  have HMM : Hid (∀ W, Below w.heap.size w W → Hm W (lDs b 0 xs) x) := fun W hb => hm.below hb
  have HX2 : Hid (x + (lDs b 0 xs).length ≤ 2305843009213693952) := hx2
  have HX1 : Hid (1 ≤ x) := hx1
  clear ha hat hh hm hx1 hx2
  go_enter Tryz.func30, Tryz.ntmps30
  go_wp2
  go_loopw [1, 5] (fun y i wr => ∃ k : Nat, k ≤ xs.length ∧ i = .int .i64 k ∧ y = .int .i64 ((x + (lDs b 0 (xs.take k)).length : Nat) : Int) ∧ Below w.heap.size w wr) (fun _ i _ => xs.length - (intOf i).toNat)
  case atStart => exact ⟨0, Nat.zero_le _, rfl, by simp [lDs], Below.refl _ _⟩
  case round =>
    obtain ⟨k, hk, rfl, rfl, hb⟩ := hrel
    by_cases hlt : k < xs.length
    · have e1 := HA.out (by omega)
      subst e1
      obtain ⟨s1, s2⟩ := lDs_at b hlt
      obtain ⟨X, hX⟩ : ∃ X, X = xs[k] := ⟨_, rfl⟩
      have HXM : Hid (X ∈ xs) := by rw [hX]; exact List.getElem_mem hlt
      have HHM : Hid (∀ c, c ∈ hD b k X → c ∈ hDs b 0 xs) := fun c hc => mem_hDs b xs 0 k hlt c (by rw [Nat.zero_add, ← hX]; exact hc)
      rw [← hX] at s1 s2
      obtain ⟨A, hA⟩ : ∃ A, A = lDs b 0 (xs.take k) := ⟨_, rfl⟩
      rw [← hA] at s1 s2 ⊢
      have HS1 : Hid (lDs b 0 (xs.take (k + 1)) = A ++ lD b k X) := s1
      obtain ⟨y, hy⟩ : ∃ y : Nat, y = x + A.length := ⟨_, rfl⟩
      have HY : Hid (y = x + A.length) := hy
      have hy1 : 1 ≤ y := by have := HX1.out; omega
      have hyT : y + (lD b k X).length ≤ 2305843009213693952 := by
        have := HX2.out
        rw [s2, List.length_append, List.length_append] at this
        omega
      have HYT : Hid (y + (lD b k X).length ≤ 2305843009213693952) := hyT
      have hlL : 2 ≤ (lD b k X).length := by unfold lD; simp
      have hy2 : y + 2 ≤ 2305843009213693952 := by omega
      rw [← hy]
      have hat := HAT.out X HXM.out
      have HATX : Hid (AtD X) := hat
      obtain ⟨ta, tc, htvta, htata, hatsta, hzlta⟩ := hat.1
      have HtaV : Hid (X.2.tv = .slice ta X.2.zs.length tc) := htvta
      have HtaA : Hid (0 < X.2.zs.length → ta = some ⟨vb X.2.tv, 0, none⟩) := htata
      have HtaS : Hid (∀ u, u ∈ X.2.zs → AtT u) := hatsta
      have HtaL : Hid (X.2.zs.length ≤ 1000000) := hzlta
      clear htvta htata hatsta hzlta
      obtain ⟨ea, ec, htvea, htaea, hatsea, hzlea⟩ := hat.2
      have HeaV : Hid (X.2.ev = .slice ea X.2.es.length ec) := htvea
      have HeaA : Hid (0 < X.2.es.length → ea = some ⟨vb X.2.ev, 0, none⟩) := htaea
      have HeaS : Hid (∀ u, u ∈ X.2.es → AtE u) := hatsea
      have HeaL : Hid (X.2.es.length ≤ 1000000) := hzlea
      clear htvea htaea hatsea hzlea
      clear hat
      have HC : Hid (∀ W, Below w.heap.size w W → (W.cell? ⟨b, k * 4, none⟩ = some (.int .i64 (y : Int)) ∧ W.cell? ⟨b, k * 4 + 1, none⟩ = some (.string (mt (y + 1)))) ∧ (W.cell? ⟨b, k * 4 + 2, none⟩ = some (.slice ta X.2.zs.length tc) ∧ W.cell? ⟨b, k * 4 + 3, none⟩ = some (.slice ea X.2.es.length ec)) ∧ Hm W (lTs (vb X.2.tv) 0 X.2.zs) (y + 2) ∧ Hm W (lEs (vb X.2.ev) 0 X.2.es) (y + 2 + (lTs (vb X.2.tv) 0 X.2.zs).length)) := fun W hW => by
        have hm := HMM.out W hW
        rw [s2, Hm.app, Hm.app, ← hy] at hm
        have hL := hm.2.1
        unfold lD at hL
        have hh := HHH.out W hW
        obtain ⟨c0, hL⟩ := hL
        obtain ⟨c1, hL⟩ := hL
        rw [Hm.app] at hL
        refine ⟨⟨c0, c1⟩, ⟨?_, ?_⟩, ?_, ?_⟩
        · have := hh (b, k * 4 + 2, X.2.tv) (HHM.out _ (by unfold hD; simp))
          rw [HtaV.out] at this
          exact this
        · have := hh (b, k * 4 + 3, X.2.ev) (HHM.out _ (by unfold hD; simp))
          rw [HeaV.out] at this
          exact this
        · exact hL.1
        · have := hL.2
          skip
          exact this
      clear hX hA s1 s2 hy hyT hlL
      obtain ⟨⟨g0, g1⟩, ⟨gh0, gh1⟩, -⟩ := HC.out wr hb
      have CM1 : Hid (∀ (W : World) (z : Int), Below w.heap.size w W → z = ((y + 1 : Nat) : Int) → Calls Tryz.prog 54 #[.int .i64 z] W fun e w' => e = .returned (.string (mt (y + 1))) ∧ Below w.heap.size w w' ∧ w'.cell? ⟨b, k * 4 + 1, none⟩ = some (.string (mt (y + 1)))) := fun W z hW hz => (t_markText z (y + 1) W hz (by omega) (by omega)).mono (fun e w' h => ⟨h.1, hW.trans (h.2.mono hW.size), (HC.out w' (hW.trans (h.2.mono hW.size))).1.2⟩)
      go_wp2
      go_region_held3 (fun w' => w'.cell? ⟨b, k * 4 + 1, none⟩ = some (.string (mt (y + 1)))) (first | go_keep | assumption) ((go_at_call 54; (with_reducible refine (CM1.out wr.drew _ hb.drew (by omega)).mono ?_); rintro e w1 ⟨rfl, B1, r1⟩))
      clear CM1 g0 g1 gh0 gh1 r1
      obtain ⟨⟨tb0, tb1⟩, ⟨tbh0, tbh1⟩, -⟩ := HC.out w1 B1
      have HM0 := (HC.out w1 B1).2.2.1
      have HHM0 : Hid (Hm w1 (lTs (vb X.2.tv) 0 X.2.zs) (y + 2)) := HM0
      have HHH0 : Hid (HH w1 (hDs b 0 xs)) := HHH.out w1 B1
      have HB0 : Hid (Below w.heap.size w w1) := B1
      clear HM0
      go_wp2_with fail
      refine (t_heldTs _ ta tc (vb X.2.tv) X.2.zs (y + 2) _ (by omega) HtaA.out HtaS.out (fun c hc => HHH0.out c (HHM.out c (by unfold hD; simp [hc]))) HHM0.out (by omega) (by have := HYT.out; unfold lD at this; simp only [List.length_cons, List.length_append] at this; omega) HtaL.out).mono ?_
      rintro e u0 ⟨rfl, L0⟩
      have U0 : Below w.heap.size w u0 := HB0.out.trans (L0.mono HB0.out.size)
      obtain ⟨y0, hy0⟩ : ∃ y0 : Nat, y0 = y + 2 + (lTs (vb X.2.tv) 0 X.2.zs).length := ⟨_, rfl⟩
      have HY0 : Hid (y0 = y + 2 + (lTs (vb X.2.tv) 0 X.2.zs).length) := hy0
      rw [← hy0]
      have ny0 : ¬ (y0 : Int) < 0 := by omega
      have py0 : 1 ≤ y0 := by omega
      have by0 : y0 ≤ 2305843009213693952 := by
        have := HYT.out
        unfold lD at this
        simp only [List.length_cons, List.length_append] at this
        skip
        omega
      clear hy0 L0 HHM0 HHH0 tb0 tb1 tbh0 tbh1
      obtain ⟨⟨p0, p1⟩, ⟨ph0, ph1⟩, -⟩ := HC.out u0 U0
      have HM1 := (HC.out u0 U0).2.2.2
      have HHM1 : Hid (Hm u0 (lEs (vb X.2.ev) 0 X.2.es) (y + 2 + (lTs (vb X.2.tv) 0 X.2.zs).length)) := HM1
      have HHH1 : Hid (HH u0 (hDs b 0 xs)) := HHH.out u0 U0
      have HB1 : Hid (Below w.heap.size w u0) := U0
      clear HM1
      go_wp2_with fail
      refine (t_heldEs _ ea ec (vb X.2.ev) X.2.es (y0) _ (by omega) HeaA.out HeaS.out (fun c hc => HHH1.out c (HHM.out c (by unfold hD; simp [hc]))) (by rw [HY0.out]; exact HHM1.out) (by omega) (by have := HYT.out; unfold lD at this; simp only [List.length_cons, List.length_append] at this; have := HY0.out; omega) HeaL.out).mono ?_
      rintro e u1 ⟨rfl, L1⟩
      have U1 : Below w.heap.size w u1 := HB1.out.trans (L1.mono HB1.out.size)
      obtain ⟨y1, hy1⟩ : ∃ y1 : Nat, y1 = y0 + (lEs (vb X.2.ev) 0 X.2.es).length := ⟨_, rfl⟩
      have HY1 : Hid (y1 = y0 + (lEs (vb X.2.ev) 0 X.2.es).length) := hy1
      rw [← hy1]
      have ny1 : ¬ (y1 : Int) < 0 := by omega
      have py1 : 1 ≤ y1 := by omega
      have by1 : y1 ≤ 2305843009213693952 := by
        have := HYT.out
        unfold lD at this
        simp only [List.length_cons, List.length_append] at this
        have := HY0.out
        omega
      clear hy1 L1 HHM1 HHH1 p0 p1 ph0 ph1
      have HLN : Hid (x + (lDs b 0 (xs.take (k + 1))).length = y1) := by
        show _ = _
        rw [HS1.out, List.length_append]
        unfold lD
        simp only [List.length_cons, List.length_append]
        have := HY.out
        have := HY0.out
        have := HY1.out
        omega
      go_wp2
      go_roundw
      case rel => exact ⟨k + 1, by omega, by go_num, by rw [HLN.out], U1⟩
      case measure => simp [intOf]; omega
    · have hkn : k = xs.length := by omega
      subst hkn
      rw [List.take_length]
      go_wp2
      go_ret
      exact ⟨rfl, hb⟩


end Go.Proofs.YtcehppndpccldaaGreatDoor

namespace Go.Proofs.YtcehppndpccldaaGreatDoor
open Go.RowKit

theorem own_wr {B : Nat} {w : World} {t : TypeId} {size n : Nat} {v : Value} {xs : List Value} (h : w.ownsRow B t size v n xs) (hn : 0 < n) : Wr w (vb v) ∧ v.ownBlock = some (vb v) := by
  rcases h.2 with ⟨e, z⟩ | ⟨g, cap, cur, e, _, hh, _⟩
  · omega
  · have eb : v.ownBlock = some g := by rw [e]; rfl
    have ev : vb v = g := by unfold vb; rw [eb]; rfl
    refine ⟨?_, by rw [ev]; exact eb⟩
    rw [ev]
    exact ⟨t, cur.size, fun i => cur[i]!, cur, hh, rfl, fun i hi => by simp [hi]⟩
theorem own_at_ {B : Nat} {w : World} {t : TypeId} {size n : Nat} {v : Value} {xs : List Value} (h : w.ownsRow B t size v n xs) : ∃ a c, v = .slice a n c ∧ (0 < n → a = some ⟨vb v, 0, none⟩) := by
  obtain ⟨a, c, e⟩ := own_form h
  refine ⟨a, c, e, fun hn => ?_⟩
  obtain ⟨g, c', e', _⟩ := own_blk h hn
  have e2 := e
  rw [e'] at e2
  simp only [Value.slice.injEq] at e2
  rw [← e2.1]
  have : vb v = g := by rw [e']; rfl
  rw [this]

theorem of_lTs {b : Nat} : ∀ {xs : List (TI × NPl)} {i : Nat} {a : LA}, a ∈ lTs b i xs → ∃ k, ∃ hk : k < xs.length, a ∈ lT b (i + k) xs[k]
  | [], _, _, h => by cases h
  | x :: xs, i, a, h => by
    rw [lTs] at h
    rcases List.mem_append.1 h with z | z
    · exact ⟨0, by simp, z⟩
    · obtain ⟨k, hk, hc⟩ := of_lTs z
      exact ⟨k + 1, by simp; omega, by rw [show i + (k + 1) = i + 1 + k by omega]; exact hc⟩
theorem of_hTs {b : Nat} : ∀ {xs : List (TI × NPl)} {i : Nat} {a : Nat × Nat × Value}, a ∈ hTs b i xs → ∃ k, ∃ hk : k < xs.length, a ∈ hT b (i + k) xs[k]
  | [], _, _, h => by cases h
  | x :: xs, i, a, h => by
    rw [hTs] at h
    rcases List.mem_append.1 h with z | z
    · exact ⟨0, by simp, z⟩
    · obtain ⟨k, hk, hc⟩ := of_hTs z
      exact ⟨k + 1, by simp; omega, by rw [show i + (k + 1) = i + 1 + k by omega]; exact hc⟩
theorem of_lEs {b : Nat} : ∀ {xs : List (EI × EPl)} {i : Nat} {a : LA}, a ∈ lEs b i xs → ∃ k, ∃ hk : k < xs.length, a ∈ lE b (i + k) xs[k]
  | [], _, _, h => by cases h
  | x :: xs, i, a, h => by
    rw [lEs] at h
    rcases List.mem_append.1 h with z | z
    · exact ⟨0, by simp, z⟩
    · obtain ⟨k, hk, hc⟩ := of_lEs z
      exact ⟨k + 1, by simp; omega, by rw [show i + (k + 1) = i + 1 + k by omega]; exact hc⟩
theorem of_hEs {b : Nat} : ∀ {xs : List (EI × EPl)} {i : Nat} {a : Nat × Nat × Value}, a ∈ hEs b i xs → ∃ k, ∃ hk : k < xs.length, a ∈ hE b (i + k) xs[k]
  | [], _, _, h => by cases h
  | x :: xs, i, a, h => by
    rw [hEs] at h
    rcases List.mem_append.1 h with z | z
    · exact ⟨0, by simp, z⟩
    · obtain ⟨k, hk, hc⟩ := of_hEs z
      exact ⟨k + 1, by simp; omega, by rw [show i + (k + 1) = i + 1 + k by omega]; exact hc⟩
theorem of_lDs {b : Nat} : ∀ {xs : List (DC × DPl)} {i : Nat} {a : LA}, a ∈ lDs b i xs → ∃ k, ∃ hk : k < xs.length, a ∈ lD b (i + k) xs[k]
  | [], _, _, h => by cases h
  | x :: xs, i, a, h => by
    rw [lDs] at h
    rcases List.mem_append.1 h with z | z
    · exact ⟨0, by simp, z⟩
    · obtain ⟨k, hk, hc⟩ := of_lDs z
      exact ⟨k + 1, by simp; omega, by rw [show i + (k + 1) = i + 1 + k by omega]; exact hc⟩
theorem of_hDs {b : Nat} : ∀ {xs : List (DC × DPl)} {i : Nat} {a : Nat × Nat × Value}, a ∈ hDs b i xs → ∃ k, ∃ hk : k < xs.length, a ∈ hD b (i + k) xs[k]
  | [], _, _, h => by cases h
  | x :: xs, i, a, h => by
    rw [hDs] at h
    rcases List.mem_append.1 h with z | z
    · exact ⟨0, by simp, z⟩
    · obtain ⟨k, hk, hc⟩ := of_hDs z
      exact ⟨k + 1, by simp; omega, by rw [show i + (k + 1) = i + 1 + k by omega]; exact hc⟩

theorem nm_at {B : Nat} {w : World} {ns : List ByteArray} {p : NPl} (h : NmOK B w ns p) (hn : 0 < ns.length) : p.a = some ⟨p.b, 0, none⟩ := (h (List.length_pos_iff.1 hn)).1
theorem nm_lv {B : Nat} {w : World} {ns : List ByteArray} {p : NPl} (h : NmOK B w ns p) : Lv w (lN p ns.length) := fun a ha => by
  obtain ⟨h1, h2, _⟩ := mem_lN ha
  obtain ⟨_, _, N, f, r, hl, _⟩ := h (List.length_pos_iff.1 (by omega))
  rw [h1]
  refine ⟨⟨_, _, _, r⟩, ?_⟩
  unfold lad
  rw [h1]
  exact ⟨_, r.cell (by omega)⟩

theorem ot_hh {B : Nat} {w : World} {v : Value} {xs : List (TI × NPl)} (h : OT B w v xs) : HH w (hTs (vb v) 0 xs) := fun c hc => by
  obtain ⟨k, hk, hc⟩ := of_hTs hc
  rw [Nat.zero_add] at hc
  rw [List.mem_singleton.1 hc]
  exact own_at (f := tiC) tiC_len h.own (own_wr h.own (by omega)).2 (j := k) (r := 3) hk (by omega) rfl
theorem ot_lv {B : Nat} {w : World} {v : Value} {xs : List (TI × NPl)} (h : OT B w v xs) : Lv w (lTs (vb v) 0 xs) := fun a ha => by
  obtain ⟨k, hk, ha⟩ := of_lTs ha
  rw [Nat.zero_add] at ha
  obtain ⟨hw, hb⟩ := own_wr h.own (by omega)
  unfold lT at ha
  simp only [List.mem_cons] at ha
  rcases ha with rfl | rfl | rfl | ha
  · exact ⟨hw, _, own_at (f := tiC) tiC_len h.own hb (j := k) (r := 0) hk (by omega) rfl⟩
  · exact ⟨hw, _, own_at (f := tiC) tiC_len h.own hb (j := k) (r := 1) hk (by omega) rfl⟩
  · exact ⟨hw, _, own_at (f := tiC) tiC_len h.own hb (j := k) (r := 2) hk (by omega) rfl⟩
  · exact nm_lv (h.nm _ (List.getElem_mem hk)) a ha
theorem ot_at {B : Nat} {w : World} {v : Value} {xs : List (TI × NPl)} (h : OT B w v xs) (hl : xs.length ≤ 1000000) : AtTs v xs := by
  obtain ⟨a, c, e, ha⟩ := own_at_ h.own
  exact ⟨a, c, e, ha, fun u hu => nm_at (h.nm u hu), hl⟩
theorem ot_bt {B : Nat} {w : World} {v : Value} {xs : List (TI × NPl)} (h : OT B w v xs) : BT v xs.length := fun hn => (own_wr h.own hn).2
theorem len_map {α β : Type} {f : α → β} {xs : List α} {ys : List β} (h : xs.map f = ys) : xs.length = ys.length := by rw [← h, List.length_map]

theorem oe_hh {B : Nat} {w : World} {v : Value} {xs : List (EI × EPl)} (h : OE B w v xs) : HH w (hEs (vb v) 0 xs) := fun c hc => by
  obtain ⟨k, hk, hc⟩ := of_hEs hc
  rw [Nat.zero_add] at hc
  obtain ⟨hw, hb⟩ := own_wr h.own (by omega)
  unfold hE at hc
  simp only [List.mem_cons] at hc
  rcases hc with rfl | rfl | hc
  · exact own_at (f := eiC) eiC_len h.own hb (j := k) (r := 4) hk (by omega) rfl
  · exact own_at (f := eiC) eiC_len h.own hb (j := k) (r := 5) hk (by omega) rfl
  · exact ot_hh (h.ok _ (List.getElem_mem hk)).ty c hc
theorem oe_lv {B : Nat} {w : World} {v : Value} {xs : List (EI × EPl)} (h : OE B w v xs) : Lv w (lEs (vb v) 0 xs) := fun a ha => by
  obtain ⟨k, hk, ha⟩ := of_lEs ha
  rw [Nat.zero_add] at ha
  obtain ⟨hw, hb⟩ := own_wr h.own (by omega)
  unfold lE at ha
  simp only [List.mem_cons] at ha
  rcases ha with rfl | rfl | rfl | rfl | ha
  · exact ⟨hw, _, own_at (f := eiC) eiC_len h.own hb (j := k) (r := 0) hk (by omega) rfl⟩
  · exact ⟨hw, _, own_at (f := eiC) eiC_len h.own hb (j := k) (r := 1) hk (by omega) rfl⟩
  · exact ⟨hw, _, own_at (f := eiC) eiC_len h.own hb (j := k) (r := 2) hk (by omega) rfl⟩
  · exact ⟨hw, _, own_at (f := eiC) eiC_len h.own hb (j := k) (r := 3) hk (by omega) rfl⟩
  · have ok := h.ok _ (List.getElem_mem hk)
    rcases List.mem_append.1 ha with z | z
    · exact nm_lv ok.nm a z
    · exact ot_lv ok.ty a z
theorem oe_at {B : Nat} {w : World} {v : Value} {xs : List (EI × EPl)} (h : OE B w v xs) (hl : xs.length ≤ 1000000) (hs : ∀ x, x ∈ xs → SmE 1000000 x.1) : AtEs v xs := by
  obtain ⟨a, c, e, ha⟩ := own_at_ h.own
  exact ⟨a, c, e, ha, fun u hu => ⟨nm_at (h.ok u hu).nm, ot_at (h.ok u hu).ty (by rw [len_map (h.ok u hu).is]; exact (hs u hu).2.1)⟩, hl⟩
theorem oe_bt {B : Nat} {w : World} {v : Value} {xs : List (EI × EPl)} (h : OE B w v xs) : BT v xs.length := fun hn => (own_wr h.own hn).2

theorem od_hh {B : Nat} {w : World} {v : Value} {xs : List (DC × DPl)} (h : OD B w v xs) : HH w (hDs (vb v) 0 xs) := fun c hc => by
  obtain ⟨k, hk, hc⟩ := of_hDs hc
  rw [Nat.zero_add] at hc
  obtain ⟨hw, hb⟩ := own_wr h.own (by omega)
  unfold hD at hc
  simp only [List.mem_cons] at hc
  rcases hc with rfl | rfl | hc
  · exact own_at (f := dcC) dcC_len h.own hb (j := k) (r := 2) hk (by omega) rfl
  · exact own_at (f := dcC) dcC_len h.own hb (j := k) (r := 3) hk (by omega) rfl
  · have ok := h.ok _ (List.getElem_mem hk)
    rcases List.mem_append.1 hc with z | z
    · exact ot_hh ok.ty c z
    · exact oe_hh ok.ex c z
theorem od_lv {B : Nat} {w : World} {v : Value} {xs : List (DC × DPl)} (h : OD B w v xs) : Lv w (lDs (vb v) 0 xs) := fun a ha => by
  obtain ⟨k, hk, ha⟩ := of_lDs ha
  rw [Nat.zero_add] at ha
  obtain ⟨hw, hb⟩ := own_wr h.own (by omega)
  unfold lD at ha
  simp only [List.mem_cons] at ha
  rcases ha with rfl | rfl | ha
  · exact ⟨hw, _, own_at (f := dcC) dcC_len h.own hb (j := k) (r := 0) hk (by omega) rfl⟩
  · exact ⟨hw, _, own_at (f := dcC) dcC_len h.own hb (j := k) (r := 1) hk (by omega) rfl⟩
  · have ok := h.ok _ (List.getElem_mem hk)
    rcases List.mem_append.1 ha with z | z
    · exact ot_lv ok.ty a z
    · exact oe_lv ok.ex a z
theorem od_at {B : Nat} {w : World} {v : Value} {xs : List (DC × DPl)} (h : OD B w v xs) (hs : ∀ x, x ∈ xs → SmD 1000000 x.1) : ∀ x, x ∈ xs → AtD x := fun x hx => by
  have ok := h.ok x hx
  have sm := hs x hx
  exact ⟨ot_at ok.ty (by rw [len_map ok.isT]; exact sm.1), oe_at ok.ex (by rw [len_map ok.isE]; exact sm.2.2.1) (fun y hy => sm.2.2.2 _ (by rw [← ok.isE]; exact List.mem_map_of_mem hy))⟩
theorem od_nd {B : Nat} {w : World} {v : Value} {xs : List (DC × DPl)} (h : OD B w v xs) : Nd (lDs (vb v) 0 xs) ∧ Sp (hDs (vb v) 0 xs) (lDs (vb v) 0 xs) := by
  by_cases hp : 0 < xs.length
  · have hb := (own_wr h.own hp).2
    refine nd_lDs (fun x hx => ?_) (fun z => h.sep _ z hb) h.nd
    have ok := h.ok x hx
    exact ⟨ot_bt ok.ty, oe_bt ok.ex, fun y hy => ot_bt (ok.ex.ok y hy).ty⟩
  · have : xs = [] := List.length_eq_zero_iff.1 (by omega)
    subst this
    exact ⟨List.nodup_nil, fun c hc => by cases hc⟩
/-- The marked cells lie in new memory. -/
theorem od_new {B : Nat} {w : World} {v : Value} {xs : List (DC × DPl)} (h : OD B w v xs) {a : LA} (ha : a ∈ lDs (vb v) 0 xs) : B ≤ a.1 := by
  have hp : 0 < xs.length := by
    cases xs with
    | nil => cases ha
    | cons x xs => simp
  have hb := (own_wr h.own hp).2
  rcases in_lDs (fun x hx => by
    have ok := h.ok x hx
    exact ⟨ot_bt ok.ty, oe_bt ok.ex, fun y hy => ot_bt (ok.ex.ok y hy).ty⟩) ha with ⟨h1, _⟩ | h1
  · rw [h1]; exact (h.own.lt _ hb).1
  · exact (h.lt h1).1

/- How many cells there are. -/
theorem lT_le {b i : Nat} {x : TI × NPl} {L : Nat} (h : SmT L x.1) : (lT b i x).length ≤ 3 + L := by
  unfold lT
  simp only [List.length_cons, lN_len]
  have : x.1.ns.length ≤ L := h
  omega
theorem lTs_le {b L : Nat} : ∀ {xs : List (TI × NPl)} {i : Nat}, (∀ x, x ∈ xs → SmT L x.1) → (lTs b i xs).length ≤ xs.length * (3 + L)
  | [], _, _ => by simp [lTs]
  | x :: xs, i, h => by
    rw [lTs, List.length_append, List.length_cons, Nat.add_mul, Nat.one_mul]
    have h1 := lT_le (b := b) (i := i) (h x (List.mem_cons_self ..))
    have h2 := lTs_le (b := b) (i := i + 1) (fun y hy => h y (List.mem_cons_of_mem _ hy))
    omega
theorem lE_le {b i : Nat} {x : EI × EPl} {L : Nat} (h : SmE L x.1) (hz : x.2.zs.map Prod.fst = x.1.ty) : (lE b i x).length ≤ 4 + L + L * (3 + L) := by
  unfold lE
  simp only [List.length_cons, List.length_append, lN_len]
  have h1 : x.1.ns.length ≤ L := h.1
  have h2 := lTs_le (b := vb x.2.tv) (i := 0) (L := L) (xs := x.2.zs) (fun y hy => h.2.2 _ (by rw [← hz]; exact List.mem_map_of_mem hy))
  have h3 : x.2.zs.length * (3 + L) ≤ L * (3 + L) := Nat.mul_le_mul_right _ (by rw [len_map hz]; exact h.2.1)
  omega
theorem lEs_le {b L : Nat} : ∀ {xs : List (EI × EPl)} {i : Nat}, (∀ x, x ∈ xs → SmE L x.1 ∧ x.2.zs.map Prod.fst = x.1.ty) → (lEs b i xs).length ≤ xs.length * (4 + L + L * (3 + L))
  | [], _, _ => by simp [lEs]
  | x :: xs, i, h => by
    rw [lEs, List.length_append, List.length_cons, Nat.add_mul, Nat.one_mul]
    have hx := h x (List.mem_cons_self ..)
    have h1 := lE_le (b := b) (i := i) hx.1 hx.2
    have h2 := lEs_le (b := b) (i := i + 1) (fun y hy => h y (List.mem_cons_of_mem _ hy))
    omega
theorem lDs_le {b L : Nat} : ∀ {xs : List (DC × DPl)} {i : Nat}, (∀ x, x ∈ xs → SmD L x.1 ∧ x.2.zs.map Prod.fst = x.1.ty ∧ x.2.es.map Prod.fst = x.1.ex ∧ ∀ y, y ∈ x.2.es → y.2.zs.map Prod.fst = y.1.ty) → (lDs b i xs).length ≤ xs.length * (2 + L * (3 + L) + L * (4 + L + L * (3 + L)))
  | [], _, _ => by simp [lDs]
  | x :: xs, i, h => by
    rw [lDs, List.length_append, List.length_cons, Nat.add_mul, Nat.one_mul]
    obtain ⟨sm, z1, z2, z3⟩ := h x (List.mem_cons_self ..)
    have h2 := lDs_le (b := b) (i := i + 1) (fun y hy => h y (List.mem_cons_of_mem _ hy))
    have t1 := lTs_le (b := vb x.2.tv) (i := 0) (L := L) (xs := x.2.zs) (fun y hy => sm.2.1 _ (by rw [← z1]; exact List.mem_map_of_mem hy))
    have t2 : x.2.zs.length * (3 + L) ≤ L * (3 + L) := Nat.mul_le_mul_right _ (by rw [len_map z1]; exact sm.1)
    have u1 := lEs_le (b := vb x.2.ev) (i := 0) (L := L) (xs := x.2.es) (fun y hy => ⟨sm.2.2.2 _ (by rw [← z2]; exact List.mem_map_of_mem hy), z3 y hy⟩)
    have u2 : x.2.es.length * (4 + L + L * (3 + L)) ≤ L * (4 + L + L * (3 + L)) := Nat.mul_le_mul_right _ (by rw [len_map z2]; exact sm.2.2.1)
    have l1 : (lD b i x).length = 2 + (lTs (vb x.2.tv) 0 x.2.zs).length + (lEs (vb x.2.ev) 0 x.2.es).length := by
      unfold lD
      simp only [List.length_cons, List.length_append]
      omega
    omega
theorem od_few {B : Nat} {w : World} {v : Value} {xs : List (DC × DPl)} (h : OD B w v xs) (hs : ∀ x, x ∈ xs → SmD 1000 x.1) (hl : xs.length ≤ 1000) : (lDs (vb v) 0 xs).length ≤ 1000000000000000 := by
  have h1 := lDs_le (b := vb v) (i := 0) (L := 1000) (xs := xs) (fun x hx => by
    have ok := h.ok x hx
    exact ⟨hs x hx, ok.isT, ok.isE, fun y hy => (ok.ex.ok y hy).is⟩)
  have h2 : xs.length * (2 + 1000 * (3 + 1000) + 1000 * (4 + 1000 + 1000 * (3 + 1000))) ≤ 1000 * (2 + 1000 * (3 + 1000) + 1000 * (4 + 1000 + 1000 * (3 + 1000))) := Nat.mul_le_mul_right _ hl
  omega

end Go.Proofs.YtcehppndpccldaaGreatDoor

