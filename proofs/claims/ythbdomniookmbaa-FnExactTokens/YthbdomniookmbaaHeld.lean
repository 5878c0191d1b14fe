/-
  The law's look at the marks, and the law.
-/
import Derived.Test.YthbdomniookmbaaMarks
import Derived.Test.YthbdomniookmbaaModel2
import Derived.Deep.RegionWith
import Derived.Deep.RegionHeld3
namespace Go.Proofs.Ythbdomniookmbaa
open Go.RowKit

set_option maxRecDepth 100000 in
set_option maxHeartbeats 2000000 in
theorem c9 (ao : Option Addr) (b n c : Nat) (w : World) (hn : n ≤ 1000) (h1 : TksAt w ao b n mk) :
    Calls Try.prog 9 #[.slice ao n c, .int .i64 1] w fun e w' => e = .returned (.int .i64 ((1 + 3 * n : Nat) : Int)) ∧ Below w.heap.size w w' := by
  have A1 := h1.at_
  have HB : Hid (∀ w', Below w.heap.size w w' → TksAt w' ao b n mk) := fun w' hb => h1.below hb
  clear h1
  go_enter Try.func9, Try.ntmps9
  go_wp2
  go_loopw [1, 5] (fun x i wr => ∃ k : Nat, k ≤ n ∧ i = .int .i64 k ∧ x = .int .i64 ((1 + 3 * k : Nat) : Int) ∧ Below w.heap.size w wr) (fun _ i _ => n - (intOf i).toNat)
  case atStart => exact ⟨0, Nat.zero_le _, rfl, rfl, Below.refl _ _⟩
  case round =>
    obtain ⟨k, hk, rfl, rfl, hb⟩ := hrel
    by_cases hlt : k < n
    · have e1 := A1 (by omega)
      subst e1
      obtain ⟨x, hx⟩ : ∃ x : Nat, x = 1 + 3 * k := ⟨_, rfl⟩
      have HX : Hid (x = 1 + 3 * k) := hx
      have hx1 : 1 ≤ x := by omega
      have hx2 : x ≤ 3001 := by omega
      obtain ⟨g0, g1, g2⟩ := (HB.out wr hb).cells hlt
      have e0 : (mk k).cls = (x : Int) := by rw [hx]; rfl
      have e1 : (mk k).txt = mt (x + 1) := by rw [hx]; rfl
      have e2 : ((mk k).loc : Int) = (x : Int) + 1 + 1 := by
        show (((1 + 3 * k + 2 : Nat)) : Int) = _
        rw [hx]; omega
      rw [e0] at g0
      rw [e1] at g1
      rw [e2] at g2
      have G2 : Hid (∀ w', Below w.heap.size w w' → w'.cell? ⟨b, k * 3 + 2, none⟩ = some (.int .i64 ((x : Int) + 1 + 1))) := fun w' hb' => by
        have := ((HB.out w' hb').cells hlt).2.2
        rw [e2] at this; exact this
      rw [← hx]
      clear e0 e1 e2 hx
      have hbl : b < wr.heap.size := World.block_lt_of_cell? _ _ g1
      go_wp2_with fail
      go_region_held3 (fun w' => w'.cell? ⟨b, k * 3 + 1, none⟩ = some (.string (mt (x + 1)))) (first | go_keep | assumption)
        (first | (go_at_call 23; refine (c23' _ (x + 1) _ (by omega) (by omega) (by omega)).mono ?_; rintro e w2 ⟨rfl, hb2⟩; have z1 : w2.cell? ⟨b, k * 3 + 1, none⟩ = some (.string (mt (x + 1))) := (hb2.cell (p := ⟨b, k * 3 + 1, none⟩) hbl).trans g1))
      all_goals
        have B2 : Below w.heap.size w w2 := (hb.trans ((Below.refl _ _).drew)).trans (hb2.mono hb.size)
        have g3 := G2.out w2 B2
        go_wp2
        go_roundw
        case rel => exact ⟨k + 1, by omega, by go_num, by have := HX.out; first | (congr 1; omega) | (simp; omega), B2⟩
        case measure => simp [intOf]; omega
    · have hkn : k = n := by omega
      subst hkn
      have FIN : Hid (Below w.heap.size w wr) := hb
      clear HB
      go_wp2
      go_ret
      exact ⟨rfl, FIN.out⟩


theorem toks_len (s : ByteArray) : (toks s).length ≤ 1000 := by
  unfold toks
  split
  · have := tks_len (s := s) (i := 0); omega
  · exact Nat.zero_le _

set_option maxRecDepth 100000 in
set_option maxHeartbeats 4000000 in
theorem c3 (s : ByteArray) (m : Int) (w : World) (hs : s.size ≤ 9223372036854775807) (hm : w.cell? ⟨0, 0, none⟩ = some (.int .i64 m)) :
    Calls Try.prog 3 #[.string s] w fun e w' => e = .returned (.bool true) ∧ Below w.heap.size w w' := by
  by_cases h20 : 1048576 < s.size
  · go_enter Try.func3, Try.ntmps3
    go_wp2
    go_ret
    exact ⟨rfl, Below.refl _ _⟩
  have hl := toks_len s
  have HM : Hid (∀ w', Below w.heap.size w w' → w'.cell? ⟨0, 0, none⟩ = some (.int .i64 m)) := fun w' hb => max_below hm hb
  clear hm
  go_enter Try.func3, Try.ntmps3
  go_wp2_with fail
  refine (c5 s _ hs).mono ?_
  rintro e w1 ⟨v1, rfl, O1⟩
  obtain ⟨oa1, cap1, rfl⟩ := own_form O1.own
  obtain ⟨b1, T1, L1⟩ := own_at O1
  have B1 := O1.below
  have HT0 : Hid (TksAt w1 oa1 b1 (toks s).length (tkAt (toks s))) := T1
  clear O1 T1
  go_wp2_with fail
  refine (c6 s m _ hs (HM.out _ B1)).mono ?_
  rintro e w2 ⟨v2, rfl, O2⟩
  obtain ⟨oa2, cap2, rfl⟩ := own_form O2.own
  obtain ⟨b2, T2, L2⟩ := own_at O2
  have B2 : Below w.heap.size w w2 := B1.trans (O2.below.mono B1.size)
  have HT1 : Hid (TksAt w2 oa1 b1 (toks s).length (tkAt (toks s))) := HT0.out.below O2.below
  have HT2 : Hid (TksAt w2 oa2 b2 (toks s).length (tkAt (toks s))) := T2
  have L12 : Hid (0 < (toks s).length → b1 < w1.heap.size) := fun q => HT0.out.lt q
  clear O2 T2 HT0
  go_wp2_with fail
  refine (c7 oa2 oa1 b2 b1 (toks s).length cap2 cap1 (tkAt (toks s)) _ hl HT2.out HT1.out).mono ?_
  rintro e w3 ⟨rfl, hb3⟩
  have B3 : Below w.heap.size w w3 := B2.trans (hb3.mono B2.size)
  have HT1 : Hid (TksAt w3 oa1 b1 (toks s).length (tkAt (toks s))) := HT1.out.below hb3
  have HT2 : Hid (TksAt w3 oa2 b2 (toks s).length (tkAt (toks s))) := HT2.out.below hb3
  clear hb3 B2
  go_wp2_with fail
  refine (c8 oa2 b2 (toks s).length cap2 (tkAt (toks s)) _ hl HT2.out).mono ?_
  rintro e w4 ⟨rfl, T4, BU⟩
  have B4 : Below w.heap.size w w4 := ⟨BU.os.trans B3.os, BU.tape.trans B3.tape, BU.output.trans B3.output, Nat.le_trans B3.size BU.size, fun j hj => (BU.block j (Nat.lt_of_lt_of_le hj B3.size) (by have := B1.size; omega)).trans (B3.block j hj)⟩
  have HT1 : Hid (TksAt w4 oa1 b1 (toks s).length (tkAt (toks s))) := HT1.out.later (fun q => BU.block b1 (HT1.out.lt q) (by have := L12.out q; omega))
  have HT4 : Hid (TksAt w4 oa2 b2 (toks s).length mk) := T4
  clear T4 BU B3 HT2
  go_wp2_with fail
  refine (c9 oa2 b2 (toks s).length cap2 _ hl HT4.out).mono ?_
  rintro e w5 ⟨rfl, hb5⟩
  have B5 : Below w.heap.size w w5 := B4.trans (hb5.mono B4.size)
  have HT1 : Hid (TksAt w5 oa1 b1 (toks s).length (tkAt (toks s))) := HT1.out.below hb5
  clear hb5 HT4 B4
  have hnn : ¬ (1 + 3 * ((toks s).length : Int) < 0) := by omega
  go_wp2_with fail
  refine (c6 s m _ hs (HM.out _ B5)).mono ?_
  rintro e w6 ⟨v6, rfl, O6⟩
  obtain ⟨oa6, cap6, rfl⟩ := own_form O6.own
  obtain ⟨b6, T6, L6⟩ := own_at O6
  have B6 : Below w.heap.size w w6 := B5.trans (O6.below.mono B5.size)
  have HT1 : Hid (TksAt w6 oa1 b1 (toks s).length (tkAt (toks s))) := HT1.out.below O6.below
  have HT6 : Hid (TksAt w6 oa6 b6 (toks s).length (tkAt (toks s))) := T6
  clear O6 T6 B5
  go_wp2_with fail
  refine (c7 oa6 oa1 b6 b1 (toks s).length cap6 cap1 (tkAt (toks s)) _ hl HT6.out HT1.out).mono ?_
  rintro e w7 ⟨rfl, hb7⟩
  go_wp2
  go_ret
  exact ⟨rfl, B6.trans (hb7.mono B6.size)⟩

end Go.Proofs.Ythbdomniookmbaa
