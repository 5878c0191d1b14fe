/-
  Merged for the claim: NdD NdE RcC.
-/
import Derived.Test.YtdjkgilohhjfoaaGreatDoorM24
import Derived.Test.YtdjkgilohhjfoaaGreatDoorM26
import Derived.Test.YtdjkgilohhjfoaaGreatDoorM15
namespace Go.Proofs.YtdjkgilohhjfoaaGreatDoor
open Go.RowKit

/-- The cells of the program's own variables. -/
def GV (w : World) : Prop := (∃ m, w.cell? ⟨1, 0, none⟩ = some (.int .i64 m)) ∧ ∃ eT eV, w.cell? ⟨0, 0, none⟩ = some (.iface eT eV)
theorem GV.on {w w' : World} (h : GV w) (hb : Below w.heap.size w w') : GV w' := by
  obtain ⟨⟨m, hm⟩, eT, eV, he⟩ := h
  exact ⟨⟨m, (hb.cell (p := ⟨1, 0, none⟩) (World.block_lt_of_cell? _ _ hm)).trans hm⟩, eT, eV, (hb.cell (p := ⟨0, 0, none⟩) (World.block_lt_of_cell? _ _ he)).trans he⟩

set_option maxHeartbeats 1000000 in
theorem p_keyOk (k : Int) (m : ByteArray) (w : World) (hs : m.size ≤ 9223372036854775807) :
    Calls Tryz.prog 21 #[.agg #[.int .i64 k, .string m]] w fun e w' => e = .returned (.bool (kv k m)) ∧ Below w.heap.size w w' := by
  by_cases h : 1 ≤ k
  · by_cases h' : k ≤ 3
    · have HV : Hid (kv k m = gn m) := kv_yes ⟨h, h'⟩
      go_enter Tryz.func21, Tryz.ntmps21
      go_wp2_with (go_at_call 34; refine (c40 _ _ hs).mono ?_; rintro e w' ⟨rfl, rfl⟩)
      go_ret
      exact ⟨ret_bool HV.out.symm, bel1 _ _⟩
    · have HV : Hid (kv k m = false) := kv_no (fun q => h' q.2)
      go_enter Tryz.func21, Tryz.ntmps21
      go_wp2
      go_ret
      exact ⟨ret_bool HV.out.symm, bel1 _ _⟩
  · have HV : Hid (kv k m = false) := kv_no (fun q => h q.1)
    go_enter Tryz.func21, Tryz.ntmps21
    go_wp2
    go_ret
    exact ⟨ret_bool HV.out.symm, bel1 _ _⟩

set_option maxHeartbeats 1000000 in
theorem p_named (a t s : ByteArray) (B : Nat) (w : World) (hc : w.cell? ⟨B, 0, none⟩ = some (.string s)) :
    Calls Tryz.prog 37 #[.agg #[.string a, .string t], .pointer (some ⟨B, 0, none⟩)] w fun e w' => e = .returned (.bool (a.toList == s.toList)) ∧ Hid (Below w.heap.size w w') := by
  have hlt := World.block_lt_of_cell? _ _ hc
  have c1 : (w.alloc (.cells #[.string a, .string t] 45)).cell? ⟨B, 0, none⟩ = some (.string s) := ((bel1 w _).cell (p := ⟨B, 0, none⟩) hlt).trans hc
  go_enter Tryz.func37, Tryz.ntmps37
  go_wp2
  go_ret
  exact ⟨rfl, bel1 _ _⟩

set_option maxRecDepth 100000 in
set_option maxHeartbeats 4000000 in
theorem p_indexS {ao : Option Addr} {b o n c : Nat} {S T : Nat → ByteArray} (w : World) (h1 : SrcsAt w ao b o n S T) (s : ByteArray) (B : Nat) (hc : w.cell? ⟨B, 0, none⟩ = some (.string s)) :
    Calls Tryz.prog 36 #[.slice ao n c, .func (.func 37) #[] #[.pointer (some ⟨B, 0, none⟩)]] w fun e w' => e = .returned (.int .i64 (plI (srcI S n s))) ∧ Below w.heap.size w w' := by
  have HT : Hid (∀ w', Below w.heap.size w w' → SrcsAt w' ao b o n S T ∧ w'.cell? ⟨B, 0, none⟩ = some (.string s)) := fun w' hb => ⟨h1.below hb, (hb.cell (p := ⟨B, 0, none⟩) (World.block_lt_of_cell? _ _ hc)).trans hc⟩
  have A1 := h1.at_
  have hlen := h1.len
  obtain ⟨r, hr⟩ : ∃ r, r = plI (srcI S n s) := ⟨_, rfl⟩
  have HR : Hid (r = plI (srcI S n s)) := hr
  rw [← hr]
  clear h1 hr hc
  go_enter Tryz.func36, Tryz.ntmps36
  go_wp2
  go_loopw [8] (fun i wr => ∃ k : Nat, k ≤ n ∧ i = .int .i64 k ∧ Hid (Below w.heap.size w wr) ∧ Hid (∀ j, j < k → ((S j).toList == s.toList) = false)) (fun i _ => n - (intOf i).toNat)
  case atStart => exact ⟨0, Nat.zero_le _, rfl, Below.refl _ _, fun j hj => absurd hj (Nat.not_lt_zero _)⟩
  case round =>
    obtain ⟨k, hk, rfl, HW, HF⟩ := hrel
    by_cases hlt : k < n
    · obtain ⟨q1, qc⟩ := HT.out wr HW.out
      have e1 := A1 (by omega)
      have a0 := q1.c0 k hlt
      have a1 := q1.c1 k hlt
      obtain ⟨rb, hrb⟩ : ∃ rb, rb = ((S k).toList == s.toList) := ⟨_, rfl⟩
      have HRB : Hid (((S k).toList == s.toList) = rb) := hrb.symm
      have CG : Hid (Calls Tryz.prog 37 #[.agg #[.string (S k), .string (T k)], .pointer (some ⟨B, 0, none⟩)] wr fun e w' => e = .returned (.bool rb) ∧ Hid (Below wr.heap.size wr w')) := by
        rw [hrb]; exact p_named (S k) (T k) s B wr qc
      clear hrb q1 qc
      subst e1
      go_wp2_with fail
      refine CG.out.mono ?_
      rintro e w2 ⟨rfl, H2⟩
      have HW2 : Hid (Below w.heap.size w w2) := HW.out.trans (H2.out.mono HW.out.size)
      clear a0 a1 CG H2
      cases rb
      · go_wp2
        go_roundw
        case rel => exact ⟨k + 1, by omega, by go_num, HW2, fun j hj => by
          by_cases e : j = k
          · subst e; exact HRB.out
          · exact HF.out j (by omega)⟩
        case measure => simp [intOf]; omega
      · have HI : Hid (r = (k : Int)) := by show _ = _; rw [HR.out, srcI_yes hlt HF.out HRB.out]; rfl
        go_wp2
        go_ret
        exact ⟨by rw [HI.out]; rfl, HW2.out⟩
    · have hkn : k = n := by omega
      subst hkn
      have HI : Hid (r = -1) := by show _ = _; rw [HR.out, srcI_no HF.out]; rfl
      have HW2 : Hid (Below w.heap.size w wr) := HW
      go_wp2
      go_ret
      exact ⟨by rw [HI.out]; rfl, HW2.out⟩

set_option maxRecDepth 100000 in
set_option maxHeartbeats 1000000 in
theorem p_place {ao : Option Addr} {b o n c : Nat} {S T : Nat → ByteArray} (w : World) (h1 : SrcsAt w ao b o n S T) (s : ByteArray) :
    Calls Tryz.prog 23 #[.slice ao n c, .string s] w fun e w' => e = .returned (.int .i64 (plI (srcI S n s))) ∧ Below w.heap.size w w' := by
  have B1 := bel1 w (.cells #[.string s] 9)
  have r1 : (w.alloc (.cells #[.string s] 9)).cell? ⟨w.heap.size, 0, none⟩ = some (.string s) := (row1 w (.string s) 9).cell (i := 0) (by omega)
  have CI : Hid (Calls Tryz.prog 36 #[.slice ao n c, .func (.func 37) #[] #[.pointer (some ⟨w.heap.size, 0, none⟩)]] (w.alloc (.cells #[.string s] 9)) fun e w' => e = .returned (.int .i64 (plI (srcI S n s))) ∧ Below (w.alloc (.cells #[.string s] 9)).heap.size (w.alloc (.cells #[.string s] 9)) w') := p_indexS _ (h1.below B1) s w.heap.size r1
  obtain ⟨r, hr⟩ : ∃ r, r = plI (srcI S n s) := ⟨_, rfl⟩
  rw [← hr] at CI ⊢
  have HB1 : Hid (Below w.heap.size w (w.alloc (.cells #[.string s] 9))) := B1
  clear h1 hr B1 r1
  go_enter Tryz.func23, Tryz.ntmps23
  go_wp2_with fail
  refine CI.out.mono ?_
  rintro e w2 ⟨rfl, hb2⟩
  have HB2 : Hid (Below w.heap.size w w2) := HB1.out.trans (hb2.mono (by simp))
  clear hb2
  go_wp2
  go_ret
  exact ⟨rfl, HB2.out⟩

end Go.Proofs.YtdjkgilohhjfoaaGreatDoor

namespace Go.Proofs.YtdjkgilohhjfoaaGreatDoor
open Go.RowKit

theorem gn_len {s : ByteArray} (h : gn s = true) : 1 ≤ s.size ∧ s.size ≤ 12 := by
  by_cases z : s.size < 1 ∨ 12 < s.size
  · rw [gn_short z] at h; cases h
  · omega
/-- The names of declarations. -/
def nmY (ys : List (DC × DPl)) : List ByteArray := ys.map fun x => x.1.nm
theorem impO_not {S T : Nat → ByteArray} {n : Nat} {s : ByteArray} (h : srcI S n s = none) : impO S T n s = [] := by
  unfold impO dsOf
  rw [h]
  rfl
theorem impO_is {S T : Nat → ByteArray} {n i : Nat} {s : ByteArray} (h : srcI S n s = some i) : impO S T n s = addN [] (impN (dsT (T i))) := by
  unfold impO dsOf dsT
  rw [h, decs_same]

/-- The state of the program's loop. -/
structure PdL (w wr : World) (m : ByteArray) (u v : Value) (ys : List (DC × DPl)) (q : Nat) : Prop where
  below : Below w.heap.size w wr
  own : wr.ownsRow w.heap.size 31 2 v (q + 1) (kysC (nedK m ((nmY ys).take q)))
  more : wr.ownsRow w.heap.size 58 4 u ys.length (dcsC ys)

set_option maxRecDepth 100000 in
set_option maxHeartbeats 8000000 in
theorem p_Needs {ao : Option Addr} {b o n c : Nat} {S T : Nat → ByteArray} (w : World) (h1 : SrcsAt w ao b o n S T) (hS : ∀ i, i < n → (S i).size ≤ 1048576) (k : Int) (m : ByteArray) (hm : m.size ≤ 1048576) (hgv : GV w) :
    Calls Tryz.prog 9 #[.slice ao n c, .agg #[.int .i64 k, .string m]] w (KyR w (nedA S T n k m)) := by
  obtain ⟨j0, hj0, hy0, hy1, hy2⟩ := info_parts Tryz.infoK
  obtain ⟨W0, hW0⟩ : ∃ W0, W0 = w.alloc (.cells #[.int .i64 k, .string m] 31) := ⟨_, rfl⟩
  have hs0 : W0.heap.size = w.heap.size + 1 := by rw [hW0]; simp
  have B0 : Below w.heap.size w W0 := by rw [hW0]; exact bel1 _ _
  have HB0 : Hid (Below w.heap.size w W0) := B0
  have HRK : Hid (W0.rowIs w.heap.size 31 2 (fun i => if i = 0 then .int .i64 k else .string m)) := by rw [hW0]; exact row2k w _ _ _
  have CV : Hid (Calls Tryz.prog 20 #[.slice ao n c] W0 fun e w' => e = .returned (.bool (vsr n S T)) ∧ Below W0.heap.size W0 w') := sc7 ao b o n c S T W0 (h1.below B0) hS
  have HSR : Hid (∀ W, Below w.heap.size w W → SrcsAt W ao b o n S T ∧ GV W) := fun W hb => ⟨h1.below hb, hgv.on hb⟩
  have HNO : Hid (∀ W', Below W0.heap.size W0 W' → nedA S T n k m = [] → KyR w (nedA S T n k m) (.returned (.slice none 0 0)) W') := fun W' hb e => ⟨HB0.out.trans (hb.mono (by omega)), _, rfl, by rw [e]; exact World.ownsRow_nil _ _ _ _⟩
  have HK0 : Hid (∀ W', Below W0.heap.size W0 W' → W'.cell? ⟨w.heap.size, 0, none⟩ = some (.int .i64 k) ∧ W'.cell? ⟨w.heap.size, 1, none⟩ = some (.string m)) := fun W' hb => by
    have r := HRK.out.of_block (hb.block _ HRK.out.lt)
    exact ⟨r.cell (i := 0) (by omega), r.cell (i := 1) (by omega)⟩
  have CK : Hid (∀ W', Calls Tryz.prog 21 #[.agg #[.int .i64 k, .string m]] W' fun e w' => e = .returned (.bool (kv k m)) ∧ Below W'.heap.size W' w') := fun W' => p_keyOk k m W' (by omega)
  clear h1 hgv B0
  cases hv : vsr n S T
  · rw [hv] at CV
    have HA : Hid (nedA S T n k m = []) := by show _ = _; unfold nedA; rw [hv]; rfl
    go_enter Tryz.func9, Tryz.ntmps9
    go_upto_region 1 with fail
    rw [← hW0]
    clear hW0
    go_wp2_with fail
    refine CV.out.mono ?_
    rintro e w1 ⟨rfl, hb1⟩
    have HB1 : Hid (Below W0.heap.size W0 w1) := hb1
    clear hb1
    go_wp2
    go_ret
    exact HNO.out _ HB1.out HA.out
  rw [hv] at CV
  cases hkv : kv k m
  · have HA : Hid (nedA S T n k m = []) := by show _ = _; unfold nedA; rw [hkv, Bool.and_false]; rfl
    rw [hkv] at CK
    go_enter Tryz.func9, Tryz.ntmps9
    go_upto_region 1 with fail
    rw [← hW0]
    clear hW0
    go_wp2_with fail
    refine CV.out.mono ?_
    rintro e w1 ⟨rfl, hb1⟩
    have HB1 : Hid (Below W0.heap.size W0 w1) := hb1
    obtain ⟨c0, c1⟩ := HK0.out _ hb1
    clear hb1
    go_wp2_with fail
    refine (CK.out _).mono ?_
    rintro e w2 ⟨rfl, hb2⟩
    have HB2 : Hid (Below W0.heap.size W0 w2) := HB1.out.trans (hb2.mono HB1.out.size)
    clear hb2 c0 c1
    go_wp2
    go_ret
    exact HNO.out _ HB2.out HA.out
  rw [hkv] at CK
  cases hk1 : (k == 1)
  case true =>
    have HA : Hid (nedA S T n k m = []) := by show _ = _; unfold nedA; rw [hk1]; simp
    go_enter Tryz.func9, Tryz.ntmps9
    go_upto_region 1 with fail
    rw [← hW0]
    clear hW0
    go_wp2_with fail
    refine CV.out.mono ?_
    rintro e w1 ⟨rfl, hb1⟩
    have HB1 : Hid (Below W0.heap.size W0 w1) := hb1
    obtain ⟨c0, c1⟩ := HK0.out _ hb1
    clear hb1
    go_wp2_with fail
    refine (CK.out _).mono ?_
    rintro e w2 ⟨rfl, hb2⟩
    have HB2 : Hid (Below W0.heap.size W0 w2) := HB1.out.trans (hb2.mono HB1.out.size)
    obtain ⟨d0, d1⟩ := HK0.out _ HB2.out
    clear hb2 c0 c1
    go_wp2
    go_ret
    exact HNO.out _ HB2.out HA.out
  case false =>
    have HA : Hid (nedA S T n k m = nedK m (impO S T n m)) := by show _ = _; unfold nedA; rw [hv, hkv, hk1]; rfl
    have hg : gn m = true := by
      have := hkv
      unfold kv at this
      rw [Bool.and_eq_true] at this
      exact this.2
    have hgl := gn_len hg
    go_enter Tryz.func9, Tryz.ntmps9
    go_upto_region 1 with fail
    rw [← hW0]
    clear hW0 HNO
    go_wp2_with fail
    refine CV.out.mono ?_
    rintro e w1 ⟨rfl, hb1⟩
    have HB1 : Hid (Below W0.heap.size W0 w1) := hb1
    obtain ⟨c0, c1⟩ := HK0.out _ hb1
    clear hb1
    go_wp2_with fail
    refine (CK.out _).mono ?_
    rintro e w2 ⟨rfl, hb2⟩
    have HB2 : Hid (Below W0.heap.size W0 w2) := HB1.out.trans (hb2.mono HB1.out.size)
    obtain ⟨d0, d1⟩ := HK0.out _ HB2.out
    clear hb2 c0 c1 CK CV
    go_wp2_with fail
    refine (c34 m w2 (by omega) (by omega)).mono ?_
    rintro e w3 ⟨rfl, hb3⟩
    obtain ⟨W3, hW3⟩ : ∃ W3, W3 = w3.alloc (.cells #[.int .i64 1, .string m] 31) := ⟨_, rfl⟩
    have K3 : Below W0.heap.size W0 W3 := by rw [hW3]; exact (HB2.out.trans (hb3.mono HB2.out.size)).alloc (Nat.le_trans HB2.out.size hb3.size) _
    have HB3 : Hid (Below w.heap.size w W3) := HB0.out.trans (K3.mono (by omega))
    have e1 : (HK0.out W3 K3).2 = (HK0.out W3 K3).2 := rfl
    have d3 : W3.cell? ⟨w.heap.size, 1, none⟩ = some (.string m) := (HK0.out W3 K3).2
    have hw3 : w.heap.size ≤ w3.heap.size := by have := HB2.out.size; have := hb3.size; omega
    have HO3 : Hid (W3.ownsRow w.heap.size 31 2 (.slice (some ⟨w3.heap.size, 0, none⟩) 1 1) 1 (kysC (nedK m []))) := by
      rw [hW3]; exact World.ownsRow_lit (e := 31) (size := 2) w3 #[.int .i64 1, .string m] 1 hw3 (by unfold maxLen; omega) (by rfl)
    have CP : Hid (Calls Tryz.prog 23 #[.slice ao n c, .string m] W3 fun e w' => e = .returned (.int .i64 (plI (srcI S n m))) ∧ Below W3.heap.size W3 w') := p_place W3 (HSR.out W3 HB3.out).1 m
    clear K3 e1 hb3 d0 d1
    go_upto_region 4 with fail
    rw [← hW3]
    clear hW3
    cases hi : srcI S n m with
    | none =>
      have HE : Hid (impO S T n m = []) := impO_not hi
      rw [hi] at CP
      go_wp2_with fail
      refine CP.out.mono ?_
      rintro e w4 ⟨rfl, hb4⟩
      have HB4 : Hid (Below w.heap.size w w4) := HB3.out.trans (hb4.mono HB3.out.size)
      have HO4 : Hid (w4.ownsRow w.heap.size 31 2 (.slice (some ⟨w3.heap.size, 0, none⟩) 1 1) 1 (kysC (nedK m []))) := ownR_below HO3.out hb4
      clear hb4
      simp only [plI]
      go_wp2
      go_ret
      refine ⟨HB4.out, _, rfl, ?_⟩
      rw [HA.out, HE.out]
      exact HO4.out
    | some i =>
      have hin : i < n := srcI_lt hi
      have HE : Hid (impO S T n m = addN [] (impN (dsT (T i)))) := impO_is hi
      rw [hi] at CP
      go_wp2_with fail
      refine CP.out.mono ?_
      rintro e w4 ⟨rfl, hb4⟩
      have HB4 : Hid (Below w.heap.size w w4) := HB3.out.trans (hb4.mono HB3.out.size)
      have HO4 : Hid (w4.ownsRow w.heap.size 31 2 (.slice (some ⟨w3.heap.size, 0, none⟩) 1 1) 1 (kysC (nedK m []))) := ownR_below HO3.out hb4
      obtain ⟨q1, ⟨mm, hmm⟩, eT, eV, hev⟩ := HSR.out w4 HB4.out
      have a1 := q1.at_ (by omega)
      have g1 := q1.c1 i hin
      have zT := q1.sizeT i hin
      have CU : Hid (Calls Tryz.prog 24 #[.string (T i)] w4 (UnR w4 (dsT (T i)))) := p_newUnit (T i) mm w4 zT hmm hev
      have hnn : ¬ (i : Int) < 0 := by omega
      have hge : (0 : Int) ≤ (i : Int) := by omega
      have hlen := q1.len
      clear hb4 q1 hmm hev CP
      subst a1
      simp only [plI]
      go_wp2_with fail
      refine CU.out.mono ?_
      rintro e w5 ⟨hb5, dv, fv, xs, rfl, hu⟩
      have HB5 : Hid (Below w.heap.size w w5) := HB4.out.trans (hb5.mono HB4.out.size)
      have HO5 : Hid (w5.ownsRow w.heap.size 31 2 (.slice (some ⟨w3.heap.size, 0, none⟩) 1 1) 1 (kysC (nedK m []))) := ownR_below HO4.out hb5
      have CF : Hid (Calls Tryz.prog 25 #[.agg #[dv, fv, .slice none 0 0], .int .i64 1] w5 (FsR w5 (fsX 1 xs (fstK [] (dsT (T i)))))) := p_firsts w5 hu (dsT_len (T i)) 1
      obtain ⟨ys, hys⟩ : ∃ ys, ys = fsX 1 xs (fstK [] (dsT (T i))) := ⟨_, rfl⟩
      rw [← hys] at CF
      have HFM : Hid (Fm ys) := fun x hx => hu.od.fm x (by rw [hys] at hx; exact fsX_sub _ _ _ _ hx)
      have HNM : Hid (nmY ys = impO S T n m) := by
        show nmY ys = _
        unfold nmY
        rw [hys, fsX_names, hu.is, first_names, HE.out]
      have HYL : Hid (ys.length ≤ 1000) := by
        have h1 := fsX_len 1 xs (fstK [] (dsT (T i)))
        have h2 : xs.length = (dsT (T i)).length := by rw [← hu.is, List.length_map]
        have h3 := dsT_len (T i)
        show ys.length ≤ 1000
        rw [hys]; omega
      clear hys hu hb5 CU
      go_wp2_with fail
      refine CF.out.mono ?_
      rintro e w6 ⟨hb6, v, rfl, hO⟩
      obtain ⟨ua, uc, rfl⟩ := own_form hO
      obtain ⟨N, hN⟩ : ∃ N, N = ys.length := ⟨_, rfl⟩
      have hN1 : N ≤ 1000 := by rw [hN]; exact HYL.out
      have ST : Hid (PdL w w6 m (.slice ua N uc) (.slice (some ⟨w3.heap.size, 0, none⟩) 1 1) ys 0) := ⟨HB5.out.trans (hb6.mono HB5.out.size), ownR_below HO5.out hb6, by rw [hN]; exact own_mono hO HB5.out.size⟩
      rw [← hN]
      have HN : Hid (N = ys.length) := hN
      clear hN hO hb6 CF
      go_wp2
      go_loopw [5, 41] (fun v i wr => ∃ q : Nat, q ≤ N ∧ i = .int .i64 q ∧ Hid (PdL w wr m (.slice ua N uc) v ys q)) (fun _ i _ => N - (intOf i).toNat)
      case atStart => exact ⟨0, Nat.zero_le _, rfl, ST⟩
      case round =>
        clear ST
        obtain ⟨q, hq, rfl, HI⟩ := hrel
        have OWN := HI.out.own
        obtain ⟨va, vc, hv2⟩ := own_form OWN
        subst hv2
        have HO : Hid (wr.ownsRow w.heap.size 31 2 (.slice va (q + 1) vc) (q + 1) (kysC (nedK m ((nmY ys).take q)))) := OWN
        have hsz := HI.out.below.size
        clear OWN
        by_cases hlt : q < N
        · have hO := HI.out.more
          rw [← HN.out] at hO
          obtain ⟨g, x, ta, tn, tc, ea, en, ec, rfl, hgl, c0', c1', c2, c3, hx, hdc⟩ := dk4 hO HN.out HFM.out hlt
          obtain ⟨⟨dk, nm, dt, de⟩, dp⟩ := x
          simp only at c0' c1'
          have HY : Hid (nedK m ((nmY ys).take (q + 1)) = nedK m ((nmY ys).take q) ++ [(2, nm)]) := by
            show _ = _
            have e : (nmY ys)[q]? = some nm := by unfold nmY; rw [List.getElem?_map, hx]; rfl
            rw [List.take_add_one, e, ← nedK_snoc]
            rfl
          clear hO hx hdc
          have hnew : ((wr.alloc (.cells #[.int .i64 dk, .string nm, .slice ta tn tc, .slice ea en ec] 58)).alloc (.cells #[.int .i64 2, .string nm] 31)).heap[wr.heap.size + 1]? = some (.cells #[.int .i64 2, .string nm] 31) := by
            have := heap_alloc_new (wr.alloc (.cells #[.int .i64 dk, .string nm, .slice ta tn tc, .slice ea en ec] 58)) (.cells #[.int .i64 2, .string nm] 31)
            simp only [World.size_alloc] at this
            exact this
          go_wp2_with (first | (at_builtin; refine wpList_append_lies _ rfl _ _ 27 rfl w.heap.size 31 j0 _ 2 24 Tryz.underlying27 hj0 hy0 hy1 hy2 rfl (by omega) (.slice va (q + 1) vc) (q + 1) (kysC (nedK m ((nmY ys).take q))) rfl ((HO.out.alloc _).alloc _) ⟨wr.heap.size + 1, 0, none⟩ 1 1 [.int .i64 2, .string nm] rfl rfl (World.news_of_block (cs := #[.int .i64 2, .string nm]) (t := 31) (fr := (0, 0)) hnew) (by simp [Value.oneCell']) (by omega) (by unfold maxLen; omega) (by omega) (by simp only [World.size_alloc]; omega) (wr.heap.size + 2) (by simp) ?_; intro gg cap3 w7 hown3 hg3 hat3 hlt3))
          have HF : Hid (PdL w w7 m (.slice (some ⟨g, 0, none⟩) N uc) (.slice (some ⟨gg, 0, none⟩) (q + 1 + 1) cap3) ys (q + 1)) := by
            refine ⟨below_grown (HI.out.below.alloc hsz _) hg3 (fun b e => (HO.out.lt b e).1), ?_, own_kp HI.out.more (((kp_alloc _ wr _).trans (kp_alloc _ _ _)).trans (grown_kp ((HO.out.alloc _).alloc _) hg3)) (by decide)⟩
            rw [HY.out, kysC_snoc]; exact hown3
          clear hown3 hg3 hat3 hlt3 hnew
          go_wp2
          exact ⟨⟨q + 1, by omega, by go_num, HF⟩, by simp [intOf]; omega⟩
        · have hqn : q = N := by omega
          subst hqn
          have HE2 : Hid (kysC (nedK m ((nmY ys).take q)) = kysC (nedK m (impO S T n m)) ∧ (nedK m (impO S T n m)).length = q + 1) := by
            have hl : (nmY ys).length = q := by unfold nmY; rw [List.length_map]; exact HN.out.symm
            exact ⟨by rw [List.take_of_length_le (Nat.le_of_eq hl), HNM.out], by rw [nedK_len, ← HNM.out, hl]⟩
          go_wp2
          go_ret
          refine ⟨HI.out.below, _, rfl, ?_⟩
          rw [HA.out, HE2.out.2, ← HE2.out.1]
          exact HO.out

end Go.Proofs.YtdjkgilohhjfoaaGreatDoor

namespace Go.Proofs.YtdjkgilohhjfoaaGreatDoor
open Go.RowKit

set_option maxRecDepth 100000 in
set_option maxHeartbeats 2000000 in
theorem t_markSrcs (z : Int) (p : NPl) (n : Nat) (x : Nat) (w : World) (hz : z = (x : Int)) (ha : 0 < n → p.a = some ⟨p.b, 0, none⟩) (hl : Lv w (lN p (n * 2))) (hx1 : 1 ≤ x) (hx2 : x + n * 2 ≤ 2305843009213693952) :
    Calls Tryz.prog 12 #[.slice p.a n p.c, .int .i64 z] w fun e w' => e = .returned (.int .i64 ((x + n * 2 : Nat) : Int)) ∧ Mkd w w' (lN p (n * 2)) x := by
  subst hz
  have HA : Hid (0 < n → p.a = some ⟨p.b, 0, none⟩) := ha
  have HL : Hid (Lv w (lN p (n * 2))) := hl
  have ST : Mkd w w (lN p (0 * 2)) x := mkd_of_below (Below.refl _ _) x
  clear hl ha
  go_enter Tryz.func12, Tryz.ntmps12
  go_wp2
  go_loopw [1, 5] (fun y i wr => ∃ k : Nat, k ≤ n ∧ i = .int .i64 k ∧ y = .int .i64 ((x + k * 2 : Nat) : Int) ∧ Mkd w wr (lN p (k * 2)) x) (fun _ i _ => n - (intOf i).toNat)
  case atStart => exact ⟨0, Nat.zero_le _, rfl, rfl, ST⟩
  case round =>
    obtain ⟨k, hk, rfl, rfl, hM⟩ := hrel
    clear ST
    by_cases hlt : k < n
    · have e1 := HA.out (by omega)
      rw [e1]
      clear e1
      have HM : Hid (Mkd w wr (lN p (k * 2)) x) := hM
      obtain ⟨y, hy⟩ : ∃ y : Nat, y = x + k * 2 := ⟨_, rfl⟩
      have HX : Hid (y = x + k * 2) := hy
      have hy1 : 1 ≤ y := by omega
      have hy2 : y + 1 ≤ 2305843009215791104 := by omega
      rw [← hy]
      clear hM hy
      go_wp2_with fail
      refine (t_markText _ y _ (by omega) (by omega) (by omega)).mono ?_
      rintro e w2 ⟨rfl, hb2⟩
      have M2 := HM.out.below hb2
      obtain ⟨W2, v0, k0⟩ := M2.look HL.out (lN_mem (show k * 2 < n * 2 by omega)) (fun b hb => lN_ds p (k * 2) b hb _ (List.mem_singleton.2 rfl))
      have f0 := W2.frozen (k * 2)
      have k0 : w2.cell? ⟨p.b, k * 2, none⟩ = some v0 := k0
      have HN : Hid (Mkd w (w2.setCell ⟨p.b, k * 2, none⟩ (.string (mt y))) (lN p (k * 2 + 1)) x) := by
        have := M2.app (mkd_one (o := k * 2) true y W2 ⟨v0, k0⟩) (by rw [lN_len]; exact HX.out) (lN_ds p (k * 2))
        rw [← lN_succ] at this
        exact this
      clear W2 M2 hb2 HM
      go_wp2_with fail
      refine (t_markText _ (y + 1) _ (by omega) (by omega) (by omega)).mono ?_
      rintro e w3 ⟨rfl, hb3⟩
      have M3 := HN.out.below hb3
      obtain ⟨W3, v1, k1⟩ := M3.look HL.out (lN_mem (show k * 2 + 1 < n * 2 by omega)) (fun b hb => lN_ds p (k * 2 + 1) b hb _ (List.mem_singleton.2 rfl))
      have f1 := W3.frozen (k * 2 + 1)
      have k1 : w3.cell? ⟨p.b, k * 2 + 1, none⟩ = some v1 := k1
      have HN2 : Hid (Mkd w (w3.setCell ⟨p.b, k * 2 + 1, none⟩ (.string (mt (y + 1)))) (lN p ((k + 1) * 2)) x) := by
        have := M3.app (mkd_one (o := k * 2 + 1) true (y + 1) W3 ⟨v1, k1⟩) (by rw [lN_len, HX.out]; omega) (lN_ds p (k * 2 + 1))
        rw [← lN_succ] at this
        rw [show (k + 1) * 2 = k * 2 + 1 + 1 by omega]
        exact this
      clear W3 M3 hb3 HN
      go_wp2
      go_roundw
      case rel => exact ⟨k + 1, by omega, by go_num, by have := HX.out; first | (congr 1; omega) | (simp; omega), HN2.out⟩
      case measure => simp [intOf]; omega
    · have hkn : k = n := by omega
      subst hkn
      have FIN : Hid (Mkd w wr (lN p (k * 2)) x) := hM
      clear hM
      go_wp2
      go_ret
      exact ⟨rfl, FIN.out⟩

end Go.Proofs.YtdjkgilohhjfoaaGreatDoor

