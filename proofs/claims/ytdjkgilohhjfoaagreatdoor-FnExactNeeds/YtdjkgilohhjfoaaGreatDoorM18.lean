/-
  Merged for the claim: PgP PgQ.
-/
import Derived.Test.YtdjkgilohhjfoaaGreatDoorM17
import Derived.Test.YtdjkgilohhjfoaaGreatDoorPgO
namespace Go.Proofs.YtdjkgilohhjfoaaGreatDoor
open Go.RowKit

/-- l2Atom, whole. -/
theorem m_atom {tb o c : Nat} {ao : Option Addr} {ts : List TK} (ok : TkOK ts) {f : Nat} (IH : MEC tb o ts f) (w : World) (h : MS w tb o ao ts) {i : Nat} (hf : ts.length - i < f + 1) (hi9 : i ≤ 1100) :
    Calls Tryz.prog 89 #[.slice ao ts.length c, .int .i64 (i : Int)] w (MER w (atomP false ts (exP false ts f) i)) := by
  cases hc : isC ts i 1 with
  | true =>
    cases p1 : isT ts (i + 1) sColon with
    | false => exact ma_name0 w h hi9 hc p1
    | true =>
      cases p2 : isC ts (i + 2) 1 with
      | false => exact ma_name1 w h hi9 hc p1 p2
      | true => exact ma_path w h hi9 hc p1 p2
  | false =>
    cases h3 : isC ts i 3 with
    | true => exact ma_num w h ok h3
    | false =>
      cases q0 : isT ts i sTrue with
      | true => exact ma_true w h q0
      | false =>
        cases q1 : isT ts i sFalse with
        | true => exact ma_false w h q0 q1
        | false =>
          cases q2 : isT ts i sLeft with
          | true => exact ma_brk IH w h hf q2
          | false =>
            cases q3 : isT ts i sOpen with
            | true => exact ma_rec IH w h hf q3
            | false => exact ma_none w h hi9 hc h3 q0 q1 q2 q3

/-- What is read so far, in a box. -/
structure MPo (w : World) (Lb : Nat) (ts : List TK) (PL : Nat → List EI → Nat → Option (List EI × Nat)) (Rr : Option (List EI × Nat)) (j : Nat) (zs : List (EI × EPl)) (va : Option Addr) (n c' : Nat) (wr : World) : Prop where
  below : Below w.heap.size w wr
  box : wr.rowIs w.heap.size 111 2 (v2 (.slice none 0 0) (.int .i64 0))
  left : wr.rowIs Lb 111 2 (v2 (.slice va n c') (.int .i64 (j : Int)))
  lb : w.heap.size < Lb
  items : RE (w.heap.size + 1) wr (.slice va n c') zs
  is : ∃ f, Rr = PL f (zs.map Prod.fst) j ∧ ts.length + 1 ≤ f + j
  ple : j ≤ ts.length
  few : zs.length ≤ j
  len : n = zs.length

theorem MPo.c0 {w : World} {Lb : Nat} {ts : List TK} {PL : Nat → List EI → Nat → Option (List EI × Nat)} {Rr : Option (List EI × Nat)} {j : Nat} {zs : List (EI × EPl)} {va : Option Addr} {n c' : Nat} {wr : World} (h : MPo w Lb ts PL Rr j zs va n c' wr) : wr.cell? ⟨Lb, 0, none⟩ = some (.slice va n c') := h.left.cell (i := 0) (by omega)
theorem MPo.c1 {w : World} {Lb : Nat} {ts : List TK} {PL : Nat → List EI → Nat → Option (List EI × Nat)} {Rr : Option (List EI × Nat)} {j : Nat} {zs : List (EI × EPl)} {va : Option Addr} {n c' : Nat} {wr : World} (h : MPo w Lb ts PL Rr j zs va n c' wr) : wr.cell? ⟨Lb, 1, none⟩ = some (.int .i64 (j : Int)) := h.left.cell (i := 1) (by omega)

/-- The box of what is read so far is written. -/
theorem mpo_set {w w9 : World} {Lb n c k' : Nat} {f g : Nat → Value} {va : Option Addr} {k : Int} {zs : List (EI × EPl)} (B9 : Below w.heap.size w w9) (X9 : w9.rowIs w.heap.size 111 k' g) (L9 : w9.rowIs Lb 111 2 f) (hlb : w.heap.size < Lb) (I9 : RE (w.heap.size + 1) w9 (.slice va n c) zs) :
    Below w.heap.size w ((w9.setCell ⟨Lb, 0, none⟩ (.slice va n c)).setCell ⟨Lb, 1, none⟩ (.int .i64 k)) ∧ ((w9.setCell ⟨Lb, 0, none⟩ (.slice va n c)).setCell ⟨Lb, 1, none⟩ (.int .i64 k)).rowIs w.heap.size 111 k' g ∧ ((w9.setCell ⟨Lb, 0, none⟩ (.slice va n c)).setCell ⟨Lb, 1, none⟩ (.int .i64 k)).rowIs Lb 111 2 (v2 (.slice va n c) (.int .i64 k)) ∧ RE (w.heap.size + 1) ((w9.setCell ⟨Lb, 0, none⟩ (.slice va n c)).setCell ⟨Lb, 1, none⟩ (.int .i64 k)) (.slice va n c) zs := by
  have hb : ∀ b, b ≠ Lb → ((w9.setCell ⟨Lb, 0, none⟩ (.slice va n c)).setCell ⟨Lb, 1, none⟩ (.int .i64 k)).heap[b]? = w9.heap[b]? := fun b hb => by
    rw [Below.heap_setCell _ _ _ _ (by show b ≠ Lb; exact hb), Below.heap_setCell _ _ _ _ (by show b ≠ Lb; exact hb)]
  refine ⟨⟨B9.os, B9.tape, B9.output, by rw [World.size_setCell, World.size_setCell]; exact B9.size, fun b hb' => (hb b (by omega)).trans (B9.block b hb')⟩, X9.of_block (hb _ (by omega)), ((L9.set 0 (.slice va n c)).set 1 (.int .i64 k)).congr (fun i hi => by
    match i, hi with
    | 0, _ => rfl
    | 1, _ => rfl), I9.kp ((kp_set L9 0 _).trans (kp_set (L9.set 0 _) 1 _)) (by decide) (by decide) (by decide)⟩

/-- There is nothing to be read. -/
structure SNo (w : World) (Lb : Nat) (Rr : Option (List EI × Nat)) (wr : World) : Prop where
  below : Below w.heap.size w wr
  box : wr.rowIs w.heap.size 111 2 (v2 (.slice none 0 0) (.int .i64 0))
  left : ∃ va n c', wr.rowIs Lb 111 2 (v2 (.slice va n c') (.int .i64 (-1)))
  lb : w.heap.size < Lb
  is : Rr = none

theorem MPo.on {w wr w1 : World} {Lb : Nat} {ts : List TK} {PL : Nat → List EI → Nat → Option (List EI × Nat)} {Rr : Option (List EI × Nat)} {j : Nat} {zs : List (EI × EPl)} {va : Option Addr} {n c' : Nat} (h : MPo w Lb ts PL Rr j zs va n c' wr) (hb : Below wr.heap.size wr w1) : MPo w Lb ts PL Rr j zs va n c' w1 :=
  ⟨h.below.trans (hb.mono h.below.size), h.box.of_block (hb.block _ h.box.lt), h.left.of_block (hb.block _ h.left.lt), h.lb, h.items.below hb, h.is, h.ple, h.few, h.len⟩

def atOf (Lb : Nat) (wr : World) : Nat := match wr.cell? ⟨Lb, 1, none⟩ with
  | some (.int _ k) => 2000 - k.toNat
  | _ => 0
theorem atOf_is {Lb : Nat} {wr : World} {k : Int} (h : wr.cell? ⟨Lb, 1, none⟩ = some (.int .i64 k)) : atOf Lb wr = 2000 - k.toNat := by unfold atOf; rw [h]

end Go.Proofs.YtdjkgilohhjfoaaGreatDoor

namespace Go.Proofs.YtdjkgilohhjfoaaGreatDoor
open Go.RowKit

set_option maxRecDepth 100000 in
set_option maxHeartbeats 8000000 in
theorem m_sum {tb o c : Nat} {ao : Option Addr} {ts : List TK} {f : Nat} (HPo : ∀ (w : World) (i : Nat), MS w tb o ao ts → ts.length - i < f + 1 → i ≤ 1100 → Calls Tryz.prog 83 #[.slice ao ts.length c, .int .i64 (i : Int)] w (MER w (postP false ts (exP false ts f) i))) (w : World) (h : MS w tb o ao ts) {i : Nat} (hf : ts.length - i < f + 1) (hi9 : i ≤ 1100) :
    Calls Tryz.prog 75 #[.slice ao ts.length c, .int .i64 (i : Int)] w (MER w (sumP false ts (exP false ts f) i)) := by
  obtain ⟨i0, hi0, hz0, hz1, hz2⟩ := info_parts Tryz.infoEI
  have hln := h.tk.len
  have HMW : Hid (∀ W, Below w.heap.size w W → MS W tb o ao ts) := fun W hb => h.below hb
  have C1 : Hid (Calls Tryz.prog 83 #[.slice ao ts.length c, .int .i64 (i : Int)] (bxE w) (MER (bxE w) (postP false ts (exP false ts f) i))) := HPo (bxE w) i (h.below (bel1 _ _)) hf hi9
  have HPO : Hid (∀ (w : World) (i : Nat), MS w tb o ao ts → ts.length - i < f + 1 → i ≤ 1100 → Calls Tryz.prog 83 #[.slice ao ts.length c, .int .i64 (i : Int)] w (MER w (postP false ts (exP false ts f) i))) := HPo
  have HFP : Hid (Far ts.length (postP false ts (exP false ts f))) := post_far (ex_far f)
  obtain ⟨PL, hPL⟩ : ∃ PL, PL = sumL false ts (exP false ts f) := ⟨_, rfl⟩
  have HPL : Hid (PL = sumL false ts (exP false ts f)) := hPL
  obtain ⟨Rr, hRr⟩ : ∃ Rr, Rr = sumP false ts (exP false ts f) i := ⟨_, rfl⟩
  have HR0 : Hid (sumP false ts (exP false ts f) i = Rr) := hRr.symm
  have HF : Hid (ts.length - i < f + 1) := hf
  clear h HPo hPL hRr hf
  go_enter Tryz.func75, Tryz.ntmps75
  go_wp2_with fail
  refine C1.out.mono ?_
  rintro e w2 ⟨hb2, hr⟩
  have X2 := (row2 w (.slice none 0 0) (.int .i64 0) 111).of_block (hb2.block _ (by simp))
  have B2 : Below w.heap.size w w2 := (bel1 _ _).trans (hb2.mono (by simp))
  have hxl := X2.lt
  obtain ⟨va0, n0, c0, k0, he, HST⟩ : ∃ va n c' k, e = .returned (.agg #[.slice va n c', .int .i64 k]) ∧ Hid (SNo w w2.heap.size Rr (w2.alloc (.cells #[.slice va n c', .int .i64 k] 111)) ∨ ∃ j zs va' n' c'', i < j ∧ MPo w w2.heap.size ts PL Rr j zs va' n' c'' (w2.alloc (.cells #[.slice va n c', .int .i64 k] 111))) := by
    have hu : Rr = match postP false ts (exP false ts f) i with
      | none => none
      | some (l, j) => sumL false ts (exP false ts f) (ts.length + 1) l j := by
      rw [← HR0.out]; unfold sumP
      cases postP false ts (exP false ts f) i with
      | none => rfl
      | some z => rfl
    cases hp : postP false ts (exP false ts f) i with
    | none =>
      rw [hp] at hr hu
      obtain ⟨va, n, c', rfl⟩ := hr
      exact ⟨va, n, c', -1, rfl, Or.inl ⟨B2.alloc B2.size _, X2.alloc _, ⟨va, n, c', row2 w2 _ _ _⟩, hxl, hu⟩⟩
    | some z =>
      obtain ⟨l, j⟩ := z
      rw [hp] at hr hu
      obtain ⟨va, n, c', k, zs, rfl, rfl, hrt, hzs⟩ := hr
      obtain ⟨far1, far2, far3⟩ := HFP.out _ _ _ hp
      have hzl : zs.length = l.length := by rw [← hzs, List.length_map]
      exact ⟨va, n, c', j, rfl, Or.inr ⟨j, zs, va, n, c', far2, B2.alloc B2.size _, X2.alloc _, row2 w2 _ _ _, hxl, (hrt.mono (by simp)).below (bel1 _ _), ⟨ts.length + 1, by rw [hu, HPL.out, hzs], by omega⟩, far3, by omega, own_len hrt.own⟩⟩
  subst he
  obtain ⟨Lb, hLb⟩ : ∃ Lb, Lb = w2.heap.size := ⟨_, rfl⟩
  clear hr X2 B2 hb2
  go_wp2
  go_loopw [6] (fun _ wr => Hid (SNo w w2.heap.size Rr wr ∨ ∃ j zs va' n' c'', i < j ∧ MPo w w2.heap.size ts PL Rr j zs va' n' c'' wr)) (fun _ wr => atOf w2.heap.size wr)
  case atStart => exact HST
  case round =>
    clear HST
    rw [← hLb] at *
    rcases hrel.out with HS | ⟨j, zs, va, n, c', hij, HG⟩
    · have HSN : Hid (SNo w Lb Rr wr) := HS
      clear hrel
      obtain ⟨va, n, c', hl⟩ := HS.left
      have l0 : wr.cell? ⟨Lb, 0, none⟩ = some (.slice va n c') := hl.cell (i := 0) (by omega)
      have l1 : wr.cell? ⟨Lb, 1, none⟩ = some (.int .i64 (-1)) := hl.cell (i := 1) (by omega)
      clear HS hl
      have XR := HSN.out.box
      have HXR : Hid (wr.rowIs w.heap.size 111 2 (v2 (.slice none 0 0) (.int .i64 0))) := XR
      have d0 := XR.cell (i := 0) (by omega)
      have d1 := XR.cell (i := 1) (by omega)
      have z0 := XR.frozen 0
      have z1 := XR.frozen 1
      clear XR
      go_wp2
      have RX := (HXR.out.set 0 (.slice va n c')).set 1 (.int .i64 (-1))
      refine bodyPost_ret (ret_ex (k := 4) rfl (RX.cell (i := 0) (by omega)) (RX.cell (i := 1) (by omega)) _ rfl) rfl ?_
      rw [HR0.out, HSN.out.is]
      exact ⟨below_box HSN.out.below _ _, va, n, c', rfl⟩
    · have HG0 : Hid (MPo w Lb ts PL Rr j zs va n c' wr) := HG
      have HIJ : Hid (i < j) := hij
      have l0 := HG.c0
      have l1 := HG.c1
      have g0 : ¬ (j : Int) < 0 := by omega
      have g1 : (0 : Int) ≤ (j : Int) := by omega
      have g2 : decide ((0 : Int) ≤ (j : Int)) = true := decide_eq_true g1
      have hjl := HG.ple
      have hfew := HG.few
      have hws := HG.below.size
      have hxlt0 := HG.box.lt
      have HM : Hid (MS wr tb o ao ts) := HMW.out wr HG.below
      obtain ⟨f0, hf0, hfu⟩ := HG.is
      have HIS0 : Hid (Rr = sumL false ts (exP false ts f) f0 (zs.map Prod.fst) j) := by show _ = _; rw [hf0, HPL.out]
      obtain ⟨f1, hf1⟩ : ∃ f1, f0 = f1 + 1 := ⟨f0 - 1, by omega⟩
      have HF1 : Hid (f0 = f1 + 1 ∧ ts.length + 1 ≤ f0 + j) := ⟨hf1, hfu⟩
      clear hrel HG hf0 hf1 hfu hij
      cases hpl : isT ts j sPlus with
      | false =>
        have HYES : Hid (Rr = some (zs.map Prod.fst, j)) := by show _ = _; rw [HIS0.out, HF1.out.1, sumL, hpl]; rfl
        go_wp2_with fail
        refine (m_isb HM.out (i := j) (rfl) (l := sPlus) hpl rfl (by decide)).mono ?_
        rintro e w' ⟨rfl, rfl⟩
        have XR := HG0.out.box
        have HXR : Hid (wr.rowIs w.heap.size 111 2 (v2 (.slice none 0 0) (.int .i64 0))) := XR
        have d0 := XR.cell (i := 0) (by omega)
        have d1 := XR.cell (i := 1) (by omega)
        have z0 := XR.frozen 0
        have z1 := XR.frozen 1
        clear XR
        go_wp2
        have RX := (HXR.out.set 0 (.slice va n c')).set 1 (.int .i64 (j : Int))
        obtain ⟨W1, W2⟩ := box_ex HG0.out.below HXR.out (.slice va n c') (.int .i64 (j : Int))
        refine bodyPost_ret (ret_ex (k := 4) rfl (RX.cell (i := 0) (by omega)) (RX.cell (i := 1) (by omega)) _ rfl) rfl ?_
        rw [HR0.out, HYES.out]
        exact ⟨W1, va, n, c', (j : Int), zs, rfl, rfl, (W2 _ _ _ HG0.out.items).mono (by omega), rfl⟩
      | true =>
        have hjp := isT_lt hpl
        have C4 : Hid (Calls Tryz.prog 83 #[.slice ao ts.length c, .int .i64 ((j : Int) + 1)] wr (MER wr (postP false ts (exP false ts f) (j + 1)))) := by
          have := HPO.out wr (j + 1) HM.out (by have := HF.out; have := HIJ.out; omega) (by omega)
          rw [show ((j + 1 : Nat) : Int) = (j : Int) + 1 by omega] at this
          exact this
        go_wp2_with fail
        refine (m_isb HM.out (i := j) (rfl) (l := sPlus) hpl rfl (by decide)).mono ?_
        rintro e w' ⟨rfl, rfl⟩
        go_wp2_with fail
        refine C4.out.mono ?_
        rintro e w4 ⟨hb4, hr4⟩
        have HG4 : Hid (MPo w Lb ts PL Rr j zs va n c' w4) := HG0.out.on hb4
        cases ht : postP false ts (exP false ts f) (j + 1) with
        | none =>
          rw [ht] at hr4
          obtain ⟨va', n', c'', rfl⟩ := hr4
          have HNO : Hid (Rr = none) := by show _ = _; rw [HIS0.out, HF1.out.1, sumL, hpl, ht]; rfl
          have HX4 : Hid (w4.rowIs w.heap.size 111 2 (v2 (.slice none 0 0) (.int .i64 0))) := HG4.out.box
          clear hb4 ht
          have R7 := HX4.out.alloc (.cells #[Value.slice va' n' c'', .int .i64 (-1)] 111)
          have x0' := R7.cell (i := 0) (by omega)
          have x1' := R7.cell (i := 1) (by omega)
          have y0' := R7.frozen 0
          have y1' := R7.frozen 1
          have R8 := (HX4.out.set 0 (Value.slice va' n' c'')).alloc (.cells #[Value.slice va' n' c'', .int .i64 (-1)] 111)
          have x0'' := R8.cell (i := 0) (by omega)
          have x1'' := R8.cell (i := 1) (by omega)
          have y0'' := R8.frozen 0
          have y1'' := R8.frozen 1
          have R9 := ((HX4.out.set 0 (Value.slice va' n' c'')).set 1 (.int .i64 (-1))).alloc (.cells #[Value.slice va' n' c'', .int .i64 (-1)] 111)
          have xlt6 := HX4.out.lt
          clear R7 R8
          go_wp2
          refine bodyPost_ret (ret_ex (k := 4) rfl (R9.cell (i := 0) (by omega)) (R9.cell (i := 1) (by omega)) _ rfl) rfl ?_
          rw [HR0.out, HNO.out]
          exact ⟨(below_box HG4.out.below _ _).alloc (below_box HG4.out.below _ _).size _, va', n', c'', rfl⟩
        | some z =>
          obtain ⟨l2, k⟩ := z
          rw [ht] at hr4
          obtain ⟨va', n', c'', k', ys, rfl, rfl, hrt, hys⟩ := hr4
          obtain ⟨far1, far2, far3⟩ := HFP.out _ _ _ ht
          have HYL : Hid (ys.length + j + 1 ≤ k) := by
            have hyl : ys.length = l2.length := by rw [← hys, List.length_map]
            show _ ≤ _; omega
          have hyb := HYL.out
          have hk0 : ¬ (k : Int) < 0 := by omega
          have HY4 : Hid (RE (w.heap.size + 1) w4 (.slice va' n' c'') ys) := hrt.mono (by omega)
          have HYS : Hid (ys.map Prod.fst = l2) := hys
          have HIS : Hid (∃ f, Rr = PL f (zs.map Prod.fst ++ l2 ++ [exO 9]) k ∧ ts.length + 1 ≤ f + k) := ⟨f1, by rw [HPL.out, HIS0.out, HF1.out.1, sumL, hpl, ht]; rfl, by have := HF1.out; omega⟩
          clear hb4 ht hrt hys l0 l1
          have B5 := bel1 w4 (.cells #[.slice va' n' c'', .int .i64 (k : Int)] 111)
          have G5 := HG4.out.on B5
          have l0 := G5.c0
          have CJ : Hid (Calls Tryz.prog 74 #[.slice va n c', .slice va' n' c''] (w4.alloc (.cells #[.slice va' n' c'', .int .i64 (k : Int)] 111)) fun e w' => (∃ va n c, e = .returned (.slice va n c) ∧ Hid (RE (w.heap.size + 1) w' (.slice va n c) (zs ++ ys))) ∧ Hid (Below (w4.alloc (.cells #[.slice va' n' c'', .int .i64 (k : Int)] 111)).heap.size (w4.alloc (.cells #[.slice va' n' c'', .int .i64 (k : Int)] 111)) w')) :=
            m_joinE _ G5.items (HY4.out.below B5) (by have := G5.few; have := G5.ple; omega) (by have := G5.below.size; have := G5.box.lt; omega)
          have HG5 : Hid (MPo w Lb ts PL Rr j zs va n c' (w4.alloc (.cells #[.slice va' n' c'', .int .i64 (k : Int)] 111))) := G5
          have RR := row2 w4 (.slice va' n' c'') (.int .i64 (k : Int)) 111
          clear G5 B5
          go_wp2_with fail
          refine CJ.out.mono ?_
          rintro e w8 ⟨⟨va8, n8, c8, rfl, H8⟩, hb8⟩
          have en := own_len H8.out.own
          obtain ⟨N, hN⟩ : ∃ N, N = (zs ++ ys).length := ⟨_, rfl⟩
          rw [← hN] at en
          have en := en.symm
          subst en
          have HN : Hid (N = (zs ++ ys).length) := hN
          have hNb : N ≤ 4000 := by rw [hN, List.length_append]; have := HG5.out.few; have := HG5.out.ple; omega
          have HO : Hid (RE (w.heap.size + 1) w8 (.slice va8 N c8) (zs ++ ys)) := H8
          have HOW : Hid (w8.ownsRow (w.heap.size + 1) 123 6 (.slice va8 N c8) N (eisC (zs ++ ys))) := by have := HO.out.own; rw [← hN] at this; exact this
          have k1 : w8.cell? ⟨w4.heap.size, 1, none⟩ = some (.int .i64 (k : Int)) := (RR.of_block (hb8.out.block _ RR.lt)).cell (i := 1) (by omega)
          have HG8 : Hid (MPo w Lb ts PL Rr j zs va n c' w8) := HG5.out.on hb8.out
          have hws8 : w4.heap.size + 1 ≤ w8.heap.size := by have := hb8.out.size; simp at this; omega
          have hLlt := HG4.out.left.lt
          have hne1 : Lb ≠ w4.heap.size := by omega
          have hxlt := HG4.out.box.lt
          have hlb := HG4.out.lb
          have HK8 : Hid (∀ o : Obj, ((w8.alloc o).drew).cell? ⟨w4.heap.size, 1, none⟩ = some (.int .i64 (k : Int))) := fun o => (bel1 w8 o).cell (p := ⟨w4.heap.size, 1, none⟩) (World.block_lt_of_cell? _ _ k1) |>.trans k1
          have HSR : Hid (∀ b, (Value.slice va8 N c8).ownBlock = some b → b ≠ w4.heap.size) := fun b e z => by
            subst z
            exact own_box HOW.out (RR.of_block (hb8.out.block _ RR.lt)) (by decide) e
          have HSL : Hid (∀ b, (Value.slice va8 N c8).ownBlock = some b → b ≠ Lb) := fun b e z => by
            subst z
            exact own_box HOW.out HG8.out.left (by decide) e
          clear hN CJ RR hb8 H8 l0
          go_wp2
          go_region_held3 (fun w' => w'.cell? ⟨w4.heap.size, 1, none⟩ = some (.int .i64 (k : Int))) (go_keep) ((refine step_append_lies _ (by rfl) _ _ _ (by rfl) (w.heap.size + 1) 123 i0 _ 6 96 Tryz.underlying56 hi0 hz0 hz1 hz2 rfl (by omega) (.slice va8 N c8) N (eisC (zs ++ ys)) (by rfl) ((HOW.out.alloc _).drew) ⟨w8.heap.size, 0, none⟩ 1 1 [.int .i64 9, .int .i64 0, .string ⟨#[]⟩, .string ⟨#[]⟩, .slice none 0 0, .slice none 0 0] (by rfl) (by rfl) (World.news_of_block (cs := #[.int .i64 9, .int .i64 0, .string ⟨#[]⟩, .string ⟨#[]⟩, .slice none 0 0, .slice none 0 0]) (t := 123) (fr := (0, 0)) (heap_alloc_new w8 _)) (by simp [Value.oneCell']) (by omega) (by unfold maxLen; omega) (by omega) (by simp; omega) (w8.heap.size + 1) (by simp) ?_; intro gg cap3 w9 hown3 hg3 hat3 hlt3; have f1 : w9.cell? ⟨w4.heap.size, 1, none⟩ = some (.int .i64 (k : Int)) := (hg3.cell_far ⟨w4.heap.size, 1, none⟩ (by simp; omega) (fun e => HSR.out _ e.symm rfl)).trans (HK8.out _); have L9 : w9.rowIs Lb 111 2 (v2 (.slice va n c') (.int .i64 (j : Int))) := (HG8.out.left.alloc _).of_block (hg3.block _ (by simp; omega) (fun e => HSL.out _ e.symm rfl)); have d0 := L9.cell (i := 0) (by omega); have d1 := L9.cell (i := 1) (by omega); have z0 := L9.frozen 0; have z1 := L9.frozen 1))
          have hg := grown_undrew hg3
          have NX := HO.out.push (x := (exO 9, ep0)) (by rw [← HN.out]; exact hown3) hg ⟨NmOK.nil _ _ _, (OT.nil _ _).rt, rfl⟩
          rw [← HN.out] at NX
          have B9 := below_grown HG8.out.below hg (fun b e => by have := (HOW.out.lt b e).1; omega)
          have X9 : w9.rowIs w.heap.size 111 2 (v2 (.slice none 0 0) (.int .i64 0)) := (HG8.out.box.alloc _).of_block (hg3.block _ (by simp; omega) (fun e => by have := (HOW.out.lt _ e.symm).1; omega))
          have HNX : Hid (∀ kk : Int, kk = (k : Nat) → MPo w Lb ts PL Rr (k) (zs ++ ys ++ [(exO 9, ep0)]) (some ⟨gg, 0, none⟩) (N + 1) cap3 ((w9.setCell ⟨Lb, 0, none⟩ (.slice (some ⟨gg, 0, none⟩) (N + 1) cap3)).setCell ⟨Lb, 1, none⟩ (.int .i64 kk))) := fun kk hkk => by
            subst hkk
            obtain ⟨S1, S2, S3, S4⟩ := mpo_set (k := ((k : Nat) : Int)) B9 X9 L9 HG4.out.lb NX
            exact ⟨S1, S2, S3, HG4.out.lb, S4, by obtain ⟨f1, h1, h2⟩ := HIS.out; exact ⟨f1, by rw [h1, List.map_append, List.map_append, HYS.out]; rfl, h2⟩, by omega, by have := HG4.out.few; have := HYL.out; rw [List.length_append, List.length_append]; simp only [List.length_singleton]; omega, by rw [List.length_append, ← HN.out]; rfl⟩
          clear hown3 hg3 hg NX
          go_wp2
          exact ⟨Or.inr ⟨k, _, _, _, _, by have := HIJ.out; omega, HNX.out _ (rfl)⟩, by rw [atOf_is (HNX.out _ (rfl)).c1, atOf_is HG0.out.c1]; omega⟩

end Go.Proofs.YtdjkgilohhjfoaaGreatDoor

