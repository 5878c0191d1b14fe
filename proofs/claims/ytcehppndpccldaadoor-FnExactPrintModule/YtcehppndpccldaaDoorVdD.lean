/-
  The model's PrintModule.
-/
import Derived.Test.YtcehppndpccldaaDoorM7
namespace Go.Proofs.YtcehppndpccldaaDoor
open Go.RowKit

set_option maxRecDepth 100000 in
set_option maxHeartbeats 4000000 in
theorem v_print (w : World) {v : Value} {xs : List (DC × DPl)} (h : DsA w v xs) {l : List DC} (hl : xs.map Prod.fst = l) :
    Calls Tryd.prog 10 #[.agg #[v]] w fun e w' => e = .returned (.string (prM l)) ∧ Below w.heap.size w w' := by
  obtain ⟨a, c, rfl⟩ := h.form
  have hlen := h.len
  have ll : l.length = xs.length := by rw [← hl, List.length_map]
  have hat : ∀ {k : Nat} (hk : k < xs.length), l[k]'(by omega) = xs[k].1 := fun {k} hk => by subst hl; rw [List.getElem_map]
  have hcost : cDs l ≤ 1048576 := by rw [← hl]; exact h.cost
  have HPS : Hid (∀ {k : Nat} (hk : k < xs.length), prDs (l.take (k + 1)) = prDs (l.take k) ++ prD xs[k].1) := fun {k} hk => by rw [prDs_take (by omega), hat hk]
  have HTK : Hid (l.take xs.length = l) := by show _ = _; rw [← ll]; exact List.take_length
  have HDS : Hid (∀ W, Below w.heap.size w W → DsA W (.slice a xs.length c) xs) := fun W hb => h.below hb
  have CV : Hid (∀ W, Below w.heap.size w W → Calls Tryd.prog 6 #[.agg #[.slice a xs.length c]] W fun e w' => e = .returned (.bool (okM l)) ∧ Below W.heap.size W w') := fun W hb => v_valid W (h.below hb) hl
  have HNO : Hid (okM l = false → prM l = e0) := fun z => by unfold prM; rw [z]; rfl
  have HYES : Hid (okM l = true → prM l = prDs l ∧ (∀ {k : Nat} (hk : k < xs.length), okD xs[k].1 = true) ∧ ∀ k, (prDs (l.take k)).size ≤ 33554432) := fun z => by
    refine ⟨by unfold prM; rw [if_pos z], fun {k} hk => ?_, fun k => ?_⟩
    · unfold okM at z
      rw [Bool.and_eq_true] at z
      have := List.all_eq_true.1 z.1 _ (List.getElem_mem (show k < l.length by omega))
      rw [hat hk] at this
      exact this
    · unfold okM at z
      rw [Bool.and_eq_true] at z
      have h1 : (l.take k).all okD = true := List.all_eq_true.2 fun x hx => List.all_eq_true.1 z.1 x (List.mem_of_mem_take hx)
      have := (prDs_le h1).2
      have := cDs_take l k
      omega
  obtain ⟨r, hr⟩ : ∃ r, r = prM l := ⟨_, rfl⟩
  rw [← hr] at HNO HYES ⊢
  clear h hl ll hat hcost hr
  obtain ⟨w1, hw1⟩ : ∃ W, W = w.alloc (.cells #[.slice a xs.length c] 29) := ⟨_, rfl⟩
  have HB1 : Hid (Below w.heap.size w w1) := by rw [hw1]; exact bel1 _ _
  have HC : Hid (∀ W : World, Below w1.heap.size w1 W → W.cell? ⟨w.heap.size, 0, none⟩ = some (.slice a xs.length c)) := fun W hb => by
    have k0 : w1.cell? ⟨w.heap.size, 0, none⟩ = some (.slice a xs.length c) := by rw [hw1]; exact (row1 w (.slice a xs.length c) 29).cell (i := 0) (by omega)
    exact (hb.cell (p := ⟨w.heap.size, 0, none⟩) (World.block_lt_of_cell? _ _ k0)).trans k0
  have C1 := CV.out w1 HB1.out
  go_enter Tryd.func10, Tryd.ntmps10
  go_wp2_with fail
  rw [← hw1]
  clear hw1
  refine C1.mono ?_
  rintro e w2 ⟨rfl, hb2⟩
  have HW2 : Hid (Below w1.heap.size w1 w2) := hb2
  clear hb2 C1 CV
  cases hv : okM l with
  | false =>
    have HF : Hid (r = e0) := HNO.out hv
    go_wp2
    go_ret
    exact ⟨by rw [HF.out]; rfl, HB1.out.trans (HW2.out.mono HB1.out.size)⟩
  | true =>
    obtain ⟨u1, u2, u3⟩ := HYES.out hv
    have HF : Hid (r = prDs l) := u1
    have HO : Hid (∀ {k : Nat} (hk : k < xs.length), okD xs[k].1 = true) := u2
    have HPB : Hid (∀ k, (prDs (l.take k)).size ≤ 33554432) := u3
    clear u1 u2 u3 HYES HNO hv
    go_wp2
    go_loopw [3, 4] (fun sv i wq => ∃ (k : Nat) (s : ByteArray), k ≤ xs.length ∧ i = .int .i64 k ∧ sv = .string s ∧ Hid (s = prDs (l.take k)) ∧ Hid (Below w1.heap.size w1 wq)) (fun _ i _ => xs.length - (intOf i).toNat)
    case atStart => exact ⟨0, _, Nat.zero_le _, rfl, rfl, rfl, HW2⟩
    case round =>
      obtain ⟨k, s, hk, rfl, rfl, HS, HW⟩ := hrel
      have HWw : Hid (Below w.heap.size w wr) := HB1.out.trans (HW.out.mono HB1.out.size)
      have kc := HC.out wr HW.out
      by_cases hlt : k < xs.length
      · obtain ⟨g, ta, tc, ea, ec, rfl, y0, y1, y2, y3, di, dv⟩ := (HDS.out wr HWw.out).item hlt
        have p1 := HPS.out hlt
        rw [← HS.out] at p1
        have hsb := HPB.out (k + 1)
        rw [p1, ByteArray.size_append] at hsb
        have CP := v_printDecl wr di (HO.out hlt)
        rw [dv] at CP
        obtain ⟨X, hX⟩ : ∃ X, X = xs[k] := ⟨_, rfl⟩
        rw [← hX] at y0 y1 y2 y3 p1 hsb CP
        have hkl : (k : Int) < (xs.length : Int) := by omega
        have hk0 : (0 : Int) ≤ (k : Int) := by omega
        obtain ⟨T, hT⟩ : ∃ T, T = prD X.1 := ⟨_, rfl⟩
        rw [← hT] at p1 CP hsb
        have HS2 : Hid (s ++ T = prDs (l.take (k + 1))) := p1.symm
        have cc := fun W => run_string_add_sum (P := Tryd.prog) (w := W) s T (by omega)
        have CP' : Hid (Calls Tryd.prog 14 #[.agg #[.int .i64 X.1.kind, .string X.1.nm, .slice ta X.1.ty.length tc, .slice ea X.1.ex.length ec]] wr fun e w' => e = .returned (.string T) ∧ Below wr.heap.size wr w') := CP
        clear di dv hX hT p1 CP
        go_wp2_with (first | (go_at_call 14; refine CP'.out.mono ?_; rintro e w3 ⟨rfl, hb3⟩))
        have HW3 : Hid (Below w1.heap.size w1 w3) := HW.out.trans (hb3.mono HW.out.size)
        clear hb3
        go_roundw
        case rel => exact ⟨k + 1, s ++ T, by omega, by go_num, rfl, HS2, HW3⟩
        case measure => simp [intOf]; omega
      · have hkn : k = xs.length := by omega
        subst hkn
        rw [HTK.out] at HS
        go_wp2
        go_ret
        exact ⟨by rw [HF.out, ← HS.out]; rfl, HWw.out⟩

end Go.Proofs.YtcehppndpccldaaDoor
