/-
  The model's l2TypeOk, l2TStart, l2TParts.
-/
import Derived.Test.YtcehppndpccldaaDoorVbB
namespace Go.Proofs.YtcehppndpccldaaDoor
open Go.RowKit

def SzT (t : TI) : Prop := t.ns.length ≤ 1048576 ∧ (∀ k, k < t.ns.length → (t.ns.getD k e0).size ≤ 1048576) ∧ t.md.size ≤ 1048576 ∧ t.nm.size ≤ 1048576
/-- A list of types in memory that may be looked at. -/
structure TsA (w : World) (v : Value) (xs : List (TI × NPl)) : Prop where
  rt : ∃ B, RT B w v xs
  cap : ∀ x, x ∈ xs → x.1.ns.length ≤ x.2.c
  sz : ∀ x, x ∈ xs → SzT x.1
  len : xs.length ≤ 1048576
theorem TsA.below {w w' : World} {v : Value} {xs : List (TI × NPl)} (h : TsA w v xs) (hb : Below w.heap.size w w') : TsA w' v xs := ⟨by obtain ⟨B, r⟩ := h.rt; exact ⟨B, r.below hb⟩, h.cap, h.sz, h.len⟩
theorem TsA.form {w : World} {v : Value} {xs : List (TI × NPl)} (h : TsA w v xs) : ∃ a c, v = .slice a xs.length c := by obtain ⟨B, r⟩ := h.rt; exact own_form r.own
/-- An item of it. -/
theorem TsA.item {w : World} {a : Option Addr} {c : Nat} {xs : List (TI × NPl)} (h : TsA w (.slice a xs.length c) xs) {k : Nat} (hk : k < xs.length) : ∃ g, a = some ⟨g, 0, none⟩ ∧ w.cell? ⟨g, k * 4, none⟩ = some (Value.int .i64 xs[k].1.op) ∧ w.cell? ⟨g, k * 4 + 1, none⟩ = some (Value.string xs[k].1.md) ∧ w.cell? ⟨g, k * 4 + 2, none⟩ = some (Value.string xs[k].1.nm) ∧ w.cell? ⟨g, k * 4 + 3, none⟩ = some (Value.slice xs[k].2.a xs[k].1.ns.length xs[k].2.c) ∧ TiA w xs[k].1 xs[k].2 := by
  obtain ⟨B, r⟩ := h.rt
  obtain ⟨g, gc, ev, _⟩ := own_blk r.own (show 0 < xs.length by omega)
  simp only [Value.slice.injEq] at ev
  obtain ⟨rfl, -, rfl⟩ := ev
  have hx := List.getElem_mem hk
  have sz := h.sz _ hx
  exact ⟨g, rfl, own_at (f := tiC) tiC_len r.own (j := k) (r := 0) rfl hk (by omega) rfl, own_at (f := tiC) tiC_len r.own rfl hk (by omega) rfl, own_at (f := tiC) tiC_len r.own rfl hk (by omega) rfl, own_at (f := tiC) tiC_len r.own rfl hk (by omega) rfl, (r.nm _ hx).nsa, sz.1, sz.2.1, h.cap _ hx, sz.2.2.1, sz.2.2.2⟩

theorem vld_none {ar : Nat → Option Nat} : ∀ {k m : Nat}, vld ar k = none → k ≤ m → vld ar m = none
  | k, 0, h, hm => by have : k = 0 := by omega
                      subst this; exact h
  | k, m + 1, h, hm => by
    by_cases e : k = m + 1
    · rw [← e]; exact h
    · rw [vld, vld_none h (by omega)]
theorem aT_at {l : List TI} {xs : List (TI × NPl)} (hl : xs.map Prod.fst = l) {k : Nat} (hk : k < xs.length) : aT l k = (fT xs[k].1).map fun f => f.needs.length := by
  unfold aT
  rw [← hl, List.getElem?_map, List.getElem?_eq_getElem hk]
  rfl

set_option maxRecDepth 100000 in
set_option maxHeartbeats 2000000 in
theorem v_typeOk (w : World) {v : Value} {xs : List (TI × NPl)} (h : TsA w v xs) {l : List TI} (hl : xs.map Prod.fst = l) :
    Calls Tryd.prog 20 #[v] w fun e w' => e = .returned (.bool (okT l)) ∧ Below w.heap.size w w' := by
  obtain ⟨a, c, rfl⟩ := h.form
  have HB : Hid (∀ W, Below w.heap.size w W → TsA W (.slice a xs.length c) xs) := fun W hb => h.below hb
  have HL : Hid (xs.map Prod.fst = l) := hl
  have hlen := h.len
  have HLL : Hid (l.length = xs.length) := by show _ = _; rw [← hl, List.length_map]
  obtain ⟨b, hb⟩ : ∃ b, b = okT l := ⟨_, rfl⟩
  have HO : Hid (okT l = b) := hb.symm
  rw [← hb]
  clear h hl hb
  go_enter Tryd.func20, Tryd.ntmps20
  go_wp2
  go_loopw [3, 4] (fun hd i wr => ∃ k m : Nat, k ≤ xs.length ∧ m ≤ k ∧ i = .int .i64 k ∧ hd = .int .i64 m ∧ Hid (vld (aT l) k = some m) ∧ Hid (Below w.heap.size w wr)) (fun _ i _ => xs.length - (intOf i).toNat)
  case atStart => exact ⟨0, 0, Nat.zero_le _, Nat.le_refl _, rfl, rfl, rfl, Below.refl _ _⟩
  case round =>
    obtain ⟨k, m, hk, hmk, rfl, rfl, HV, HW⟩ := hrel
    by_cases hlt : k < xs.length
    · obtain ⟨g, rfl, y0, y1, y2, y3, ti⟩ := (HB.out wr HW.out).item hlt
      have HA : Hid (aT l k = (fT xs[k].1).map fun f => f.needs.length) := aT_at HL.out hlt
      obtain ⟨X, hX⟩ : ∃ X, X = xs[k] := ⟨_, rfl⟩
      rw [← hX] at y0 y1 y2 y3 ti HA
      have C : Hid (Calls Tryd.prog 31 #[.agg #[.int .i64 X.1.op, .string X.1.md, .string X.1.nm, .slice X.2.a X.1.ns.length X.2.c]] wr fun e w' => e = .returned (.int .i64 (arI (fT X.1))) ∧ Below wr.heap.size wr w') := v_arT wr ti
      clear ti hX
      cases hf : fT X.1 with
      | none =>
        have HF : Hid (b = false) := by
          show _ = _
          rw [← HO.out]
          have : vld (aT l) (k + 1) = none := by rw [vld, HV.out, HA.out, hf]; rfl
          unfold okT
          rw [vld_none this (by rw [HLL.out]; omega)]
          rfl
        rw [hf] at C
        have C' : Hid (Calls Tryd.prog 31 #[.agg #[.int .i64 X.1.op, .string X.1.md, .string X.1.nm, .slice X.2.a X.1.ns.length X.2.c]] wr fun e w' => e = .returned (.int .i64 (-1)) ∧ Below wr.heap.size wr w') := C
        clear hf C
        go_wp2_with (first | (go_at_call 31; refine C'.out.mono ?_; rintro e w2 ⟨rfl, hb2⟩))
        go_ret
        exact ⟨by rw [HF.out]; rfl, HW.out.trans (hb2.mono HW.out.size)⟩
      | some f =>
        obtain ⟨n, hn⟩ : ∃ n, n = f.needs.length := ⟨_, rfl⟩
        have HS : Hid (vld (aT l) (k + 1) = if n ≤ m then some (m - n + 1) else none) := by show _ = _; rw [vld, HV.out, HA.out, hf, hn]; rfl
        rw [hf] at C
        have C' : Hid (Calls Tryd.prog 31 #[.agg #[.int .i64 X.1.op, .string X.1.md, .string X.1.nm, .slice X.2.a X.1.ns.length X.2.c]] wr fun e w' => e = .returned (.int .i64 (n : Int)) ∧ Below wr.heap.size wr w') := by rw [hn]; exact C
        clear hf C HA hn
        have n0 : ¬ (n : Int) < 0 := by omega
        by_cases hnm : n ≤ m
        · have HT : Hid (vld (aT l) (k + 1) = some (m - n + 1)) := by show _ = _; rw [HS.out, if_pos hnm]
          have n1 : ¬ (m : Int) < (n : Int) := by omega
          have wd : IntKind.i64.wrap ((m : Int) - (n : Int)) = (m : Int) - (n : Int) := by rw [IntKind.wrap_i64]; omega
          have wd2 : IntKind.i64.wrap ((m : Int) - (n : Int) + 1) = (m : Int) - (n : Int) + 1 := by rw [IntKind.wrap_i64]; omega
          go_wp2_with (first | (go_at_call 31; refine C'.out.mono ?_; rintro e w2 ⟨rfl, hb2⟩))
          have HW2 : Hid (Below w.heap.size w w2) := HW.out.trans (hb2.mono HW.out.size)
          go_roundw
          case rel => exact ⟨k + 1, m - n + 1, by omega, by omega, by go_num, by congr 1; omega, HT, HW2⟩
          case measure => simp [intOf]; omega
        · have HF : Hid (b = false) := by
            show _ = _
            rw [← HO.out]
            have : vld (aT l) (k + 1) = none := by rw [HS.out, if_neg hnm]
            unfold okT
            rw [vld_none this (by rw [HLL.out]; omega)]
            rfl
          have n1 : (m : Int) < (n : Int) := by omega
          go_wp2_with (first | (go_at_call 31; refine C'.out.mono ?_; rintro e w2 ⟨rfl, hb2⟩))
          go_ret
          exact ⟨by rw [HF.out]; rfl, HW.out.trans (hb2.mono HW.out.size)⟩
    · have hkn : k = xs.length := by omega
      subst hkn
      have HF : Hid (b = decide (m = 1)) := by
        show _ = _
        rw [← HO.out]
        unfold okT
        rw [HLL.out, HV.out]
        by_cases e : m = 1
        · subst e; rfl
        · rw [decide_eq_false e, beq_eq_false_iff_ne]; exact fun z => e (Option.some.inj z)
      by_cases e : m = 1
      · have b1 : ((m : Int) == 1) = true := beq_iff_eq.2 (by omega)
        have HF2 : Hid (b = true) := by show _ = _; rw [HF.out, decide_eq_true e]
        clear e
        go_wp2
        go_ret
        exact ⟨by rw [HF2.out]; rfl, HW.out⟩
      · have b1 : ((m : Int) == 1) = false := beq_eq_false_iff_ne.2 (by omega)
        have HF2 : Hid (b = false) := by show _ = _; rw [HF.out, decide_eq_false e]
        clear e
        go_wp2
        go_ret
        exact ⟨by rw [HF2.out]; rfl, HW.out⟩

end Go.Proofs.YtcehppndpccldaaDoor
