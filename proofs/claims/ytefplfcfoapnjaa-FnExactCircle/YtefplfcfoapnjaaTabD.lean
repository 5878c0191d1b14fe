/-
  Tables: the program's circle.
-/
import Derived.Test.YtefplfcfoapnjaaTabE
namespace Go.Proofs.Ytefplfcfoapnjaa
open Go.RowKit

theorem far_cell {w : World} {a c : Addr} {v : Value} (h : c.block ≠ a.block) : (w.setCell a v).cell? c = w.cell? c := World.cell?_setCell_other _ _ _ _ (fun e => h (by have := congrArg Addr.block e; first | exact this | exact this.symm))

/-- What find found. -/
def FR (g n : Nat) (D : Nat → SD) (k : Int) (m : ByteArray) (r : Option Addr) : Prop :=
  (r = none ∧ ∀ j, j < n → ¬ sk (D j).k (D j).m k m) ∨ ∃ i, r = some ⟨g, i * 9, none⟩ ∧ i < n ∧ sk (D i).k (D i).m k m

theorem chn_yes {n i nw l : Nat} {D : Nat → SD} {E : Nat → WD} {wk rev k : Int} {m : ByteArray} (hs : slotOf n D k m = some i) (h1 : (D i).sin = rev) (h2 : (D i).own = wk + 1) : chn n D nw E wk rev (l + 1) k m = true := by
  unfold chn; rw [hs]; simp only [if_pos h1, if_pos h2]
theorem chn_none {n i nw l : Nat} {D : Nat → SD} {E : Nat → WD} {wk rev k : Int} {m : ByteArray} (hs : slotOf n D k m = some i) (h1 : (D i).sin = rev) (h2 : ¬ (D i).own = wk + 1) (h3 : waitOf nw E ((D i).own - 1) = none) : chn n D nw E wk rev (l + 1) k m = false := by
  unfold chn; rw [hs]; simp only [if_pos h1, if_neg h2, h3]
theorem chn_some {n i nw l j : Nat} {D : Nat → SD} {E : Nat → WD} {wk rev k : Int} {m : ByteArray} (hs : slotOf n D k m = some i) (h1 : (D i).sin = rev) (h2 : ¬ (D i).own = wk + 1) (h3 : waitOf nw E ((D i).own - 1) = some j) : chn n D nw E wk rev (l + 1) k m = chn n D nw E wk rev l (E j).k (E j).m := by
  rw [chn, hs]; simp only [if_pos h1, if_neg h2, h3]

theorem held_of {n i : Nat} {D : Nat → SD} (h : vt n D = true) (hi : i < n) (hs : 1 ≤ (D i).sin) : 1 ≤ (D i).own ∧ (D i).own ≤ 16 := by
  unfold vt allTo at h
  rw [Bool.and_eq_true, List.all_eq_true] at h
  have h1 := h.2 i (List.mem_range.2 hi)
  unfold so sv at h1
  rw [Bool.and_eq_true, Bool.and_eq_true] at h1
  have h2 := h1.1.2
  cases hh : (D i).has
  · rw [hh, if_neg (by simp), decide_eq_true_iff] at h2
    exact ⟨h2.1.1, h2.1.2.1⟩
  · rw [hh, if_pos rfl, Bool.and_eq_true, decide_eq_true_iff] at h2
    rcases h2.1.1 with hf | hf
    · have := hf.2; omega
    · exact ⟨hf.1, hf.2.1⟩

set_option maxRecDepth 100000 in
set_option maxHeartbeats 8000000 in
theorem c36 (ao : Option Addr) (b o nw c : Nat) (E : Nat → WD) (w0 : World) (sb n : Nat) (p : Nat → SP) (D : Nat → SD) (k : Int) (m : ByteArray) (wk rev : Int) (w : World) (hO : Opened w0 w sb n p D) (hE : WaitsAt w ao b o nw E) (hv : vt n D = true) (hwk : 0 ≤ wk ∧ wk < 16) (hrev : 1 ≤ rev) :
    Calls Try.prog 36 #[.pointer (some ⟨sb, 0, none⟩), .slice ao nw c, .int .i64 wk, .agg #[.int .i64 k, .string m, .int .i64 rev]] w fun e w' => e = .returned (.bool (chn n D nw E wk rev 17 k m)) ∧ Below w.heap.size w w' := by
  have HU : Hid (Up n D) := up_of hv
  have HV : Hid (vt n D = true) := hv
  have hn : n ≤ 1048576 := by
    by_cases h : 4096 < n
    · rw [vt_big h] at hv; cases hv
    · omega
  obtain ⟨base, lb, sv, hOS, hsb, _, _, _, _⟩ := hO.st
  obtain ⟨g, cap, rfl⟩ := hOS.form
  have HO : Hid (∀ w', Below w.heap.size w w' → OS w' base lb (.slice (some ⟨g, 0, none⟩) n cap) n p D ∧ WaitsAt w' ao b o nw E ∧ w'.cell? ⟨sb, 0, none⟩ = some (.pointer (some ⟨lb, 0, none⟩))) := fun w' hb => ⟨hOS.below hb, hE.below hb, by rw [hb.cell (p := ⟨sb, 0, none⟩) (World.block_lt_of_cell? _ _ hsb)]; exact hsb⟩
  have A1 := hE.at_
  have hlen := hE.len
  clear hO hE hOS hsb hv
  go_enter Try.func36, Try.ntmps36
  go_wp2
  go_loopw [11] (fun s wr => ∃ (q : Nat) (kk : Int) (mm : ByteArray), q ≤ 17 ∧ s = .int .i64 q ∧ Hid (Below w.heap.size w wr) ∧ w.heap.size < wr.heap.size ∧ wr.rowIs w.heap.size 73 3 (v3 (.int .i64 kk) (.string mm) (.int .i64 rev)) ∧ Hid (chn n D nw E wk rev 17 k m = chn n D nw E wk rev (17 - q) kk mm)) (fun s _ => 17 - (intOf s).toNat)
  case atStart => exact ⟨0, k, m, by omega, rfl, bel1 _ _, by simp, row3 _ _ _ _ _, rfl⟩
  case round =>
    obtain ⟨q, kk, mm, hq, rfl, HB, hz, HR, HC⟩ := hrel
    by_cases hlt : q < 17
    · obtain ⟨l, hl⟩ : ∃ l, 17 - q = l + 1 := ⟨16 - q, by omega⟩
      rw [hl] at HC
      have c0 : wr.cell? ⟨w.heap.size, 0, none⟩ = some (.int .i64 kk) := HR.cell (i := 0) (by omega)
      have c1 : wr.cell? ⟨w.heap.size, 1, none⟩ = some (.string mm) := HR.cell (i := 1) (by omega)
      have c2 : wr.cell? ⟨w.heap.size, 2, none⟩ = some (.int .i64 rev) := HR.cell (i := 2) (by omega)
      have cs := (HO.out wr HB.out).2.2
      have C39 : Hid (∀ W, Below wr.heap.size wr W → Calls Try.prog 39 #[.pointer (some ⟨lb, 0, none⟩), .agg #[.int .i64 kk, .string mm]] W fun e w' => ∃ r, e = .returned (.pointer r) ∧ Hid (FR g n D kk mm r) ∧ Hid (Below wr.heap.size wr w') ∧ Hid (Below W.heap.size W w')) := fun W hW =>
        (c39 base lb g n cap p D kk mm W (HO.out W (HB.out.trans (hW.mono HB.out.size))).1 HU.out hn).mono fun e w' ⟨hb, hf⟩ => by
          rcases hf with ⟨he, hf⟩ | ⟨i, he, hf⟩
          · exact ⟨none, he, Or.inl ⟨rfl, hf⟩, hW.trans (hb.mono hW.size), hb⟩
          · exact ⟨some ⟨g, i * 9, none⟩, he, Or.inr ⟨i, rfl, hf⟩, hW.trans (hb.mono hW.size), hb⟩
      have hsb : sb < wr.heap.size := World.block_lt_of_cell? _ _ cs
      have NR : (wr.alloc (.cells #[.pointer none] 75)).rowIs wr.heap.size 75 1 (fun _ => .pointer none) := row1 wr _ 75
      have NE : ((wr.alloc (.cells #[.pointer none] 75)).drew).cell? ⟨wr.heap.size, 0, none⟩ = some (.pointer none) := NR.cell (i := 0) (by omega)
      have NF : ((wr.alloc (.cells #[.pointer none] 75)).drew).frozen? ⟨wr.heap.size, 0, none⟩ = false := NR.frozen 0
      have NL : wr.heap.size < ((wr.alloc (.cells #[.pointer none] 75)).drew).heap.size := NR.lt
      clear NR
      go_wp2_with fail
      go_region_held3 (fun w' => w'.cell? ⟨sb, 0, none⟩ = some (.pointer (some ⟨lb, 0, none⟩)) ∧ w'.cell? ⟨w.heap.size, 0, none⟩ = some (.int .i64 kk) ∧ w'.cell? ⟨w.heap.size, 1, none⟩ = some (.string mm)) (first | go_keep | (refine ⟨?_, ?_, ?_⟩ <;> (rw [far_cell (by simp; try omega)]; assumption)))
        (first | (go_at_call 39; refine (C39.out _ (by first | exact (Below.refl _ _).drew | exact ((Below.refl _ _).alloc (Nat.le_refl _) _).drew | exact ((Below.refl _ _).drew.alloc (Nat.le_refl _) _))).mono ?_; rintro e w3 ⟨r, rfl, HF, H3, H4⟩; have z0 := (H3.out.cell (p := ⟨sb, 0, none⟩) hsb).trans cs; have z1 := (H3.out.cell (p := ⟨w.heap.size, 0, none⟩) hz).trans c0; have z2 := (H3.out.cell (p := ⟨w.heap.size, 1, none⟩) hz).trans c1; have hs3 := H3.out.size; first | (with_reducible have y0 := (H4.out.cell (p := ⟨wr.heap.size, 0, none⟩) NL).trans NE; with_reducible have y1 := (H4.out.frozen (p := ⟨wr.heap.size, 0, none⟩) NL).trans NF) | skip))
      · have HX0 : Hid (Below wr.heap.size wr (w3.alloc (.cells #[.pointer r] 75))) := H3.out.alloc hs3 _
        have ex0 : (w3.alloc (.cells #[.pointer r] 75)).cell? ⟨w3.heap.size, 0, none⟩ = some (.pointer r) := (row1 w3 (.pointer r) 75).cell (i := 0) (by omega)
        obtain ⟨xb, hxb⟩ : ∃ xb, xb = w3.heap.size := ⟨_, rfl⟩
        obtain ⟨X, hX⟩ : ∃ X, X = w3.alloc (.cells #[.pointer r] 75) := ⟨_, rfl⟩
        rw [← hX, ← hxb] at ex0
        rw [← hX] at HX0
        rw [← hX, ← hxb]
        have hxw : wr.heap.size ≤ xb := by rw [hxb]; exact hs3
        have HX : Hid (Below wr.heap.size wr X) := HX0
        clear hX hxb HX0 H3 H4 z0 z1 z2 hs3
        have HY : Hid (Below w.heap.size w X) := HB.out.trans (HX.out.mono HB.out.size)
        have RW : X.rowIs w.heap.size 73 3 (v3 (.int .i64 kk) (.string mm) (.int .i64 rev)) := HR.of_block (HX.out.block _ hz)
        have d0 : X.cell? ⟨w.heap.size, 0, none⟩ = some (.int .i64 kk) := RW.cell (i := 0) (by omega)
        have d1 : X.cell? ⟨w.heap.size, 1, none⟩ = some (.string mm) := RW.cell (i := 1) (by omega)
        have d2 : X.cell? ⟨w.heap.size, 2, none⟩ = some (.int .i64 rev) := RW.cell (i := 2) (by omega)
        have hzX : w.heap.size < X.heap.size := Nat.lt_of_lt_of_le hz HX.out.size
        clear HX HR c0 c1 c2 cs HB hz C39 NE NF NL
        rcases HF.out with ⟨hr, hno⟩ | ⟨i, hr, hi, hsk⟩
        · have HN : Hid (chn n D nw E wk rev 17 k m = false) := by
            show chn n D nw E wk rev 17 k m = false
            rw [HC.out]; unfold chn; rw [slot_none hno]
          subst hr
          clear HF hno
          go_wp2
          go_quiet (fail)
          go_wp2
          go_ret
          exact ⟨ret_bool HN.out.symm, below_drewN HY.out _⟩
        · have HS : Hid (slotOf n D kk mm = some i) := slot_some HU.out hi hsk
          have NI := nine_ec (HO.out X HY.out).1.own i hi
          obtain ⟨a0, a1, a2, a3, a4, a5, a6, a7, a8⟩ := NI
          subst hr
          clear HF
          have hEQ := eq73 (D i).k (D i).sin kk rev (D i).m mm
          have hgd := Try.guard73
          have b1 : ((D i).k == kk) = true := by rw [beq_iff_eq]; exact hsk.1
          have b2 : ((D i).m.toList == mm.toList) = true := by rw [beq_iff_eq]; exact hsk.2
          rw [b1, b2, Bool.true_and, Bool.true_and] at hEQ
          obtain ⟨bb, hbb⟩ : ∃ bb, ((D i).sin == rev) = bb := ⟨_, rfl⟩
          rw [hbb] at hEQ
          have HBB : Hid (((D i).sin == rev) = bb) := hbb
          clear b1 b2 hbb
          cases bb
          · have HN : Hid (chn n D nw E wk rev 17 k m = false) := by
              show chn n D nw E wk rev 17 k m = false
              rw [HC.out]; unfold chn; rw [HS.out]
              have : ¬ (D i).sin = rev := beq_eq_false_iff_ne.1 HBB.out
              simp only [if_neg this]
            go_wp2
            go_quiet (fail)
            go_wp2
            go_ret
            exact ⟨ret_bool HN.out.symm, below_drewN HY.out _⟩
          · have hsin : (D i).sin = rev := beq_iff_eq.1 HBB.out
            have hown := held_of HV.out hi (by omega)
            have hwk1 : IntKind.i64.wrap (wk + 1) = wk + 1 := by rw [IntKind.wrap_i64]; omega
            have HSIN : Hid ((D i).sin = rev) := hsin
            clear hsin
            by_cases ho : (D i).own = wk + 1
            · have HN : Hid (chn n D nw E wk rev 17 k m = true) := HC.out.trans (chn_yes HS.out HSIN.out ho)
              have b3 : ((D i).own == wk + 1) = true := by rw [beq_iff_eq]; exact ho
              clear ho
              go_wp2
              go_quiet (fail)
              clear hEQ hgd
              go_wp2
              go_ret
              exact ⟨ret_bool HN.out.symm, below_drewN HY.out _⟩
            · have HNO : Hid (¬ (D i).own = wk + 1) := ho
              have b3 : ((D i).own == wk + 1) = false := beq_eq_false_iff_ne.2 ho
              clear ho
              have C58 : Hid (∀ W, Below X.heap.size X W → Calls Try.prog 58 #[.slice ao nw c, .func (.func 59) #[] #[.pointer (some ⟨xb, 0, none⟩)]] W fun e w' => ∃ z : Int, e = .returned (.int .i64 z) ∧ Hid ((waitOf nw E ((D i).own - 1) = none ∧ z = -1) ∨ ∃ j : Nat, j < nw ∧ waitOf nw E ((D i).own - 1) = some j ∧ z = (j : Int)) ∧ Hid (Below X.heap.size X w')) := fun W hW =>
                (c58 xb g i (D i).own ao b o nw c E W (by rw [hW.cell (p := ⟨xb, 0, none⟩) (World.block_lt_of_cell? _ _ ex0)]; exact ex0) (by rw [hW.cell (p := ⟨g, i * 9 + 3, none⟩) (World.block_lt_of_cell? _ _ a3)]; exact a3) hown (HO.out W (HY.out.trans (hW.mono HY.out.size))).2.1).mono fun e w' ⟨hb, hf⟩ => by
                  rcases hf with ⟨h1, he⟩ | ⟨j, hj, h1, he⟩
                  · exact ⟨-1, he, Or.inl ⟨h1, rfl⟩, hW.trans (hb.mono hW.size)⟩
                  · exact ⟨j, he, Or.inr ⟨j, hj, h1, rfl⟩, hW.trans (hb.mono hW.size)⟩
              go_wp2
              go_quiet (fail)
              clear hEQ hgd
              go_wp2_with fail
              refine (C58.out _ (below_drewN (Below.refl _ _) _)).mono ?_
              rintro e w5 ⟨z, rfl, HJ, H5⟩
              have H6 : Hid (Below w.heap.size w w5) := HY.out.trans (H5.out.mono HY.out.size)
              have RW5 : w5.rowIs w.heap.size 73 3 (v3 (.int .i64 kk) (.string mm) (.int .i64 rev)) := RW.of_block (H5.out.block _ hzX)
              have hz5 : w.heap.size < w5.heap.size := Nat.lt_of_lt_of_le hzX H5.out.size
              clear C58 H5 HY d0 d1 d2 a0 a1 a2 a3 a4 a5 a6 a7 a8 ex0 hzX RW
              rcases HJ.out with ⟨hw0, hz0⟩ | ⟨j, hj, hw0, hz0⟩
              · have HN : Hid (chn n D nw E wk rev 17 k m = false) := HC.out.trans (chn_none HS.out HSIN.out HNO.out hw0)
                subst hz0
                clear hw0 HJ RW5
                go_wp2
                go_ret
                exact ⟨ret_bool HN.out.symm, H6.out⟩
              · have HN : Hid (chn n D nw E wk rev 17 k m = chn n D nw E wk rev l (E j).k (E j).m) := HC.out.trans (chn_some HS.out HSIN.out HNO.out hw0)
                subst hz0
                clear hw0 HJ HC HS
                have e1 := A1 (by omega)
                obtain ⟨y0, y1, y2⟩ := (HO.out w5 H6.out).2.1.three j hj
                subst e1
                have f0 := RW5.cell (i := 0) (by omega)
                have f1 := RW5.cell (i := 1) (by omega)
                have g0 := RW5.frozen 0
                have g1 := RW5.frozen 1
                have hjn : (j : Int) < (nw : Int) := by omega
                go_wp2
                go_roundw
                case rel =>
                  refine ⟨q + 1, (E j).k, (E j).m, by omega, by go_num, (H6.out.setCell (Nat.le_refl _) _).setCell (Nat.le_refl _) _, by simpa using hz5, ((RW5.set 0 (.int .i64 (E j).k)).set 1 (.string (E j).m)).congr (fun x hx => by
                    match x, hx with
                    | 0, _ => rfl
                    | 1, _ => rfl
                    | 2, _ => rfl), ?_⟩
                  have hl2 : 17 - (q + 1) = l := by omega
                  show chn n D nw E wk rev 17 k m = _
                  rw [hl2]; exact HN.out
                case measure => simp [intOf]; omega
      · have HX0 : Hid (Below wr.heap.size wr (w3.setCell ⟨wr.heap.size, 0, none⟩ (.pointer r))) := H3.out.setCell (Nat.le_refl _) _
        have ex0 : (w3.setCell ⟨wr.heap.size, 0, none⟩ (.pointer r)).cell? ⟨wr.heap.size, 0, none⟩ = some (.pointer r) := by
          first | exact World.cell?_setCell_same _ _ _ y0 | exact World.cell?_setCell_same y0 | exact World.cell?_setCell_same' _ _ _ (by rw [y0]; rfl)
        obtain ⟨xb, hxb⟩ : ∃ xb, xb = wr.heap.size := ⟨_, rfl⟩
        obtain ⟨X, hX⟩ : ∃ X, X = w3.setCell ⟨wr.heap.size, 0, none⟩ (.pointer r) := ⟨_, rfl⟩
        rw [← hX] at ex0 HX0
        rw [← hX]
        rw [← hxb] at ex0
        rw [← hxb]
        have hxw : wr.heap.size ≤ xb := by rw [hxb]; exact Nat.le_refl _
        have HX : Hid (Below wr.heap.size wr X) := HX0
        clear hX hxb HX0 H3 H4 z0 z1 z2 hs3 y0 y1
        have HY : Hid (Below w.heap.size w X) := HB.out.trans (HX.out.mono HB.out.size)
        have RW : X.rowIs w.heap.size 73 3 (v3 (.int .i64 kk) (.string mm) (.int .i64 rev)) := HR.of_block (HX.out.block _ hz)
        have d0 : X.cell? ⟨w.heap.size, 0, none⟩ = some (.int .i64 kk) := RW.cell (i := 0) (by omega)
        have d1 : X.cell? ⟨w.heap.size, 1, none⟩ = some (.string mm) := RW.cell (i := 1) (by omega)
        have d2 : X.cell? ⟨w.heap.size, 2, none⟩ = some (.int .i64 rev) := RW.cell (i := 2) (by omega)
        have hzX : w.heap.size < X.heap.size := Nat.lt_of_lt_of_le hz HX.out.size
        clear HX HR c0 c1 c2 cs HB hz C39 NE NF NL
        rcases HF.out with ⟨hr, hno⟩ | ⟨i, hr, hi, hsk⟩
        · have HN : Hid (chn n D nw E wk rev 17 k m = false) := by
            show chn n D nw E wk rev 17 k m = false
            rw [HC.out]; unfold chn; rw [slot_none hno]
          subst hr
          clear HF hno
          go_wp2
          go_quiet (fail)
          go_wp2
          go_ret
          exact ⟨ret_bool HN.out.symm, below_drewN HY.out _⟩
        · have HS : Hid (slotOf n D kk mm = some i) := slot_some HU.out hi hsk
          have NI := nine_ec (HO.out X HY.out).1.own i hi
          obtain ⟨a0, a1, a2, a3, a4, a5, a6, a7, a8⟩ := NI
          subst hr
          clear HF
          have hEQ := eq73 (D i).k (D i).sin kk rev (D i).m mm
          have hgd := Try.guard73
          have b1 : ((D i).k == kk) = true := by rw [beq_iff_eq]; exact hsk.1
          have b2 : ((D i).m.toList == mm.toList) = true := by rw [beq_iff_eq]; exact hsk.2
          rw [b1, b2, Bool.true_and, Bool.true_and] at hEQ
          obtain ⟨bb, hbb⟩ : ∃ bb, ((D i).sin == rev) = bb := ⟨_, rfl⟩
          rw [hbb] at hEQ
          have HBB : Hid (((D i).sin == rev) = bb) := hbb
          clear b1 b2 hbb
          cases bb
          · have HN : Hid (chn n D nw E wk rev 17 k m = false) := by
              show chn n D nw E wk rev 17 k m = false
              rw [HC.out]; unfold chn; rw [HS.out]
              have : ¬ (D i).sin = rev := beq_eq_false_iff_ne.1 HBB.out
              simp only [if_neg this]
            go_wp2
            go_quiet (fail)
            go_wp2
            go_ret
            exact ⟨ret_bool HN.out.symm, below_drewN HY.out _⟩
          · have hsin : (D i).sin = rev := beq_iff_eq.1 HBB.out
            have hown := held_of HV.out hi (by omega)
            have hwk1 : IntKind.i64.wrap (wk + 1) = wk + 1 := by rw [IntKind.wrap_i64]; omega
            have HSIN : Hid ((D i).sin = rev) := hsin
            clear hsin
            by_cases ho : (D i).own = wk + 1
            · have HN : Hid (chn n D nw E wk rev 17 k m = true) := HC.out.trans (chn_yes HS.out HSIN.out ho)
              have b3 : ((D i).own == wk + 1) = true := by rw [beq_iff_eq]; exact ho
              clear ho
              go_wp2
              go_quiet (fail)
              clear hEQ hgd
              go_wp2
              go_ret
              exact ⟨ret_bool HN.out.symm, below_drewN HY.out _⟩
            · have HNO : Hid (¬ (D i).own = wk + 1) := ho
              have b3 : ((D i).own == wk + 1) = false := beq_eq_false_iff_ne.2 ho
              clear ho
              have C58 : Hid (∀ W, Below X.heap.size X W → Calls Try.prog 58 #[.slice ao nw c, .func (.func 59) #[] #[.pointer (some ⟨xb, 0, none⟩)]] W fun e w' => ∃ z : Int, e = .returned (.int .i64 z) ∧ Hid ((waitOf nw E ((D i).own - 1) = none ∧ z = -1) ∨ ∃ j : Nat, j < nw ∧ waitOf nw E ((D i).own - 1) = some j ∧ z = (j : Int)) ∧ Hid (Below X.heap.size X w')) := fun W hW =>
                (c58 xb g i (D i).own ao b o nw c E W (by rw [hW.cell (p := ⟨xb, 0, none⟩) (World.block_lt_of_cell? _ _ ex0)]; exact ex0) (by rw [hW.cell (p := ⟨g, i * 9 + 3, none⟩) (World.block_lt_of_cell? _ _ a3)]; exact a3) hown (HO.out W (HY.out.trans (hW.mono HY.out.size))).2.1).mono fun e w' ⟨hb, hf⟩ => by
                  rcases hf with ⟨h1, he⟩ | ⟨j, hj, h1, he⟩
                  · exact ⟨-1, he, Or.inl ⟨h1, rfl⟩, hW.trans (hb.mono hW.size)⟩
                  · exact ⟨j, he, Or.inr ⟨j, hj, h1, rfl⟩, hW.trans (hb.mono hW.size)⟩
              go_wp2
              go_quiet (fail)
              clear hEQ hgd
              go_wp2_with fail
              refine (C58.out _ (below_drewN (Below.refl _ _) _)).mono ?_
              rintro e w5 ⟨z, rfl, HJ, H5⟩
              have H6 : Hid (Below w.heap.size w w5) := HY.out.trans (H5.out.mono HY.out.size)
              have RW5 : w5.rowIs w.heap.size 73 3 (v3 (.int .i64 kk) (.string mm) (.int .i64 rev)) := RW.of_block (H5.out.block _ hzX)
              have hz5 : w.heap.size < w5.heap.size := Nat.lt_of_lt_of_le hzX H5.out.size
              clear C58 H5 HY d0 d1 d2 a0 a1 a2 a3 a4 a5 a6 a7 a8 ex0 hzX RW
              rcases HJ.out with ⟨hw0, hz0⟩ | ⟨j, hj, hw0, hz0⟩
              · have HN : Hid (chn n D nw E wk rev 17 k m = false) := HC.out.trans (chn_none HS.out HSIN.out HNO.out hw0)
                subst hz0
                clear hw0 HJ RW5
                go_wp2
                go_ret
                exact ⟨ret_bool HN.out.symm, H6.out⟩
              · have HN : Hid (chn n D nw E wk rev 17 k m = chn n D nw E wk rev l (E j).k (E j).m) := HC.out.trans (chn_some HS.out HSIN.out HNO.out hw0)
                subst hz0
                clear hw0 HJ HC HS
                have e1 := A1 (by omega)
                obtain ⟨y0, y1, y2⟩ := (HO.out w5 H6.out).2.1.three j hj
                subst e1
                have f0 := RW5.cell (i := 0) (by omega)
                have f1 := RW5.cell (i := 1) (by omega)
                have g0 := RW5.frozen 0
                have g1 := RW5.frozen 1
                have hjn : (j : Int) < (nw : Int) := by omega
                go_wp2
                go_roundw
                case rel =>
                  refine ⟨q + 1, (E j).k, (E j).m, by omega, by go_num, (H6.out.setCell (Nat.le_refl _) _).setCell (Nat.le_refl _) _, by simpa using hz5, ((RW5.set 0 (.int .i64 (E j).k)).set 1 (.string (E j).m)).congr (fun x hx => by
                    match x, hx with
                    | 0, _ => rfl
                    | 1, _ => rfl
                    | 2, _ => rfl), ?_⟩
                  have hl2 : 17 - (q + 1) = l := by omega
                  show chn n D nw E wk rev 17 k m = _
                  rw [hl2]; exact HN.out
                case measure => simp [intOf]; omega
    · have hq17 : 17 - q = 0 := by omega
      rw [hq17] at HC
      have HF : Hid (chn n D nw E wk rev 17 k m = false) := HC.out
      clear HC
      go_wp2
      go_ret
      exact ⟨ret_bool HF.out.symm, HB.out⟩

end Go.Proofs.Ytefplfcfoapnjaa
