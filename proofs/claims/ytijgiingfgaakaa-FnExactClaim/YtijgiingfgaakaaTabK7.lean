/-
  Tables: the program's claim.
-/
import Derived.Test.YtijgiingfgaakaaTabK6
namespace Go.Proofs.Ytijgiingfgaakaa
open Go.RowKit

set_option maxHeartbeats 1000000 in
theorem t_take (eb eo : Nat) (x y : Value) (wk rev : Int) (w : World) (hwk : 0 ≤ wk ∧ wk < 16) (h0 : w.cell? ⟨eb, eo + 2, none⟩ = some x) (h1 : w.cell? ⟨eb, eo + 3, none⟩ = some y) (f0 : w.frozen? ⟨eb, eo + 2, none⟩ = false) (f1 : w.frozen? ⟨eb, eo + 3, none⟩ = false) :
    Calls Try.prog 83 #[.pointer (some ⟨eb, eo, none⟩), .int .i64 rev, .int .i64 wk] w fun e w' => e = .returned (.tuple #[]) ∧ w' = (w.setCell ⟨eb, eo + 2, none⟩ (.int .i64 rev)).setCell ⟨eb, eo + 3, none⟩ (.int .i64 (wk + 1)) := by
  have hwk1 : IntKind.i64.wrap (wk + 1) = wk + 1 := by rw [IntKind.wrap_i64]; omega
  go_enter Try.func83, Try.ntmps83
  go_wp2
  exact bodyPost_end (v := .tuple #[]) (by simp [results, Try.results83]) rfl ⟨rfl, rfl⟩

theorem putD_ins (i : Nat) (s : SD) (D : Nat → SD) : putD false i s D = insF i s D := by
  funext j; unfold putD insF; simp

/-- Where the deps of the slots lie behind a claim. -/
def clmP (n : Nat) (p : Nat → SP) (D : Nat → SD) (k : Int) (m : ByteArray) (cpy : Int) : Nat → SP :=
  match slotOf n D k m with
  | none => if cpy ≤ (n : Int) then p else insF (posK n D k m) ⟨none, 0, 0, 0⟩ p
  | some _ => p

/-- What claim leaves. -/
structure LeftC (w w' : World) (base lb g n cap sb : Nat) (p : Nat → SP) (D : Nat → SD) : Prop where
  os : OS w' base lb (.slice (some ⟨g, 0, none⟩) n cap) n p D
  sb : w'.cell? ⟨sb, 0, none⟩ = some (.pointer (some ⟨lb, 0, none⟩))
  kept : Kept (fun b => b < w.heap.size ∧ b ≠ lb ∧ b ≠ g) w w'

theorem Kept.of_below {w w' : World} {f : Nat → Prop} (h : Below w.heap.size w w') (hf : ∀ b, f b → b < w.heap.size) : Kept f w w' := ⟨h.os, h.tape, h.output, h.size, fun b hb => h.block b (hf b hb)⟩
theorem kept_span {w w' : World} {lb g : Nat} (h : Span g (g + 1) w w') : Kept (fun b => b < w.heap.size ∧ b ≠ lb ∧ b ≠ g) w w' := ⟨h.os, h.tape, h.output, h.size, fun b hb => h.block b hb.1 (by omega)⟩
theorem kept_trans {w X w' : World} {lb g : Nat} (h : Below w.heap.size w X) (h2 : Kept (fun b => b < X.heap.size ∧ b ≠ lb ∧ b ≠ g) X w') : Kept (fun b => b < w.heap.size ∧ b ≠ lb ∧ b ≠ g) w w' :=
  ⟨h2.os.trans h.os, h2.tape.trans h.tape, h2.output.trans h.output, Nat.le_trans h.size h2.size, fun b hb => (h2.block b ⟨Nat.lt_of_lt_of_le hb.1 h.size, hb.2⟩).trans (h.block b hb.1)⟩

set_option maxRecDepth 100000 in
set_option maxHeartbeats 4000000 in
theorem t_claim (base lb g n cap sb : Nat) (p : Nat → SP) (D : Nat → SD) (k : Int) (m : ByteArray) (wk rev cpy : Int) (w : World) (hOS : OS w base lb (.slice (some ⟨g, 0, none⟩) n cap) n p D) (hsb : w.cell? ⟨sb, 0, none⟩ = some (.pointer (some ⟨lb, 0, none⟩))) (hsg : sb ≠ g) (hsl : sb ≠ lb) (hU : Up n D) (hrm : n + 1 ≤ cap) (hcc : cap ≤ 1048577) (hwk : 0 ≤ wk ∧ wk < 16) :
    Calls Try.prog 52 #[.pointer (some ⟨sb, 0, none⟩), .agg #[.int .i64 k, .string m, .int .i64 rev], .int .i64 wk, .int .i64 cpy] w fun e w' =>
      e = .returned (.int .i64 (clmC n D k m rev cpy)) ∧ LeftC w w' base lb g (clmN n D k m cpy) cap sb (clmP n p D k m cpy) (clmD n D k m wk rev cpy) := by
  have HU : Hid (Up n D) := hU
  have HO : Hid (∀ w', Below w.heap.size w w' → OS w' base lb (.slice (some ⟨g, 0, none⟩) n cap) n p D ∧ w'.cell? ⟨sb, 0, none⟩ = some (.pointer (some ⟨lb, 0, none⟩))) := fun w' hb => ⟨hOS.below hb, by rw [hb.cell (p := ⟨sb, 0, none⟩) (World.block_lt_of_cell? _ _ hsb)]; exact hsb⟩
  have hsz : sb < w.heap.size := World.block_lt_of_cell? _ _ hsb
  clear hOS hsb hU
  have hwk1 : IntKind.i64.wrap (wk + 1) = wk + 1 := by rw [IntKind.wrap_i64]; omega
  have BB := bel1 w (.cells #[.int .i64 k, .string m, .int .i64 rev] 76)
  have R3 := row3 w (.int .i64 k) (.string m) (.int .i64 rev) 76
  go_enter Try.func52, Try.ntmps52
  go_wp2_with fail
  obtain ⟨X, hX⟩ : ∃ X, X = w.alloc (.cells #[.int .i64 k, .string m, .int .i64 rev] 76) := ⟨_, rfl⟩
  rw [← hX] at R3 BB
  rw [← hX]
  clear hX
  have HX : Hid (Below w.heap.size w X ∧ X.rowIs w.heap.size 76 3 (v3 (.int .i64 k) (.string m) (.int .i64 rev))) := ⟨BB, R3⟩
  have HZ : Hid (∀ W, Below X.heap.size X W → W.cell? ⟨sb, 0, none⟩ = some (.pointer (some ⟨lb, 0, none⟩)) ∧ W.cell? ⟨w.heap.size, 0, none⟩ = some (.int .i64 k) ∧ W.cell? ⟨w.heap.size, 1, none⟩ = some (.string m) ∧ W.cell? ⟨w.heap.size, 2, none⟩ = some (.int .i64 rev)) := fun W hW => by
    have r := HX.out.2.of_block (hW.block _ HX.out.2.lt)
    exact ⟨(HO.out W (HX.out.1.trans (hW.mono HX.out.1.size))).2, r.cell (i := 0) (by omega), r.cell (i := 1) (by omega), r.cell (i := 2) (by omega)⟩
  have C39 : Hid (∀ W, Below X.heap.size X W → Calls Try.prog 45 #[.pointer (some ⟨lb, 0, none⟩), .agg #[.int .i64 k, .string m]] W fun e w' => ∃ r, e = .returned (.pointer r) ∧ Hid (FR g n D k m r) ∧ Hid (Below X.heap.size X w')) := fun W hW =>
    (c39 base lb g n cap p D k m W (HO.out W (HX.out.1.trans (hW.mono HX.out.1.size))).1 HU.out (by omega)).mono fun e w' ⟨hb, hf⟩ => by
      rcases hf with ⟨he, hf⟩ | ⟨i, he, hf⟩
      · exact ⟨none, he, Or.inl ⟨rfl, hf⟩, hW.trans (hb.mono hW.size)⟩
      · exact ⟨some ⟨g, i * 9, none⟩, he, Or.inr ⟨i, rfl, hf⟩, hW.trans (hb.mono hW.size)⟩
  obtain ⟨z0, z1, z2, _⟩ := HZ.out X (Below.refl _ _)
  clear R3 BB
  go_region_held3 (fun w' => w'.cell? ⟨sb, 0, none⟩ = some (.pointer (some ⟨lb, 0, none⟩)) ∧ w'.cell? ⟨w.heap.size, 0, none⟩ = some (.int .i64 k) ∧ w'.cell? ⟨w.heap.size, 1, none⟩ = some (.string m)) (go_keep)
    (first | (go_at_call 45; (with_reducible refine (C39.out _ (Below.refl _ _).drew).mono ?_); rintro e w3 ⟨r, rfl, HF, H3⟩; obtain ⟨y0, y1, y2, y3⟩ := HZ.out w3 H3.out))
  all_goals
    have HY : Hid (Below w.heap.size w w3) := HX.out.1.trans (H3.out.mono HX.out.1.size)
    have l0 : w3.cell? ⟨lb, 0, none⟩ = some (.slice (some ⟨g, 0, none⟩) n cap) := (HO.out w3 HY.out).1.row.cell (i := 0) (by omega)
    clear z0 z1 z2 C39 HZ H3 HX
    rcases HF.out with ⟨hr, hno⟩ | ⟨i, hr, hi, hsk⟩
    · have HS : Hid (slotOf n D k m = none) := slot_none hno
      have HNO : Hid (∀ j, j < n → ¬ sk (D j).k (D j).m k m) := hno
      subst hr
      clear HF hno
      by_cases hc : cpy ≤ (n : Int)
      · have HCN : Hid (clmC n D k m rev cpy = 2 ∧ clmN n D k m cpy = n ∧ clmD n D k m wk rev cpy = D ∧ clmP n p D k m cpy = p) := ⟨(clm_full (wk := wk) (rev := rev) HS.out hc).1, (clm_full (wk := wk) (rev := rev) HS.out hc).2.1, (clm_full HS.out hc).2.2, by unfold clmP; rw [HS.out]; simp [hc]⟩
        go_wp2
        go_ret
        refine ⟨by rw [HCN.out.1]; rfl, ?_⟩
        rw [HCN.out.2.1, HCN.out.2.2.1, HCN.out.2.2.2]
        exact ⟨(HO.out w3 HY.out).1, (HO.out w3 HY.out).2, Kept.of_below HY.out (fun b hb => hb.1)⟩
      · have HCN : Hid (clmC n D k m rev cpy = 0 ∧ clmN n D k m cpy = n + 1 ∧ clmD n D k m wk rev cpy = insF (posK n D k m) (nw k m wk rev) D ∧ clmP n p D k m cpy = insF (posK n D k m) ⟨none, 0, 0, 0⟩ p) := ⟨(clm_new (wk := wk) (rev := rev) HS.out hc).1, (clm_new (wk := wk) (rev := rev) HS.out hc).2.1, by rw [(clm_new HS.out hc).2.2, putD_ins], by unfold clmP; rw [HS.out]; simp [hc]⟩
        have CP : Hid (∀ W, Below w.heap.size w W → Calls Try.prog 82 #[.pointer (some ⟨lb, 0, none⟩), .agg #[.int .i64 k, .string m, .int .i64 rev, .int .i64 (wk + 1), .bool false, .string ⟨#[]⟩, .slice none 0 0, .int .i64 0, .int .i64 0]] W fun e w' => e = .returned (.tuple #[]) ∧ Hid (LeftC w w' base lb g (n + 1) cap sb (insF (posK n D k m) ⟨none, 0, 0, 0⟩ p) (insF (posK n D k m) (nw k m wk rev) D))) := fun W hW =>
          (t_putE base lb g n cap p D ⟨none, 0, 0, 0⟩ (nw k m wk rev) W (HO.out W hW).1 HU.out HNO.out hrm hcc).mono fun e w' ⟨he, hP⟩ => ⟨he, hP.os, by
            rw [World.cell?_of_block (a := ⟨sb, 0, none⟩) (hP.kept.block sb ⟨Nat.lt_of_lt_of_le hsz hW.size, hsl, hsg⟩)]; exact (HO.out W hW).2, kept_trans hW hP.kept⟩
        have hc' : ¬ cpy ≤ (n : Int) := hc
        have HC : Hid (Below w.heap.size w w3) := HY.out
        go_wp2_with fail
        go_region_with (first | (go_at_call 82; (with_reducible refine (CP.out _ HY.out.drew).mono ?_); rintro e w5 ⟨rfl, HL⟩))
        all_goals
          clear y0 y1 y2 y3 l0 CP
          go_wp2
          go_ret
          refine ⟨by rw [HCN.out.1]; rfl, ?_⟩
          rw [HCN.out.2.1, HCN.out.2.2.1, HCN.out.2.2.2]
          exact HL.out
    · have HS : Hid (slotOf n D k m = some i) := slot_some HU.out hi hsk
      obtain ⟨a0, a1, a2, a3, a4, a5, a6, a7, a8⟩ := nine_ec (HO.out w3 HY.out).1.own i hi
      subst hr
      clear HF
      have hEQ := eq73 (D i).k (D i).sin k rev (D i).m m
      have hgd := Try.guard73
      have b1 : ((D i).k == k) = true := by rw [beq_iff_eq]; exact hsk.1
      have b2 : ((D i).m.toList == m.toList) = true := by rw [beq_iff_eq]; exact hsk.2
      rw [b1, b2, Bool.true_and, Bool.true_and] at hEQ
      obtain ⟨bb, hbb⟩ : ∃ bb, ((D i).sin == rev) = bb := ⟨_, rfl⟩
      rw [hbb] at hEQ
      have HBB : Hid (((D i).sin == rev) = bb) := hbb
      have HI : Hid (i < n) := hi
      clear b1 b2 hbb hsk
      cases bb
      · have hne : ¬ (D i).sin = rev := beq_eq_false_iff_ne.1 HBB.out
        have HCN : Hid (clmC n D k m rev cpy = 0 ∧ clmN n D k m cpy = n ∧ clmD n D k m wk rev cpy = updF D i (tk (D i) wk rev) ∧ clmP n p D k m cpy = p) := ⟨(clm_take (wk := wk) (cpy := cpy) HS.out hne).1, (clm_take (wk := wk) (rev := rev) HS.out hne).2.1, (clm_take HS.out hne).2.2, by unfold clmP; rw [HS.out]⟩
        have CT : Hid (∀ W, Below w.heap.size w W → Calls Try.prog 83 #[.pointer (some ⟨g, i * 9, none⟩), .int .i64 rev, .int .i64 wk] W fun e w' => e = .returned (.tuple #[]) ∧ Hid (LeftC w w' base lb g n cap sb p (updF D i (tk (D i) wk rev)))) := fun W hW => by
          obtain ⟨f, hrw, hc1, hc2, hbg, hgl, hfe⟩ := os_row (HO.out W hW).1
          have hi := HI.out
          refine (t_take g (i * 9) _ _ wk rev W hwk (hrw.cell (by omega)) (hrw.cell (by omega)) (hrw.frozen _) (hrw.frozen _)).mono fun e w' ⟨he, hw'⟩ => ⟨he, ?_⟩
          subst hw'
          have rr := (hrw.set (i * 9 + 2) (.int .i64 rev)).set (i * 9 + 3) (.int .i64 (wk + 1))
          refine ⟨?_, ?_, kept_span (((Span.of_below hW).set (i * 9 + 2) (Nat.le_refl _) (by omega) _).set (i * 9 + 3) (Nat.le_refl _) (by omega) _)⟩
          · have hl : ∀ (W : World) (o : Nat) (v : Value), (W.setCell ⟨g, o, none⟩ v).heap[lb]? = W.heap[lb]? := fun W o v => Below.heap_setCell _ _ _ _ (by show lb ≠ g; exact fun e => hgl e.symm)
            have := os_put (w' := ((W.setCell ⟨g, i * 9 + 2, none⟩ (.int .i64 rev)).setCell ⟨g, i * 9 + 3, none⟩ (.int .i64 (wk + 1)))) (i := i) (q := p i) (d := tk (D i) wk rev) (HO.out W hW).1 (by rw [hl, hl]) rr (fun a b ha hne hb => ?_) (fun b hb => ?_)
            · rw [updF_self] at this
              exact this
            · show (if a * 9 + b = i * 9 + 3 then _ else if a * 9 + b = i * 9 + 2 then _ else f (a * 9 + b)) = _
              rw [if_neg (by omega), if_neg (by omega)]
              exact hfe a b ha hb
            · show (if i * 9 + b = i * 9 + 3 then _ else if i * 9 + b = i * 9 + 2 then _ else f (i * 9 + b)) = _
              rw [hfe i b hi hb]
              match b, hb with
              | 0, _ => simp [ecf, tk]
              | 1, _ => simp [ecf, tk]
              | 2, _ => simp [ecf, tk]
              | 3, _ => simp [ecf, tk]
              | 4, _ => simp [ecf, tk]
              | 5, _ => simp [ecf, tk]
              | 6, _ => simp [ecf, tk]
              | 7, _ => simp [ecf, tk]
              | 8, _ => simp [ecf, tk]
          · have hl : ∀ (W : World) (o : Nat) (v : Value), (W.setCell ⟨g, o, none⟩ v).cell? ⟨sb, 0, none⟩ = W.cell? ⟨sb, 0, none⟩ := fun W o v => World.cell?_of_block (a := ⟨sb, 0, none⟩) (Below.heap_setCell _ _ _ _ (by show sb ≠ g; exact hsg))
            rw [hl, hl]; exact (HO.out W hW).2
        clear hne
        go_wp2
        go_quiet (fail)
        clear hEQ hgd
        go_wp2_with (first | (go_at_call 83; (with_reducible refine (CT.out _ (below_drewN HY.out _)).mono ?_); rintro e w5 ⟨rfl, HL⟩))
        go_ret
        refine ⟨by rw [HCN.out.1]; rfl, ?_⟩
        rw [HCN.out.2.1, HCN.out.2.2.1, HCN.out.2.2.2]
        exact HL.out
      · have hee : (D i).sin = rev := beq_iff_eq.1 HBB.out
        have HCN : Hid (clmC n D k m rev cpy = 1 ∧ clmN n D k m cpy = n ∧ clmD n D k m wk rev cpy = D ∧ clmP n p D k m cpy = p) := ⟨(clm_no (wk := wk) (cpy := cpy) HS.out hee).1, (clm_no (wk := wk) (rev := rev) HS.out hee).2.1, (clm_no HS.out hee).2.2, by unfold clmP; rw [HS.out]⟩
        clear hee
        go_wp2
        go_quiet (fail)
        clear hEQ hgd
        go_wp2
        go_ret
        refine ⟨by rw [HCN.out.1]; rfl, ?_⟩
        rw [HCN.out.2.1, HCN.out.2.2.1, HCN.out.2.2.2]
        exact ⟨(HO.out _ (below_drewN HY.out _)).1, (HO.out _ (below_drewN HY.out _)).2, Kept.of_below (below_drewN HY.out _) (fun b hb => hb.1)⟩

end Go.Proofs.Ytijgiingfgaakaa
