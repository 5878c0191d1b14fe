/-
  Tables: an entry put where it belongs.
-/
import Derived.Test.YtpbebpcoeeednaaTabK3
import Derived.Test.YtpbebpcoeeednaaTabK1
import Derived.Test.YtpbebpcoeeednaaTabF2
import Derived.Test.YtpbebpcoeeednaaTabX3
import Derived.Deep.DeepCutAuto
import Derived.Great.BuildSlice
namespace Go.Proofs.Ytpbebpcoeeednaa
open Go.RowKit

/-- What put leaves. -/
structure PutE (w w' : World) (base lb g n cap : Nat) (p : Nat → SP) (D : Nat → SD) : Prop where
  os : OS w' base lb (.slice (some ⟨g, 0, none⟩) n cap) n p D
  kept : Kept (fun b => b < w.heap.size ∧ b ≠ lb ∧ b ≠ g) w w'

theorem os_insert {w X w3 : World} {base lb n cap g i : Nat} {p : Nat → SP} {D : Nat → SD} {q : SP} {d : SD} (h : OS w base lb (.slice (some ⟨g, 0, none⟩) n cap) n p D) (hX : Below w.heap.size w X)
    (hown3 : w3.ownsRow base 81 9 (.slice (some ⟨g, 0, none⟩) (n + 1) cap) (n + 1) (ecells (insF i q p) (insF i d D) (n + 1))) (hg3 : Span g (g + 1) X w3) :
    PutE w (w3.setCell ⟨lb, 0, none⟩ (.slice (some ⟨g, 0, none⟩) (n + 1) cap)) base lb g (n + 1) cap (insF i q p) (insF i d D) := by
  have hgl : g ≠ lb := fun e => h.ne (by rw [← e]; rfl)
  have hsz := hX.size
  have hll := h.row.lt
  have b3 : ∀ x, x < w.heap.size → x ≠ g → w3.heap[x]? = w.heap[x]? := fun x hx hne => by
    rw [hg3.block x (by omega) (by omega), hX.block x hx]
  refine ⟨⟨?_, ?_, h.lo, fun e => hgl (by simpa [Value.ownBlock] using e.symm), ⟨_, _, rfl⟩⟩, ⟨?_, ?_, ?_, ?_, fun x ⟨e1, e2, e3⟩ => ?_⟩⟩
  · exact ((h.row.of_block (b3 lb hll (fun e => hgl e.symm))).set 0 _).congr (fun i hi => by
      match i, hi with
      | 0, _ => rfl
      | 1, _ => rfl
      | 2, _ => rfl)
  · refine own_same hown3 (fun x hx => ?_)
    have : x = g := by simpa [Value.ownBlock] using hx.symm
    subst this
    exact Below.heap_setCell _ _ _ _ (by show x ≠ lb; exact hgl)
  · exact hg3.os.trans hX.os
  · exact hg3.tape.trans hX.tape
  · exact hg3.output.trans hX.output
  · have := hg3.size; simp; omega
  · rw [Below.heap_setCell _ _ _ _ (by show x ≠ lb; exact e2), b3 x e1 e3]

set_option maxRecDepth 100000 in
set_option maxHeartbeats 4000000 in
theorem t_putE (base lb g n cap : Nat) (p : Nat → SP) (D : Nat → SD) (q : SP) (d : SD) (w : World) (hOS : OS w base lb (.slice (some ⟨g, 0, none⟩) n cap) n p D) (hU : Up n D) (hno : ∀ j, j < n → ¬ sk (D j).k (D j).m d.k d.m) (hrm : n + 1 ≤ cap) (hcc : cap ≤ 1048577) :
    Calls Try.prog 85 #[.pointer (some ⟨lb, 0, none⟩), .agg #[.int .i64 d.k, .string d.m, .int .i64 d.sin, .int .i64 d.own, .bool d.has, .string d.v, .slice q.a d.n q.c, .int .i64 d.ver, .int .i64 d.chg]] w fun e w' => e = .returned (.tuple #[]) ∧ PutE w w' base lb g (n + 1) cap (insF (posK n D d.k d.m) q p) (insF (posK n D d.k d.m) d D) := by
  have HO : Hid (∀ W, Below w.heap.size w W → OS W base lb (.slice (some ⟨g, 0, none⟩) n cap) n p D) := fun W hW => hOS.below hW
  have HU : Hid (Up n D) := hU
  have HN : Hid (∀ j, j < n → ¬ sk (D j).k (D j).m d.k d.m) := hno
  have BB := bel1 w (.cells #[.int .i64 d.k, .string d.m, .int .i64 d.sin, .int .i64 d.own, .bool d.has, .string d.v, .slice q.a d.n q.c, .int .i64 d.ver, .int .i64 d.chg] 81)
  have R9 := row9 w (.int .i64 d.k) (.string d.m) (.int .i64 d.sin) (.int .i64 d.own) (.bool d.has) (.string d.v) (.slice q.a d.n q.c) (.int .i64 d.ver) (.int .i64 d.chg) 81
  clear hOS hU hno
  obtain ⟨pi, hpe⟩ : ∃ pi, pi = posK n D d.k d.m := ⟨_, rfl⟩
  rw [← hpe]
  have HPE : Hid (pi = posK n D d.k d.m) := hpe
  clear hpe
  go_enter Try.func85, Try.ntmps85
  go_wp2_with fail
  obtain ⟨X, hX⟩ : ∃ X, X = (w.alloc (.cells #[.int .i64 d.k, .string d.m, .int .i64 d.sin, .int .i64 d.own, .bool d.has, .string d.v, .slice q.a d.n q.c, .int .i64 d.ver, .int .i64 d.chg] 81)) := ⟨_, rfl⟩
  obtain ⟨xb, hxb⟩ : ∃ xb, xb = w.heap.size := ⟨_, rfl⟩
  rw [← hX] at R9 BB
  rw [← hxb] at R9
  rw [← hX, ← hxb]
  have HX : Hid (Below w.heap.size w X ∧ X.rowIs xb 81 9 _) := ⟨BB, R9⟩
  have hlx : lb ≠ xb := by rw [hxb]; have := (HO.out w (Below.refl _ _)).row.lt; omega
  clear hX BB R9 hxb
  have HZ : Hid (∀ W, Below X.heap.size X W → W.cell? ⟨lb, 0, none⟩ = some (.slice (some ⟨g, 0, none⟩) n cap) ∧ W.cell? ⟨lb, 1, none⟩ = some kf ∧ W.cell? ⟨xb, 0, none⟩ = some (.int .i64 d.k) ∧ W.cell? ⟨xb, 1, none⟩ = some (.string d.m) ∧ W.cell? ⟨xb, 2, none⟩ = some (.int .i64 d.sin) ∧ W.cell? ⟨xb, 3, none⟩ = some (.int .i64 d.own) ∧ W.cell? ⟨xb, 4, none⟩ = some (.bool d.has) ∧ W.cell? ⟨xb, 5, none⟩ = some (.string d.v) ∧ W.cell? ⟨xb, 6, none⟩ = some (.slice q.a d.n q.c) ∧ W.cell? ⟨xb, 7, none⟩ = some (.int .i64 d.ver) ∧ W.cell? ⟨xb, 8, none⟩ = some (.int .i64 d.chg)) := fun W hW => by
    have hc := HX.out.1.trans (hW.mono HX.out.1.size)
    obtain ⟨y0, y1, y2, y3, y4, y5, y6, y7, y8⟩ := nine_cells (HX.out.2.of_block (hW.block _ HX.out.2.lt))
    exact ⟨(HO.out W hc).row.cell (i := 0) (by omega), (HO.out W hc).row.cell (i := 1) (by omega), y0, y1, y2, y3, y4, y5, y6, y7, y8⟩
  have CA : Hid (∀ W, Below X.heap.size X W → Calls Try.prog 92 #[.agg #[.int .i64 d.k, .string d.m, .int .i64 d.sin, .int .i64 d.own, .bool d.has, .string d.v, .slice q.a d.n q.c, .int .i64 d.ver, .int .i64 d.chg]] W fun e w' => e = .returned (.agg #[.int .i64 d.k, .string d.m]) ∧ Hid (Below X.heap.size X w')) := fun W hW => (c70 _ _ _ _ _ _ _ _ _ _ _ W).mono fun e w' ⟨he, hb⟩ => ⟨he, hW.trans (hb.mono hW.size)⟩
  have CB : Hid (∀ W, Hid (Below X.heap.size X W) → Calls Try.prog 78 #[.pointer (some ⟨lb, 0, none⟩), .agg #[.int .i64 d.k, .string d.m]] W fun e w' => e = .returned (.tuple #[.int .i64 ((posK n D d.k d.m : Nat) : Int), .bool false]) ∧ Hid (Below X.heap.size X w')) := fun W hW =>
    (r62 base lb g n cap p D d.k d.m W (HO.out W (HX.out.1.trans (hW.out.mono HX.out.1.size))) HU.out (by omega)).mono fun e w' ⟨i, f, he, hf, hb⟩ => by
      cases f
      · obtain ⟨h1, h2, h3⟩ := hf.2 rfl
        rw [← pos_uniq h1 h2 h3]
        exact ⟨he, hW.out.trans (hb.mono hW.out.size)⟩
      · exact absurd (hf.1.1 rfl).2 (HN.out i (hf.1.1 rfl).1)
  have hpi : posK n D d.k d.m ≤ n := pos_le _ _ _ _
  rw [← HPE.out] at CB hpi
  clear HPE
  obtain ⟨l0w, l1w, b0w, b1w, b2w, b3w, b4w, b5w, b6w, b7w, b8w⟩ := HZ.out X (Below.refl _ _)
  go_region_held3 (fun w' => w'.cell? ⟨lb, 0, none⟩ = some (.slice (some ⟨g, 0, none⟩) n cap) ∧ w'.cell? ⟨lb, 1, none⟩ = some kf ∧ w'.cell? ⟨xb, 0, none⟩ = some (.int .i64 d.k) ∧ w'.cell? ⟨xb, 1, none⟩ = some (.string d.m) ∧ w'.cell? ⟨xb, 2, none⟩ = some (.int .i64 d.sin) ∧ w'.cell? ⟨xb, 3, none⟩ = some (.int .i64 d.own) ∧ w'.cell? ⟨xb, 4, none⟩ = some (.bool d.has) ∧ w'.cell? ⟨xb, 5, none⟩ = some (.string d.v) ∧ w'.cell? ⟨xb, 6, none⟩ = some (.slice q.a d.n q.c) ∧ w'.cell? ⟨xb, 7, none⟩ = some (.int .i64 d.ver) ∧ w'.cell? ⟨xb, 8, none⟩ = some (.int .i64 d.chg)) (go_keep)
    (first
      | (go_at_call 92; (with_reducible refine (CA.out _ (Below.refl _ _).drew).mono ?_); rintro e w3 ⟨rfl, H3⟩; obtain ⟨l0x, l1x, b0x, b1x, b2x, b3x, b4x, b5x, b6x, b7x, b8x⟩ := HZ.out w3 H3.out)
      | (go_at_call 78; (with_reducible refine (CB.out _ H3).mono ?_); rintro e w4 ⟨rfl, H4⟩; obtain ⟨l0y, l1y, b0y, b1y, b2y, b3y, b4y, b5y, b6y, b7y, b8y⟩ := HZ.out w4 H4.out))
  all_goals
    clear l0w l1w b0w b1w b2w b3w b4w b5w b6w b7w b8w l0x l1x b0x b1x b2x b3x b4x b5x b6x b7x b8x CA CB H3
    have HY : Hid (Below w.heap.size w w4) := HX.out.1.trans (H4.out.mono HX.out.1.size)
    have HL4 := (HO.out w4 HY.out).row
    have g0 := HL4.frozen 0
    have CI : Hid (Calls Try.prog 102 #[.slice (some ⟨g, 0, none⟩) n cap, .int .i64 (pi : Int), .slice (some ⟨w4.heap.size, 0, none⟩) 1 1] (w4.alloc (.cells #[.int .i64 d.k, .string d.m, .int .i64 d.sin, .int .i64 d.own, .bool d.has, .string d.v, .slice q.a d.n q.c, .int .i64 d.ver, .int .i64 d.chg] 81)).drew fun e w' => e = .returned (.slice (some ⟨g, 0, none⟩) (n + 1) cap) ∧ w'.cell? ⟨lb, 0, none⟩ = some (.slice (some ⟨g, 0, none⟩) n cap) ∧ w'.frozen? ⟨lb, 0, none⟩ = false ∧ Hid (PutE w (w'.setCell ⟨lb, 0, none⟩ (.slice (some ⟨g, 0, none⟩) (n + 1) cap)) base lb g (n + 1) cap (insF pi q p) (insF pi d D))) := by
      have hB : Below w.heap.size w (w4.alloc (.cells #[.int .i64 d.k, .string d.m, .int .i64 d.sin, .int .i64 d.own, .bool d.has, .string d.v, .slice q.a d.n q.c, .int .i64 d.ver, .int .i64 d.chg] 81)).drew := (HY.out.alloc HY.out.size _).drew
      have hO := HO.out _ hB
      have hgl : g ≠ lb := fun e => hO.ne (by rw [← e]; rfl)
      have hg4 := ((HO.out w4 HY.out).own.lt g rfl).2
      have hr9 : (w4.alloc (.cells #[.int .i64 d.k, .string d.m, .int .i64 d.sin, .int .i64 d.own, .bool d.has, .string d.v, .slice q.a d.n q.c, .int .i64 d.ver, .int .i64 d.chg] 81)).drew.rowIs w4.heap.size 81 9 (ecf q d) := (row9 w4 (.int .i64 d.k) (.string d.m) (.int .i64 d.sin) (.int .i64 d.own) (.bool d.has) (.string d.v) (.slice q.a d.n q.c) (.int .i64 d.ver) (.int .i64 d.chg) 81).congr (fun i hi => by
        match i, hi with
        | 0, _ => rfl
        | 1, _ => rfl
        | 2, _ => rfl
        | 3, _ => rfl
        | 4, _ => rfl
        | 5, _ => rfl
        | 6, _ => rfl
        | 7, _ => rfl
        | 8, _ => rfl)
      refine (t_Insert base g n cap pi w4.heap.size 1 p D q d _ hO.own hr9 (by omega) hpi hrm (by omega)).mono fun e w' ⟨he, ho, hs⟩ => ?_
      have hrw := hO.row.of_block (hs.block lb hO.row.lt (by omega))
      exact ⟨he, hrw.cell (i := 0) (by omega), hrw.frozen 0, os_insert (HO.out w (Below.refl _ _)) hB ho hs⟩
    have d1' : ((w4.alloc (.cells #[.int .i64 d.k, .string d.m, .int .i64 d.sin, .int .i64 d.own, .bool d.has, .string d.v, .slice q.a d.n q.c, .int .i64 d.ver, .int .i64 d.chg] 81)).drew).cell? ⟨lb, 0, none⟩ = some (.slice (some ⟨g, 0, none⟩) n cap) := (HL4.alloc (.cells #[.int .i64 d.k, .string d.m, .int .i64 d.sin, .int .i64 d.own, .bool d.has, .string d.v, .slice q.a d.n q.c, .int .i64 d.ver, .int .i64 d.chg] 81)).cell (i := 0) (by omega)
    have hll2 : lb < w4.heap.size := HL4.lt
    have hll3 : lb ≠ w4.heap.size := by omega
    clear HL4
    go_wp2_with fail
    go_region_with (first | (go_at_call 102; (with_reducible refine CI.out.mono ?_); rintro e w5 ⟨rfl, l0z, g0z, HP⟩))
    all_goals
      clear l0y l1y b0y b1y b2y b3y b4y b5y b6y b7y b8y CI g0 d1'
      go_wp2
      exact bodyPost_end (v := .tuple #[]) (by simp [results, Try.results85]) rfl ⟨rfl, HP.out⟩

end Go.Proofs.Ytpbebpcoeeednaa

/-
  Tables: the program's claim.
-/
namespace Go.Proofs.Ytpbebpcoeeednaa
open Go.RowKit

set_option maxHeartbeats 1000000 in
theorem t_take (eb eo : Nat) (x y : Value) (wk rev : Int) (w : World) (hwk : 0 ≤ wk ∧ wk < 16) (h0 : w.cell? ⟨eb, eo + 2, none⟩ = some x) (h1 : w.cell? ⟨eb, eo + 3, none⟩ = some y) (f0 : w.frozen? ⟨eb, eo + 2, none⟩ = false) (f1 : w.frozen? ⟨eb, eo + 3, none⟩ = false) :
    Calls Try.prog 86 #[.pointer (some ⟨eb, eo, none⟩), .int .i64 rev, .int .i64 wk] w fun e w' => e = .returned (.tuple #[]) ∧ w' = (w.setCell ⟨eb, eo + 2, none⟩ (.int .i64 rev)).setCell ⟨eb, eo + 3, none⟩ (.int .i64 (wk + 1)) := by
  have hwk1 : IntKind.i64.wrap (wk + 1) = wk + 1 := by rw [IntKind.wrap_i64]; omega
  go_enter Try.func86, Try.ntmps86
  go_wp2
  exact bodyPost_end (v := .tuple #[]) (by simp [results, Try.results86]) rfl ⟨rfl, rfl⟩

theorem putD_ins (i : Nat) (s : SD) (D : Nat → SD) : putD false i s D = insF i s D := by
  funext j; unfold putD insF; simp

/-- Where the deps of the slots lie behind a claim. -/
def clmP (n : Nat) (p : Nat → SP) (D : Nat → SD) (k : Int) (m : ByteArray) (cpy : Int) : Nat → SP :=
  match slotOf n D k m with
  | none => if cpy ≤ (n : Int) then p else insF (posK n D k m) ⟨none, 0, 0, 0⟩ p
  | some _ => p

/-- What claim leaves. -/
structure LeftC (w w' : World) (base lb g n cap sb : Nat) (p : Nat → SP) (D : Nat → SD) : Prop where
  os : OS w' base lb (.slice (some ⟨g, 0, none⟩) n cap) n p D
  sb : w'.cell? ⟨sb, 0, none⟩ = some (.pointer (some ⟨lb, 0, none⟩))
  kept : Kept (fun b => b < w.heap.size ∧ b ≠ lb ∧ b ≠ g) w w'

theorem Kept.of_below {w w' : World} {f : Nat → Prop} (h : Below w.heap.size w w') (hf : ∀ b, f b → b < w.heap.size) : Kept f w w' := ⟨h.os, h.tape, h.output, h.size, fun b hb => h.block b (hf b hb)⟩
theorem kept_span {w w' : World} {lb g : Nat} (h : Span g (g + 1) w w') : Kept (fun b => b < w.heap.size ∧ b ≠ lb ∧ b ≠ g) w w' := ⟨h.os, h.tape, h.output, h.size, fun b hb => h.block b hb.1 (by omega)⟩
theorem kept_trans {w X w' : World} {lb g : Nat} (h : Below w.heap.size w X) (h2 : Kept (fun b => b < X.heap.size ∧ b ≠ lb ∧ b ≠ g) X w') : Kept (fun b => b < w.heap.size ∧ b ≠ lb ∧ b ≠ g) w w' :=
  ⟨h2.os.trans h.os, h2.tape.trans h.tape, h2.output.trans h.output, Nat.le_trans h.size h2.size, fun b hb => (h2.block b ⟨Nat.lt_of_lt_of_le hb.1 h.size, hb.2⟩).trans (h.block b hb.1)⟩

set_option maxRecDepth 100000 in
set_option maxHeartbeats 4000000 in
theorem t_claim (base lb g n cap sb : Nat) (p : Nat → SP) (D : Nat → SD) (k : Int) (m : ByteArray) (wk rev cpy : Int) (w : World) (hOS : OS w base lb (.slice (some ⟨g, 0, none⟩) n cap) n p D) (hsb : w.cell? ⟨sb, 0, none⟩ = some (.pointer (some ⟨lb, 0, none⟩))) (hsg : sb ≠ g) (hsl : sb ≠ lb) (hU : Up n D) (hrm : n + 1 ≤ cap) (hcc : cap ≤ 1048577) (hwk : 0 ≤ wk ∧ wk < 16) :
    Calls Try.prog 55 #[.pointer (some ⟨sb, 0, none⟩), .agg #[.int .i64 k, .string m, .int .i64 rev], .int .i64 wk, .int .i64 cpy] w fun e w' =>
      e = .returned (.int .i64 (clmC n D k m rev cpy)) ∧ LeftC w w' base lb g (clmN n D k m cpy) cap sb (clmP n p D k m cpy) (clmD n D k m wk rev cpy) := by
  have HU : Hid (Up n D) := hU
  have HO : Hid (∀ w', Below w.heap.size w w' → OS w' base lb (.slice (some ⟨g, 0, none⟩) n cap) n p D ∧ w'.cell? ⟨sb, 0, none⟩ = some (.pointer (some ⟨lb, 0, none⟩))) := fun w' hb => ⟨hOS.below hb, by rw [hb.cell (p := ⟨sb, 0, none⟩) (World.block_lt_of_cell? _ _ hsb)]; exact hsb⟩
  have hsz : sb < w.heap.size := World.block_lt_of_cell? _ _ hsb
  clear hOS hsb hU
  have hwk1 : IntKind.i64.wrap (wk + 1) = wk + 1 := by rw [IntKind.wrap_i64]; omega
  have BB := bel1 w (.cells #[.int .i64 k, .string m, .int .i64 rev] 79)
  have R3 := row3 w (.int .i64 k) (.string m) (.int .i64 rev) 79
  go_enter Try.func55, Try.ntmps55
  go_wp2_with fail
  obtain ⟨X, hX⟩ : ∃ X, X = w.alloc (.cells #[.int .i64 k, .string m, .int .i64 rev] 79) := ⟨_, rfl⟩
  rw [← hX] at R3 BB
  rw [← hX]
  clear hX
  have HX : Hid (Below w.heap.size w X ∧ X.rowIs w.heap.size 79 3 (v3 (.int .i64 k) (.string m) (.int .i64 rev))) := ⟨BB, R3⟩
  have HZ : Hid (∀ W, Below X.heap.size X W → W.cell? ⟨sb, 0, none⟩ = some (.pointer (some ⟨lb, 0, none⟩)) ∧ W.cell? ⟨w.heap.size, 0, none⟩ = some (.int .i64 k) ∧ W.cell? ⟨w.heap.size, 1, none⟩ = some (.string m) ∧ W.cell? ⟨w.heap.size, 2, none⟩ = some (.int .i64 rev)) := fun W hW => by
    have r := HX.out.2.of_block (hW.block _ HX.out.2.lt)
    exact ⟨(HO.out W (HX.out.1.trans (hW.mono HX.out.1.size))).2, r.cell (i := 0) (by omega), r.cell (i := 1) (by omega), r.cell (i := 2) (by omega)⟩
  have C39 : Hid (∀ W, Below X.heap.size X W → Calls Try.prog 48 #[.pointer (some ⟨lb, 0, none⟩), .agg #[.int .i64 k, .string m]] W fun e w' => ∃ r, e = .returned (.pointer r) ∧ Hid (FR g n D k m r) ∧ Hid (Below X.heap.size X w')) := fun W hW =>
    (c39 base lb g n cap p D k m W (HO.out W (HX.out.1.trans (hW.mono HX.out.1.size))).1 HU.out (by omega)).mono fun e w' ⟨hb, hf⟩ => by
      rcases hf with ⟨he, hf⟩ | ⟨i, he, hf⟩
      · exact ⟨none, he, Or.inl ⟨rfl, hf⟩, hW.trans (hb.mono hW.size)⟩
      · exact ⟨some ⟨g, i * 9, none⟩, he, Or.inr ⟨i, rfl, hf⟩, hW.trans (hb.mono hW.size)⟩
  obtain ⟨z0, z1, z2, _⟩ := HZ.out X (Below.refl _ _)
  clear R3 BB
  go_region_held3 (fun w' => w'.cell? ⟨sb, 0, none⟩ = some (.pointer (some ⟨lb, 0, none⟩)) ∧ w'.cell? ⟨w.heap.size, 0, none⟩ = some (.int .i64 k) ∧ w'.cell? ⟨w.heap.size, 1, none⟩ = some (.string m)) (go_keep)
    (first | (go_at_call 48; (with_reducible refine (C39.out _ (Below.refl _ _).drew).mono ?_); rintro e w3 ⟨r, rfl, HF, H3⟩; obtain ⟨y0, y1, y2, y3⟩ := HZ.out w3 H3.out))
  all_goals
    have HY : Hid (Below w.heap.size w w3) := HX.out.1.trans (H3.out.mono HX.out.1.size)
    have l0 : w3.cell? ⟨lb, 0, none⟩ = some (.slice (some ⟨g, 0, none⟩) n cap) := (HO.out w3 HY.out).1.row.cell (i := 0) (by omega)
    clear z0 z1 z2 C39 HZ H3 HX
    rcases HF.out with ⟨hr, hno⟩ | ⟨i, hr, hi, hsk⟩
    · have HS : Hid (slotOf n D k m = none) := slot_none hno
      have HNO : Hid (∀ j, j < n → ¬ sk (D j).k (D j).m k m) := hno
      subst hr
      clear HF hno
      by_cases hc : cpy ≤ (n : Int)
      · have HCN : Hid (clmC n D k m rev cpy = 2 ∧ clmN n D k m cpy = n ∧ clmD n D k m wk rev cpy = D ∧ clmP n p D k m cpy = p) := ⟨(clm_full (wk := wk) (rev := rev) HS.out hc).1, (clm_full (wk := wk) (rev := rev) HS.out hc).2.1, (clm_full HS.out hc).2.2, by unfold clmP; rw [HS.out]; simp [hc]⟩
        go_wp2
        go_ret
        refine ⟨by rw [HCN.out.1]; rfl, ?_⟩
        rw [HCN.out.2.1, HCN.out.2.2.1, HCN.out.2.2.2]
        exact ⟨(HO.out w3 HY.out).1, (HO.out w3 HY.out).2, Kept.of_below HY.out (fun b hb => hb.1)⟩
      · have HCN : Hid (clmC n D k m rev cpy = 0 ∧ clmN n D k m cpy = n + 1 ∧ clmD n D k m wk rev cpy = insF (posK n D k m) (nw k m wk rev) D ∧ clmP n p D k m cpy = insF (posK n D k m) ⟨none, 0, 0, 0⟩ p) := ⟨(clm_new (wk := wk) (rev := rev) HS.out hc).1, (clm_new (wk := wk) (rev := rev) HS.out hc).2.1, by rw [(clm_new HS.out hc).2.2, putD_ins], by unfold clmP; rw [HS.out]; simp [hc]⟩
        have CP : Hid (∀ W, Below w.heap.size w W → Calls Try.prog 85 #[.pointer (some ⟨lb, 0, none⟩), .agg #[.int .i64 k, .string m, .int .i64 rev, .int .i64 (wk + 1), .bool false, .string ⟨#[]⟩, .slice none 0 0, .int .i64 0, .int .i64 0]] W fun e w' => e = .returned (.tuple #[]) ∧ Hid (LeftC w w' base lb g (n + 1) cap sb (insF (posK n D k m) ⟨none, 0, 0, 0⟩ p) (insF (posK n D k m) (nw k m wk rev) D))) := fun W hW =>
          (t_putE base lb g n cap p D ⟨none, 0, 0, 0⟩ (nw k m wk rev) W (HO.out W hW).1 HU.out HNO.out hrm hcc).mono fun e w' ⟨he, hP⟩ => ⟨he, hP.os, by
            rw [World.cell?_of_block (a := ⟨sb, 0, none⟩) (hP.kept.block sb ⟨Nat.lt_of_lt_of_le hsz hW.size, hsl, hsg⟩)]; exact (HO.out W hW).2, kept_trans hW hP.kept⟩
        have hc' : ¬ cpy ≤ (n : Int) := hc
        have HC : Hid (Below w.heap.size w w3) := HY.out
        go_wp2_with fail
        go_region_with (first | (go_at_call 85; (with_reducible refine (CP.out _ HY.out.drew).mono ?_); rintro e w5 ⟨rfl, HL⟩))
        all_goals
          clear y0 y1 y2 y3 l0 CP
          go_wp2
          go_ret
          refine ⟨by rw [HCN.out.1]; rfl, ?_⟩
          rw [HCN.out.2.1, HCN.out.2.2.1, HCN.out.2.2.2]
          exact HL.out
    · have HS : Hid (slotOf n D k m = some i) := slot_some HU.out hi hsk
      obtain ⟨a0, a1, a2, a3, a4, a5, a6, a7, a8⟩ := nine_ec (HO.out w3 HY.out).1.own i hi
      subst hr
      clear HF
      have hEQ := eq73 (D i).k (D i).sin k rev (D i).m m
      have hgd := Try.guard73
      have b1 : ((D i).k == k) = true := by rw [beq_iff_eq]; exact hsk.1
      have b2 : ((D i).m.toList == m.toList) = true := by rw [beq_iff_eq]; exact hsk.2
      rw [b1, b2, Bool.true_and, Bool.true_and] at hEQ
      obtain ⟨bb, hbb⟩ : ∃ bb, ((D i).sin == rev) = bb := ⟨_, rfl⟩
      rw [hbb] at hEQ
      have HBB : Hid (((D i).sin == rev) = bb) := hbb
      have HI : Hid (i < n) := hi
      clear b1 b2 hbb hsk
      cases bb
      · have hne : ¬ (D i).sin = rev := beq_eq_false_iff_ne.1 HBB.out
        have HCN : Hid (clmC n D k m rev cpy = 0 ∧ clmN n D k m cpy = n ∧ clmD n D k m wk rev cpy = updF D i (tk (D i) wk rev) ∧ clmP n p D k m cpy = p) := ⟨(clm_take (wk := wk) (cpy := cpy) HS.out hne).1, (clm_take (wk := wk) (rev := rev) HS.out hne).2.1, (clm_take HS.out hne).2.2, by unfold clmP; rw [HS.out]⟩
        have CT : Hid (∀ W, Below w.heap.size w W → Calls Try.prog 86 #[.pointer (some ⟨g, i * 9, none⟩), .int .i64 rev, .int .i64 wk] W fun e w' => e = .returned (.tuple #[]) ∧ Hid (LeftC w w' base lb g n cap sb p (updF D i (tk (D i) wk rev)))) := fun W hW => by
          obtain ⟨f, hrw, hc1, hc2, hbg, hgl, hfe⟩ := os_row (HO.out W hW).1
          have hi := HI.out
          refine (t_take g (i * 9) _ _ wk rev W hwk (hrw.cell (by omega)) (hrw.cell (by omega)) (hrw.frozen _) (hrw.frozen _)).mono fun e w' ⟨he, hw'⟩ => ⟨he, ?_⟩
          subst hw'
          have rr := (hrw.set (i * 9 + 2) (.int .i64 rev)).set (i * 9 + 3) (.int .i64 (wk + 1))
          refine ⟨?_, ?_, kept_span (((Span.of_below hW).set (i * 9 + 2) (Nat.le_refl _) (by omega) _).set (i * 9 + 3) (Nat.le_refl _) (by omega) _)⟩
          · have hl : ∀ (W : World) (o : Nat) (v : Value), (W.setCell ⟨g, o, none⟩ v).heap[lb]? = W.heap[lb]? := fun W o v => Below.heap_setCell _ _ _ _ (by show lb ≠ g; exact fun e => hgl e.symm)
            have := os_put (w' := ((W.setCell ⟨g, i * 9 + 2, none⟩ (.int .i64 rev)).setCell ⟨g, i * 9 + 3, none⟩ (.int .i64 (wk + 1)))) (i := i) (q := p i) (d := tk (D i) wk rev) (HO.out W hW).1 (by rw [hl, hl]) rr (fun a b ha hne hb => ?_) (fun b hb => ?_)
            · rw [updF_self] at this
              exact this
            · show (if a * 9 + b = i * 9 + 3 then _ else if a * 9 + b = i * 9 + 2 then _ else f (a * 9 + b)) = _
              rw [if_neg (by omega), if_neg (by omega)]
              exact hfe a b ha hb
            · show (if i * 9 + b = i * 9 + 3 then _ else if i * 9 + b = i * 9 + 2 then _ else f (i * 9 + b)) = _
              rw [hfe i b hi hb]
              match b, hb with
              | 0, _ => simp [ecf, tk]
              | 1, _ => simp [ecf, tk]
              | 2, _ => simp [ecf, tk]
              | 3, _ => simp [ecf, tk]
              | 4, _ => simp [ecf, tk]
              | 5, _ => simp [ecf, tk]
              | 6, _ => simp [ecf, tk]
              | 7, _ => simp [ecf, tk]
              | 8, _ => simp [ecf, tk]
          · have hl : ∀ (W : World) (o : Nat) (v : Value), (W.setCell ⟨g, o, none⟩ v).cell? ⟨sb, 0, none⟩ = W.cell? ⟨sb, 0, none⟩ := fun W o v => World.cell?_of_block (a := ⟨sb, 0, none⟩) (Below.heap_setCell _ _ _ _ (by show sb ≠ g; exact hsg))
            rw [hl, hl]; exact (HO.out W hW).2
        clear hne
        go_wp2
        go_quiet (fail)
        clear hEQ hgd
        go_wp2_with (first | (go_at_call 86; (with_reducible refine (CT.out _ (below_drewN HY.out _)).mono ?_); rintro e w5 ⟨rfl, HL⟩))
        go_ret
        refine ⟨by rw [HCN.out.1]; rfl, ?_⟩
        rw [HCN.out.2.1, HCN.out.2.2.1, HCN.out.2.2.2]
        exact HL.out
      · have hee : (D i).sin = rev := beq_iff_eq.1 HBB.out
        have HCN : Hid (clmC n D k m rev cpy = 1 ∧ clmN n D k m cpy = n ∧ clmD n D k m wk rev cpy = D ∧ clmP n p D k m cpy = p) := ⟨(clm_no (wk := wk) (cpy := cpy) HS.out hee).1, (clm_no (wk := wk) (rev := rev) HS.out hee).2.1, (clm_no HS.out hee).2.2, by unfold clmP; rw [HS.out]⟩
        clear hee
        go_wp2
        go_quiet (fail)
        clear hEQ hgd
        go_wp2
        go_ret
        refine ⟨by rw [HCN.out.1]; rfl, ?_⟩
        rw [HCN.out.2.1, HCN.out.2.2.1, HCN.out.2.2.2]
        exact ⟨(HO.out _ (below_drewN HY.out _)).1, (HO.out _ (below_drewN HY.out _)).2, Kept.of_below (below_drewN HY.out _) (fun b hb => hb.1)⟩

end Go.Proofs.Ytpbebpcoeeednaa

/-
  Tables: the program's Claim.
-/
namespace Go.Proofs.Ytpbebpcoeeednaa
open Go.RowKit

/-- What is asked of the arguments of a claim. -/
def okB (n : Nat) (D : Nat → SD) (k : Int) (m : ByteArray) (wk rev cpy : Int) : Bool := okA n D k m wk rev && decide (1 ≤ cpy ∧ cpy ≤ 4096)

theorem clmN_le (n : Nat) (D : Nat → SD) (k : Int) (m : ByteArray) (cpy : Int) : clmN n D k m cpy ≤ n + 1 := by
  unfold clmN
  split
  · split <;> omega
  · omega

theorem kv_small {k : Int} {m : ByteArray} (h : kv k m = true) : m.size ≤ 12 := by
  unfold kv at h
  rw [Bool.and_eq_true] at h
  have h2 := h.2
  by_cases hc : 12 < m.size
  · rw [gn_short (Or.inr hc)] at h2; cases h2
  · omega

theorem good_clm {w : World} {n : Nat} {p : Nat → SP} {D : Nat → SD} {k : Int} {m : ByteArray} {wk cpy : Int} (h : ∀ i, i < n → Good w (p i) (D i)) (hk : kv k m = true) (hwk : 0 ≤ wk ∧ wk < 16) (rev : Int) : ∀ i, i < clmN n D k m cpy → Good w (clmP n p D k m cpy i) (clmD n D k m wk rev cpy i) := by
  intro i hi
  have hm := kv_small hk
  cases hs : slotOf n D k m with
  | none =>
    by_cases hc : cpy ≤ (n : Int)
    · rw [(clm_full (wk := wk) (rev := rev) hs hc).2.1] at hi
      rw [(clm_full hs hc).2.2]
      unfold clmP; rw [hs]; simp only [hc, if_true]
      exact h i hi
    · rw [(clm_new (wk := wk) (rev := rev) hs hc).2.1] at hi
      rw [(clm_new hs hc).2.2, putD_ins]
      unfold clmP; rw [hs]; simp only [hc, if_false]
      have hp := pos_le n D k m
      rcases Nat.lt_trichotomy i (posK n D k m) with c | c | c
      · rw [insF_lt c, insF_lt c]; exact h i (by omega)
      · rw [c, insF_at, insF_at]
        exact ⟨⟨keys_no _ _ _, by show m.size ≤ _; omega, by show (0 : Nat) ≤ _; omega, by show (-9223372036854775808 : Int) ≤ wk + 1; omega, by show wk + 1 ≤ (9223372036854775807 : Int); omega⟩, ⟨by show m.size ≤ _; omega, by show (0 : Nat) ≤ _; omega, by show (0 : Nat) ≤ _; omega, fun j hj => absurd hj (Nat.not_lt_zero _)⟩⟩
      · rw [insF_gt c, insF_gt c]; exact h (i - 1) (by omega)
  | some j =>
    by_cases hc : (D j).sin = rev
    · rw [(clm_no (wk := wk) (rev := rev) hs hc).2.1] at hi
      rw [(clm_no hs hc).2.2]
      unfold clmP; rw [hs]
      exact h i hi
    · rw [(clm_take (wk := wk) (rev := rev) hs hc).2.1] at hi
      rw [(clm_take hs hc).2.2]
      unfold clmP; rw [hs]
      have hg := h i hi
      by_cases e : i = j
      · subst e
        rw [updF_at]
        exact ⟨⟨hg.at_.keys, hg.at_.sm, hg.at_.sv, by show (-9223372036854775808 : Int) ≤ wk + 1; omega, by show wk + 1 ≤ (9223372036854775807 : Int); omega⟩, hg.sm⟩
      · rw [updF_ne e]; exact hg

set_option maxRecDepth 100000 in
set_option maxHeartbeats 8000000 in
theorem t_Claim (ao : Option Addr) (b o n c : Nat) (p : Nat → SP) (D : Nat → SD) (k : Int) (m : ByteArray) (wk rev cpy : Int) (w : World) (h1 : SlotsAt w ao b o n p D) (hm : m.size ≤ 9223372036854775807) (hs : ∀ i, i < n → small (D i)) :
    Calls Try.prog 24 #[.agg #[.slice ao n c], .agg #[.int .i64 k, .string m], .int .i64 wk, .int .i64 rev, .int .i64 cpy] w fun e w' =>
      TabPost2 w (if okB n D k m wk rev cpy then clmN n D k m cpy else 0) (clmD n D k m wk rev cpy) (if okB n D k m wk rev cpy then clmC n D k m rev cpy else 9) e w' := by
  have HB : Hid (∀ w', Below w.heap.size w w' → SlotsAt w' ao b o n p D) := fun w' hb => h1.below hb
  have HS : Hid (∀ i, i < n → small (D i)) := hs
  clear h1 hs
  obtain ⟨n', hn'⟩ : ∃ n', n' = if okB n D k m wk rev cpy then clmN n D k m cpy else 0 := ⟨_, rfl⟩
  obtain ⟨cd, hcd⟩ : ∃ cd, cd = if okB n D k m wk rev cpy then clmC n D k m rev cpy else 9 := ⟨_, rfl⟩
  rw [← hn', ← hcd]
  have HN : Hid (n' = if okB n D k m wk rev cpy then clmN n D k m cpy else 0) := hn'
  have HC : Hid (cd = if okB n D k m wk rev cpy then clmC n D k m rev cpy else 9) := hcd
  clear hn' hcd
  have rT := ((row1 w (.slice ao n c) 28).alloc (.cells #[.int .i64 k, .string m] 37)).alloc (.cells #[.slice none 0 0] 28)
  have rK := (row2 (w.alloc (.cells #[.slice ao n c] 28)) (.int .i64 k) (.string m) 37).alloc (.cells #[.slice none 0 0] 28)
  have rR := row1 ((w.alloc (.cells #[.slice ao n c] 28)).alloc (.cells #[.int .i64 k, .string m] 37)) (.slice none 0 0) 28
  simp only [World.size_alloc] at rK rR
  have HR : Hid (_ ∧ _) := And.intro rK rR
  clear rT rK rR
  go_enter Try.func24, Try.ntmps24
  go_wp2_with fail
  refine (r35 ao b o n c p D k m wk rev _ (by exact HB.out _ (bel3 _ _ _ _)) hm).mono ?_
  rintro e w1 ⟨ptr, rfl, hb1, hO⟩
  have B1 : Hid (Below w.heap.size w w1) := (bel3 w _ _ _).trans (hb1.mono (by simp; omega))
  have R1 : Hid (w1.rowIs (w.heap.size + 1) 37 2 _ ∧ w1.rowIs (w.heap.size + 1 + 1) 28 1 _) := ⟨HR.out.1.of_block (hb1.block _ (by simp)), HR.out.2.of_block (hb1.block _ (by simp))⟩
  have HO : Hid (vt n D = true → ∃ sb, ptr = some ⟨sb, 0, none⟩ ∧ ∃ base lb g, OS w1 base lb (.slice (some ⟨g, 0, none⟩) n (n + 1)) n p D ∧ w1.cell? ⟨sb, 0, none⟩ = some (.pointer (some ⟨lb, 0, none⟩)) ∧ w.heap.size + 1 + 1 < base ∧ base ≤ sb ∧ sb ≠ lb ∧ sb ≠ g) := fun hv => by
    obtain ⟨sb, e1, hop⟩ := hO hv
    obtain ⟨base, lb, g, k1, k2, k3, k4, k5, k6⟩ := hop.st
    simp only [World.size_alloc] at k3
    exact ⟨sb, e1, base, lb, g, k1, k2, by omega, k4, k5, k6⟩
  clear hb1 hO HR
  obtain ⟨ok, hok⟩ : ∃ ok, ok = okA n D k m wk rev := ⟨_, rfl⟩
  have HOK : Hid (ok = okA n D k m wk rev) := hok
  have e0 : (vt n D && (kv k m && (decide (0 ≤ wk ∧ wk < 16) && decide (1 ≤ rev)))) = ok := hok.symm
  rw [e0]
  clear hok e0
  have r0 := R1.out.2.cell (i := 0) (by omega)
  have rf := R1.out.2.frozen 0
  cases ok
  · have HN0 : Hid (n' = 0 ∧ cd = 9) := by
      have e1 : okB n D k m wk rev cpy = false := by unfold okB; rw [← HOK.out]; rfl
      rw [HN.out, HC.out, e1]; exact ⟨rfl, rfl⟩
    go_wp2
    refine bodyPost_ret (v := .tuple #[.agg #[.slice none 0 0], .int .i64 9]) (by simp [results, Try.results24, go_sem, r0]) rfl ?_
    unfold TabPost2
    rw [HN0.out.1, HN0.out.2]
    exact ⟨none, 0, 0, p, rfl, tab_none _ _ _ _ _ _ _, B1.out.setCell (by show w.heap.size ≤ w.heap.size + 1 + 1; omega) _⟩
  by_cases hcl : 1 ≤ cpy ∧ cpy ≤ 4096
  case neg =>
    have HN0 : Hid (n' = 0 ∧ cd = 9) := by
      have e1 : okB n D k m wk rev cpy = false := by unfold okB; rw [decide_eq_false hcl, Bool.and_false]
      rw [HN.out, HC.out, e1]; exact ⟨rfl, rfl⟩
    by_cases hc1 : cpy < 1
    · clear hcl
      go_wp2
      refine bodyPost_ret (v := .tuple #[.agg #[.slice none 0 0], .int .i64 9]) (by simp [results, Try.results24, go_sem, r0]) rfl ?_
      unfold TabPost2
      rw [HN0.out.1, HN0.out.2]
      exact ⟨none, 0, 0, p, rfl, tab_none _ _ _ _ _ _ _, B1.out.setCell (by show w.heap.size ≤ w.heap.size + 1 + 1; omega) _⟩
    · have hc2 : 4096 < cpy := by omega
      clear hcl
      go_wp2
      refine bodyPost_ret (v := .tuple #[.agg #[.slice none 0 0], .int .i64 9]) (by simp [results, Try.results24, go_sem, r0]) rfl ?_
      unfold TabPost2
      rw [HN0.out.1, HN0.out.2]
      exact ⟨none, 0, 0, p, rfl, tab_none _ _ _ _ _ _ _, B1.out.setCell (by show w.heap.size ≤ w.heap.size + 1 + 1; omega) _⟩
  case pos =>
    obtain ⟨p1, p2, p3, p4⟩ := okA_parts HOK.out.symm
    obtain ⟨sb, rfl, base, lb, g, k1, k2, k3, k4, k5, k6⟩ := HO.out p1
    have hn := vt_len p1
    have hgb : base ≤ g := (os_row k1).choose_spec.2.2.2.1
    have hlb : base ≤ lb := k1.lo
    have HUP : Hid (Up n D) := up_of p1
    have HKV : Hid (kv k m = true) := p2
    have HK : Hid (OS w1 base lb (.slice (some ⟨g, 0, none⟩) n (n + 1)) n p D ∧ w1.cell? ⟨sb, 0, none⟩ = some (.pointer (some ⟨lb, 0, none⟩))) := ⟨k1, k2⟩
    have HN1 : Hid (n' = clmN n D k m cpy ∧ cd = clmC n D k m rev cpy) := by
      have e1 : okB n D k m wk rev cpy = true := by unfold okB; rw [← HOK.out, decide_eq_true hcl]; rfl
      rw [HN.out, HC.out, e1]; exact ⟨rfl, rfl⟩
    have y0 : w1.cell? ⟨w.heap.size + 1, 0, none⟩ = some (.int .i64 k) := R1.out.1.cell (i := 0) (by omega)
    have y1 : w1.cell? ⟨w.heap.size + 1, 1, none⟩ = some (.string m) := R1.out.1.cell (i := 1) (by omega)
    have hc1 : ¬ cpy < 1 := by omega
    have hc2 : ¬ 4096 < cpy := by omega
    clear k1 k2 p1 p2 p4 r0 rf hcl
    go_wp2_with fail
    refine (t_claim base lb g n (n + 1) sb p D k m wk rev cpy _ HK.out.1 HK.out.2 k6 k5 HUP.out (Nat.le_refl _) (by omega) p3).mono ?_
    rintro e w2 ⟨rfl, L2⟩
    have hw1 := B1.out.size
    have B2 : Hid (Below w.heap.size w w2) := ⟨L2.kept.os.trans B1.out.os, L2.kept.tape.trans B1.out.tape, L2.kept.output.trans B1.out.output, Nat.le_trans hw1 L2.kept.size, fun x hx => (L2.kept.block x ⟨by omega, by omega, by omega⟩).trans (B1.out.block x hx)⟩
    have R2 : Hid (w2.rowIs (w.heap.size + 1 + 1) 28 1 (fun _ => .slice none 0 0)) := R1.out.2.of_block (L2.kept.block _ ⟨R1.out.2.lt, by omega, by omega⟩)
    have O2 : Hid (Opened w w2 sb (clmN n D k m cpy) (clmP n p D k m cpy) (clmD n D k m wk rev cpy)) := ⟨base, lb, _, L2.os, L2.sb, by omega, k4, k5, fun e => k6 (by simpa [Value.ownBlock] using e)⟩
    have G2 : Hid (∀ i, i < clmN n D k m cpy → Good w2 (clmP n p D k m cpy i) (clmD n D k m wk rev cpy i)) := good_clm (fun i hi => ⟨(HB.out w2 B2.out).slot i hi, HS.out i hi⟩) HKV.out p3 rev
    have hnn : clmN n D k m cpy ≤ 1048576 := by have := clmN_le n D k m cpy; omega
    obtain ⟨n2, hn2⟩ : ∃ n2, n2 = clmN n D k m cpy := ⟨_, rfl⟩
    obtain ⟨c2, hcc2⟩ : ∃ c2, c2 = clmC n D k m rev cpy := ⟨_, rfl⟩
    rw [← hn2] at O2 G2 HN1 hnn
    rw [← hcc2] at HN1
    rw [← hcc2]
    clear hn2 hcc2
    clear L2 y0 y1
    go_wp2_with fail
    refine (t_table w sb n2 _ _ w2 O2.out (fun i hi => (G2.out i hi).at_) (fun i hi => (G2.out i hi).sm) hnn).mono ?_
    rintro e w3 ⟨ta, tb, tc, tq, rfl, T3, hb3⟩
    have R3 := R2.out.of_block (hb3.block _ R2.out.lt)
    have r0 := R3.cell (i := 0) (by omega)
    have rf := R3.frozen 0
    have HF : Hid (TabNew w3 w2.heap.size w3.heap.size ta tb n2 tq (clmD n D k m wk rev cpy) ∧ Below w.heap.size w w3 ∧ w.heap.size + 1 + 1 < w2.heap.size) := ⟨T3, B2.out.trans (hb3.mono B2.out.size), R2.out.lt⟩
    clear T3 hb3 R3
    go_wp2
    refine bodyPost_ret (v := .tuple #[.agg #[.slice ta n2 tc], .int .i64 c2]) (by simp [results, Try.results24, go_sem, r0]) rfl ?_
    unfold TabPost2
    rw [HN1.out.1, HN1.out.2]
    exact ⟨ta, tb, tc, tq, rfl, (HF.out.1.set (a := ⟨w.heap.size + 1 + 1, 0, none⟩) HF.out.2.2 _).wide (by have := HF.out.2.2; omega) (by simp), HF.out.2.1.setCell (by show w.heap.size ≤ w.heap.size + 1 + 1; omega) _⟩

end Go.Proofs.Ytpbebpcoeeednaa

/-
  Tables: the model's claim.
-/
namespace Go.Proofs.Ytpbebpcoeeednaa
open Go.RowKit

/-- A slot with a key alone. -/
def nz (k : Int) (m : ByteArray) : SD := ⟨k, m, false, ByteArray.empty, 0, fun _ => 0, fun _ => ByteArray.empty, 0, 0, 0, 0⟩

theorem arr2 {xs : Array Value} {a b : Value} (h : xs.size = 2) (h0 : xs[0]? = some a) (h1 : xs[1]? = some b) : xs = #[a, b] := by
  obtain ⟨l⟩ := xs
  match l, h, h0, h1 with
  | [x, y], _, h0, h1 =>
    simp at h0 h1
    rw [h0, h1]

set_option maxRecDepth 100000 in
set_option maxHeartbeats 2000000 in
theorem s_claim (ao : Option Addr) (b o n c : Nat) (p : Nat → SP) (D : Nat → SD) (k : Int) (m : ByteArray) (wk rev cpy : Int) (w : World) (h1 : SlotsAt w ao b o n p D) (hn : n ≤ 1048576) (hs : ∀ i, i < n → small (D i)) (hv : vt n D = true) (hkv : kv k m = true) (hm : m.size ≤ 9223372036854775807) (hwk : 0 ≤ wk ∧ wk < 16) (hrev : 1 ≤ rev) :
    Calls Try.prog 53 #[.agg #[.slice ao n c], .agg #[.int .i64 k, .string m], .int .i64 wk, .int .i64 rev, .int .i64 cpy] w fun e w' =>
      TabPost2 w (clmN n D k m cpy) (clmD n D k m wk rev cpy) (clmC n D k m rev cpy) e w' := by
  have HB : Hid (∀ w', Below w.heap.size w w' → SlotsAt w' ao b o n p D) := fun w' hb => h1.below hb
  have HG : Hid (∀ i, i < n → (D i).n ≤ 1048576) := fun i hi => (hs i hi).2.2.1
  have HV : Hid (vt n D = true) := hv
  have HUP : Hid (Up n D) := up_of hv
  have HK0 : Hid (¬ sk 0 ByteArray.empty k m) := fun h => by
    unfold kv at hkv
    rw [Bool.and_eq_true, decide_eq_true_eq] at hkv
    have := h.1
    omega
  have hlen := h1.len
  clear h1 hs hv hkv
  obtain ⟨n', hn'⟩ : ∃ n', n' = clmN n D k m cpy := ⟨_, rfl⟩
  have rT := ((row1 w (.slice ao n c) 28).alloc (.cells #[.int .i64 k, .string m] 37)).alloc (.cells #[.slice none 0 0] 28)
  have rK := (row2 (w.alloc (.cells #[.slice ao n c] 28)) (.int .i64 k) (.string m) 37).alloc (.cells #[.slice none 0 0] 28)
  have rR := row1 ((w.alloc (.cells #[.slice ao n c] 28)).alloc (.cells #[.int .i64 k, .string m] 37)) (.slice none 0 0) 28
  simp only [World.size_alloc] at rK rR
  have HX : Hid (Bx w _ ao n c k m) := ⟨rT, rK, rR, bel3 w _ _ _⟩
  clear rT rK rR hn'
  have hwk1 : IntKind.i64.wrap (wk + 1) = wk + 1 := by rw [IntKind.wrap_i64]; omega
  go_enter Try.func53, Try.ntmps53
  go_wp2_with fail
  refine (t_find ao b o n c p D k m _ (HB.out _ (bel3 _ _ _ _)) hn HG.out).mono ?_
  rintro e w4 ⟨d, oa, cap, rfl, hb4, hO4, HF4⟩
  have X4 : Hid (Bx w w4 ao n c k m) := HX.out.below hb4.out
  have hw4 : w.heap.size + 1 + 1 < w4.heap.size := X4.out.r.lt
  have X5 : Hid (Bx w (w4.alloc (.cells #[.int .i64 d.k, .string d.m, .bool d.has, .string d.v, .slice oa d.n cap, .int .i64 d.ver, .int .i64 d.chg, .int .i64 d.own, .int .i64 d.sin] 40)) ao n c k m) := X4.out.below (bel1 w4 _)
  have rX := row_sc w4 ⟨oa, 0, 0, cap⟩ d 40
  have y0 : (w4.alloc (.cells #[.int .i64 d.k, .string d.m, .bool d.has, .string d.v, .slice oa d.n cap, .int .i64 d.ver, .int .i64 d.chg, .int .i64 d.own, .int .i64 d.sin] 40)).cell? ⟨w4.heap.size, 0, none⟩ = some (.int .i64 d.k) := rX.cell (i := 0) (by omega)
  have y1 : (w4.alloc (.cells #[.int .i64 d.k, .string d.m, .bool d.has, .string d.v, .slice oa d.n cap, .int .i64 d.ver, .int .i64 d.chg, .int .i64 d.own, .int .i64 d.sin] 40)).cell? ⟨w4.heap.size, 1, none⟩ = some (.string d.m) := rX.cell (i := 1) (by omega)
  have k0 : (w4.alloc (.cells #[.int .i64 d.k, .string d.m, .bool d.has, .string d.v, .slice oa d.n cap, .int .i64 d.ver, .int .i64 d.chg, .int .i64 d.own, .int .i64 d.sin] 40)).cell? ⟨w.heap.size + 1, 0, none⟩ = some (.int .i64 k) := X5.out.k.cell (i := 0) (by omega)
  have k1 : (w4.alloc (.cells #[.int .i64 d.k, .string d.m, .bool d.has, .string d.v, .slice oa d.n cap, .int .i64 d.ver, .int .i64 d.chg, .int .i64 d.own, .int .i64 d.sin] 40)).cell? ⟨w.heap.size + 1, 1, none⟩ = some (.string m) := X5.out.k.cell (i := 1) (by omega)
  have HRX : Hid ((w4.alloc (.cells #[.int .i64 d.k, .string d.m, .bool d.has, .string d.v, .slice oa d.n cap, .int .i64 d.ver, .int .i64 d.chg, .int .i64 d.own, .int .i64 d.sin] 40)).rowIs w4.heap.size 40 9 (sc ⟨oa, 0, 0, cap⟩ d)) := rX
  have HO5 : Hid (∃ lo, (w4.alloc (.cells #[.int .i64 d.k, .string d.m, .bool d.has, .string d.v, .slice oa d.n cap, .int .i64 d.ver, .int .i64 d.chg, .int .i64 d.own, .int .i64 d.sin] 40)).ownsRow lo 37 2 (.slice oa d.n cap) d.n (kcells d.dk d.dm d.n) ∧ some w4.heap.size ≠ (Value.slice oa d.n cap).ownBlock) := ⟨_, hO4.out.alloc _, fun e => by have := (hO4.out.lt _ e.symm).2; omega⟩
  clear rX hb4 hO4 HX
  unfold sdl
  go_wp2_with fail
  refine (c60 d.k d.m k m _).mono ?_
  rintro e w5 ⟨rfl, hb5⟩
  have X6 : Hid (Bx w w5 ao n c k m) := X5.out.below hb5
  have HR5 : Hid (w5.rowIs w4.heap.size 40 9 (sc ⟨oa, 0, 0, cap⟩ d)) := HRX.out.of_block (hb5.block _ HRX.out.lt)
  have HO6 : Hid (∃ lo, w5.ownsRow lo 37 2 (.slice oa d.n cap) d.n (kcells d.dk d.dm d.n) ∧ some w4.heap.size ≠ (Value.slice oa d.n cap).ownBlock) := by
    obtain ⟨lo, h, h2⟩ := HO5.out
    exact ⟨lo, own_below h hb5, h2⟩
  clear hb5 y0 y1 k0 k1 HRX HO5 X5 X4
  obtain ⟨y0, y1, y2, y3, y4, y5, y6, y7, y8⟩ := nine_sc HR5.out
  obtain ⟨yf0, yf1, yf2, yf3, yf4, yf5, yf6, yf7, yf8⟩ := nine_frozen HR5.out
  have cT := X6.out.t.cell (i := 0) (by omega)
  have k0 : w5.cell? ⟨w.heap.size + 1, 0, none⟩ = some (.int .i64 k) := X6.out.k.cell (i := 0) (by omega)
  have k1 : w5.cell? ⟨w.heap.size + 1, 1, none⟩ = some (.string m) := X6.out.k.cell (i := 1) (by omega)
  have CC : Hid (Calls Try.prog 58 #[.agg #[.slice ao n c]] w5 fun e w' => ∃ (ta : Option Addr) (tc : Nat), e = .returned (.agg #[.slice ta n tc]) ∧ w'.cell? ⟨w.heap.size + 1 + 1, 0, none⟩ = some (.slice none 0 0) ∧ w'.frozen? ⟨w.heap.size + 1 + 1, 0, none⟩ = false ∧ Hid (∀ cd, TabPost2 w n D cd (.returned (.tuple #[.agg #[.slice ta n tc], .int .i64 cd])) (w'.setCell ⟨w.heap.size + 1 + 1, 0, none⟩ (.slice ta n tc)))) :=
    (t_copy ao b o n c p D _ (HB.out _ X6.out.b) hn HG.out).mono fun e w' ⟨ta, tb, tc, tq, he, hT, hb⟩ => ⟨ta, tc, he, ((X6.out.below hb).r).cell (i := 0) (by omega), (X6.out.below hb).r.frozen 0, fun cd => tab_post X6.out hb hT⟩
  have HSP : Hid (∀ W, Span w4.heap.size (w4.heap.size + 1) w5 W → Bx w W ao n c k m) := fun W h => X6.out.span h hw4
  have hne1 : w4.heap.size ≠ w.heap.size := by omega
  have hne2 : w4.heap.size ≠ w.heap.size + 1 := by omega
  have hne3 : w.heap.size ≠ w4.heap.size := by omega
  have hne4 : w.heap.size + 1 ≠ w4.heap.size := by omega
  obtain ⟨ss, hss⟩ : ∃ ss, decide (sk d.k d.m k m) = ss := ⟨_, rfl⟩
  have HSS : Hid (decide (sk d.k d.m k m) = ss) := hss
  rw [hss]
  clear hss
  cases ss
  · have HSN : Hid (slotOf n D k m = none) := by
      rcases HF4.out with ⟨h, _⟩ | ⟨i, hi, h, rfl⟩
      · exact h
      · exact absurd (slot_sk h) (of_decide_eq_false HSS.out)
    by_cases hc : cpy ≤ (n : Int)
    · have HCN : Hid (clmC n D k m rev cpy = 2 ∧ clmN n D k m cpy = n ∧ clmD n D k m wk rev cpy = D) := clm_full HSN.out hc
      go_wp2_with fail
      refine CC.out.mono ?_
      rintro e w6 ⟨ta, tc, rfl, r0, rf, HP⟩
      go_wp2
      refine bodyPost_ret (v := .tuple #[.agg #[.slice ta n tc], .int .i64 2]) (by simp [results, Try.results53, go_sem, r0]) rfl ?_
      rw [HCN.out.1, HCN.out.2.1, HCN.out.2.2]
      exact HP.out 2
    · have HCN : Hid (clmC n D k m rev cpy = 0 ∧ clmN n D k m cpy = n + 1 ∧ clmD n D k m wk rev cpy = putD false (posK n D k m) (nw k m wk rev) D) := clm_new HSN.out hc
      have CP : Hid (∀ W, Span w4.heap.size (w4.heap.size + 1) w5 W → Calls Try.prog 59 #[.agg #[.slice ao n c], .agg #[.int .i64 k, .string m, .bool false, .string ByteArray.empty, .slice none 0 0, .int .i64 0, .int .i64 0, .int .i64 (wk + 1), .int .i64 rev]] W fun e w' => ∃ (ta : Option Addr) (tc : Nat), e = .returned (.agg #[.slice ta (n + 1) tc]) ∧ w'.cell? ⟨w.heap.size + 1 + 1, 0, none⟩ = some (.slice none 0 0) ∧ w'.frozen? ⟨w.heap.size + 1 + 1, 0, none⟩ = false ∧ Hid (∀ cd, TabPost2 w (n + 1) (putD false (posK n D k m) (nw k m wk rev) D) cd (.returned (.tuple #[.agg #[.slice ta (n + 1) tc], .int .i64 cd])) (w'.setCell ⟨w.heap.size + 1 + 1, 0, none⟩ (.slice ta (n + 1) tc)))) := fun W hW => by
        have hS : SlotAt W ⟨none, 0, 0, 0⟩ (nw k m wk rev) := ⟨keys_no W _ _, hm, by show (0 : Nat) ≤ _; omega, by show (-9223372036854775808 : Int) ≤ wk + 1; omega, by show wk + 1 ≤ (9223372036854775807 : Int); omega⟩
        have hno : ∀ j, j < n → decide (sk (D j).k (D j).m k m) = (false && decide (j = posK n D k m)) := fun j hj => by
          rw [Bool.false_and]
          exact decide_eq_false (fun h => by have := slot_some HUP.out hj h; rw [HSN.out] at this; cases this)
        exact put_call (HSP.out W hW) HB.out hn HG.out ⟨none, 0, 0, 0⟩ (nw k m wk rev) false (posK n D k m) hS (Nat.zero_le _) (fun j hj => pos_lt hj) (fun j hj hjn => pos_ge HUP.out hj hjn) hno (fun h => by cases h) (pos_le _ _ _ _)
      obtain ⟨old, hold, holds, -⟩ := HR5.out
      obtain ⟨kold, hkold, hkolds, hkat⟩ := X6.out.k
      obtain rfl : kold = #[.int .i64 k, .string m] := arr2 hkolds (hkat 0 (by omega)) (hkat 1 (by omega))
      clear hkat
      go_upto_region 5 with fail
      refine wp_region_lit ?_
      refine wpList_load_row rfl 37 (.tmp 6) rfl (w.heap.size + 1) (by kernel_rfl) 37 #[.int .i64 k, .string m] (0, 0) _ hkold Try.underlying37 rfl (by kernel_rfl) ?_
      refine wpList_buildTo rfl 40 #[(0, .tmp 28)] rfl (some 29) rfl #[.int .i64 k, .string m, .bool false, .string ByteArray.empty, .slice none 0 0, .int .i64 0, .int .i64 0, .int .i64 0, .int .i64 0] (by kernel_rfl) ?_
      refine wpList_store_rowTo rfl 40 (.tmp 12) (.tmp 29) rfl rfl w4.heap.size #[.int .i64 k, .string m, .bool false, .string ByteArray.empty, .slice none 0 0, .int .i64 0, .int .i64 0, .int .i64 0, .int .i64 0] (by kernel_rfl) (by kernel_rfl) 40 old hold (by kernel_rfl) (by exact holds) (by kernel_rfl) ?_
      refine wpList_nil ?_
      (try simp only [Act.put]); (try simp only [List.setIfInBounds_toArray]); (try simp only [List.set_cons_succ]); (try simp only [List.set_cons_zero])
      obtain ⟨W9, hW9⟩ : ∃ W9, W9 = w5.setRow w4.heap.size #[.int .i64 k, .string m, .bool false, .string ByteArray.empty, .slice none 0 0, .int .i64 0, .int .i64 0, .int .i64 0, .int .i64 0] := ⟨_, rfl⟩
      rw [← hW9]
      have HR9 : Hid (W9.rowIs w4.heap.size 40 9 (sc ⟨none, 0, 0, 0⟩ (nz k m))) := by
        rw [hW9]
        exact ⟨_, setRow_heap _ _ _ _ _ _ hold, rfl, fun i hi => by
          match i, hi with
          | 0, _ => rfl
          | 1, _ => rfl
          | 2, _ => rfl
          | 3, _ => rfl
          | 4, _ => rfl
          | 5, _ => rfl
          | 6, _ => rfl
          | 7, _ => rfl
          | 8, _ => rfl⟩
      have HS9 : Hid (Span w4.heap.size (w4.heap.size + 1) w5 W9) := by
        rw [hW9]
        exact ⟨rfl, rfl, rfl, by rw [setRow_size]; exact Nat.le_refl _, fun x _ h => setRow_other _ _ _ _ (by omega)⟩
      clear hW9 hold y0 y1 y2 y3 y4 y5 y6 y7 y8 yf0 yf1 yf2 yf3 yf4 yf5 yf6 yf7 yf8 cT k0 k1
      have X9 := HSP.out W9 HS9.out
      have cT := X9.t.cell (i := 0) (by omega)
      clear X9
      obtain ⟨y0, y1, y2, y3, y4, y5, y6, y7, y8⟩ := nine_sc HR9.out
      obtain ⟨yf0, yf1, yf2, yf3, yf4, yf5, yf6, yf7, yf8⟩ := nine_frozen HR9.out
      unfold nz at y0 y1 y2 y3 y4 y5 y6 y7 y8
      dsimp only at y0 y1 y2 y3 y4 y5 y6 y7 y8
      go_wp2_with fail
      refine (CP.out _ ((HS9.out.set 7 (Nat.le_refl _) (Nat.lt_succ_self _) _).set 8 (Nat.le_refl _) (Nat.lt_succ_self _) _)).mono ?_
      rintro e w6 ⟨ta, tc, rfl, r0, rf, HP⟩
      go_wp2
      refine bodyPost_ret (v := .tuple #[.agg #[.slice ta (n + 1) tc], .int .i64 0]) (by simp [results, Try.results53, go_sem, r0]) rfl ?_
      rw [HCN.out.1, HCN.out.2.1, HCN.out.2.2]
      exact HP.out 0
  · obtain ⟨i, hi, hsl, hdi⟩ : ∃ i, i < n ∧ slotOf n D k m = some i ∧ d = D i := by
      rcases HF4.out with ⟨h, rfl⟩ | ⟨i, hi, h, hd⟩
      · exact absurd (of_decide_eq_true HSS.out) HK0.out
      · exact ⟨i, hi, h, hd⟩
    have HI : Hid (i < n ∧ slotOf n D k m = some i ∧ d = D i) := ⟨hi, hsl, hdi⟩
    clear hsl hdi
    by_cases hsin : d.sin = rev
    · have HCN : Hid (clmC n D k m rev cpy = 1 ∧ clmN n D k m cpy = n ∧ clmD n D k m wk rev cpy = D) := clm_no HI.out.2.1 (by rw [← HI.out.2.2]; exact hsin)
      have b1 : ¬ d.own = 0 := by rw [HI.out.2.2]; exact sv_sin (vt_sv' HV.out HI.out.1) hrev (by rw [← HI.out.2.2]; exact hsin)
      have b2 : (d.sin == rev) = true := by rw [beq_iff_eq]; exact hsin
      clear hsin
      go_wp2_with fail
      refine CC.out.mono ?_
      rintro e w6 ⟨ta, tc, rfl, r0, rf, HP⟩
      go_wp2
      refine bodyPost_ret (v := .tuple #[.agg #[.slice ta n tc], .int .i64 1]) (by simp [results, Try.results53, go_sem, r0]) rfl ?_
      rw [HCN.out.1, HCN.out.2.1, HCN.out.2.2]
      exact HP.out 1
    · have HCN : Hid (clmC n D k m rev cpy = 0 ∧ clmN n D k m cpy = n ∧ clmD n D k m wk rev cpy = updF D i (tk (D i) wk rev)) := clm_take HI.out.2.1 (by rw [← HI.out.2.2]; exact hsin)
      have b2 : (d.sin == rev) = false := by rw [beq_eq_false_iff_ne]; exact hsin
      have CP : Hid (∀ W, Span w4.heap.size (w4.heap.size + 1) w5 W → Calls Try.prog 59 #[.agg #[.slice ao n c], .agg #[.int .i64 d.k, .string d.m, .bool d.has, .string d.v, .slice oa d.n cap, .int .i64 d.ver, .int .i64 d.chg, .int .i64 (wk + 1), .int .i64 rev]] W fun e w' => ∃ (ta : Option Addr) (tc : Nat), e = .returned (.agg #[.slice ta n tc]) ∧ w'.cell? ⟨w.heap.size + 1 + 1, 0, none⟩ = some (.slice none 0 0) ∧ w'.frozen? ⟨w.heap.size + 1 + 1, 0, none⟩ = false ∧ Hid (∀ cd, TabPost2 w n (updF D i (tk (D i) wk rev)) cd (.returned (.tuple #[.agg #[.slice ta n tc], .int .i64 cd])) (w'.setCell ⟨w.heap.size + 1 + 1, 0, none⟩ (.slice ta n tc)))) := fun W hW => by
        obtain ⟨hi, -, hd⟩ := HI.out
        have hFit : Fit d := by rw [hd]; exact ((HB.out w (Below.refl _ _)).slot i hi).fit
        obtain ⟨lo, ho, hob⟩ := HO6.out
        have hoW : W.ownsRow lo 37 2 (.slice oa d.n cap) d.n (kcells d.dk d.dm d.n) := own_same ho (fun g hg => hW.block g (ho.lt g hg).2 (by have : g ≠ w4.heap.size := fun e => hob (by rw [← e]; exact hg.symm); omega))
        obtain ⟨kb, hKN⟩ := keys_own hoW
        obtain ⟨u1, u2, u3⟩ := up_put HUP.out hi
        have hS : SlotAt W ⟨oa, kb, 0, cap⟩ (tk d wk rev) := ⟨hKN.keys hFit.ks hFit.kn, hFit.sm, hFit.sv, by show (-9223372036854775808 : Int) ≤ wk + 1; omega, by show wk + 1 ≤ (9223372036854775807 : Int); omega⟩
        have := put_call (HSP.out W hW) HB.out hn HG.out ⟨oa, kb, 0, cap⟩ (tk d wk rev) true i hS (by show d.n ≤ _; rw [hd]; exact HG.out i hi) (by show ∀ j, j < i → kl (D j).k (D j).m d.k d.m = true; rw [hd]; exact u1) (by show ∀ j, i ≤ j → j < n → kl (D j).k (D j).m d.k d.m = false; rw [hd]; exact u2) (by show ∀ j, j < n → decide (sk (D j).k (D j).m d.k d.m) = _; rw [hd]; exact u3) (fun _ => hi) (Nat.le_of_lt hi)
        rw [putD_upd, if_pos rfl] at this
        rw [← hd]
        exact this
      clear hsin
      go_wp2_with fail
      all_goals
        refine (CP.out _ (by repeat' first | exact Span.refl _ _ _ | (refine Span.set ?_ _ (Nat.le_refl _) (Nat.lt_succ_self _) _))).mono ?_
        rintro e w6 ⟨ta, tc, rfl, r0, rf, HP⟩
        go_wp2
        refine bodyPost_ret (v := .tuple #[.agg #[.slice ta n tc], .int .i64 0]) (by simp [results, Try.results53, go_sem, r0]) rfl ?_
        rw [HCN.out.1, HCN.out.2.1, HCN.out.2.2]
        exact HP.out 0

end Go.Proofs.Ytpbebpcoeeednaa

/-
  Tables: the model's Claim.
-/
namespace Go.Proofs.Ytpbebpcoeeednaa
open Go.RowKit

set_option maxRecDepth 100000 in
set_option maxHeartbeats 8000000 in
theorem s_Claim (ao : Option Addr) (b o n c : Nat) (p : Nat → SP) (D : Nat → SD) (k : Int) (m : ByteArray) (wk rev cpy : Int) (w : World) (h1 : SlotsAt w ao b o n p D) (hm : m.size ≤ 9223372036854775807) (hn : n ≤ 1048576) (hs : ∀ i, i < n → small (D i)) :
    Calls Try.prog 23 #[.agg #[.slice ao n c], .agg #[.int .i64 k, .string m], .int .i64 wk, .int .i64 rev, .int .i64 cpy] w fun e w' =>
      TabPost2 w (if okB n D k m wk rev cpy then clmN n D k m cpy else 0) (clmD n D k m wk rev cpy) (if okB n D k m wk rev cpy then clmC n D k m rev cpy else 9) e w' := by
  have HB : Hid (∀ w', Below w.heap.size w w' → SlotsAt w' ao b o n p D) := fun w' hb => h1.below hb
  have HS : Hid (∀ i, i < n → small (D i)) := hs
  have HG : Hid (∀ i, i < n → (D i).n ≤ 1048576) := fun i hi => (hs i hi).2.2.1
  clear h1 hs
  obtain ⟨n', hn'⟩ : ∃ n', n' = if okB n D k m wk rev cpy then clmN n D k m cpy else 0 := ⟨_, rfl⟩
  obtain ⟨cd, hcd⟩ : ∃ cd, cd = if okB n D k m wk rev cpy then clmC n D k m rev cpy else 9 := ⟨_, rfl⟩
  rw [← hn', ← hcd]
  have HN : Hid (n' = if okB n D k m wk rev cpy then clmN n D k m cpy else 0) := hn'
  have HC : Hid (cd = if okB n D k m wk rev cpy then clmC n D k m rev cpy else 9) := hcd
  clear hn' hcd
  have rT := ((row1 w (.slice ao n c) 28).alloc (.cells #[.int .i64 k, .string m] 37)).alloc (.cells #[.slice none 0 0] 28)
  have rK := (row2 (w.alloc (.cells #[.slice ao n c] 28)) (.int .i64 k) (.string m) 37).alloc (.cells #[.slice none 0 0] 28)
  have rR := row1 ((w.alloc (.cells #[.slice ao n c] 28)).alloc (.cells #[.int .i64 k, .string m] 37)) (.slice none 0 0) 28
  simp only [World.size_alloc] at rK rR
  have HX : Hid (Bx w _ ao n c k m) := ⟨rT, rK, rR, bel3 w _ _ _⟩
  clear rT rK rR
  go_enter Try.func23, Try.ntmps23
  go_wp2_with fail
  refine (c7 ao b o n c p D _ (HB.out _ (bel3 _ _ _ _))).mono ?_
  rintro e w1 ⟨rfl, hb1⟩
  have X1 : Hid (Bx w w1 ao n c k m) := HX.out.below hb1
  have cT := X1.out.t.cell (i := 0) (by omega)
  have k0 : w1.cell? ⟨w.heap.size + 1, 0, none⟩ = some (.int .i64 k) := X1.out.k.cell (i := 0) (by omega)
  have k1 : w1.cell? ⟨w.heap.size + 1, 1, none⟩ = some (.string m) := X1.out.k.cell (i := 1) (by omega)
  have r0 := X1.out.r.cell (i := 0) (by omega)
  have rf := X1.out.r.frozen 0
  clear hb1 HX
  cases hv : vt n D
  · have HN0 : Hid (n' = 0 ∧ cd = 9) := (fun (hf : okA n D k m wk rev = false) => (by have hf2 : okB n D k m wk rev cpy = false := (by unfold okB; rw [hf]; rfl); rw [HN.out, HC.out, hf2]; exact ⟨rfl, rfl⟩ : n' = 0 ∧ cd = 9)) (by unfold okA; rw [hv]; rfl)
    clear hv
    go_wp2
    refine bodyPost_ret (v := .tuple #[.agg #[.slice none 0 0], .int .i64 9]) (by simp [results, Try.results23, go_sem, r0]) rfl (nine_post HN0.out X1.out)
  have HV : Hid (vt n D = true) := hv
  clear hv
  go_wp2_with fail
  refine (c31 k m _ hm).mono ?_
  rintro e w2 ⟨rfl, hb2⟩
  have X2 : Hid (Bx w w2 ao n c k m) := X1.out.below hb2
  clear hb2 cT k0 k1 r0 rf X1
  have cT := X2.out.t.cell (i := 0) (by omega)
  have k0 : w2.cell? ⟨w.heap.size + 1, 0, none⟩ = some (.int .i64 k) := X2.out.k.cell (i := 0) (by omega)
  have k1 : w2.cell? ⟨w.heap.size + 1, 1, none⟩ = some (.string m) := X2.out.k.cell (i := 1) (by omega)
  have r0 := X2.out.r.cell (i := 0) (by omega)
  have rf := X2.out.r.frozen 0
  cases hk : kv k m
  · have HN0 : Hid (n' = 0 ∧ cd = 9) := (fun (hf : okA n D k m wk rev = false) => (by have hf2 : okB n D k m wk rev cpy = false := (by unfold okB; rw [hf]; rfl); rw [HN.out, HC.out, hf2]; exact ⟨rfl, rfl⟩ : n' = 0 ∧ cd = 9)) (by unfold okA; rw [hk, Bool.false_and, Bool.and_false])
    clear hk
    go_wp2
    refine bodyPost_ret (v := .tuple #[.agg #[.slice none 0 0], .int .i64 9]) (by simp [results, Try.results23, go_sem, r0]) rfl (nine_post HN0.out X2.out)
  have HK : Hid (kv k m = true) := hk
  clear hk
  by_cases hwk : 0 ≤ wk ∧ wk < 16
  case neg =>
    have HN0 : Hid (n' = 0 ∧ cd = 9) := (fun (hf : okA n D k m wk rev = false) => (by have hf2 : okB n D k m wk rev cpy = false := (by unfold okB; rw [hf]; rfl); rw [HN.out, HC.out, hf2]; exact ⟨rfl, rfl⟩ : n' = 0 ∧ cd = 9)) (by unfold okA; rw [decide_eq_false hwk, Bool.false_and, Bool.and_false, Bool.and_false])
    have C32 : Hid (∀ W, Calls Try.prog 37 #[.int .i64 wk] W fun e w' => e = .returned (.bool false) ∧ w' = W) := fun W => by have := t_workerOk wk W; rw [decide_eq_false hwk] at this; exact this
    clear hwk
    go_wp2_with (go_at_call 37; refine (C32.out _).mono ?_; rintro e w3 ⟨rfl, hw3⟩; subst hw3)
    refine bodyPost_ret (v := .tuple #[.agg #[.slice none 0 0], .int .i64 9]) (by simp [results, Try.results23, go_sem, r0]) rfl (nine_post HN0.out X2.out)
  have C32 : Hid (∀ W, Calls Try.prog 37 #[.int .i64 wk] W fun e w' => e = .returned (.bool true) ∧ w' = W) := fun W => by have := t_workerOk wk W; rw [decide_eq_true hwk] at this; exact this
  by_cases hrev : 1 ≤ rev
  case neg =>
    have HN0 : Hid (n' = 0 ∧ cd = 9) := (fun (hf : okA n D k m wk rev = false) => (by have hf2 : okB n D k m wk rev cpy = false := (by unfold okB; rw [hf]; rfl); rw [HN.out, HC.out, hf2]; exact ⟨rfl, rfl⟩ : n' = 0 ∧ cd = 9)) (by unfold okA; rw [decide_eq_false hrev, Bool.and_false, Bool.and_false, Bool.and_false])
    have hr2 : rev < 1 := by omega
    clear hwk hrev
    go_wp2_with (go_at_call 37; refine (C32.out _).mono ?_; rintro e w3 ⟨rfl, hw3⟩; subst hw3)
    refine bodyPost_ret (v := .tuple #[.agg #[.slice none 0 0], .int .i64 9]) (by simp [results, Try.results23, go_sem, r0]) rfl (nine_post HN0.out X2.out)
  have HOK : Hid (okA n D k m wk rev = true) := by show _ = _; unfold okA; rw [HV.out, HK.out, decide_eq_true hwk, decide_eq_true hrev]; rfl
  have hr3 : ¬ rev < 1 := by omega
  by_cases hcl : 1 ≤ cpy ∧ cpy ≤ 4096
  case neg =>
    have HN0 : Hid (n' = 0 ∧ cd = 9) := by
      have e1 : okB n D k m wk rev cpy = false := by unfold okB; rw [decide_eq_false hcl, Bool.and_false]
      rw [HN.out, HC.out, e1]; exact ⟨rfl, rfl⟩
    by_cases hc1 : cpy < 1
    · clear hwk hrev hcl
      go_wp2_with (go_at_call 37; refine (C32.out _).mono ?_; rintro e w3 ⟨rfl, hw3⟩; subst hw3)
      refine bodyPost_ret (v := .tuple #[.agg #[.slice none 0 0], .int .i64 9]) (by simp [results, Try.results23, go_sem, r0]) rfl (nine_post HN0.out X2.out)
    · have hc2 : 4096 < cpy := by omega
      clear hwk hrev hcl
      go_wp2_with (go_at_call 37; refine (C32.out _).mono ?_; rintro e w3 ⟨rfl, hw3⟩; subst hw3)
      refine bodyPost_ret (v := .tuple #[.agg #[.slice none 0 0], .int .i64 9]) (by simp [results, Try.results23, go_sem, r0]) rfl (nine_post HN0.out X2.out)
  case pos =>
    have HN1 : Hid (n' = clmN n D k m cpy ∧ cd = clmC n D k m rev cpy) := by
      have e1 : okB n D k m wk rev cpy = true := by unfold okB; rw [HOK.out, decide_eq_true hcl]; rfl
      rw [HN.out, HC.out, e1]; exact ⟨rfl, rfl⟩
    have hc1 : ¬ cpy < 1 := by omega
    have hc2 : ¬ 4096 < cpy := by omega
    have CM : Hid (Calls Try.prog 53 #[.agg #[.slice ao n c], .agg #[.int .i64 k, .string m], .int .i64 wk, .int .i64 rev, .int .i64 cpy] w2 fun e w' => ∃ (ta : Option Addr) (tc : Nat), e = .returned (.tuple #[.agg #[.slice ta n' tc], .int .i64 cd]) ∧ w'.cell? ⟨w.heap.size + 1 + 1, 0, none⟩ = some (.slice none 0 0) ∧ w'.frozen? ⟨w.heap.size + 1 + 1, 0, none⟩ = false ∧ Hid (TabPost2 w n' (clmD n D k m wk rev cpy) cd (.returned (.tuple #[.agg #[.slice ta n' tc], .int .i64 cd])) (w'.setCell ⟨w.heap.size + 1 + 1, 0, none⟩ (.slice ta n' tc)))) := by
      rw [HN1.out.1, HN1.out.2]
      exact (s_claim ao b o n c p D k m wk rev cpy w2 (HB.out w2 X2.out.b) hn HS.out HV.out HK.out hm hwk hrev).mono fun e w' ⟨ta, tb, tc, tq, he, hT, hb⟩ => ⟨ta, tc, he, ((X2.out.below hb).r).cell (i := 0) (by omega), (X2.out.below hb).r.frozen 0, tab_post X2.out hb hT⟩
    clear hwk hrev hcl
    go_wp2_with (go_at_call 37; refine (C32.out _).mono ?_; rintro e w3 ⟨rfl, hw3⟩; subst hw3)
    refine CM.out.mono ?_
    rintro e w6 ⟨ta, tc, rfl, r0', rf', HP⟩
    go_wp2
    refine bodyPost_ret (v := .tuple #[.agg #[.slice ta n' tc], .int .i64 cd]) (by simp [results, Try.results23, go_sem, r0']) rfl ?_
    exact HP.out

end Go.Proofs.Ytpbebpcoeeednaa

