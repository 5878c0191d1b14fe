/-
  Tables: an entry put where it belongs.
-/
import Derived.Test.YtijgiingfgaakaaTabK3
import Derived.Test.YtijgiingfgaakaaTabK1
import Derived.Test.YtijgiingfgaakaaTabF2
namespace Go.Proofs.Ytijgiingfgaakaa
open Go.RowKit

/-- What put leaves. -/
structure PutE (w w' : World) (base lb g n cap : Nat) (p : Nat → SP) (D : Nat → SD) : Prop where
  os : OS w' base lb (.slice (some ⟨g, 0, none⟩) n cap) n p D
  kept : Kept (fun b => b < w.heap.size ∧ b ≠ lb ∧ b ≠ g) w w'

theorem os_insert {w X w3 : World} {base lb n cap g i : Nat} {p : Nat → SP} {D : Nat → SD} {q : SP} {d : SD} (h : OS w base lb (.slice (some ⟨g, 0, none⟩) n cap) n p D) (hX : Below w.heap.size w X)
    (hown3 : w3.ownsRow base 78 9 (.slice (some ⟨g, 0, none⟩) (n + 1) cap) (n + 1) (ecells (insF i q p) (insF i d D) (n + 1))) (hg3 : Span g (g + 1) X w3) :
    PutE w (w3.setCell ⟨lb, 0, none⟩ (.slice (some ⟨g, 0, none⟩) (n + 1) cap)) base lb g (n + 1) cap (insF i q p) (insF i d D) := by
  have hgl : g ≠ lb := fun e => h.ne (by rw [← e]; rfl)
  have hsz := hX.size
  have hll := h.row.lt
  have b3 : ∀ x, x < w.heap.size → x ≠ g → w3.heap[x]? = w.heap[x]? := fun x hx hne => by
    rw [hg3.block x (by omega) (by omega), hX.block x hx]
  refine ⟨⟨?_, ?_, h.lo, fun e => hgl (by simpa [Value.ownBlock] using e.symm), ⟨_, _, rfl⟩⟩, ⟨?_, ?_, ?_, ?_, fun x ⟨e1, e2, e3⟩ => ?_⟩⟩
  · exact ((h.row.of_block (b3 lb hll (fun e => hgl e.symm))).set 0 _).congr (fun i hi => by
      match i, hi with
      | 0, _ => rfl
      | 1, _ => rfl
      | 2, _ => rfl)
  · refine own_same hown3 (fun x hx => ?_)
    have : x = g := by simpa [Value.ownBlock] using hx.symm
    subst this
    exact Below.heap_setCell _ _ _ _ (by show x ≠ lb; exact hgl)
  · exact hg3.os.trans hX.os
  · exact hg3.tape.trans hX.tape
  · exact hg3.output.trans hX.output
  · have := hg3.size; simp; omega
  · rw [Below.heap_setCell _ _ _ _ (by show x ≠ lb; exact e2), b3 x e1 e3]

set_option maxRecDepth 100000 in
set_option maxHeartbeats 4000000 in
theorem t_putE (base lb g n cap : Nat) (p : Nat → SP) (D : Nat → SD) (q : SP) (d : SD) (w : World) (hOS : OS w base lb (.slice (some ⟨g, 0, none⟩) n cap) n p D) (hU : Up n D) (hno : ∀ j, j < n → ¬ sk (D j).k (D j).m d.k d.m) (hrm : n + 1 ≤ cap) (hcc : cap ≤ 1048577) :
    Calls Try.prog 82 #[.pointer (some ⟨lb, 0, none⟩), .agg #[.int .i64 d.k, .string d.m, .int .i64 d.sin, .int .i64 d.own, .bool d.has, .string d.v, .slice q.a d.n q.c, .int .i64 d.ver, .int .i64 d.chg]] w fun e w' => e = .returned (.tuple #[]) ∧ PutE w w' base lb g (n + 1) cap (insF (posK n D d.k d.m) q p) (insF (posK n D d.k d.m) d D) := by
  have HO : Hid (∀ W, Below w.heap.size w W → OS W base lb (.slice (some ⟨g, 0, none⟩) n cap) n p D) := fun W hW => hOS.below hW
  have HU : Hid (Up n D) := hU
  have HN : Hid (∀ j, j < n → ¬ sk (D j).k (D j).m d.k d.m) := hno
  have BB := bel1 w (.cells #[.int .i64 d.k, .string d.m, .int .i64 d.sin, .int .i64 d.own, .bool d.has, .string d.v, .slice q.a d.n q.c, .int .i64 d.ver, .int .i64 d.chg] 78)
  have R9 := row9 w (.int .i64 d.k) (.string d.m) (.int .i64 d.sin) (.int .i64 d.own) (.bool d.has) (.string d.v) (.slice q.a d.n q.c) (.int .i64 d.ver) (.int .i64 d.chg) 78
  clear hOS hU hno
  obtain ⟨pi, hpe⟩ : ∃ pi, pi = posK n D d.k d.m := ⟨_, rfl⟩
  rw [← hpe]
  have HPE : Hid (pi = posK n D d.k d.m) := hpe
  clear hpe
  go_enter Try.func82, Try.ntmps82
  go_wp2_with fail
  obtain ⟨X, hX⟩ : ∃ X, X = (w.alloc (.cells #[.int .i64 d.k, .string d.m, .int .i64 d.sin, .int .i64 d.own, .bool d.has, .string d.v, .slice q.a d.n q.c, .int .i64 d.ver, .int .i64 d.chg] 78)) := ⟨_, rfl⟩
  obtain ⟨xb, hxb⟩ : ∃ xb, xb = w.heap.size := ⟨_, rfl⟩
  rw [← hX] at R9 BB
  rw [← hxb] at R9
  rw [← hX, ← hxb]
  have HX : Hid (Below w.heap.size w X ∧ X.rowIs xb 78 9 _) := ⟨BB, R9⟩
  have hlx : lb ≠ xb := by rw [hxb]; have := (HO.out w (Below.refl _ _)).row.lt; omega
  clear hX BB R9 hxb
  have HZ : Hid (∀ W, Below X.heap.size X W → W.cell? ⟨lb, 0, none⟩ = some (.slice (some ⟨g, 0, none⟩) n cap) ∧ W.cell? ⟨lb, 1, none⟩ = some kf ∧ W.cell? ⟨xb, 0, none⟩ = some (.int .i64 d.k) ∧ W.cell? ⟨xb, 1, none⟩ = some (.string d.m) ∧ W.cell? ⟨xb, 2, none⟩ = some (.int .i64 d.sin) ∧ W.cell? ⟨xb, 3, none⟩ = some (.int .i64 d.own) ∧ W.cell? ⟨xb, 4, none⟩ = some (.bool d.has) ∧ W.cell? ⟨xb, 5, none⟩ = some (.string d.v) ∧ W.cell? ⟨xb, 6, none⟩ = some (.slice q.a d.n q.c) ∧ W.cell? ⟨xb, 7, none⟩ = some (.int .i64 d.ver) ∧ W.cell? ⟨xb, 8, none⟩ = some (.int .i64 d.chg)) := fun W hW => by
    have hc := HX.out.1.trans (hW.mono HX.out.1.size)
    obtain ⟨y0, y1, y2, y3, y4, y5, y6, y7, y8⟩ := nine_cells (HX.out.2.of_block (hW.block _ HX.out.2.lt))
    exact ⟨(HO.out W hc).row.cell (i := 0) (by omega), (HO.out W hc).row.cell (i := 1) (by omega), y0, y1, y2, y3, y4, y5, y6, y7, y8⟩
  have CA : Hid (∀ W, Below X.heap.size X W → Calls Try.prog 89 #[.agg #[.int .i64 d.k, .string d.m, .int .i64 d.sin, .int .i64 d.own, .bool d.has, .string d.v, .slice q.a d.n q.c, .int .i64 d.ver, .int .i64 d.chg]] W fun e w' => e = .returned (.agg #[.int .i64 d.k, .string d.m]) ∧ Hid (Below X.heap.size X w')) := fun W hW => (c70 _ _ _ _ _ _ _ _ _ _ _ W).mono fun e w' ⟨he, hb⟩ => ⟨he, hW.trans (hb.mono hW.size)⟩
  have CB : Hid (∀ W, Hid (Below X.heap.size X W) → Calls Try.prog 75 #[.pointer (some ⟨lb, 0, none⟩), .agg #[.int .i64 d.k, .string d.m]] W fun e w' => e = .returned (.tuple #[.int .i64 ((posK n D d.k d.m : Nat) : Int), .bool false]) ∧ Hid (Below X.heap.size X w')) := fun W hW =>
    (r62 base lb g n cap p D d.k d.m W (HO.out W (HX.out.1.trans (hW.out.mono HX.out.1.size))) HU.out (by omega)).mono fun e w' ⟨i, f, he, hf, hb⟩ => by
      cases f
      · obtain ⟨h1, h2, h3⟩ := hf.2 rfl
        rw [← pos_uniq h1 h2 h3]
        exact ⟨he, hW.out.trans (hb.mono hW.out.size)⟩
      · exact absurd (hf.1.1 rfl).2 (HN.out i (hf.1.1 rfl).1)
  have hpi : posK n D d.k d.m ≤ n := pos_le _ _ _ _
  rw [← HPE.out] at CB hpi
  clear HPE
  obtain ⟨l0w, l1w, b0w, b1w, b2w, b3w, b4w, b5w, b6w, b7w, b8w⟩ := HZ.out X (Below.refl _ _)
  go_region_held3 (fun w' => w'.cell? ⟨lb, 0, none⟩ = some (.slice (some ⟨g, 0, none⟩) n cap) ∧ w'.cell? ⟨lb, 1, none⟩ = some kf ∧ w'.cell? ⟨xb, 0, none⟩ = some (.int .i64 d.k) ∧ w'.cell? ⟨xb, 1, none⟩ = some (.string d.m) ∧ w'.cell? ⟨xb, 2, none⟩ = some (.int .i64 d.sin) ∧ w'.cell? ⟨xb, 3, none⟩ = some (.int .i64 d.own) ∧ w'.cell? ⟨xb, 4, none⟩ = some (.bool d.has) ∧ w'.cell? ⟨xb, 5, none⟩ = some (.string d.v) ∧ w'.cell? ⟨xb, 6, none⟩ = some (.slice q.a d.n q.c) ∧ w'.cell? ⟨xb, 7, none⟩ = some (.int .i64 d.ver) ∧ w'.cell? ⟨xb, 8, none⟩ = some (.int .i64 d.chg)) (go_keep)
    (first
      | (go_at_call 89; (with_reducible refine (CA.out _ (Below.refl _ _).drew).mono ?_); rintro e w3 ⟨rfl, H3⟩; obtain ⟨l0x, l1x, b0x, b1x, b2x, b3x, b4x, b5x, b6x, b7x, b8x⟩ := HZ.out w3 H3.out)
      | (go_at_call 75; (with_reducible refine (CB.out _ H3).mono ?_); rintro e w4 ⟨rfl, H4⟩; obtain ⟨l0y, l1y, b0y, b1y, b2y, b3y, b4y, b5y, b6y, b7y, b8y⟩ := HZ.out w4 H4.out))
  all_goals
    clear l0w l1w b0w b1w b2w b3w b4w b5w b6w b7w b8w l0x l1x b0x b1x b2x b3x b4x b5x b6x b7x b8x CA CB H3
    have HY : Hid (Below w.heap.size w w4) := HX.out.1.trans (H4.out.mono HX.out.1.size)
    have HL4 := (HO.out w4 HY.out).row
    have g0 := HL4.frozen 0
    have CI : Hid (Calls Try.prog 99 #[.slice (some ⟨g, 0, none⟩) n cap, .int .i64 (pi : Int), .slice (some ⟨w4.heap.size, 0, none⟩) 1 1] (w4.alloc (.cells #[.int .i64 d.k, .string d.m, .int .i64 d.sin, .int .i64 d.own, .bool d.has, .string d.v, .slice q.a d.n q.c, .int .i64 d.ver, .int .i64 d.chg] 78)).drew fun e w' => e = .returned (.slice (some ⟨g, 0, none⟩) (n + 1) cap) ∧ w'.cell? ⟨lb, 0, none⟩ = some (.slice (some ⟨g, 0, none⟩) n cap) ∧ w'.frozen? ⟨lb, 0, none⟩ = false ∧ Hid (PutE w (w'.setCell ⟨lb, 0, none⟩ (.slice (some ⟨g, 0, none⟩) (n + 1) cap)) base lb g (n + 1) cap (insF pi q p) (insF pi d D))) := by
      have hB : Below w.heap.size w (w4.alloc (.cells #[.int .i64 d.k, .string d.m, .int .i64 d.sin, .int .i64 d.own, .bool d.has, .string d.v, .slice q.a d.n q.c, .int .i64 d.ver, .int .i64 d.chg] 78)).drew := (HY.out.alloc HY.out.size _).drew
      have hO := HO.out _ hB
      have hgl : g ≠ lb := fun e => hO.ne (by rw [← e]; rfl)
      have hg4 := ((HO.out w4 HY.out).own.lt g rfl).2
      have hr9 : (w4.alloc (.cells #[.int .i64 d.k, .string d.m, .int .i64 d.sin, .int .i64 d.own, .bool d.has, .string d.v, .slice q.a d.n q.c, .int .i64 d.ver, .int .i64 d.chg] 78)).drew.rowIs w4.heap.size 78 9 (ecf q d) := (row9 w4 (.int .i64 d.k) (.string d.m) (.int .i64 d.sin) (.int .i64 d.own) (.bool d.has) (.string d.v) (.slice q.a d.n q.c) (.int .i64 d.ver) (.int .i64 d.chg) 78).congr (fun i hi => by
        match i, hi with
        | 0, _ => rfl
        | 1, _ => rfl
        | 2, _ => rfl
        | 3, _ => rfl
        | 4, _ => rfl
        | 5, _ => rfl
        | 6, _ => rfl
        | 7, _ => rfl
        | 8, _ => rfl)
      refine (t_Insert base g n cap pi w4.heap.size 1 p D q d _ hO.own hr9 (by omega) hpi hrm (by omega)).mono fun e w' ⟨he, ho, hs⟩ => ?_
      have hrw := hO.row.of_block (hs.block lb hO.row.lt (by omega))
      exact ⟨he, hrw.cell (i := 0) (by omega), hrw.frozen 0, os_insert (HO.out w (Below.refl _ _)) hB ho hs⟩
    have d1' : ((w4.alloc (.cells #[.int .i64 d.k, .string d.m, .int .i64 d.sin, .int .i64 d.own, .bool d.has, .string d.v, .slice q.a d.n q.c, .int .i64 d.ver, .int .i64 d.chg] 78)).drew).cell? ⟨lb, 0, none⟩ = some (.slice (some ⟨g, 0, none⟩) n cap) := (HL4.alloc (.cells #[.int .i64 d.k, .string d.m, .int .i64 d.sin, .int .i64 d.own, .bool d.has, .string d.v, .slice q.a d.n q.c, .int .i64 d.ver, .int .i64 d.chg] 78)).cell (i := 0) (by omega)
    have hll2 : lb < w4.heap.size := HL4.lt
    have hll3 : lb ≠ w4.heap.size := by omega
    clear HL4
    go_wp2_with fail
    go_region_with (first | (go_at_call 99; (with_reducible refine CI.out.mono ?_); rintro e w5 ⟨rfl, l0z, g0z, HP⟩))
    all_goals
      clear l0y l1y b0y b1y b2y b3y b4y b5y b6y b7y b8y CI g0 d1'
      go_wp2
      exact bodyPost_end (v := .tuple #[]) (by simp [results, Try.results82]) rfl ⟨rfl, HP.out⟩

end Go.Proofs.Ytijgiingfgaakaa
