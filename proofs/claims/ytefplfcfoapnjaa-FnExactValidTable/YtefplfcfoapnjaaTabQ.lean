/-
  Tables: the program opens a table.
-/
import Derived.Test.YtefplfcfoapnjaaTabP
import Derived.Test.YtefplfcfoapnjaaTabK
namespace Go.Proofs.Ytefplfcfoapnjaa
open Go.RowKit

/-- An opened table. -/
structure Opened (w w' : World) (sb n : Nat) (p : Nat → SP) (D : Nat → SD) : Prop where
  st : ∃ base lb sv, OS w' base lb sv n p D ∧ w'.cell? ⟨sb, 0, none⟩ = some (.pointer (some ⟨lb, 0, none⟩)) ∧ w.heap.size ≤ base ∧ base ≤ sb ∧ sb ≠ lb ∧ some sb ≠ sv.ownBlock

/-- What open gives. -/
def OpenPost (w : World) (n : Nat) (p : Nat → SP) (D : Nat → SD) (e : Ending) (w' : World) : Prop :=
  ∃ ptr, e = .returned (.tuple #[.pointer ptr, .bool (vt n D)]) ∧ Below w.heap.size w w' ∧ (vt n D = true → ∃ sb, ptr = some ⟨sb, 0, none⟩ ∧ Opened w w' sb n p D)

/-- The loop of open. -/
structure LI (w wr : World) (base lb sb k : Nat) (p : Nat → SP) (D : Nat → SD) : Prop where
  below : Below w.heap.size w wr
  os : ∃ sv, OS wr base lb sv k p D ∧ some sb ≠ sv.ownBlock
  cell : wr.cell? ⟨sb, 0, none⟩ = some (.pointer (some ⟨lb, 0, none⟩))
  all : ∀ j, j < k → so D j = true

theorem so_pl {D : Nat → SD} {k : Nat} (h : sv (D k) = true) : so D k = pl D k := by
  unfold so
  rw [h, Bool.true_and]
  match k with
  | 0 => rfl
  | q + 1 => show (decide (q + 1 = 0) || kl (D q).k (D q).m (D (q + 1)).k (D (q + 1)).m) = kl (D q).k (D q).m (D (q + 1)).k (D (q + 1)).m
             simp

theorem ret_tuple {p : Option Addr} {a b : Bool} (h : a = b) : Ending.returned (.tuple #[.pointer p, .bool a]) = .returned (.tuple #[.pointer p, .bool b]) := by rw [h]

/-- What the region of the two looks reads. -/
def Ten (W : World) (sb lb eb k : Nat) (p : Nat → SP) (D : Nat → SD) : Prop :=
  W.cell? ⟨sb, 0, none⟩ = some (.pointer (some ⟨lb, 0, none⟩)) ∧ W.cell? ⟨eb, 0, none⟩ = some (.int .i64 (D k).k) ∧ W.cell? ⟨eb, 1, none⟩ = some (.string (D k).m) ∧ W.cell? ⟨eb, 2, none⟩ = some (.int .i64 (D k).sin) ∧ W.cell? ⟨eb, 3, none⟩ = some (.int .i64 (D k).own) ∧ W.cell? ⟨eb, 4, none⟩ = some (.bool (D k).has) ∧ W.cell? ⟨eb, 5, none⟩ = some (.string (D k).v) ∧ W.cell? ⟨eb, 6, none⟩ = some (.slice (p k).a (D k).n (p k).c) ∧ W.cell? ⟨eb, 7, none⟩ = some (.int .i64 (D k).ver) ∧ W.cell? ⟨eb, 8, none⟩ = some (.int .i64 (D k).chg)

theorem put_step {w wr W w' : World} {base lb sb k eb : Nat} {sv1 : Value} {p : Nat → SP} {D : Nat → SD} {e : Ending} (hL : LI w wr base lb sb k p D) (hbase : w.heap.size ≤ base) (hsl : sb ≠ lb) (hW : Below wr.heap.size wr W)
    (hO : OS wr base lb sv1 k p D) (hne : some sb ≠ sv1.ownBlock) (heb : wr.heap.size ≤ eb) (hT : Ten W sb lb eb k p D) (hP : PutPost W base lb k p D sv1 e w') :
    Ten w' sb lb eb k p D ∧ Below w.heap.size w w' ∧ base ≤ w'.heap.size ∧ (pl D k = true → ∃ sv, OS w' base lb sv (k + 1) p D ∧ some sb ≠ sv.ownBlock) := by
  obtain ⟨_, hK, hS⟩ := hP
  have hll := hO.row.lt
  have hlo := hO.lo
  have hsb : sb < wr.heap.size := World.block_lt_of_cell? _ _ hL.cell
  have hWs := hW.size
  have hLs := hL.below.size
  obtain ⟨t0, t1, t2, t3, t4, t5, t6, t7, t8, t9⟩ := hT
  have heW : eb < W.heap.size := World.block_lt_of_cell? _ _ t1
  have kb : ∀ o, w'.cell? ⟨eb, o, none⟩ = W.cell? ⟨eb, o, none⟩ := fun o => World.cell?_of_block (hK.block eb ⟨heW, by omega, fun e => by have := (hO.own.lt eb e.symm).2; omega⟩)
  have ks : w'.cell? ⟨sb, 0, none⟩ = W.cell? ⟨sb, 0, none⟩ := World.cell?_of_block (hK.block sb ⟨by omega, hsl, hne⟩)
  have hBW : Below w.heap.size w W := hL.below.trans (hW.mono hL.below.size)
  refine ⟨⟨ks.trans t0, (kb 0).trans t1, (kb 1).trans t2, (kb 2).trans t3, (kb 3).trans t4, (kb 4).trans t5, (kb 5).trans t6, (kb 6).trans t7, (kb 7).trans t8, (kb 8).trans t9⟩, ⟨hK.os.trans hBW.os, hK.tape.trans hBW.tape, hK.output.trans hBW.output, Nat.le_trans hBW.size hK.size, fun x hx => ?_⟩, ?_, fun hp => ?_⟩
  · rw [hK.block x ⟨by have := hBW.size; omega, by omega, fun e => by have := (hO.own.lt x e.symm).1; omega⟩, hBW.block x hx]
  · have := hK.size; omega
  · obtain ⟨sv', h1, h2⟩ := hS hp
    refine ⟨sv', h1, ?_⟩
    rcases h2 with h2 | ⟨g, h2, h3⟩
    · rw [h2]; exact hne
    · rw [h2]; intro e; cases e; omega

set_option maxRecDepth 100000 in
set_option maxHeartbeats 8000000 in
theorem c28 (ao : Option Addr) (b o n c : Nat) (p : Nat → SP) (D : Nat → SD) (w : World) (h1 : SlotsAt w ao b o n p D) :
    Calls Try.prog 28 #[.agg #[.slice ao n c]] w fun e w' => OpenPost w n p D e w' := by
  have HB : Hid (∀ w', Below w.heap.size w w' → SlotsAt w' ao b o n p D) := fun w' hb => h1.below hb
  have hlen := h1.len
  have A1 := h1.at_
  clear h1
  by_cases hbig : 4096 < n
  · have HV : Hid (vt n D = false) := vt_big hbig
    go_enter Try.func28, Try.ntmps28
    go_wp2
    go_ret2
    exact ⟨none, by rw [HV.out]; rfl, bel1 _ _, fun h => by rw [HV.out] at h; cases h⟩
  have hn16 : n + 1 ≤ 1048577 := by omega
  have hadd : IntKind.i64.wrap ((n : Int) + 1) = ((n + 1 : Nat) : Int) := by rw [IntKind.wrap_i64]; omega
  go_enter Try.func28, Try.ntmps28
  go_wp2_with fail
  have e1 : ((n : Int) + 1) = ((n + 1 : Nat) : Int) := by omega
  try rw [e1]
  refine (c50 (n + 1) _ hn16 p D).mono ?_
  rintro e w0 ⟨sb, lb, sv0, rfl, O0, x0, hs1, hs2, hs3, hb0⟩
  have B0 : Below w.heap.size w w0 := (bel1 w _).trans (hb0.mono (by simp))
  have cT : w0.cell? ⟨w.heap.size, 0, none⟩ = some (.slice ao n c) := by rw [hb0.cell (p := ⟨w.heap.size, 0, none⟩) (by simp)]; simp
  obtain ⟨base, hbase⟩ : ∃ base, base = w.heap.size + 1 := ⟨_, rfl⟩
  simp only [World.size_alloc] at O0 hs1
  rw [← hbase] at O0 hs1
  have HL0 : Hid (LI w w0 base lb sb 0 p D) := ⟨B0, ⟨sv0, O0, hs3⟩, x0, fun j hj => absurd hj (Nat.not_lt_zero _)⟩
  have hbz : base ≤ w0.heap.size := by have := O0.row.lt; have := O0.lo; omega
  have HBS : Hid (w.heap.size ≤ base ∧ base ≤ sb ∧ sb ≠ lb) := ⟨by omega, hs1, hs2⟩
  clear O0 x0 hb0 hs3 B0 hs1 hs2 hbase hadd e1
  go_wp2
  clear cT
  go_loopw [20] (fun i wr => ∃ k : Nat, k ≤ n ∧ i = .int .i64 k ∧ base ≤ wr.heap.size ∧ Hid (LI w wr base lb sb k p D)) (fun i _ => n - (intOf i).toNat)
  case atStart => exact ⟨0, Nat.zero_le _, rfl, hbz, HL0⟩
  case round =>
    clear HL0 hbz
    obtain ⟨k, hk, rfl, hbz, HL⟩ := hrel
    by_cases hlt : k < n
    · have e1 := A1 (by omega)
      have q1 := HB.out wr HL.out.below
      obtain ⟨x0, x1, x2, x3, x4, x5, x6, x7, x8⟩ := q1.nine k hlt
      have HN : Hid (SlotAt wr (p k) (D k)) := q1.slot k hlt
      clear q1 HB
      subst e1
      go_wp2_with fail
      refine (c51 (p k) (D k) _).mono ?_
      rintro e w1 ⟨rfl, hb1⟩
      have H1 : Hid (Below wr.heap.size wr w1) := (bel1 wr _).trans (hb1.mono (by simp))
      clear hb1 x0 x1 x2 x3 x4 x5 x6 x7 x8
      unfold edv
      go_wp2_with fail
      have RB := row9 w1 (.int .i64 (D k).k) (.string (D k).m) (.int .i64 (D k).sin) (.int .i64 (D k).own) (.bool (D k).has) (.string (D k).v) (.slice (p k).a (D k).n (p k).c) (.int .i64 (D k).ver) (.int .i64 (D k).chg) 81
      have B1 := bel1 w1 (.cells #[.int .i64 (D k).k, .string (D k).m, .int .i64 (D k).sin, .int .i64 (D k).own, .bool (D k).has, .string (D k).v, .slice (p k).a (D k).n (p k).c, .int .i64 (D k).ver, .int .i64 (D k).chg] 81)
      have hz1 : w1.heap.size < (w1.alloc (.cells #[.int .i64 (D k).k, .string (D k).m, .int .i64 (D k).sin, .int .i64 (D k).own, .bool (D k).has, .string (D k).v, .slice (p k).a (D k).n (p k).c, .int .i64 (D k).ver, .int .i64 (D k).chg] 81)).heap.size := by simp
      obtain ⟨W1, hW1⟩ : ∃ W1, W1 = w1.alloc (.cells #[.int .i64 (D k).k, .string (D k).m, .int .i64 (D k).sin, .int .i64 (D k).own, .bool (D k).has, .string (D k).v, .slice (p k).a (D k).n (p k).c, .int .i64 (D k).ver, .int .i64 (D k).chg] 81) := ⟨_, rfl⟩
      rw [← hW1] at RB B1 hz1
      rw [← hW1]
      clear hW1
      obtain ⟨eb, hebe⟩ : ∃ eb, eb = w1.heap.size := ⟨_, rfl⟩
      have heb : wr.heap.size ≤ eb := by rw [hebe]; exact H1.out.size
      have H2 : Hid (Below wr.heap.size wr W1) := H1.out.trans (B1.mono H1.out.size)
      rw [← hebe] at RB hz1
      rw [← hebe]
      clear hebe B1 H1
      obtain ⟨sv1, O1, ne1⟩ := HL.out.os
      have HO : Hid (OS wr base lb sv1 k p D ∧ some sb ≠ sv1.ownBlock) := ⟨O1, ne1⟩
      clear O1 ne1
      have HZ : Hid (∀ W, Below W1.heap.size W1 W → Ten W sb lb eb k p D) := fun W hW => by
        obtain ⟨y0, y1, y2, y3, y4, y5, y6, y7, y8⟩ := nine_cells (RB.of_block (hW.block _ hz1))
        have hc := H2.out.trans (hW.mono H2.out.size)
        exact ⟨by rw [hc.cell (p := ⟨sb, 0, none⟩) (World.block_lt_of_cell? _ _ HL.out.cell)]; exact HL.out.cell, y0, y1, y2, y3, y4, y5, y6, y7, y8⟩
      have T0 := HZ.out W1 (Below.refl _ _)
      have C52 : Hid (Calls Try.prog 52 #[.pointer (some ⟨eb, 0, none⟩)] W1.drew fun e w' => e = .returned (.bool (sv (D k))) ∧ Hid (Below W1.heap.size W1 w')) := by
        obtain ⟨_, y0, y1, y2, y3, y4, y5, y6, y7, y8⟩ := HZ.out W1.drew (Below.refl _ _).drew
        exact (c52 eb (p k) (D k) W1.drew ((HN.out.below H2.out).below (Below.refl _ _).drew) y0 y1 y2 y3 y4 y5 y6 y7 y8).mono fun e w' ⟨he, hb⟩ => ⟨he, (Below.refl _ _).drew.trans (hb.mono (Nat.le_refl _))⟩
      have C53 : Hid (∀ W, Hid (Below W1.heap.size W1 W) → Calls Try.prog 53 #[.pointer (some ⟨lb, 0, none⟩), .agg #[.int .i64 (D k).k, .string (D k).m, .int .i64 (D k).sin, .int .i64 (D k).own, .bool (D k).has, .string (D k).v, .slice (p k).a (D k).n (p k).c, .int .i64 (D k).ver, .int .i64 (D k).chg]] W fun e w' => e = .returned (.bool (pl D k)) ∧ Ten w' sb lb eb k p D ∧ Hid (Below w.heap.size w w' ∧ base ≤ w'.heap.size ∧ (pl D k = true → ∃ sv, OS w' base lb sv (k + 1) p D ∧ some sb ≠ sv.ownBlock))) := fun W hW => by
        have hc := H2.out.trans (hW.out.mono H2.out.size)
        refine (c53 base lb sv1 k p D W (HO.out.1.below hc) (by omega) (by have := hc.size; omega)).mono fun e w' hP => ?_
        obtain ⟨r1, r2⟩ := put_step HL.out HBS.out.1 HBS.out.2.2 hc HO.out.1 HO.out.2 heb (HZ.out W hW.out) hP
        exact ⟨hP.1, r1, r2⟩
      have HD : Hid (Below w.heap.size w W1) := HL.out.below.trans (H2.out.mono HL.out.below.size)
      have HALL : Hid (∀ j, j < k → so D j = true) := HL.out.all
      clear RB hz1 HL HO H2 HN heb hbz
      unfold Ten at T0
      obtain ⟨csw, e0w, e1w, e2w, e3w, e4w, e5w, e6w, e7w, e8w⟩ := T0
      cases hv : sv (D k)
      · have HF : Hid (vt n D = false) := vt_no k hlt (so_s hv)
        rw [hv] at C52
        clear hv C53
        first
          | (go_region_with (first | (go_at_call 52; refine C52.out.mono ?_; rintro e w2 ⟨rfl, H3⟩)))
          | fail
        all_goals
          go_wp2
          go_ret2
          exact ⟨none, ret_tuple HF.out.symm, HD.out.trans (H3.out.mono HD.out.size), fun h => by rw [HF.out] at h; cases h⟩
      · have HSO : Hid (so D k = pl D k) := so_pl hv
        rw [hv] at C52
        clear hv
        go_region_held3 (fun w' => w'.cell? ⟨sb, 0, none⟩ = some (.pointer (some ⟨lb, 0, none⟩)) ∧ w'.cell? ⟨eb, 0, none⟩ = some (.int .i64 (D k).k) ∧ w'.cell? ⟨eb, 1, none⟩ = some (.string (D k).m) ∧ w'.cell? ⟨eb, 2, none⟩ = some (.int .i64 (D k).sin) ∧ w'.cell? ⟨eb, 3, none⟩ = some (.int .i64 (D k).own) ∧ w'.cell? ⟨eb, 4, none⟩ = some (.bool (D k).has) ∧ w'.cell? ⟨eb, 5, none⟩ = some (.string (D k).v) ∧ w'.cell? ⟨eb, 6, none⟩ = some (.slice (p k).a (D k).n (p k).c) ∧ w'.cell? ⟨eb, 7, none⟩ = some (.int .i64 (D k).ver) ∧ w'.cell? ⟨eb, 8, none⟩ = some (.int .i64 (D k).chg)) (go_keep)
          (first
            | (go_at_call 52; (with_reducible refine C52.out.mono ?_); rintro e w2 ⟨rfl, H3⟩; obtain ⟨csx, e0x, e1x, e2x, e3x, e4x, e5x, e6x, e7x, e8x⟩ := HZ.out w2 H3.out)
            | (go_at_call 53; (with_reducible refine (C53.out _ H3).mono ?_); rintro e w3 ⟨rfl, T3, H4⟩; obtain ⟨csy, e0y, e1y, e2y, e3y, e4y, e5y, e6y, e7y, e8y⟩ := T3))
        all_goals
          clear csw e0w e1w e2w e3w e4w e5w e6w e7w e8w csx e0x e1x e2x e3x e4x e5x e6x e7x e8x e0y e1y e2y e3y e4y e5y e6y e7y e8y C53 C52 HZ H3 HD
          cases hp : pl D k
          · have HF : Hid (vt n D = false) := vt_no k hlt (HSO.out.trans hp)
            go_wp2
            go_ret2
            exact ⟨none, ret_tuple HF.out.symm, H4.out.1, fun h => by rw [HF.out] at h; cases h⟩
          · have HP : Hid (pl D k = true) := hp
            have HN2 : Hid (LI w w3 base lb sb (k + 1) p D) := ⟨H4.out.1, H4.out.2.2 hp, csy, fun j hj => by
              by_cases e : j = k
              · subst e; exact HSO.out.trans hp
              · exact HALL.out j (by omega)⟩
            have hbz : base ≤ w3.heap.size := H4.out.2.1
            clear hp H4 csy
            go_wp2
            go_roundw
            case rel => exact ⟨k + 1, by omega, by go_num, hbz, HN2⟩
            case measure => simp [intOf]; omega
    · have hkn : k = n := by omega
      subst hkn
      have HV : Hid (vt k D = true) := vt_yes (by omega) HL.out.all
      go_wp2
      go_ret2
      obtain ⟨sv, h1, h2⟩ := HL.out.os
      exact ⟨some ⟨sb, 0, none⟩, ret_tuple HV.out.symm, HL.out.below, fun _ => ⟨sb, rfl, ⟨base, lb, sv, h1, HL.out.cell, HBS.out.1, HBS.out.2.1, HBS.out.2.2, h2⟩⟩⟩

end Go.Proofs.Ytefplfcfoapnjaa
