/-
  Scripts: the program's add.
-/
import Derived.Test.YthmihmnagnibmaaDoorPrA
namespace Go.Proofs.YthmihmnagnibmaaDoor
open Go.RowKit

theorem own_belowE {W W' : World} {lo : Nat} {v : Value} {l : List EV} (h : OwnE W lo v l) (hb : Below W.heap.size W W') : OwnE W' lo v l := by
  obtain ⟨k1, k2⟩ := h
  refine ⟨k1, ?_⟩
  rcases k2 with k2 | ⟨g', cp, cur, hv, hbb, hh, r⟩
  · exact Or.inl k2
  · exact Or.inr ⟨g', cp, cur, hv, hbb, (hb.block _ (Array.getElem?_eq_some_iff.1 hh).1).trans hh, r⟩

set_option maxRecDepth 100000 in
set_option maxHeartbeats 4000000 in
theorem p_add (sb lo : Nat) (wks cpy : Int) (v : Value) (evs : List EV) (ek ew : Int) (en et : ByteArray) (ok : Bool) (w : World)
    (hr : w.rowIs sb 24 3 (t3 (.int .i64 wks) (.int .i64 cpy) v)) (hw : OwnE w lo v evs) (hlo : sb < lo) (hlw : lo ≤ w.heap.size) (hlen : evs.length ≤ 1048576)
    (CV : ∀ W, Calls Tryd.prog 50 #[.agg #[.int .i64 ek, .string en, .string et, .int .i64 ew], .int .i64 wks] W fun e w' => e = .returned (.bool ok) ∧ Below W.heap.size W w') :
    Calls Tryd.prog 42 #[.pointer (some ⟨sb, 0, none⟩), .agg #[.int .i64 ek, .string en, .string et, .int .i64 ew]] w fun e w' => RdPost sb lo w ok wks cpy (evs ++ [⟨ek, en, et, ew⟩]) e w' := by
  obtain ⟨i0, hi0, hz0, hz1, hz2⟩ := info_parts9 Tryd.infoEv
  obtain ⟨oa, cap, rfl⟩ := own_formE hw
  have HR : Hid (w.rowIs sb 24 3 (t3 (.int .i64 wks) (.int .i64 cpy) (.slice oa evs.length cap)) ∧ OwnE w lo (.slice oa evs.length cap) evs) := ⟨hr, hw⟩
  obtain ⟨m, hm⟩ : ∃ m, m = evs.length := ⟨_, rfl⟩
  rw [← hm] at HR hr hw hlen
  have HM : Hid (m = evs.length) := hm
  obtain ⟨bx, hbx⟩ : ∃ bx, bx = w.heap.size := ⟨_, rfl⟩
  obtain ⟨w1, hw1⟩ : ∃ w1, w1 = w.alloc (.cells #[.int .i64 ek, .string en, .string et, .int .i64 ew] 36) := ⟨_, rfl⟩
  have B1 : Hid (Below w.heap.size w w1) := by rw [hw1]; exact bel1 _ _
  have R1 : Hid (w1.rowIs bx 36 4 (t4 (.int .i64 ek) (.string en) (.string et) (.int .i64 ew))) := by rw [hw1, hbx]; exact rowt4 _ _ _ _ _ _
  have hsl : sb < w.heap.size := hr.lt
  have HZ : Hid (∀ W, Below w1.heap.size w1 W → W.cell? ⟨sb, 0, none⟩ = some (.int .i64 wks) ∧ W.cell? ⟨sb, 2, none⟩ = some (.slice oa m cap) ∧ W.frozen? ⟨sb, 2, none⟩ = false ∧ W.cell? ⟨bx, 0, none⟩ = some (.int .i64 ek) ∧ W.cell? ⟨bx, 1, none⟩ = some (.string en) ∧ W.cell? ⟨bx, 2, none⟩ = some (.string et) ∧ W.cell? ⟨bx, 3, none⟩ = some (.int .i64 ew)) := fun W hW => by
    have q := (R1.out.of_block (hW.block _ R1.out.lt))
    have r := (HR.out.1.of_block ((hW.block _ (Nat.lt_of_lt_of_le hsl B1.out.size)).trans (B1.out.block _ hsl)))
    exact ⟨r.cell (i := 0) (by omega), r.cell (i := 2) (by omega), r.frozen 2, q.cell (i := 0) (by omega), q.cell (i := 1) (by omega), q.cell (i := 2) (by omega), q.cell (i := 3) (by omega)⟩
  have CVH : Hid (∀ W, Below w1.heap.size w1 W → Calls Tryd.prog 50 #[.agg #[.int .i64 ek, .string en, .string et, .int .i64 ew], .int .i64 wks] W fun e w' => e = .returned (.bool ok) ∧ Hid (Below w1.heap.size w1 w')) := fun W hW => (CV W).mono fun e w' ⟨he, hb⟩ => ⟨he, hW.trans (hb.mono hW.size)⟩
  obtain ⟨c0, c2, f2, d0, d1, d2, d3⟩ := HZ.out w1 (Below.refl _ _)
  have HBX : Hid (bx = w.heap.size ∧ sb < bx) := ⟨hbx, by omega⟩
  clear CV hr hw hm
  cases ok
  · go_enter Tryd.func42, Tryd.ntmps42
    go_wp2_with fail
    rw [← hw1, ← hbx]
    clear hw1 hbx
    go_region_held3 (fun w' => w'.cell? ⟨sb, 0, none⟩ = some (.int .i64 wks) ∧ w'.cell? ⟨bx, 0, none⟩ = some (.int .i64 ek) ∧ w'.cell? ⟨bx, 1, none⟩ = some (.string en) ∧ w'.cell? ⟨bx, 2, none⟩ = some (.string et) ∧ w'.cell? ⟨bx, 3, none⟩ = some (.int .i64 ew)) (go_keep)
        (first | (go_at_call 50; (with_reducible refine (CVH.out _ (Below.refl _ _).drew).mono ?_); rintro e w3 ⟨rfl, H3⟩; obtain ⟨c0x, c2x, f2x, d0x, d1x, d2x, d3x⟩ := HZ.out w3 H3.out))
    all_goals
      have HB : Hid (Below w.heap.size w w3) := B1.out.trans (H3.out.mono B1.out.size)
      clear c0 c2 f2 d0 d1 d2 d3 c0x c2x f2x d0x d1x d2x d3x
      go_wp2
      go_ret
      exact ⟨rfl, KeepA.below HB.out, fun h => by cases h⟩
  · go_enter Tryd.func42, Tryd.ntmps42
    go_wp2_with fail
    rw [← hw1, ← hbx]
    clear hw1 hbx
    go_region_held3 (fun w' => w'.cell? ⟨sb, 0, none⟩ = some (.int .i64 wks) ∧ w'.cell? ⟨bx, 0, none⟩ = some (.int .i64 ek) ∧ w'.cell? ⟨bx, 1, none⟩ = some (.string en) ∧ w'.cell? ⟨bx, 2, none⟩ = some (.string et) ∧ w'.cell? ⟨bx, 3, none⟩ = some (.int .i64 ew)) (go_keep)
        (first | (go_at_call 50; (with_reducible refine (CVH.out _ (Below.refl _ _).drew).mono ?_); rintro e w3 ⟨rfl, H3⟩; obtain ⟨c0x, c2x, f2x, d0x, d1x, d2x, d3x⟩ := HZ.out w3 H3.out))
    all_goals
      have HB : Hid (Below w.heap.size w w3) := B1.out.trans (H3.out.mono B1.out.size)
      clear c0 c2 f2 d0 d1 d2 d3 c0x c2x f2x d0x d1x d2x d3x
      go_wp2_with fail
      obtain ⟨c0, c2, f2, d0, d1, d2, d3⟩ := HZ.out w3 H3.out
      have hws := HB.out.size
      have n1 : some sb ≠ (Value.slice oa m cap).ownBlock := fun e => by have := (HR.out.2.lt sb e.symm).1; omega
      have OWN : w3.ownsRow lo 36 4 (.slice oa m cap) m (evcells evs) := by
        have h := own_belowE (HR.out.2) HB.out
        unfold OwnE at h
        rw [← HM.out] at h
        exact h
      have hsb3 : sb < w3.heap.size := by omega
      have c2' : ((w3.alloc (.cells #[.int .i64 ek, .string en, .string et, .int .i64 ew] 36)).drew).cell? ⟨sb, 2, none⟩ = some (.slice oa m cap) := (World.cell?_of_block (a := ⟨sb, 2, none⟩) (Below.heap_alloc w3 _ _ hsb3)).trans c2
      have f2' : ((w3.alloc (.cells #[.int .i64 ek, .string en, .string et, .int .i64 ew] 36)).drew).frozen? ⟨sb, 2, none⟩ = false := (World.frozen?_of_block (a := ⟨sb, 2, none⟩) (Below.heap_alloc w3 _ _ hsb3)).trans f2
      have hbb : (m + 1) * 48 ≤ 140737488355328 := by omega
      have hml2 : m + 1 ≤ maxLen := by unfold maxLen; omega
      have hlo3 : lo ≤ w3.heap.size := by omega
      have hbx3 : bx < w3.heap.size := by have := R1.out.lt; have := H3.out.size; omega
      go_region_law (refine step_append_lies _ (by rfl) _ _ _ (by rfl) lo 36 i0 _ 4 48 Tryd.underlying22 hi0 hz0 hz1 hz2 rfl (by omega) (.slice oa m cap) m (evcells evs) (by rfl) ((OWN.alloc _).drew) ⟨w3.heap.size, 0, none⟩ 1 1 [.int .i64 ek, .string en, .string et, .int .i64 ew] (by rfl) (by rfl) (World.news_of_block (cs := #[.int .i64 ek, .string en, .string et, .int .i64 ew]) (t := 36) (fr := (0, 0)) (heap_alloc_new w3 _)) (by simp [Value.oneCell']) (by omega) hml2 hbb (by simp; omega) (w3.heap.size + 1) (by simp) ?_; intro gg cap3 w4 hown4 hg4 hat hlt4; have e1 : w4.cell? ⟨sb, 2, none⟩ = some (.slice oa m cap) := (hg4.cell_far ⟨sb, 2, none⟩ (by simp; omega) n1).trans c2'; have e2 : w4.frozen? ⟨sb, 2, none⟩ = false := (hg4.frozen_far ⟨sb, 2, none⟩ (by simp; omega) n1).trans f2')
      all_goals
        have hg5 : (w3.alloc (.cells #[.int .i64 ek, .string en, .string et, .int .i64 ew] 36)).grownBy w4 (Value.slice oa m cap).ownBlock := ⟨hg4.os, hg4.tape, hg4.output, hg4.size, hg4.block⟩
        have FIN := add_step (e := ⟨ek, en, et, ew⟩) HR.out.1 HR.out.2 hlo hlw HM.out (HB.out) hown4 hg5
        clear hg5 hown4 hg4 hat e1 e2 c0 c2 f2 d0 d1 d2 d3 c2' f2' OWN
        go_wp2
        go_ret
        exact FIN

end Go.Proofs.YthmihmnagnibmaaDoor
