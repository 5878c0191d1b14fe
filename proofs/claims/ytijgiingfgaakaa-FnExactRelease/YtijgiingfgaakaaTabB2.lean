/-
  Tables: the program's table at the end of its work; the model's copy of a table.
-/
import Derived.Test.YtijgiingfgaakaaTabB
namespace Go.Proofs.Ytijgiingfgaakaa
open Go.RowKit

/-- What a function that gives a table gives. -/
def TabPost (w : World) (n : Nat) (D : Nat → SD) (e : Ending) (w' : World) : Prop :=
  ∃ ao b c q, e = .returned (.agg #[.slice ao n c]) ∧ TabNew w' w.heap.size w'.heap.size ao b n q D ∧ Below w.heap.size w w'

set_option maxRecDepth 100000 in
set_option maxHeartbeats 8000000 in
theorem t_table (w0 : World) (sb n : Nat) (p : Nat → SP) (D : Nat → SD) (w : World) (h : Opened w0 w sb n p D) (hS : ∀ i, i < n → SlotAt w (p i) (D i)) (hs : ∀ i, i < n → small (D i)) (hn : n ≤ 1048576) :
    Calls Try.prog 40 #[.pointer (some ⟨sb, 0, none⟩)] w fun e w' => TabPost w n D e w' := by
  obtain ⟨i0, hi0, hz0, hz1, hz2⟩ := info_parts' Try.info40
  obtain ⟨base, lb, sv, hO, hR, _, _, _, _⟩ := h.st
  obtain ⟨g, cap, rfl⟩ := hO.form
  have HZ : Hid (∀ W, Below w.heap.size w W → W.cell? ⟨sb, 0, none⟩ = some (.pointer (some ⟨lb, 0, none⟩)) ∧ W.cell? ⟨lb, 0, none⟩ = some (.slice (some ⟨g, 0, none⟩) n cap) ∧ ∀ i, i < n → Ent W g (i * 9) (p i) (D i) ∧ SlotAt W (p i) (D i)) := fun W hW => by
    have o2 := hO.below hW
    exact ⟨by rw [hW.cell (p := ⟨sb, 0, none⟩) (World.block_lt_of_cell? _ _ hR)]; exact hR, o2.row.cell (i := 0) (by omega), fun i hi => ⟨nine_ec o2.own i hi, (hS i hi).below hW⟩⟩
  have HS : Hid (∀ i, i < n → small (D i)) := hs
  clear hO hR hS h hs
  obtain ⟨x0, y0, _⟩ := HZ.out _ (bel1 w (.cells #[.slice none 0 0] 28))
  go_enter Try.func40, Try.ntmps40
  go_wp2_with fail
  refine (t_growS n _ hn).mono ?_
  rintro e w1 ⟨sv, rfl, O0, hb0⟩
  rw [World.size_alloc] at O0
  have H0 : Hid (Bld w1 (w.heap.size + 1) sv 0 p D ∧ w1.rowIs w.heap.size 28 1 (fun _ => .slice none 0 0)) := ⟨bld_start O0, (row1 w (.slice none 0 0) 28).of_block (hb0.block _ (by simp))⟩
  have B0 : Hid (Below w.heap.size w w1) := (bel1 w _).trans (hb0.mono (by simp))
  clear O0 hb0 x0 y0
  obtain ⟨x0, y0, _⟩ := HZ.out _ B0.out
  go_wp2
  clear x0 y0
  go_loopw [3, 23] (fun s i wr => ∃ (k : Nat) (q : Nat → SP), k ≤ n ∧ i = .int .i64 k ∧ Hid (Bld wr (w.heap.size + 1) s k q D ∧ wr.rowIs w.heap.size 28 1 (fun _ => .slice none 0 0)) ∧ Hid (Below w.heap.size w wr)) (fun _ i _ => n - (intOf i).toNat)
  case atStart => exact ⟨0, p, Nat.zero_le _, rfl, H0, B0⟩
  case round =>
    clear H0 B0
    obtain ⟨k, q, hk, rfl, HQ, HW⟩ := hrel
    obtain ⟨oa, cap2, rfl⟩ := own_form HQ.out.1.own
    by_cases hlt : k < n
    · obtain ⟨_, _, hz⟩ := HZ.out wr HW.out
      obtain ⟨E0, S0⟩ := hz k hlt
      have hws := HQ.out.2.lt
      have HE : Hid (Ent wr g (k * 9) (p k) (D k) ∧ SlotAt wr (p k) (D k)) := ⟨E0, S0⟩
      unfold Ent at E0
      obtain ⟨a0, a1, a2, a3, a4, a5, a6, a7, a8⟩ := E0
      clear S0 hz
      go_wp2_with fail
      have RB := row9 wr (.int .i64 (D k).k) (.string (D k).m) (.int .i64 (D k).sin) (.int .i64 (D k).own) (.bool (D k).has) (.string (D k).v) (.slice (p k).a (D k).n (p k).c) (.int .i64 (D k).ver) (.int .i64 (D k).chg) 78
      refine (t_slot wr.heap.size 0 (p k) (D k) _ (nine_cells RB) (HE.out.2.below (bel1 _ _)) (HS.out k hlt)).mono ?_
      rintro e w2 ⟨ka, kc, rfl, O2, hb2⟩
      have C2 : Hid (Below wr.heap.size wr w2) := (bel1 wr _).trans (hb2.mono (by simp))
      have HW2 : Hid (Below w.heap.size w w2) := HW.out.trans (C2.out.mono HW.out.size)
      have HB2 : Hid (Bld w2 (w.heap.size + 1) (.slice oa k cap2) k q D) := HQ.out.1.below C2.out
      have HK2 : Hid (w2.ownsRow wr.heap.size 37 2 (.slice ka (D k).n kc) (D k).n (kcells (D k).dk (D k).dm (D k).n)) := own_weak O2 (by simp)
      have HR2 : Hid (w2.rowIs w.heap.size 28 1 (fun _ => .slice none 0 0)) := HQ.out.2.of_block (C2.out.block _ HQ.out.2.lt)
      have hws2 : w.heap.size < w2.heap.size := HR2.out.lt
      clear O2 hb2 RB a0 a1 a2 a3 a4 a5 a6 a7 a8
      unfold sdl
      go_wp2_with (first | (at_builtin; refine wpList_append_lies _ rfl _ _ 26 rfl (w.heap.size + 1) 40 i0 _ 9 104 Try.underlying26 hi0 hz0 hz1 hz2 rfl (by omega) (.slice oa k cap2) k (scells q D k) rfl (HB2.out.own.alloc _) ⟨w2.heap.size, 0, none⟩ 1 1 (slc ⟨ka, 0, 0, kc⟩ (D k)) rfl rfl (World.news_of_block (cs := #[.int .i64 (D k).k, .string (D k).m, .bool (D k).has, .string (D k).v, .slice ka (D k).n kc, .int .i64 (D k).ver, .int .i64 (D k).chg, .int .i64 (D k).own, .int .i64 (D k).sin]) (t := 40) (fr := (0, 0)) (heap_alloc_new w2 _)) (by simp [slc, Value.oneCell']) (by omega) (by unfold maxLen; omega) (by omega) (by simp; omega) (w2.heap.size + 1) (by simp) ?_; intro gg cap3 w3 hown3 hg3 hat hlt3))
      have FIN : Hid (∃ q', Bld w3 (w.heap.size + 1) (.slice (some ⟨gg, 0, none⟩) (k + 1) cap3) (k + 1) q' D) := bld_step HQ.out.1 C2.out HK2.out (by omega) hown3 hg3 hat
      have FB : Hid (Below w.heap.size w w3) := grown_below (HW2.out.alloc HW2.out.size _) hg3 (fun x e => by have := (HB2.out.own.lt x e).1; omega)
      have FR : Hid (w3.rowIs w.heap.size 28 1 (fun _ => .slice none 0 0)) := (HR2.out.alloc _).of_block (hg3.block _ (by simp; omega) (fun e => by have := (HB2.out.own.lt _ e.symm).1; omega))
      clear hown3 hg3 hat
      go_roundw
      case rel =>
        obtain ⟨q', hq'⟩ := FIN.out
        exact ⟨k + 1, q', by omega, by go_num, ⟨hq', FR.out⟩, FB⟩
      case measure => simp [intOf]; omega
    · have hkn : k = n := by omega
      subst hkn
      have f0 := HQ.out.2.frozen 0
      have c0 := HQ.out.2.cell (i := 0) (by omega)
      go_wp2
      refine bodyPost_ret (v := .agg #[.slice oa k cap2]) (by simp [results, Try.results40, go_sem, c0]) rfl ?_
      obtain ⟨b, hT⟩ := HQ.out.1.tab
      exact ⟨oa, b, cap2, q, rfl, (hT.set (a := ⟨w.heap.size, 0, none⟩) (by show w.heap.size < _; omega) _).wide (by omega) (by simp), HW.out.setCell (Nat.le_refl _) _⟩

end Go.Proofs.Ytijgiingfgaakaa
