/-
  Tables: the model's copy of a table.
-/
import Derived.Test.YtpbebpcoeeednaaTabB2
namespace Go.Proofs.Ytpbebpcoeeednaa
open Go.RowKit

/-- A slot's row by its places. -/
theorem nine_sc {w : World} {B : Nat} {t : TypeId} {p : SP} {d : SD} (h : w.rowIs B t 9 (sc p d)) :
    w.cell? ⟨B, 0, none⟩ = some (.int .i64 d.k) ∧ w.cell? ⟨B, 1, none⟩ = some (.string d.m) ∧ w.cell? ⟨B, 2, none⟩ = some (.bool d.has) ∧ w.cell? ⟨B, 3, none⟩ = some (.string d.v) ∧ w.cell? ⟨B, 4, none⟩ = some (.slice p.a d.n p.c) ∧
    w.cell? ⟨B, 5, none⟩ = some (.int .i64 d.ver) ∧ w.cell? ⟨B, 6, none⟩ = some (.int .i64 d.chg) ∧ w.cell? ⟨B, 7, none⟩ = some (.int .i64 d.own) ∧ w.cell? ⟨B, 8, none⟩ = some (.int .i64 d.sin) :=
  ⟨h.cell (i := 0) (by omega), h.cell (i := 1) (by omega), h.cell (i := 2) (by omega), h.cell (i := 3) (by omega), h.cell (i := 4) (by omega), h.cell (i := 5) (by omega), h.cell (i := 6) (by omega), h.cell (i := 7) (by omega), h.cell (i := 8) (by omega)⟩

theorem row_sc (w : World) (p : SP) (d : SD) (t : TypeId) : (w.alloc (.cells #[.int .i64 d.k, .string d.m, .bool d.has, .string d.v, .slice p.a d.n p.c, .int .i64 d.ver, .int .i64 d.chg, .int .i64 d.own, .int .i64 d.sin] t)).rowIs w.heap.size t 9 (sc p d) :=
  World.rowIs_alloc w #[.int .i64 d.k, .string d.m, .bool d.has, .string d.v, .slice p.a d.n p.c, .int .i64 d.ver, .int .i64 d.chg, .int .i64 d.own, .int .i64 d.sin] t _ (fun i hi => by
    match i, hi with
    | 0, _ => rfl
    | 1, _ => rfl
    | 2, _ => rfl
    | 3, _ => rfl
    | 4, _ => rfl
    | 5, _ => rfl
    | 6, _ => rfl
    | 7, _ => rfl
    | 8, _ => rfl)

set_option maxRecDepth 100000 in
set_option maxHeartbeats 8000000 in
theorem t_copy (ao : Option Addr) (b o n c : Nat) (p : Nat → SP) (D : Nat → SD) (w : World) (h1 : SlotsAt w ao b o n p D) (hn : n ≤ 1048576) (hG : ∀ i, i < n → (D i).n ≤ 1048576) :
    Calls Try.prog 58 #[.agg #[.slice ao n c]] w fun e w' => TabPost w n D e w' := by
  obtain ⟨i0, hi0, hz0, hz1, hz2⟩ := info_parts' Try.info40
  have HB : Hid (∀ w', Below w.heap.size w w' → SlotsAt w' ao b o n p D) := fun w' hb => h1.below hb
  have HG : Hid (∀ i, i < n → (D i).n ≤ 1048576) := hG
  have A1 := h1.at_
  clear h1 hG
  have O0 := World.ownsRow_lit (base := w.heap.size + 1 + 1) (e := 40) (size := 9) ((w.alloc (.cells #[.slice ao n c] 28)).alloc (.cells #[.slice none 0 0] 28)) #[] 0 (by simp) (by unfold maxLen; omega) rfl
  simp only [World.size_alloc] at O0
  have r1 := ((row1 w (.slice ao n c) 28).alloc (.cells #[.slice none 0 0] 28)).alloc (.cells #[] 40)
  have r2 := (row1 (w.alloc (.cells #[.slice ao n c] 28)) (.slice none 0 0) 28).alloc (.cells #[] 40)
  rw [World.size_alloc] at r2
  have B0 := bel3 w (.cells #[.slice ao n c] 28) (.cells #[.slice none 0 0] 28) (.cells #[] 40)
  have H0 : Hid (_ ∧ _ ∧ _ ∧ _) := ⟨bld_start (p := p) (D := D) O0, r1, r2, B0⟩
  clear O0 r1 r2 B0
  go_enter Try.func58, Try.ntmps58
  go_wp2
  go_loopw [3, 4] (fun s i wr => ∃ (k : Nat) (q : Nat → SP), k ≤ n ∧ i = .int .i64 k ∧ Hid (Bld wr (w.heap.size + 1 + 1) s k q D ∧ wr.rowIs w.heap.size 28 1 (fun _ => .slice ao n c) ∧ wr.rowIs (w.heap.size + 1) 28 1 (fun _ => .slice none 0 0) ∧ Below w.heap.size w wr)) (fun _ i _ => n - (intOf i).toNat)
  case atStart => exact ⟨0, p, Nat.zero_le _, rfl, H0⟩
  case round =>
    clear H0
    obtain ⟨k, q, hk, rfl, HQ⟩ := hrel
    obtain ⟨oa, cap2, rfl⟩ := own_form HQ.out.1.own
    have x0 := HQ.out.2.1.cell (i := 0) (by omega)
    by_cases hlt : k < n
    · have q1 := HB.out wr HQ.out.2.2.2
      have e1 := A1 (by omega)
      obtain ⟨a0, a1, a2, a3, a4, a5, a6, a7, a8⟩ := q1.nine k hlt
      have HN : Hid (SlotAt wr (p k) (D k)) := q1.slot k hlt
      have hws := HQ.out.2.2.1.lt
      clear q1
      subst e1
      go_wp2_with fail
      refine (c61 (p k) (D k) _ HN.out (HG.out k hlt)).mono ?_
      rintro e w2 ⟨ka, kc, rfl, O2, hb2⟩
      have C2 : Hid (Below wr.heap.size wr w2) := hb2
      have HW2 : Hid (Below w.heap.size w w2) := HQ.out.2.2.2.trans (hb2.mono HQ.out.2.2.2.size)
      have HB2 : Hid (Bld w2 (w.heap.size + 1 + 1) (.slice oa k cap2) k q D) := HQ.out.1.below hb2
      have HK2 : Hid (w2.ownsRow wr.heap.size 37 2 (.slice ka (D k).n kc) (D k).n (kcells (D k).dk (D k).dm (D k).n)) := O2
      have HR2 : Hid (w2.rowIs w.heap.size 28 1 (fun _ => .slice (some ⟨b, o, none⟩) n c) ∧ w2.rowIs (w.heap.size + 1) 28 1 (fun _ => .slice none 0 0)) := ⟨HQ.out.2.1.of_block (hb2.block _ HQ.out.2.1.lt), HQ.out.2.2.1.of_block (hb2.block _ HQ.out.2.2.1.lt)⟩
      have hws2 : w.heap.size + 1 < w2.heap.size := HR2.out.2.lt
      clear O2 hb2 a0 a1 a2 a3 a4 a5 a6 a7 a8 x0 HN
      unfold sdl
      go_wp2_with (first | (at_builtin; refine wpList_append_lies _ rfl _ _ 26 rfl (w.heap.size + 1 + 1) 40 i0 _ 9 104 Try.underlying26 hi0 hz0 hz1 hz2 rfl (by omega) (.slice oa k cap2) k (scells q D k) rfl (HB2.out.own.alloc _) ⟨w2.heap.size, 0, none⟩ 1 1 (slc ⟨ka, 0, 0, kc⟩ (D k)) rfl rfl (World.news_of_block (cs := #[.int .i64 (D k).k, .string (D k).m, .bool (D k).has, .string (D k).v, .slice ka (D k).n kc, .int .i64 (D k).ver, .int .i64 (D k).chg, .int .i64 (D k).own, .int .i64 (D k).sin]) (t := 40) (fr := (0, 0)) (heap_alloc_new w2 _)) (by simp [slc, Value.oneCell']) (by omega) (by unfold maxLen; omega) (by omega) (by simp; omega) (w2.heap.size + 1) (by simp) ?_; intro gg cap3 w3 hown3 hg3 hat hlt3))
      have FIN : Hid (∃ q', Bld w3 (w.heap.size + 1 + 1) (.slice (some ⟨gg, 0, none⟩) (k + 1) cap3) (k + 1) q' D) := bld_step HQ.out.1 C2.out HK2.out (by omega) hown3 hg3 hat
      have FB : Hid (Below w.heap.size w w3) := grown_below (HW2.out.alloc HW2.out.size _) hg3 (fun x e => by have := (HB2.out.own.lt x e).1; omega)
      have FR : Hid (w3.rowIs w.heap.size 28 1 (fun _ => .slice (some ⟨b, o, none⟩) n c) ∧ w3.rowIs (w.heap.size + 1) 28 1 (fun _ => .slice none 0 0)) :=
        ⟨(HR2.out.1.alloc _).of_block (hg3.block _ (by simp; omega) (fun e => by have := (HB2.out.own.lt _ e.symm).1; omega)), (HR2.out.2.alloc _).of_block (hg3.block _ (by simp; omega) (fun e => by have := (HB2.out.own.lt _ e.symm).1; omega))⟩
      clear hown3 hg3 hat
      go_roundw
      case rel =>
        obtain ⟨q', hq'⟩ := FIN.out
        exact ⟨k + 1, q', by omega, by go_num, ⟨hq', FR.out.1, FR.out.2, FB.out⟩⟩
      case measure => simp [intOf]; omega
    · have hkn : k = n := by omega
      subst hkn
      have f0 := HQ.out.2.2.1.frozen 0
      have c0 := HQ.out.2.2.1.cell (i := 0) (by omega)
      go_wp2
      refine bodyPost_ret (v := .agg #[.slice oa k cap2]) (by simp [results, Try.results58, go_sem, c0]) rfl ?_
      obtain ⟨b, hT⟩ := HQ.out.1.tab
      exact ⟨oa, b, cap2, q, rfl, (hT.set (a := ⟨w.heap.size + 1, 0, none⟩) (by show w.heap.size + 1 < _; omega) _).wide (by omega) (by simp), HQ.out.2.2.2.setCell (by show w.heap.size ≤ w.heap.size + 1; omega) _⟩

end Go.Proofs.Ytpbebpcoeeednaa
