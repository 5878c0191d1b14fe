/-
  Merged for the claim: PgD PgE PgF Mark.
-/
import Derived.Test.YtdjkgilohhjfoaaGreatDoorM13
import Derived.Test.YtdjkgilohhjfoaaGreatDoorTokens
import Derived.Laws.BytesString
namespace Go.Proofs.YtdjkgilohhjfoaaGreatDoor
open Go.RowKit

theorem below_grown {w wr w5 : World} {o : Obj} {row : Option Nat} (h : Below w.heap.size w wr) (hg : (wr.alloc o).grownBy w5 row) (hr : ∀ b, row = some b → w.heap.size ≤ b) : Below w.heap.size w w5 :=
  ⟨hg.os.trans h.os, hg.tape.trans h.tape, hg.output.trans h.output, by have := hg.size; have := h.size; simp only [World.size_alloc] at *; omega, fun k hk => by
    rw [hg.block k (by have := h.size; simp only [World.size_alloc]; omega) (fun e => by have := hr k e.symm; omega)]
    exact (Below.heap_alloc _ _ _ (by have := h.size; omega)).trans (h.block k hk)⟩

set_option maxRecDepth 100000 in
set_option maxHeartbeats 1000000 in
theorem m_joinT {B : Nat} (w : World) {v1 v2 : Value} {xs ys : List (TI × NPl)} (h1 : RT B w v1 xs) (h2 : RT B w v2 ys) (hl : xs.length + ys.length ≤ 100000) (hB : B ≤ w.heap.size) :
    Calls Tryz.prog 72 #[v1, v2] w fun e w' => (∃ va n c, e = .returned (.slice va n c) ∧ Hid (RT B w' (.slice va n c) (xs ++ ys))) ∧ Hid (Below w.heap.size w w') := by
  obtain ⟨i0, hi0, hz0, hz1, hz2⟩ := info_parts Tryz.infoTI
  obtain ⟨a1, c1, rfl⟩ := own_form h1.own
  obtain ⟨a2, c2, rfl⟩ := own_form h2.own
  have H1 : Hid (RT B w (.slice a1 xs.length c1) xs) := h1
  have H2 : Hid (RT B w (.slice a2 ys.length c2) ys) := h2
  have ST : Hid ((w.alloc (.cells #[] 120)).ownsRow w.heap.size 120 4 (.slice (some ⟨w.heap.size, 0, none⟩) 0 0) 0 (tisC (xs.take 0))) := World.ownsRow_lit w #[] 0 (Nat.le_refl _) (by unfold maxLen; omega) (by rfl)
  clear h1 h2
  go_enter Tryz.func72, Tryz.ntmps72
  go_wp2
  go_loopw [5, 6] (fun v i wr => ∃ k : Nat, k ≤ xs.length ∧ i = .int .i64 k ∧ wr.ownsRow w.heap.size 120 4 v k (tisC (xs.take k)) ∧ Hid (Below w.heap.size w wr)) (fun _ i _ => xs.length - (intOf i).toNat)
  case atStart => exact ⟨0, Nat.zero_le _, rfl, ST.out, bel1 _ _⟩
  case round =>
    clear ST
    obtain ⟨k, hk, rfl, hO, HW⟩ := hrel
    obtain ⟨va, vc, rfl⟩ := own_form hO
    have hws := HW.out.size
    by_cases hlt : k < xs.length
    case pos =>
      obtain ⟨g, gc, ev, hg1, hg2, hg3⟩ := own_blk H1.out.own (show 0 < xs.length by omega)
      simp only [Value.slice.injEq] at ev
      obtain ⟨rfl, -, rfl⟩ := ev
      have RR := H1.out.below HW.out
      obtain ⟨x, hx⟩ : ∃ x, x = xs[k] := ⟨_, rfl⟩
      have HX : Hid (xs.take (k + 1) = xs.take k ++ [x]) := by
        show _ = _
        rw [List.take_add_one, List.getElem?_eq_getElem hlt, hx]; rfl
      have y0 : wr.cell? ⟨g, k * 4, none⟩ = some (Value.int .i64 x.1.op) := own_at (f := tiC) tiC_len RR.own (j := k) (r := 0) rfl hlt (by omega) (by rw [← hx]; rfl)
      have y1 : wr.cell? ⟨g, k * 4 + 1, none⟩ = some (Value.string x.1.md) := own_at (f := tiC) tiC_len RR.own rfl hlt (by omega) (by rw [← hx]; rfl)
      have y2 : wr.cell? ⟨g, k * 4 + 2, none⟩ = some (Value.string x.1.nm) := own_at (f := tiC) tiC_len RR.own rfl hlt (by omega) (by rw [← hx]; rfl)
      have y3 : wr.cell? ⟨g, k * 4 + 3, none⟩ = some (Value.slice x.2.a x.1.ns.length x.2.c) := own_at (f := tiC) tiC_len RR.own rfl hlt (by omega) (by rw [← hx]; rfl)
      obtain ⟨z0, hz⟩ : ∃ z, z = x.1.op := ⟨_, rfl⟩
      clear RR hx
      go_wp2_with (first | (at_builtin; refine wpList_append_lies _ rfl _ _ 55 rfl w.heap.size 120 i0 _ 4 64 Tryz.underlying55 hi0 hz0 hz1 hz2 rfl (by omega) (.slice va k vc) k (tisC (xs.take k)) rfl (hO.alloc _) ⟨wr.heap.size, 0, none⟩ 1 1 [Value.int .i64 x.1.op, Value.string x.1.md, Value.string x.1.nm, Value.slice x.2.a x.1.ns.length x.2.c] rfl rfl (World.news_of_block (cs := #[Value.int .i64 x.1.op, Value.string x.1.md, Value.string x.1.nm, Value.slice x.2.a x.1.ns.length x.2.c]) (t := 120) (fr := (0, 0)) (heap_alloc_new wr _)) (by simp [Value.oneCell']) (by omega) (by unfold maxLen; omega) (by omega) (by simp only [World.size_alloc]; omega) (wr.heap.size + 1) (by simp) ?_; intro gg cap3 w5 hown3 hg3 hat3 hlt3))
      have HN : Hid (Below w.heap.size w w5) := below_grown HW.out hg3 (fun b e => (hO.lt b e).1)
      refine ⟨⟨k + 1, by omega, by go_num, ?_, HN⟩, by simp [intOf]; omega⟩
      rw [HX.out, tisC_snoc]
      exact hown3
    have hkn : k = xs.length := by omega
    subst hkn
    have ST2 : Hid (wr.ownsRow w.heap.size 120 4 (.slice va xs.length vc) (xs.length + 0) (tisC (xs ++ ys.take 0))) := by
      show World.ownsRow _ _ _ _ _ _ _
      rw [List.take_zero, List.append_nil, Nat.add_zero]
      rw [List.take_length] at hO
      exact hO
    have HW0 : Hid (Below w.heap.size w wr) := HW
    clear hO HW hlt hk hws
    go_wp2
    go_loopw [5, 7] (fun v i wr => ∃ k : Nat, k ≤ ys.length ∧ i = .int .i64 k ∧ wr.ownsRow w.heap.size 120 4 v (xs.length + k) (tisC (xs ++ ys.take k)) ∧ Hid (Below w.heap.size w wr)) (fun _ i _ => ys.length - (intOf i).toNat)
    case atStart => exact ⟨0, Nat.zero_le _, rfl, ST2.out, HW0⟩
    case round =>
      rename World => wr
      clear ST2 HW0
      obtain ⟨k, hk, rfl, hO, HW⟩ := hrel
      obtain ⟨va, vc, rfl⟩ := own_form hO
      have hws := HW.out.size
      by_cases hlt : k < ys.length
      case pos =>
        obtain ⟨g, gc, ev, hg1, hg2, hg3⟩ := own_blk H2.out.own (show 0 < ys.length by omega)
        simp only [Value.slice.injEq] at ev
        obtain ⟨rfl, -, rfl⟩ := ev
        have RR := H2.out.below HW.out
        obtain ⟨x, hx⟩ : ∃ x, x = ys[k] := ⟨_, rfl⟩
        have HX : Hid (ys.take (k + 1) = ys.take k ++ [x]) := by
          show _ = _
          rw [List.take_add_one, List.getElem?_eq_getElem hlt, hx]; rfl
        have y0 : wr.cell? ⟨g, k * 4, none⟩ = some (Value.int .i64 x.1.op) := own_at (f := tiC) tiC_len RR.own (j := k) (r := 0) rfl hlt (by omega) (by rw [← hx]; rfl)
        have y1 : wr.cell? ⟨g, k * 4 + 1, none⟩ = some (Value.string x.1.md) := own_at (f := tiC) tiC_len RR.own rfl hlt (by omega) (by rw [← hx]; rfl)
        have y2 : wr.cell? ⟨g, k * 4 + 2, none⟩ = some (Value.string x.1.nm) := own_at (f := tiC) tiC_len RR.own rfl hlt (by omega) (by rw [← hx]; rfl)
        have y3 : wr.cell? ⟨g, k * 4 + 3, none⟩ = some (Value.slice x.2.a x.1.ns.length x.2.c) := own_at (f := tiC) tiC_len RR.own rfl hlt (by omega) (by rw [← hx]; rfl)
        obtain ⟨z0, hz⟩ : ∃ z, z = x.1.op := ⟨_, rfl⟩
        clear RR hx
        go_wp2_with (first | (at_builtin; refine wpList_append_lies _ rfl _ _ 55 rfl w.heap.size 120 i0 _ 4 64 Tryz.underlying55 hi0 hz0 hz1 hz2 rfl (by omega) (.slice va (xs.length + k) vc) (xs.length + k) (tisC (xs ++ ys.take k)) rfl (hO.alloc _) ⟨wr.heap.size, 0, none⟩ 1 1 [Value.int .i64 x.1.op, Value.string x.1.md, Value.string x.1.nm, Value.slice x.2.a x.1.ns.length x.2.c] rfl rfl (World.news_of_block (cs := #[Value.int .i64 x.1.op, Value.string x.1.md, Value.string x.1.nm, Value.slice x.2.a x.1.ns.length x.2.c]) (t := 120) (fr := (0, 0)) (heap_alloc_new wr _)) (by simp [Value.oneCell']) (by omega) (by unfold maxLen; omega) (by omega) (by simp only [World.size_alloc]; omega) (wr.heap.size + 1) (by simp) ?_; intro gg cap3 w5 hown3 hg3 hat3 hlt3))
        have HN : Hid (Below w.heap.size w w5) := below_grown HW.out hg3 (fun b e => (hO.lt b e).1)
        refine ⟨⟨k + 1, by omega, by go_num, ?_, HN⟩, by simp [intOf]; omega⟩
        rw [HX.out, ← List.append_assoc, tisC_snoc]
        exact hown3
      have hkn : k = ys.length := by omega
      subst hkn
      have HF : Hid (RT B wr (.slice va (xs.length + ys.length) vc) (xs ++ ys)) := by
        rw [List.take_length] at hO
        refine ⟨by rw [List.length_append]; exact own_mono hO hB, fun x hx => ?_⟩
        rcases List.mem_append.1 hx with z | z
        · exact (H1.out.below HW.out).nm x z
        · exact (H2.out.below HW.out).nm x z
      clear hO
      go_wp2
      go_ret
      exact ⟨⟨_, _, _, rfl, HF⟩, HW⟩

end Go.Proofs.YtdjkgilohhjfoaaGreatDoor

namespace Go.Proofs.YtdjkgilohhjfoaaGreatDoor
open Go.RowKit

set_option maxRecDepth 100000 in
set_option maxHeartbeats 1000000 in
theorem m_joinE {B : Nat} (w : World) {v1 v2 : Value} {xs ys : List (EI × EPl)} (h1 : RE B w v1 xs) (h2 : RE B w v2 ys) (hl : xs.length + ys.length ≤ 100000) (hB : B ≤ w.heap.size) :
    Calls Tryz.prog 74 #[v1, v2] w fun e w' => (∃ va n c, e = .returned (.slice va n c) ∧ Hid (RE B w' (.slice va n c) (xs ++ ys))) ∧ Hid (Below w.heap.size w w') := by
  obtain ⟨i0, hi0, hz0, hz1, hz2⟩ := info_parts Tryz.infoEI
  obtain ⟨a1, c1, rfl⟩ := own_form h1.own
  obtain ⟨a2, c2, rfl⟩ := own_form h2.own
  have H1 : Hid (RE B w (.slice a1 xs.length c1) xs) := h1
  have H2 : Hid (RE B w (.slice a2 ys.length c2) ys) := h2
  have ST : Hid ((w.alloc (.cells #[] 123)).ownsRow w.heap.size 123 6 (.slice (some ⟨w.heap.size, 0, none⟩) 0 0) 0 (eisC (xs.take 0))) := World.ownsRow_lit w #[] 0 (Nat.le_refl _) (by unfold maxLen; omega) (by rfl)
  clear h1 h2
  go_enter Tryz.func74, Tryz.ntmps74
  go_wp2
  go_loopw [5, 6] (fun v i wr => ∃ k : Nat, k ≤ xs.length ∧ i = .int .i64 k ∧ wr.ownsRow w.heap.size 123 6 v k (eisC (xs.take k)) ∧ Hid (Below w.heap.size w wr)) (fun _ i _ => xs.length - (intOf i).toNat)
  case atStart => exact ⟨0, Nat.zero_le _, rfl, ST.out, bel1 _ _⟩
  case round =>
    clear ST
    obtain ⟨k, hk, rfl, hO, HW⟩ := hrel
    obtain ⟨va, vc, rfl⟩ := own_form hO
    have hws := HW.out.size
    by_cases hlt : k < xs.length
    case pos =>
      obtain ⟨g, gc, ev, hg1, hg2, hg3⟩ := own_blk H1.out.own (show 0 < xs.length by omega)
      simp only [Value.slice.injEq] at ev
      obtain ⟨rfl, -, rfl⟩ := ev
      have RR := H1.out.below HW.out
      obtain ⟨x, hx⟩ : ∃ x, x = xs[k] := ⟨_, rfl⟩
      have HX : Hid (xs.take (k + 1) = xs.take k ++ [x]) := by
        show _ = _
        rw [List.take_add_one, List.getElem?_eq_getElem hlt, hx]; rfl
      obtain ⟨ta, tc, HTV⟩ : ∃ ta tc, x.2.tv = .slice ta x.2.zs.length tc := own_form (RR.ok x (by rw [hx]; exact List.getElem_mem hlt)).ty.own
      obtain ⟨tn, htn⟩ : ∃ n, n = x.2.zs.length := ⟨_, rfl⟩
      rw [← htn] at HTV
      clear htn
      have HCX : Hid (eiC x = [Value.int .i64 x.1.op, Value.int .i64 x.1.num, Value.string x.1.md, Value.string x.1.nm, Value.slice x.2.np.a x.1.ns.length x.2.np.c, Value.slice ta tn tc]) := by show _ = _; unfold eiC; rw [HTV]
      have y0 : wr.cell? ⟨g, k * 6, none⟩ = some (Value.int .i64 x.1.op) := own_at (f := eiC) eiC_len RR.own (j := k) (r := 0) rfl hlt (by omega) (by rw [← hx]; rfl)
      have y1 : wr.cell? ⟨g, k * 6 + 1, none⟩ = some (Value.int .i64 x.1.num) := own_at (f := eiC) eiC_len RR.own rfl hlt (by omega) (by rw [← hx]; rfl)
      have y2 : wr.cell? ⟨g, k * 6 + 2, none⟩ = some (Value.string x.1.md) := own_at (f := eiC) eiC_len RR.own rfl hlt (by omega) (by rw [← hx]; rfl)
      have y3 : wr.cell? ⟨g, k * 6 + 3, none⟩ = some (Value.string x.1.nm) := own_at (f := eiC) eiC_len RR.own rfl hlt (by omega) (by rw [← hx]; rfl)
      have y4 : wr.cell? ⟨g, k * 6 + 4, none⟩ = some (Value.slice x.2.np.a x.1.ns.length x.2.np.c) := own_at (f := eiC) eiC_len RR.own rfl hlt (by omega) (by rw [← hx]; rfl)
      have y5 : wr.cell? ⟨g, k * 6 + 5, none⟩ = some (Value.slice ta tn tc) := own_at (f := eiC) eiC_len RR.own rfl hlt (by omega) (by rw [← hx]; show some x.2.tv = _; rw [HTV])
      obtain ⟨z0, hz⟩ : ∃ z, z = x.1.op := ⟨_, rfl⟩
      clear RR hx HTV hz
      go_wp2_with (first | (at_builtin; refine wpList_append_lies _ rfl _ _ 56 rfl w.heap.size 123 i0 _ 6 96 Tryz.underlying56 hi0 hz0 hz1 hz2 rfl (by omega) (.slice va k vc) k (eisC (xs.take k)) rfl (hO.alloc _) ⟨wr.heap.size, 0, none⟩ 1 1 [Value.int .i64 x.1.op, Value.int .i64 x.1.num, Value.string x.1.md, Value.string x.1.nm, Value.slice x.2.np.a x.1.ns.length x.2.np.c, Value.slice ta tn tc] rfl rfl (World.news_of_block (cs := #[Value.int .i64 x.1.op, Value.int .i64 x.1.num, Value.string x.1.md, Value.string x.1.nm, Value.slice x.2.np.a x.1.ns.length x.2.np.c, Value.slice ta tn tc]) (t := 123) (fr := (0, 0)) (heap_alloc_new wr _)) (by simp [Value.oneCell']) (by omega) (by unfold maxLen; omega) (by omega) (by simp only [World.size_alloc]; omega) (wr.heap.size + 1) (by simp) ?_; intro gg cap3 w5 hown3 hg3 hat3 hlt3))
      have HN : Hid (Below w.heap.size w w5) := below_grown HW.out hg3 (fun b e => (hO.lt b e).1)
      refine ⟨⟨k + 1, by omega, by go_num, ?_, HN⟩, by simp [intOf]; omega⟩
      rw [HX.out, eisC_snoc]
      rw [HCX.out]; exact hown3
    have hkn : k = xs.length := by omega
    subst hkn
    have ST2 : Hid (wr.ownsRow w.heap.size 123 6 (.slice va xs.length vc) (xs.length + 0) (eisC (xs ++ ys.take 0))) := by
      show World.ownsRow _ _ _ _ _ _ _
      rw [List.take_zero, List.append_nil, Nat.add_zero]
      rw [List.take_length] at hO
      exact hO
    have HW0 : Hid (Below w.heap.size w wr) := HW
    clear hO HW hlt hk hws
    go_wp2
    go_loopw [5, 7] (fun v i wr => ∃ k : Nat, k ≤ ys.length ∧ i = .int .i64 k ∧ wr.ownsRow w.heap.size 123 6 v (xs.length + k) (eisC (xs ++ ys.take k)) ∧ Hid (Below w.heap.size w wr)) (fun _ i _ => ys.length - (intOf i).toNat)
    case atStart => exact ⟨0, Nat.zero_le _, rfl, ST2.out, HW0⟩
    case round =>
      rename World => wr
      clear ST2 HW0
      obtain ⟨k, hk, rfl, hO, HW⟩ := hrel
      obtain ⟨va, vc, rfl⟩ := own_form hO
      have hws := HW.out.size
      by_cases hlt : k < ys.length
      case pos =>
        obtain ⟨g, gc, ev, hg1, hg2, hg3⟩ := own_blk H2.out.own (show 0 < ys.length by omega)
        simp only [Value.slice.injEq] at ev
        obtain ⟨rfl, -, rfl⟩ := ev
        have RR := H2.out.below HW.out
        obtain ⟨x, hx⟩ : ∃ x, x = ys[k] := ⟨_, rfl⟩
        have HX : Hid (ys.take (k + 1) = ys.take k ++ [x]) := by
          show _ = _
          rw [List.take_add_one, List.getElem?_eq_getElem hlt, hx]; rfl
        obtain ⟨ta, tc, HTV⟩ : ∃ ta tc, x.2.tv = .slice ta x.2.zs.length tc := own_form (RR.ok x (by rw [hx]; exact List.getElem_mem hlt)).ty.own
        obtain ⟨tn, htn⟩ : ∃ n, n = x.2.zs.length := ⟨_, rfl⟩
        rw [← htn] at HTV
        clear htn
        have HCX : Hid (eiC x = [Value.int .i64 x.1.op, Value.int .i64 x.1.num, Value.string x.1.md, Value.string x.1.nm, Value.slice x.2.np.a x.1.ns.length x.2.np.c, Value.slice ta tn tc]) := by show _ = _; unfold eiC; rw [HTV]
        have y0 : wr.cell? ⟨g, k * 6, none⟩ = some (Value.int .i64 x.1.op) := own_at (f := eiC) eiC_len RR.own (j := k) (r := 0) rfl hlt (by omega) (by rw [← hx]; rfl)
        have y1 : wr.cell? ⟨g, k * 6 + 1, none⟩ = some (Value.int .i64 x.1.num) := own_at (f := eiC) eiC_len RR.own rfl hlt (by omega) (by rw [← hx]; rfl)
        have y2 : wr.cell? ⟨g, k * 6 + 2, none⟩ = some (Value.string x.1.md) := own_at (f := eiC) eiC_len RR.own rfl hlt (by omega) (by rw [← hx]; rfl)
        have y3 : wr.cell? ⟨g, k * 6 + 3, none⟩ = some (Value.string x.1.nm) := own_at (f := eiC) eiC_len RR.own rfl hlt (by omega) (by rw [← hx]; rfl)
        have y4 : wr.cell? ⟨g, k * 6 + 4, none⟩ = some (Value.slice x.2.np.a x.1.ns.length x.2.np.c) := own_at (f := eiC) eiC_len RR.own rfl hlt (by omega) (by rw [← hx]; rfl)
        have y5 : wr.cell? ⟨g, k * 6 + 5, none⟩ = some (Value.slice ta tn tc) := own_at (f := eiC) eiC_len RR.own rfl hlt (by omega) (by rw [← hx]; show some x.2.tv = _; rw [HTV])
        obtain ⟨z0, hz⟩ : ∃ z, z = x.1.op := ⟨_, rfl⟩
        clear RR hx HTV hz
        go_wp2_with (first | (at_builtin; refine wpList_append_lies _ rfl _ _ 56 rfl w.heap.size 123 i0 _ 6 96 Tryz.underlying56 hi0 hz0 hz1 hz2 rfl (by omega) (.slice va (xs.length + k) vc) (xs.length + k) (eisC (xs ++ ys.take k)) rfl (hO.alloc _) ⟨wr.heap.size, 0, none⟩ 1 1 [Value.int .i64 x.1.op, Value.int .i64 x.1.num, Value.string x.1.md, Value.string x.1.nm, Value.slice x.2.np.a x.1.ns.length x.2.np.c, Value.slice ta tn tc] rfl rfl (World.news_of_block (cs := #[Value.int .i64 x.1.op, Value.int .i64 x.1.num, Value.string x.1.md, Value.string x.1.nm, Value.slice x.2.np.a x.1.ns.length x.2.np.c, Value.slice ta tn tc]) (t := 123) (fr := (0, 0)) (heap_alloc_new wr _)) (by simp [Value.oneCell']) (by omega) (by unfold maxLen; omega) (by omega) (by simp only [World.size_alloc]; omega) (wr.heap.size + 1) (by simp) ?_; intro gg cap3 w5 hown3 hg3 hat3 hlt3))
        have HN : Hid (Below w.heap.size w w5) := below_grown HW.out hg3 (fun b e => (hO.lt b e).1)
        refine ⟨⟨k + 1, by omega, by go_num, ?_, HN⟩, by simp [intOf]; omega⟩
        rw [HX.out, ← List.append_assoc, eisC_snoc]
        rw [HCX.out]; exact hown3
      have hkn : k = ys.length := by omega
      subst hkn
      have HF : Hid (RE B wr (.slice va (xs.length + ys.length) vc) (xs ++ ys)) := by
        rw [List.take_length] at hO
        refine ⟨by rw [List.length_append]; exact own_mono hO hB, fun x hx => ?_⟩
        rcases List.mem_append.1 hx with z | z
        · exact (H1.out.below HW.out).ok x z
        · exact (H2.out.below HW.out).ok x z
      clear hO
      go_wp2
      go_ret
      exact ⟨⟨_, _, _, rfl, HF⟩, HW⟩

end Go.Proofs.YtdjkgilohhjfoaaGreatDoor

namespace Go.Proofs.YtdjkgilohhjfoaaGreatDoor
open Go.RowKit

theorem kp_set {W : World} {X n : Nat} {t : TypeId} {f : Nat → Value} (R : W.rowIs X t n f) (k : Nat) (v : Value) : Kp t W (W.setCell ⟨X, k, none⟩ v) := fun b c t' fr hb hne => by
  refine Below.heap_setCell _ _ _ _ ?_
  show b ≠ X
  rintro rfl
  obtain ⟨c', hc', _⟩ := R
  rw [hc'] at hb
  simp only [Option.some.injEq, Obj.cells.injEq] at hb
  exact hne hb.2.1.symm

def sts (ns : List ByteArray) : List Value := ns.flatMap fun s => [.string s]
theorem sts_snoc (ns : List ByteArray) (s : ByteArray) : sts (ns ++ [s]) = sts ns ++ [.string s] := by simp [sts]
theorem sts_len (s : ByteArray) : ([Value.string s]).length = 1 := rfl

theorem nm_of_own {B : Nat} {w : World} {va : Option Addr} {n c : Nat} {ns : List ByteArray} (hn : n = ns.length) (h : w.ownsRow B 9 1 (.slice va n c) n (sts ns)) : ∃ g, NmOK B w ns ⟨va, g, c⟩ := by
  subst hn
  by_cases hne : ns = []
  · exact ⟨0, by rw [hne]; exact NmOK.nil _ _ _⟩
  · have hpos : 0 < ns.length := List.length_pos_iff.2 hne
    obtain ⟨h1, h2⟩ := h
    rcases h2 with ⟨_, h3⟩ | ⟨g, cap, cur, hv, hb, hh, hc, hm, hs, ht⟩
    · omega
    · simp only [Value.slice.injEq] at hv
      obtain ⟨rfl, -, rfl⟩ := hv
      refine ⟨g, fun _ => ⟨rfl, hb, cur.size, fun j => cur[j]?.getD default, ⟨cur, hh, rfl, fun i hi => ?_⟩, by omega, fun j hj => ?_⟩⟩
      · show cur[i]? = some (cur[i]?.getD default)
        rw [Array.getElem?_eq_getElem hi]; rfl
      · have e1 : (sts ns)[j]? = some (.string (ns.getD j e0)) := by
          have := flat_get (fun s : ByteArray => [Value.string s]) 1 sts_len ns j 0 hj (by omega)
          rw [Nat.mul_one, Nat.add_zero] at this
          unfold sts
          rw [this, List.getD_eq_getElem?_getD, List.getElem?_eq_getElem hj]; rfl
        rw [← ht, List.getElem?_take, if_pos (by omega)] at e1
        have e2 : cur[j]? = some (.string (ns.getD j e0)) := by rw [← e1]; simp
        show cur[j]?.getD default = _
        rw [e2]; rfl

/-- A token of one class has no text of another. -/
theorem isC_isT {w : World} {tb o : Nat} {ts : List TK} (h : TkAt w tb o ts) {i : Nat} {c : Int} {s : List UInt8} (hc : isC ts i c = true) (hs : cls s ≠ c) : isT ts i s = false := by
  have hi := isC_lt hc
  rw [isC_at hi] at hc
  have e : (tkA ts i).cls = c := by simpa using hc
  rw [h.gd i hi] at e
  rw [isT_at hi, beq_eq_false_iff_ne]
  intro z
  rw [ByteArray.toList_eq, z] at e
  exact hs e

theorem m_isb {tb o c : Nat} {ao : Option Addr} {ts : List TK} {w : World} (h : MS w tb o ao ts) {a : Int} {i : Nat} (ha : a = i) {s : ByteArray} {l : List UInt8} {b : Bool} (hb : isT ts i l = b) (hl : s.data.toList = l) (hs : cls l = 2 ∨ cls l = 4) :
    Calls Tryz.prog 53 #[.slice ao ts.length c, .int .i64 a, .string s] w fun e w' => e = .returned (.bool b) ∧ w = w' := by
  subst hl hb
  exact m_is w h ha (by rw [ByteArray.toList_eq]; exact hs)
theorem m_isN {tb o c : Nat} {ao : Option Addr} {ts : List TK} {w : World} (h : MS w tb o ao ts) {a : Int} {i : Nat} (ha : a = i) {b : Bool} (hb : isC ts i 1 = b) :
    Calls Tryz.prog 62 #[.slice ao ts.length c, .int .i64 a] w fun e w' => e = .returned (.bool b) ∧ w = w' := by
  subst hb
  exact m_isName w h ha

set_option maxRecDepth 100000 in
theorem m_twice (w : World) {B : Nat} {va : Option Addr} {n c : Nat} {ns : List ByteArray} (hn : n = ns.length) (h : w.ownsRow B 9 1 (.slice va n c) n (sts ns)) (hl : n ≤ 100000) (s : ByteArray) {b : Bool} (hb : hasN ns s = b) :
    Calls Tryz.prog 31 #[.slice va n c, .string s] w fun e w' => e = .returned (.bool b) ∧ w = w' := by
  have HN : Hid (n = ns.length) := hn
  have HB : Hid (hasN ns s = b) := hb
  have HC : Hid (∀ k (hk : k < ns.length), ∃ g, va = some ⟨g, 0, none⟩ ∧ w.cell? ⟨g, k, none⟩ = some (.string ns[k])) := fun k hk => by
    subst hn
    obtain ⟨g, gc, ev, _⟩ := own_blk h (show 0 < ns.length by omega)
    simp only [Value.slice.injEq] at ev
    obtain ⟨rfl, -, rfl⟩ := ev
    have := own_at (f := fun s : ByteArray => [Value.string s]) sts_len h rfl (j := k) (r := 0) hk (by omega) rfl
    rw [Nat.mul_one, Nat.add_zero] at this
    exact ⟨g, rfl, this⟩
  clear hn hb h
  go_enter Tryz.func31, Tryz.ntmps31
  go_wp2
  go_loopw [5] (fun i wr => ∃ k : Nat, k ≤ n ∧ i = .int .i64 k ∧ wr = w ∧ Hid (∀ j (hj : j < ns.length), j < k → (ns[j].toList == s.toList) = false)) (fun i _ => n - (intOf i).toNat)
  case atStart => exact ⟨0, Nat.zero_le _, rfl, rfl, fun j _ hj => absurd hj (Nat.not_lt_zero _)⟩
  case round =>
    obtain ⟨k, hk, rfl, rfl, HF⟩ := hrel
    by_cases hlt : k < n
    · have hlt' : k < ns.length := by have := HN.out; omega
      obtain ⟨g, rfl, ck⟩ := HC.out k hlt'
      obtain ⟨x, hx⟩ : ∃ x, x = ns[k] := ⟨_, rfl⟩
      rw [← hx] at ck
      cases r : (x.toList == s.toList)
      · have HR : Hid ((ns[k].toList == s.toList) = false) := by show _ = _; rw [← hx]; exact r
        clear hx
        go_wp2
        refine ⟨⟨k + 1, by omega, by go_num, trivial, fun j hj hjk => ?_⟩, by simp [intOf]; omega⟩
        by_cases e : j = k
        · subst e; exact HR.out
        · exact HF.out j hj (by omega)
      · have HR : Hid (true = b) := by
          show _ = _
          rw [← HB.out]
          unfold hasN
          refine (List.any_eq_true.2 ⟨x, by rw [hx]; exact List.getElem_mem hlt', ?_⟩).symm
          rw [← ByteArray.toList_eq, ← ByteArray.toList_eq]; exact r
        clear hx
        go_wp2
        go_ret
        exact ⟨by rw [← HR.out]; rfl, rfl⟩
    · have hkn : k = n := by omega
      subst hkn
      have HR : Hid (false = b) := by
        show _ = _
        rw [← HB.out]
        unfold hasN
        refine (List.any_eq_false.2 fun x hx => ?_).symm
        obtain ⟨j, hj, rfl⟩ := List.mem_iff_getElem.1 hx
        have := HF.out j hj (by have := HN.out; omega)
        rw [← ByteArray.toList_eq, ← ByteArray.toList_eq, this]; exact Bool.false_ne_true
      go_wp2
      go_ret
      exact ⟨by rw [← HR.out]; rfl, rfl⟩

end Go.Proofs.YtdjkgilohhjfoaaGreatDoor

namespace Go.Proofs.YtdjkgilohhjfoaaGreatDoor
open Go.RowKit

/-- The digits of a number, ahead of what is there. -/
def mdig (k : Nat) (acc : List UInt8) : List UInt8 := if k = 0 then acc else mdig (k / 10) (UInt8.ofNat (48 + k % 10) :: acc)
termination_by k
decreasing_by omega
theorem mdig_zero (acc : List UInt8) : mdig 0 acc = acc := by rw [mdig, if_pos rfl]
theorem mdig_step {k : Nat} (h : k ≠ 0) (acc : List UInt8) : mdig k acc = mdig (k / 10) (UInt8.ofNat (48 + k % 10) :: acc) := by
  rw [mdig, if_neg h]

/-- The text that marks a number above 0. -/
def mt (k : Nat) : ByteArray := ⟨(109 :: mdig k []).toArray⟩

theorem conv_one (W : World) (n : Int) : (convert 79 9 (.slice (some ⟨W.heap.size, 0, none⟩) 1 1)).run Tryz.prog (W.alloc (.cells #[.int .u8 n] 5)) = .ok (.string ⟨#[UInt8.ofNat n.toNat]⟩) (W.alloc (.cells #[.int .u8 n] 5)) := by
  rw [run_convert_bytes_string _ 79 9 5 _ 1 1 Tryz.underlying79 Tryz.underlying5 Tryz.underlying9]
  have := run_bytesToString (P := Tryz.prog) (W.alloc (.cells #[.int .u8 n] 5)) ⟨W.heap.size, 0, none⟩ 1 1 [n] (run_loadCells_list _ ⟨W.heap.size, 0, none⟩ [.int .u8 n] (cell_one_new W (.int .u8 n) 5))
  exact this

set_option maxRecDepth 100000 in
set_option maxHeartbeats 2000000 in
theorem c23 (k : Nat) (w : World) (hk : 0 < k) (hk2 : k ≤ 1000000) :
    Calls Tryz.prog 28 #[.int .i64 (k : Int)] w fun e w' => e = .returned (.string (mt k)) ∧ Below w.heap.size w w' := by
  have h0 : ¬ (k : Int) ≤ 0 := by omega
  go_enter Tryz.func28, Tryz.ntmps28
  go_wp2
  go_loopw [3, 0] (fun o i wr => ∃ (j : Nat) (acc : ByteArray), i = .int .i64 j ∧ o = .string acc ∧ Hid (mdig j acc.data.toList = mdig k []) ∧ acc.size + j ≤ k ∧ Below w.heap.size w wr) (fun _ i _ => (intOf i).toNat)
  case atStart => exact ⟨k, ⟨#[]⟩, rfl, rfl, by show _ = _; rfl, by show 0 + k ≤ k; omega, Below.refl _ _⟩
  case round =>
    obtain ⟨j, acc, rfl, rfl, HM, hsz, hb⟩ := hrel
    by_cases hlt : 0 < j
    · have hlt' : (0 : Int) < (j : Int) := by omega
      have hcv := conv_one wr (48 + (j : Int) % 10)
      obtain ⟨sx, hsx⟩ : ∃ sx : ByteArray, sx = ⟨#[UInt8.ofNat (48 + (j : Int) % 10).toNat]⟩ := ⟨_, rfl⟩
      rw [← hsx] at hcv
      have hq : (j : Int).tdiv 10 = ((j / 10 : Nat) : Int) := by rw [Int.tdiv_eq_ediv_of_nonneg (by omega)]; omega
      have hq2 : IntKind.i64.wrap ((j / 10 : Nat) : Int) = ((j / 10 : Nat) : Int) := by rw [IntKind.wrap_i64]; omega
      have HN : Hid (mdig (j / 10) (sx ++ acc).data.toList = mdig k []) := by
        show _ = _
        rw [← HM.out, mdig_step (k := j) (by omega), hsx]
        have : (48 + (j : Int) % 10).toNat = 48 + j % 10 := by omega
        rw [this]
        simp [ByteArray.data_append]
      have one : sx.size = 1 := by rw [hsx]; rfl
      have hsz2 : (sx ++ acc).size = 1 + acc.size := by
        rw [ByteArray.size_append, one]
      have hadd := fun W => run_string_add_sum (P := Tryz.prog) (w := W) sx acc (by rw [one]; omega)
      clear hsx
      go_wp2
      go_roundw
      case rel => exact ⟨j / 10, _, by first | rfl | (rw [hq, hq2]) | simp, rfl, HN, by omega, hb.alloc hb.size _⟩
      case measure => simp [intOf]; omega
    · have hj : j = 0 := by omega
      subst hj
      have HE : Hid (mt k = (⟨#[109]⟩ : ByteArray) ++ acc) := by
        show _ = _
        have := HM.out
        rw [mdig_zero] at this
        unfold mt
        rw [← this]
        apply ByteArray.ext
        simp [ByteArray.data_append]
      go_wp2
      go_ret
      exact ⟨by rw [HE.out]; rfl, hb⟩

end Go.Proofs.YtdjkgilohhjfoaaGreatDoor

