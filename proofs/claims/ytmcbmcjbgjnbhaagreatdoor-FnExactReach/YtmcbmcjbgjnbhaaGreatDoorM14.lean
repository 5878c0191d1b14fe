/-
  Merged for the claim: PgD PgE PgF PgG.
-/
import Derived.Test.YtmcbmcjbgjnbhaaGreatDoorM13
namespace Go.Proofs.YtmcbmcjbgjnbhaaGreatDoor
open Go.RowKit

theorem below_grown {w wr w5 : World} {o : Obj} {row : Option Nat} (h : Below w.heap.size w wr) (hg : (wr.alloc o).grownBy w5 row) (hr : ∀ b, row = some b → w.heap.size ≤ b) : Below w.heap.size w w5 :=
  ⟨hg.os.trans h.os, hg.tape.trans h.tape, hg.output.trans h.output, by have := hg.size; have := h.size; simp only [World.size_alloc] at *; omega, fun k hk => by
    rw [hg.block k (by have := h.size; simp only [World.size_alloc]; omega) (fun e => by have := hr k e.symm; omega)]
    exact (Below.heap_alloc _ _ _ (by have := h.size; omega)).trans (h.block k hk)⟩

set_option maxRecDepth 100000 in
set_option maxHeartbeats 1000000 in
theorem m_joinT {B : Nat} (w : World) {v1 v2 : Value} {xs ys : List (TI × NPl)} (h1 : RT B w v1 xs) (h2 : RT B w v2 ys) (hl : xs.length + ys.length ≤ 100000) (hB : B ≤ w.heap.size) :
    Calls Tryz.prog 89 #[v1, v2] w fun e w' => (∃ va n c, e = .returned (.slice va n c) ∧ Hid (RT B w' (.slice va n c) (xs ++ ys))) ∧ Hid (Below w.heap.size w w') := by
  obtain ⟨i0, hi0, hz0, hz1, hz2⟩ := info_parts Tryz.infoTI
  obtain ⟨a1, c1, rfl⟩ := own_form h1.own
  obtain ⟨a2, c2, rfl⟩ := own_form h2.own
  have H1 : Hid (RT B w (.slice a1 xs.length c1) xs) := h1
  have H2 : Hid (RT B w (.slice a2 ys.length c2) ys) := h2
  have ST : Hid ((w.alloc (.cells #[] 139)).ownsRow w.heap.size 139 4 (.slice (some ⟨w.heap.size, 0, none⟩) 0 0) 0 (tisC (xs.take 0))) := World.ownsRow_lit w #[] 0 (Nat.le_refl _) (by unfold maxLen; omega) (by rfl)
  clear h1 h2
  go_enter Tryz.func89, Tryz.ntmps89
  go_wp2
  go_loopw [5, 6] (fun v i wr => ∃ k : Nat, k ≤ xs.length ∧ i = .int .i64 k ∧ wr.ownsRow w.heap.size 139 4 v k (tisC (xs.take k)) ∧ Hid (Below w.heap.size w wr)) (fun _ i _ => xs.length - (intOf i).toNat)
  case atStart => exact ⟨0, Nat.zero_le _, rfl, ST.out, bel1 _ _⟩
  case round =>
    clear ST
    obtain ⟨k, hk, rfl, hO, HW⟩ := hrel
    obtain ⟨va, vc, rfl⟩ := own_form hO
    have hws := HW.out.size
    by_cases hlt : k < xs.length
    case pos =>
      obtain ⟨g, gc, ev, hg1, hg2, hg3⟩ := own_blk H1.out.own (show 0 < xs.length by omega)
      simp only [Value.slice.injEq] at ev
      obtain ⟨rfl, -, rfl⟩ := ev
      have RR := H1.out.below HW.out
      obtain ⟨x, hx⟩ : ∃ x, x = xs[k] := ⟨_, rfl⟩
      have HX : Hid (xs.take (k + 1) = xs.take k ++ [x]) := by
        show _ = _
        rw [List.take_add_one, List.getElem?_eq_getElem hlt, hx]; rfl
      have y0 : wr.cell? ⟨g, k * 4, none⟩ = some (Value.int .i64 x.1.op) := own_at (f := tiC) tiC_len RR.own (j := k) (r := 0) rfl hlt (by omega) (by rw [← hx]; rfl)
      have y1 : wr.cell? ⟨g, k * 4 + 1, none⟩ = some (Value.string x.1.md) := own_at (f := tiC) tiC_len RR.own rfl hlt (by omega) (by rw [← hx]; rfl)
      have y2 : wr.cell? ⟨g, k * 4 + 2, none⟩ = some (Value.string x.1.nm) := own_at (f := tiC) tiC_len RR.own rfl hlt (by omega) (by rw [← hx]; rfl)
      have y3 : wr.cell? ⟨g, k * 4 + 3, none⟩ = some (Value.slice x.2.a x.1.ns.length x.2.c) := own_at (f := tiC) tiC_len RR.own rfl hlt (by omega) (by rw [← hx]; rfl)
      obtain ⟨z0, hz⟩ : ∃ z, z = x.1.op := ⟨_, rfl⟩
      clear RR hx
      go_wp2_with (first | (at_builtin; refine wpList_append_lies _ rfl _ _ 64 rfl w.heap.size 139 i0 _ 4 64 Tryz.underlying64 hi0 hz0 hz1 hz2 rfl (by omega) (.slice va k vc) k (tisC (xs.take k)) rfl (hO.alloc _) ⟨wr.heap.size, 0, none⟩ 1 1 [Value.int .i64 x.1.op, Value.string x.1.md, Value.string x.1.nm, Value.slice x.2.a x.1.ns.length x.2.c] rfl rfl (World.news_of_block (cs := #[Value.int .i64 x.1.op, Value.string x.1.md, Value.string x.1.nm, Value.slice x.2.a x.1.ns.length x.2.c]) (t := 139) (fr := (0, 0)) (heap_alloc_new wr _)) (by simp [Value.oneCell']) (by omega) (by unfold maxLen; omega) (by omega) (by simp only [World.size_alloc]; omega) (wr.heap.size + 1) (by simp) ?_; intro gg cap3 w5 hown3 hg3 hat3 hlt3))
      have HN : Hid (Below w.heap.size w w5) := below_grown HW.out hg3 (fun b e => (hO.lt b e).1)
      refine ⟨⟨k + 1, by omega, by go_num, ?_, HN⟩, by simp [intOf]; omega⟩
      rw [HX.out, tisC_snoc]
      exact hown3
    have hkn : k = xs.length := by omega
    subst hkn
    have ST2 : Hid (wr.ownsRow w.heap.size 139 4 (.slice va xs.length vc) (xs.length + 0) (tisC (xs ++ ys.take 0))) := by
      show World.ownsRow _ _ _ _ _ _ _
      rw [List.take_zero, List.append_nil, Nat.add_zero]
      rw [List.take_length] at hO
      exact hO
    have HW0 : Hid (Below w.heap.size w wr) := HW
    clear hO HW hlt hk hws
    go_wp2
    go_loopw [5, 7] (fun v i wr => ∃ k : Nat, k ≤ ys.length ∧ i = .int .i64 k ∧ wr.ownsRow w.heap.size 139 4 v (xs.length + k) (tisC (xs ++ ys.take k)) ∧ Hid (Below w.heap.size w wr)) (fun _ i _ => ys.length - (intOf i).toNat)
    case atStart => exact ⟨0, Nat.zero_le _, rfl, ST2.out, HW0⟩
    case round =>
      rename World => wr
      clear ST2 HW0
      obtain ⟨k, hk, rfl, hO, HW⟩ := hrel
      obtain ⟨va, vc, rfl⟩ := own_form hO
      have hws := HW.out.size
      by_cases hlt : k < ys.length
      case pos =>
        obtain ⟨g, gc, ev, hg1, hg2, hg3⟩ := own_blk H2.out.own (show 0 < ys.length by omega)
        simp only [Value.slice.injEq] at ev
        obtain ⟨rfl, -, rfl⟩ := ev
        have RR := H2.out.below HW.out
        obtain ⟨x, hx⟩ : ∃ x, x = ys[k] := ⟨_, rfl⟩
        have HX : Hid (ys.take (k + 1) = ys.take k ++ [x]) := by
          show _ = _
          rw [List.take_add_one, List.getElem?_eq_getElem hlt, hx]; rfl
        have y0 : wr.cell? ⟨g, k * 4, none⟩ = some (Value.int .i64 x.1.op) := own_at (f := tiC) tiC_len RR.own (j := k) (r := 0) rfl hlt (by omega) (by rw [← hx]; rfl)
        have y1 : wr.cell? ⟨g, k * 4 + 1, none⟩ = some (Value.string x.1.md) := own_at (f := tiC) tiC_len RR.own rfl hlt (by omega) (by rw [← hx]; rfl)
        have y2 : wr.cell? ⟨g, k * 4 + 2, none⟩ = some (Value.string x.1.nm) := own_at (f := tiC) tiC_len RR.own rfl hlt (by omega) (by rw [← hx]; rfl)
        have y3 : wr.cell? ⟨g, k * 4 + 3, none⟩ = some (Value.slice x.2.a x.1.ns.length x.2.c) := own_at (f := tiC) tiC_len RR.own rfl hlt (by omega) (by rw [← hx]; rfl)
        obtain ⟨z0, hz⟩ : ∃ z, z = x.1.op := ⟨_, rfl⟩
        clear RR hx
        go_wp2_with (first | (at_builtin; refine wpList_append_lies _ rfl _ _ 64 rfl w.heap.size 139 i0 _ 4 64 Tryz.underlying64 hi0 hz0 hz1 hz2 rfl (by omega) (.slice va (xs.length + k) vc) (xs.length + k) (tisC (xs ++ ys.take k)) rfl (hO.alloc _) ⟨wr.heap.size, 0, none⟩ 1 1 [Value.int .i64 x.1.op, Value.string x.1.md, Value.string x.1.nm, Value.slice x.2.a x.1.ns.length x.2.c] rfl rfl (World.news_of_block (cs := #[Value.int .i64 x.1.op, Value.string x.1.md, Value.string x.1.nm, Value.slice x.2.a x.1.ns.length x.2.c]) (t := 139) (fr := (0, 0)) (heap_alloc_new wr _)) (by simp [Value.oneCell']) (by omega) (by unfold maxLen; omega) (by omega) (by simp only [World.size_alloc]; omega) (wr.heap.size + 1) (by simp) ?_; intro gg cap3 w5 hown3 hg3 hat3 hlt3))
        have HN : Hid (Below w.heap.size w w5) := below_grown HW.out hg3 (fun b e => (hO.lt b e).1)
        refine ⟨⟨k + 1, by omega, by go_num, ?_, HN⟩, by simp [intOf]; omega⟩
        rw [HX.out, ← List.append_assoc, tisC_snoc]
        exact hown3
      have hkn : k = ys.length := by omega
      subst hkn
      have HF : Hid (RT B wr (.slice va (xs.length + ys.length) vc) (xs ++ ys)) := by
        rw [List.take_length] at hO
        refine ⟨by rw [List.length_append]; exact own_mono hO hB, fun x hx => ?_⟩
        rcases List.mem_append.1 hx with z | z
        · exact (H1.out.below HW.out).nm x z
        · exact (H2.out.below HW.out).nm x z
      clear hO
      go_wp2
      go_ret
      exact ⟨⟨_, _, _, rfl, HF⟩, HW⟩

end Go.Proofs.YtmcbmcjbgjnbhaaGreatDoor

namespace Go.Proofs.YtmcbmcjbgjnbhaaGreatDoor
open Go.RowKit

set_option maxRecDepth 100000 in
set_option maxHeartbeats 1000000 in
theorem m_joinE {B : Nat} (w : World) {v1 v2 : Value} {xs ys : List (EI × EPl)} (h1 : RE B w v1 xs) (h2 : RE B w v2 ys) (hl : xs.length + ys.length ≤ 100000) (hB : B ≤ w.heap.size) :
    Calls Tryz.prog 91 #[v1, v2] w fun e w' => (∃ va n c, e = .returned (.slice va n c) ∧ Hid (RE B w' (.slice va n c) (xs ++ ys))) ∧ Hid (Below w.heap.size w w') := by
  obtain ⟨i0, hi0, hz0, hz1, hz2⟩ := info_parts Tryz.infoEI
  obtain ⟨a1, c1, rfl⟩ := own_form h1.own
  obtain ⟨a2, c2, rfl⟩ := own_form h2.own
  have H1 : Hid (RE B w (.slice a1 xs.length c1) xs) := h1
  have H2 : Hid (RE B w (.slice a2 ys.length c2) ys) := h2
  have ST : Hid ((w.alloc (.cells #[] 142)).ownsRow w.heap.size 142 6 (.slice (some ⟨w.heap.size, 0, none⟩) 0 0) 0 (eisC (xs.take 0))) := World.ownsRow_lit w #[] 0 (Nat.le_refl _) (by unfold maxLen; omega) (by rfl)
  clear h1 h2
  go_enter Tryz.func91, Tryz.ntmps91
  go_wp2
  go_loopw [5, 6] (fun v i wr => ∃ k : Nat, k ≤ xs.length ∧ i = .int .i64 k ∧ wr.ownsRow w.heap.size 142 6 v k (eisC (xs.take k)) ∧ Hid (Below w.heap.size w wr)) (fun _ i _ => xs.length - (intOf i).toNat)
  case atStart => exact ⟨0, Nat.zero_le _, rfl, ST.out, bel1 _ _⟩
  case round =>
    clear ST
    obtain ⟨k, hk, rfl, hO, HW⟩ := hrel
    obtain ⟨va, vc, rfl⟩ := own_form hO
    have hws := HW.out.size
    by_cases hlt : k < xs.length
    case pos =>
      obtain ⟨g, gc, ev, hg1, hg2, hg3⟩ := own_blk H1.out.own (show 0 < xs.length by omega)
      simp only [Value.slice.injEq] at ev
      obtain ⟨rfl, -, rfl⟩ := ev
      have RR := H1.out.below HW.out
      obtain ⟨x, hx⟩ : ∃ x, x = xs[k] := ⟨_, rfl⟩
      have HX : Hid (xs.take (k + 1) = xs.take k ++ [x]) := by
        show _ = _
        rw [List.take_add_one, List.getElem?_eq_getElem hlt, hx]; rfl
      obtain ⟨ta, tc, HTV⟩ : ∃ ta tc, x.2.tv = .slice ta x.2.zs.length tc := own_form (RR.ok x (by rw [hx]; exact List.getElem_mem hlt)).ty.own
      obtain ⟨tn, htn⟩ : ∃ n, n = x.2.zs.length := ⟨_, rfl⟩
      rw [← htn] at HTV
      clear htn
      have HCX : Hid (eiC x = [Value.int .i64 x.1.op, Value.int .i64 x.1.num, Value.string x.1.md, Value.string x.1.nm, Value.slice x.2.np.a x.1.ns.length x.2.np.c, Value.slice ta tn tc]) := by show _ = _; unfold eiC; rw [HTV]
      have y0 : wr.cell? ⟨g, k * 6, none⟩ = some (Value.int .i64 x.1.op) := own_at (f := eiC) eiC_len RR.own (j := k) (r := 0) rfl hlt (by omega) (by rw [← hx]; rfl)
      have y1 : wr.cell? ⟨g, k * 6 + 1, none⟩ = some (Value.int .i64 x.1.num) := own_at (f := eiC) eiC_len RR.own rfl hlt (by omega) (by rw [← hx]; rfl)
      have y2 : wr.cell? ⟨g, k * 6 + 2, none⟩ = some (Value.string x.1.md) := own_at (f := eiC) eiC_len RR.own rfl hlt (by omega) (by rw [← hx]; rfl)
      have y3 : wr.cell? ⟨g, k * 6 + 3, none⟩ = some (Value.string x.1.nm) := own_at (f := eiC) eiC_len RR.own rfl hlt (by omega) (by rw [← hx]; rfl)
      have y4 : wr.cell? ⟨g, k * 6 + 4, none⟩ = some (Value.slice x.2.np.a x.1.ns.length x.2.np.c) := own_at (f := eiC) eiC_len RR.own rfl hlt (by omega) (by rw [← hx]; rfl)
      have y5 : wr.cell? ⟨g, k * 6 + 5, none⟩ = some (Value.slice ta tn tc) := own_at (f := eiC) eiC_len RR.own rfl hlt (by omega) (by rw [← hx]; show some x.2.tv = _; rw [HTV])
      obtain ⟨z0, hz⟩ : ∃ z, z = x.1.op := ⟨_, rfl⟩
      clear RR hx HTV hz
      go_wp2_with (first | (at_builtin; refine wpList_append_lies _ rfl _ _ 65 rfl w.heap.size 142 i0 _ 6 96 Tryz.underlying65 hi0 hz0 hz1 hz2 rfl (by omega) (.slice va k vc) k (eisC (xs.take k)) rfl (hO.alloc _) ⟨wr.heap.size, 0, none⟩ 1 1 [Value.int .i64 x.1.op, Value.int .i64 x.1.num, Value.string x.1.md, Value.string x.1.nm, Value.slice x.2.np.a x.1.ns.length x.2.np.c, Value.slice ta tn tc] rfl rfl (World.news_of_block (cs := #[Value.int .i64 x.1.op, Value.int .i64 x.1.num, Value.string x.1.md, Value.string x.1.nm, Value.slice x.2.np.a x.1.ns.length x.2.np.c, Value.slice ta tn tc]) (t := 142) (fr := (0, 0)) (heap_alloc_new wr _)) (by simp [Value.oneCell']) (by omega) (by unfold maxLen; omega) (by omega) (by simp only [World.size_alloc]; omega) (wr.heap.size + 1) (by simp) ?_; intro gg cap3 w5 hown3 hg3 hat3 hlt3))
      have HN : Hid (Below w.heap.size w w5) := below_grown HW.out hg3 (fun b e => (hO.lt b e).1)
      refine ⟨⟨k + 1, by omega, by go_num, ?_, HN⟩, by simp [intOf]; omega⟩
      rw [HX.out, eisC_snoc]
      rw [HCX.out]; exact hown3
    have hkn : k = xs.length := by omega
    subst hkn
    have ST2 : Hid (wr.ownsRow w.heap.size 142 6 (.slice va xs.length vc) (xs.length + 0) (eisC (xs ++ ys.take 0))) := by
      show World.ownsRow _ _ _ _ _ _ _
      rw [List.take_zero, List.append_nil, Nat.add_zero]
      rw [List.take_length] at hO
      exact hO
    have HW0 : Hid (Below w.heap.size w wr) := HW
    clear hO HW hlt hk hws
    go_wp2
    go_loopw [5, 7] (fun v i wr => ∃ k : Nat, k ≤ ys.length ∧ i = .int .i64 k ∧ wr.ownsRow w.heap.size 142 6 v (xs.length + k) (eisC (xs ++ ys.take k)) ∧ Hid (Below w.heap.size w wr)) (fun _ i _ => ys.length - (intOf i).toNat)
    case atStart => exact ⟨0, Nat.zero_le _, rfl, ST2.out, HW0⟩
    case round =>
      rename World => wr
      clear ST2 HW0
      obtain ⟨k, hk, rfl, hO, HW⟩ := hrel
      obtain ⟨va, vc, rfl⟩ := own_form hO
      have hws := HW.out.size
      by_cases hlt : k < ys.length
      case pos =>
        obtain ⟨g, gc, ev, hg1, hg2, hg3⟩ := own_blk H2.out.own (show 0 < ys.length by omega)
        simp only [Value.slice.injEq] at ev
        obtain ⟨rfl, -, rfl⟩ := ev
        have RR := H2.out.below HW.out
        obtain ⟨x, hx⟩ : ∃ x, x = ys[k] := ⟨_, rfl⟩
        have HX : Hid (ys.take (k + 1) = ys.take k ++ [x]) := by
          show _ = _
          rw [List.take_add_one, List.getElem?_eq_getElem hlt, hx]; rfl
        obtain ⟨ta, tc, HTV⟩ : ∃ ta tc, x.2.tv = .slice ta x.2.zs.length tc := own_form (RR.ok x (by rw [hx]; exact List.getElem_mem hlt)).ty.own
        obtain ⟨tn, htn⟩ : ∃ n, n = x.2.zs.length := ⟨_, rfl⟩
        rw [← htn] at HTV
        clear htn
        have HCX : Hid (eiC x = [Value.int .i64 x.1.op, Value.int .i64 x.1.num, Value.string x.1.md, Value.string x.1.nm, Value.slice x.2.np.a x.1.ns.length x.2.np.c, Value.slice ta tn tc]) := by show _ = _; unfold eiC; rw [HTV]
        have y0 : wr.cell? ⟨g, k * 6, none⟩ = some (Value.int .i64 x.1.op) := own_at (f := eiC) eiC_len RR.own (j := k) (r := 0) rfl hlt (by omega) (by rw [← hx]; rfl)
        have y1 : wr.cell? ⟨g, k * 6 + 1, none⟩ = some (Value.int .i64 x.1.num) := own_at (f := eiC) eiC_len RR.own rfl hlt (by omega) (by rw [← hx]; rfl)
        have y2 : wr.cell? ⟨g, k * 6 + 2, none⟩ = some (Value.string x.1.md) := own_at (f := eiC) eiC_len RR.own rfl hlt (by omega) (by rw [← hx]; rfl)
        have y3 : wr.cell? ⟨g, k * 6 + 3, none⟩ = some (Value.string x.1.nm) := own_at (f := eiC) eiC_len RR.own rfl hlt (by omega) (by rw [← hx]; rfl)
        have y4 : wr.cell? ⟨g, k * 6 + 4, none⟩ = some (Value.slice x.2.np.a x.1.ns.length x.2.np.c) := own_at (f := eiC) eiC_len RR.own rfl hlt (by omega) (by rw [← hx]; rfl)
        have y5 : wr.cell? ⟨g, k * 6 + 5, none⟩ = some (Value.slice ta tn tc) := own_at (f := eiC) eiC_len RR.own rfl hlt (by omega) (by rw [← hx]; show some x.2.tv = _; rw [HTV])
        obtain ⟨z0, hz⟩ : ∃ z, z = x.1.op := ⟨_, rfl⟩
        clear RR hx HTV hz
        go_wp2_with (first | (at_builtin; refine wpList_append_lies _ rfl _ _ 65 rfl w.heap.size 142 i0 _ 6 96 Tryz.underlying65 hi0 hz0 hz1 hz2 rfl (by omega) (.slice va (xs.length + k) vc) (xs.length + k) (eisC (xs ++ ys.take k)) rfl (hO.alloc _) ⟨wr.heap.size, 0, none⟩ 1 1 [Value.int .i64 x.1.op, Value.int .i64 x.1.num, Value.string x.1.md, Value.string x.1.nm, Value.slice x.2.np.a x.1.ns.length x.2.np.c, Value.slice ta tn tc] rfl rfl (World.news_of_block (cs := #[Value.int .i64 x.1.op, Value.int .i64 x.1.num, Value.string x.1.md, Value.string x.1.nm, Value.slice x.2.np.a x.1.ns.length x.2.np.c, Value.slice ta tn tc]) (t := 142) (fr := (0, 0)) (heap_alloc_new wr _)) (by simp [Value.oneCell']) (by omega) (by unfold maxLen; omega) (by omega) (by simp only [World.size_alloc]; omega) (wr.heap.size + 1) (by simp) ?_; intro gg cap3 w5 hown3 hg3 hat3 hlt3))
        have HN : Hid (Below w.heap.size w w5) := below_grown HW.out hg3 (fun b e => (hO.lt b e).1)
        refine ⟨⟨k + 1, by omega, by go_num, ?_, HN⟩, by simp [intOf]; omega⟩
        rw [HX.out, ← List.append_assoc, eisC_snoc]
        rw [HCX.out]; exact hown3
      have hkn : k = ys.length := by omega
      subst hkn
      have HF : Hid (RE B wr (.slice va (xs.length + ys.length) vc) (xs ++ ys)) := by
        rw [List.take_length] at hO
        refine ⟨by rw [List.length_append]; exact own_mono hO hB, fun x hx => ?_⟩
        rcases List.mem_append.1 hx with z | z
        · exact (H1.out.below HW.out).ok x z
        · exact (H2.out.below HW.out).ok x z
      clear hO
      go_wp2
      go_ret
      exact ⟨⟨_, _, _, rfl, HF⟩, HW⟩

end Go.Proofs.YtmcbmcjbgjnbhaaGreatDoor

namespace Go.Proofs.YtmcbmcjbgjnbhaaGreatDoor
open Go.RowKit

theorem kp_set {W : World} {X n : Nat} {t : TypeId} {f : Nat → Value} (R : W.rowIs X t n f) (k : Nat) (v : Value) : Kp t W (W.setCell ⟨X, k, none⟩ v) := fun b c t' fr hb hne => by
  refine Below.heap_setCell _ _ _ _ ?_
  show b ≠ X
  rintro rfl
  obtain ⟨c', hc', _⟩ := R
  rw [hc'] at hb
  simp only [Option.some.injEq, Obj.cells.injEq] at hb
  exact hne hb.2.1.symm

def sts (ns : List ByteArray) : List Value := ns.flatMap fun s => [.string s]
theorem sts_snoc (ns : List ByteArray) (s : ByteArray) : sts (ns ++ [s]) = sts ns ++ [.string s] := by simp [sts]
theorem sts_len (s : ByteArray) : ([Value.string s]).length = 1 := rfl

theorem nm_of_own {B : Nat} {w : World} {va : Option Addr} {n c : Nat} {ns : List ByteArray} (hn : n = ns.length) (h : w.ownsRow B 9 1 (.slice va n c) n (sts ns)) : ∃ g, NmOK B w ns ⟨va, g, c⟩ := by
  subst hn
  by_cases hne : ns = []
  · exact ⟨0, by rw [hne]; exact NmOK.nil _ _ _⟩
  · have hpos : 0 < ns.length := List.length_pos_iff.2 hne
    obtain ⟨h1, h2⟩ := h
    rcases h2 with ⟨_, h3⟩ | ⟨g, cap, cur, hv, hb, hh, hc, hm, hs, ht⟩
    · omega
    · simp only [Value.slice.injEq] at hv
      obtain ⟨rfl, -, rfl⟩ := hv
      refine ⟨g, fun _ => ⟨rfl, hb, cur.size, fun j => cur[j]?.getD default, ⟨cur, hh, rfl, fun i hi => ?_⟩, by omega, fun j hj => ?_⟩⟩
      · show cur[i]? = some (cur[i]?.getD default)
        rw [Array.getElem?_eq_getElem hi]; rfl
      · have e1 : (sts ns)[j]? = some (.string (ns.getD j e0)) := by
          have := flat_get (fun s : ByteArray => [Value.string s]) 1 sts_len ns j 0 hj (by omega)
          rw [Nat.mul_one, Nat.add_zero] at this
          unfold sts
          rw [this, List.getD_eq_getElem?_getD, List.getElem?_eq_getElem hj]; rfl
        rw [← ht, List.getElem?_take, if_pos (by omega)] at e1
        have e2 : cur[j]? = some (.string (ns.getD j e0)) := by rw [← e1]; simp
        show cur[j]?.getD default = _
        rw [e2]; rfl

/-- A token of one class has no text of another. -/
theorem isC_isT {w : World} {tb o : Nat} {ts : List TK} (h : TkAt w tb o ts) {i : Nat} {c : Int} {s : List UInt8} (hc : isC ts i c = true) (hs : cls s ≠ c) : isT ts i s = false := by
  have hi := isC_lt hc
  rw [isC_at hi] at hc
  have e : (tkA ts i).cls = c := by simpa using hc
  rw [h.gd i hi] at e
  rw [isT_at hi, beq_eq_false_iff_ne]
  intro z
  rw [ByteArray.toList_eq, z] at e
  exact hs e

theorem m_isb {tb o c : Nat} {ao : Option Addr} {ts : List TK} {w : World} (h : MS w tb o ao ts) {a : Int} {i : Nat} (ha : a = i) {s : ByteArray} {l : List UInt8} {b : Bool} (hb : isT ts i l = b) (hl : s.data.toList = l) (hs : cls l = 2 ∨ cls l = 4) :
    Calls Tryz.prog 52 #[.slice ao ts.length c, .int .i64 a, .string s] w fun e w' => e = .returned (.bool b) ∧ w = w' := by
  subst hl hb
  exact m_is w h ha (by rw [ByteArray.toList_eq]; exact hs)
theorem m_isN {tb o c : Nat} {ao : Option Addr} {ts : List TK} {w : World} (h : MS w tb o ao ts) {a : Int} {i : Nat} (ha : a = i) {b : Bool} (hb : isC ts i 1 = b) :
    Calls Tryz.prog 72 #[.slice ao ts.length c, .int .i64 a] w fun e w' => e = .returned (.bool b) ∧ w = w' := by
  subst hb
  exact m_isName w h ha

set_option maxRecDepth 100000 in
theorem m_twice (w : World) {B : Nat} {va : Option Addr} {n c : Nat} {ns : List ByteArray} (hn : n = ns.length) (h : w.ownsRow B 9 1 (.slice va n c) n (sts ns)) (hl : n ≤ 100000) (s : ByteArray) {b : Bool} (hb : hasN ns s = b) :
    Calls Tryz.prog 23 #[.slice va n c, .string s] w fun e w' => e = .returned (.bool b) ∧ w = w' := by
  have HN : Hid (n = ns.length) := hn
  have HB : Hid (hasN ns s = b) := hb
  have HC : Hid (∀ k (hk : k < ns.length), ∃ g, va = some ⟨g, 0, none⟩ ∧ w.cell? ⟨g, k, none⟩ = some (.string ns[k])) := fun k hk => by
    subst hn
    obtain ⟨g, gc, ev, _⟩ := own_blk h (show 0 < ns.length by omega)
    simp only [Value.slice.injEq] at ev
    obtain ⟨rfl, -, rfl⟩ := ev
    have := own_at (f := fun s : ByteArray => [Value.string s]) sts_len h rfl (j := k) (r := 0) hk (by omega) rfl
    rw [Nat.mul_one, Nat.add_zero] at this
    exact ⟨g, rfl, this⟩
  clear hn hb h
  go_enter Tryz.func23, Tryz.ntmps23
  go_wp2
  go_loopw [5] (fun i wr => ∃ k : Nat, k ≤ n ∧ i = .int .i64 k ∧ wr = w ∧ Hid (∀ j (hj : j < ns.length), j < k → (ns[j].toList == s.toList) = false)) (fun i _ => n - (intOf i).toNat)
  case atStart => exact ⟨0, Nat.zero_le _, rfl, rfl, fun j _ hj => absurd hj (Nat.not_lt_zero _)⟩
  case round =>
    obtain ⟨k, hk, rfl, rfl, HF⟩ := hrel
    by_cases hlt : k < n
    · have hlt' : k < ns.length := by have := HN.out; omega
      obtain ⟨g, rfl, ck⟩ := HC.out k hlt'
      obtain ⟨x, hx⟩ : ∃ x, x = ns[k] := ⟨_, rfl⟩
      rw [← hx] at ck
      cases r : (x.toList == s.toList)
      · have HR : Hid ((ns[k].toList == s.toList) = false) := by show _ = _; rw [← hx]; exact r
        clear hx
        go_wp2
        refine ⟨⟨k + 1, by omega, by go_num, trivial, fun j hj hjk => ?_⟩, by simp [intOf]; omega⟩
        by_cases e : j = k
        · subst e; exact HR.out
        · exact HF.out j hj (by omega)
      · have HR : Hid (true = b) := by
          show _ = _
          rw [← HB.out]
          unfold hasN
          refine (List.any_eq_true.2 ⟨x, by rw [hx]; exact List.getElem_mem hlt', ?_⟩).symm
          rw [← ByteArray.toList_eq, ← ByteArray.toList_eq]; exact r
        clear hx
        go_wp2
        go_ret
        exact ⟨by rw [← HR.out]; rfl, rfl⟩
    · have hkn : k = n := by omega
      subst hkn
      have HR : Hid (false = b) := by
        show _ = _
        rw [← HB.out]
        unfold hasN
        refine (List.any_eq_false.2 fun x hx => ?_).symm
        obtain ⟨j, hj, rfl⟩ := List.mem_iff_getElem.1 hx
        have := HF.out j hj (by have := HN.out; omega)
        rw [← ByteArray.toList_eq, ← ByteArray.toList_eq, this]; exact Bool.false_ne_true
      go_wp2
      go_ret
      exact ⟨by rw [← HR.out]; rfl, rfl⟩

end Go.Proofs.YtmcbmcjbgjnbhaaGreatDoor

namespace Go.Proofs.YtmcbmcjbgjnbhaaGreatDoor
open Go.RowKit

/-- What comes of a reader of types of the model's. -/
def MTR (w : World) (r : Option (List TI × Nat)) (e : Ending) (w' : World) : Prop := Below w.heap.size w w' ∧ match r with
  | none => ∃ a n c, e = .returned (.agg #[.slice a n c, .int .i64 (-1)])
  | some (l, j) => ∃ a n c k zs, e = .returned (.agg #[.slice a n c, .int .i64 k]) ∧ k = (j : Int) ∧ RT w.heap.size w' (.slice a n c) zs ∧ zs.map Prod.fst = l

/-- The model's reader of types, of this fuel. -/
def MTC (tb o : Nat) (ts : List TK) (f : Nat) : Prop := ∀ (w : World) (ao : Option Addr) (c : Nat) (a : Int) (i : Nat), MS w tb o ao ts → a = i → ts.length - i < f → i ≤ 1100 → Calls Tryz.prog 73 #[.slice ao ts.length c, .int .i64 a] w (MTR w (tyP false ts f i))

theorem below_box {w w1 : World} (h : Below w.heap.size w w1) (a b : Value) : Below w.heap.size w ((w1.setCell ⟨w.heap.size, 0, none⟩ a).setCell ⟨w.heap.size, 1, none⟩ b) :=
  ⟨h.os, h.tape, h.output, by rw [World.size_setCell, World.size_setCell]; exact h.size, fun k hk => by
    rw [Below.heap_setCell _ _ _ _ (by show k ≠ w.heap.size; omega), Below.heap_setCell _ _ _ _ (by show k ≠ w.heap.size; omega)]
    exact h.block k hk⟩

abbrev bxT (w : World) : World := w.alloc (.cells #[.slice none 0 0, .int .i64 0] 120)

set_option maxRecDepth 100000 in
theorem mb_int {tb o c : Nat} {ao : Option Addr} {ts : List TK} {T : Nat → Option (List TI × Nat)} (w : World) (h : MS w tb o ao ts) {i : Nat} (hi9 : i ≤ 1100) (hc : isC ts i 1 = false) (q0 : isT ts i sInt = true) :
    Calls Tryz.prog 88 #[.slice ao ts.length c, .int .i64 (i : Int)] w (MTR w (baseP false ts T i)) := by
  have HR : Hid (baseP false ts T i = some ([tyO 1], i + 1)) := by
    show _ = _
    unfold baseP
    rw [hc, if_neg (by decide), if_pos q0]
  have HMS : Hid (MS (bxT w) tb o ao ts) := h.below (bel1 _ _)
  have HI : Hid (i ≤ 1100) := hi9
  clear h hc
  go_enter Tryz.func88, Tryz.ntmps88
  go_wp2_with fail
  refine (m_isb HMS.out (i := i) (rfl) (l := sInt) q0 rfl (by decide)).mono ?_
  rintro e w' ⟨rfl, rfl⟩
  go_wp2
  have R := (row2 w (.slice (some ⟨w.heap.size + 1, 0, none⟩) 1 1) (.int .i64 ((i : Int) + 1)) 120).alloc (.cells #[.int .i64 1, .string ⟨#[]⟩, .string ⟨#[]⟩, .slice none 0 0] 139)
  have L := rt_lit (w.alloc (.cells #[.slice (some ⟨w.heap.size + 1, 0, none⟩) 1 1, .int .i64 ((i : Int) + 1)] 120)) (B := w.heap.size) (by simp) 1 ⟨#[]⟩ ⟨#[]⟩
  simp only [World.size_alloc] at L
  refine bodyPost_ret (ret_ty (k := 4) rfl (R.cell (i := 0) (by omega)) (R.cell (i := 1) (by omega)) _ rfl) rfl ?_
  rw [HR.out]
  exact ⟨(bel1 _ _).alloc (by simp) _, some ⟨w.heap.size + 1, 0, none⟩, 1, 1, _, _, rfl, by omega, L, rfl⟩

set_option maxRecDepth 100000 in
theorem mb_bool {tb o c : Nat} {ao : Option Addr} {ts : List TK} {T : Nat → Option (List TI × Nat)} (w : World) (h : MS w tb o ao ts) {i : Nat} (hi9 : i ≤ 1100) (hc : isC ts i 1 = false) (q0 : isT ts i sInt = false) (q1 : isT ts i sBool = true) :
    Calls Tryz.prog 88 #[.slice ao ts.length c, .int .i64 (i : Int)] w (MTR w (baseP false ts T i)) := by
  have HR : Hid (baseP false ts T i = some ([tyO 2], i + 1)) := by
    show _ = _
    unfold baseP
    rw [hc, if_neg (by decide), q0, if_neg (by decide), if_pos q1]
  have HMS : Hid (MS (bxT w) tb o ao ts) := h.below (bel1 _ _)
  have HI : Hid (i ≤ 1100) := hi9
  clear h hc
  go_enter Tryz.func88, Tryz.ntmps88
  go_wp2_with fail
  refine (m_isb HMS.out (i := i) (rfl) (l := sInt) q0 rfl (by decide)).mono ?_
  rintro e w' ⟨rfl, rfl⟩
  go_wp2_with fail
  refine (m_isb HMS.out (i := i) (rfl) (l := sBool) q1 rfl (by decide)).mono ?_
  rintro e w' ⟨rfl, rfl⟩
  go_wp2
  have R := (row2 w (.slice (some ⟨w.heap.size + 1, 0, none⟩) 1 1) (.int .i64 ((i : Int) + 1)) 120).alloc (.cells #[.int .i64 2, .string ⟨#[]⟩, .string ⟨#[]⟩, .slice none 0 0] 139)
  have L := rt_lit (w.alloc (.cells #[.slice (some ⟨w.heap.size + 1, 0, none⟩) 1 1, .int .i64 ((i : Int) + 1)] 120)) (B := w.heap.size) (by simp) 2 ⟨#[]⟩ ⟨#[]⟩
  simp only [World.size_alloc] at L
  refine bodyPost_ret (ret_ty (k := 4) rfl (R.cell (i := 0) (by omega)) (R.cell (i := 1) (by omega)) _ rfl) rfl ?_
  rw [HR.out]
  exact ⟨(bel1 _ _).alloc (by simp) _, some ⟨w.heap.size + 1, 0, none⟩, 1, 1, _, _, rfl, by omega, L, rfl⟩

set_option maxRecDepth 100000 in
theorem mb_any {tb o c : Nat} {ao : Option Addr} {ts : List TK} {T : Nat → Option (List TI × Nat)} (w : World) (h : MS w tb o ao ts) {i : Nat} (hi9 : i ≤ 1100) (hc : isC ts i 1 = false) (q0 : isT ts i sInt = false) (q1 : isT ts i sBool = false) (q2 : isT ts i sAny = true) :
    Calls Tryz.prog 88 #[.slice ao ts.length c, .int .i64 (i : Int)] w (MTR w (baseP false ts T i)) := by
  have HR : Hid (baseP false ts T i = some ([tyO 3], i + 1)) := by
    show _ = _
    unfold baseP
    rw [hc, if_neg (by decide), q0, if_neg (by decide), q1, if_neg (by decide), if_pos q2]
  have HMS : Hid (MS (bxT w) tb o ao ts) := h.below (bel1 _ _)
  have HI : Hid (i ≤ 1100) := hi9
  clear h hc
  go_enter Tryz.func88, Tryz.ntmps88
  go_wp2_with fail
  refine (m_isb HMS.out (i := i) (rfl) (l := sInt) q0 rfl (by decide)).mono ?_
  rintro e w' ⟨rfl, rfl⟩
  go_wp2_with fail
  refine (m_isb HMS.out (i := i) (rfl) (l := sBool) q1 rfl (by decide)).mono ?_
  rintro e w' ⟨rfl, rfl⟩
  go_wp2_with fail
  refine (m_isb HMS.out (i := i) (rfl) (l := sAny) q2 rfl (by decide)).mono ?_
  rintro e w' ⟨rfl, rfl⟩
  go_wp2
  have R := (row2 w (.slice (some ⟨w.heap.size + 1, 0, none⟩) 1 1) (.int .i64 ((i : Int) + 1)) 120).alloc (.cells #[.int .i64 3, .string ⟨#[]⟩, .string ⟨#[]⟩, .slice none 0 0] 139)
  have L := rt_lit (w.alloc (.cells #[.slice (some ⟨w.heap.size + 1, 0, none⟩) 1 1, .int .i64 ((i : Int) + 1)] 120)) (B := w.heap.size) (by simp) 3 ⟨#[]⟩ ⟨#[]⟩
  simp only [World.size_alloc] at L
  refine bodyPost_ret (ret_ty (k := 4) rfl (R.cell (i := 0) (by omega)) (R.cell (i := 1) (by omega)) _ rfl) rfl ?_
  rw [HR.out]
  exact ⟨(bel1 _ _).alloc (by simp) _, some ⟨w.heap.size + 1, 0, none⟩, 1, 1, _, _, rfl, by omega, L, rfl⟩

set_option maxRecDepth 100000 in
theorem mb_none {tb o c : Nat} {ao : Option Addr} {ts : List TK} {T : Nat → Option (List TI × Nat)} (w : World) (h : MS w tb o ao ts) {i : Nat} (hi9 : i ≤ 1100) (hc : isC ts i 1 = false) (q0 : isT ts i sInt = false) (q1 : isT ts i sBool = false) (q2 : isT ts i sAny = false) (q3 : isT ts i sLeft = false) (q4 : isT ts i sOpen = false) :
    Calls Tryz.prog 88 #[.slice ao ts.length c, .int .i64 (i : Int)] w (MTR w (baseP false ts T i)) := by
  have HR : Hid (baseP false ts T i = none) := by
    show _ = _
    unfold baseP
    rw [hc, if_neg (by decide), q0, if_neg (by decide), q1, if_neg (by decide), q2, if_neg (by decide), q4, if_neg (by decide), q3, if_neg (by decide)]
  have HMS : Hid (MS (bxT w) tb o ao ts) := h.below (bel1 _ _)
  have HI : Hid (i ≤ 1100) := hi9
  clear h
  go_enter Tryz.func88, Tryz.ntmps88
  go_wp2_with fail
  refine (m_isb HMS.out (i := i) (rfl) (l := sInt) q0 rfl (by decide)).mono ?_
  rintro e w' ⟨rfl, rfl⟩
  go_wp2_with fail
  refine (m_isb HMS.out (i := i) (rfl) (l := sBool) q1 rfl (by decide)).mono ?_
  rintro e w' ⟨rfl, rfl⟩
  go_wp2_with fail
  refine (m_isb HMS.out (i := i) (rfl) (l := sAny) q2 rfl (by decide)).mono ?_
  rintro e w' ⟨rfl, rfl⟩
  go_wp2_with fail
  refine (m_isN HMS.out (i := i) (rfl) hc).mono ?_
  rintro e w' ⟨rfl, rfl⟩
  go_wp2_with fail
  refine (m_isb HMS.out (i := i) (rfl) (l := sLeft) q3 rfl (by decide)).mono ?_
  rintro e w' ⟨rfl, rfl⟩
  go_wp2_with fail
  refine (m_isb HMS.out (i := i) (rfl) (l := sOpen) q4 rfl (by decide)).mono ?_
  rintro e w' ⟨rfl, rfl⟩
  go_wp2_with fail
  refine (m_noType _).mono ?_
  rintro e w1 ⟨⟨va, n, c', rfl⟩, hb1⟩
  have R := (row2 w (.slice none 0 0) (.int .i64 0) 120).of_block (hb1.out.block _ (by simp))
  have d0 := R.cell (i := 0) (by omega)
  have d1 := R.cell (i := 1) (by omega)
  have z0 := R.frozen 0
  have z1 := R.frozen 1
  go_wp2
  have R2 := (R.set 0 (.slice va n c')).set 1 (.int .i64 (-1))
  refine bodyPost_ret (ret_ty (k := 4) rfl (R2.cell (i := 0) (by omega)) (R2.cell (i := 1) (by omega)) _ rfl) rfl ?_
  rw [HR.out]
  exact ⟨below_box ((bel1 _ _).trans (hb1.out.mono (by simp))) _ _, va, n, c', rfl⟩

end Go.Proofs.YtmcbmcjbgjnbhaaGreatDoor

