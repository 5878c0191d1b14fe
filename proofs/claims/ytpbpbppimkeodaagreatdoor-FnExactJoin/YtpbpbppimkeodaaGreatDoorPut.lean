/-
  The parts' put, walked.
-/
import Derived.Test.YtpbpbppimkeodaaGreatDoorPt
namespace Go.Proofs.YtpbpbppimkeodaaGreatDoor
open Go.RowKit Go.Maps

theorem own_some {w : World} {base : Nat} {e : TypeId} {v : Value} {n : Nat} {xs : List Value} (h : w.ownsRow base e 1 v n xs) (hn : 0 < n) : ∃ g cap, v = .slice (some ⟨g, 0, none⟩) n cap ∧ (∀ j, j < n → w.cell? ⟨g, j, none⟩ = xs[j]?) ∧ (∀ j, w.frozen? ⟨g, j, none⟩ = false) ∧ g < w.heap.size := by
  rcases h.2 with ⟨_, h0⟩ | ⟨g, cap, cur, hv, hb, hh, r⟩
  · omega
  · subst hv
    exact ⟨g, cap, rfl, fun j hj => h.cellAt j (by omega), fun j => h.frozenAt j, (Array.getElem?_eq_some_iff.1 hh).1⟩

set_option maxRecDepth 100000 in
set_option maxHeartbeats 4000000 in
theorem c97 (base pb bo ba N : Nat) (rv wv qv : Value) (rvs : Nat → Value) (s : PS) (node part : Nat) (w : World) (h : Pt w base pb bo ba N rv wv qv rvs s) (hn : node < N) (hp : part < s.nr) (_hN : N ≤ 1048576) (hr : s.nr ≤ 1048576) (hl : (s.rows part).length ≤ 1048576) :
    Calls Tryz.prog 104 #[.pointer (some ⟨pb, 0, none⟩), .int .i64 (node : Int), .int .i64 (part : Int)] w fun e w' => e = .returned (.tuple #[]) ∧ ∃ v', Pt w' base pb bo ba N rv wv qv (upd rvs part v') { s with of := upd s.of node part, loc := upd s.loc node (s.rows part).length, rows := upd s.rows part (s.rows part ++ [node]) } ∧ Fr base w w' (pblk pb bo ba rv wv qv rvs s.nr) (pblk pb bo ba rv wv qv (upd rvs part v') s.nr) := by
  obtain ⟨rb, capR, rfl, hrc, hrf, hrl⟩ := own_some h.rows (by omega)
  obtain ⟨oa, cap, hv⟩ := own_form (h.inner part hp)
  obtain ⟨L, hL⟩ : ∃ L, L = (s.rows part).length := ⟨_, rfl⟩
  have HL : Hid (L = (s.rows part).length) := hL
  rw [← hL] at hv hl
  have HV : Hid (rvs part = .slice oa L cap) := hv
  have HH : Hid (Pt w base pb bo ba N (.slice (some ⟨rb, 0, none⟩) s.nr capR) wv qv rvs s) := h
  have r0 : w.cell? ⟨pb, 0, none⟩ = some (.slice (some ⟨bo, 0, none⟩) N N) := h.row.cell (i := 0) (by omega)
  have r1 : w.cell? ⟨pb, 1, none⟩ = some (.slice (some ⟨rb, 0, none⟩) s.nr capR) := h.row.cell (i := 1) (by omega)
  have r2 : w.cell? ⟨pb, 2, none⟩ = some (.slice (some ⟨ba, 0, none⟩) N N) := h.row.cell (i := 2) (by omega)
  have c0 := h.of_.cell hn
  have c1 := h.of_.frozen node
  have d0 := h.loc_.cell hn
  have d1 := h.loc_.frozen node
  have x0 : w.cell? ⟨rb, part, none⟩ = some (.slice oa L cap) := by rw [hrc part hp]; simp [hp, hv]
  have x1 := hrf part
  have n1 : pb ≠ bo := fun e => by have := h.dis 0 1 pb rfl (by show some bo = some pb; rw [e]); omega
  have n2 : pb ≠ ba := fun e => by have := h.dis 0 2 pb rfl (by show some ba = some pb; rw [e]); omega
  have n3 : ba ≠ bo := fun e => by have := h.dis 2 1 ba rfl (by show some bo = some ba; rw [e]); omega
  have n4 : rb ≠ bo := fun e => by have := h.dis 3 1 rb rfl (by show some bo = some rb; rw [e]); omega
  have n5 : rb ≠ ba := fun e => by have := h.dis 3 2 rb rfl (by show some ba = some rb; rw [e]); omega
  have n6 : rb ≠ pb := fun e => by have := h.dis 3 0 rb rfl (by show some pb = some rb; rw [e]); omega
  clear h hrc hrf hL hv
  go_enter Tryz.func104, Tryz.ntmps104
  go_wp2_with fail
  obtain ⟨wa, hwa⟩ : ∃ wa, wa = w.setCell ⟨bo, node, none⟩ (.int .i64 (part : Int)) := ⟨_, rfl⟩
  have a1 : wa.cell? ⟨pb, 1, none⟩ = some (.slice (some ⟨rb, 0, none⟩) s.nr capR) := by rw [hwa, far_cell (by show pb ≠ bo; exact n1)]; exact r1
  have a2 : wa.cell? ⟨pb, 2, none⟩ = some (.slice (some ⟨ba, 0, none⟩) N N) := by rw [hwa, far_cell (by show pb ≠ bo; exact n1)]; exact r2
  have a3 : wa.cell? ⟨rb, part, none⟩ = some (.slice oa L cap) := by rw [hwa, far_cell (by show rb ≠ bo; exact n4)]; exact x0
  have a4 : wa.cell? ⟨ba, node, none⟩ = some (.int .i64 (s.loc node : Int)) := by rw [hwa, far_cell (by show ba ≠ bo; exact n3)]; exact d0
  have a5 : wa.frozen? ⟨ba, node, none⟩ = false := by rw [hwa, World.frozen?_of_block (w := w) (Below.heap_setCell _ _ _ _ (by show ba ≠ bo; exact n3))]; exact d1
  have b1 : (wa.setCell ⟨ba, node, none⟩ (.int .i64 (L : Int))).cell? ⟨pb, 1, none⟩ = some (.slice (some ⟨rb, 0, none⟩) s.nr capR) := by rw [far_cell (by show pb ≠ ba; exact n2)]; exact a1
  have b2 : (wa.setCell ⟨ba, node, none⟩ (.int .i64 (L : Int))).cell? ⟨pb, 2, none⟩ = some (.slice (some ⟨ba, 0, none⟩) N N) := by rw [far_cell (by show pb ≠ ba; exact n2)]; exact a2
  have b3 : (wa.setCell ⟨ba, node, none⟩ (.int .i64 (L : Int))).cell? ⟨rb, part, none⟩ = some (.slice oa L cap) := by rw [far_cell (by show rb ≠ ba; exact n5)]; exact a3
  have b6 : (wa.setCell ⟨ba, node, none⟩ (.int .i64 (L : Int))).frozen? ⟨rb, part, none⟩ = false := by rw [World.frozen?_of_block (w := wa) (Below.heap_setCell _ _ _ _ (by show rb ≠ ba; exact n5)), hwa, World.frozen?_of_block (w := w) (Below.heap_setCell _ _ _ _ (by show rb ≠ bo; exact n4))]; exact x1
  rw [← hwa]
  have HWA : Hid (wa = w.setCell ⟨bo, node, none⟩ (.int .i64 (part : Int))) := hwa
  have hi1 : (node : Int) < (N : Int) := by omega
  have hi2 : (part : Int) < (s.nr : Int) := by omega
  clear r0 r1 r2 c0 c1 d0 d1 x0 x1 hwa
  go_region_held3 (fun w' => w'.cell? ⟨pb, 1, none⟩ = some (.slice (some ⟨rb, 0, none⟩) s.nr capR) ∧ w'.cell? ⟨pb, 2, none⟩ = some (.slice (some ⟨ba, 0, none⟩) N N) ∧ w'.cell? ⟨rb, part, none⟩ = some (.slice oa L cap)) (go_keep) (fail)
  all_goals
    obtain ⟨wb, hwb⟩ : ∃ wb, wb = wa.setCell ⟨ba, node, none⟩ (.int .i64 (L : Int)) := ⟨_, rfl⟩
    have HWB : Hid (wb = wa.setCell ⟨ba, node, none⟩ (.int .i64 (L : Int))) := hwb
    have hsz : Hid (wb.heap.size = w.heap.size) := by show _ = _; rw [hwb, HWA.out]; simp [World.setCell]
    have PP : pblk pb bo ba (.slice (some ⟨rb, 0, none⟩) s.nr capR) wv qv rvs s.nr (part + 6) = (Value.slice oa L cap).ownBlock := by simp only [pblk]; rw [if_pos hp, HV.out]
    have OWN : wb.ownsRow base 3 1 (.slice oa L cap) L (icells (s.rows part)) := by
      have h := HH.out.inner part hp
      rw [HV.out, ← HL.out] at h
      refine own_block h (fun x e => ?_)
      rw [hwb, HWA.out, Below.heap_setCell _ _ _ _ (by show x ≠ ba; exact fun q => by have := HH.out.dis (part + 6) 2 x (by rw [PP]; exact e.symm) (by show some ba = some x; rw [q]); omega), Below.heap_setCell _ _ _ _ (by show x ≠ bo; exact fun q => by have := HH.out.dis (part + 6) 1 x (by rw [PP]; exact e.symm) (by show some bo = some x; rw [q]); omega)]
    have np : some pb ≠ (Value.slice oa L cap).ownBlock := fun e => by have := HH.out.dis 0 (part + 6) pb rfl (by rw [PP]; exact e.symm); omega
    have nr : some rb ≠ (Value.slice oa L cap).ownBlock := fun e => by have := HH.out.dis 3 (part + 6) rb rfl (by rw [PP]; exact e.symm); omega
    have lp : pb < wb.heap.size := by rw [hsz.out]; exact HH.out.row.lt
    have lr : rb < wb.heap.size := by rw [hsz.out]; exact hrl
    have hbase : base ≤ wb.heap.size := by rw [hsz.out]; exact HH.out.big.2.2.2
    rw [← hwb] at b1 b2 b3 b6 ⊢
    have f1 : (wb.alloc (.cells #[.int .i64 (node : Int)] 3)).cell? ⟨pb, 1, none⟩ = some (.slice (some ⟨rb, 0, none⟩) s.nr capR) := (World.cell?_of_block (w := wb) (Below.heap_alloc _ _ _ lp)).trans b1
    have f3 : (wb.alloc (.cells #[.int .i64 (node : Int)] 3)).cell? ⟨rb, part, none⟩ = some (.slice oa L cap) := (World.cell?_of_block (w := wb) (Below.heap_alloc _ _ _ lr)).trans b3
    obtain ⟨i0, hi0, hz0, hz1, hz2⟩ := info_parts Tryz.info3
    clear hwb a1 a2 a3 a4 a5 PP
    go_wp2_with fail
    go_region_law (refine step_append_lies _ (by rfl) _ _ _ (by rfl) base 3 i0 (.int .i64 0) 1 8 Tryz.underlying25 hi0 hz0 hz1 hz2 rfl (by omega) (.slice oa L cap) L (icells (s.rows part)) (by rfl) (by exact OWN.alloc _) ⟨wb.heap.size, 0, none⟩ 1 1 [.int .i64 (node : Int)] (by rfl) (by rfl) (World.news_of_block (cs := #[.int .i64 (node : Int)]) (t := 3) (fr := (0, 0)) (heap_alloc_new wb _)) (by simp [Value.oneCell']) (by omega) (by unfold maxLen; omega) (by omega) (by simp; omega) (wb.heap.size + 1) (by simp) ?_; intro gg cap3 w3 hown3 hg3 hat hlt3; have y1 : w3.cell? ⟨pb, 1, none⟩ = some (.slice (some ⟨rb, 0, none⟩) s.nr capR) := (hg3.cell_far ⟨pb, 1, none⟩ (by simp; omega) np).trans f1; have y3 : w3.cell? ⟨rb, part, none⟩ = some (.slice oa L cap) := (hg3.cell_far ⟨rb, part, none⟩ (by simp; omega) nr).trans f3; have y4 : w3.frozen? ⟨rb, part, none⟩ = false := (World.frozen?_of_block (w := wb) ((hg3.block rb (by simp; omega) nr).trans (Below.heap_alloc _ _ _ lr))).trans b6)
    all_goals
      have FIN := Pt.put (o2 := .cells #[.int .i64 (node : Int)] 3) HH.out hp HL.out HV.out hown3 (by
        have h : (wb.alloc (.cells #[.int .i64 (node : Int)] 3)).grownBy w3 (Value.slice oa L cap).ownBlock := ⟨hg3.os, hg3.tape, hg3.output, hg3.size, hg3.block⟩
        rw [HWB.out, HWA.out] at h; exact h) (by rw [hsz.out] at hat; exact hat)
      rw [HL.out] at FIN
      have FH : Hid _ := FIN
      clear FIN hown3 hg3 hat y1 y3 y4 f1 f3 b1 b2 b3 b6 OWN
      go_wp2
      exact bodyPost_end (v := .tuple #[]) (by simp [results, Tryz.results104]) rfl ⟨rfl, .slice (some ⟨gg, 0, none⟩) ((s.rows part).length + 1) cap3, by rw [HL.out]; exact FH.out⟩

end Go.Proofs.YtpbpbppimkeodaaGreatDoor
