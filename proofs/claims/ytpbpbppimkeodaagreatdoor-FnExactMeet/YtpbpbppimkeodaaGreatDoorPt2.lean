/-
  A part more.
-/
import Derived.Test.YtpbpbppimkeodaaGreatDoorWait
namespace Go.Proofs.YtpbpbppimkeodaaGreatDoor
open Go.RowKit Go.Maps

theorem pblk_add {pb bo ba nr : Nat} {rv wv qv rv' wv' : Value} {rvs : Nat → Value} : ∀ i, pblk pb bo ba rv' wv' qv (upd rvs nr (.slice none 0 0)) (nr + 1) i = if i = 4 then wv'.ownBlock else if i = 3 then rv'.ownBlock else pblk pb bo ba rv wv qv rvs nr i
  | 0 => rfl
  | 1 => rfl
  | 2 => rfl
  | 3 => rfl
  | 4 => rfl
  | 5 => rfl
  | i + 6 => by
    rw [if_neg (show ¬ i + 6 = 4 by omega), if_neg (show ¬ i + 6 = 3 by omega)]
    simp only [pblk]
    by_cases e : i = nr
    · subst e
      rw [if_pos (by omega), upd_same, if_neg (by omega)]; rfl
    · rw [upd_other rvs _ e]
      by_cases q : i < nr
      · rw [if_pos (by omega), if_pos q]
      · rw [if_neg (by omega), if_neg q]

theorem map_snoc {α : Type} (f : Nat → α) (n : Nat) (v : α) : (List.range n).map f ++ [v] = (List.range (n + 1)).map (upd f n v) := by
  rw [List.range_succ, List.map_append]
  congr 1
  · refine List.map_congr_left (fun i hi => ?_)
    rw [upd_other f v (by have := List.mem_range.1 hi; omega)]
  · simp [upd_same]

theorem Pt.add {w w3 w5 : World} {base pb bo ba N capR capW gg cap3 g5 cap5 : Nat} {ra wa : Option Addr} {qv : Value} {rvs : Nat → Value} {s : PS} {o2 o4 : Obj}
    (h : Pt w base pb bo ba N (.slice ra s.nr capR) (.slice wa s.nr capW) qv rvs s)
    (hown3 : w3.ownsRow base 25 1 (.slice (some ⟨gg, 0, none⟩) (s.nr + 1) cap3) (s.nr + 1) ((List.range s.nr).map rvs ++ [.slice none 0 0]))
    (hg3 : (w.alloc o2).grownBy w3 (Value.slice ra s.nr capR).ownBlock) (hat3 : (Value.slice ra s.nr capR).ownBlock = some gg ∨ gg = w.heap.size + 1)
    (hown5 : w5.ownsRow base 4 1 (.slice (some ⟨g5, 0, none⟩) (s.nr + 1) cap5) (s.nr + 1) (((List.range s.nr).map fun i => Value.bool (s.waits i)) ++ [.bool false]))
    (hg5 : ((w3.setCell ⟨pb, 1, none⟩ (.slice (some ⟨gg, 0, none⟩) (s.nr + 1) cap3)).alloc o4).grownBy w5 (Value.slice wa s.nr capW).ownBlock) (hat5 : (Value.slice wa s.nr capW).ownBlock = some g5 ∨ g5 = w3.heap.size + 1) :
    Pt (w5.setCell ⟨pb, 3, none⟩ (.slice (some ⟨g5, 0, none⟩) (s.nr + 1) cap5)) base pb bo ba N (.slice (some ⟨gg, 0, none⟩) (s.nr + 1) cap3) (.slice (some ⟨g5, 0, none⟩) (s.nr + 1) cap5) qv (upd rvs s.nr (.slice none 0 0))
      { s with nr := s.nr + 1, rows := upd s.rows s.nr [], waits := upd s.waits s.nr false } ∧ Fr base w (w5.setCell ⟨pb, 3, none⟩ (.slice (some ⟨g5, 0, none⟩) (s.nr + 1) cap5)) (pblk pb bo ba (.slice ra s.nr capR) (.slice wa s.nr capW) qv rvs s.nr) (pblk pb bo ba (.slice (some ⟨gg, 0, none⟩) (s.nr + 1) cap3) (.slice (some ⟨g5, 0, none⟩) (s.nr + 1) cap5) qv (upd rvs s.nr (.slice none 0 0)) (s.nr + 1)) := by
  have z3 := hg3.size
  have z5 := hg5.size
  have e3 : (w.alloc o2).heap.size = w.heap.size + 1 := by simp
  have e4 : (w3.setCell ⟨pb, 1, none⟩ (.slice (some ⟨gg, 0, none⟩) (s.nr + 1) cap3)).heap.size = w3.heap.size := by simp [World.setCell]
  have e5 : ((w3.setCell ⟨pb, 1, none⟩ (.slice (some ⟨gg, 0, none⟩) (s.nr + 1) cap3)).alloc o4).heap.size = w3.heap.size + 1 := by rw [World.size_alloc, e4]
  have e6 : (w5.setCell ⟨pb, 3, none⟩ (.slice (some ⟨g5, 0, none⟩) (s.nr + 1) cap5)).heap.size = w5.heap.size := by simp [World.setCell]
  have P0 : pblk pb bo ba (.slice ra s.nr capR) (.slice wa s.nr capW) qv rvs s.nr 0 = some pb := rfl
  have P3 : pblk pb bo ba (.slice ra s.nr capR) (.slice wa s.nr capW) qv rvs s.nr 3 = (Value.slice ra s.nr capR).ownBlock := rfl
  have P4 : pblk pb bo ba (.slice ra s.nr capR) (.slice wa s.nr capW) qv rvs s.nr 4 = (Value.slice wa s.nr capW).ownBlock := rfl
  have lt := h.blk_lt
  have b3 : ∀ x, x < w.heap.size → some x ≠ (Value.slice ra s.nr capR).ownBlock → w3.heap[x]? = w.heap[x]? := fun x hx hn => (hg3.block x (by rw [e3]; omega) hn).trans (Below.heap_alloc _ _ _ hx)
  have b4 : ∀ x, x ≠ pb → (w3.setCell ⟨pb, 1, none⟩ (.slice (some ⟨gg, 0, none⟩) (s.nr + 1) cap3)).heap[x]? = w3.heap[x]? := fun x hx => Below.heap_setCell _ _ _ _ (by show x ≠ pb; exact hx)
  have b5 : ∀ x, x < w3.heap.size → some x ≠ (Value.slice wa s.nr capW).ownBlock → w5.heap[x]? = (w3.setCell ⟨pb, 1, none⟩ (.slice (some ⟨gg, 0, none⟩) (s.nr + 1) cap3)).heap[x]? := fun x hx hn => (hg5.block x (by rw [e5]; omega) hn).trans (Below.heap_alloc _ _ _ (by rw [e4]; exact hx))
  have b6 : ∀ x, x ≠ pb → (w5.setCell ⟨pb, 3, none⟩ (.slice (some ⟨g5, 0, none⟩) (s.nr + 1) cap5)).heap[x]? = w5.heap[x]? := fun x hx => Below.heap_setCell _ _ _ _ (by show x ≠ pb; exact hx)
  have no3 : ∀ i x, i ≠ 3 → pblk pb bo ba (.slice ra s.nr capR) (.slice wa s.nr capW) qv rvs s.nr i = some x → some x ≠ (Value.slice ra s.nr capR).ownBlock := fun i x hi hx e => hi (h.dis _ _ x hx (by rw [P3]; exact e.symm))
  have no4 : ∀ i x, i ≠ 4 → pblk pb bo ba (.slice ra s.nr capR) (.slice wa s.nr capW) qv rvs s.nr i = some x → some x ≠ (Value.slice wa s.nr capW).ownBlock := fun i x hi hx e => hi (h.dis _ _ x hx (by rw [P4]; exact e.symm))
  have key : ∀ i x, i ≠ 0 → i ≠ 3 → i ≠ 4 → pblk pb bo ba (.slice ra s.nr capR) (.slice wa s.nr capW) qv rvs s.nr i = some x → (w5.setCell ⟨pb, 3, none⟩ (.slice (some ⟨g5, 0, none⟩) (s.nr + 1) cap5)).heap[x]? = w.heap[x]? := fun i x h0 h3 h4 hx => by
    have np : x ≠ pb := fun e => h0 (h.dis _ _ x hx (by rw [P0, e]))
    have hl := (lt i x hx).2
    rw [b6 x np, b5 x (by omega) (no4 i x h4 hx), b4 x np, b3 x hl (no3 i x h3 hx)]
  have gp : gg ≠ pb := fun e => by
    rcases hat3 with q | q
    · rw [e] at q; have := h.dis 0 3 pb P0 (by rw [P3]; exact q); omega
    · have := (lt 0 pb P0).2; omega
  have gw : some gg ≠ (Value.slice wa s.nr capW).ownBlock := fun e => by
    rcases hat3 with q | q
    · have := h.dis 3 4 gg (by rw [P3]; exact q) (by rw [P4]; exact e.symm); omega
    · have := (lt 4 gg (by rw [P4]; exact e.symm)).2; omega
  have glt : gg < w3.heap.size := (hown3.lt gg rfl).2
  have g5p : g5 ≠ pb := fun e => by
    rcases hat5 with q | q
    · rw [e] at q; have := h.dis 0 4 pb P0 (by rw [P4]; exact q); omega
    · have := (lt 0 pb P0).2; omega
  have hbl3 : ∀ i x, (if i = 3 then some gg else pblk pb bo ba (.slice ra s.nr capR) (.slice wa s.nr capW) qv rvs s.nr i) = some x → x < w3.heap.size := fun i x e => by
    by_cases q : i = 3
    · rw [if_pos q] at e; cases e; exact glt
    · rw [if_neg q] at e; have := (lt i x e).2; omega
  have D3 := dis_piece (blk' := fun i => if i = 3 then some gg else pblk pb bo ba (.slice ra s.nr capR) (.slice wa s.nr capW) qv rvs s.nr i) (k := 3) (g := gg) (H := w.heap.size) h.dis (fun i x e => (lt i x e).2) (fun i => rfl) (by rcases hat3 with q | q; exact Or.inl q; exact Or.inr (by omega))
  have D4 := dis_piece (blk' := fun i => if i = 4 then some g5 else if i = 3 then some gg else pblk pb bo ba (.slice ra s.nr capR) (.slice wa s.nr capW) qv rvs s.nr i) (k := 4) (g := g5) (H := w3.heap.size) D3 hbl3 (fun i => rfl) (by rcases hat5 with q | q; exact Or.inl q; exact Or.inr (by omega))
  refine ⟨⟨?_, h.of_.of_block (key 1 bo (by omega) (by omega) (by omega) rfl), h.loc_.of_block (key 2 ba (by omega) (by omega) (by omega) rfl), ?_, fun i hi => ?_, ?_, own_block h.waiting (fun k e => key 5 k (by omega) (by omega) (by omega) e.symm), ?_, ⟨h.big.1, h.big.2.1, h.big.2.2.1, by have := h.big.2.2.2; rw [e6]; omega⟩⟩, ⟨⟨hg5.os.trans hg3.os, hg5.tape.trans hg3.tape, hg5.output.trans hg3.output, by rw [e6]; omega, fun k hk => ?_⟩, fun k hk hno => ?_, fun j x e => ?_⟩⟩
  · have lp := (lt 0 pb P0).2
    have r3 := h.row.of_block (w' := w3) (b3 pb lp (no3 0 pb (by omega) P0))
    have r5 := (r3.set 1 (.slice (some ⟨gg, 0, none⟩) (s.nr + 1) cap3)).of_block (w' := w5) (b5 pb (by omega) (no4 0 pb (by omega) P0))
    refine (r5.set 3 _).congr (fun i hi => ?_)
    match i, hi with
    | 0, _ => rfl
    | 1, _ => rfl
    | 2, _ => rfl
    | 3, _ => rfl
    | 4, _ => rfl
  · rw [map_snoc] at hown3
    exact own_block hown3 (fun k e => by
      have ek : k = gg := by simpa [Value.ownBlock] using e
      subst ek
      rw [b6 k gp, b5 k glt gw, b4 k gp])
  · have hi' : i < s.nr + 1 := hi
    show World.ownsRow _ base 3 1 (upd rvs s.nr _ i) (upd s.rows s.nr _ i).length (icells (upd s.rows s.nr _ i))
    by_cases e : i = s.nr
    · subst e
      rw [upd_same, upd_same]
      exact World.ownsRow_nil _ _ _ _
    · rw [upd_other rvs _ e, upd_other s.rows _ e]
      exact own_block (h.inner i (by omega)) (fun k q => key (i + 6) k (by omega) (by omega) (by omega) (by simp only [pblk]; rw [if_pos (show i < s.nr by omega)]; exact q.symm))
  · have : ((List.range s.nr).map fun i => Value.bool (s.waits i)) ++ [.bool false] = (List.range (s.nr + 1)).map fun i => .bool (upd s.waits s.nr false i) := by
      rw [map_snoc]
      refine List.map_congr_left (fun i _ => ?_)
      simp only [upd]
      by_cases e : i = s.nr
      · rw [if_pos e, if_pos e]
      · rw [if_neg e, if_neg e]
    rw [this] at hown5
    exact own_block hown5 (fun k e => by
      have ek : k = g5 := by simpa [Value.ownBlock] using e
      subst ek
      rw [b6 k g5p])
  · intro i j x hi hj
    have PA := fun i => pblk_add (pb := pb) (bo := bo) (ba := ba) (nr := s.nr) (rv := .slice ra s.nr capR) (wv := .slice wa s.nr capW) (qv := qv) (rv' := .slice (some ⟨gg, 0, none⟩) (s.nr + 1) cap3) (wv' := .slice (some ⟨g5, 0, none⟩) (s.nr + 1) cap5) (rvs := rvs) i
    have hi2 : (if i = 4 then some g5 else if i = 3 then some gg else pblk pb bo ba (.slice ra s.nr capR) (.slice wa s.nr capW) qv rvs s.nr i) = some x := (PA i).symm.trans hi
    have hj2 : (if j = 4 then some g5 else if j = 3 then some gg else pblk pb bo ba (.slice ra s.nr capR) (.slice wa s.nr capW) qv rvs s.nr j) = some x := (PA j).symm.trans hj
    exact D4 i j x hi2 hj2
  · have h0 := (lt 0 pb P0).1
    have hb := h.big.2.2.2
    rw [b6 k (by omega), b5 k (by omega) (fun e => by have := (lt 4 k (by rw [P4]; exact e.symm)).1; omega), b4 k (by omega), b3 k (by omega) (fun e => by have := (lt 3 k (by rw [P3]; exact e.symm)).1; omega)]
  · have np : k ≠ pb := fun e => hno 0 (by rw [P0, e])
    rw [b6 k np, b5 k (by omega) (fun e => hno 4 (by rw [P4]; exact e.symm)), b4 k np, b3 k hk (fun e => hno 3 (by rw [P3]; exact e.symm))]
  · have PA := pblk_add (pb := pb) (bo := bo) (ba := ba) (nr := s.nr) (rv := .slice ra s.nr capR) (wv := .slice wa s.nr capW) (qv := qv) (rv' := .slice (some ⟨gg, 0, none⟩) (s.nr + 1) cap3) (wv' := .slice (some ⟨g5, 0, none⟩) (s.nr + 1) cap5) (rvs := rvs) j
    rw [PA] at e
    by_cases q4 : j = 4
    · rw [if_pos q4] at e
      have : g5 = x := by simpa [Value.ownBlock] using e
      subst this
      rcases hat5 with z | z
      · exact Or.inl ⟨4, z⟩
      · exact Or.inr (by omega)
    · rw [if_neg q4] at e
      by_cases q3 : j = 3
      · rw [if_pos q3] at e
        have : gg = x := by simpa [Value.ownBlock] using e
        subst this
        rcases hat3 with z | z
        · exact Or.inl ⟨3, z⟩
        · exact Or.inr (by omega)
      · rw [if_neg q3] at e
        exact Or.inl ⟨j, e⟩


theorem Tryz.info25 : (Tryz.prog.info? 25).map (fun i => (i.zero, i.size, i.bytes)) = some (some (.slice none 0 0), 1, 24) := by kernel_rfl
theorem Tryz.info4 : (Tryz.prog.info? 4).map (fun i => (i.zero, i.size, i.bytes)) = some (some (.bool false), 1, 1) := by kernel_rfl

set_option maxRecDepth 100000 in
set_option maxHeartbeats 4000000 in
theorem c95 (base pb bo ba N : Nat) (rv wv qv : Value) (rvs : Nat → Value) (s : PS) (w : World) (h : Pt w base pb bo ba N rv wv qv rvs s) (hr : s.nr ≤ 1048576) :
    Calls Tryz.prog 102 #[.pointer (some ⟨pb, 0, none⟩)] w fun e w' => e = .returned (.int .i64 (s.nr : Int)) ∧ ∃ rv' wv', Pt w' base pb bo ba N rv' wv' qv (upd rvs s.nr (.slice none 0 0)) { s with nr := s.nr + 1, rows := upd s.rows s.nr [], waits := upd s.waits s.nr false } ∧ Fr base w w' (pblk pb bo ba rv wv qv rvs s.nr) (pblk pb bo ba rv' wv' qv (upd rvs s.nr (.slice none 0 0)) (s.nr + 1)) := by
  obtain ⟨ra, capR, rfl⟩ := own_form h.rows
  obtain ⟨wa, capW, rfl⟩ := own_form h.waits
  have HH : Hid (Pt w base pb bo ba N (.slice ra s.nr capR) (.slice wa s.nr capW) qv rvs s) := h
  have r1 : w.cell? ⟨pb, 1, none⟩ = some (.slice ra s.nr capR) := h.row.cell (i := 1) (by omega)
  have rf : w.frozen? ⟨pb, 1, none⟩ = false := h.row.frozen 1
  have nr3 : some pb ≠ (Value.slice ra s.nr capR).ownBlock := fun e => by have := h.dis 0 3 pb rfl e.symm; omega
  have nr4 : some pb ≠ (Value.slice wa s.nr capW).ownBlock := fun e => by have := h.dis 0 4 pb rfl e.symm; omega
  have lp := h.row.lt
  have hbase := h.big.2.2.2
  have RW := h.row
  have OWN := h.rows
  obtain ⟨i0, hi0, hz0, hz1, hz2⟩ := info_parts Tryz.info25
  obtain ⟨i1, hj0, hy0, hy1, hy2⟩ := info_parts Tryz.info4
  have f1 : (w.alloc (.cells #[.slice none 0 0] 25)).cell? ⟨pb, 1, none⟩ = some (.slice ra s.nr capR) := (World.cell?_of_block (w := w) (Below.heap_alloc _ _ _ lp)).trans r1
  clear h
  go_enter Tryz.func102, Tryz.ntmps102
  go_wp2_with (first | (at_builtin; refine wpList_append_lies _ rfl _ _ 112 rfl base 25 i0 (.slice none 0 0) 1 24 Tryz.underlying112 hi0 hz0 hz1 hz2 rfl (by omega) (.slice ra s.nr capR) s.nr ((List.range s.nr).map rvs) rfl (OWN.alloc _) ⟨w.heap.size, 0, none⟩ 1 1 [.slice none 0 0] rfl rfl (cell_one_new _ _ _) (by simp [Value.oneCell']) (by omega) (by unfold maxLen; omega) (by omega) (by simp; omega) (w.heap.size + 1) (by simp) ?_; intro gg cap3 w3 hown3 hg3 hat3 hlt3; have R3 := RW.of_block (w' := w3) ((hg3.block pb (by simp; omega) nr3).trans (Below.heap_alloc _ _ _ lp)); have y1 := R3.cell (i := 1) (by omega); have yf := R3.frozen 1; have R4 := R3.set 1 (.slice (some ⟨gg, 0, none⟩) (s.nr + 1) cap3); have u3 : (w3.setCell ⟨pb, 1, none⟩ (.slice (some ⟨gg, 0, none⟩) (s.nr + 1) cap3)).cell? ⟨pb, 3, none⟩ = some (.slice wa s.nr capW) := R4.cell (i := 3) (by omega); have uf := R4.frozen 3; have lp3 : pb < w3.heap.size := R3.lt; have hz3 := hg3.size; have hb3 : base ≤ w3.heap.size := (by simp at hz3; omega); have OWN5 : (w3.setCell ⟨pb, 1, none⟩ (.slice (some ⟨gg, 0, none⟩) (s.nr + 1) cap3)).ownsRow base 4 1 (.slice wa s.nr capW) s.nr ((List.range s.nr).map fun i => Value.bool (s.waits i)) := own_block HH.out.waits (fun x e => (Below.heap_setCell _ _ _ _ (by show x ≠ pb; exact fun q => nr4 (by rw [← q]; exact e))).trans ((hg3.block x (by have := (HH.out.waits.lt x e.symm).2; simp; omega) (fun q => by have := HH.out.dis 4 3 x e.symm q.symm; omega)).trans (Below.heap_alloc _ _ _ (HH.out.waits.lt x e.symm).2))))
                            | (at_builtin; refine wpList_append_lies _ rfl _ _ 113 rfl base 4 i1 (.bool false) 1 1 Tryz.underlying113 hj0 hy0 hy1 hy2 rfl (by omega) (.slice wa s.nr capW) s.nr ((List.range s.nr).map fun i => Value.bool (s.waits i)) rfl (OWN5.alloc _) ⟨w3.heap.size, 0, none⟩ 1 1 [.bool false] rfl rfl (by have := cell_one_new (w3.setCell ⟨pb, 1, none⟩ (.slice (some ⟨gg, 0, none⟩) (s.nr + 1) cap3)) (.bool false) 4; simp only [World.size_setCell] at this; exact this) (by simp [Value.oneCell']) (by omega) (by unfold maxLen; omega) (by omega) (by simp; omega) (w3.heap.size + 1) (by simp) ?_; intro g5 cap5 w5 hown5 hg5 hat5 hlt5; have R5 := R4.of_block (w' := w5) ((hg5.block pb (by simp; omega) nr4).trans (Below.heap_alloc _ _ _ (by simp; omega))); have q3 := R5.cell (i := 3) (by omega); have qf := R5.frozen 3; have R6 := R5.set 3 (.slice (some ⟨g5, 0, none⟩) (s.nr + 1) cap5); have k1 : (w5.setCell ⟨pb, 3, none⟩ (.slice (some ⟨g5, 0, none⟩) (s.nr + 1) cap5)).cell? ⟨pb, 1, none⟩ = some (.slice (some ⟨gg, 0, none⟩) (s.nr + 1) cap3) := R6.cell (i := 1) (by omega)))
  have FIN := Pt.add (o2 := .cells #[.slice none 0 0] 25) (o4 := .cells #[.bool false] 4) HH.out hown3 ⟨hg3.os, hg3.tape, hg3.output, hg3.size, hg3.block⟩ hat3 hown5 ⟨hg5.os, hg5.tape, hg5.output, hg5.size, hg5.block⟩ hat5
  have FH : Hid _ := FIN
  clear FIN hown3 hg3 hat3 hown5 hg5 hat5 OWN OWN5
  go_ret
  exact ⟨rfl, _, _, FH.out⟩

end Go.Proofs.YtpbpbppimkeodaaGreatDoor
