/-
  A part waits.
-/
import Derived.Test.YtpbpbppimkeodaaGreatDoorPut
namespace Go.Proofs.YtpbpbppimkeodaaGreatDoor
open Go.RowKit Go.Maps

theorem pblk_q {pb bo ba nr : Nat} {rv wv qv qv' : Value} {rvs : Nat → Value} : ∀ i, pblk pb bo ba rv wv qv' rvs nr i = if i = 5 then qv'.ownBlock else pblk pb bo ba rv wv qv rvs nr i
  | 0 => rfl
  | 1 => rfl
  | 2 => rfl
  | 3 => rfl
  | 4 => rfl
  | 5 => rfl
  | i + 6 => by rw [if_neg (show ¬ i + 6 = 5 by omega)]; rfl

/-- One piece has a new block, or its old one. -/
theorem dis_piece {blk blk' : Nat → Option Nat} {k g H : Nat} (hd : ∀ i j x, blk i = some x → blk j = some x → i = j) (hl : ∀ i x, blk i = some x → x < H) (hb : ∀ i, blk' i = if i = k then some g else blk i) (hg : blk k = some g ∨ H ≤ g) :
    ∀ i j x, blk' i = some x → blk' j = some x → i = j := by
  intro i j x hi hj
  rw [hb] at hi hj
  by_cases e1 : i = k
  · by_cases e2 : j = k
    · omega
    · rw [if_pos e1] at hi
      rw [if_neg e2] at hj
      cases hi
      rcases hg with q | q
      · exact e1.trans (hd _ _ _ q hj)
      · have := hl j _ hj; omega
  · by_cases e2 : j = k
    · rw [if_pos e2] at hj
      rw [if_neg e1] at hi
      cases hj
      rcases hg with q | q
      · exact (hd _ _ _ hi q).trans e2.symm
      · have := hl i _ hi; omega
    · rw [if_neg e1] at hi
      rw [if_neg e2] at hj
      exact hd _ _ _ hi hj

theorem Pt.wait {w w3 : World} {base pb bo ba N wbk capW cap gg cap3 part : Nat} {oa : Option Addr} {rv : Value} {rvs : Nat → Value} {s : PS} {o2 : Obj}
    (h : Pt w base pb bo ba N rv (.slice (some ⟨wbk, 0, none⟩) s.nr capW) (.slice oa s.waiting.length cap) rvs s)
    (hown3 : w3.ownsRow base 3 1 (.slice (some ⟨gg, 0, none⟩) (s.waiting.length + 1) cap3) (s.waiting.length + 1) (icells s.waiting ++ [.int .i64 (part : Int)]))
    (hg3 : ((w.setCell ⟨wbk, part, none⟩ (.bool true)).alloc o2).grownBy w3 (Value.slice oa s.waiting.length cap).ownBlock) (hat : (Value.slice oa s.waiting.length cap).ownBlock = some gg ∨ gg = w.heap.size + 1) :
    Pt (w3.setCell ⟨pb, 4, none⟩ (.slice (some ⟨gg, 0, none⟩) (s.waiting.length + 1) cap3)) base pb bo ba N rv (.slice (some ⟨wbk, 0, none⟩) s.nr capW) (.slice (some ⟨gg, 0, none⟩) (s.waiting.length + 1) cap3) rvs
      { s with waits := upd s.waits part true, waiting := s.waiting ++ [part] } ∧ Fr base w (w3.setCell ⟨pb, 4, none⟩ (.slice (some ⟨gg, 0, none⟩) (s.waiting.length + 1) cap3)) (pblk pb bo ba rv (.slice (some ⟨wbk, 0, none⟩) s.nr capW) (.slice oa s.waiting.length cap) rvs s.nr) (pblk pb bo ba rv (.slice (some ⟨wbk, 0, none⟩) s.nr capW) (.slice (some ⟨gg, 0, none⟩) (s.waiting.length + 1) cap3) rvs s.nr) := by
  have hs2 : (w.setCell ⟨wbk, part, none⟩ (.bool true)).heap.size = w.heap.size := by simp [World.setCell]
  have hsz := hg3.size
  have e3 : ((w.setCell ⟨wbk, part, none⟩ (.bool true)).alloc o2).heap.size = w.heap.size + 1 := by rw [World.size_alloc, hs2]
  have hs4 : (w3.setCell ⟨pb, 4, none⟩ (.slice (some ⟨gg, 0, none⟩) (s.waiting.length + 1) cap3)).heap.size = w3.heap.size := by simp [World.setCell]
  have P0 : pblk pb bo ba rv (.slice (some ⟨wbk, 0, none⟩) s.nr capW) (.slice oa s.waiting.length cap) rvs s.nr 0 = some pb := rfl
  have P4 : pblk pb bo ba rv (.slice (some ⟨wbk, 0, none⟩) s.nr capW) (.slice oa s.waiting.length cap) rvs s.nr 4 = some wbk := rfl
  have P5 : pblk pb bo ba rv (.slice (some ⟨wbk, 0, none⟩) s.nr capW) (.slice oa s.waiting.length cap) rvs s.nr 5 = (Value.slice oa s.waiting.length cap).ownBlock := rfl
  have lt := h.blk_lt
  have b3 : ∀ x, x < w.heap.size → some x ≠ (Value.slice oa s.waiting.length cap).ownBlock → w3.heap[x]? = (w.setCell ⟨wbk, part, none⟩ (.bool true)).heap[x]? := fun x hx hn => (hg3.block x (by rw [e3]; omega) hn).trans (Below.heap_alloc _ _ _ (by rw [hs2]; exact hx))
  have b4 : ∀ x, x ≠ pb → (w3.setCell ⟨pb, 4, none⟩ (.slice (some ⟨gg, 0, none⟩) (s.waiting.length + 1) cap3)).heap[x]? = w3.heap[x]? := fun x hx => Below.heap_setCell _ _ _ _ (by show x ≠ pb; exact hx)
  have nob : ∀ i x, i ≠ 5 → pblk pb bo ba rv (.slice (some ⟨wbk, 0, none⟩) s.nr capW) (.slice oa s.waiting.length cap) rvs s.nr i = some x → some x ≠ (Value.slice oa s.waiting.length cap).ownBlock := fun i x hi hx e => hi (h.dis _ _ x hx (by rw [P5]; exact e.symm))
  have key : ∀ i x, i ≠ 0 → i ≠ 4 → i ≠ 5 → pblk pb bo ba rv (.slice (some ⟨wbk, 0, none⟩) s.nr capW) (.slice oa s.waiting.length cap) rvs s.nr i = some x → (w3.setCell ⟨pb, 4, none⟩ (.slice (some ⟨gg, 0, none⟩) (s.waiting.length + 1) cap3)).heap[x]? = w.heap[x]? := fun i x h0 h4 h5 hx => by
    rw [b4 x (fun e => h0 (h.dis _ _ x hx (by rw [P0, e]))), b3 x (lt i x hx).2 (nob i x h5 hx), Below.heap_setCell _ _ _ _ (by show x ≠ wbk; exact fun e => h4 (h.dis _ _ x hx (by rw [P4, e])))]
  have nwp : wbk ≠ pb := fun e => by have := h.dis 4 0 wbk P4 (by rw [P0, e]); omega
  have ggp : gg ≠ pb := fun e => by
    rcases hat with q | q
    · rw [e] at q; have := h.dis 0 5 pb P0 (by rw [P5]; exact q); omega
    · have := (lt 0 pb P0).2; omega
  refine ⟨⟨?_, h.of_.of_block (key 1 bo (by omega) (by omega) (by omega) rfl), h.loc_.of_block (key 2 ba (by omega) (by omega) (by omega) rfl), own_block h.rows (fun k e => key 3 k (by omega) (by omega) (by omega) e.symm), fun i hi => own_block (h.inner i hi) (fun k q => key (i + 6) k (by omega) (by omega) (by omega) (by simp only [pblk]; rw [if_pos (show i < s.nr from hi)]; exact q.symm)), ?_, ?_, ?_, ⟨h.big.1, h.big.2.1, h.big.2.2.1, by have := h.big.2.2.2; rw [hs4]; omega⟩⟩, ⟨⟨hg3.os, hg3.tape, hg3.output, by rw [hs4]; omega, fun k hk => ?_⟩, fun k hk hno => ?_, fun j x e => ?_⟩⟩
  · have r3 : w3.rowIs pb 115 5 (v5 (.slice (some ⟨bo, 0, none⟩) N N) rv (.slice (some ⟨ba, 0, none⟩) N N) (.slice (some ⟨wbk, 0, none⟩) s.nr capW) (.slice oa s.waiting.length cap)) := h.row.of_block (by
      rw [b3 pb (lt 0 pb P0).2 (nob 0 pb (by omega) P0)]
      exact Below.heap_setCell _ _ _ _ (by show pb ≠ wbk; exact fun e => nwp e.symm))
    refine (r3.set 4 _).congr (fun i hi => ?_)
    match i, hi with
    | 0, _ => rfl
    | 1, _ => rfl
    | 2, _ => rfl
    | 3, _ => rfl
    | 4, _ => rfl
  · have hw := (h.waits.stored part (.bool true)).1
    have : ((List.range s.nr).map fun i => Value.bool (s.waits i)).set part (.bool true) = (List.range s.nr).map fun i => .bool (upd s.waits part true i) := by
      rw [map_set]
      refine List.map_congr_left (fun i _ => ?_)
      simp only [upd]
      by_cases e : i = part
      · rw [if_pos e, if_pos e]
      · rw [if_neg e, if_neg e]
    rw [this] at hw
    exact own_block hw (fun k e => by
      have ek : k = wbk := by simpa [Value.ownBlock] using e
      subst ek
      rw [b4 k nwp, b3 k (lt 4 k P4).2 (nob 4 k (by omega) P4)])
  · show World.ownsRow _ base 3 1 _ (s.waiting ++ [part]).length (icells (s.waiting ++ [part]))
    rw [List.length_append, icells_snoc]
    exact own_block hown3 (fun k e => b4 k (by
      have : k = gg := by simpa [Value.ownBlock] using e
      omega))
  · exact dis_piece (k := 5) (g := gg) (H := w.heap.size) h.dis (fun i x e => (lt i x e).2) (fun i => pblk_q i) (by rcases hat with q | q; exact Or.inl q; exact Or.inr (by omega))
  · have h0 := (lt 0 pb P0).1
    have h4 := (lt 4 wbk P4).1
    have hb := h.big.2.2.2
    rw [b4 k (by omega), b3 k (by omega) (fun e => by have := (lt 5 k (by rw [P5]; exact e.symm)).1; omega), Below.heap_setCell _ _ _ _ (by show k ≠ wbk; omega)]
  · rw [b4 k (fun e => hno 0 (by rw [P0, e])), b3 k hk (fun e => hno 5 (by rw [P5]; exact e.symm)), Below.heap_setCell _ _ _ _ (by show k ≠ wbk; exact fun e => hno 4 (by rw [P4, e]))]
  · rw [pblk_q (qv := .slice oa s.waiting.length cap)] at e
    by_cases q : j = 5
    · rw [if_pos q] at e
      have : gg = x := by simpa [Value.ownBlock] using e
      subst this
      rcases hat with z | z
      · exact Or.inl ⟨5, z⟩
      · exact Or.inr (by omega)
    · rw [if_neg q] at e
      exact Or.inl ⟨j, e⟩


set_option maxRecDepth 100000 in
set_option maxHeartbeats 4000000 in
theorem c96o (base pb bo ba N : Nat) (rv wv qv : Value) (rvs : Nat → Value) (s : PS) (part : Nat) (w : World) (h : Pt w base pb bo ba N rv wv qv rvs s) (hp : part < s.nr) (hr : s.nr ≤ 1048576) (hw : s.waits part = true) :
    Calls Tryz.prog 103 #[.pointer (some ⟨pb, 0, none⟩), .int .i64 (part : Int)] w fun e w' => e = .returned (.tuple #[]) ∧ ∃ k, w' = w.drewN k := by
  obtain ⟨wbk, capW, rfl, hrc, hrf, hrl⟩ := own_some h.waits (by omega)
  have r3 : w.cell? ⟨pb, 3, none⟩ = some (.slice (some ⟨wbk, 0, none⟩) s.nr capW) := h.row.cell (i := 3) (by omega)
  have x0 : w.cell? ⟨wbk, part, none⟩ = some (.bool true) := by rw [hrc part hp]; simp [hp, hw]
  have hi2 : (part : Int) < (s.nr : Int) := by omega
  clear h hrc hrf hw
  go_enter Tryz.func103, Tryz.ntmps103
  go_wp2
  exact bodyPost_end (v := .tuple #[]) (by simp [results, Tryz.results103]) rfl ⟨rfl, 0, rfl⟩

set_option maxRecDepth 100000 in
set_option maxHeartbeats 4000000 in
theorem c96n (base pb bo ba N : Nat) (rv wv qv : Value) (rvs : Nat → Value) (s : PS) (part : Nat) (w : World) (h : Pt w base pb bo ba N rv wv qv rvs s) (hp : part < s.nr) (hr : s.nr ≤ 1048576) (hq : s.waiting.length ≤ 1048576) (hw : s.waits part = false) :
    Calls Tryz.prog 103 #[.pointer (some ⟨pb, 0, none⟩), .int .i64 (part : Int)] w fun e w' => e = .returned (.tuple #[]) ∧ ∃ qv', Pt w' base pb bo ba N rv wv qv' rvs { s with waits := upd s.waits part true, waiting := s.waiting ++ [part] } ∧ Fr base w w' (pblk pb bo ba rv wv qv rvs s.nr) (pblk pb bo ba rv wv qv' rvs s.nr) := by
  obtain ⟨wbk, capW, rfl, hrc, hrf, hrl⟩ := own_some h.waits (by omega)
  obtain ⟨oa, cap, rfl⟩ := own_form h.waiting
  have HH : Hid (Pt w base pb bo ba N rv (.slice (some ⟨wbk, 0, none⟩) s.nr capW) (.slice oa s.waiting.length cap) rvs s) := h
  have r3 : w.cell? ⟨pb, 3, none⟩ = some (.slice (some ⟨wbk, 0, none⟩) s.nr capW) := h.row.cell (i := 3) (by omega)
  have r4 : w.cell? ⟨pb, 4, none⟩ = some (.slice oa s.waiting.length cap) := h.row.cell (i := 4) (by omega)
  have rf : w.frozen? ⟨pb, 4, none⟩ = false := h.row.frozen 4
  have x0 : w.cell? ⟨wbk, part, none⟩ = some (.bool false) := by rw [hrc part hp]; simp [hp, hw]
  have x1 := hrf part
  have hi2 : (part : Int) < (s.nr : Int) := by omega
  have n1 : pb ≠ wbk := fun e => by have := h.dis 0 4 pb rfl (by show some wbk = some pb; rw [e]); omega
  have nq : some pb ≠ (Value.slice oa s.waiting.length cap).ownBlock := fun e => by have := h.dis 0 5 pb rfl e.symm; omega
  obtain ⟨wb, hwb⟩ : ∃ wb, wb = w.setCell ⟨wbk, part, none⟩ (.bool true) := ⟨_, rfl⟩
  have HWB : Hid (wb = w.setCell ⟨wbk, part, none⟩ (.bool true)) := hwb
  have hsz : Hid (wb.heap.size = w.heap.size) := by show _ = _; rw [hwb]; simp [World.setCell]
  have b4 : wb.cell? ⟨pb, 4, none⟩ = some (.slice oa s.waiting.length cap) := by rw [hwb, far_cell (by show pb ≠ wbk; exact n1)]; exact r4
  have bf : wb.frozen? ⟨pb, 4, none⟩ = false := by rw [hwb, World.frozen?_of_block (w := w) (Below.heap_setCell _ _ _ _ (by show pb ≠ wbk; exact n1))]; exact rf
  have OWN : wb.ownsRow base 3 1 (.slice oa s.waiting.length cap) s.waiting.length (icells s.waiting) := own_block h.waiting (fun x e => by
    rw [hwb]
    exact Below.heap_setCell _ _ _ _ (by show x ≠ wbk; exact fun q => by have := h.dis 5 4 x e.symm (by show some wbk = some x; rw [q]); omega))
  have lp : pb < wb.heap.size := by rw [hsz.out]; exact h.row.lt
  have hbase : base ≤ wb.heap.size := by rw [hsz.out]; exact h.big.2.2.2
  have f4 : (wb.alloc (.cells #[.int .i64 (part : Int)] 3)).cell? ⟨pb, 4, none⟩ = some (.slice oa s.waiting.length cap) := (World.cell?_of_block (w := wb) (Below.heap_alloc _ _ _ lp)).trans b4
  obtain ⟨i0, hi0, hz0, hz1, hz2⟩ := info_parts Tryz.info3
  have ff : (wb.alloc (.cells #[.int .i64 (part : Int)] 3)).frozen? ⟨pb, 4, none⟩ = false := (World.frozen?_of_block (w := wb) (Below.heap_alloc _ _ _ lp)).trans bf
  clear h hrc hrf hw HWB
  subst hwb
  have hss : (w.setCell ⟨wbk, part, none⟩ (.bool true)).heap.size = w.heap.size := hsz.out
  rw [hss] at lp hbase
  have hwl : wbk < w.heap.size := hrl
  clear hss
  go_enter Tryz.func103, Tryz.ntmps103
  go_wp2_with (first | (at_builtin; refine wpList_append_lies _ rfl _ _ 25 rfl base 3 i0 (.int .i64 0) 1 8 Tryz.underlying25 hi0 hz0 hz1 hz2 rfl (by omega) (.slice oa s.waiting.length cap) s.waiting.length (icells s.waiting) rfl (OWN.alloc _) ⟨w.heap.size, 0, none⟩ 1 1 [.int .i64 (part : Int)] rfl rfl (by have := cell_one_new (w.setCell ⟨wbk, part, none⟩ (.bool true)) (.int .i64 (part : Int)) 3; rw [hsz.out] at this; exact this) (ints_oneCell .i64 [(part : Int)]) (by omega) (by unfold maxLen; omega) (by omega) (by simp; omega) (w.heap.size + 1) (by simp) ?_; intro gg cap3 w3 hown3 hg3 hat hlt3; have y4 : w3.cell? ⟨pb, 4, none⟩ = some (.slice oa s.waiting.length cap) := (hg3.cell_far ⟨pb, 4, none⟩ (by simp; omega) nq).trans f4; have yf : w3.frozen? ⟨pb, 4, none⟩ = false := (World.frozen?_of_block (w := (w.setCell ⟨wbk, part, none⟩ (.bool true)).alloc (.cells #[.int .i64 (part : Int)] 3)) (hg3.block pb (by simp; omega) nq)).trans ff))
  have FIN := Pt.wait (o2 := .cells #[.int .i64 (part : Int)] 3) HH.out hown3 ⟨hg3.os, hg3.tape, hg3.output, hg3.size, hg3.block⟩ hat
  have FH : Hid _ := FIN
  clear FIN hown3 hg3 hat f4 ff b4 bf OWN
  go_wp2
  exact bodyPost_end (v := .tuple #[]) (by simp [results, Tryz.results103]) rfl ⟨rfl, _, FH.out⟩

end Go.Proofs.YtpbpbppimkeodaaGreatDoor
