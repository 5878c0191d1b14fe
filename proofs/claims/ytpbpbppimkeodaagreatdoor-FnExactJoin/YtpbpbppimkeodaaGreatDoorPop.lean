/-
  A part is taken out of those that wait; and the edges lie apart from the parts.
-/
import Derived.Test.YtpbpbppimkeodaaGreatDoorStart2
namespace Go.Proofs.YtpbpbppimkeodaaGreatDoor
open Go.RowKit Go.Maps

theorem pblk_qq {pb bo ba nr : Nat} {rv wv qv qv' : Value} {rvs : Nat → Value} (h : qv'.ownBlock = qv.ownBlock) : pblk pb bo ba rv wv qv' rvs nr = pblk pb bo ba rv wv qv rvs nr := by
  funext i
  rw [pblk_q (qv := qv)]
  by_cases e : i = 5
  · rw [if_pos e, h, e]; rfl
  · rw [if_neg e]

theorem Pt.pop {w : World} {base pb bo ba N wbk capW qb cap n P : Nat} {rv : Value} {rvs : Nat → Value} {s : PS} {ys : List Nat} (hw : s.waiting = ys ++ [P]) (hn : ys.length = n)
    (h : Pt w base pb bo ba N rv (.slice (some ⟨wbk, 0, none⟩) s.nr capW) (.slice (some ⟨qb, 0, none⟩) (n + 1) cap) rvs s) :
    Pt ((w.setCell ⟨pb, 4, none⟩ (.slice (some ⟨qb, 0, none⟩) n cap)).setCell ⟨wbk, P, none⟩ (.bool false)) base pb bo ba N rv (.slice (some ⟨wbk, 0, none⟩) s.nr capW) (.slice (some ⟨qb, 0, none⟩) n cap) rvs (popS s P) ∧
    Fr base w ((w.setCell ⟨pb, 4, none⟩ (.slice (some ⟨qb, 0, none⟩) n cap)).setCell ⟨wbk, P, none⟩ (.bool false)) (pblk pb bo ba rv (.slice (some ⟨wbk, 0, none⟩) s.nr capW) (.slice (some ⟨qb, 0, none⟩) (n + 1) cap) rvs s.nr) (pblk pb bo ba rv (.slice (some ⟨wbk, 0, none⟩) s.nr capW) (.slice (some ⟨qb, 0, none⟩) n cap) rvs s.nr) := by
  have eq : pblk pb bo ba rv (.slice (some ⟨wbk, 0, none⟩) s.nr capW) (.slice (some ⟨qb, 0, none⟩) n cap) rvs s.nr = pblk pb bo ba rv (.slice (some ⟨wbk, 0, none⟩) s.nr capW) (.slice (some ⟨qb, 0, none⟩) (n + 1) cap) rvs s.nr := pblk_qq rfl
  have P0 : pblk pb bo ba rv (.slice (some ⟨wbk, 0, none⟩) s.nr capW) (.slice (some ⟨qb, 0, none⟩) (n + 1) cap) rvs s.nr 0 = some pb := rfl
  have P4 : pblk pb bo ba rv (.slice (some ⟨wbk, 0, none⟩) s.nr capW) (.slice (some ⟨qb, 0, none⟩) (n + 1) cap) rvs s.nr 4 = some wbk := rfl
  have P5 : pblk pb bo ba rv (.slice (some ⟨wbk, 0, none⟩) s.nr capW) (.slice (some ⟨qb, 0, none⟩) (n + 1) cap) rvs s.nr 5 = some qb := rfl
  have lt := h.blk_lt
  have bl : ∀ x, x ≠ pb → x ≠ wbk → ((w.setCell ⟨pb, 4, none⟩ (.slice (some ⟨qb, 0, none⟩) n cap)).setCell ⟨wbk, P, none⟩ (.bool false)).heap[x]? = w.heap[x]? := fun x h1 h2 => by
    rw [Below.heap_setCell _ _ _ _ (by show x ≠ wbk; exact h2), Below.heap_setCell _ _ _ _ (by show x ≠ pb; exact h1)]
  have ob : ∀ i x, i ≠ 0 → i ≠ 4 → pblk pb bo ba rv (.slice (some ⟨wbk, 0, none⟩) s.nr capW) (.slice (some ⟨qb, 0, none⟩) (n + 1) cap) rvs s.nr i = some x → ((w.setCell ⟨pb, 4, none⟩ (.slice (some ⟨qb, 0, none⟩) n cap)).setCell ⟨wbk, P, none⟩ (.bool false)).heap[x]? = w.heap[x]? := fun i x h0 h4 hx =>
    bl x (fun e => h0 (h.dis _ _ x hx (by rw [P0, e]))) (fun e => h4 (h.dis _ _ x hx (by rw [P4, e])))
  have nwp : wbk ≠ pb := fun e => by have := h.dis 4 0 wbk P4 (by rw [P0, e]); omega
  have sz : ((w.setCell ⟨pb, 4, none⟩ (.slice (some ⟨qb, 0, none⟩) n cap)).setCell ⟨wbk, P, none⟩ (.bool false)).heap.size = w.heap.size := by simp [World.setCell]
  refine ⟨⟨?_, h.of_.of_block (ob 1 bo (by omega) (by omega) rfl), h.loc_.of_block (ob 2 ba (by omega) (by omega) rfl), own_block h.rows (fun k e => ob 3 k (by omega) (by omega) e.symm), fun i hi => own_block (h.inner i hi) (fun k q => ob (i + 6) k (by omega) (by omega) (by simp only [pblk]; rw [if_pos (show i < s.nr from hi)]; exact q.symm)), ?_, ?_, ?_, ⟨h.big.1, h.big.2.1, h.big.2.2.1, by rw [sz]; exact h.big.2.2.2⟩⟩, ⟨⟨rfl, rfl, rfl, by rw [sz]; exact Nat.le_refl _, fun k hk => ?_⟩, fun k hk hno => ?_, fun i x e => ?_⟩⟩
  · refine ((h.row.set 4 _).of_block (Below.heap_setCell _ _ _ _ (by show pb ≠ wbk; exact fun e => nwp e.symm))).congr (fun i hi => ?_)
    match i, hi with
    | 0, _ => rfl
    | 1, _ => rfl
    | 2, _ => rfl
    | 3, _ => rfl
    | 4, _ => rfl
  · have h1 : (w.setCell ⟨pb, 4, none⟩ (.slice (some ⟨qb, 0, none⟩) n cap)).ownsRow base 4 1 (.slice (some ⟨wbk, 0, none⟩) s.nr capW) s.nr ((List.range s.nr).map fun i => .bool (s.waits i)) := own_block h.waits (fun k e => Below.heap_setCell _ _ _ _ (by
      have ek : k = wbk := by simpa [Value.ownBlock] using e
      show k ≠ pb
      rw [ek]; exact nwp))
    have hw1 := (h1.stored P (.bool false)).1
    have : ((List.range s.nr).map fun i => Value.bool (s.waits i)).set P (.bool false) = (List.range s.nr).map fun i => .bool (upd s.waits P false i) := by
      rw [map_set]
      refine List.map_congr_left (fun i _ => ?_)
      simp only [upd]
      by_cases e : i = P
      · rw [if_pos e, if_pos e]
      · rw [if_neg e, if_neg e]
    rw [this] at hw1
    exact hw1
  · have h1 := h.waiting
    have hl : s.waiting.length = n + 1 := by rw [hw, List.length_append, hn]; rfl
    rw [hl] at h1
    have h2 := own_shorter h1
    have e1 : (icells s.waiting).dropLast = icells s.waiting.dropLast := by simp [icells, List.map_dropLast]
    have e2 : s.waiting.dropLast.length = n := by rw [hw]; simp [hn]
    show World.ownsRow _ base 3 1 _ s.waiting.dropLast.length (icells s.waiting.dropLast)
    rw [e2, ← e1]
    exact own_block h2 (fun k e => ob 5 k (by omega) (by omega) (by rw [P5]; exact e.symm))
  · show ∀ i j x, pblk pb bo ba rv (.slice (some ⟨wbk, 0, none⟩) s.nr capW) (.slice (some ⟨qb, 0, none⟩) n cap) rvs s.nr i = some x → _
    rw [eq]; exact h.dis
  · have h1 := (lt 0 pb P0).1
    have h2 := (lt 4 wbk P4).1
    exact bl k (by omega) (by omega)
  · exact bl k (fun e => hno 0 (by rw [P0, e])) (fun e => hno 4 (by rw [P4, e]))
  · rw [eq] at e
    exact Or.inl ⟨i, e⟩

/-- The edges lie apart from the parts. -/
structure EdOff (w : World) (bi N : Nat) (evs : Nat → Value) (blk : Nat → Option Nat) : Prop where
  row : bi < w.heap.size ∧ Off blk bi
  inner : ∀ i k, i < N → (evs i).ownBlock = some k → k < w.heap.size ∧ Off blk k

theorem Into.frame {w w' : World} {base base2 bi N : Nat} {evs : Nat → Value} {E : Nat → List (Nat × Nat)} {blk blk' : Nat → Option Nat} (h : Into w base2 bi N evs E) (ha : EdOff w bi N evs blk) (hf : Fr base w w' blk blk') : Into w' base2 bi N evs E ∧ EdOff w' bi N evs blk' := by
  have hs := hf.below.size
  refine ⟨⟨h.row.of_block (hf.frame bi ha.row.1 ha.row.2), fun k hk => own_block (h.inner k hk) (fun x e => hf.frame x (ha.inner k x hk e.symm).1 (ha.inner k x hk e.symm).2), h.dis, h.far, ⟨h.big.1, Nat.le_trans h.big.2 hs⟩⟩,
    ⟨⟨Nat.lt_of_lt_of_le ha.row.1 hs, hf.off ha.row.1 ha.row.2⟩, fun i k hi e => ⟨Nat.lt_of_lt_of_le (ha.inner i k hi e).1 hs, hf.off (ha.inner i k hi e).1 (ha.inner i k hi e).2⟩⟩⟩

theorem EdOff.below {w w' : World} {bi N : Nat} {evs : Nat → Value} {blk : Nat → Option Nat} (h : EdOff w bi N evs blk) (hs : w.heap.size ≤ w'.heap.size) : EdOff w' bi N evs blk :=
  ⟨⟨Nat.lt_of_lt_of_le h.row.1 hs, h.row.2⟩, fun i k hi e => ⟨Nat.lt_of_lt_of_le (h.inner i k hi e).1 hs, (h.inner i k hi e).2⟩⟩

/-- How long the slice in a cell is. -/
def lenAt (w : World) (b o : Nat) : Nat :=
  match w.cell? ⟨b, o, none⟩ with
  | some (.slice _ n _) => n
  | _ => 0

/-- What is held between two parts. -/
structure Ty (w wr : World) (pb bo ba N : Nat) (G : Nat → ND) (base2 bi : Nat) (evs : Nat → Value) (rv wv qv : Value) (rvs : Nat → Value) (s : PS) : Prop where
  pt : Pt wr w.heap.size pb bo ba N rv wv qv rvs s
  ok : Ok N s
  parts : Parts N G s.of
  stab : ∀ C, Stab N G s.of (wt s) C (fun _ => False)
  into : Into wr base2 bi N evs (fun k => edgesTill G N 0 k)
  apart : EdOff wr bi N evs (pblk pb bo ba rv wv qv rvs s.nr)
  below : Below w.heap.size w wr

theorem Ty.lens {w wr : World} {pb bo ba N : Nat} {G : Nat → ND} {base2 bi : Nat} {evs : Nat → Value} {rv wv qv : Value} {rvs : Nat → Value} {s : PS} (h : Ty w wr pb bo ba N G base2 bi evs rv wv qv rvs s) : lenAt wr pb 4 = s.waiting.length ∧ lenAt wr pb 1 = s.nr := by
  obtain ⟨a1, c1, e1⟩ := own_form h.pt.waiting
  obtain ⟨a2, c2, e2⟩ := own_form h.pt.rows
  have r4 : wr.cell? ⟨pb, 4, none⟩ = some qv := h.pt.row.cell (i := 4) (by omega)
  have r1 : wr.cell? ⟨pb, 1, none⟩ = some rv := h.pt.row.cell (i := 1) (by omega)
  unfold lenAt
  rw [r4, r1, e1, e2]
  exact ⟨rfl, rfl⟩

end Go.Proofs.YtpbpbppimkeodaaGreatDoor
