/-
  One type will do for another, told without a program: the greatest relation; and that it is the same in two graphs that are alike.
-/
import Derived.Test.YtoanhnmpkonbfaaGreatDoorStart
namespace Go.Proofs.YtoanhnmpkonbfaaGreatDoor

/-- The place of a name among those of a node (their number, if it is not there). -/
def posOf (d : ND) (s : ByteArray) : Nat := ((List.range d.nn).map fun i => (d.nm i).data.toList).idxOf s.data.toList

theorem posOf_lt {d : ND} {s : ByteArray} : posOf d s < d.nn ↔ ∃ k, k < d.nn ∧ d.nm k = s := by
  unfold posOf
  constructor
  · intro h
    have h' : ((List.range d.nn).map fun i => (d.nm i).data.toList).idxOf s.data.toList < ((List.range d.nn).map fun i => (d.nm i).data.toList).length := by simpa using h
    have e := List.getElem_idxOf h'
    simp only [List.getElem_map, List.getElem_range] at e
    exact ⟨_, h, Go.WideShapes.bytes_inj e⟩
  · rintro ⟨k, hk, rfl⟩
    have := List.idxOf_lt_length_of_mem (List.mem_map.2 ⟨k, List.mem_range.2 hk, rfl⟩ : (d.nm k).data.toList ∈ (List.range d.nn).map fun i => (d.nm i).data.toList)
    simpa using this

theorem posOf_lab {d e : ND} (h : Lab d e) (s : ByteArray) : posOf d s = posOf e s := by
  unfold posOf
  rw [← h.nn]
  have : ((List.range d.nn).map fun i => (d.nm i).data.toList) = ((List.range d.nn).map fun i => (e.nm i).data.toList) := List.map_congr_left (fun i hi => by rw [h.nm i (List.mem_range.1 hi)])
  rw [this]

/-- A pair can hold: ? on one side, or one kind and, of records, all names that are wanted. -/
def Can (d e : ND) : Prop := d.kind = 0 ∨ e.kind = 0 ∨ (d.kind = e.kind ∧ (d.kind = 4 ∨ ∀ i, i < e.nn → posOf d (e.nm i) < d.nn))

/-- What a pair demands of pairs of kids: places in the two nodes, and whether they stand the other way round. -/
def demP (d e : ND) : List (Bool × Nat × Nat) :=
  if d.kind = 0 ∨ e.kind = 0 then [] else if d.kind = 4 then [(true, 0, 0), (false, 1, 1)] else (List.range e.nn).map fun i => (false, posOf d (e.nm i), i)

/-- The pair of kids at such places. -/
def atP (d e : ND) (q : Bool × Nat × Nat) : Nat × Nat := if q.1 then (kid e q.2.2, kid d q.2.1) else (kid d q.2.1, kid e q.2.2)

def SubS (G : Nat → ND) (R : Nat → Nat → Prop) : Prop := ∀ x y, R x y → Can (G x) (G y) ∧ ∀ q, q ∈ demP (G x) (G y) → R (atP (G x) (G y) q).1 (atP (G x) (G y) q).2
def SubP (G : Nat → ND) (a b : Nat) : Prop := ∃ R, SubS G R ∧ R a b

theorem can_lab {d e d' e' : ND} (h : Lab d d') (k : Lab e e') : Can d e ↔ Can d' e' := by
  unfold Can
  rw [h.kind, k.kind, h.nn, k.nn]
  constructor
  · rintro (c | c | ⟨c, c'⟩)
    · exact Or.inl c
    · exact Or.inr (Or.inl c)
    · refine Or.inr (Or.inr ⟨c, c'.imp id (fun z i hi => ?_)⟩)
      rw [← posOf_lab h, ← k.nm i (by rw [k.nn]; exact hi)]; exact z i hi
  · rintro (c | c | ⟨c, c'⟩)
    · exact Or.inl c
    · exact Or.inr (Or.inl c)
    · refine Or.inr (Or.inr ⟨c, c'.imp id (fun z i hi => ?_)⟩)
      rw [posOf_lab h, k.nm i (by rw [k.nn]; exact hi)]; exact z i hi

theorem dem_lab {d e d' e' : ND} (h : Lab d d') (k : Lab e e') : demP d e = demP d' e' := by
  unfold demP
  rw [h.kind, k.kind, k.nn]
  have : ((List.range e'.nn).map fun i => (false, posOf d (e.nm i), i)) = ((List.range e'.nn).map fun i => (false, posOf d' (e'.nm i), i)) := List.map_congr_left (fun i hi => by
    rw [posOf_lab h, k.nm i (by rw [k.nn]; exact List.mem_range.1 hi)])
  rw [this]

/-- The places that are demanded are places of kids. -/
theorem dem_lt {d e : ND} (hd : Plain d) (he : Plain e) (hc : Can d e) {q : Bool × Nat × Nat} (hq : q ∈ demP d e) : q.2.1 < d.nk ∧ q.2.2 < e.nk := by
  unfold demP at hq
  by_cases h0 : d.kind = 0 ∨ e.kind = 0
  · rw [if_pos h0] at hq; cases hq
  · rw [if_neg h0] at hq
    rcases hc with c | c | ⟨c, c'⟩
    · exact absurd (Or.inl c) h0
    · exact absurd (Or.inr c) h0
    · by_cases h4 : d.kind = 4
      · rw [if_pos h4] at hq
        have e1 : d.nk = 2 := by rw [hd.kids, if_neg (by omega), if_pos h4]
        have e2 : e.nk = 2 := by rw [he.kids, if_neg (by omega), if_pos (by omega)]
        simp only [List.mem_cons, List.not_mem_nil, or_false] at hq
        rcases hq with rfl | rfl
        · exact ⟨by show 0 < _; omega, by show 0 < _; omega⟩
        · exact ⟨by show 1 < _; omega, by show 1 < _; omega⟩
      · rw [if_neg h4] at hq
        obtain ⟨i, hi, rfl⟩ := List.mem_map.1 hq
        have hi' := List.mem_range.1 hi
        have hp := (c'.resolve_left h4) i hi'
        by_cases h3 : d.kind = 3
        · have e1 : d.nk = d.nn := by rw [hd.kids, if_pos h3]
          have e2 : e.nk = e.nn := by rw [he.kids, if_pos (by omega)]
          exact ⟨by show posOf d (e.nm i) < _; omega, by show i < _; omega⟩
        · have n0 := he.bare (by omega)
          omega

/-- Alike: the same labels, and the kids alike. -/
def Across (G' G : Nat → ND) (B : Nat → Nat → Prop) : Prop := ∀ i x, B i x → Lab (G' i) (G x) ∧ Plain (G' i) ∧ Plain (G x) ∧ ∀ j, j < (G' i).nk → B (kid (G' i) j) (kid (G x) j)

theorem sub_across {G' G : Nat → ND} {B : Nat → Nat → Prop} (hB : Across G' G B) {i j x y : Nat} (hx : B i x) (hy : B j y) : SubP G x y ↔ SubP G' i j := by
  constructor
  · rintro ⟨R, hR, hr⟩
    refine ⟨fun a b => ∃ u v, B a u ∧ B b v ∧ R u v, ?_, ⟨x, y, hx, hy, hr⟩⟩
    rintro a b ⟨u, v, hu, hv, huv⟩
    obtain ⟨l1, p1, p1', k1⟩ := hB a u hu
    obtain ⟨l2, p2, p2', k2⟩ := hB b v hv
    obtain ⟨c, d⟩ := hR u v huv
    have c' := (can_lab l1 l2).2 c
    refine ⟨c', fun q hq => ?_⟩
    obtain ⟨q1, q2⟩ := dem_lt p1 p2 c' hq
    rw [dem_lab l1 l2] at hq
    have z := d q hq
    unfold atP at z ⊢
    by_cases s : q.1 = true
    · rw [if_pos s] at z ⊢
      exact ⟨_, _, k2 _ q2, k1 _ q1, z⟩
    · rw [if_neg s] at z ⊢
      exact ⟨_, _, k1 _ q1, k2 _ q2, z⟩
  · rintro ⟨R, hR, hr⟩
    refine ⟨fun u v => ∃ a b, B a u ∧ B b v ∧ R a b, ?_, ⟨i, j, hx, hy, hr⟩⟩
    rintro u v ⟨a, b, hu, hv, hab⟩
    obtain ⟨l1, p1, p1', k1⟩ := hB a u hu
    obtain ⟨l2, p2, p2', k2⟩ := hB b v hv
    obtain ⟨c, d⟩ := hR a b hab
    refine ⟨(can_lab l1 l2).1 c, fun q hq => ?_⟩
    rw [← dem_lab l1 l2] at hq
    obtain ⟨q1, q2⟩ := dem_lt p1 p2 c hq
    have z := d q hq
    unfold atP at z ⊢
    by_cases s : q.1 = true
    · rw [if_pos s] at z ⊢
      exact ⟨_, _, k2 _ q2, k1 _ q1, z⟩
    · rw [if_neg s] at z ⊢
      exact ⟨_, _, k1 _ q1, k2 _ q2, z⟩

/-- A type will do for itself. -/
theorem can_refl (d : ND) : Can d d := by
  refine Or.inr (Or.inr ⟨rfl, Or.inr (fun i hi => ?_)⟩)
  exact posOf_lt.2 ⟨i, hi, rfl⟩

end Go.Proofs.YtoanhnmpkonbfaaGreatDoor
