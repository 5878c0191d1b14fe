/-
  Who goes through the pairs that are demanded and meets none that cannot hold has shown that one type will do for the other.
-/
import Derived.Test.YtifmaglbglelbaaGreatDoorSubFields
namespace Go.Proofs.YtifmaglbglelbaaGreatDoor

theorem SubP.can {G : Nat → ND} {a b : Nat} (h : SubP G a b) : Can (G a) (G b) := by
  obtain ⟨R, hR, hr⟩ := h
  exact (hR a b hr).1

theorem SubP.dem {G : Nat → ND} {a b : Nat} (h : SubP G a b) {q : Bool × Nat × Nat} (hq : q ∈ demP (G a) (G b)) : SubP G (atP (G a) (G b) q).1 (atP (G a) (G b) q).2 := by
  obtain ⟨R, hR, hr⟩ := h
  exact ⟨R, hR, (hR a b hr).2 q hq⟩

theorem posOf_self {d : ND} (h : Srt d) {i : Nat} (hi : i < d.nn) : posOf d (d.nm i) = i := posOf_eq hi rfl (fun k hk => lt_ne (h k i hk hi))

/-- What a node demands of itself: its kids, each with itself. -/
theorem dem_self {d : ND} (h : Srt d) {q : Bool × Nat × Nat} (hq : q ∈ demP d d) : (atP d d q).1 = (atP d d q).2 := by
  unfold demP at hq
  by_cases h0 : d.kind = 0 ∨ d.kind = 0
  · rw [if_pos h0] at hq; cases hq
  · rw [if_neg h0] at hq
    by_cases h4 : d.kind = 4
    · rw [if_pos h4] at hq
      simp only [List.mem_cons, List.not_mem_nil, or_false] at hq
      rcases hq with rfl | rfl <;> rfl
    · rw [if_neg h4] at hq
      obtain ⟨i, hi, rfl⟩ := List.mem_map.1 hq
      show kid d (posOf d (d.nm i)) = kid d i
      rw [posOf_self h (List.mem_range.1 hi)]

/-- The pairs that were met hold, each with all that it demands: so each of them is one that will do. -/
theorem sub_done {N : Nat} {G : Nat → ND} {ord : List (Nat × Nat)} (hK : Kids N G) (hP : ∀ x, x < N → Plain (G x)) (hS : ∀ x, x < N → Srt (G x)) (hl : ∀ q, q ∈ ord → q.1 < N ∧ q.2 < N)
    (hs : ∀ q, q ∈ ord → q.1 = q.2 ∨ (Can (G q.1) (G q.2) ∧ ∀ d, d ∈ demP (G q.1) (G q.2) → atP (G q.1) (G q.2) d ∈ ord)) : ∀ q, q ∈ ord → SubP G q.1 q.2 := by
  have key : SubS G (fun x y => (x, y) ∈ ord ∨ (x = y ∧ x < N)) := by
    have self : ∀ x, x < N → Can (G x) (G x) ∧ ∀ q, q ∈ demP (G x) (G x) → (atP (G x) (G x) q).1 = (atP (G x) (G x) q).2 ∧ (atP (G x) (G x) q).1 < N := fun x hx => by
      refine ⟨can_refl _, fun q hq => ⟨dem_self (hS x hx) hq, ?_⟩⟩
      obtain ⟨q1, q2⟩ := dem_lt (hP x hx) (hP x hx) (can_refl _) hq
      unfold atP
      split
      · exact hK.lt hx q2
      · exact hK.lt hx q1
    intro x y h
    rcases h with h | ⟨rfl, hx⟩
    · rcases hs _ h with e | ⟨c, d⟩
      · have e' : x = y := e
        subst e'
        obtain ⟨c, d⟩ := self x (hl _ h).1
        exact ⟨c, fun q hq => Or.inr (d q hq)⟩
      · exact ⟨c, fun q hq => Or.inl (d q hq)⟩
    · obtain ⟨c, d⟩ := self x hx
      exact ⟨c, fun q hq => Or.inr (d q hq)⟩
  exact fun q hq => ⟨_, key, Or.inl hq⟩

/-- All pairs that are met are forced by the first: what cannot hold refutes it. -/
def Forced (G : Nat → ND) (a b : Nat) (ord : List (Nat × Nat)) : Prop := SubP G a b → ∀ q, q ∈ ord → SubP G q.1 q.2

theorem forced_start (G : Nat → ND) (a b : Nat) : Forced G a b [(a, b)] := fun h q hq => by
  have : q = (a, b) := by simpa using hq
  subst this; exact h

theorem forced_add {G : Nat → ND} {a b x y : Nat} {ord : List (Nat × Nat)} (h : Forced G a b ord) (hm : SubP G a b → SubP G x y) {q : Bool × Nat × Nat} (hq : q ∈ demP (G x) (G y)) : Forced G a b (addP ord (atP (G x) (G y) q)) := fun hs p hp => by
  rcases mem_addP.1 hp with c | c
  · exact h hs p c
  · rw [c]; exact (hm hs).dem hq

theorem forced_no {G : Nat → ND} {a b : Nat} {ord : List (Nat × Nat)} (h : Forced G a b ord) {q : Nat × Nat} (hq : q ∈ ord) (hc : ¬ Can (G q.1) (G q.2)) : ¬ SubP G a b := fun hs => hc (h hs q hq).can

end Go.Proofs.YtifmaglbglelbaaGreatDoor
