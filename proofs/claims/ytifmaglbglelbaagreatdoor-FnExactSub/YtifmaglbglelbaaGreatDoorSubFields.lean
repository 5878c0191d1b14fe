/-
  The contract of subFields: of two records, the fields that are wanted.
-/
import Derived.Test.YtifmaglbglelbaaGreatDoorSubRel
import Derived.Sort.Walk0
namespace Go.Proofs.YtifmaglbglelbaaGreatDoor
open Go.RowKit Go.Maps

/-- Each name is less than the next. -/
def Srt (d : ND) : Prop := ∀ i k, i < k → k < d.nn → lt (d.nm i) (d.nm k) = true

theorem lt_dec (a b : ByteArray) : lt a b = decide (a.toList < b.toList) := bytesLess_eq _ _
theorem lt_trans' {a b c : ByteArray} (h1 : lt a b = true) (h2 : lt b c = true) : lt a c = true := by
  rw [lt_dec] at *
  simp only [decide_eq_true_eq] at *
  exact List.lt_trans h1 h2
theorem lt_ne {a b : ByteArray} (h : lt a b = true) : a ≠ b := by
  intro e
  rw [lt_dec, e] at h
  simp only [decide_eq_true_eq] at h
  exact List.lt_irrefl _ h
theorem lt_tot {a b : ByteArray} (h : lt a b = false) (hn : a ≠ b) : lt b a = true := by
  rw [lt_dec] at *
  simp only [decide_eq_false_iff_not, decide_eq_true_eq] at *
  apply Classical.byContradiction
  intro c
  have e := List.le_antisymm (List.not_lt.1 h) (List.not_lt.1 c)
  exact hn (Go.WideShapes.bytes_inj (by rw [← ByteArray.toList_eq, ← ByteArray.toList_eq]; exact e.symm))

theorem posOf_eq {d : ND} {s : ByteArray} {i : Nat} (hi : i < d.nn) (he : d.nm i = s) (hb : ∀ k, k < i → d.nm k ≠ s) : posOf d s = i := by
  have hlt : posOf d s < d.nn := posOf_lt.2 ⟨i, hi, he⟩
  have h' : ((List.range d.nn).map fun i => (d.nm i).data.toList).idxOf s.data.toList < ((List.range d.nn).map fun i => (d.nm i).data.toList).length := by simpa [posOf] using hlt
  have e := List.getElem_idxOf h'
  simp only [List.getElem_map, List.getElem_range] at e
  have e2 : d.nm (posOf d s) = s := Go.WideShapes.bytes_inj e
  rcases Nat.lt_trichotomy (posOf d s) i with c | c | c
  · exact absurd e2 (hb _ c)
  · exact c
  · exfalso
    have hm : (d.nm i).data.toList ∈ ((List.range d.nn).map fun i => (d.nm i).data.toList).take (i + 1) := by
      rw [← List.map_take, List.take_range, Nat.min_eq_left (by omega)]
      exact List.mem_map.2 ⟨i, List.mem_range.2 (by omega), rfl⟩
    have e3 : ((List.range d.nn).map fun i => (d.nm i).data.toList) = ((List.range d.nn).map fun i => (d.nm i).data.toList).take (i + 1) ++ ((List.range d.nn).map fun i => (d.nm i).data.toList).drop (i + 1) := (List.take_append_drop _ _).symm
    have : posOf d s < i + 1 := by
      unfold posOf
      rw [e3, List.idxOf_append, if_pos (by rw [← he]; exact hm)]
      have := List.idxOf_lt_length_of_mem (by rw [← he]; exact hm : s.data.toList ∈ ((List.range d.nn).map fun i => (d.nm i).data.toList).take (i + 1))
      rw [List.length_take] at this
      omega
    omega

/-- Where all less ones stand ahead, a name is found at the place or nowhere. -/
theorem pos_here {d : ND} {s : ByteArray} {i : Nat} (hb : ∀ k, k < i → lt (d.nm k) s = true) (hi : i < d.nn) (he : d.nm i = s) : posOf d s = i :=
  posOf_eq hi he (fun k hk => lt_ne (hb k hk))
theorem pos_end {d : ND} {s : ByteArray} (hb : ∀ k, k < d.nn → lt (d.nm k) s = true) : ¬ posOf d s < d.nn := fun h => by
  obtain ⟨k, hk, e⟩ := posOf_lt.1 h
  exact lt_ne (hb k hk) e
theorem pos_not {d : ND} {s : ByteArray} {i : Nat} (hS : Srt d) (hi : i < d.nn) (hb : ∀ k, k < i → lt (d.nm k) s = true) (h1 : lt (d.nm i) s = false) (h2 : d.nm i ≠ s) : ¬ posOf d s < d.nn := fun h => by
  obtain ⟨k, hk, e⟩ := posOf_lt.1 h
  have hs := lt_tot h1 h2
  rcases Nat.lt_trichotomy k i with c | c | c
  · exact lt_ne (hb k c) e
  · subst c; exact h2 e
  · exact lt_ne (lt_trans' hs (hS i k c hk)) e.symm

/-- The pairs of the first fields. -/
def fieldsTill (x y : ND) (ord : List (Nat × Nat)) : Nat → List (Nat × Nat)
  | 0 => ord
  | j + 1 => addP (fieldsTill x y ord j) (kid x (posOf x (y.nm j)), kid y j)

theorem fields_len (x y : ND) (ord : List (Nat × Nat)) : ∀ j, (fieldsTill x y ord j).length ≤ ord.length + j
  | 0 => Nat.le_refl _
  | j + 1 => by
    have := fields_len x y ord j
    unfold fieldsTill addP
    split
    · omega
    · simp; omega

theorem Kn.box {w : World} {kb mb : Nat} {ov : Value} {D : DataW Unit} {ord : List (Nat × Nat)} {keep : Nat → Prop} (h : Kn w kb mb ov D ord keep) (o : Obj) :
    Kn (w.alloc o) kb mb ov D ord (fun k => keep k ∨ k = w.heap.size) := by
  have hk := h.row.lt
  have hm := h.mlt
  refine ⟨h.row.alloc _, h.mlt, h.map.alloc _, h.has, h.own.alloc _, fun k hk' => ?_⟩
  rcases hk' with hk' | rfl
  · obtain ⟨f1, f2, f3, f4⟩ := h.far k hk'
    exact ⟨by simp; omega, f2, f3, f4⟩
  · exact ⟨by simp, by omega, by omega, fun e => by have := (h.own.lt _ e.symm).2; omega⟩

end Go.Proofs.YtifmaglbglelbaaGreatDoor
