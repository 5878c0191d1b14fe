/-
  The model's Sub: the pairs that are demanded, one after the other (pure).
-/
import Derived.Test.YtifmaglbglelbaaGreatDoorSubWalk
import Derived.Test.YtifmaglbglelbaaGreatDoorSubKid
namespace Go.Proofs.YtifmaglbglelbaaGreatDoor
open Go

def demL (d e : ND) : List (Nat × Nat) := (demP d e).map (atP d e)
def addAll (ord L : List (Nat × Nat)) : List (Nat × Nat) := L.foldl addP ord
theorem addAll_nil (ord : List (Nat × Nat)) : addAll ord [] = ord := rfl
theorem addAll_snoc (ord L : List (Nat × Nat)) (q : Nat × Nat) : addAll ord (L ++ [q]) = addP (addAll ord L) q := by
  unfold addAll; rw [List.foldl_append]; rfl
theorem addAll_props : ∀ (L ord : List (Nat × Nat)), (∃ t, addAll ord L = ord ++ t) ∧ (∀ q, q ∈ L → q ∈ addAll ord L) ∧ (∀ q, q ∈ addAll ord L → q ∈ ord ∨ q ∈ L) ∧ (ord.Nodup → (addAll ord L).Nodup)
  | [], ord => ⟨⟨[], by rw [addAll_nil, List.append_nil]⟩, fun _ h => (by cases h), fun _ h => Or.inl h, fun h => h⟩
  | p :: L, ord => by
    obtain ⟨⟨t, ht⟩, h2, h3, h4⟩ := addAll_props L (addP ord p)
    obtain ⟨t2, ht2⟩ := addP_pre ord p
    have e : addAll ord (p :: L) = addAll (addP ord p) L := rfl
    rw [e]
    refine ⟨⟨t2 ++ t, by rw [ht, ht2, List.append_assoc]⟩, fun q hq => ?_, fun q hq => ?_, fun h => h4 (addP_nodup h)⟩
    · rcases List.mem_cons.1 hq with rfl | hq
      · rw [ht]; exact List.mem_append_left _ (mem_addP.2 (Or.inr rfl))
      · exact h2 q hq
    · rcases h3 q hq with h | h
      · rcases mem_addP.1 h with h | h
        · exact Or.inl h
        · exact Or.inr (by rw [h]; exact List.mem_cons_self)
      · exact Or.inr (List.mem_cons_of_mem _ h)
theorem addAll_len (ord L : List (Nat × Nat)) : ord.length ≤ (addAll ord L).length := by
  obtain ⟨⟨t, ht⟩, _⟩ := addAll_props L ord
  rw [ht, List.length_append]; omega
theorem sinv_all {N : Nat} {G : Nat → ND} {a b i x y : Nat} {ord : List (Nat × Nat)} (h : SInv N G a b ord i) (hK : Kids N G) (hP : ∀ x, x < N → Plain (G x)) (hq : ord[i]? = some (x, y)) (hc : Can (G x) (G y)) :
    SInv N G a b (addAll ord (demL (G x) (G y))) (i + 1) := by
  obtain ⟨h1, h2, h3, h4⟩ := addAll_props (demL (G x) (G y)) ord
  refine (h.step hK hP hq ⟨h1, Or.inr ⟨hc, fun d hd => h2 _ (List.mem_map_of_mem hd)⟩, fun q hq2 => ?_, h4⟩).1
  rcases h3 q hq2 with h5 | h5
  · exact Or.inl h5
  · obtain ⟨d, hd, e⟩ := List.mem_map.1 h5
    exact Or.inr ⟨d, hd, e.symm⟩
/-- The demands lie in the graph. -/
theorem demL_lt {N : Nat} {G : Nat → ND} {x y : Nat} (hK : Kids N G) (hP : ∀ x, x < N → Plain (G x)) (hx : x < N) (hy : y < N) (hc : Can (G x) (G y)) {q : Nat × Nat} (hq : q ∈ demL (G x) (G y)) : q.1 < N ∧ q.2 < N := by
  obtain ⟨d, hd, rfl⟩ := List.mem_map.1 hq
  obtain ⟨d1, d2⟩ := dem_lt (hP x hx) (hP y hy) hc hd
  unfold atP
  split
  · exact ⟨hK.lt hy d2, hK.lt hx d1⟩
  · exact ⟨hK.lt hx d1, hK.lt hy d2⟩

/-- What is met so far, as a row of truth values. -/
def metv (N : Nat) (ord : List (Nat × Nat)) (k : Nat) : Value := .bool (decide ((k / N, k % N) ∈ ord))
theorem at_div {N x y : Nat} (hy : y < N) : ((x * N + y) / N, (x * N + y) % N) = (x, y) := by
  have h : 0 < N := by omega
  rw [Nat.mul_comm, Nat.mul_add_div h, Nat.mul_add_mod, Nat.div_eq_of_lt hy, Nat.mod_eq_of_lt hy, Nat.add_zero]
theorem metv_at {N x y : Nat} {ord : List (Nat × Nat)} (hy : y < N) : metv N ord (x * N + y) = .bool (decide ((x, y) ∈ ord)) := by
  unfold metv; rw [at_div hy]
theorem div_inj {N k x y : Nat} (h : (k / N, k % N) = (x, y)) : k = x * N + y := by
  have h1 : k / N = x := (Prod.mk.inj h).1
  have h2 : k % N = y := (Prod.mk.inj h).2
  have := Nat.div_add_mod k N
  rw [h1, h2, Nat.mul_comm] at this
  exact this.symm
/-- One pair more. -/
theorem metv_add {N x y : Nat} {ord : List (Nat × Nat)} (hy : y < N) (k : Nat) : (if k = x * N + y then Value.bool true else metv N ord k) = metv N (ord ++ [(x, y)]) k := by
  unfold metv
  by_cases h : k = x * N + y
  · rw [if_pos h, h, at_div hy, decide_eq_true (List.mem_append_right _ (List.mem_singleton.2 rfl))]
  · rw [if_neg h]
    congr 1
    rw [decide_eq_decide, List.mem_append, List.mem_singleton]
    exact ⟨Or.inl, fun h2 => h2.elim id (fun h3 => absurd (div_inj h3) h)⟩

/-- The demands one by one: of two functions. -/
theorem demL_fun {d e : ND} (hd : d.kind = 4) (he : e.kind = 4) : demL d e = [(kid e 0, kid d 0), (kid d 1, kid e 1)] := by
  unfold demL demP
  rw [if_neg (by omega), if_pos hd]
  rfl
theorem demL_any {d e : ND} (h : d.kind = 0 ∨ e.kind = 0) : demL d e = [] := by
  unfold demL demP
  rw [if_pos h]; rfl
/-- .. of others, up to the i-th name. -/
def demTo (d e : ND) (i : Nat) : List (Nat × Nat) := (List.range i).map fun j => (kid d (posOf d (e.nm j)), kid e j)
theorem demTo_succ (d e : ND) (i : Nat) : demTo d e (i + 1) = demTo d e i ++ [(kid d (posOf d (e.nm i)), kid e i)] := by
  unfold demTo; rw [List.range_succ, List.map_append]; rfl
theorem demTo_len (d e : ND) (i : Nat) : (demTo d e i).length = i := by unfold demTo; simp
theorem demL_rec {d e : ND} (h0 : ¬ d.kind = 0) (h1 : ¬ e.kind = 0) (h4 : ¬ d.kind = 4) : demL d e = demTo d e e.nn := by
  unfold demL demP demTo
  rw [if_neg (by omega), if_neg h4, List.map_map]
  rfl
theorem can_rec {d e : ND} (h0 : ¬ d.kind = 0) (h1 : ¬ e.kind = 0) (h4 : ¬ d.kind = 4) (he : d.kind = e.kind) : Can d e ↔ ∀ i, i < e.nn → posOf d (e.nm i) < d.nn := by
  unfold Can
  constructor
  · rintro (h | h | ⟨_, h | h⟩)
    · exact absurd h h0
    · exact absurd h h1
    · exact absurd h h4
    · exact h
  · exact fun h => Or.inr (Or.inr ⟨he, Or.inr h⟩)
theorem kidBy_in {d : ND} {s : ByteArray} (h : posOf d s < d.nn) (hk : ∀ j, j < d.nn → 0 ≤ d.kd j) : kidBy d s = ((kid d (posOf d s) : Nat) : Int) := by
  unfold kidBy kid
  rw [if_pos h, Int.toNat_of_nonneg (hk _ h)]
theorem kidBy_out {d : ND} {s : ByteArray} (h : ¬ posOf d s < d.nn) : kidBy d s = -1 := by
  unfold kidBy
  rw [if_neg h]

end Go.Proofs.YtifmaglbglelbaaGreatDoor
