/-
  Leaders and the pairs that are gone through, told without a program.
-/
import Derived.Test.YtdgbcblajgmpcaaMath
namespace Go.Proofs.Ytdgbcblajgmpcaa

/-- The leaders L lead to the root ρ, each step nearer to it (d). -/
structure UF (N : Nat) (L ρ d : Nat → Nat) : Prop where
  lt : ∀ n, n < N → L n < N
  rt : ∀ n, n < N → ρ (L n) = ρ n
  fix : ∀ n, n < N → L n = n → ρ n = n
  dn : ∀ n, n < N → L n ≠ n → d (L n) < d n

theorem UF.start (N : Nat) : UF N (fun n => n) (fun n => n) (fun _ => 0) := ⟨fun _ h => h, fun _ _ => rfl, fun _ _ _ => rfl, fun _ _ h => absurd rfl h⟩

theorem UF.halve {N : Nat} {L ρ d : Nat → Nat} (h : UF N L ρ d) {n : Nat} (hn : n < N) : UF N (fun x => if x = n then L (L n) else L x) ρ d := by
  refine ⟨fun x hx => ?_, fun x hx => ?_, fun x hx e => ?_, fun x hx e => ?_⟩
  · by_cases q : x = n
    · rw [if_pos q]; exact h.lt _ (h.lt _ hn)
    · rw [if_neg q]; exact h.lt x hx
  · by_cases q : x = n
    · subst q; rw [if_pos rfl, h.rt _ (h.lt _ hn), h.rt _ hn]
    · rw [if_neg q]; exact h.rt x hx
  · by_cases q : x = n
    · subst q
      rw [if_pos rfl] at e
      refine h.fix x hx ?_
      by_cases e1 : L x = x
      · exact e1
      · exfalso
        have h1 := h.dn x hx e1
        by_cases e2 : L (L x) = L x
        · rw [e2] at e; exact e1 e
        · have h2 := h.dn (L x) (h.lt x hx) e2
          rw [e] at h2; omega
    · rw [if_neg q] at e; exact h.fix x hx e
  · by_cases q : x = n
    · subst q
      rw [if_pos rfl] at e ⊢
      by_cases e1 : L x = x
      · rw [e1, e1] at e; exact absurd rfl e
      · have h1 := h.dn x hx e1
        by_cases e2 : L (L x) = L x
        · rw [e2]; exact h1
        · have h2 := h.dn (L x) (h.lt x hx) e2; omega
    · rw [if_neg q] at e ⊢; exact h.dn x hx e

/-- a's class goes to b's. -/
def join (ρ : Nat → Nat) (a b : Nat) : Nat → Nat := fun n => if ρ n = a then b else ρ n

theorem UF.merge {N : Nat} {L ρ d : Nat → Nat} (h : UF N L ρ d) {a b : Nat} (ha : a < N) (hb : b < N) (la : L a = a) (lb : L b = b) (hne : a ≠ b) :
    UF N (fun x => if x = a then b else L x) (join ρ a b) (fun n => if ρ n = a then d n + d b + 1 else d n) := by
  have ra := h.fix a ha la
  have rb := h.fix b hb lb
  refine ⟨fun x hx => ?_, fun x hx => ?_, fun x hx e => ?_, fun x hx e => ?_⟩
  · by_cases q : x = a
    · rw [if_pos q]; exact hb
    · rw [if_neg q]; exact h.lt x hx
  · unfold join
    by_cases q : x = a
    · subst q; rw [if_pos rfl, rb, ra, if_pos rfl, if_neg (fun e => hne e.symm)]
    · rw [if_neg q, h.rt x hx]
  · unfold join
    by_cases q : x = a
    · rw [if_pos q] at e; exact absurd (q.symm.trans e.symm) hne
    · rw [if_neg q] at e
      have := h.fix x hx e
      rw [this, if_neg q]
  · by_cases q : x = a
    · subst q
      simp only [if_true, rb, ra]
      rw [if_neg (fun e => hne e.symm)]; omega
    · simp only [if_neg q] at e ⊢
      have h1 := h.dn x hx e
      rw [h.rt x hx]
      by_cases q2 : ρ x = a
      · rw [if_pos q2, if_pos q2]; omega
      · rw [if_neg q2, if_neg q2]; exact h1

/-- A pair that is come to: known, or the next. -/
def addP (ord : List (Nat × Nat)) (p : Nat × Nat) : List (Nat × Nat) := if ord.contains p then ord else ord ++ [p]

theorem mem_addP {ord : List (Nat × Nat)} {p q : Nat × Nat} : q ∈ addP ord p ↔ q ∈ ord ∨ q = p := by
  unfold addP
  by_cases h : ord.contains p
  · rw [if_pos h]
    have : p ∈ ord := by simpa using h
    exact ⟨Or.inl, fun x => x.elim id (fun e => e ▸ this)⟩
  · rw [if_neg h]; simp

theorem addP_nodup {ord : List (Nat × Nat)} {p : Nat × Nat} (h : ord.Nodup) : (addP ord p).Nodup := by
  unfold addP
  by_cases hc : ord.contains p
  · rw [if_pos hc]; exact h
  · rw [if_neg hc]
    have hn : p ∉ ord := by simpa using hc
    rw [List.nodup_append]
    exact ⟨h, by simp, fun x hx y hy => by simp at hy; subst hy; exact fun e => hn (e ▸ hx)⟩

theorem addP_get {ord : List (Nat × Nat)} {p : Nat × Nat} {j : Nat} (hj : j < ord.length) : (addP ord p)[j]? = ord[j]? := by
  unfold addP
  by_cases hc : ord.contains p
  · rw [if_pos hc]
  · rw [if_neg hc, List.getElem?_append_left hj]

theorem addP_le (ord : List (Nat × Nat)) (p : Nat × Nat) : ord.length ≤ (addP ord p).length ∧ (addP ord p).length ≤ ord.length + 1 := by
  unfold addP
  by_cases hc : ord.contains p
  · rw [if_pos hc]; omega
  · rw [if_neg hc]; simp

/-- What is known of the pairs that were come to: i of them are gone through. -/
structure Inv (N : Nat) (G : Nat → ND) (a0 b0 : Nat) (ord : List (Nat × Nat)) (i : Nat) (ρ : Nat → Nat) (M : List (Nat × Nat)) : Prop where
  bound : ∀ q, q ∈ ord → q.1 < N ∧ q.2 < N
  nodup : ord.Nodup
  first : (a0, b0) ∈ ord
  forced : Same N G a0 b0 → ∀ q, q ∈ ord → Same N G q.1 q.2
  joined : ∀ j, j < i → ∀ q, ord[j]? = some q → ρ q.1 = ρ q.2
  gen : ∀ R : Nat → Nat → Prop, (∀ x, R x x) → (∀ x y, R x y → R y x) → (∀ x y z, R x y → R y z → R x z) → (∀ q, q ∈ M → R q.1 q.2) → ∀ x y, x < N → y < N → ρ x = ρ y → R x y
  kids : ∀ q, q ∈ M → Lab (G q.1) (G q.2) ∧ ∀ j, j < (G q.1).nk → (kid (G q.1) j, kid (G q.2) j) ∈ ord

theorem Inv.start {N : Nat} {G : Nat → ND} {a b : Nat} (ha : a < N) (hb : b < N) : Inv N G a b [(a, b)] 0 (fun n => n) [] :=
  ⟨fun q h => by simp at h; subst h; exact ⟨ha, hb⟩, by simp, by simp, fun hs q h => by simp at h; subst h; exact hs, fun j h => absurd h (Nat.not_lt_zero _),
    fun R hr _ _ _ x y _ _ e => by subst e; exact hr x, fun q h => by simp at h⟩

theorem sum_same {α : Type} (c : Nat) : ∀ l : List α, (l.map fun _ => c).sum = l.length * c
  | [] => by simp
  | _ :: t => by rw [List.map_cons, List.sum_cons, sum_same c t, List.length_cons, Nat.add_mul]; omega

theorem pairs_len (N : Nat) : ((List.range N).flatMap fun x => (List.range N).map fun y => (x, y)).length = N * N := by
  rw [List.length_flatMap]
  simp only [List.length_map, List.length_range]
  rw [sum_same, List.length_range]

theorem Inv.len {N : Nat} {G : Nat → ND} {a0 b0 i : Nat} {ord M : List (Nat × Nat)} {ρ : Nat → Nat} (h : Inv N G a0 b0 ord i ρ M) : ord.length ≤ N * N := by
  rw [← pairs_len N]
  refine nodup_len h.nodup (fun q hq => ?_)
  have := h.bound q hq
  exact List.mem_flatMap.2 ⟨q.1, List.mem_range.2 this.1, List.mem_map.2 ⟨q.2, List.mem_range.2 this.2, rfl⟩⟩

/-- The pair follows from earlier ones. -/
theorem Inv.known {N : Nat} {G : Nat → ND} {a0 b0 i : Nat} {ord M : List (Nat × Nat)} {ρ : Nat → Nat} (h : Inv N G a0 b0 ord i ρ M) {q : Nat × Nat} (hq : ord[i]? = some q) (e : ρ q.1 = ρ q.2) : Inv N G a0 b0 ord (i + 1) ρ M :=
  ⟨h.bound, h.nodup, h.first, h.forced, fun j hj x hx => by
    by_cases q2 : j = i
    · subst q2; rw [hq] at hx; cases hx; exact e
    · exact h.joined j (by omega) x hx, h.gen, h.kids⟩

/-- It is told apart: so is the first. -/
theorem Inv.apart {N : Nat} {G : Nat → ND} {a0 b0 i : Nat} {ord M : List (Nat × Nat)} {ρ : Nat → Nat} (h : Inv N G a0 b0 ord i ρ M) {q : Nat × Nat} (hq : ord[i]? = some q) (hl : ¬ Lab (G q.1) (G q.2)) : ¬ Same N G a0 b0 := fun hs => by
  have hm : q ∈ ord := List.mem_of_getElem? hq
  exact hl ((h.forced hs q hm).lab (h.bound q hm).1 (h.bound q hm).2)

/-- The first k kids of a pair are come to. -/
def addKids (x y : ND) (ord : List (Nat × Nat)) : Nat → List (Nat × Nat)
  | 0 => ord
  | k + 1 => addP (addKids x y ord k) (kid x k, kid y k)

theorem mem_addKids {x y : ND} {ord : List (Nat × Nat)} {q : Nat × Nat} : ∀ {k : Nat}, q ∈ addKids x y ord k ↔ q ∈ ord ∨ ∃ j, j < k ∧ q = (kid x j, kid y j)
  | 0 => by simp [addKids]
  | k + 1 => by
    unfold addKids
    rw [mem_addP, mem_addKids]
    constructor
    · rintro ((h | ⟨j, hj, e⟩) | e)
      · exact Or.inl h
      · exact Or.inr ⟨j, by omega, e⟩
      · exact Or.inr ⟨k, by omega, e⟩
    · rintro (h | ⟨j, hj, e⟩)
      · exact Or.inl (Or.inl h)
      · by_cases q2 : j = k
        · subst q2; exact Or.inr e
        · exact Or.inl (Or.inr ⟨j, by omega, e⟩)
theorem addKids_nodup {x y : ND} {ord : List (Nat × Nat)} (h : ord.Nodup) : ∀ k, (addKids x y ord k).Nodup
  | 0 => h
  | k + 1 => addP_nodup (addKids_nodup h k)
theorem addKids_le (x y : ND) (ord : List (Nat × Nat)) : ∀ k, ord.length ≤ (addKids x y ord k).length ∧ (addKids x y ord k).length ≤ ord.length + k
  | 0 => by simp [addKids]
  | k + 1 => by
    have h1 := addKids_le x y ord k
    have h2 := addP_le (addKids x y ord k) (kid x k, kid y k)
    simp only [addKids]; omega
theorem addKids_get {x y : ND} {ord : List (Nat × Nat)} {j : Nat} (hj : j < ord.length) : ∀ k, (addKids x y ord k)[j]? = ord[j]?
  | 0 => rfl
  | k + 1 => by
    simp only [addKids]
    rw [addP_get (by have := addKids_le x y ord k; omega)]
    exact addKids_get hj k

/-- It is joined, and its kids are come to. -/
theorem Inv.merged {N : Nat} {G : Nat → ND} {a0 b0 i : Nat} {ord M : List (Nat × Nat)} {ρ : Nat → Nat} (hK : Kids N G) (h : Inv N G a0 b0 ord i ρ M) {q : Nat × Nat} (hq : ord[i]? = some q) (hl : Lab (G q.1) (G q.2)) (hne : ρ q.1 ≠ ρ q.2) :
    Inv N G a0 b0 (addKids (G q.1) (G q.2) ord (G q.1).nk) (i + 1) (join ρ (ρ q.1) (ρ q.2)) (q :: M) := by
  have hm : q ∈ ord := List.mem_of_getElem? hq
  have hb := h.bound q hm
  have hil : i < ord.length := by
    obtain ⟨hlt, _⟩ := List.getElem?_eq_some_iff.1 hq; exact hlt
  refine ⟨fun x hx => ?_, addKids_nodup h.nodup _, mem_addKids.2 (Or.inl h.first), fun hs x hx => ?_, fun j hj x hx => ?_, fun R h1 h2 h3 h4 x y hx hy e => ?_, fun x hx => ?_⟩
  · rcases mem_addKids.1 hx with hx | ⟨j, hj, rfl⟩
    · exact h.bound x hx
    · exact ⟨hK.lt hb.1 hj, hK.lt hb.2 (by rw [← hl.nk]; exact hj)⟩
  · rcases mem_addKids.1 hx with hx | ⟨j, hj, rfl⟩
    · exact h.forced hs x hx
    · exact (h.forced hs q hm).kid hb.1 hb.2 hj
  · rw [addKids_get (by omega)] at hx
    unfold join
    by_cases q2 : j = i
    · subst q2
      rw [hq] at hx; cases hx
      rw [if_pos rfl, if_neg (fun e => hne e.symm)]
    · rw [h.joined j (by omega) x hx]
  · have hM : ∀ z, z ∈ M → R z.1 z.2 := fun z hz => h4 z (List.mem_cons_of_mem _ hz)
    have hq0 : R q.1 q.2 := h4 q List.mem_cons_self
    have g := h.gen R h1 h2 h3 hM
    unfold join at e
    by_cases ex : ρ x = ρ q.1
    · rw [if_pos ex] at e
      by_cases ey : ρ y = ρ q.1
      · exact g x y hx hy (ex.trans ey.symm)
      · rw [if_neg ey] at e
        exact h3 _ _ _ (g x q.1 hx hb.1 ex) (h3 _ _ _ hq0 (g q.2 y hb.2 hy e))
    · rw [if_neg ex] at e
      by_cases ey : ρ y = ρ q.1
      · rw [if_pos ey] at e
        exact h3 _ _ _ (g x q.2 hx hb.2 e) (h3 _ _ _ (h2 _ _ hq0) (g q.1 y hb.1 hy ey.symm))
      · rw [if_neg ey] at e
        exact g x y hx hy e
  · rcases List.mem_cons.1 hx with rfl | hx
    · exact ⟨hl, fun j hj => mem_addKids.2 (Or.inr ⟨j, hj, rfl⟩)⟩
    · exact ⟨(h.kids x hx).1, fun j hj => mem_addKids.2 (Or.inl ((h.kids x hx).2 j hj))⟩

/-- All are gone through: the first pair is the same type. -/
theorem Inv.done {N : Nat} {G : Nat → ND} {a0 b0 i : Nat} {ord M : List (Nat × Nat)} {ρ : Nat → Nat} (h : Inv N G a0 b0 ord i ρ M) (hi : ord.length ≤ i) : Same N G a0 b0 := by
  have hj : ∀ q, q ∈ ord → ρ q.1 = ρ q.2 := fun q hq => by
    obtain ⟨j, hj, e⟩ := List.getElem_of_mem hq
    exact h.joined j (by omega) q (by rw [List.getElem?_eq_getElem hj, e])
  have hb0 := h.bound _ h.first
  refine ⟨fun x y => ρ x = ρ y, fun x y hx hy e => ?_, hj _ h.first⟩
  exact h.gen (fun x y => Lab (G x) (G y) ∧ ∀ j, j < (G x).nk → ρ (kid (G x) j) = ρ (kid (G y) j)) (fun x => ⟨Lab.refl _, fun _ _ => rfl⟩)
    (fun x y hxy => ⟨hxy.1.symm, fun j hj => (hxy.2 j (by rw [hxy.1.nk]; exact hj)).symm⟩)
    (fun x y z hxy hyz => ⟨hxy.1.trans hyz.1, fun j hj => (hxy.2 j hj).trans (hyz.2 j (by rw [← hxy.1.nk]; exact hj))⟩)
    (fun q hq => ⟨(h.kids q hq).1, fun j hj' => hj _ ((h.kids q hq).2 j hj')⟩) x y hx hy e

end Go.Proofs.Ytdgbcblajgmpcaa
