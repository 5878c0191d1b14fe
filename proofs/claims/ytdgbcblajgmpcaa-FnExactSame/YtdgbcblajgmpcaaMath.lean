/-
  Same types, told without a program: bisimilar nodes, the rounds that part them, and the leaders that join them.
-/
import Derived.Test.YtdgbcblajgmpcaaPure
namespace Go.Proofs.Ytdgbcblajgmpcaa

/-! ### counting -/

theorem nodup_len {α : Type} [BEq α] [LawfulBEq α] : ∀ {l l' : List α}, l.Nodup → (∀ x, x ∈ l → x ∈ l') → l.length ≤ l'.length
  | [], _, _, _ => Nat.zero_le _
  | x :: t, l', hn, hs => by
    have hx : x ∈ l' := hs x (List.mem_cons_self)
    have hn' := List.nodup_cons.1 hn
    have ht : ∀ y, y ∈ t → y ∈ l'.erase x := fun y hy => by
      have hne : y ≠ x := fun e => hn'.1 (e ▸ hy)
      exact (List.mem_erase_of_ne hne).2 (hs y (List.mem_cons_of_mem _ hy))
    have := nodup_len hn'.2 ht
    rw [List.length_erase_of_mem hx] at this
    have hp : 0 < l'.length := List.length_pos_of_mem hx
    simp only [List.length_cons]
    omega

/-- Onto: no more are met than there are. -/
theorem onto_le {k m : Nat} {f : Nat → Nat} (h : ∀ v, v < k → ∃ u, u < m ∧ f u = v) : k ≤ m := by
  have := nodup_len (l := List.range k) (l' := (List.range m).map f) List.nodup_range (fun v hv => by
    obtain ⟨u, hu, e⟩ := h v (List.mem_range.1 hv)
    exact List.mem_map.2 ⟨u, List.mem_range.2 hu, e⟩)
  simpa using this

/-- Onto, and as many: no two meet. -/
theorem onto_inj {k : Nat} {f : Nat → Nat} (h : ∀ v, v < k → ∃ u, u < k ∧ f u = v) {a b : Nat} (ha : a < k) (hb : b < k) (e : f a = f b) : a = b := by
  by_cases hab : a = b
  · exact hab
  exfalso
  have := nodup_len (l := List.range k) (l' := ((List.range k).erase a).map f) List.nodup_range (fun v hv => by
    obtain ⟨u, hu, e'⟩ := h v (List.mem_range.1 hv)
    by_cases hua : u = a
    · exact List.mem_map.2 ⟨b, (List.mem_erase_of_ne (fun x => hab x.symm)).2 (List.mem_range.2 hb), by rw [← e, ← hua]; exact e'⟩
    · exact List.mem_map.2 ⟨u, (List.mem_erase_of_ne hua).2 (List.mem_range.2 hu), e'⟩)
  rw [List.length_map, List.length_erase_of_mem (List.mem_range.2 ha), List.length_range] at this
  omega

/-! ### same types -/

/-- The kid at a place, as a number of a node. -/
def kid (d : ND) (j : Nat) : Nat := (d.kd j).toNat

/-- One kind, the same names, as many kids. -/
structure Lab (x y : ND) : Prop where
  kind : x.kind = y.kind
  nn : x.nn = y.nn
  nm : ∀ j, j < x.nn → x.nm j = y.nm j
  nk : x.nk = y.nk

theorem Lab.refl (x : ND) : Lab x x := ⟨rfl, rfl, fun _ _ => rfl, rfl⟩
theorem Lab.symm {x y : ND} (h : Lab x y) : Lab y x := ⟨h.kind.symm, h.nn.symm, fun j hj => (h.nm j (by rw [h.nn]; exact hj)).symm, h.nk.symm⟩
theorem Lab.trans {x y z : ND} (h : Lab x y) (k : Lab y z) : Lab x z :=
  ⟨h.kind.trans k.kind, h.nn.trans k.nn, fun j hj => (h.nm j hj).trans (k.nm j (by rw [← h.nn]; exact hj)), h.nk.trans k.nk⟩

/-- Every kid of every node is the number of a node. -/
def Kids (N : Nat) (G : Nat → ND) : Prop := ∀ i, i < N → ∀ j, j < (G i).nk → 0 ≤ (G i).kd j ∧ (G i).kd j < N
theorem Kids.lt {N : Nat} {G : Nat → ND} (h : Kids N G) {i j : Nat} (hi : i < N) (hj : j < (G i).nk) : kid (G i) j < N := by
  have := h i hi j hj; unfold kid; omega

/-- A relation that nothing tells apart. -/
def Bis (N : Nat) (G : Nat → ND) (R : Nat → Nat → Prop) : Prop :=
  ∀ a b, a < N → b < N → R a b → Lab (G a) (G b) ∧ ∀ j, j < (G a).nk → R (kid (G a) j) (kid (G b) j)
def Same (N : Nat) (G : Nat → ND) (a b : Nat) : Prop := ∃ R, Bis N G R ∧ R a b

theorem Same.lab {N : Nat} {G : Nat → ND} {a b : Nat} (ha : a < N) (hb : b < N) (h : Same N G a b) : Lab (G a) (G b) := by
  obtain ⟨R, hR, hab⟩ := h; exact (hR a b ha hb hab).1
theorem Same.kid {N : Nat} {G : Nat → ND} {a b j : Nat} (ha : a < N) (hb : b < N) (h : Same N G a b) (hj : j < (G a).nk) : Same N G (kid (G a) j) (kid (G b) j) := by
  obtain ⟨R, hR, hab⟩ := h; exact ⟨R, hR, (hR a b ha hb hab).2 j hj⟩

/-! ### the rounds -/

/-- Alike under a numbering of the nodes. -/
structure Alike (G : Nat → ND) (cl : Nat → Nat) (a b : Nat) : Prop where
  lab : Lab (G a) (G b)
  kids : ∀ j, j < (G a).nk → cl (kid (G a) j) = cl (kid (G b) j)

theorem Alike.refl (G : Nat → ND) (cl : Nat → Nat) (a : Nat) : Alike G cl a a := ⟨Lab.refl _, fun _ _ => rfl⟩
theorem Alike.symm {G : Nat → ND} {cl : Nat → Nat} {a b : Nat} (h : Alike G cl a b) : Alike G cl b a := ⟨h.lab.symm, fun j hj => (h.kids j (by rw [h.lab.nk]; exact hj)).symm⟩
theorem Alike.trans {G : Nat → ND} {cl : Nat → Nat} {a b c : Nat} (h : Alike G cl a b) (k : Alike G cl b c) : Alike G cl a c :=
  ⟨h.lab.trans k.lab, fun j hj => (h.kids j hj).trans (k.kids j (by rw [← h.lab.nk]; exact hj))⟩

/-- Of one class, and alike. -/
def Eqv (G : Nat → ND) (cl : Nat → Nat) (a b : Nat) : Prop := cl a = cl b ∧ Alike G cl a b
theorem Eqv.symm {G : Nat → ND} {cl : Nat → Nat} {a b : Nat} (h : Eqv G cl a b) : Eqv G cl b a := ⟨h.1.symm, h.2.symm⟩
theorem Eqv.trans {G : Nat → ND} {cl : Nat → Nat} {a b c : Nat} (h : Eqv G cl a b) (k : Eqv G cl b c) : Eqv G cl a c := ⟨h.1.trans k.1, h.2.trans k.2⟩
theorem Eqv.refl (G : Nat → ND) (cl : Nat → Nat) (a : Nat) : Eqv G cl a a := ⟨rfl, Alike.refl _ _ _⟩

/-- The first i nodes have their new numbers nx, of cnt classes, whose first nodes are f. -/
structure Part (G : Nat → ND) (cl : Nat → Nat) (i : Nat) (nx : Nat → Nat) (cnt : Nat) (f : Nat → Nat) : Prop where
  lt : ∀ a, a < i → nx a < cnt
  eqv : ∀ a, a < i → Eqv G cl (f (nx a)) a
  first : ∀ c, c < cnt → f c < i ∧ nx (f c) = c
  apart : ∀ c c', c < cnt → c' < cnt → Eqv G cl (f c) (f c') → c = c'

theorem Part.zero (G : Nat → ND) (cl nx f : Nat → Nat) : Part G cl 0 nx 0 f :=
  ⟨fun _ h => absurd h (Nat.not_lt_zero _), fun _ h => absurd h (Nat.not_lt_zero _), fun _ h => absurd h (Nat.not_lt_zero _), fun _ _ h => absurd h (Nat.not_lt_zero _)⟩

/-- The next node belongs to a class that is there. -/
theorem Part.old {G : Nat → ND} {cl nx f : Nat → Nat} {i cnt c : Nat} (h : Part G cl i nx cnt f) (hc : c < cnt) (he : Eqv G cl (f c) i) :
    Part G cl (i + 1) (fun a => if a = i then c else nx a) cnt f := by
  refine ⟨fun a ha => ?_, fun a ha => ?_, fun d hd => ?_, h.apart⟩
  · by_cases e : a = i
    · rw [if_pos e]; exact hc
    · rw [if_neg e]; exact h.lt a (by omega)
  · by_cases e : a = i
    · subst e; rw [if_pos rfl]; exact he
    · rw [if_neg e]; exact h.eqv a (by omega)
  · have := h.first d hd
    exact ⟨by omega, by rw [if_neg (by omega)]; exact this.2⟩

/-- It begins a class. -/
theorem Part.fresh {G : Nat → ND} {cl nx f : Nat → Nat} {i cnt : Nat} (h : Part G cl i nx cnt f) (he : ∀ c, c < cnt → ¬ Eqv G cl (f c) i) :
    Part G cl (i + 1) (fun a => if a = i then cnt else nx a) (cnt + 1) (fun c => if c = cnt then i else f c) := by
  refine ⟨fun a ha => ?_, fun a ha => ?_, fun d hd => ?_, fun d d' hd hd' hh => ?_⟩
  · by_cases e : a = i
    · rw [if_pos e]; omega
    · rw [if_neg e]; have := h.lt a (by omega); omega
  · by_cases e : a = i
    · subst e; simp only [if_true]; exact Eqv.refl _ _ _
    · have := h.lt a (by omega)
      simp only [if_neg e]; rw [if_neg (by omega)]; exact h.eqv a (by omega)
  · by_cases e : d = cnt
    · subst e; simp
    · have := h.first d (by omega)
      simp only [if_neg e]
      exact ⟨by omega, by rw [if_neg (by omega)]; exact this.2⟩
  · by_cases e : d = cnt
    · by_cases e' : d' = cnt
      · omega
      · simp only [if_pos e, if_neg e'] at hh
        exact absurd hh.symm (he d' (by omega))
    · by_cases e' : d' = cnt
      · simp only [if_neg e, if_pos e'] at hh
        exact absurd hh (he d (by omega))
      · simp only [if_neg e, if_neg e'] at hh
        exact h.apart d d' (by omega) (by omega) hh

theorem Part.iff {G : Nat → ND} {cl nx f : Nat → Nat} {i cnt : Nat} (h : Part G cl i nx cnt f) {a b : Nat} (ha : a < i) (hb : b < i) : nx a = nx b ↔ Eqv G cl a b := by
  constructor
  · intro e
    have h1 := h.eqv a ha
    rw [e] at h1
    exact h1.symm.trans (h.eqv b hb)
  · intro e
    exact h.apart _ _ (h.lt a ha) (h.lt b hb) ((h.eqv a ha).trans (e.trans (h.eqv b hb).symm))

/-- What holds ahead of a round: the same types are of one class; from the second round on, every number below count is a class, and there are at least as many as rounds. -/
structure Rnd (N : Nat) (G : Nat → ND) (cl : Nat → Nat) (r count : Nat) : Prop where
  same : ∀ a b, a < N → b < N → Same N G a b → cl a = cl b
  lt : 0 < r → ∀ a, a < N → cl a < count
  onto : 0 < r → ∀ v, v < count → ∃ a, a < N ∧ cl a = v
  many : 0 < r → 0 < N → r ≤ count

theorem Rnd.start (N : Nat) (G : Nat → ND) : Rnd N G (fun _ => 0) 0 1 :=
  ⟨fun _ _ _ _ _ => rfl, fun h => absurd h (Nat.lt_irrefl _), fun h => absurd h (Nat.lt_irrefl _), fun h => absurd h (Nat.lt_irrefl _)⟩

theorem Rnd.sames {N : Nat} {G : Nat → ND} {cl nx f : Nat → Nat} {r count cnt : Nat} (hK : Kids N G) (h : Rnd N G cl r count) (p : Part G cl N nx cnt f) :
    ∀ a b, a < N → b < N → Same N G a b → nx a = nx b := fun a b ha hb hs =>
  (p.iff ha hb).2 ⟨h.same a b ha hb hs, hs.lab ha hb, fun j hj => h.same _ _ (hK.lt ha hj) (hK.lt hb (by rw [← (hs.lab ha hb).nk]; exact hj)) (hs.kid ha hb hj)⟩

theorem Part.onto {G : Nat → ND} {cl nx f : Nat → Nat} {N cnt : Nat} (p : Part G cl N nx cnt f) : ∀ v, v < cnt → ∃ a, a < N ∧ nx a = v := fun v hv => ⟨f v, (p.first v hv).1, (p.first v hv).2⟩

/-- The old classes are no more than the new ones. -/
theorem Rnd.grow {N : Nat} {G : Nat → ND} {cl nx f : Nat → Nat} {r count cnt : Nat} (h : Rnd N G cl r count) (hr : 0 < r) (p : Part G cl N nx cnt f) : ∀ v, v < count → ∃ u, u < cnt ∧ cl (f u) = v := fun v hv => by
  obtain ⟨a, ha, e⟩ := h.onto hr v hv
  exact ⟨nx a, p.lt a ha, by rw [(p.eqv a ha).1]; exact e⟩

/-- As many classes as before: they are those of the same types. -/
theorem Rnd.done {N : Nat} {G : Nat → ND} {cl nx f : Nat → Nat} {r count cnt : Nat} (hK : Kids N G) (h : Rnd N G cl r count) (hr : 0 < r) (p : Part G cl N nx cnt f) (he : cnt = count) :
    ∀ a b, a < N → b < N → (nx a = nx b ↔ Same N G a b) := by
  subst he
  have back : ∀ a b, a < N → b < N → cl a = cl b → nx a = nx b := fun a b ha hb e => by
    refine onto_inj (f := fun u => cl (f u)) (h.grow hr p) (p.lt a ha) (p.lt b hb) ?_
    show cl (f (nx a)) = cl (f (nx b))
    rw [(p.eqv a ha).1, (p.eqv b hb).1, e]
  refine fun a b ha hb => ⟨fun e => ⟨fun x y => nx x = nx y, fun x y hx hy hxy => ?_, e⟩, h.sames hK p a b ha hb⟩
  have q := (p.iff hx hy).1 hxy
  exact ⟨q.2.lab, fun j hj => back _ _ (hK.lt hx hj) (hK.lt hy (by rw [← q.2.lab.nk]; exact hj)) (q.2.kids j hj)⟩

/-- Another number of classes: the next round. -/
theorem Rnd.next {N : Nat} {G : Nat → ND} {cl nx f : Nat → Nat} {r count cnt : Nat} (hK : Kids N G) (h : Rnd N G cl r count) (p : Part G cl N nx cnt f) (he : ¬ (cnt = count ∧ 0 < r)) : Rnd N G nx (r + 1) cnt := by
  refine ⟨h.sames hK p, fun _ => p.lt, fun _ => p.onto, fun _ hN => ?_⟩
  by_cases hr : 0 < r
  · have := onto_le (h.grow hr p)
    have := h.many hr hN
    omega
  · have := p.lt 0 hN
    omega

/-- There are no more rounds than nodes. -/
theorem Rnd.last {N : Nat} {G : Nat → ND} {cl : Nat → Nat} {count : Nat} (h : Rnd N G cl (N + 1) count) : N = 0 := by
  by_cases hN : N = 0
  · exact hN
  have h1 := h.many (by omega) (by omega)
  have h2 := onto_le (h.onto (by omega))
  omega

end Go.Proofs.Ytdgbcblajgmpcaa
