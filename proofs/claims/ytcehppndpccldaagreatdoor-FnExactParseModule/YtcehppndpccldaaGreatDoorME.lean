/-
  Merged for the claim: PhE PhF PhG PhH.
-/
import Derived.Test.YtcehppndpccldaaGreatDoorMD
namespace Go.Proofs.YtcehppndpccldaaGreatDoor
open Go.RowKit

/-- The block of a list. -/
def vb (v : Value) : Nat := v.ownBlock.getD 0
def lT (b i : Nat) (x : TI × NPl) : List LA := (b, i * 4, false) :: (b, i * 4 + 1, true) :: (b, i * 4 + 2, true) :: lN x.2 x.1.ns.length
def lTs (b : Nat) : Nat → List (TI × NPl) → List LA
  | _, [] => []
  | i, x :: xs => lT b i x ++ lTs b (i + 1) xs
def hT (b i : Nat) (x : TI × NPl) : List (Nat × Nat × Value) := [(b, i * 4 + 3, .slice x.2.a x.1.ns.length x.2.c)]
def hTs (b : Nat) : Nat → List (TI × NPl) → List (Nat × Nat × Value)
  | _, [] => []
  | i, x :: xs => hT b i x ++ hTs b (i + 1) xs
def lE (b i : Nat) (x : EI × EPl) : List LA := (b, i * 6, false) :: (b, i * 6 + 1, false) :: (b, i * 6 + 2, true) :: (b, i * 6 + 3, true) :: (lN x.2.np x.1.ns.length ++ lTs (vb x.2.tv) 0 x.2.zs)
def lEs (b : Nat) : Nat → List (EI × EPl) → List LA
  | _, [] => []
  | i, x :: xs => lE b i x ++ lEs b (i + 1) xs
def hE (b i : Nat) (x : EI × EPl) : List (Nat × Nat × Value) := (b, i * 6 + 4, .slice x.2.np.a x.1.ns.length x.2.np.c) :: (b, i * 6 + 5, x.2.tv) :: hTs (vb x.2.tv) 0 x.2.zs
def hEs (b : Nat) : Nat → List (EI × EPl) → List (Nat × Nat × Value)
  | _, [] => []
  | i, x :: xs => hE b i x ++ hEs b (i + 1) xs
def lD (b i : Nat) (x : DC × DPl) : List LA := (b, i * 4, false) :: (b, i * 4 + 1, true) :: (lTs (vb x.2.tv) 0 x.2.zs ++ lEs (vb x.2.ev) 0 x.2.es)
def lDs (b : Nat) : Nat → List (DC × DPl) → List LA
  | _, [] => []
  | i, x :: xs => lD b i x ++ lDs b (i + 1) xs
def hD (b i : Nat) (x : DC × DPl) : List (Nat × Nat × Value) := (b, i * 4 + 2, x.2.tv) :: (b, i * 4 + 3, x.2.ev) :: (hTs (vb x.2.tv) 0 x.2.zs ++ hEs (vb x.2.ev) 0 x.2.es)
def hDs (b : Nat) : Nat → List (DC × DPl) → List (Nat × Nat × Value)
  | _, [] => []
  | i, x :: xs => hD b i x ++ hDs b (i + 1) xs

theorem lTs_app (b : Nat) : ∀ (xs ys : List (TI × NPl)) (i : Nat), lTs b i (xs ++ ys) = lTs b i xs ++ lTs b (i + xs.length) ys
  | [], ys, i => by simp [lTs]
  | x :: xs, ys, i => by rw [List.cons_append, lTs, lTs, lTs_app b xs, List.append_assoc, List.length_cons, show i + 1 + xs.length = i + (xs.length + 1) by omega]
theorem lEs_app (b : Nat) : ∀ (xs ys : List (EI × EPl)) (i : Nat), lEs b i (xs ++ ys) = lEs b i xs ++ lEs b (i + xs.length) ys
  | [], ys, i => by simp [lEs]
  | x :: xs, ys, i => by rw [List.cons_append, lEs, lEs, lEs_app b xs, List.append_assoc, List.length_cons, show i + 1 + xs.length = i + (xs.length + 1) by omega]
theorem lDs_app (b : Nat) : ∀ (xs ys : List (DC × DPl)) (i : Nat), lDs b i (xs ++ ys) = lDs b i xs ++ lDs b (i + xs.length) ys
  | [], ys, i => by simp [lDs]
  | x :: xs, ys, i => by rw [List.cons_append, lDs, lDs, lDs_app b xs, List.append_assoc, List.length_cons, show i + 1 + xs.length = i + (xs.length + 1) by omega]
theorem mem_hTs (b : Nat) : ∀ (xs : List (TI × NPl)) (i k : Nat) (hk : k < xs.length) (c : Nat × Nat × Value), c ∈ hT b (i + k) xs[k] → c ∈ hTs b i xs
  | x :: xs, i, 0, _, c, hc => by rw [hTs]; exact List.mem_append_left _ hc
  | x :: xs, i, k + 1, hk, c, hc => by
    rw [hTs]
    refine List.mem_append_right _ (mem_hTs b xs (i + 1) k (by simpa using hk) c ?_)
    rw [show i + 1 + k = i + (k + 1) by omega]; exact hc
theorem mem_hEs (b : Nat) : ∀ (xs : List (EI × EPl)) (i k : Nat) (hk : k < xs.length) (c : Nat × Nat × Value), c ∈ hE b (i + k) xs[k] → c ∈ hEs b i xs
  | x :: xs, i, 0, _, c, hc => by rw [hEs]; exact List.mem_append_left _ hc
  | x :: xs, i, k + 1, hk, c, hc => by
    rw [hEs]
    refine List.mem_append_right _ (mem_hEs b xs (i + 1) k (by simpa using hk) c ?_)
    rw [show i + 1 + k = i + (k + 1) by omega]; exact hc
theorem mem_hDs (b : Nat) : ∀ (xs : List (DC × DPl)) (i k : Nat) (hk : k < xs.length) (c : Nat × Nat × Value), c ∈ hD b (i + k) xs[k] → c ∈ hDs b i xs
  | x :: xs, i, 0, _, c, hc => by rw [hDs]; exact List.mem_append_left _ hc
  | x :: xs, i, k + 1, hk, c, hc => by
    rw [hDs]
    refine List.mem_append_right _ (mem_hDs b xs (i + 1) k (by simpa using hk) c ?_)
    rw [show i + 1 + k = i + (k + 1) by omega]; exact hc

/- Where the cells lie. -/
theorem in_lT {b i : Nat} {x : TI × NPl} {a : LA} (h : a ∈ lT b i x) : (a.1 = b ∧ i * 4 ≤ a.2.1 ∧ a.2.1 < i * 4 + 3) ∨ a.1 ∈ tiB x := by
  unfold lT at h
  simp only [List.mem_cons] at h
  rcases h with rfl | rfl | rfl | h
  · exact Or.inl ⟨rfl, by show i * 4 ≤ i * 4; omega, by show i * 4 < _; omega⟩
  · exact Or.inl ⟨rfl, by show i * 4 ≤ i * 4 + 1; omega, by show i * 4 + 1 < _; omega⟩
  · exact Or.inl ⟨rfl, by show i * 4 ≤ i * 4 + 2; omega, by show i * 4 + 2 < _; omega⟩
  · obtain ⟨h1, h2, _⟩ := mem_lN h
    have : x.1.ns ≠ [] := by intro e; rw [e] at h2; exact absurd h2 (Nat.not_lt_zero _)
    exact Or.inr (by unfold tiB; rw [if_neg this, h1]; exact List.mem_singleton.2 rfl)
theorem in_lTs {b : Nat} : ∀ {xs : List (TI × NPl)} {i : Nat} {a : LA}, a ∈ lTs b i xs → (a.1 = b ∧ i * 4 ≤ a.2.1 ∧ a.2.1 % 4 ≠ 3) ∨ a.1 ∈ tisB xs
  | [], _, _, h => by cases h
  | x :: xs, i, a, h => by
    rw [lTs] at h
    rcases List.mem_append.1 h with z | z
    · rcases in_lT z with ⟨h1, h2, h3⟩ | h1
      · exact Or.inl ⟨h1, h2, by omega⟩
      · exact Or.inr (List.mem_flatMap.2 ⟨x, List.mem_cons_self .., h1⟩)
    · rcases in_lTs z with ⟨h1, h2, h3⟩ | h1
      · exact Or.inl ⟨h1, by omega, h3⟩
      · obtain ⟨y, hy, hb⟩ := List.mem_flatMap.1 h1
        exact Or.inr (List.mem_flatMap.2 ⟨y, List.mem_cons_of_mem _ hy, hb⟩)
theorem in_hTs {b : Nat} : ∀ {xs : List (TI × NPl)} {i : Nat} {c : Nat × Nat × Value}, c ∈ hTs b i xs → c.1 = b ∧ c.2.1 % 4 = 3
  | [], _, _, h => by cases h
  | x :: xs, i, c, h => by
    rw [hTs] at h
    rcases List.mem_append.1 h with z | z
    · rw [List.mem_singleton.1 z]; exact ⟨rfl, by show (i * 4 + 3) % 4 = 3; omega⟩
    · exact in_hTs z
theorem nd_lT {b i : Nat} {x : TI × NPl} (hb : b ∉ tiB x) : Nd (lT b i x) := by
  have e : lT b i x = [(b, i * 4, false), (b, i * 4 + 1, true), (b, i * 4 + 2, true)] ++ lN x.2 x.1.ns.length := rfl
  rw [e, Nd.app]
  refine ⟨by unfold Nd ad; simp, lN_nd _ _, fun a ha c hc e => ?_⟩
  obtain ⟨h1, h2, _⟩ := mem_lN hc
  have hn : x.1.ns ≠ [] := by intro e; rw [e] at h2; exact absurd h2 (Nat.not_lt_zero _)
  have e1 := congrArg Prod.fst e
  have ab : a.1 = b := by
    simp only [List.mem_cons, List.not_mem_nil, or_false] at ha
    rcases ha with rfl | rfl | rfl <;> rfl
  apply hb
  unfold tiB
  rw [if_neg hn, List.mem_singleton, ← h1, ← ab]
  exact e1
theorem nd_lTs {b : Nat} : ∀ {xs : List (TI × NPl)} {i : Nat}, b ∉ tisB xs → (tisB xs).Nodup → Nd (lTs b i xs)
  | [], _, _, _ => List.nodup_nil
  | x :: xs, i, hb, hn => by
    have e : tisB (x :: xs) = tiB x ++ tisB xs := rfl
    rw [e] at hb hn
    obtain ⟨n1, n2, n3⟩ := List.nodup_append.1 hn
    rw [lTs, Nd.app]
    refine ⟨nd_lT (fun h => hb (List.mem_append_left _ h)), nd_lTs (fun h => hb (List.mem_append_right _ h)) n2, fun a ha c hc e => ?_⟩
    have e1 := congrArg Prod.fst e
    have e2 := congrArg Prod.snd e
    simp only [ad] at e1 e2
    rcases in_lT ha with ⟨h1, h2, h3⟩ | h1 <;> rcases in_lTs hc with ⟨g1, g2, g3⟩ | g1
    · omega
    · exact hb (List.mem_append_right _ (by rw [← h1, e1]; exact g1))
    · exact hb (List.mem_append_left _ (by rw [← g1, ← e1]; exact h1))
    · exact n3 _ h1 _ g1 e1
theorem sp_T {b i : Nat} {xs : List (TI × NPl)} (hb : b ∉ tisB xs) : Sp (hTs b i xs) (lTs b i xs) := fun c hc a ha e => by
  have e1 := congrArg Prod.fst e
  have e2 := congrArg Prod.snd e
  simp only [ad] at e1 e2
  obtain ⟨h1, h2⟩ := in_hTs hc
  rcases in_lTs ha with ⟨g1, g2, g3⟩ | g1
  · omega
  · exact hb (by rw [← h1, ← e1]; exact g1)

/-- An item's list of types, where there is one, has its block. -/
def BT (v : Value) (n : Nat) : Prop := 0 < n → v.ownBlock = some (vb v)
theorem BT.mem {v : Value} {n : Nat} (h : BT v n) (hn : 0 < n) : vb v ∈ v.ownBlock.toList := by rw [h hn]; exact List.mem_singleton.2 rfl
theorem pos_of_mem {α : Type} {l : List α} {a : α} (h : a ∈ l) : 0 < l.length := List.length_pos_of_mem h
theorem lTs_pos {b i : Nat} {xs : List (TI × NPl)} {a : LA} (h : a ∈ lTs b i xs) : 0 < xs.length := by
  cases xs with
  | nil => cases h
  | cons x xs => simp
theorem hTs_pos {b i : Nat} {xs : List (TI × NPl)} {a : Nat × Nat × Value} (h : a ∈ hTs b i xs) : 0 < xs.length := by
  cases xs with
  | nil => cases h
  | cons x xs => simp
theorem lEs_pos {b i : Nat} {xs : List (EI × EPl)} {a : LA} (h : a ∈ lEs b i xs) : 0 < xs.length := by
  cases xs with
  | nil => cases h
  | cons x xs => simp
theorem hEs_pos {b i : Nat} {xs : List (EI × EPl)} {a : Nat × Nat × Value} (h : a ∈ hEs b i xs) : 0 < xs.length := by
  cases xs with
  | nil => cases h
  | cons x xs => simp

/-- The cells of a list of types lie in its block or its names'. -/
theorem in_lTv {v : Value} {xs : List (TI × NPl)} (hv : BT v xs.length) {i : Nat} {a : LA} (h : a ∈ lTs (vb v) i xs) : a.1 ∈ v.ownBlock.toList ++ tisB xs := by
  rcases in_lTs h with ⟨h1, _⟩ | h1
  · exact List.mem_append_left _ (by rw [h1]; exact hv.mem (lTs_pos h))
  · exact List.mem_append_right _ h1
theorem in_hTv {v : Value} {xs : List (TI × NPl)} (hv : BT v xs.length) {i : Nat} {a : Nat × Nat × Value} (h : a ∈ hTs (vb v) i xs) : a.1 ∈ v.ownBlock.toList := by
  rw [(in_hTs h).1]; exact hv.mem (hTs_pos h)
theorem nd_T {v : Value} {xs : List (TI × NPl)} (hv : BT v xs.length) (hn : (v.ownBlock.toList ++ tisB xs).Nodup) : Nd (lTs (vb v) 0 xs) ∧ Sp (hTs (vb v) 0 xs) (lTs (vb v) 0 xs) := by
  obtain ⟨n1, n2, n3⟩ := List.nodup_append.1 hn
  by_cases hp : 0 < xs.length
  · have hb : vb v ∉ tisB xs := fun h => n3 _ (hv.mem hp) _ h rfl
    exact ⟨nd_lTs hb n2, sp_T hb⟩
  · have : xs = [] := List.length_eq_zero_iff.1 (by omega)
    subst this
    exact ⟨List.nodup_nil, fun c hc => by cases hc⟩

theorem in_lE {b i : Nat} {x : EI × EPl} (hv : BT x.2.tv x.2.zs.length) {a : LA} (h : a ∈ lE b i x) : (a.1 = b ∧ i * 6 ≤ a.2.1 ∧ a.2.1 < i * 6 + 4) ∨ a.1 ∈ eiB x := by
  unfold lE at h
  simp only [List.mem_cons] at h
  rcases h with rfl | rfl | rfl | rfl | h
  · exact Or.inl ⟨rfl, by show i * 6 ≤ i * 6; omega, by show i * 6 < _; omega⟩
  · exact Or.inl ⟨rfl, by show i * 6 ≤ i * 6 + 1; omega, by show i * 6 + 1 < _; omega⟩
  · exact Or.inl ⟨rfl, by show i * 6 ≤ i * 6 + 2; omega, by show i * 6 + 2 < _; omega⟩
  · exact Or.inl ⟨rfl, by show i * 6 ≤ i * 6 + 3; omega, by show i * 6 + 3 < _; omega⟩
  · rcases List.mem_append.1 h with h | h
    · obtain ⟨h1, h2, _⟩ := mem_lN h
      have : x.1.ns ≠ [] := by intro e; rw [e] at h2; exact absurd h2 (Nat.not_lt_zero _)
      exact Or.inr (List.mem_append_left _ (by rw [if_neg this, h1]; exact List.mem_singleton.2 rfl))
    · exact Or.inr (List.mem_append_right _ (in_lTv hv h))
theorem in_lEs {b : Nat} : ∀ {xs : List (EI × EPl)} {i : Nat} {a : LA}, (∀ x, x ∈ xs → BT x.2.tv x.2.zs.length) → a ∈ lEs b i xs → (a.1 = b ∧ i * 6 ≤ a.2.1 ∧ a.2.1 % 6 < 4) ∨ a.1 ∈ eisB xs
  | [], _, _, _, h => by cases h
  | x :: xs, i, a, hv, h => by
    rw [lEs] at h
    rcases List.mem_append.1 h with z | z
    · rcases in_lE (hv x (List.mem_cons_self ..)) z with ⟨h1, h2, h3⟩ | h1
      · exact Or.inl ⟨h1, h2, by omega⟩
      · exact Or.inr (List.mem_flatMap.2 ⟨x, List.mem_cons_self .., h1⟩)
    · rcases in_lEs (fun y hy => hv y (List.mem_cons_of_mem _ hy)) z with ⟨h1, h2, h3⟩ | h1
      · exact Or.inl ⟨h1, by omega, h3⟩
      · obtain ⟨y, hy, hb⟩ := List.mem_flatMap.1 h1
        exact Or.inr (List.mem_flatMap.2 ⟨y, List.mem_cons_of_mem _ hy, hb⟩)
theorem in_hE {b i : Nat} {x : EI × EPl} (hv : BT x.2.tv x.2.zs.length) {c : Nat × Nat × Value} (h : c ∈ hE b i x) : (c.1 = b ∧ 4 ≤ c.2.1 % 6) ∨ (c.1 ∈ x.2.tv.ownBlock.toList ∧ c ∈ hTs (vb x.2.tv) 0 x.2.zs) := by
  unfold hE at h
  simp only [List.mem_cons] at h
  rcases h with rfl | rfl | h
  · exact Or.inl ⟨rfl, by show 4 ≤ (i * 6 + 4) % 6; omega⟩
  · exact Or.inl ⟨rfl, by show 4 ≤ (i * 6 + 5) % 6; omega⟩
  · exact Or.inr ⟨in_hTv hv h, h⟩
theorem in_hEs {b : Nat} : ∀ {xs : List (EI × EPl)} {i : Nat} {c : Nat × Nat × Value}, (∀ x, x ∈ xs → BT x.2.tv x.2.zs.length) → c ∈ hEs b i xs → (c.1 = b ∧ 4 ≤ c.2.1 % 6) ∨ c.1 ∈ eisB xs
  | [], _, _, _, h => by cases h
  | x :: xs, i, c, hv, h => by
    rw [hEs] at h
    rcases List.mem_append.1 h with z | z
    · rcases in_hE (hv x (List.mem_cons_self ..)) z with h1 | ⟨h1, _⟩
      · exact Or.inl h1
      · exact Or.inr (List.mem_flatMap.2 ⟨x, List.mem_cons_self .., List.mem_append_right _ (List.mem_append_left _ h1)⟩)
    · rcases in_hEs (fun y hy => hv y (List.mem_cons_of_mem _ hy)) z with h1 | h1
      · exact Or.inl h1
      · obtain ⟨y, hy, hb⟩ := List.mem_flatMap.1 h1
        exact Or.inr (List.mem_flatMap.2 ⟨y, List.mem_cons_of_mem _ hy, hb⟩)

theorem ns_mem {x : EI × EPl} {a : LA} (h : a ∈ lN x.2.np x.1.ns.length) : a.1 ∈ (if x.1.ns = [] then [] else [x.2.np.b]) := by
  obtain ⟨h1, h2, _⟩ := mem_lN h
  have : x.1.ns ≠ [] := by intro e; rw [e] at h2; exact absurd h2 (Nat.not_lt_zero _)
  rw [if_neg this, h1]; exact List.mem_singleton.2 rfl
theorem nd_lE {b i : Nat} {x : EI × EPl} (hv : BT x.2.tv x.2.zs.length) (hb : b ∉ eiB x) (hn : (eiB x).Nodup) : Nd (lE b i x) ∧ Sp (hE b i x) (lE b i x) := by
  obtain ⟨n1, n2, n3⟩ := List.nodup_append.1 hn
  obtain ⟨t1, t2⟩ := nd_T hv n2
  have e : lE b i x = [(b, i * 6, false), (b, i * 6 + 1, false), (b, i * 6 + 2, true), (b, i * 6 + 3, true)] ++ (lN x.2.np x.1.ns.length ++ lTs (vb x.2.tv) 0 x.2.zs) := rfl
  refine ⟨?_, fun c hc a ha e => ?_⟩
  · rw [e, Nd.app, Nd.app]
    refine ⟨by unfold Nd ad; simp, ⟨lN_nd _ _, t1, fun a ha c hc e => ?_⟩, fun a ha c hc e => ?_⟩
    · exact n3 _ (ns_mem ha) _ (in_lTv hv hc) (by have e1 := congrArg Prod.fst e; exact e1)
    · have e1 := congrArg Prod.fst e
      have ab : a.1 = b := by
        simp only [List.mem_cons, List.not_mem_nil, or_false] at ha
        rcases ha with rfl | rfl | rfl | rfl <;> rfl
      simp only [ad] at e1
      apply hb
      rw [← ab, e1]
      rcases List.mem_append.1 hc with z | z
      · exact List.mem_append_left _ (ns_mem z)
      · exact List.mem_append_right _ (in_lTv hv z)
  · have e1 := congrArg Prod.fst e
    have e2 := congrArg Prod.snd e
    simp only [ad] at e1 e2
    rcases in_hE hv hc with ⟨h1, h2⟩ | ⟨h1, h2⟩
    · rcases in_lE hv ha with ⟨g1, g2, g3⟩ | g1
      · omega
      · exact hb (by rw [← h1, ← e1]; exact g1)
    · unfold lE at ha
      simp only [List.mem_cons] at ha
      have hbn : c.1 ≠ b := fun z => hb (by rw [← z]; exact List.mem_append_right _ (List.mem_append_left _ h1))
      rcases ha with rfl | rfl | rfl | rfl | ha
      · exact hbn e1.symm
      · exact hbn e1.symm
      · exact hbn e1.symm
      · exact hbn e1.symm
      · rcases List.mem_append.1 ha with z | z
        · exact n3 _ (ns_mem z) _ (List.mem_append_left _ h1) e1
        · exact t2 c h2 a z e
theorem nd_lEs {b : Nat} : ∀ {xs : List (EI × EPl)} {i : Nat}, (∀ x, x ∈ xs → BT x.2.tv x.2.zs.length) → b ∉ eisB xs → (eisB xs).Nodup → Nd (lEs b i xs) ∧ Sp (hEs b i xs) (lEs b i xs)
  | [], _, _, _, _ => ⟨List.nodup_nil, fun c hc => by cases hc⟩
  | x :: xs, i, hv, hb, hn => by
    have e : eisB (x :: xs) = eiB x ++ eisB xs := rfl
    rw [e] at hb hn
    obtain ⟨n1, n2, n3⟩ := List.nodup_append.1 hn
    have hv1 := hv x (List.mem_cons_self ..)
    have hv2 : ∀ y, y ∈ xs → BT y.2.tv y.2.zs.length := fun y hy => hv y (List.mem_cons_of_mem _ hy)
    have hb1 : b ∉ eiB x := fun h => hb (List.mem_append_left _ h)
    have hb2 : b ∉ eisB xs := fun h => hb (List.mem_append_right _ h)
    obtain ⟨p1, p2⟩ := nd_lE (i := i) hv1 hb1 n1
    obtain ⟨q1, q2⟩ := nd_lEs (i := i + 1) hv2 hb2 n2
    rw [lEs, hEs]
    refine ⟨Nd.app.2 ⟨p1, q1, fun a ha c hc e => ?_⟩, fun c hc a ha e => ?_⟩
    · have e1 := congrArg Prod.fst e
      have e2 := congrArg Prod.snd e
      simp only [ad] at e1 e2
      rcases in_lE hv1 ha with ⟨h1, h2, h3⟩ | h1 <;> rcases in_lEs hv2 hc with ⟨g1, g2, g3⟩ | g1
      · omega
      · exact hb2 (by rw [← h1, e1]; exact g1)
      · exact hb1 (by rw [← g1, ← e1]; exact h1)
      · exact n3 _ h1 _ g1 e1
    · have e1 := congrArg Prod.fst e
      have e2 := congrArg Prod.snd e
      simp only [ad] at e1 e2
      rcases List.mem_append.1 hc with hc | hc <;> rcases List.mem_append.1 ha with ha | ha
      · exact p2 c hc a ha e
      · rcases in_hE hv1 hc with ⟨h1, h2⟩ | ⟨h1, _⟩ <;> rcases in_lEs hv2 ha with ⟨g1, g2, g3⟩ | g1
        · omega
        · exact hb2 (by rw [← h1, ← e1]; exact g1)
        · exact hb1 (by rw [← g1, e1]; exact List.mem_append_right _ (List.mem_append_left _ h1))
        · exact n3 _ (List.mem_append_right _ (List.mem_append_left _ h1)) _ g1 e1.symm
      · rcases in_hEs hv2 hc with ⟨h1, h2⟩ | h1 <;> rcases in_lE hv1 ha with ⟨g1, g2, g3⟩ | g1
        · omega
        · exact hb1 (by rw [← h1, ← e1]; exact g1)
        · exact hb2 (by rw [← g1, e1]; exact h1)
        · exact n3 _ g1 _ h1 e1
      · exact q2 c hc a ha e
theorem in_lEv {v : Value} {xs : List (EI × EPl)} (hx : ∀ x, x ∈ xs → BT x.2.tv x.2.zs.length) (hv : BT v xs.length) {i : Nat} {a : LA} (h : a ∈ lEs (vb v) i xs) : a.1 ∈ v.ownBlock.toList ++ eisB xs := by
  rcases in_lEs hx h with ⟨h1, _⟩ | h1
  · exact List.mem_append_left _ (by rw [h1]; exact hv.mem (lEs_pos h))
  · exact List.mem_append_right _ h1
theorem in_hEv {v : Value} {xs : List (EI × EPl)} (hx : ∀ x, x ∈ xs → BT x.2.tv x.2.zs.length) (hv : BT v xs.length) {i : Nat} {a : Nat × Nat × Value} (h : a ∈ hEs (vb v) i xs) : a.1 ∈ v.ownBlock.toList ++ eisB xs := by
  rcases in_hEs hx h with ⟨h1, _⟩ | h1
  · exact List.mem_append_left _ (by rw [h1]; exact hv.mem (hEs_pos h))
  · exact List.mem_append_right _ h1
theorem nd_E {v : Value} {xs : List (EI × EPl)} (hx : ∀ x, x ∈ xs → BT x.2.tv x.2.zs.length) (hv : BT v xs.length) (hn : (v.ownBlock.toList ++ eisB xs).Nodup) : Nd (lEs (vb v) 0 xs) ∧ Sp (hEs (vb v) 0 xs) (lEs (vb v) 0 xs) := by
  obtain ⟨n1, n2, n3⟩ := List.nodup_append.1 hn
  by_cases hp : 0 < xs.length
  · have hb : vb v ∉ eisB xs := fun h => n3 _ (hv.mem hp) _ h rfl
    exact nd_lEs hx hb n2
  · have : xs = [] := List.length_eq_zero_iff.1 (by omega)
    subst this
    exact ⟨List.nodup_nil, fun c hc => by cases hc⟩

/-- What a declaration's lists keep. -/
structure BD (x : DC × DPl) : Prop where
  ty : BT x.2.tv x.2.zs.length
  ex : BT x.2.ev x.2.es.length
  items : ∀ y, y ∈ x.2.es → BT y.2.tv y.2.zs.length
theorem in_lD {b i : Nat} {x : DC × DPl} (hv : BD x) {a : LA} (h : a ∈ lD b i x) : (a.1 = b ∧ i * 4 ≤ a.2.1 ∧ a.2.1 < i * 4 + 2) ∨ a.1 ∈ dB x.2 := by
  unfold lD at h
  simp only [List.mem_cons] at h
  rcases h with rfl | rfl | h
  · exact Or.inl ⟨rfl, by show i * 4 ≤ i * 4; omega, by show i * 4 < _; omega⟩
  · exact Or.inl ⟨rfl, by show i * 4 ≤ i * 4 + 1; omega, by show i * 4 + 1 < _; omega⟩
  · rcases List.mem_append.1 h with h | h
    · exact Or.inr (List.mem_append_left _ (in_lTv hv.ty h))
    · exact Or.inr (List.mem_append_right _ (in_lEv hv.items hv.ex h))
theorem in_hD {b i : Nat} {x : DC × DPl} (hv : BD x) {c : Nat × Nat × Value} (h : c ∈ hD b i x) : (c.1 = b ∧ 2 ≤ c.2.1 % 4) ∨ c.1 ∈ dB x.2 := by
  unfold hD at h
  simp only [List.mem_cons] at h
  rcases h with rfl | rfl | h
  · exact Or.inl ⟨rfl, by show 2 ≤ (i * 4 + 2) % 4; omega⟩
  · exact Or.inl ⟨rfl, by show 2 ≤ (i * 4 + 3) % 4; omega⟩
  · rcases List.mem_append.1 h with h | h
    · exact Or.inr (List.mem_append_left _ (List.mem_append_left _ (in_hTv hv.ty h)))
    · exact Or.inr (List.mem_append_right _ (in_hEv hv.items hv.ex h))
theorem in_lDs {b : Nat} : ∀ {xs : List (DC × DPl)} {i : Nat} {a : LA}, (∀ x, x ∈ xs → BD x) → a ∈ lDs b i xs → (a.1 = b ∧ i * 4 ≤ a.2.1 ∧ a.2.1 % 4 < 2) ∨ a.1 ∈ dcsB xs
  | [], _, _, _, h => by cases h
  | x :: xs, i, a, hv, h => by
    rw [lDs] at h
    rcases List.mem_append.1 h with z | z
    · rcases in_lD (hv x (List.mem_cons_self ..)) z with ⟨h1, h2, h3⟩ | h1
      · exact Or.inl ⟨h1, h2, by omega⟩
      · exact Or.inr (List.mem_flatMap.2 ⟨x, List.mem_cons_self .., h1⟩)
    · rcases in_lDs (fun y hy => hv y (List.mem_cons_of_mem _ hy)) z with ⟨h1, h2, h3⟩ | h1
      · exact Or.inl ⟨h1, by omega, h3⟩
      · obtain ⟨y, hy, hb⟩ := List.mem_flatMap.1 h1
        exact Or.inr (List.mem_flatMap.2 ⟨y, List.mem_cons_of_mem _ hy, hb⟩)
theorem in_hDs {b : Nat} : ∀ {xs : List (DC × DPl)} {i : Nat} {c : Nat × Nat × Value}, (∀ x, x ∈ xs → BD x) → c ∈ hDs b i xs → (c.1 = b ∧ 2 ≤ c.2.1 % 4) ∨ c.1 ∈ dcsB xs
  | [], _, _, _, h => by cases h
  | x :: xs, i, c, hv, h => by
    rw [hDs] at h
    rcases List.mem_append.1 h with z | z
    · rcases in_hD (hv x (List.mem_cons_self ..)) z with h1 | h1
      · exact Or.inl h1
      · exact Or.inr (List.mem_flatMap.2 ⟨x, List.mem_cons_self .., h1⟩)
    · rcases in_hDs (fun y hy => hv y (List.mem_cons_of_mem _ hy)) z with h1 | h1
      · exact Or.inl h1
      · obtain ⟨y, hy, hb⟩ := List.mem_flatMap.1 h1
        exact Or.inr (List.mem_flatMap.2 ⟨y, List.mem_cons_of_mem _ hy, hb⟩)
theorem nd_lD {b i : Nat} {x : DC × DPl} (hv : BD x) (hb : b ∉ dB x.2) (hn : (dB x.2).Nodup) : Nd (lD b i x) ∧ Sp (hD b i x) (lD b i x) := by
  obtain ⟨n1, n2, n3⟩ := List.nodup_append.1 hn
  obtain ⟨t1, t2⟩ := nd_T hv.ty n1
  obtain ⟨u1, u2⟩ := nd_E hv.items hv.ex n2
  have e : lD b i x = [(b, i * 4, false), (b, i * 4 + 1, true)] ++ (lTs (vb x.2.tv) 0 x.2.zs ++ lEs (vb x.2.ev) 0 x.2.es) := rfl
  refine ⟨?_, fun c hc a ha e => ?_⟩
  · rw [e, Nd.app, Nd.app]
    refine ⟨by unfold Nd ad; simp, ⟨t1, u1, fun a ha c hc e => ?_⟩, fun a ha c hc e => ?_⟩
    · exact n3 _ (in_lTv hv.ty ha) _ (in_lEv hv.items hv.ex hc) (by have e1 := congrArg Prod.fst e; exact e1)
    · have e1 := congrArg Prod.fst e
      have ab : a.1 = b := by
        simp only [List.mem_cons, List.not_mem_nil, or_false] at ha
        rcases ha with rfl | rfl <;> rfl
      simp only [ad] at e1
      apply hb
      rw [← ab, e1]
      rcases List.mem_append.1 hc with z | z
      · exact List.mem_append_left _ (in_lTv hv.ty z)
      · exact List.mem_append_right _ (in_lEv hv.items hv.ex z)
  · have e1 := congrArg Prod.fst e
    have e2 := congrArg Prod.snd e
    simp only [ad] at e1 e2
    unfold hD at hc
    simp only [List.mem_cons] at hc
    have hd : ∀ {c : Nat × Nat × Value}, c.1 = b → 2 ≤ c.2.1 % 4 → a.1 = c.1 → a.2.1 = c.2.1 → False := fun h1 h2 e1 e2 => by
      rcases in_lD hv ha with ⟨g1, g2, g3⟩ | g1
      · omega
      · exact hb (by rw [← h1, ← e1]; exact g1)
    rcases hc with rfl | rfl | hc
    · exact hd rfl (by show 2 ≤ (i * 4 + 2) % 4; omega) e1 e2
    · exact hd rfl (by show 2 ≤ (i * 4 + 3) % 4; omega) e1 e2
    · unfold lD at ha
      simp only [List.mem_cons] at ha
      have hcb : c.1 ∈ dB x.2 := by
        rcases List.mem_append.1 hc with z | z
        · exact List.mem_append_left _ (List.mem_append_left _ (in_hTv hv.ty z))
        · exact List.mem_append_right _ (in_hEv hv.items hv.ex z)
      have hbn : c.1 ≠ b := fun z => hb (by rw [← z]; exact hcb)
      rcases ha with rfl | rfl | ha
      · exact hbn e1.symm
      · exact hbn e1.symm
      · rcases List.mem_append.1 hc with z | z <;> rcases List.mem_append.1 ha with y | y
        · exact t2 c z a y e
        · exact n3 _ (List.mem_append_left _ (in_hTv hv.ty z)) _ (in_lEv hv.items hv.ex y) e1.symm
        · exact n3 _ (in_lTv hv.ty y) _ (in_hEv hv.items hv.ex z) e1
        · exact u2 c z a y e
theorem nd_lDs {b : Nat} : ∀ {xs : List (DC × DPl)} {i : Nat}, (∀ x, x ∈ xs → BD x) → b ∉ dcsB xs → (dcsB xs).Nodup → Nd (lDs b i xs) ∧ Sp (hDs b i xs) (lDs b i xs)
  | [], _, _, _, _ => ⟨List.nodup_nil, fun c hc => by cases hc⟩
  | x :: xs, i, hv, hb, hn => by
    have e : dcsB (x :: xs) = dB x.2 ++ dcsB xs := rfl
    rw [e] at hb hn
    obtain ⟨n1, n2, n3⟩ := List.nodup_append.1 hn
    have hv1 := hv x (List.mem_cons_self ..)
    have hv2 : ∀ y, y ∈ xs → BD y := fun y hy => hv y (List.mem_cons_of_mem _ hy)
    have hb1 : b ∉ dB x.2 := fun h => hb (List.mem_append_left _ h)
    have hb2 : b ∉ dcsB xs := fun h => hb (List.mem_append_right _ h)
    obtain ⟨p1, p2⟩ := nd_lD (i := i) hv1 hb1 n1
    obtain ⟨q1, q2⟩ := nd_lDs (i := i + 1) hv2 hb2 n2
    rw [lDs, hDs]
    refine ⟨Nd.app.2 ⟨p1, q1, fun a ha c hc e => ?_⟩, fun c hc a ha e => ?_⟩
    · have e1 := congrArg Prod.fst e
      have e2 := congrArg Prod.snd e
      simp only [ad] at e1 e2
      rcases in_lD hv1 ha with ⟨h1, h2, h3⟩ | h1 <;> rcases in_lDs hv2 hc with ⟨g1, g2, g3⟩ | g1
      · omega
      · exact hb2 (by rw [← h1, e1]; exact g1)
      · exact hb1 (by rw [← g1, ← e1]; exact h1)
      · exact n3 _ h1 _ g1 e1
    · have e1 := congrArg Prod.fst e
      have e2 := congrArg Prod.snd e
      simp only [ad] at e1 e2
      rcases List.mem_append.1 hc with hc | hc <;> rcases List.mem_append.1 ha with ha | ha
      · exact p2 c hc a ha e
      · rcases in_hD hv1 hc with ⟨h1, h2⟩ | h1 <;> rcases in_lDs hv2 ha with ⟨g1, g2, g3⟩ | g1
        · omega
        · exact hb2 (by rw [← h1, ← e1]; exact g1)
        · exact hb1 (by rw [← g1, e1]; exact h1)
        · exact n3 _ h1 _ g1 e1.symm
      · rcases in_hDs hv2 hc with ⟨h1, h2⟩ | h1 <;> rcases in_lD hv1 ha with ⟨g1, g2, g3⟩ | g1
        · omega
        · exact hb1 (by rw [← h1, ← e1]; exact g1)
        · exact hb2 (by rw [← g1, e1]; exact h1)
        · exact n3 _ g1 _ h1 e1
      · exact q2 c hc a ha e

end Go.Proofs.YtcehppndpccldaaGreatDoor

namespace Go.Proofs.YtcehppndpccldaaGreatDoor
open Go.RowKit

/-- Where lists of names, types, expressions begin. -/
def AtT (y : TI × NPl) : Prop := 0 < y.1.ns.length → y.2.a = some ⟨y.2.b, 0, none⟩
def AtTs (v : Value) (zs : List (TI × NPl)) : Prop := ∃ ta tc, v = .slice ta zs.length tc ∧ (0 < zs.length → ta = some ⟨vb v, 0, none⟩) ∧ (∀ u, u ∈ zs → AtT u) ∧ zs.length ≤ 1000000
def AtE (y : EI × EPl) : Prop := (0 < y.1.ns.length → y.2.np.a = some ⟨y.2.np.b, 0, none⟩) ∧ AtTs y.2.tv y.2.zs
def AtEs (v : Value) (zs : List (EI × EPl)) : Prop := ∃ ta tc, v = .slice ta zs.length tc ∧ (0 < zs.length → ta = some ⟨vb v, 0, none⟩) ∧ (∀ u, u ∈ zs → AtE u) ∧ zs.length ≤ 1000000
def AtD (y : DC × DPl) : Prop := AtTs y.2.tv y.2.zs ∧ AtEs y.2.ev y.2.es

theorem Mkd.step {w wr : World} {A R T : List LA} {x y : Nat} {a : LA} (h : Mkd w wr A x) (hl : Lv w T) (hn : Nd T) (hT : T = A ++ a :: R) (hy : y = x + A.length) : Wr wr a.1 ∧ (∃ v, wr.cell? (lad a) = some v) ∧ Mkd w (wr.setCell (lad a) (mv a y)) (A ++ [a]) x := by
  subst hT
  obtain ⟨n1, n2, n3⟩ := Nd.app.1 hn
  have hd : ∀ b, b ∈ A → ad b ≠ ad a := fun b hb => n3 b hb a (List.mem_cons_self ..)
  obtain ⟨h1, h2⟩ := h.look hl (List.mem_append_right _ (List.mem_cons_self ..)) hd
  exact ⟨h1, h2, h.app (mkd_one a.2.2 y h1 h2) hy (fun b hb c hc => by rw [List.mem_singleton.1 hc]; exact hd b hb)⟩
theorem Mkd.sub {w wr : World} {A B R T : List LA} {x : Nat} (h : Mkd w wr A x) (hl : Lv w T) (hn : Nd T) (hT : T = A ++ (B ++ R)) : Lv wr B ∧ Ds A B ∧ Nd B := by
  subst hT
  obtain ⟨n1, n2, n3⟩ := Nd.app.1 hn
  have hd : Ds A B := fun a ha b hb => n3 a ha b (List.mem_append_left _ hb)
  exact ⟨h.lv (fun a ha => hl a (List.mem_append_right _ (List.mem_append_left _ ha))) hd, hd, (Nd.app.1 n2).1⟩
theorem Sp.pre {H : List (Nat × Nat × Value)} {A R T : List LA} (h : Sp H T) (hT : T = A ++ R) : Sp H A := fun c hc a ha => h c hc a (by rw [hT]; exact List.mem_append_left _ ha)
theorem Sp.part {H H' : List (Nat × Nat × Value)} {A B R T : List LA} (h : Sp H T) (hT : T = A ++ (B ++ R)) (hH : ∀ c, c ∈ H' → c ∈ H) : Sp H' B := fun c hc a ha => h c (hH c hc) a (by rw [hT]; exact List.mem_append_right _ (List.mem_append_left _ ha))

theorem take_one {α : Type} {xs : List α} {k : Nat} (hk : k < xs.length) : xs.take (k + 1) = xs.take k ++ [xs[k]] := by
  rw [List.take_add_one, List.getElem?_eq_getElem hk]; rfl
theorem split_k {α : Type} {xs : List α} {k : Nat} (hk : k < xs.length) : xs = xs.take k ++ xs[k] :: xs.drop (k + 1) := by
  rw [List.getElem_cons_drop, List.take_append_drop]
theorem lTs_at (b : Nat) {xs : List (TI × NPl)} {k : Nat} (hk : k < xs.length) : lTs b 0 (xs.take (k + 1)) = lTs b 0 (xs.take k) ++ lT b k xs[k] ∧ lTs b 0 xs = lTs b 0 (xs.take k) ++ (lT b k xs[k] ++ lTs b (k + 1) (xs.drop (k + 1))) := by
  have hl : (xs.take k).length = k := by rw [List.length_take]; omega
  refine ⟨by rw [take_one hk, lTs_app, hl, Nat.zero_add, lTs, lTs, List.append_nil], ?_⟩
  conv => lhs; rw [split_k hk, lTs_app, hl, Nat.zero_add, lTs]
theorem lEs_at (b : Nat) {xs : List (EI × EPl)} {k : Nat} (hk : k < xs.length) : lEs b 0 (xs.take (k + 1)) = lEs b 0 (xs.take k) ++ lE b k xs[k] ∧ lEs b 0 xs = lEs b 0 (xs.take k) ++ (lE b k xs[k] ++ lEs b (k + 1) (xs.drop (k + 1))) := by
  have hl : (xs.take k).length = k := by rw [List.length_take]; omega
  refine ⟨by rw [take_one hk, lEs_app, hl, Nat.zero_add, lEs, lEs, List.append_nil], ?_⟩
  conv => lhs; rw [split_k hk, lEs_app, hl, Nat.zero_add, lEs]
theorem lDs_at (b : Nat) {xs : List (DC × DPl)} {k : Nat} (hk : k < xs.length) : lDs b 0 (xs.take (k + 1)) = lDs b 0 (xs.take k) ++ lD b k xs[k] ∧ lDs b 0 xs = lDs b 0 (xs.take k) ++ (lD b k xs[k] ++ lDs b (k + 1) (xs.drop (k + 1))) := by
  have hl : (xs.take k).length = k := by rw [List.length_take]; omega
  refine ⟨by rw [take_one hk, lDs_app, hl, Nat.zero_add, lDs, lDs, List.append_nil], ?_⟩
  conv => lhs; rw [split_k hk, lDs_app, hl, Nat.zero_add, lDs]

set_option maxRecDepth 100000 in
set_option maxHeartbeats 4000000 in
theorem t_markTs (z : Int) (a : Option Addr) (c b : Nat) (xs : List (TI × NPl)) (x : Nat) (w : World) (hz : z = (x : Int)) (ha : 0 < xs.length → a = some ⟨b, 0, none⟩) (hat : ∀ y, y ∈ xs → AtT y) (hh : HH w (hTs b 0 xs)) (hs : Sp (hTs b 0 xs) (lTs b 0 xs)) (hl : Lv w (lTs b 0 xs)) (hn : Nd (lTs b 0 xs)) (hx1 : 1 ≤ x) (hx2 : x + (lTs b 0 xs).length ≤ 2305843009213693952) (hlen : xs.length ≤ 1000000) :
    Calls Tryz.prog 55 #[.slice a xs.length c, .int .i64 z] w fun e w' => e = .returned (.int .i64 ((x + (lTs b 0 xs).length : Nat) : Int)) ∧ Mkd w w' (lTs b 0 xs) x := by
  subst hz
  have HA : Hid (0 < xs.length → a = some ⟨b, 0, none⟩) := ha
  have HAT : Hid (∀ y, y ∈ xs → AtT y) := hat
  have HHH : Hid (HH w (hTs b 0 xs)) := hh
  have HSP : Hid (Sp (hTs b 0 xs) (lTs b 0 xs)) := hs
  have HL : Hid (Lv w (lTs b 0 xs)) := hl
  have HN : Hid (Nd (lTs b 0 xs)) := hn
  have HX2 : Hid (x + (lTs b 0 xs).length ≤ 2305843009213693952) := hx2
  have HX1 : Hid (1 ≤ x) := hx1
  have ST : Mkd w w (lTs b 0 (xs.take 0)) x := mkd_of_below (Below.refl _ _) x
  clear ha hat hh hs hl hn hx1 hx2
  go_enter Tryz.func55, Tryz.ntmps55
  go_wp2
  go_loopw [1, 5] (fun y i wr => ∃ k : Nat, k ≤ xs.length ∧ i = .int .i64 k ∧ y = .int .i64 ((x + (lTs b 0 (xs.take k)).length : Nat) : Int) ∧ Mkd w wr (lTs b 0 (xs.take k)) x) (fun _ i _ => xs.length - (intOf i).toNat)
  case atStart => exact ⟨0, Nat.zero_le _, rfl, by simp [lTs], ST⟩
  case round =>
    obtain ⟨k, hk, rfl, rfl, hM⟩ := hrel
    clear ST
    by_cases hlt : k < xs.length
    · have e1 := HA.out (by omega)
      subst e1
      obtain ⟨s1, s2⟩ := lTs_at b hlt
      obtain ⟨X, hX⟩ : ∃ X, X = xs[k] := ⟨_, rfl⟩
      have HXM : Hid (X ∈ xs) := by rw [hX]; exact List.getElem_mem hlt
      have HHM : Hid (∀ c, c ∈ hT b k X → c ∈ hTs b 0 xs) := fun c hc => mem_hTs b xs 0 k hlt c (by rw [Nat.zero_add, ← hX]; exact hc)
      rw [← hX] at s1 s2
      obtain ⟨A, hA⟩ : ∃ A, A = lTs b 0 (xs.take k) := ⟨_, rfl⟩
      obtain ⟨T, hT⟩ : ∃ T, T = lTs b 0 xs := ⟨_, rfl⟩
      obtain ⟨R, hR⟩ : ∃ R, R = lTs b (k + 1) (xs.drop (k + 1)) := ⟨_, rfl⟩
      have HTL : Hid (Lv w T ∧ Nd T ∧ Sp (hTs b 0 xs) T) := by rw [hT]; exact ⟨HL.out, HN.out, HSP.out⟩
      rw [← hA] at s1 s2 hM ⊢
      rw [← hT, ← hR] at s2
      have HT : Hid (T = A ++ (lT b k X ++ R)) := s2
      have HS1 : Hid (lTs b 0 (xs.take (k + 1)) = A ++ lT b k X) := s1
      obtain ⟨y, hy⟩ : ∃ y : Nat, y = x + A.length := ⟨_, rfl⟩
      have HY : Hid (y = x + A.length) := hy
      have hy1 : 1 ≤ y := by have := HX1.out; omega
      have hyT : y + (lT b k X).length ≤ 2305843009213693952 := by
        have := HX2.out
        rw [← hT, s2, List.length_append, List.length_append] at this
        omega
      have HYT : Hid (y + (lT b k X).length ≤ 2305843009213693952) := hyT
      have hlL : 3 ≤ (lT b k X).length := by unfold lT; simp
      have hy2 : y + 3 ≤ 2305843009213693952 := by omega
      rw [← hy]
      have HM : Hid (Mkd w wr A x) := hM
      clear hX hA hT hR s1 s2 hM hy hyT hlL
      have RT0 : Hid (∃ R', T = A ++ (b, k * 4, false) :: (b, k * 4 + 1, true) :: (b, k * 4 + 2, true) :: R') := ⟨_, HT.out⟩
      obtain ⟨wr0, ⟨v0, q0⟩, m0⟩ := (let ⟨R', hR'⟩ := RT0.out; HM.out.step (a := (b, k * 4, false)) (R := (b, k * 4 + 1, true) :: (b, k * 4 + 2, true) :: R') (y := y) HTL.out.1 HTL.out.2.1 (by rw [hR']; first | done | simp) (by have := HY.out; first | exact this | (simp only [List.length_append, List.length_singleton]; omega)))
      have f0 : wr.frozen? ⟨b, k * 4, none⟩ = false := wr0.frozen (k * 4)
      have k0 : wr.cell? ⟨b, k * 4, none⟩ = some v0 := q0
      have M1 : Hid (Mkd w (wr.setCell ⟨b, k * 4, none⟩ (.int .i64 (y : Int))) (A ++ [(b, k * 4, false)]) x) := m0
      clear wr0 q0 m0
      go_wp2_with fail
      refine (t_markText _ (y + 1) _ (by omega) (by omega) (by omega)).mono ?_
      rintro e w1 ⟨rfl, hb1⟩
      have N1 := M1.out.below hb1
      obtain ⟨wr1, ⟨v1, q1⟩, m1⟩ := (let ⟨R', hR'⟩ := RT0.out; N1.step (a := (b, k * 4 + 1, true)) (R := (b, k * 4 + 2, true) :: R') (y := (y + 1)) HTL.out.1 HTL.out.2.1 (by rw [hR']; first | done | simp) (by have := HY.out; first | exact this | (simp only [List.length_append, List.length_singleton]; omega)))
      have f1 : w1.frozen? ⟨b, k * 4 + 1, none⟩ = false := wr1.frozen (k * 4 + 1)
      have k1 : w1.cell? ⟨b, k * 4 + 1, none⟩ = some v1 := q1
      have M2 : Hid (Mkd w (w1.setCell ⟨b, k * 4 + 1, none⟩ (.string (mt (y + 1)))) (A ++ [(b, k * 4, false)] ++ [(b, k * 4 + 1, true)]) x) := m1
      clear wr1 q1 m1 hb1 N1
      go_wp2_with fail
      refine (t_markText _ (y + 2) _ (by omega) (by omega) (by omega)).mono ?_
      rintro e w2 ⟨rfl, hb2⟩
      have N2 := M2.out.below hb2
      obtain ⟨wr2, ⟨v2, q2⟩, m2⟩ := (let ⟨R', hR'⟩ := RT0.out; N2.step (a := (b, k * 4 + 2, true)) (R := R') (y := (y + 2)) HTL.out.1 HTL.out.2.1 (by rw [hR']; first | done | simp) (by have := HY.out; first | exact this | (simp only [List.length_append, List.length_singleton]; omega)))
      have f2 : w2.frozen? ⟨b, k * 4 + 2, none⟩ = false := wr2.frozen (k * 4 + 2)
      have k2 : w2.cell? ⟨b, k * 4 + 2, none⟩ = some v2 := q2
      have M3 : Hid (Mkd w (w2.setCell ⟨b, k * 4 + 2, none⟩ (.string (mt (y + 2)))) (A ++ [(b, k * 4, false)] ++ [(b, k * 4 + 1, true)] ++ [(b, k * 4 + 2, true)]) x) := m2
      clear wr2 q2 m2 hb2 N2
      have hat := HAT.out X HXM.out
      have HATX : Hid _ := hat
      have S0 := M3.out.hh HHH.out (HTL.out.2.2.pre (A := A ++ [(b, k * 4, false)] ++ [(b, k * 4 + 1, true)] ++ [(b, k * 4 + 2, true)]) (R := (lN X.2 X.1.ns.length) ++ (R)) (by rw [HT.out]; unfold lT; simp only [List.append_assoc, List.cons_append, List.nil_append]))
      have HS0H : Hid (HH (w2.setCell ⟨b, k * 4 + 2, none⟩ (.string (mt (y + 2)))) (hTs b 0 xs)) := S0
      clear S0

      have s0 : (w2.setCell ⟨b, k * 4 + 2, none⟩ (.string (mt (y + 2)))).cell? ⟨b, k * 4 + 3, none⟩ = some (.slice X.2.a X.1.ns.length X.2.c) := by
        have := HS0H.out (b, k * 4 + 3, .slice X.2.a X.1.ns.length X.2.c) (HHM.out _ (by unfold hT; simp))
        exact this
      have SB0 := M3.out.sub (B := lN X.2 X.1.ns.length) (R := R) HTL.out.1 HTL.out.2.1 (by rw [HT.out]; unfold lT; simp only [List.append_assoc, List.cons_append, List.nil_append])
      have HSB0 : Hid (Lv (w2.setCell ⟨b, k * 4 + 2, none⟩ (.string (mt (y + 2)))) (lN X.2 X.1.ns.length) ∧ Ds (A ++ [(b, k * 4, false)] ++ [(b, k * 4 + 1, true)] ++ [(b, k * 4 + 2, true)]) (lN X.2 X.1.ns.length) ∧ Nd (lN X.2 X.1.ns.length)) := SB0
      clear SB0
      go_wp2_with fail
      refine (t_markNames _ X.2 X.1.ns.length (y + 3) _ (by omega) HATX.out HSB0.out.1 (by omega) (by have := HYT.out; unfold lT at this; simp only [List.length_cons, lN_len] at this; omega)).mono ?_
      rintro e u0 ⟨rfl, L0⟩
      have P0 : Hid (Mkd w u0 (A ++ [(b, k * 4, false)] ++ [(b, k * 4 + 1, true)] ++ [(b, k * 4 + 2, true)] ++ lN X.2 X.1.ns.length) x) := M3.out.app L0 (by have := HY.out; simp only [List.length_append, List.length_singleton]; omega) HSB0.out.2.1
      clear L0 s0
      have HNX : Hid (Mkd w u0 (lTs b 0 (xs.take (k + 1))) x) := by
        rw [HS1.out]
        have e : A ++ [(b, k * 4, false)] ++ [(b, k * 4 + 1, true)] ++ [(b, k * 4 + 2, true)] ++ lN X.2 X.1.ns.length = A ++ lT b k X := by unfold lT; simp only [List.append_assoc, List.cons_append, List.nil_append]; try rfl
        rw [← e]
        exact P0.out
      have HLN : Hid (x + (lTs b 0 (xs.take (k + 1))).length = y + 3 + X.1.ns.length) := by
        show _ = _
        rw [HS1.out, List.length_append, HY.out]
        unfold lT
        simp only [List.length_cons, lN_len]
        omega
      clear HM M1 M2 M3 P0 HSB0 HS0H
      go_wp2
      go_roundw
      case rel => exact ⟨k + 1, by omega, by go_num, by rw [HLN.out]; first | rfl | (congr 1; omega) | (simp; omega), HNX.out⟩
      case measure => simp [intOf]; omega
    · have hkn : k = xs.length := by omega
      subst hkn
      rw [List.take_length] at hM ⊢
      have FIN : Hid (Mkd w wr (lTs b 0 xs) x) := hM
      clear hM
      go_wp2
      go_ret
      exact ⟨rfl, FIN.out⟩


end Go.Proofs.YtcehppndpccldaaGreatDoor

namespace Go.Proofs.YtcehppndpccldaaGreatDoor
open Go.RowKit

set_option maxRecDepth 100000 in
set_option maxHeartbeats 4000000 in
theorem t_markEs (z : Int) (a : Option Addr) (c b : Nat) (xs : List (EI × EPl)) (x : Nat) (w : World) (hz : z = (x : Int)) (ha : 0 < xs.length → a = some ⟨b, 0, none⟩) (hat : ∀ y, y ∈ xs → AtE y) (hh : HH w (hEs b 0 xs)) (hs : Sp (hEs b 0 xs) (lEs b 0 xs)) (hl : Lv w (lEs b 0 xs)) (hn : Nd (lEs b 0 xs)) (hx1 : 1 ≤ x) (hx2 : x + (lEs b 0 xs).length ≤ 2305843009213693952) (hlen : xs.length ≤ 1000000) :
    Calls Tryz.prog 56 #[.slice a xs.length c, .int .i64 z] w fun e w' => e = .returned (.int .i64 ((x + (lEs b 0 xs).length : Nat) : Int)) ∧ Mkd w w' (lEs b 0 xs) x := by
  subst hz
  have HA : Hid (0 < xs.length → a = some ⟨b, 0, none⟩) := ha
  have HAT : Hid (∀ y, y ∈ xs → AtE y) := hat
  have HHH : Hid (HH w (hEs b 0 xs)) := hh
  have HSP : Hid (Sp (hEs b 0 xs) (lEs b 0 xs)) := hs
  have HL : Hid (Lv w (lEs b 0 xs)) := hl
  have HN : Hid (Nd (lEs b 0 xs)) := hn
  have HX2 : Hid (x + (lEs b 0 xs).length ≤ 2305843009213693952) := hx2
  have HX1 : Hid (1 ≤ x) := hx1
  have ST : Mkd w w (lEs b 0 (xs.take 0)) x := mkd_of_below (Below.refl _ _) x
  clear ha hat hh hs hl hn hx1 hx2
  go_enter Tryz.func56, Tryz.ntmps56
  go_wp2
  go_loopw [1, 5] (fun y i wr => ∃ k : Nat, k ≤ xs.length ∧ i = .int .i64 k ∧ y = .int .i64 ((x + (lEs b 0 (xs.take k)).length : Nat) : Int) ∧ Mkd w wr (lEs b 0 (xs.take k)) x) (fun _ i _ => xs.length - (intOf i).toNat)
  case atStart => exact ⟨0, Nat.zero_le _, rfl, by simp [lEs], ST⟩
  case round =>
    obtain ⟨k, hk, rfl, rfl, hM⟩ := hrel
    clear ST
    by_cases hlt : k < xs.length
    · have e1 := HA.out (by omega)
      subst e1
      obtain ⟨s1, s2⟩ := lEs_at b hlt
      obtain ⟨X, hX⟩ : ∃ X, X = xs[k] := ⟨_, rfl⟩
      have HXM : Hid (X ∈ xs) := by rw [hX]; exact List.getElem_mem hlt
      have HHM : Hid (∀ c, c ∈ hE b k X → c ∈ hEs b 0 xs) := fun c hc => mem_hEs b xs 0 k hlt c (by rw [Nat.zero_add, ← hX]; exact hc)
      rw [← hX] at s1 s2
      obtain ⟨A, hA⟩ : ∃ A, A = lEs b 0 (xs.take k) := ⟨_, rfl⟩
      obtain ⟨T, hT⟩ : ∃ T, T = lEs b 0 xs := ⟨_, rfl⟩
      obtain ⟨R, hR⟩ : ∃ R, R = lEs b (k + 1) (xs.drop (k + 1)) := ⟨_, rfl⟩
      have HTL : Hid (Lv w T ∧ Nd T ∧ Sp (hEs b 0 xs) T) := by rw [hT]; exact ⟨HL.out, HN.out, HSP.out⟩
      rw [← hA] at s1 s2 hM ⊢
      rw [← hT, ← hR] at s2
      have HT : Hid (T = A ++ (lE b k X ++ R)) := s2
      have HS1 : Hid (lEs b 0 (xs.take (k + 1)) = A ++ lE b k X) := s1
      obtain ⟨y, hy⟩ : ∃ y : Nat, y = x + A.length := ⟨_, rfl⟩
      have HY : Hid (y = x + A.length) := hy
      have hy1 : 1 ≤ y := by have := HX1.out; omega
      have hyT : y + (lE b k X).length ≤ 2305843009213693952 := by
        have := HX2.out
        rw [← hT, s2, List.length_append, List.length_append] at this
        omega
      have HYT : Hid (y + (lE b k X).length ≤ 2305843009213693952) := hyT
      have hlL : 4 ≤ (lE b k X).length := by unfold lE; simp
      have hy2 : y + 4 ≤ 2305843009213693952 := by omega
      rw [← hy]
      have HM : Hid (Mkd w wr A x) := hM
      clear hX hA hT hR s1 s2 hM hy hyT hlL
      have RT0 : Hid (∃ R', T = A ++ (b, k * 6, false) :: (b, k * 6 + 1, false) :: (b, k * 6 + 2, true) :: (b, k * 6 + 3, true) :: R') := ⟨_, HT.out⟩
      obtain ⟨wr0, ⟨v0, q0⟩, m0⟩ := (let ⟨R', hR'⟩ := RT0.out; HM.out.step (a := (b, k * 6, false)) (R := (b, k * 6 + 1, false) :: (b, k * 6 + 2, true) :: (b, k * 6 + 3, true) :: R') (y := y) HTL.out.1 HTL.out.2.1 (by rw [hR']; first | done | simp) (by have := HY.out; first | exact this | (simp only [List.length_append, List.length_singleton]; omega)))
      have f0 : wr.frozen? ⟨b, k * 6, none⟩ = false := wr0.frozen (k * 6)
      have k0 : wr.cell? ⟨b, k * 6, none⟩ = some v0 := q0
      have M1 : Hid (Mkd w (wr.setCell ⟨b, k * 6, none⟩ (.int .i64 (y : Int))) (A ++ [(b, k * 6, false)]) x) := m0
      clear wr0 q0 m0
      obtain ⟨wr1, ⟨v1, q1⟩, m1⟩ := (let ⟨R', hR'⟩ := RT0.out; M1.out.step (a := (b, k * 6 + 1, false)) (R := (b, k * 6 + 2, true) :: (b, k * 6 + 3, true) :: R') (y := (y + 1)) HTL.out.1 HTL.out.2.1 (by rw [hR']; first | done | simp) (by have := HY.out; first | exact this | (simp only [List.length_append, List.length_singleton]; omega)))
      have f1 : (wr.setCell ⟨b, k * 6, none⟩ (.int .i64 (y : Int))).frozen? ⟨b, k * 6 + 1, none⟩ = false := wr1.frozen (k * 6 + 1)
      have k1 : (wr.setCell ⟨b, k * 6, none⟩ (.int .i64 (y : Int))).cell? ⟨b, k * 6 + 1, none⟩ = some v1 := q1
      have M2 : Hid (Mkd w ((wr.setCell ⟨b, k * 6, none⟩ (.int .i64 (y : Int))).setCell ⟨b, k * 6 + 1, none⟩ (.int .i64 ((y : Int) + 1))) (A ++ [(b, k * 6, false)] ++ [(b, k * 6 + 1, false)]) x) := m1
      clear wr1 q1 m1
      go_wp2_with fail
      refine (t_markText _ (y + 2) _ (by omega) (by omega) (by omega)).mono ?_
      rintro e w2 ⟨rfl, hb2⟩
      have N2 := M2.out.below hb2
      obtain ⟨wr2, ⟨v2, q2⟩, m2⟩ := (let ⟨R', hR'⟩ := RT0.out; N2.step (a := (b, k * 6 + 2, true)) (R := (b, k * 6 + 3, true) :: R') (y := (y + 2)) HTL.out.1 HTL.out.2.1 (by rw [hR']; first | done | simp) (by have := HY.out; first | exact this | (simp only [List.length_append, List.length_singleton]; omega)))
      have f2 : w2.frozen? ⟨b, k * 6 + 2, none⟩ = false := wr2.frozen (k * 6 + 2)
      have k2 : w2.cell? ⟨b, k * 6 + 2, none⟩ = some v2 := q2
      have M3 : Hid (Mkd w (w2.setCell ⟨b, k * 6 + 2, none⟩ (.string (mt (y + 2)))) (A ++ [(b, k * 6, false)] ++ [(b, k * 6 + 1, false)] ++ [(b, k * 6 + 2, true)]) x) := m2
      clear wr2 q2 m2 hb2 N2
      go_wp2_with fail
      refine (t_markText _ (y + 3) _ (by omega) (by omega) (by omega)).mono ?_
      rintro e w3 ⟨rfl, hb3⟩
      have N3 := M3.out.below hb3
      obtain ⟨wr3, ⟨v3, q3⟩, m3⟩ := (let ⟨R', hR'⟩ := RT0.out; N3.step (a := (b, k * 6 + 3, true)) (R := R') (y := (y + 3)) HTL.out.1 HTL.out.2.1 (by rw [hR']; first | done | simp) (by have := HY.out; first | exact this | (simp only [List.length_append, List.length_singleton]; omega)))
      have f3 : w3.frozen? ⟨b, k * 6 + 3, none⟩ = false := wr3.frozen (k * 6 + 3)
      have k3 : w3.cell? ⟨b, k * 6 + 3, none⟩ = some v3 := q3
      have M4 : Hid (Mkd w (w3.setCell ⟨b, k * 6 + 3, none⟩ (.string (mt (y + 3)))) (A ++ [(b, k * 6, false)] ++ [(b, k * 6 + 1, false)] ++ [(b, k * 6 + 2, true)] ++ [(b, k * 6 + 3, true)]) x) := m3
      clear wr3 q3 m3 hb3 N3
      have hat := HAT.out X HXM.out
      have HATX : Hid _ := hat
      have S0 := M4.out.hh HHH.out (HTL.out.2.2.pre (A := A ++ [(b, k * 6, false)] ++ [(b, k * 6 + 1, false)] ++ [(b, k * 6 + 2, true)] ++ [(b, k * 6 + 3, true)]) (R := (lN X.2.np X.1.ns.length) ++ ((lTs (vb X.2.tv) 0 X.2.zs) ++ (R))) (by rw [HT.out]; unfold lE; simp only [List.append_assoc, List.cons_append, List.nil_append]))
      have HS0H : Hid (HH (w3.setCell ⟨b, k * 6 + 3, none⟩ (.string (mt (y + 3)))) (hEs b 0 xs)) := S0
      clear S0
      obtain ⟨ta, tc, htvta, htata, hatsta, hzlta⟩ := hat.2
      have HtaV : Hid (X.2.tv = .slice ta X.2.zs.length tc) := htvta
      have HtaA : Hid (0 < X.2.zs.length → ta = some ⟨vb X.2.tv, 0, none⟩) := htata
      have HtaS : Hid (∀ u, u ∈ X.2.zs → AtT u) := hatsta
      have HtaL : Hid (X.2.zs.length ≤ 1000000) := hzlta
      clear htvta htata hatsta hzlta
      clear hat
      have s0 : (w3.setCell ⟨b, k * 6 + 3, none⟩ (.string (mt (y + 3)))).cell? ⟨b, k * 6 + 4, none⟩ = some (.slice X.2.np.a X.1.ns.length X.2.np.c) := by
        have := HS0H.out (b, k * 6 + 4, .slice X.2.np.a X.1.ns.length X.2.np.c) (HHM.out _ (by unfold hE; simp))
        exact this
      have SB0 := M4.out.sub (B := lN X.2.np X.1.ns.length) (R := (lTs (vb X.2.tv) 0 X.2.zs) ++ (R)) HTL.out.1 HTL.out.2.1 (by rw [HT.out]; unfold lE; simp only [List.append_assoc, List.cons_append, List.nil_append])
      have HSB0 : Hid (Lv (w3.setCell ⟨b, k * 6 + 3, none⟩ (.string (mt (y + 3)))) (lN X.2.np X.1.ns.length) ∧ Ds (A ++ [(b, k * 6, false)] ++ [(b, k * 6 + 1, false)] ++ [(b, k * 6 + 2, true)] ++ [(b, k * 6 + 3, true)]) (lN X.2.np X.1.ns.length) ∧ Nd (lN X.2.np X.1.ns.length)) := SB0
      clear SB0
      go_wp2_with fail
      refine (t_markNames _ X.2.np X.1.ns.length (y + 4) _ (by omega) HATX.out.1 HSB0.out.1 (by omega) (by have := HYT.out; unfold lE at this; simp only [List.length_cons, List.length_append, lN_len] at this; omega)).mono ?_
      rintro e u0 ⟨rfl, L0⟩
      have P0 : Hid (Mkd w u0 (A ++ [(b, k * 6, false)] ++ [(b, k * 6 + 1, false)] ++ [(b, k * 6 + 2, true)] ++ [(b, k * 6 + 3, true)] ++ lN X.2.np X.1.ns.length) x) := M4.out.app L0 (by have := HY.out; simp only [List.length_append, List.length_singleton]; omega) HSB0.out.2.1
      clear L0 s0
      have S1 := P0.out.hh HHH.out (HTL.out.2.2.pre (A := A ++ [(b, k * 6, false)] ++ [(b, k * 6 + 1, false)] ++ [(b, k * 6 + 2, true)] ++ [(b, k * 6 + 3, true)] ++ lN X.2.np X.1.ns.length) (R := (lTs (vb X.2.tv) 0 X.2.zs) ++ (R)) (by rw [HT.out]; unfold lE; simp only [List.append_assoc, List.cons_append, List.nil_append]))
      have HS1H : Hid (HH u0 (hEs b 0 xs)) := S1
      clear S1
      have s1 : u0.cell? ⟨b, k * 6 + 5, none⟩ = some (.slice ta X.2.zs.length tc) := by
        have := HS1H.out (b, k * 6 + 5, X.2.tv) (HHM.out _ (by unfold hE; simp))
        rw [HtaV.out] at this
        exact this
      have SB1 := P0.out.sub (B := lTs (vb X.2.tv) 0 X.2.zs) (R := R) HTL.out.1 HTL.out.2.1 (by rw [HT.out]; unfold lE; simp only [List.append_assoc, List.cons_append, List.nil_append])
      have HSB1 : Hid (Lv u0 (lTs (vb X.2.tv) 0 X.2.zs) ∧ Ds (A ++ [(b, k * 6, false)] ++ [(b, k * 6 + 1, false)] ++ [(b, k * 6 + 2, true)] ++ [(b, k * 6 + 3, true)] ++ lN X.2.np X.1.ns.length) (lTs (vb X.2.tv) 0 X.2.zs) ∧ Nd (lTs (vb X.2.tv) 0 X.2.zs)) := SB1
      clear SB1
      go_wp2_with fail
      refine (t_markTs _ ta tc (vb X.2.tv) X.2.zs (y + 4 + X.1.ns.length) _ (by omega) HtaA.out HtaS.out (fun c hc => HS1H.out c (HHM.out c (by unfold hE; simp [hc]))) (HTL.out.2.2.part (A := A ++ [(b, k * 6, false)] ++ [(b, k * 6 + 1, false)] ++ [(b, k * 6 + 2, true)] ++ [(b, k * 6 + 3, true)] ++ lN X.2.np X.1.ns.length) (B := lTs (vb X.2.tv) 0 X.2.zs) (R := R) (by rw [HT.out]; unfold lE; simp only [List.append_assoc, List.cons_append, List.nil_append]) (fun c hc => HHM.out c (by unfold hE; simp [hc]))) HSB1.out.1 HSB1.out.2.2 (by omega) (by have := HYT.out; unfold lE at this; simp only [List.length_cons, List.length_append, lN_len] at this; omega) HtaL.out).mono ?_
      rintro e u1 ⟨rfl, L1⟩
      have P1 : Hid (Mkd w u1 (A ++ [(b, k * 6, false)] ++ [(b, k * 6 + 1, false)] ++ [(b, k * 6 + 2, true)] ++ [(b, k * 6 + 3, true)] ++ lN X.2.np X.1.ns.length ++ lTs (vb X.2.tv) 0 X.2.zs) x) := P0.out.app L1 (by have := HY.out; simp only [List.length_append, List.length_singleton, lN_len]; omega) HSB1.out.2.1
      clear L1 s1
      have HNX : Hid (Mkd w u1 (lEs b 0 (xs.take (k + 1))) x) := by
        rw [HS1.out]
        have e : A ++ [(b, k * 6, false)] ++ [(b, k * 6 + 1, false)] ++ [(b, k * 6 + 2, true)] ++ [(b, k * 6 + 3, true)] ++ lN X.2.np X.1.ns.length ++ lTs (vb X.2.tv) 0 X.2.zs = A ++ lE b k X := by unfold lE; simp only [List.append_assoc, List.cons_append, List.nil_append]; try rfl
        rw [← e]
        exact P1.out
      have HLN : Hid (x + (lEs b 0 (xs.take (k + 1))).length = y + 4 + X.1.ns.length + (lTs (vb X.2.tv) 0 X.2.zs).length) := by
        show _ = _
        rw [HS1.out, List.length_append, HY.out]
        unfold lE
        simp only [List.length_cons, List.length_append, lN_len]
        omega
      clear HM M1 M2 M3 M4 P0 HSB0 HS0H P1 HSB1 HS1H
      go_wp2
      go_roundw
      case rel => exact ⟨k + 1, by omega, by go_num, by rw [HLN.out]; first | rfl | (congr 1; omega) | (simp; omega), HNX.out⟩
      case measure => simp [intOf]; omega
    · have hkn : k = xs.length := by omega
      subst hkn
      rw [List.take_length] at hM ⊢
      have FIN : Hid (Mkd w wr (lEs b 0 xs) x) := hM
      clear hM
      go_wp2
      go_ret
      exact ⟨rfl, FIN.out⟩


end Go.Proofs.YtcehppndpccldaaGreatDoor

namespace Go.Proofs.YtcehppndpccldaaGreatDoor
open Go.RowKit

set_option maxRecDepth 100000 in
set_option maxHeartbeats 4000000 in
theorem t_markDs (z : Int) (a : Option Addr) (c b : Nat) (xs : List (DC × DPl)) (x : Nat) (w : World) (hz : z = (x : Int)) (ha : 0 < xs.length → a = some ⟨b, 0, none⟩) (hat : ∀ y, y ∈ xs → AtD y) (hh : HH w (hDs b 0 xs)) (hs : Sp (hDs b 0 xs) (lDs b 0 xs)) (hl : Lv w (lDs b 0 xs)) (hn : Nd (lDs b 0 xs)) (hx1 : 1 ≤ x) (hx2 : x + (lDs b 0 xs).length ≤ 2305843009213693952) (hlen : xs.length ≤ 1000000) :
    Calls Tryz.prog 29 #[.slice a xs.length c, .int .i64 z] w fun e w' => e = .returned (.int .i64 ((x + (lDs b 0 xs).length : Nat) : Int)) ∧ Mkd w w' (lDs b 0 xs) x := by
  subst hz
  have HA : Hid (0 < xs.length → a = some ⟨b, 0, none⟩) := ha
  have HAT : Hid (∀ y, y ∈ xs → AtD y) := hat
  have HHH : Hid (HH w (hDs b 0 xs)) := hh
  have HSP : Hid (Sp (hDs b 0 xs) (lDs b 0 xs)) := hs
  have HL : Hid (Lv w (lDs b 0 xs)) := hl
  have HN : Hid (Nd (lDs b 0 xs)) := hn
  have HX2 : Hid (x + (lDs b 0 xs).length ≤ 2305843009213693952) := hx2
  have HX1 : Hid (1 ≤ x) := hx1
  have ST : Mkd w w (lDs b 0 (xs.take 0)) x := mkd_of_below (Below.refl _ _) x
  clear ha hat hh hs hl hn hx1 hx2
  go_enter Tryz.func29, Tryz.ntmps29
  go_wp2
  go_loopw [1, 5] (fun y i wr => ∃ k : Nat, k ≤ xs.length ∧ i = .int .i64 k ∧ y = .int .i64 ((x + (lDs b 0 (xs.take k)).length : Nat) : Int) ∧ Mkd w wr (lDs b 0 (xs.take k)) x) (fun _ i _ => xs.length - (intOf i).toNat)
  case atStart => exact ⟨0, Nat.zero_le _, rfl, by simp [lDs], ST⟩
  case round =>
    obtain ⟨k, hk, rfl, rfl, hM⟩ := hrel
    clear ST
    by_cases hlt : k < xs.length
    · have e1 := HA.out (by omega)
      subst e1
      obtain ⟨s1, s2⟩ := lDs_at b hlt
      obtain ⟨X, hX⟩ : ∃ X, X = xs[k] := ⟨_, rfl⟩
      have HXM : Hid (X ∈ xs) := by rw [hX]; exact List.getElem_mem hlt
      have HHM : Hid (∀ c, c ∈ hD b k X → c ∈ hDs b 0 xs) := fun c hc => mem_hDs b xs 0 k hlt c (by rw [Nat.zero_add, ← hX]; exact hc)
      rw [← hX] at s1 s2
      obtain ⟨A, hA⟩ : ∃ A, A = lDs b 0 (xs.take k) := ⟨_, rfl⟩
      obtain ⟨T, hT⟩ : ∃ T, T = lDs b 0 xs := ⟨_, rfl⟩
      obtain ⟨R, hR⟩ : ∃ R, R = lDs b (k + 1) (xs.drop (k + 1)) := ⟨_, rfl⟩
      have HTL : Hid (Lv w T ∧ Nd T ∧ Sp (hDs b 0 xs) T) := by rw [hT]; exact ⟨HL.out, HN.out, HSP.out⟩
      rw [← hA] at s1 s2 hM ⊢
      rw [← hT, ← hR] at s2
      have HT : Hid (T = A ++ (lD b k X ++ R)) := s2
      have HS1 : Hid (lDs b 0 (xs.take (k + 1)) = A ++ lD b k X) := s1
      obtain ⟨y, hy⟩ : ∃ y : Nat, y = x + A.length := ⟨_, rfl⟩
      have HY : Hid (y = x + A.length) := hy
      have hy1 : 1 ≤ y := by have := HX1.out; omega
      have hyT : y + (lD b k X).length ≤ 2305843009213693952 := by
        have := HX2.out
        rw [← hT, s2, List.length_append, List.length_append] at this
        omega
      have HYT : Hid (y + (lD b k X).length ≤ 2305843009213693952) := hyT
      have hlL : 2 ≤ (lD b k X).length := by unfold lD; simp
      have hy2 : y + 2 ≤ 2305843009213693952 := by omega
      rw [← hy]
      have HM : Hid (Mkd w wr A x) := hM
      clear hX hA hT hR s1 s2 hM hy hyT hlL
      have RT0 : Hid (∃ R', T = A ++ (b, k * 4, false) :: (b, k * 4 + 1, true) :: R') := ⟨_, HT.out⟩
      obtain ⟨wr0, ⟨v0, q0⟩, m0⟩ := (let ⟨R', hR'⟩ := RT0.out; HM.out.step (a := (b, k * 4, false)) (R := (b, k * 4 + 1, true) :: R') (y := y) HTL.out.1 HTL.out.2.1 (by rw [hR']; first | done | simp) (by have := HY.out; first | exact this | (simp only [List.length_append, List.length_singleton]; omega)))
      have f0 : wr.frozen? ⟨b, k * 4, none⟩ = false := wr0.frozen (k * 4)
      have k0 : wr.cell? ⟨b, k * 4, none⟩ = some v0 := q0
      have M1 : Hid (Mkd w (wr.setCell ⟨b, k * 4, none⟩ (.int .i64 (y : Int))) (A ++ [(b, k * 4, false)]) x) := m0
      clear wr0 q0 m0
      go_wp2_with fail
      refine (t_markText _ (y + 1) _ (by omega) (by omega) (by omega)).mono ?_
      rintro e w1 ⟨rfl, hb1⟩
      have N1 := M1.out.below hb1
      obtain ⟨wr1, ⟨v1, q1⟩, m1⟩ := (let ⟨R', hR'⟩ := RT0.out; N1.step (a := (b, k * 4 + 1, true)) (R := R') (y := (y + 1)) HTL.out.1 HTL.out.2.1 (by rw [hR']; first | done | simp) (by have := HY.out; first | exact this | (simp only [List.length_append, List.length_singleton]; omega)))
      have f1 : w1.frozen? ⟨b, k * 4 + 1, none⟩ = false := wr1.frozen (k * 4 + 1)
      have k1 : w1.cell? ⟨b, k * 4 + 1, none⟩ = some v1 := q1
      have M2 : Hid (Mkd w (w1.setCell ⟨b, k * 4 + 1, none⟩ (.string (mt (y + 1)))) (A ++ [(b, k * 4, false)] ++ [(b, k * 4 + 1, true)]) x) := m1
      clear wr1 q1 m1 hb1 N1
      have hat := HAT.out X HXM.out
      have HATX : Hid _ := hat
      have S0 := M2.out.hh HHH.out (HTL.out.2.2.pre (A := A ++ [(b, k * 4, false)] ++ [(b, k * 4 + 1, true)]) (R := (lTs (vb X.2.tv) 0 X.2.zs) ++ ((lEs (vb X.2.ev) 0 X.2.es) ++ (R))) (by rw [HT.out]; unfold lD; simp only [List.append_assoc, List.cons_append, List.nil_append]))
      have HS0H : Hid (HH (w1.setCell ⟨b, k * 4 + 1, none⟩ (.string (mt (y + 1)))) (hDs b 0 xs)) := S0
      clear S0
      obtain ⟨ta, tc, htvta, htata, hatsta, hzlta⟩ := hat.1
      have HtaV : Hid (X.2.tv = .slice ta X.2.zs.length tc) := htvta
      have HtaA : Hid (0 < X.2.zs.length → ta = some ⟨vb X.2.tv, 0, none⟩) := htata
      have HtaS : Hid (∀ u, u ∈ X.2.zs → AtT u) := hatsta
      have HtaL : Hid (X.2.zs.length ≤ 1000000) := hzlta
      clear htvta htata hatsta hzlta
      obtain ⟨ea, ec, htvea, htaea, hatsea, hzlea⟩ := hat.2
      have HeaV : Hid (X.2.ev = .slice ea X.2.es.length ec) := htvea
      have HeaA : Hid (0 < X.2.es.length → ea = some ⟨vb X.2.ev, 0, none⟩) := htaea
      have HeaS : Hid (∀ u, u ∈ X.2.es → AtE u) := hatsea
      have HeaL : Hid (X.2.es.length ≤ 1000000) := hzlea
      clear htvea htaea hatsea hzlea
      clear hat
      have s0 : (w1.setCell ⟨b, k * 4 + 1, none⟩ (.string (mt (y + 1)))).cell? ⟨b, k * 4 + 2, none⟩ = some (.slice ta X.2.zs.length tc) := by
        have := HS0H.out (b, k * 4 + 2, X.2.tv) (HHM.out _ (by unfold hD; simp))
        rw [HtaV.out] at this
        exact this
      have SB0 := M2.out.sub (B := lTs (vb X.2.tv) 0 X.2.zs) (R := (lEs (vb X.2.ev) 0 X.2.es) ++ (R)) HTL.out.1 HTL.out.2.1 (by rw [HT.out]; unfold lD; simp only [List.append_assoc, List.cons_append, List.nil_append])
      have HSB0 : Hid (Lv (w1.setCell ⟨b, k * 4 + 1, none⟩ (.string (mt (y + 1)))) (lTs (vb X.2.tv) 0 X.2.zs) ∧ Ds (A ++ [(b, k * 4, false)] ++ [(b, k * 4 + 1, true)]) (lTs (vb X.2.tv) 0 X.2.zs) ∧ Nd (lTs (vb X.2.tv) 0 X.2.zs)) := SB0
      clear SB0
      go_wp2_with fail
      refine (t_markTs _ ta tc (vb X.2.tv) X.2.zs (y + 2) _ (by omega) HtaA.out HtaS.out (fun c hc => HS0H.out c (HHM.out c (by unfold hD; simp [hc]))) (HTL.out.2.2.part (A := A ++ [(b, k * 4, false)] ++ [(b, k * 4 + 1, true)]) (B := lTs (vb X.2.tv) 0 X.2.zs) (R := (lEs (vb X.2.ev) 0 X.2.es) ++ (R)) (by rw [HT.out]; unfold lD; simp only [List.append_assoc, List.cons_append, List.nil_append]) (fun c hc => HHM.out c (by unfold hD; simp [hc]))) HSB0.out.1 HSB0.out.2.2 (by omega) (by have := HYT.out; unfold lD at this; simp only [List.length_cons, List.length_append] at this; omega) HtaL.out).mono ?_
      rintro e u0 ⟨rfl, L0⟩
      have P0 : Hid (Mkd w u0 (A ++ [(b, k * 4, false)] ++ [(b, k * 4 + 1, true)] ++ lTs (vb X.2.tv) 0 X.2.zs) x) := M2.out.app L0 (by have := HY.out; simp only [List.length_append, List.length_singleton]; omega) HSB0.out.2.1
      clear L0 s0
      have S1 := P0.out.hh HHH.out (HTL.out.2.2.pre (A := A ++ [(b, k * 4, false)] ++ [(b, k * 4 + 1, true)] ++ lTs (vb X.2.tv) 0 X.2.zs) (R := (lEs (vb X.2.ev) 0 X.2.es) ++ (R)) (by rw [HT.out]; unfold lD; simp only [List.append_assoc, List.cons_append, List.nil_append]))
      have HS1H : Hid (HH u0 (hDs b 0 xs)) := S1
      clear S1
      have s1 : u0.cell? ⟨b, k * 4 + 3, none⟩ = some (.slice ea X.2.es.length ec) := by
        have := HS1H.out (b, k * 4 + 3, X.2.ev) (HHM.out _ (by unfold hD; simp))
        rw [HeaV.out] at this
        exact this
      have SB1 := P0.out.sub (B := lEs (vb X.2.ev) 0 X.2.es) (R := R) HTL.out.1 HTL.out.2.1 (by rw [HT.out]; unfold lD; simp only [List.append_assoc, List.cons_append, List.nil_append])
      have HSB1 : Hid (Lv u0 (lEs (vb X.2.ev) 0 X.2.es) ∧ Ds (A ++ [(b, k * 4, false)] ++ [(b, k * 4 + 1, true)] ++ lTs (vb X.2.tv) 0 X.2.zs) (lEs (vb X.2.ev) 0 X.2.es) ∧ Nd (lEs (vb X.2.ev) 0 X.2.es)) := SB1
      clear SB1
      go_wp2_with fail
      refine (t_markEs _ ea ec (vb X.2.ev) X.2.es (y + 2 + (lTs (vb X.2.tv) 0 X.2.zs).length) _ (by omega) HeaA.out HeaS.out (fun c hc => HS1H.out c (HHM.out c (by unfold hD; simp [hc]))) (HTL.out.2.2.part (A := A ++ [(b, k * 4, false)] ++ [(b, k * 4 + 1, true)] ++ lTs (vb X.2.tv) 0 X.2.zs) (B := lEs (vb X.2.ev) 0 X.2.es) (R := R) (by rw [HT.out]; unfold lD; simp only [List.append_assoc, List.cons_append, List.nil_append]) (fun c hc => HHM.out c (by unfold hD; simp [hc]))) HSB1.out.1 HSB1.out.2.2 (by omega) (by have := HYT.out; unfold lD at this; simp only [List.length_cons, List.length_append] at this; omega) HeaL.out).mono ?_
      rintro e u1 ⟨rfl, L1⟩
      have P1 : Hid (Mkd w u1 (A ++ [(b, k * 4, false)] ++ [(b, k * 4 + 1, true)] ++ lTs (vb X.2.tv) 0 X.2.zs ++ lEs (vb X.2.ev) 0 X.2.es) x) := P0.out.app L1 (by have := HY.out; simp only [List.length_append, List.length_singleton]; omega) HSB1.out.2.1
      clear L1 s1
      have HNX : Hid (Mkd w u1 (lDs b 0 (xs.take (k + 1))) x) := by
        rw [HS1.out]
        have e : A ++ [(b, k * 4, false)] ++ [(b, k * 4 + 1, true)] ++ lTs (vb X.2.tv) 0 X.2.zs ++ lEs (vb X.2.ev) 0 X.2.es = A ++ lD b k X := by unfold lD; simp only [List.append_assoc, List.cons_append, List.nil_append]; try rfl
        rw [← e]
        exact P1.out
      have HLN : Hid (x + (lDs b 0 (xs.take (k + 1))).length = y + 2 + (lTs (vb X.2.tv) 0 X.2.zs).length + (lEs (vb X.2.ev) 0 X.2.es).length) := by
        show _ = _
        rw [HS1.out, List.length_append, HY.out]
        unfold lD
        simp only [List.length_cons, List.length_append, ]
        omega
      clear HM M1 M2 P0 HSB0 HS0H P1 HSB1 HS1H
      go_wp2
      go_roundw
      case rel => exact ⟨k + 1, by omega, by go_num, by rw [HLN.out]; first | rfl | (congr 1; omega) | (simp; omega), HNX.out⟩
      case measure => simp [intOf]; omega
    · have hkn : k = xs.length := by omega
      subst hkn
      rw [List.take_length] at hM ⊢
      have FIN : Hid (Mkd w wr (lDs b 0 xs) x) := hM
      clear hM
      go_wp2
      go_ret
      exact ⟨rfl, FIN.out⟩


end Go.Proofs.YtcehppndpccldaaGreatDoor

