/-
  The order in which types are first met, told without a program: the nodes that stand for them, one a type.
-/
import Derived.Test.YtpbpbppimkeodaaGreatDoorMath
namespace Go.Proofs.YtpbpbppimkeodaaGreatDoor

/-- The node's type stands already. -/
def stands (cl : Nat → Nat) (st : List Nat) (n : Nat) : Bool := st.any fun s => cl s == cl n

theorem stands_iff {cl : Nat → Nat} {st : List Nat} {n : Nat} : stands cl st n = true ↔ ∃ s, s ∈ st ∧ cl s = cl n := by
  unfold stands; simp

/-- The node with all that is below it; f: how deep one may go. -/
def vis (G : Nat → ND) (cl : Nat → Nat) : Nat → List Nat → Nat → List Nat
  | 0, st, _ => st
  | f + 1, st, n => if stands cl st n then st else (List.range (G n).nk).foldl (fun s j => vis G cl f s (kid (G n) j)) (st ++ [n])

theorem foldl_keeps {α β : Type} {Q : β → Prop} {g : β → α → β} : ∀ (l : List α) (b : β), Q b → (∀ c x, x ∈ l → Q c → Q (g c x)) → Q (l.foldl g b)
  | [], _, h, _ => h
  | x :: t, b, h, hs => by
    rw [List.foldl_cons]
    exact foldl_keeps t _ (hs b x List.mem_cons_self h) (fun c y hy hc => hs c y (List.mem_cons_of_mem _ hy) hc)

theorem foldl_map_of {α β γ : Type} {m : β → γ} {g : β → α → β} {k : γ → α → γ} {Q : β → Prop} : ∀ (l : List α) (b : β), Q b → (∀ c x, x ∈ l → Q c → m (g c x) = k (m c) x ∧ Q (g c x)) → m (l.foldl g b) = l.foldl k (m b) ∧ Q (l.foldl g b)
  | [], _, h, _ => ⟨rfl, h⟩
  | x :: t, b, h, hs => by
    obtain ⟨e, h'⟩ := hs b x List.mem_cons_self h
    rw [List.foldl_cons, List.foldl_cons, ← e]
    exact foldl_map_of t _ h' (fun c y hy hc => hs c y (List.mem_cons_of_mem _ hy) hc)

/-- All that stands are nodes. -/
theorem vis_lt {N : Nat} {G : Nat → ND} {cl : Nat → Nat} (hK : Kids N G) : ∀ (f : Nat) (st : List Nat) (n : Nat), n < N → (∀ s, s ∈ st → s < N) → ∀ s, s ∈ vis G cl f st n → s < N
  | 0, _, _, _, h => h
  | f + 1, st, n, hn, h => by
    unfold vis
    by_cases hs : stands cl st n = true
    · rw [if_pos hs]; exact h
    · rw [if_neg hs]
      refine foldl_keeps (Q := fun s => ∀ x, x ∈ s → x < N) _ _ (fun s hs' => ?_) (fun c j hj hc => vis_lt hK f c _ (hK.lt hn (List.mem_range.1 hj)) hc)
      rcases List.mem_append.1 hs' with q | q
      · exact h s q
      · simp at q; subst q; exact hn

/-- What stood stands, in its place. -/
theorem vis_prefix {G : Nat → ND} {cl : Nat → Nat} : ∀ (f : Nat) (st : List Nat) (n : Nat), ∃ t, vis G cl f st n = st ++ t
  | 0, st, _ => ⟨[], by simp [vis]⟩
  | f + 1, st, n => by
    unfold vis
    by_cases hs : stands cl st n = true
    · rw [if_pos hs]; exact ⟨[], by simp⟩
    · rw [if_neg hs]
      refine foldl_keeps (Q := fun s => ∃ t, s = st ++ t) _ _ ⟨[n], rfl⟩ (fun c j _ hc => ?_)
      obtain ⟨t, rfl⟩ := hc
      obtain ⟨t', e⟩ := vis_prefix (G := G) (cl := cl) f (st ++ t) (kid (G n) j)
      exact ⟨t ++ t', by rw [e, List.append_assoc]⟩

theorem vis_sub {G : Nat → ND} {cl : Nat → Nat} (f : Nat) (st : List Nat) (n : Nat) {s : Nat} (h : s ∈ st) : s ∈ vis G cl f st n := by
  obtain ⟨t, e⟩ := vis_prefix (G := G) (cl := cl) f st n
  rw [e]; exact List.mem_append_left _ h

/-- One node a type. -/
def Apart (cl : Nat → Nat) (st : List Nat) : Prop := st.Pairwise fun a b => cl a ≠ cl b

theorem vis_apart {G : Nat → ND} {cl : Nat → Nat} : ∀ (f : Nat) (st : List Nat) (n : Nat), Apart cl st → Apart cl (vis G cl f st n)
  | 0, _, _, h => h
  | f + 1, st, n, h => by
    unfold vis
    by_cases hs : stands cl st n = true
    · rw [if_pos hs]; exact h
    · rw [if_neg hs]
      refine foldl_keeps (Q := Apart cl) _ _ ?_ (fun c j _ hc => vis_apart f c _ hc)
      refine List.pairwise_append.2 ⟨h, by simp, fun a ha b hb e => ?_⟩
      simp at hb; subst hb
      exact hs (stands_iff.2 ⟨a, ha, e⟩)

/-- Only which nodes are of one class matters. -/
theorem vis_congr {N : Nat} {G : Nat → ND} {cl cl' : Nat → Nat} (hK : Kids N G) (hc : ∀ a b, a < N → b < N → (cl a = cl b ↔ cl' a = cl' b)) : ∀ (f : Nat) (st : List Nat) (n : Nat), n < N → (∀ s, s ∈ st → s < N) → vis G cl f st n = vis G cl' f st n
  | 0, _, _, _, _ => rfl
  | f + 1, st, n, hn, h => by
    have e : stands cl st n = stands cl' st n := by
      rw [Bool.eq_iff_iff, stands_iff, stands_iff]
      exact ⟨fun ⟨s, hs, e⟩ => ⟨s, hs, (hc s n (h s hs) hn).1 e⟩, fun ⟨s, hs, e⟩ => ⟨s, hs, (hc s n (h s hs) hn).2 e⟩⟩
    unfold vis
    rw [e]
    by_cases hs : stands cl' st n = true
    · rw [if_pos hs, if_pos hs]
    · rw [if_neg hs, if_neg hs]
      refine (foldl_map_of (m := fun s : List Nat => s) (Q := fun s : List Nat => ∀ x, x ∈ s → x < N) (List.range (G n).nk) (st ++ [n]) (fun s q => ?_) (fun c j hj hq => ?_)).1
      · rcases List.mem_append.1 q with q | q
        · exact h s q
        · simp at q; subst q; exact hn
      · have hk := hK.lt hn (List.mem_range.1 hj)
        exact ⟨vis_congr hK hc f c _ hk hq, vis_lt hK f c _ hk hq⟩

/-- A graph whose nodes stand for nodes of another, label for label and kid for kid. -/
structure Hom (N' : Nat) (G' : Nat → ND) (N : Nat) (G : Nat → ND) (h : Nat → Nat) : Prop where
  lt : ∀ i, i < N' → h i < N
  lab : ∀ i, i < N' → Lab (G' i) (G (h i))
  kids : ∀ i, i < N' → ∀ j, j < (G' i).nk → kid (G' i) j < N' ∧ h (kid (G' i) j) = kid (G (h i)) j

theorem vis_hom {N' N : Nat} {G' G : Nat → ND} {h cl' cl : Nat → Nat} (H : Hom N' G' N G h) (hc : ∀ a b, a < N' → b < N' → (cl' a = cl' b ↔ cl (h a) = cl (h b))) :
    ∀ (f : Nat) (st : List Nat) (n : Nat), n < N' → (∀ s, s ∈ st → s < N') → (vis G' cl' f st n).map h = vis G cl f (st.map h) (h n) ∧ ∀ s, s ∈ vis G' cl' f st n → s < N'
  | 0, _, _, _, hs => ⟨rfl, hs⟩
  | f + 1, st, n, hn, hst => by
    have e : stands cl' st n = stands cl (st.map h) (h n) := by
      rw [Bool.eq_iff_iff, stands_iff, stands_iff]
      constructor
      · rintro ⟨s, hs, e⟩; exact ⟨h s, List.mem_map.2 ⟨s, hs, rfl⟩, (hc s n (hst s hs) hn).1 e⟩
      · rintro ⟨s, hs, e⟩
        obtain ⟨z, hz, rfl⟩ := List.mem_map.1 hs
        exact ⟨z, hz, (hc z n (hst z hz) hn).2 e⟩
    unfold vis
    rw [e]
    by_cases hs : stands cl (st.map h) (h n) = true
    · rw [if_pos hs, if_pos hs]; exact ⟨rfl, hst⟩
    · rw [if_neg hs, if_neg hs, ← (H.lab n hn).nk, show List.map h st ++ [h n] = List.map h (st ++ [n]) from by simp]
      refine foldl_map_of (m := List.map h) (Q := fun s : List Nat => ∀ x, x ∈ s → x < N') (List.range (G' n).nk) (st ++ [n]) (fun s q => ?_) (fun c j hj hq => ?_)
      · rcases List.mem_append.1 q with q | q
        · exact hst s q
        · simp at q; subst q; exact hn
      · have hk := H.kids n hn j (List.mem_range.1 hj)
        have := vis_hom H hc f c _ hk.1 hq
        rw [hk.2] at this
        exact this

/-- Same types here are same types there. -/
theorem Hom.same {N' N : Nat} {G' G : Nat → ND} {h : Nat → Nat} (H : Hom N' G' N G h) {a b : Nat} (ha : a < N') (hb : b < N') : Same N' G' a b ↔ Same N G (h a) (h b) := by
  constructor
  · rintro ⟨R, hR, hab⟩
    refine ⟨fun u v => ∃ x y, x < N' ∧ y < N' ∧ R x y ∧ h x = u ∧ h y = v, fun u v _ _ huv => ?_, ⟨a, b, ha, hb, hab, rfl, rfl⟩⟩
    obtain ⟨x, y, hx, hy, hxy, rfl, rfl⟩ := huv
    obtain ⟨l, k⟩ := hR x y hx hy hxy
    refine ⟨(H.lab x hx).symm.trans (l.trans (H.lab y hy)), fun j hj => ?_⟩
    have hj' : j < (G' x).nk := by rw [(H.lab x hx).nk]; exact hj
    have hj2 : j < (G' y).nk := by rw [← l.nk]; exact hj'
    have kx := H.kids x hx j hj'
    have ky := H.kids y hy j hj2
    exact ⟨_, _, kx.1, ky.1, k j hj', kx.2, ky.2⟩
  · rintro ⟨R, hR, hab⟩
    refine ⟨fun x y => x < N' ∧ y < N' ∧ R (h x) (h y), fun x y hx hy hxy => ?_, ⟨ha, hb, hab⟩⟩
    obtain ⟨l, k⟩ := hR (h x) (h y) (H.lt x hx) (H.lt y hy) hxy.2.2
    have l' := (H.lab x hx).trans (l.trans (H.lab y hy).symm)
    refine ⟨l', fun j hj => ?_⟩
    have kx := H.kids x hx j hj
    have ky := H.kids y hy j (by rw [← l'.nk]; exact hj)
    exact ⟨kx.1, ky.1, by rw [kx.2, ky.2]; exact k j (by rw [← (H.lab x hx).nk]; exact hj)⟩

/-- How many nodes have no one to stand for them. -/
def missing (N : Nat) (cl : Nat → Nat) (st : List Nat) : Nat := ((List.range N).filter fun x => !stands cl st x).length

theorem stands_more {cl : Nat → Nat} {st st' : List Nat} {n : Nat} (h : ∀ s, s ∈ st → s ∈ st') (hs : stands cl st n = true) : stands cl st' n = true := by
  obtain ⟨s, h1, h2⟩ := stands_iff.1 hs
  exact stands_iff.2 ⟨s, h s h1, h2⟩

theorem filter_le {α : Type} {p q : α → Bool} : ∀ (l : List α), (∀ x, x ∈ l → p x = true → q x = true) → (l.filter p).length ≤ (l.filter q).length
  | [], _ => by simp
  | x :: t, h => by
    have ih := filter_le t (fun y hy => h y (List.mem_cons_of_mem _ hy))
    have hx := h x List.mem_cons_self
    cases hp : p x
    · rw [List.filter_cons_of_neg (by simp [hp])]
      cases hq : q x
      · rw [List.filter_cons_of_neg (by simp [hq])]; exact ih
      · rw [List.filter_cons_of_pos hq, List.length_cons]; omega
    · rw [List.filter_cons_of_pos hp, List.filter_cons_of_pos (hx hp), List.length_cons, List.length_cons]; omega

theorem filter_lt {α : Type} {p q : α → Bool} {z : α} : ∀ (l : List α), (∀ x, x ∈ l → p x = true → q x = true) → z ∈ l → p z = false → q z = true → (l.filter p).length < (l.filter q).length
  | [], _, hz, _, _ => by simp at hz
  | x :: t, h, hz, hp, hq => by
    have hx := h x List.mem_cons_self
    have ht := fun y hy => h y (List.mem_cons_of_mem x hy)
    rcases List.mem_cons.1 hz with rfl | hz'
    · rw [List.filter_cons_of_neg (by simp [hp]), List.filter_cons_of_pos hq, List.length_cons]
      have := filter_le t ht; omega
    · have ih := filter_lt t ht hz' hp hq
      cases hpx : p x
      · rw [List.filter_cons_of_neg (by simp [hpx])]
        cases hqx : q x
        · rw [List.filter_cons_of_neg (by simp [hqx])]; exact ih
        · rw [List.filter_cons_of_pos hqx, List.length_cons]; omega
      · rw [List.filter_cons_of_pos hpx, List.filter_cons_of_pos (hx hpx), List.length_cons, List.length_cons]; omega

theorem missing_le {N : Nat} {cl : Nat → Nat} {st st' : List Nat} (h : ∀ s, s ∈ st → s ∈ st') : missing N cl st' ≤ missing N cl st :=
  filter_le _ (fun x _ hx => by
    cases e : stands cl st x
    · rfl
    · rw [stands_more h e] at hx; cases hx)

theorem missing_lt {N : Nat} {cl : Nat → Nat} {st : List Nat} {n : Nat} (hn : n < N) (hs : ¬ stands cl st n = true) : missing N cl (st ++ [n]) < missing N cl st :=
  filter_lt _ (fun x _ hx => by
    cases e : stands cl st x
    · rfl
    · rw [stands_more (fun s q => List.mem_append_left _ q) e] at hx; cases hx) (List.mem_range.2 hn)
    (by rw [stands_iff.2 ⟨n, by simp, rfl⟩]; rfl) (by cases e : stands cl st n; rfl; exact absurd e hs)

theorem missing_all (N : Nat) (cl : Nat → Nat) (st : List Nat) : missing N cl st ≤ N := by
  unfold missing
  have := List.length_filter_le (fun x => !stands cl st x) (List.range N)
  simpa using this

/-- All kids of the node have one who stands for them. -/
def Covered (G : Nat → ND) (cl : Nat → Nat) (st : List Nat) (s : Nat) : Prop := ∀ j, j < (G s).nk → stands cl st (kid (G s) j) = true
theorem Covered.more {G : Nat → ND} {cl : Nat → Nat} {st st' : List Nat} {s : Nat} (h : Covered G cl st s) (hs : ∀ x, x ∈ st → x ∈ st') : Covered G cl st' s := fun j hj => stands_more hs (h j hj)

/-- Deep enough, the node stands, and whoever is new has all kids covered. -/
theorem vis_full {N : Nat} {G : Nat → ND} {cl : Nat → Nat} (hK : Kids N G) : ∀ (f : Nat) (st : List Nat) (n : Nat), n < N → (∀ s, s ∈ st → s < N) → missing N cl st < f →
    stands cl (vis G cl f st n) n = true ∧ ∀ s, s ∈ vis G cl f st n → s ∈ st ∨ Covered G cl (vis G cl f st n) s
  | 0, _, _, _, _, hf => absurd hf (Nat.not_lt_zero _)
  | f + 1, st, n, hn, hst, hf => by
    by_cases hs : stands cl st n = true
    · have e : vis G cl (f + 1) st n = st := by unfold vis; rw [if_pos hs]
      rw [e]; exact ⟨hs, fun s q => Or.inl q⟩
    · have hm := missing_lt hn hs
      have hst1 : ∀ s, s ∈ st ++ [n] → s < N := fun s q => by
        rcases List.mem_append.1 q with q | q
        · exact hst s q
        · simp at q; subst q; exact hn
      have e : vis G cl (f + 1) st n = (List.range (G n).nk).foldl (fun s j => vis G cl f s (kid (G n) j)) (st ++ [n]) := by conv => lhs; unfold vis; rw [if_neg hs]
      have main : ∀ k, k ≤ (G n).nk → ∀ S, S = (List.range k).foldl (fun s j => vis G cl f s (kid (G n) j)) (st ++ [n]) →
          (∀ s, s ∈ st ++ [n] → s ∈ S) ∧ (∀ s, s ∈ S → s < N) ∧ (∀ s, s ∈ S → s ∈ st ++ [n] ∨ Covered G cl S s) ∧ ∀ j, j < k → stands cl S (kid (G n) j) = true := by
        intro k
        induction k with
        | zero => intro _ S hS; subst hS; exact ⟨fun s q => q, hst1, fun s q => Or.inl q, fun j hj => absurd hj (Nat.not_lt_zero _)⟩
        | succ k ih =>
          intro hk S hS
          rw [List.range_succ, List.foldl_append, List.foldl_cons, List.foldl_nil] at hS
          obtain ⟨h1, h2, h3, h4⟩ := ih (by omega) _ rfl
          have hkk := hK.lt hn (show k < (G n).nk by omega)
          have hm2 := missing_le (N := N) (cl := cl) h1
          obtain ⟨v1, v2⟩ := vis_full (cl := cl) hK f _ _ hkk h2 (by omega)
          rw [← hS] at v1 v2
          have hsub : ∀ s, s ∈ (List.range k).foldl (fun s j => vis G cl f s (kid (G n) j)) (st ++ [n]) → s ∈ S := fun s q => by rw [hS]; exact vis_sub f _ _ q
          refine ⟨fun s q => hsub s (h1 s q), fun s q => by rw [hS] at q; exact vis_lt hK f _ _ hkk h2 s q, fun s q => ?_, fun j hj => ?_⟩
          · rcases v2 s q with q1 | q1
            · rcases h3 s q1 with q2 | q2
              · exact Or.inl q2
              · exact Or.inr (q2.more hsub)
            · exact Or.inr q1
          · by_cases ej : j = k
            · subst ej; exact v1
            · exact stands_more hsub (h4 j (by omega))
      obtain ⟨m1, _, m3, m4⟩ := main (G n).nk (Nat.le_refl _) _ e
      refine ⟨stands_iff.2 ⟨n, m1 n (by simp), rfl⟩, fun s q => ?_⟩
      rcases m3 s q with q1 | q1
      · rcases List.mem_append.1 q1 with q2 | q2
        · exact Or.inl q2
        · simp at q2; subst q2; exact Or.inr m4
      · exact Or.inr q1

end Go.Proofs.YtpbpbppimkeodaaGreatDoor
