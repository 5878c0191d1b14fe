/-
  Merged for the claim: CaA CaC CaB.
-/
import Derived.Test.YtpbpbppimkeodaaGreatDoorSmall
import Derived.Test.YtpbpbppimkeodaaGreatDoorMH
namespace Go.Proofs.YtpbpbppimkeodaaGreatDoor

theorem vis_fuel {N : Nat} {G : Nat → ND} {cl : Nat → Nat} (hK : Kids N G) : ∀ (f : Nat) (st : List Nat) (n : Nat), n < N → (∀ s, s ∈ st → s < N) → missing N cl st < f → vis G cl f st n = vis G cl (f + 1) st n
  | 0, _, _, _, _, hm => absurd hm (Nat.not_lt_zero _)
  | f + 1, st, n, hn, hst, hm => by
    unfold vis
    by_cases hs : stands cl st n = true
    · rw [if_pos hs, if_pos hs]
    · rw [if_neg hs, if_neg hs]
      have hm1 := missing_lt hn hs
      have := foldl_map_of (m := fun s : List Nat => s) (g := fun s j => vis G cl f s (kid (G n) j)) (k := fun s j => vis G cl (f + 1) s (kid (G n) j)) (Q := fun s : List Nat => (∀ x, x ∈ s → x < N) ∧ missing N cl s < f) (List.range (G n).nk) (st ++ [n]) ?_ ?_
      · exact this.1
      · refine ⟨fun s q => ?_, by omega⟩
        rcases List.mem_append.1 q with q | q
        · exact hst s q
        · simp at q; subst q; exact hn
      · rintro c j hj ⟨hc, hmc⟩
        have hk := hK.lt hn (List.mem_range.1 hj)
        exact ⟨vis_fuel hK f c _ hk hc hmc, vis_lt hK f c _ hk hc, Nat.lt_of_le_of_lt (missing_le (fun s hs => vis_sub f c _ hs)) hmc⟩

theorem vis_fuels {N : Nat} {G : Nat → ND} {cl : Nat → Nat} (hK : Kids N G) {f : Nat} {st : List Nat} {n : Nat} (hn : n < N) (hst : ∀ s, s ∈ st → s < N) (hm : missing N cl st < f) : ∀ d, vis G cl f st n = vis G cl (f + d) st n
  | 0 => rfl
  | d + 1 => by rw [vis_fuels hK hn hst hm d, vis_fuel hK (f + d) st n hn hst (by omega)]; rfl

theorem allTill_fuel {N : Nat} {G : Nat → ND} {cl : Nat → Nat} (hK : Kids N G) {ns : Nat → Nat} {m d : Nat} (hn : ∀ i, i < m → ns i < N) : ∀ k, k ≤ m → allTill G cl (N + 1) ns [] k = allTill G cl (N + 1 + d) ns [] k
  | 0, _ => rfl
  | k + 1, hk => by
    have ih := allTill_fuel (d := d) (cl := cl) hK hn k (by omega)
    have h1 := (allTill_full (cl := cl) hK hn (f := N + 1) (by omega) k (by omega)).1
    rw [allTill_succ, allTill_succ, ← ih]
    exact vis_fuels hK (hn k (by omega)) h1 (by have := missing_all N cl (allTill G cl (N + 1) ns [] k); omega) d

theorem allTill_hom {N' N : Nat} {G' G : Nat → ND} {h cl' cl : Nat → Nat} (H : Hom N' G' N G h) (hc : ∀ a b, a < N' → b < N' → (cl' a = cl' b ↔ cl (h a) = cl (h b))) {f m : Nat} {ns : Nat → Nat} (hn : ∀ i, i < m → ns i < N') : ∀ k, k ≤ m →
    (allTill G' cl' f ns [] k).map h = allTill G cl f (fun i => h (ns i)) [] k ∧ ∀ s, s ∈ allTill G' cl' f ns [] k → s < N'
  | 0, _ => ⟨rfl, fun s hs => by simp [allTill] at hs⟩
  | k + 1, hk => by
    obtain ⟨e, hl⟩ := allTill_hom H hc (f := f) hn k (by omega)
    rw [allTill_succ, allTill_succ, ← e]
    exact vis_hom H hc f _ _ (hn k (by omega)) hl

/-- Whoever stands for himself has his place. -/
theorem numOf_self {cl : Nat → Nat} {S : List Nat} (hA : Apart cl S) {k : Nat} (hk : k < S.length) : numOf cl S (S.getD k 0) = k := by
  have hs : stands cl S (S.getD k 0) = true := stands_iff.2 ⟨_, getD_mem hk, rfl⟩
  have hlt := numOf_lt hs
  have e : cl (S.getD (numOf cl S (S.getD k 0)) 0) = cl (S.getD k 0) := by
    have h' : (S.map cl).idxOf (cl (S.getD k 0)) < (S.map cl).length := by rw [List.length_map]; exact hlt
    have e := List.getElem_idxOf h'
    rw [List.getElem_map] at e
    have : S.getD (numOf cl S (S.getD k 0)) 0 = S[(S.map cl).idxOf (cl (S.getD k 0))]'(by rw [List.length_map] at h'; exact h') := by
      show S.getD ((S.map cl).idxOf (cl (S.getD k 0))) 0 = _
      rw [List.getD_eq_getElem?_getD, List.getElem?_eq_getElem]
      rfl
    rw [this]; exact e
  have gd1 : ∀ i (hi : i < S.length), S.getD i 0 = S[i] := fun i hi => by simp [List.getD, List.getElem?_eq_getElem hi]
  rw [gd1 _ hlt] at e
  have e2 : cl (S[numOf cl S (S.getD k 0)]'hlt) = cl S[k] := by rw [← gd1 k hk]; exact e
  have hp := List.pairwise_iff_getElem.1 hA
  rcases Nat.lt_trichotomy (numOf cl S (S.getD k 0)) k with c | c | c
  · exact absurd e2 (hp _ _ hlt hk c)
  · exact c
  · exact absurd e2.symm (hp _ _ hk hlt c)

theorem map_numOf {cl : Nat → Nat} {S : List Nat} (hA : Apart cl S) : S.map (numOf cl S) = List.range S.length := by
  apply List.ext_getElem
  · simp
  · intro k h1 h2
    rw [List.length_map] at h1
    rw [List.getElem_map, List.getElem_range]
    have e : S.getD k 0 = S[k] := by simp [List.getD, List.getElem?_eq_getElem h1]
    rw [← e]
    exact numOf_self hA h1

theorem allTill_apart {G : Nat → ND} {cl : Nat → Nat} {f : Nat} {ns : Nat → Nat} : ∀ k, Apart cl (allTill G cl f ns [] k)
  | 0 => List.Pairwise.nil
  | k + 1 => by rw [allTill_succ]; exact vis_apart f _ _ (allTill_apart k)

/-- A number is the same exactly if the classes are. -/
theorem numOf_eq {cl : Nat → Nat} {S : List Nat} {a b : Nat} (ha : stands cl S a = true) (hb : stands cl S b = true) : numOf cl S a = numOf cl S b ↔ cl a = cl b := by
  constructor
  · intro e
    obtain ⟨s, hs, es⟩ := stands_iff.1 ha
    obtain ⟨t, ht, et⟩ := stands_iff.1 hb
    have m1 : cl a ∈ S.map cl := List.mem_map.2 ⟨s, hs, es⟩
    have m2 : cl b ∈ S.map cl := List.mem_map.2 ⟨t, ht, et⟩
    unfold numOf at e
    have h1 := List.getElem_idxOf (List.idxOf_lt_length_of_mem m1)
    have h2 := List.getElem_idxOf (List.idxOf_lt_length_of_mem m2)
    rw [← h1, ← h2]
    congr 1
  · intro e; unfold numOf; rw [e]

/-- The numbering stands for the graph. -/
theorem hom_G2 {N : Nat} {G : Nat → ND} {cl : Nat → Nat} {S : List Nat} (hK : Kids N G) (hc : ∀ x y, x < N → y < N → cl x = cl y → Lab (G x) (G y) ∧ ∀ j, j < (G x).nk → cl (kid (G x) j) = cl (kid (G y) j)) (hS : ∀ s, s ∈ S → s < N) (hA : ∀ x, x < N → stands cl S x = true) : Hom N G S.length (G2 G cl S) (numOf cl S) := by
  have rep : ∀ x, x < N → cl (S.getD (numOf cl S x) 0) = cl x := fun x hx => by
    have hlt := numOf_lt (hA x hx)
    have h' : (S.map cl).idxOf (cl x) < (S.map cl).length := by rw [List.length_map]; exact hlt
    have e := List.getElem_idxOf h'
    rw [List.getElem_map] at e
    have : S.getD (numOf cl S x) 0 = S[(S.map cl).idxOf (cl x)]'(by rw [List.length_map] at h'; exact h') := by
      unfold numOf
      rw [List.getD_eq_getElem?_getD, List.getElem?_eq_getElem]
      rfl
    rw [this]; exact e
  refine ⟨fun x hx => numOf_lt (hA x hx), fun x hx => ?_, fun x hx j hj => ?_⟩
  · obtain ⟨l, _⟩ := hc _ _ hx (hS _ (getD_mem (numOf_lt (hA x hx)))) (rep x hx).symm
    exact ⟨l.kind, l.nn, l.nm, l.nk⟩
  · refine ⟨hK.lt hx hj, ?_⟩
    obtain ⟨l, k⟩ := hc _ _ hx (hS _ (getD_mem (numOf_lt (hA x hx)))) (rep x hx).symm
    show numOf cl S (kid (G x) j) = ((numOf cl S (kid (G (S.getD (numOf cl S x) 0)) j) : Nat) : Int).toNat
    unfold numOf
    rw [k j hj]
    rfl

theorem Hom.comp {N0 N1 N2 : Nat} {A B C : Nat → ND} {f g : Nat → Nat} (H : Hom N0 A N1 B f) (K : Hom N1 B N2 C g) : Hom N0 A N2 C (fun x => g (f x)) := by
  refine ⟨fun x hx => K.lt _ (H.lt x hx), fun x hx => (H.lab x hx).trans (K.lab _ (H.lt x hx)), fun x hx j hj => ?_⟩
  obtain ⟨a, b⟩ := H.kids x hx j hj
  obtain ⟨c, d⟩ := K.kids _ (H.lt x hx) j (by rw [← (H.lab x hx).nk]; exact hj)
  exact ⟨a, by rw [b]; exact d⟩

end Go.Proofs.YtpbpbppimkeodaaGreatDoor

namespace Go.Proofs.YtpbpbppimkeodaaGreatDoor

abbrev idn : Nat → Nat := fun i => i

theorem cong_of {N : Nat} {G : Nat → ND} {cl : Nat → Nat} (hK : Kids N G) (h : ∀ x y, x < N → y < N → (cl x = cl y ↔ Same N G x y)) : ∀ x y, x < N → y < N → cl x = cl y → Lab (G x) (G y) ∧ ∀ j, j < (G x).nk → cl (kid (G x) j) = cl (kid (G y) j) := by
  intro x y hx hy e
  have hs := (h x y hx hy).1 e
  have hl := hs.lab hx hy
  exact ⟨hl, fun j hj => (h _ _ (hK.lt hx hj) (hK.lt hy (by rw [← hl.nk]; exact hj))).2 (hs.kid hx hy hj)⟩

theorem apart_len {n : Nat} {cl : Nat → Nat} {S : List Nat} (hA : Apart cl S) (h : ∀ s, s ∈ S → s < n) : S.length ≤ n := by
  have hn : S.Nodup := hA.imp (fun hab e => hab (by rw [e]))
  have := nodup_len (l' := List.range n) hn (fun x hx => List.mem_range.2 (h x hx))
  simpa using this

/-- All that is known of the numbering by all nodes. -/
structure CanonF (N : Nat) (G : Nat → ND) (n2 : Nat) (c : Nat → ND) (at_ : Nat → Nat) : Prop where
  hom : Hom N G n2 c at_
  same : ∀ a b, a < N → b < N → (at_ a = at_ b ↔ Same N G a b)
  onto : ∀ x, x < n2 → ∃ i, i < N ∧ x = at_ i
  le : n2 ≤ N
  kids : Kids n2 c
  order : ∀ (D : Nat → ND) (clD : Nat → Nat), Kids n2 D → Hom N G n2 D at_ → (∀ x y, x < n2 → y < n2 → (clD x = clD y ↔ x = y)) → allTill D clD (n2 + 1) at_ [] N = List.range n2

theorem canon_facts {N : Nat} {G : Nat → ND} {cl : Nat → Nat} (hK : Kids N G) (hcl : ∀ x y, x < (S1 N N G idn).length → y < (S1 N N G idn).length → (cl x = cl y ↔ Same (S1 N N G idn).length (G1 N N G idn) x y)) :
    CanonF N G (allTill (G1 N N G idn) cl ((S1 N N G idn).length + 1) (ns1 N N G idn) [] N).length (G2 (G1 N N G idn) cl (allTill (G1 N N G idn) cl ((S1 N N G idn).length + 1) (ns1 N N G idn) [] N)) (fun i => numOf cl (allTill (G1 N N G idn) cl ((S1 N N G idn).length + 1) (ns1 N N G idn) [] N) (ns1 N N G idn i)) := by
  obtain ⟨f1, f2, f3⟩ := allTill_full (G := G) (cl := idn) hK (f := N + 1) (ns := idn) (m := N) (fun i hi => hi) (by omega) N (Nat.le_refl _)
  have A1 : Apart idn (S1 N N G idn) := allTill_apart N
  have l1 : (S1 N N G idn).length ≤ N := apart_len A1 f1
  have H1 : Hom N G (S1 N N G idn).length (G1 N N G idn) (ns1 N N G idn) := hom_G2 hK (fun x y _ _ e => by have e' : x = y := e; subst e'; exact ⟨Lab.refl _, fun _ _ => rfl⟩) f1 f2
  have K1 : Kids (S1 N N G idn).length (G1 N N G idn) := kids_G2 f3
  have n1 : ∀ i, i < N → ns1 N N G idn i < (S1 N N G idn).length := fun i hi => numOf_lt (f2 i hi)
  have o1 : ∀ x, x < (S1 N N G idn).length → ∃ i, i < N ∧ x = ns1 N N G idn i := fun x hx => ⟨(S1 N N G idn).getD x 0, f1 _ (getD_mem hx), (numOf_self A1 hx).symm⟩
  obtain ⟨m1, hm1⟩ : ∃ m, m = (S1 N N G idn).length := ⟨_, rfl⟩
  obtain ⟨D1, hD1⟩ : ∃ D, D = G1 N N G idn := ⟨_, rfl⟩
  obtain ⟨h1, hh1⟩ : ∃ h, h = ns1 N N G idn := ⟨_, rfl⟩
  rw [← hm1, ← hD1] at hcl
  rw [← hm1] at l1 n1 o1 K1 H1
  rw [← hD1] at K1 H1
  rw [← hh1] at n1 o1 H1
  rw [← hm1, ← hD1, ← hh1]
  clear f1 f2 f3 A1 hm1 hD1 hh1
  obtain ⟨g1, g2, g3⟩ := allTill_full (G := D1) (cl := cl) K1 (f := m1 + 1) (ns := h1) (m := N) n1 (by omega) N (Nat.le_refl _)
  have A2 : Apart cl (allTill D1 cl (m1 + 1) h1 [] N) := allTill_apart N
  obtain ⟨S, hS⟩ : ∃ S, S = allTill D1 cl (m1 + 1) h1 [] N := ⟨_, rfl⟩
  rw [← hS] at g1 g2 g3 A2 ⊢
  have st : ∀ x, x < m1 → stands cl S x = true := fun x hx => by
    obtain ⟨i, hi, rfl⟩ := o1 x hx
    exact g2 i hi
  have l2 : S.length ≤ m1 := apart_len A2 g1
  have H2 : Hom m1 D1 S.length (G2 D1 cl S) (numOf cl S) := hom_G2 K1 (cong_of K1 hcl) g1 st
  have H := H1.comp H2
  have eqv : ∀ a b, a < N → b < N → (numOf cl S (h1 a) = numOf cl S (h1 b) ↔ cl (h1 a) = cl (h1 b)) := fun a b ha hb => numOf_eq (g2 a ha) (g2 b hb)
  refine ⟨H, fun a b ha hb => ?_, fun x hx => ?_, by omega, kids_G2 g3, fun D clD hKD HD hinj => ?_⟩
  · rw [eqv a b ha hb, hcl _ _ (n1 a ha) (n1 b hb), ← H1.same ha hb]
  · obtain ⟨i, hi, e⟩ := o1 (S.getD x 0) (g1 _ (getD_mem hx))
    exact ⟨i, hi, by rw [← e]; exact (numOf_self A2 hx).symm⟩
  · have e1 := allTill_fuel (G := D) (cl := clD) (d := N - S.length) hKD (ns := fun i => numOf cl S (h1 i)) (m := N) (fun i hi => HD.lt i hi) N (Nat.le_refl _)
    rw [show S.length + 1 + (N - S.length) = N + 1 from by omega] at e1
    have e2 := allTill_hom (cl' := fun i => numOf cl S (h1 i)) (cl := clD) HD (fun a b ha hb => (hinj _ _ (HD.lt a ha) (HD.lt b hb)).symm) (f := N + 1) (ns := idn) (m := N) (fun i hi => hi) N (Nat.le_refl _)
    have e3 := allTill_hom (cl' := fun i => numOf cl S (h1 i)) (cl := cl) H1 (fun a b ha hb => eqv a b ha hb) (f := N + 1) (ns := idn) (m := N) (fun i hi => hi) N (Nat.le_refl _)
    have e4 := allTill_fuel (G := D1) (cl := cl) (d := N - m1) K1 (ns := h1) (m := N) n1 N (Nat.le_refl _)
    rw [show m1 + 1 + (N - m1) = N + 1 from by omega, ← hS] at e4
    have e5 : (allTill G (fun i => numOf cl S (h1 i)) (N + 1) idn [] N).map (fun i => numOf cl S (h1 i)) = List.range S.length := by
      rw [← map_numOf A2]
      have : (allTill G (fun i => numOf cl S (h1 i)) (N + 1) idn [] N).map (fun i => numOf cl S (h1 i)) = ((allTill G (fun i => numOf cl S (h1 i)) (N + 1) idn [] N).map h1).map (numOf cl S) := by rw [List.map_map]; rfl
      rw [this, e3.1]
      rw [e4]
    rw [e1, ← e5]
    exact e2.1.symm

theorem numOf_range {cl : Nat → Nat} {n x : Nat} (hinj : ∀ x y, x < n → y < n → (cl x = cl y ↔ x = y)) (hx : x < n) : numOf cl (List.range n) x = x := by
  have hA : Apart cl (List.range n) := by
    refine List.pairwise_iff_getElem.2 (fun i j hi hj hij e => ?_)
    simp at hi hj
    rw [List.getElem_range, List.getElem_range] at e
    have := (hinj i j hi hj).1 e
    omega
  have := numOf_self hA (k := x) (by simpa using hx)
  simpa [List.getD, hx] using this

/-- Canon of what Canon gave. -/
structure AgainF (N n2 : Nat) (c : Nat → ND) (at_ : Nat → Nat) (n3 : Nat) (d : Nat → ND) (tt : Nat → Nat) : Prop where
  len : n3 = n2
  num : ∀ i, i < N → tt i = at_ i
  node : ∀ x, x < n2 → Lab (d x) (c x) ∧ ∀ j, j < (c x).nk → (d x).kd j = (c x).kd j

theorem canon_again {N n2 : Nat} {G c : Nat → ND} {at_ cl : Nat → Nat} (F : CanonF N G n2 c at_) (hcl : ∀ x y, x < (S1 n2 N c at_).length → y < (S1 n2 N c at_).length → (cl x = cl y ↔ Same (S1 n2 N c at_).length (G1 n2 N c at_) x y)) :
    AgainF N n2 c at_ (allTill (G1 n2 N c at_) cl ((S1 n2 N c at_).length + 1) (ns1 n2 N c at_) [] N).length (G2 (G1 n2 N c at_) cl (allTill (G1 n2 N c at_) cl ((S1 n2 N c at_).length + 1) (ns1 n2 N c at_) [] N)) (fun i => numOf cl (allTill (G1 n2 N c at_) cl ((S1 n2 N c at_).length + 1) (ns1 n2 N c at_) [] N) (ns1 n2 N c at_ i)) := by
  have hS1 : S1 n2 N c at_ = List.range n2 := F.order c idn F.kids F.hom (fun _ _ _ _ => Iff.rfl)
  have e0 : ∀ x, x < n2 → numOf idn (List.range n2) x = x := fun x hx => numOf_range (fun _ _ _ _ => Iff.rfl) hx
  have hG1 : G1 n2 N c at_ = G2 c idn (List.range n2) := by show G2 c idn (S1 n2 N c at_) = _; rw [hS1]
  have hns : ∀ i, i < N → ns1 n2 N c at_ i = at_ i := fun i hi => by
    show numOf idn (S1 n2 N c at_) (at_ i) = at_ i
    rw [hS1]; exact e0 _ (F.hom.lt i hi)
  have gx : ∀ x, x < n2 → (List.range n2).getD x 0 = x := fun x hx => by simp [List.getD, hx]
  have kc : ∀ x, x < n2 → ∀ j, j < (c x).nk → (G2 c idn (List.range n2) x).kd j = (c x).kd j := fun x hx j hj => by
    show ((numOf idn (List.range n2) (kid (c ((List.range n2).getD x 0)) j) : Nat) : Int) = _
    rw [gx x hx, e0 _ (F.kids.lt hx hj)]
    have := F.kids x hx j hj
    unfold kid; omega
  have lc : ∀ x, x < n2 → Lab (G2 c idn (List.range n2) x) (c x) := fun x hx => by
    have e : G2 c idn (List.range n2) x = ⟨(c x).kind, (c x).nn, (c x).nm, (c x).nk, fun j => ((numOf idn (List.range n2) (kid (c x) j) : Nat) : Int)⟩ := by unfold G2; rw [gx x hx]
    rw [e]
    exact ⟨rfl, rfl, fun _ _ => rfl, rfl⟩
  have kk : ∀ x, x < n2 → ∀ j, j < (c x).nk → kid (G2 c idn (List.range n2) x) j = kid (c x) j := fun x hx j hj => by unfold kid; rw [kc x hx j hj]
  have KD : Kids n2 (G2 c idn (List.range n2)) := fun x hx j hj => by
    have hj' : j < (c x).nk := by rw [← (lc x hx).nk]; exact hj
    rw [kc x hx j hj']; exact F.kids x hx j hj'
  have HD : Hom N G n2 (G2 c idn (List.range n2)) at_ := by
    refine ⟨F.hom.lt, fun i hi => (F.hom.lab i hi).trans (lc _ (F.hom.lt i hi)).symm, fun i hi j hj => ?_⟩
    obtain ⟨a, b⟩ := F.hom.kids i hi j hj
    exact ⟨a, by rw [kk _ (F.hom.lt i hi) j (by rw [← (F.hom.lab i hi).nk]; exact hj)]; exact b⟩
  rw [hG1, hS1, List.length_range] at hcl ⊢
  have hinj : ∀ x y, x < n2 → y < n2 → (cl x = cl y ↔ x = y) := fun x y hx hy => by
    rw [hcl x y hx hy]
    obtain ⟨i, hi, rfl⟩ := F.onto x hx
    obtain ⟨j, hj, rfl⟩ := F.onto y hy
    rw [← HD.same hi hj, F.same i j hi hj]
  have eS : allTill (G2 c idn (List.range n2)) cl (n2 + 1) (ns1 n2 N c at_) [] N = List.range n2 := by
    have e := F.order (G2 c idn (List.range n2)) cl KD HD hinj
    refine Eq.trans ?_ e
    unfold allTill
    exact (foldl_map_of (m := fun s : List Nat => s) (g := fun s j => vis (G2 c idn (List.range n2)) cl (n2 + 1) s (ns1 n2 N c at_ j)) (k := fun s j => vis (G2 c idn (List.range n2)) cl (n2 + 1) s (at_ j)) (Q := fun _ => True) (List.range N) [] trivial (fun s j hj _ => ⟨congrArg (vis (G2 c idn (List.range n2)) cl (n2 + 1) s) (hns j (List.mem_range.1 hj)), trivial⟩)).1
  rw [eS]
  refine ⟨List.length_range, fun i hi => ?_, fun x hx => ?_⟩
  · show numOf cl (List.range n2) (ns1 n2 N c at_ i) = at_ i
    rw [hns i hi]; exact numOf_range hinj (F.hom.lt i hi)
  · have e : G2 (G2 c idn (List.range n2)) cl (List.range n2) x = ⟨(G2 c idn (List.range n2) x).kind, (G2 c idn (List.range n2) x).nn, (G2 c idn (List.range n2) x).nm, (G2 c idn (List.range n2) x).nk, fun j => ((numOf cl (List.range n2) (kid (G2 c idn (List.range n2) x) j) : Nat) : Int)⟩ := by
      show G2 _ _ _ _ = _
      conv => lhs; unfold G2
      rw [gx x hx]
      rfl
    rw [e]
    have l := lc x hx
    refine ⟨⟨l.kind, l.nn, l.nm, l.nk⟩, fun j hj => ?_⟩
    show ((numOf cl (List.range n2) (kid (G2 c idn (List.range n2) x) j) : Nat) : Int) = _
    rw [kk x hx j hj, numOf_range hinj (F.kids.lt hx hj)]
    have := F.kids x hx j hj
    unfold kid; omega

end Go.Proofs.YtpbpbppimkeodaaGreatDoor

namespace Go.Proofs.YtpbpbppimkeodaaGreatDoor
open Go.RowKit Go.Maps

/-- What Canon gives. -/
def CanonPost (w : World) (N R : Nat) (G : Nat → ND) (ns : Nat → Nat) (e : Ending) (w' : World) : Prop :=
  ∃ cl : Nat → Nat, (∀ x y, x < (S1 N R G ns).length → y < (S1 N R G ns).length → (cl x = cl y ↔ Same (S1 N R G ns).length (G1 N R G ns) x y)) ∧
    ∃ (oa : Option Addr) (b' cap : Nat) (p' : Nat → NP) (la : Option Addr) (lb lc : Nat), e = .returned (.tuple #[.agg #[.slice oa (allTill (G1 N R G ns) cl ((S1 N R G ns).length + 1) (ns1 N R G ns) [] R).length cap], .slice la R lc]) ∧
    NodesAt w' oa b' 0 (allTill (G1 N R G ns) cl ((S1 N R G ns).length + 1) (ns1 N R G ns) [] R).length p' (G2 (G1 N R G ns) cl (allTill (G1 N R G ns) cl ((S1 N R G ns).length + 1) (ns1 N R G ns) [] R)) ∧
    IntsAt w' la lb 0 R (fun i => (numOf cl (allTill (G1 N R G ns) cl ((S1 N R G ns).length + 1) (ns1 N R G ns) [] R) (ns1 N R G ns i) : Int)) ∧ OwnG w' (allTill (G1 N R G ns) cl ((S1 N R G ns).length + 1) (ns1 N R G ns) [] R).length b' p' (G2 (G1 N R G ns) cl (allTill (G1 N R G ns) cl ((S1 N R G ns).length + 1) (ns1 N R G ns) [] R)) ∧ OwnL w' (allTill (G1 N R G ns) cl ((S1 N R G ns).length + 1) (ns1 N R G ns) [] R).length R b' lb p' (G2 (G1 N R G ns) cl (allTill (G1 N R G ns) cl ((S1 N R G ns).length + 1) (ns1 N R G ns) [] R)) ∧ FreshG w.heap.size (allTill (G1 N R G ns) cl ((S1 N R G ns).length + 1) (ns1 N R G ns) [] R).length R b' lb p' (G2 (G1 N R G ns) cl (allTill (G1 N R G ns) cl ((S1 N R G ns).length + 1) (ns1 N R G ns) [] R)) ∧ Below w.heap.size w w'

theorem ints_box {w : World} {X : Nat} {t : TypeId} {ao bo : Option Addr} {b o n k c : Nat} {D : Nat → Int} (h : IntsAt w ao b o n D) (hX : w.rowIs X t 1 (fun _ => .slice bo k c)) (u : Value) : IntsAt (w.setCell ⟨X, 0, none⟩ u) ao b o n D :=
  h.later (fun z => Below.heap_setCell _ _ _ _ (box_cell hX (h.cell 0 z) (by simp)))

theorem shp_lab {d e : ND} (h : Lab d e) : shp d = shp e := by
  have hg : gio d.nn d.nm = gio e.nn e.nm := by
    unfold gio allTo
    rw [h.nn]
    have : ∀ i, i ∈ List.range e.nn → (gn (d.nm i) && (decide (i = 0) || lt (d.nm (i - 1)) (d.nm i))) = (gn (e.nm i) && (decide (i = 0) || lt (e.nm (i - 1)) (e.nm i))) := fun i hi => by
      have hi' := List.mem_range.1 hi
      rw [h.nm i (by rw [h.nn]; exact hi'), h.nm (i - 1) (by rw [h.nn]; omega)]
    rw [Bool.eq_iff_iff, List.all_eq_true, List.all_eq_true]
    exact ⟨fun q i hi => by rw [← this i hi]; exact q i hi, fun q i hi => by rw [this i hi]; exact q i hi⟩
  rw [h.nn] at hg
  unfold shp
  rw [h.kind, h.nn, h.nk, hg]

/-- What Canon gives of a valid graph is valid. -/
theorem canon_valid {N n2 : Nat} {G c : Nat → ND} {at_ : Nat → Nat} (hv : vgr N G = true) (F : CanonF N G n2 c at_) : vgr n2 c = true := by
  have hN := vgr_len hv
  unfold vgr
  rw [Bool.and_eq_true]
  refine ⟨decide_eq_true (Nat.le_trans F.le hN), allTo_true (fun x hx => ?_)⟩
  obtain ⟨i, hi, rfl⟩ := F.onto x hx
  unfold nok
  rw [Bool.and_eq_true]
  refine ⟨?_, allTo_true (fun j hj => decide_eq_true (F.kids _ hx j hj))⟩
  rw [← shp_lab (F.hom.lab i hi)]
  exact shp_of hv hi

set_option maxRecDepth 100000 in
set_option maxHeartbeats 8000000 in
theorem w_canon {N b o : Nat} {p : Nat → NP} {G : Nat → ND} (ao ra : Option Addr) (gc R rc rl ro : Nat) (ns : Nat → Nat) (w : World) (hv : vgr N G = true) (hR : R ≤ 2000) (hnn : ∀ x, x < N → (G x).nn ≤ 1048576) (hnk : ∀ i, i < N → (G i).nk ≤ 1048576)
    (hns : ∀ i, i < R → ns i < N) (hG : NodesAt w ao b o N p G) (hI : IntsAt w ra rl ro R (fun i => (ns i : Int))) :
    Calls Tryz.prog 11 #[.agg #[.slice ao N gc], .slice ra R rc] w (CanonPost w N R G ns) := by
  have HG : Hid (∀ w', Below w.heap.size w w' → NodesAt w' ao b o N p G) := fun w' hb => hG.below hb
  have HI : Hid (∀ w', Below w.heap.size w w' → IntsAt w' ra rl ro R (fun i => (ns i : Int))) := fun w' hb => hI.below hb
  have HV : Hid (vgr N G = true) := hv
  have HNN : Hid (∀ x, x < N → (G x).nn ≤ 1048576) := hnn
  have HNK : Hid (∀ i, i < N → (G i).nk ≤ 1048576) := hnk
  have HNS : Hid (∀ i, i < R → ns i < N) := hns
  have hN := vgr_len hv
  clear hG hI hv hnn hnk hns
  obtain ⟨W0, hW0⟩ : ∃ W0, W0 = (w.alloc (.cells #[.slice ao N gc] 29)).alloc (.cells #[.slice none 0 0] 29) := ⟨_, rfl⟩
  have B0 : Below w.heap.size w W0 := by rw [hW0]; exact bel2 _ _ _
  have z0 : w.heap.size + 1 < W0.heap.size := by rw [hW0]; simp
  have r0 : W0.rowIs (w.heap.size + 1) 29 1 (fun _ => .slice none 0 0) := by
    rw [hW0]
    have := row1 (w.alloc (.cells #[.slice ao N gc] 29)) (.slice none 0 0) 29
    simpa using this
  have c0 : W0.cell? ⟨w.heap.size, 0, none⟩ = some (.slice ao N gc) := by rw [hW0]; exact ((row1 _ _ _).alloc _).cell (i := 0) (by omega)
  go_enter Tryz.func11, Tryz.ntmps11
  go_wp2_with fail
  rw [← hW0]
  clear hW0
  refine (g14 ao b o N gc p G W0 (HG.out W0 B0)).mono ?_
  rintro e w1 ⟨rfl, hb1⟩
  rw [HV.out]
  have B1 : Below w.heap.size w w1 := B0.trans (hb1.mono B0.size)
  have c1 : w1.cell? ⟨w.heap.size, 0, none⟩ = some (.slice ao N gc) := (hb1.cell (p := ⟨w.heap.size, 0, none⟩) (by show w.heap.size < W0.heap.size; omega)).trans c0
  have r1 := r0.of_block (hb1.block _ z0)
  clear hb1 r0 c0
  have qR : ¬ (2000 : Int) < (R : Int) := by omega
  go_wp2_with fail
  refine (g15 ao N gc ra rl ro R rc (fun i => (ns i : Int)) w1 (HI.out w1 B1) (by omega)).mono ?_
  rintro e w2 ⟨rfl, hb2⟩
  have hk : kok R (fun i => (ns i : Int)) N = true := allTo_true (fun j hj => decide_eq_true (by have := HNS.out j hj; show 0 ≤ (ns j : Int) ∧ (ns j : Int) < (N : Int); omega))
  rw [hk]
  have B2 : Below w.heap.size w w2 := B1.trans (hb2.mono B1.size)
  have c2 : w2.cell? ⟨w.heap.size, 0, none⟩ = some (.slice ao N gc) := (hb2.cell (p := ⟨w.heap.size, 0, none⟩) (World.block_lt_of_cell? _ _ c1)).trans c1
  have r2 := r1.of_block (hb2.block _ r1.lt)
  clear hb2 r1 c1 hk
  go_wp2_with fail
  refine (c25 ao ra gc R rc rl ro ns w2 (by omega) (by omega) (kids_of HV.out) (fun i hi => plain_of (shp_of HV.out hi)) (fun i hi => ⟨HNN.out i hi, fun j hj => short_of (shp_of HV.out hi) hj⟩) HNK.out HNS.out (HG.out w2 B2) (HI.out w2 B2)).mono ?_
  rintro e w3 ⟨cl, hcl, oa, b', cap, p', la, lb, lc, rfl, n3, i3, _, f5, o7, o8, b3⟩
  have r3 := r2.of_block (b3.block _ r2.lt)
  have k0 := r3.cell (i := 0) (by omega)
  have k1 := r3.frozen 0
  obtain ⟨S, hS⟩ : ∃ S, S = allTill (G1 N R G ns) cl ((S1 N R G ns).length + 1) (ns1 N R G ns) [] R := ⟨_, rfl⟩
  rw [← hS] at n3 i3 f5 o7 o8 ⊢
  have hlt2 := r2.lt
  have bl : ∀ k, w2.heap.size ≤ k → (w3.setCell ⟨w.heap.size + 1, 0, none⟩ (.slice oa S.length cap)).heap[k]? = w3.heap[k]? := fun k hk => Below.heap_setCell _ _ _ _ (by show k ≠ w.heap.size + 1; omega)
  have FIN : Hid (CanonPost w N R G ns (.returned (.tuple #[.agg #[.slice oa S.length cap], .slice la R lc])) (w3.setCell ⟨w.heap.size + 1, 0, none⟩ (.slice oa S.length cap))) :=
    ⟨cl, hcl, oa, b', cap, p', la, lb, lc, by rw [hS], by rw [← hS]; exact nodes_box n3 r3 _, by rw [← hS]; exact ints_box i3 r3 _, by rw [← hS]; exact o7.of (fun _ => bl _ f5.row) (fun i hi => ⟨fun z => bl _ ((f5.node i hi).1 z), fun z => bl _ ((f5.node i hi).2 z)⟩), by rw [← hS]; exact o8.of (fun z => bl _ (f5.list z)), by rw [← hS]; exact ⟨Nat.le_trans B2.size f5.row, fun i hi => ⟨fun z => Nat.le_trans B2.size ((f5.node i hi).1 z), fun z => Nat.le_trans B2.size ((f5.node i hi).2 z)⟩, fun z => Nat.le_trans B2.size (f5.list z)⟩, (B2.trans (b3.mono B2.size)).setCell (by show w.heap.size ≤ w.heap.size + 1; omega) _⟩
  clear n3 i3 b3 hcl hS r3 r2 f5 o7 o8 bl
  go_wp2
  exact bodyPost_ret (v := .tuple #[.agg #[.slice oa S.length cap], .slice la R lc]) (by simp [results, Tryz.results11, go_sem, k0]) rfl FIN.out

end Go.Proofs.YtpbpbppimkeodaaGreatDoor

