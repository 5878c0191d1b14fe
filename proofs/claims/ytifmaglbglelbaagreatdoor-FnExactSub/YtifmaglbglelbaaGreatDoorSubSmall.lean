/-
  The smallest graph is alike the one that it was made of.
-/
import Derived.Test.YtifmaglbglelbaaGreatDoorSubRel
import Derived.Test.YtifmaglbglelbaaGreatDoorSmall
namespace Go.Proofs.YtifmaglbglelbaaGreatDoor

/-- Nodes of one class have one label, and their kids lie in one class. -/
def Cong (N : Nat) (G : Nat → ND) (cl : Nat → Nat) : Prop := ∀ x y, x < N → y < N → cl x = cl y → Lab (G x) (G y) ∧ ∀ j, j < (G x).nk → cl (kid (G x) j) = cl (kid (G y) j)

theorem cong_id (N : Nat) (G : Nat → ND) : Cong N G (fun i => i) := by
  intro x y _ _ e
  have e' : x = y := e
  subst e'
  exact ⟨Lab.refl _, fun _ _ => rfl⟩

theorem cong_same {N : Nat} {G : Nat → ND} {cl : Nat → Nat} (hK : Kids N G) (h : ∀ x y, x < N → y < N → (cl x = cl y ↔ Same N G x y)) : Cong N G cl := by
  intro x y hx hy e
  have hs := (h x y hx hy).1 e
  have hl := hs.lab hx hy
  exact ⟨hl, fun j hj => (h _ _ (hK.lt hx hj) (hK.lt hy (by rw [← hl.nk]; exact hj))).2 (hs.kid hx hy hj)⟩

/-- Whoever stands has his class at his number. -/
theorem numOf_cl {cl : Nat → Nat} {S : List Nat} {n : Nat} (h : stands cl S n = true) : cl (S.getD (numOf cl S n) 0) = cl n := by
  have hlt := numOf_lt h
  have h' : (S.map cl).idxOf (cl n) < (S.map cl).length := by rw [List.length_map]; exact hlt
  have e := List.getElem_idxOf h'
  rw [List.getElem_map] at e
  have : S.getD (numOf cl S n) 0 = S[(S.map cl).idxOf (cl n)]'(by rw [List.length_map] at h'; exact h') := by
    unfold numOf
    rw [List.getD_eq_getElem?_getD, List.getElem?_eq_getElem]
    rfl
  rw [this]; exact e

/-- Who is alike a number. -/
def Num1 (N : Nat) (cl : Nat → Nat) (S : List Nat) : Nat → Nat → Prop := fun i x => i < S.length ∧ x < N ∧ cl (S.getD i 0) = cl x

theorem across_G2 {N : Nat} {G : Nat → ND} {cl : Nat → Nat} {S : List Nat} (hK : Kids N G) (hc : Cong N G cl) (hP : ∀ x, x < N → Plain (G x)) (hS : ∀ s, s ∈ S → s < N) (hC : ∀ s, s ∈ S → Covered G cl S s) : Across (G2 G cl S) G (Num1 N cl S) := by
  rintro i x ⟨hi, hx, e⟩
  have hs := getD_mem hi
  obtain ⟨hl, hk⟩ := hc _ _ (hS _ hs) hx e
  refine ⟨⟨hl.kind, hl.nn, hl.nm, hl.nk⟩, plain_G2 hS hP i hi, hP x hx, fun j hj => ?_⟩
  have hst := hC _ hs j hj
  have hkx : kid (G x) j < N := hK.lt hx (by rw [← hl.nk]; exact hj)
  have ek : kid (G2 G cl S i) j = numOf cl S (kid (G (S.getD i 0)) j) := by
    show ((numOf cl S (kid (G (S.getD i 0)) j) : Nat) : Int).toNat = _
    omega
  rw [ek]
  exact ⟨numOf_lt hst, hkx, (numOf_cl hst).trans (hk j hj)⟩

theorem Across.trans {G2' G1' G0 : Nat → ND} {B C : Nat → Nat → Prop} (h : Across G2' G1' B) (k : Across G1' G0 C) : Across G2' G0 (fun i x => ∃ u, B i u ∧ C u x) := by
  rintro i x ⟨u, h1, h2⟩
  obtain ⟨l1, p1, _, k1⟩ := h i u h1
  obtain ⟨l2, _, p2, k2⟩ := k u x h2
  exact ⟨l1.trans l2, p1, p2, fun j hj => ⟨_, k1 j hj, k2 j (by rw [← l1.nk]; exact hj)⟩⟩

/-- Sub on the smallest graph is Sub on the graph. -/
theorem sub_small {N R : Nat} {G : Nat → ND} {ns cl : Nat → Nat} (hK : Kids N G) (hP : ∀ x, x < N → Plain (G x)) (hns : ∀ i, i < R → ns i < N)
    (hcl : ∀ x y, x < (S1 N R G ns).length → y < (S1 N R G ns).length → (cl x = cl y ↔ Same (S1 N R G ns).length (G1 N R G ns) x y)) {a b : Nat} (ha : a < R) (hb : b < R) :
    SubP G (ns a) (ns b) ↔ SubP (G2 (G1 N R G ns) cl (allTill (G1 N R G ns) cl ((S1 N R G ns).length + 1) (ns1 N R G ns) [] R))
      (numOf cl (allTill (G1 N R G ns) cl ((S1 N R G ns).length + 1) (ns1 N R G ns) [] R) (ns1 N R G ns a)) (numOf cl (allTill (G1 N R G ns) cl ((S1 N R G ns).length + 1) (ns1 N R G ns) [] R) (ns1 N R G ns b)) := by
  obtain ⟨f1, f2, f3⟩ := allTill_full (G := G) (cl := fun i => i) hK (f := N + 1) (ns := ns) (m := R) hns (by omega) R (Nat.le_refl _)
  have K1 : Kids (S1 N R G ns).length (G1 N R G ns) := kids_G2 f3
  have P1 := plain_G2 (G := G) (cl := fun i => i) f1 hP
  have n1 : ∀ i, i < R → ns1 N R G ns i < (S1 N R G ns).length := fun i hi => numOf_lt (f2 i hi)
  obtain ⟨g1, g2, g3⟩ := allTill_full (G := G1 N R G ns) (cl := cl) K1 (f := (S1 N R G ns).length + 1) (ns := ns1 N R G ns) (m := R) n1 (by omega) R (Nat.le_refl _)
  have A1 := across_G2 hK (cong_id N G) hP f1 f3
  have A2 := across_G2 K1 (cong_same K1 hcl) P1 g1 g3
  have B : ∀ i, i < R → (fun u x => ∃ z, Num1 (S1 N R G ns).length cl (allTill (G1 N R G ns) cl ((S1 N R G ns).length + 1) (ns1 N R G ns) [] R) u z ∧ Num1 N (fun i => i) (S1 N R G ns) z x) (numOf cl (allTill (G1 N R G ns) cl ((S1 N R G ns).length + 1) (ns1 N R G ns) [] R) (ns1 N R G ns i)) (ns i) := fun i hi =>
    ⟨ns1 N R G ns i, ⟨numOf_lt (g2 i hi), n1 i hi, numOf_cl (g2 i hi)⟩, ⟨numOf_lt (f2 i hi), hns i hi, numOf_cl (f2 i hi)⟩⟩
  exact sub_across (A2.trans A1) (B a ha) (B b hb)

end Go.Proofs.YtifmaglbglelbaaGreatDoor
