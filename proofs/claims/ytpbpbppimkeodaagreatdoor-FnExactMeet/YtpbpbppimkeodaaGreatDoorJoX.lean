/-
  What the made graph keeps. No program here.
-/
import Derived.Test.YtpbpbppimkeodaaGreatDoorJoQ
import Derived.Test.YtpbpbppimkeodaaGreatDoorMH
import Derived.Test.YtpbpbppimkeodaaGreatDoorMO
namespace Go.Proofs.YtpbpbppimkeodaaGreatDoor

/-- What the made graph keeps. -/
structure GoodM (n : Nat) (G : Nat → ND) : Prop where
  kids : Kids n G
  plain : ∀ x, x < n → Plain (G x)
  names : ∀ x, x < n → (G x).nn ≤ 1048576 ∧ ∀ i, i < (G x).nn → ((G x).nm i).size ≤ 12
  nk : ∀ x, x < n → (G x).nk ≤ 1048576

theorem mixN_mem {H : Nat → ND} {a b : Nat} {up : Bool} {s : ByteArray} (hs : s ∈ mixN (H a) (H b) up) : (∃ i, i < (H a).nn ∧ s = (H a).nm i) ∨ (∃ i, i < (H b).nn ∧ s = (H b).nm i) := by
  unfold mixN at hs
  by_cases e : (H a).kind = (H b).kind ∧ (H a).kind = 3
  · rw [if_pos e] at hs
    obtain ⟨p, hp, rfl⟩ := List.mem_map.1 hs
    rcases mixF_mem _ _ _ _ hp with ⟨c, hc, e2, _⟩ | ⟨c, hc, e2, _⟩ | ⟨c, d, hc, hd, e2, _⟩
    · exact Or.inl ⟨c, hc, e2⟩
    · exact Or.inr ⟨c, hc, e2⟩
    · exact Or.inl ⟨c, hc, e2⟩
  · rw [if_neg e] at hs; simp at hs

theorem mixD_plain {n : Nat} {H : Nat → ND} (hs : ∀ t, t < n → shp (H t) = true) {L : List Qn} {q : Qn} (ha : q.a < n) (hb : q.b < n) : Plain (mixD n H L q) := by
  have nm : ∀ i, i < (mixN (H q.a) (H q.b) q.up).length → (mixN (H q.a) (H q.b) q.up).getD i ByteArray.empty ∈ mixN (H q.a) (H q.b) q.up := fun i hi => by
    simp [List.getD, List.getElem?_eq_getElem hi]
  refine ⟨?_, fun i hi => ?_, ?_, fun hk => ?_⟩
  · show 0 ≤ mixK (H q.a) (H q.b) ∧ mixK (H q.a) (H q.b) < 10
    unfold mixK
    have := (plain_of (hs _ ha)).kind
    split <;> omega
  · rcases mixN_mem (nm i hi) with ⟨c, hc, e⟩ | ⟨c, hc, e⟩
    · show (32 : UInt8) ∉ ((mixN (H q.a) (H q.b) q.up).getD i ByteArray.empty).data.toList ∧ ((mixN (H q.a) (H q.b) q.up).getD i ByteArray.empty).data.toList ≠ []
      rw [e]; exact (plain_of (hs _ ha)).names c hc
    · show (32 : UInt8) ∉ ((mixN (H q.a) (H q.b) q.up).getD i ByteArray.empty).data.toList ∧ ((mixN (H q.a) (H q.b) q.up).getD i ByteArray.empty).data.toList ≠ []
      rw [e]; exact (plain_of (hs _ hb)).names c hc
  · show (mixQ (H q.a) (H q.b) q.up).length = if mixK (H q.a) (H q.b) = 3 then (mixN (H q.a) (H q.b) q.up).length else if mixK (H q.a) (H q.b) = 4 then 2 else 0
    unfold mixQ mixK mixN
    by_cases e : (H q.a).kind = (H q.b).kind
    · rw [if_pos e, if_pos e]
      by_cases h4 : (H q.a).kind = 4
      · rw [if_pos h4, if_neg (by omega), if_pos h4]; rfl
      · rw [if_neg h4]
        by_cases h3 : (H q.a).kind = 3
        · rw [if_pos h3, if_pos h3, if_pos ⟨e, h3⟩, List.length_map, List.length_map]
        · rw [if_neg h3, if_neg h3, if_neg h4]; rfl
    · rw [if_neg e, if_neg e, if_neg (by decide), if_neg (by decide)]; rfl
  · show (mixN (H q.a) (H q.b) q.up).length = 0
    have hk : mixK (H q.a) (H q.b) ≠ 3 := hk
    unfold mixN
    rw [if_neg (fun z => by unfold mixK at hk; rw [if_pos z.1] at hk; exact hk z.2)]
    rfl

theorem goodM {n : Nat} {H : Nat → ND} (h : GoodH n H) (hs : ∀ t, t < n → shp (H t) = true) {L : List Qn} {q0 : Qn} (hL : InQ n L) (h0 : q0.a < n ∧ q0.b < n) (hC : ClosedQ H L) : GoodM (n + L.length) (mixG n H L q0) := by
  have hq : ∀ x, x < n + L.length → ¬ x < n → L.getD (x - n) q0 ∈ L := fun x hx hn => by
    have : x - n < L.length := by omega
    simp [List.getD, List.getElem?_eq_getElem this]
  refine ⟨fun x hx j hj => ?_, fun x hx => ?_, fun x hx => ?_, fun x hx => ?_⟩
  · by_cases hn : x < n
    · rw [mixG_lt hn] at hj ⊢
      have := h.kids x hn j hj
      omega
    · rw [mixG_ge hn] at hj ⊢
      have hm := hq x hx hn
      have hab := hL _ hm
      generalize L.getD (x - n) q0 = q at hm hab hj ⊢
      have hj : j < (mixQ (H q.a) (H q.b) q.up).length := hj
      show 0 ≤ ((((mixQ (H q.a) (H q.b) q.up).map (numK n L)).getD j 0 : Nat) : Int) ∧ ((((mixQ (H q.a) (H q.b) q.up).map (numK n L)).getD j 0 : Nat) : Int) < ((n + L.length : Nat) : Int)
      have e : ((mixQ (H q.a) (H q.b) q.up).map (numK n L)).getD j 0 = numK n L (mixQ (H q.a) (H q.b) q.up)[j] := by simp [List.getD, List.getElem?_eq_getElem hj]
      rw [e]
      have hk : (mixQ (H q.a) (H q.b) q.up)[j] ∈ mixQ (H q.a) (H q.b) q.up := List.getElem_mem _
      have hin := mixQ_in h hab.1 hab.2 q.up _ hk
      generalize (mixQ (H q.a) (H q.b) q.up)[j] = k at hk hin ⊢
      cases k with
      | ty a => show 0 ≤ ((a : Nat) : Int) ∧ _; have : a < n := hin; show 0 ≤ (a : Int) ∧ (a : Int) < _; omega
      | qn r =>
        have hr := List.idxOf_lt_length_of_mem (hC q hm r hk)
        show 0 ≤ ((n + L.idxOf r : Nat) : Int) ∧ ((n + L.idxOf r : Nat) : Int) < _
        omega
  · by_cases hn : x < n
    · rw [mixG_lt hn]; exact plain_of (hs _ hn)
    · rw [mixG_ge hn]
      have hab := hL _ (hq x hx hn)
      exact mixD_plain hs hab.1 hab.2
  · by_cases hn : x < n
    · rw [mixG_lt hn]
      exact ⟨by have := h.nn hn; omega, fun i hi => short_of (hs x hn) hi⟩
    · rw [mixG_ge hn]
      have hab := hL _ (hq x hx hn)
      generalize L.getD (x - n) q0 = q at hab ⊢
      refine ⟨mixN_len h hab.1 hab.2 q.up, fun i hi => ?_⟩
      have hi : i < (mixN (H q.a) (H q.b) q.up).length := hi
      have hm : (mixN (H q.a) (H q.b) q.up).getD i ByteArray.empty ∈ mixN (H q.a) (H q.b) q.up := by simp [List.getD, List.getElem?_eq_getElem hi]
      show ((mixN (H q.a) (H q.b) q.up).getD i ByteArray.empty).size ≤ 12
      rcases mixN_mem hm with ⟨c, hc, e⟩ | ⟨c, hc, e⟩
      · rw [e]; exact short_of (hs _ hab.1) hc
      · rw [e]; exact short_of (hs _ hab.2) hc
  · by_cases hn : x < n
    · rw [mixG_lt hn]
      have := h.two x hn; omega
    · rw [mixG_ge hn]
      have hab := hL _ (hq x hx hn)
      exact mixQ_len h hab.1 hab.2 _

theorem goodH_of {n : Nat} {H : Nat → ND} (hk : Kids n H) (hs : ∀ t, t < n → shp (H t) = true) (h2 : ∀ t, t < n → (H t).nn + (H t).nk ≤ 1048576) (hn : n ≤ 4000) : GoodH n H := by
  refine ⟨hk, fun t ht k => ?_, fun t ht k => ?_, fun t ht k => (plain_of (hs t ht)).bare k, h2, hn⟩
  · have := (plain_of (hs t ht)).kids
    rw [if_pos k] at this
    exact this
  · have := (plain_of (hs t ht)).kids
    rw [if_neg (by omega), if_pos k] at this
    exact this

/-- The types that Canon gives keep it. -/
theorem goodH_mN {N R : Nat} {G : Nat → ND} {ns cm r : Nat → Nat} (hv : vgr N G = true) (hns : ∀ i, i < R → ns i < N) (h2 : ∀ i, i < N → (G i).nn + (G i).nk ≤ 1048576) (hcm : ∀ x y, x < N → y < N → (cm x = cm y ↔ Same N G x y))
    (hr : ∀ t, t < (allTill G cm (N + 1) ns [] R).length → r t < N ∧ (cm (r t) : Int) = ((((allTill G cm (N + 1) ns [] R).map cm).getD t 0 : Nat) : Int)) :
    GoodH (allTill G cm (N + 1) ns [] R).length (mN G cm (allTill G cm (N + 1) ns [] R) r) ∧ ∀ t, t < (allTill G cm (N + 1) ns [] R).length → shp (mN G cm (allTill G cm (N + 1) ns [] R) r t) = true := by
  have hs : ∀ t, t < (allTill G cm (N + 1) ns [] R).length → shp (mN G cm (allTill G cm (N + 1) ns [] R) r t) = true := fun t ht => shp_of hv (hr t ht).1
  refine ⟨goodH_of (fun t ht j hj => ?_) hs (fun t ht => h2 (r t) (hr t ht).1) ?_, hs⟩
  · obtain ⟨q1, q2⟩ := hr t ht
    rw [map_getD ht] at q2
    have := numOf_lt (kid_stands (kids_of hv) hns hcm q1 ht (Int.ofNat.inj q2) (j := j) hj)
    show 0 ≤ (numOf cm (allTill G cm (N + 1) ns [] R) (kid (G (r t)) j) : Int) ∧ (numOf cm (allTill G cm (N + 1) ns [] R) (kid (G (r t)) j) : Int) < _
    omega
  · obtain ⟨f1, _, _⟩ := allTill_full (G := G) (cl := cm) (kids_of hv) (f := N + 1) (ns := ns) (m := R) hns (by omega) R (Nat.le_refl _)
    have := apart_len (allTill_apart R) f1
    have := vgr_len hv
    omega

end Go.Proofs.YtpbpbppimkeodaaGreatDoor
