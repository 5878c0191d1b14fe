/-
  Scripts: numbers in the library's words (pure).
-/
import Derived.Test.YthmihmnagnibmaaDoorPrP
namespace Go.Proofs.YthmihmnagnibmaaDoor
open Go

theorem val_congr {p q : ByteArray} : ∀ k, (∀ i, i < k → by_ p i = by_ q i) → valTo p k = valTo q k := by
  intro k
  induction k with
  | zero => intro _; rfl
  | succ k ih =>
    intro h
    show valTo p k * 10 + (by_ p k - 48) = valTo q k * 10 + (by_ q k - 48)
    rw [ih (fun i hi => h i (by omega)), h k (by omega)]
theorem val_lower {p : ByteArray} (h0 : by_ p 0 ≠ 48) (hd : ∀ i, i < p.size → 48 ≤ by_ p i ∧ by_ p i ≤ 57) : ∀ k, k < p.size → (10 : Int) ^ k ≤ valTo p (k + 1) := by
  intro k
  induction k with
  | zero =>
    intro hk
    have := hd 0 hk
    show (1 : Int) ≤ valTo p 0 * 10 + (by_ p 0 - 48)
    have e : valTo p 0 = 0 := rfl
    omega
  | succ k ih =>
    intro hk
    have h1 := ih (by omega)
    have h2 := hd (k + 1) hk
    have h4 : (10 : Int) ^ (k + 1) = 10 ^ k * 10 := Int.pow_succ _ _
    show (10 : Int) ^ (k + 1) ≤ valTo p (k + 1) * 10 + (by_ p (k + 1) - 48)
    omega
theorem u8_of {c : UInt8} {d : Nat} (h : c.toNat = 48 + d) : UInt8.ofNat (48 + d) = c := by
  rw [← h]; exact UInt8.ofNat_toNat
theorem dig_of {p : ByteArray} {i : Nat} (hi : i < p.size) (hd : 48 ≤ by_ p i ∧ by_ p i ≤ 57) : ∃ (c : UInt8) (d : Nat), p.data.toList[i]? = some c ∧ c.toNat = 48 + d ∧ d ≤ 9 ∧ by_ p i - 48 = (d : Int) := by
  obtain ⟨c, hc⟩ : ∃ c, p.data.toList[i]? = some c := by
    have : i < p.data.toList.length := by rw [Array.length_toList]; exact hi
    exact ⟨_, List.getElem?_eq_getElem this⟩
  have h := (bl_at hi).1 hc
  exact ⟨c, c.toNat - 48, hc, by omega, by omega, by omega⟩

/-- The digits of what is read are what was read. -/
theorem digits_back {p : ByteArray} (hp : isNum p) : ∀ k, k < p.size → Lib.decDigits (valTo p (k + 1)).toNat = p.data.toList.take (k + 1) := by
  obtain ⟨h1, h2, h3, hd⟩ := hp
  intro k
  induction k with
  | zero =>
    intro hk
    obtain ⟨c, d, hc, hcd, hd9, he⟩ := dig_of hk (hd 0 hk)
    have e : (valTo p 1).toNat = d := by
      show (valTo p 0 * 10 + (by_ p 0 - 48)).toNat = d
      have : valTo p 0 = 0 := rfl
      omega
    rw [e, Lib.decDigits_one (by omega), List.take_add_one, hc, u8_of hcd]
    rfl
  | succ k ih =>
    intro hk
    obtain ⟨c, d, hc, hcd, hd9, he⟩ := dig_of hk (hd (k + 1) hk)
    have hne : by_ p 0 ≠ 48 := fun h => h3 ⟨h, by omega⟩
    have hlow := val_lower hne hd k (by omega)
    have hpos : (1 : Int) ≤ 10 ^ k := by
      have : (0 : Int) < 10 ^ k := Int.pow_pos (by decide)
      omega
    obtain ⟨v, hv⟩ : ∃ v : Nat, valTo p (k + 1) = (v : Int) := ⟨(valTo p (k + 1)).toNat, by omega⟩
    have e : (valTo p (k + 1 + 1)).toNat = v * 10 + d := by
      show (valTo p (k + 1) * 10 + (by_ p (k + 1) - 48)).toNat = v * 10 + d
      omega
    have ih2 := ih (by omega)
    have e2 : (valTo p (k + 1)).toNat = v := by omega
    rw [e2] at ih2
    rw [e, Lib.decDigits, dif_neg (by omega), show (v * 10 + d) / 10 = v by omega, show (v * 10 + d) % 10 = d by omega, ih2, u8_of hcd]
    rw [List.take_add_one (l := p.data.toList) (i := k + 1), hc]
    rfl
theorem itoa_num {p : ByteArray} (hp : isNum p) : Lib.itoa (valTo p p.size) = p.data.toList := by
  have h1 := hp.1
  have hr := val_rng hp.2.2.2 p.size (Nat.le_refl _)
  have h := digits_back hp (p.size - 1) (by omega)
  rw [show p.size - 1 + 1 = p.size by omega] at h
  unfold Lib.itoa
  rw [if_neg (by omega), h, List.take_of_length_le (by rw [Array.length_toList]; exact Nat.le_refl _)]
theorem from_num {p : ByteArray} (hd : ∀ i, i < p.size → 48 ≤ by_ p i ∧ by_ p i ≤ 57) : ∀ k, k ≤ p.size → Lib.decFrom 0 (p.data.toList.take k) = some (valTo p k).toNat := by
  intro k
  induction k with
  | zero => intro _; rfl
  | succ k ih =>
    intro hk
    obtain ⟨c, d, hc, hcd, hd9, he⟩ := dig_of hk (hd k hk)
    have hr := val_rng hd k (by omega)
    have h := Lib.decFrom_take p.data.toList k 0 _ c d (ih (by omega)) hc (by unfold Lib.digitVal; rw [if_pos (by omega)]; congr 1; omega)
    rw [h]
    congr 1
    show _ = (valTo p k * 10 + (by_ p k - 48)).toNat
    omega
theorem atoi_num {p : ByteArray} (hp : isNum p) : Lib.atoiAll p.data.toList = .ok (valTo p p.size) := by
  obtain ⟨h1, h2, h3, hd⟩ := hp
  have hr := val_rng hd p.size (Nat.le_refl _)
  have hf := from_num hd p.size (Nat.le_refl _)
  rw [List.take_of_length_le (by rw [Array.length_toList]; exact Nat.le_refl _)] at hf
  rw [Lib.atoiAll_short _ (by rw [Array.length_toList]; show p.size ≤ 18; omega)]
  obtain ⟨c, d, hc, hcd, hd9, he⟩ := dig_of (i := 0) (by omega) (hd 0 (by omega))
  cases hl : p.data.toList with
  | nil => rw [hl] at hc; cases hc
  | cons b r =>
    rw [hl] at hc hf
    have hb : b = c := by simpa using hc
    subst hb
    show Lib.NumEnd.ofOption (if (b == 45) = true then (Lib.decNat r).map fun (m : Nat) => -(m : Int) else if (b == 43) = true then (Lib.decNat r).map fun (m : Nat) => (m : Int) else (Lib.decNat (b :: r)).map fun (m : Nat) => (m : Int)) = _
    have n1 : ¬ (b == 45) = true := fun h => by have := beq_iff_eq.1 h; subst this; have : (45 : UInt8).toNat = 45 := rfl; omega
    have n2 : ¬ (b == 43) = true := fun h => by have := beq_iff_eq.1 h; subst this; have : (43 : UInt8).toNat = 43 := rfl; omega
    rw [if_neg n1, if_neg n2]
    unfold Lib.decNat
    rw [if_neg (by simp), hf]
    show Lib.NumEnd.ok (((valTo p p.size).toNat : Nat) : Int) = Lib.NumEnd.ok (valTo p p.size)
    rw [Int.toNat_of_nonneg hr.1]

/-- What a number's digits are. -/
theorem dec_num : ∀ (u : Nat) (p : ByteArray), p.data.toList = Lib.decDigits u → 1 ≤ p.size ∧ (∀ i, i < p.size → 48 ≤ by_ p i ∧ by_ p i ≤ 57) ∧ valTo p p.size = (u : Int) ∧ (by_ p 0 = 48 → u = 0 ∧ p.size = 1) := by
  intro u
  induction u using Nat.strongRecOn with
  | ind u ih =>
    intro p hp
    by_cases hu : u < 10
    · rw [Lib.decDigits_one hu] at hp
      have hs : p.size = 1 := by rw [Lib.size_eq, hp]; rfl
      have hb : by_ p 0 = ((UInt8.ofNat (48 + u)).toNat : Int) := (bl_at (by omega)).1 (by rw [hp]; rfl)
      have hn : (UInt8.ofNat (48 + u)).toNat = 48 + u := by rw [UInt8.toNat_ofNat']; omega
      refine ⟨by omega, fun i hi => ?_, ?_, fun h => ?_⟩
      · have : i = 0 := by omega
        subst this
        omega
      · rw [hs]
        show valTo p 0 * 10 + (by_ p 0 - 48) = _
        have : valTo p 0 = 0 := rfl
        omega
      · exact ⟨by omega, hs⟩
    · obtain ⟨q, hq⟩ : ∃ q : ByteArray, q = ⟨(Lib.decDigits (u / 10)).toArray⟩ := ⟨_, rfl⟩
      have hql : q.data.toList = Lib.decDigits (u / 10) := by rw [hq]
      obtain ⟨g1, g2, g3, g4⟩ := ih (u / 10) (by omega) q hql
      rw [Lib.decDigits, dif_neg hu, ← hql] at hp
      have hs : p.size = q.size + 1 := by rw [Lib.size_eq, hp, Lib.size_eq]; simp
      have hsame : ∀ i, i < q.size → by_ p i = by_ q i := by
        intro i hi
        have hlt : i < q.data.toList.length := by rw [Array.length_toList]; exact hi
        have h5 : q.data.toList[i]? = some q.data.toList[i] := List.getElem?_eq_getElem hlt
        have h6 : p.data.toList[i]? = some q.data.toList[i] := by rw [hp, List.getElem?_append_left hlt]; exact h5
        rw [(bl_at (by omega)).1 h6, (bl_at hi).1 h5]
      have hn : (UInt8.ofNat (48 + u % 10)).toNat = 48 + u % 10 := by rw [UInt8.toNat_ofNat']; omega
      have hlast : by_ p q.size = ((UInt8.ofNat (48 + u % 10)).toNat : Int) := (bl_at (by omega)).1 (by
        rw [hp, List.getElem?_append_right (by rw [Array.length_toList]; exact Nat.le_refl _)]
        rw [Array.length_toList]
        show [UInt8.ofNat (48 + u % 10)][q.size - q.size]? = _
        rw [Nat.sub_self]; rfl)
      refine ⟨by omega, fun i hi => ?_, ?_, fun h => ?_⟩
      · rcases Nat.lt_or_ge i q.size with h7 | h7
        · rw [hsame i h7]; exact g2 i h7
        · have : i = q.size := by omega
          subst this
          omega
      · rw [hs]
        show valTo p q.size * 10 + (by_ p q.size - 48) = _
        rw [val_congr q.size hsame, g3, hlast, hn]
        omega
      · exfalso
        rw [hsame 0 (by omega)] at h
        have := (g4 h).1
        omega

/-- A number that is written as it is read. -/
theorem num_itoa {p : ByteArray} {n : Int} (h0 : 0 ≤ n) (h1 : n ≤ 999999) (h : Lib.itoa n = p.data.toList) : isNum p ∧ num p = n := by
  have h2 : p.data.toList = Lib.decDigits n.toNat := by rw [← h]; unfold Lib.itoa; rw [if_neg (by omega)]
  obtain ⟨g1, g2, g3, g4⟩ := dec_num n.toNat p h2
  have hn : isNum p := by
    refine ⟨g1, ?_, fun hx => ?_, g2⟩
    · by_cases h5 : by_ p 0 = 48
      · have := (g4 h5).2; omega
      · rcases Nat.lt_or_ge 6 p.size with h6 | h6
        · exfalso
          have h7 := val_lower h5 g2 (p.size - 1) (by omega)
          rw [show p.size - 1 + 1 = p.size by omega, g3] at h7
          have h8 : (10 : Int) ^ 6 ≤ 10 ^ (p.size - 1) := by
            have : (10 : Nat) ^ 6 ≤ 10 ^ (p.size - 1) := Nat.pow_le_pow_right (by decide) (by omega)
            exact_mod_cast this
          have h9 : (10 : Int) ^ 6 = 1000000 := by decide
          omega
        · exact h6
    · have := (g4 hx.1).2; omega
  refine ⟨hn, ?_⟩
  unfold num
  rw [if_pos hn, g3]
  omega

/-- The test of the program against the model's reading. -/
theorem within_ok {p : ByteArray} {n lo hi : Int} (ha : Lib.atoiAll p.data.toList = .ok n) (h0 : 0 ≤ lo) (h1 : hi ≤ 999999) :
    (decide (Lib.itoa n = p.data.toList) && decide (lo ≤ n) && decide (n ≤ hi)) = decide (lo ≤ num p ∧ num p ≤ hi) ∧ ((lo ≤ num p ∧ num p ≤ hi) → n = num p) := by
  have back : lo ≤ num p → isNum p ∧ n = num p := by
    intro h
    have hp : isNum p := by
      by_cases hp : isNum p
      · exact hp
      · unfold num at h; rw [if_neg hp] at h; omega
    have h2 := atoi_num hp
    rw [ha] at h2
    have h3 : n = valTo p p.size := by injection h2
    refine ⟨hp, ?_⟩
    unfold num
    rw [if_pos hp, h3]
  refine ⟨?_, fun h => (back h.1).2⟩
  rw [Bool.eq_iff_iff]
  simp only [Bool.and_eq_true, decide_eq_true_eq]
  constructor
  · rintro ⟨⟨a, b⟩, c⟩
    have := (num_itoa (by omega) (by omega) a).2
    omega
  · rintro ⟨b, c⟩
    obtain ⟨hp, e⟩ := back b
    refine ⟨⟨?_, by omega⟩, by omega⟩
    have h5 := itoa_num hp
    rw [e]
    unfold num
    rw [if_pos hp]
    exact h5
theorem within_no {p : ByteArray} {lo hi : Int} (ha : ∀ n, Lib.atoiAll p.data.toList ≠ .ok n) (h0 : 0 ≤ lo) : decide (lo ≤ num p ∧ num p ≤ hi) = false := by
  rw [decide_eq_false_iff_not]
  rintro ⟨h, _⟩
  by_cases hp : isNum p
  · exact ha _ (atoi_num hp)
  · unfold num at h; rw [if_neg hp] at h; omega

end Go.Proofs.YthmihmnagnibmaaDoor
