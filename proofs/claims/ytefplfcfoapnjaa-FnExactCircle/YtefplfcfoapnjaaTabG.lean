/-
  Tables: the order of keys, without a program.
-/
import Derived.Test.YtefplfcfoapnjaaTabO
namespace Go.Proofs.Ytefplfcfoapnjaa
open Go.RowKit

theorem bl_trans : ∀ a b c : List UInt8, Op.bytesLess a b = true → Op.bytesLess b c = true → Op.bytesLess a c = true
  | [], [], [], _, h2 => by cases h2
  | [], _ :: _, [], _, h2 => by cases h2
  | [], _, _ :: _, _, _ => rfl
  | _ :: _, [], _, h1, _ => by cases h1
  | _ :: _, _ :: _, [], _, h2 => by cases h2
  | x :: a, y :: b, z :: c, h1, h2 => by
    unfold Op.bytesLess at h1 h2 ⊢
    simp only [Bool.or_eq_true, Bool.and_eq_true, decide_eq_true_eq, beq_iff_eq] at h1 h2 ⊢
    rcases h1 with h1 | ⟨e1, h1⟩
    · rcases h2 with h2 | ⟨e2, h2⟩
      · left; rw [UInt8.lt_iff_toNat_lt] at *; omega
      · subst e2; left; exact h1
    · subst e1
      rcases h2 with h2 | ⟨e2, h2⟩
      · left; exact h2
      · right; exact ⟨e2, bl_trans a b c h1 h2⟩

theorem kl_trans {k1 k2 k3 : Int} {m1 m2 m3 : ByteArray} (h1 : kl k1 m1 k2 m2 = true) (h2 : kl k2 m2 k3 m3 = true) : kl k1 m1 k3 m3 = true := by
  unfold kl lt at *
  simp only [Bool.or_eq_true, Bool.and_eq_true, decide_eq_true_eq] at *
  rcases h1 with h1 | ⟨e1, h1⟩
  · rcases h2 with h2 | ⟨e2, h2⟩
    · left; omega
    · left; omega
  · rcases h2 with h2 | ⟨e2, h2⟩
    · left; omega
    · right; exact ⟨by omega, bl_trans _ _ _ h1 h2⟩

theorem cb_zero : ∀ a b : List UInt8, Lib.compareBytes a b = 0 ↔ a = b
  | [], [] => ⟨fun _ => rfl, fun _ => rfl⟩
  | [], _ :: _ => ⟨fun h => (by cases h), fun h => (by cases h)⟩
  | _ :: _, [] => ⟨fun h => (by cases h), fun h => (by cases h)⟩
  | x :: a, y :: b => by
    unfold Lib.compareBytes
    by_cases h1 : x < y
    · rw [if_pos h1]
      refine ⟨fun h => (by cases h), fun h => ?_⟩
      cases h
      rw [UInt8.lt_iff_toNat_lt] at h1; omega
    · rw [if_neg h1]
      by_cases h2 : y < x
      · rw [if_pos h2]
        refine ⟨fun h => (by cases h), fun h => ?_⟩
        cases h
        rw [UInt8.lt_iff_toNat_lt] at h2; omega
      · rw [if_neg h2, cb_zero a b]
        have : x = y := by
          rw [UInt8.lt_iff_toNat_lt] at h1 h2
          exact UInt8.toNat_inj.1 (by omega)
        subst this
        simp

/-- Two keys are one. -/
def sk (k : Int) (m : ByteArray) (k' : Int) (m' : ByteArray) : Prop := k = k' ∧ m.toList = m'.toList

theorem ck_zero (k : Int) (m : ByteArray) (k' : Int) (m' : ByteArray) : ck k m k' m' = 0 ↔ sk k m k' m' := by
  unfold ck or2 cmpI cmpS sk
  rw [ByteArray.toList_eq, ByteArray.toList_eq, ← cb_zero]
  by_cases h1 : k < k'
  · simp [h1]; omega
  · by_cases h2 : k' < k
    · simp [h1, h2]; omega
    · have : k = k' := by omega
      simp [this]

theorem ck_neg {k : Int} {m : ByteArray} {k' : Int} {m' : ByteArray} (h : kl k m k' m' = true) : ck k m k' m' < 0 := of_decide_eq_true ((ck_lt k m k' m').trans h)
theorem kl_of {k : Int} {m : ByteArray} {k' : Int} {m' : ByteArray} (h : ck k m k' m' < 0) : kl k m k' m' = true := (ck_lt k m k' m').symm.trans (decide_eq_true h)
theorem kl_sk {k : Int} {m : ByteArray} {k' : Int} {m' : ByteArray} {k2 : Int} {m2 : ByteArray} (h : kl k m k' m' = true) (e : sk k' m' k2 m2) : kl k m k2 m2 = true := by
  obtain ⟨e1, e2⟩ := e
  unfold kl lt at *
  rw [← e1, ← e2]; exact h

/-- The keys of the first n go up. -/
def Up (n : Nat) (D : Nat → SD) : Prop := ∀ i j, i < j → j < n → kl (D i).k (D i).m (D j).k (D j).m = true

theorem up_of {n : Nat} {D : Nat → SD} (h : vt n D = true) : Up n D := by
  have hall : ∀ i, i < n → so D i = true := by
    unfold vt allTo at h
    rw [Bool.and_eq_true, List.all_eq_true] at h
    exact fun i hi => h.2 i (List.mem_range.2 hi)
  have next : ∀ i, i + 1 < n → kl (D i).k (D i).m (D (i + 1)).k (D (i + 1)).m = true := fun i hi => by
    have := hall (i + 1) hi
    unfold so at this
    rw [Bool.and_eq_true] at this
    simpa using this.2
  intro i j hij hj
  induction j with
  | zero => omega
  | succ j ih =>
    by_cases e : i = j
    · subst e; exact next i hj
    · exact kl_trans (ih (by omega) (by omega)) (next j hj)

/-- What the look for a key gives. -/
def FindAt (n : Nat) (D : Nat → SD) (k : Int) (m : ByteArray) (i : Nat) (f : Bool) : Prop :=
  (f = true → i < n ∧ sk (D i).k (D i).m k m) ∧ (f = false → ∀ j, j < n → ¬ sk (D j).k (D j).m k m)

theorem find_yes {n i : Nat} {D : Nat → SD} {k : Int} {m : ByteArray} (hi : i < n) (h : ck (D i).k (D i).m k m = 0) : FindAt n D k m i true :=
  ⟨fun _ => ⟨hi, (ck_zero _ _ _ _).1 h⟩, fun h => (by cases h)⟩

theorem find_no {n i : Nat} {D : Nat → SD} {k : Int} {m : ByteArray} (hU : Up n D) (h1 : ∀ t, t < i → ck (D t).k (D t).m k m < 0) (h2 : ∀ t, i ≤ t → t < n → 0 ≤ ck (D t).k (D t).m k m) (h : i < n → ck (D i).k (D i).m k m ≠ 0) : FindAt n D k m i false := by
  refine ⟨fun h => (by cases h), fun _ j hj hs => ?_⟩
  have hz := (ck_zero _ _ _ _).2 hs
  by_cases c1 : j < i
  · have := h1 j c1; omega
  · by_cases c2 : j = i
    · subst c2; exact h hj hz
    · have hl := kl_sk (hU i j (by omega) hj) hs
      have := ck_neg hl
      have := h2 i (Nat.le_refl _) (by omega)
      omega

theorem ck_mono {n a b : Nat} {D : Nat → SD} {k : Int} {m : ByteArray} (hU : Up n D) (hab : a ≤ b) (hb : b < n) (h : ck (D b).k (D b).m k m < 0) : ck (D a).k (D a).m k m < 0 := by
  by_cases e : a = b
  · subst e; exact h
  · exact ck_neg (kl_trans (hU a b (by omega) hb) (kl_of h))

end Go.Proofs.Ytefplfcfoapnjaa
