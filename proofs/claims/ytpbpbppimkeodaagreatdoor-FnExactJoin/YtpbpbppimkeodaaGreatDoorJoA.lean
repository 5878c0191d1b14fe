/-
  What a question leads to, and the list of all questions. No program here.
-/
import Derived.Test.YtpbpbppimkeodaaGreatDoorOrder
import Derived.Test.YtpbpbppimkeodaaGreatDoorPure
namespace Go.Proofs.YtpbpbppimkeodaaGreatDoor

/-- A question: two types, and whether their Join or (up = false) their Meet is asked for. -/
structure Qn where
  a : Nat
  b : Nat
  up : Bool
deriving DecidableEq

/-- A kid of what is made: a type as it stands, or what is made of two. -/
inductive Kq where
  | ty (a : Nat)
  | qn (q : Qn)
deriving DecidableEq

/-- The fields from the places i and j on. -/
def mixF (x y : ND) (up : Bool) : Nat → Nat → Nat → List (ByteArray × Kq)
  | 0, _, _ => []
  | f + 1, i, j =>
    if i < x.nn ∨ j < y.nn then
      if ¬ j < y.nn ∨ (i < x.nn ∧ lt (x.nm i) (y.nm j) = true) then (if up then [] else [(x.nm i, .ty (kid x i))]) ++ mixF x y up f (i + 1) j
      else if ¬ i < x.nn ∨ lt (y.nm j) (x.nm i) = true then (if up then [] else [(y.nm j, .ty (kid y j))]) ++ mixF x y up f i (j + 1)
      else (x.nm i, .qn ⟨kid x i, kid y j, up⟩) :: mixF x y up f (i + 1) (j + 1)
    else []

/-- More fuel changes nothing once it reaches. -/
theorem mixF_fuel (x y : ND) (up : Bool) : ∀ (f i j d : Nat), (x.nn - i) + (y.nn - j) ≤ f → mixF x y up (f + d) i j = mixF x y up f i j := by
  intro f
  induction f with
  | zero =>
    intro i j d h
    cases d with
    | zero => rfl
    | succ d =>
      have hc : ¬ (i < x.nn ∨ j < y.nn) := by omega
      show mixF x y up (0 + d + 1) i j = []
      rw [mixF, if_neg hc]
  | succ f ih =>
    intro i j d h
    rw [show f + 1 + d = (f + d) + 1 from by omega, mixF, mixF]
    by_cases hc : i < x.nn ∨ j < y.nn
    · rw [if_pos hc, if_pos hc]
      by_cases h1 : ¬ j < y.nn ∨ (i < x.nn ∧ lt (x.nm i) (y.nm j) = true)
      · rw [if_pos h1, if_pos h1, ih (i + 1) j d (by omega)]
      · rw [if_neg h1, if_neg h1]
        by_cases h2 : ¬ i < x.nn ∨ lt (y.nm j) (x.nm i) = true
        · rw [if_pos h2, if_pos h2, ih i (j + 1) d (by omega)]
        · rw [if_neg h2, if_neg h2, ih (i + 1) (j + 1) d (by omega)]
    · rw [if_neg hc, if_neg hc]

/-- All fields. -/
def mixAll (x y : ND) (up : Bool) (i j : Nat) : List (ByteArray × Kq) := mixF x y up ((x.nn - i) + (y.nn - j)) i j

theorem mixAll_end {x y : ND} {up : Bool} {i j : Nat} (h : ¬ (i < x.nn ∨ j < y.nn)) : mixAll x y up i j = [] := by
  unfold mixAll
  rw [show (x.nn - i) + (y.nn - j) = 0 from by omega]
  rfl
theorem mixAll_left {x y : ND} {up : Bool} {i j : Nat} (h : i < x.nn ∨ j < y.nn) (h1 : ¬ j < y.nn ∨ (i < x.nn ∧ lt (x.nm i) (y.nm j) = true)) : mixAll x y up i j = (if up then [] else [(x.nm i, .ty (kid x i))]) ++ mixAll x y up (i + 1) j := by
  have hi : i < x.nn := by rcases h1 with q | q <;> omega
  unfold mixAll
  rw [show (x.nn - i) + (y.nn - j) = ((x.nn - (i + 1)) + (y.nn - j)) + 1 from by omega, mixF, if_pos h, if_pos h1]
theorem mixAll_right {x y : ND} {up : Bool} {i j : Nat} (h : i < x.nn ∨ j < y.nn) (h1 : ¬ (¬ j < y.nn ∨ (i < x.nn ∧ lt (x.nm i) (y.nm j) = true))) (h2 : ¬ i < x.nn ∨ lt (y.nm j) (x.nm i) = true) : mixAll x y up i j = (if up then [] else [(y.nm j, .ty (kid y j))]) ++ mixAll x y up i (j + 1) := by
  have hj : j < y.nn := by omega
  unfold mixAll
  rw [show (x.nn - i) + (y.nn - j) = ((x.nn - i) + (y.nn - (j + 1))) + 1 from by omega, mixF, if_pos h, if_neg h1, if_pos h2]
theorem mixAll_both {x y : ND} {up : Bool} {i j : Nat} (h : i < x.nn ∨ j < y.nn) (h1 : ¬ (¬ j < y.nn ∨ (i < x.nn ∧ lt (x.nm i) (y.nm j) = true))) (h2 : ¬ (¬ i < x.nn ∨ lt (y.nm j) (x.nm i) = true)) : mixAll x y up i j = (x.nm i, .qn ⟨kid x i, kid y j, up⟩) :: mixAll x y up (i + 1) (j + 1) := by
  have hj : j < y.nn := by omega
  have hi : i < x.nn := by omega
  unfold mixAll
  rw [show (x.nn - i) + (y.nn - j) = (((x.nn - (i + 1)) + (y.nn - (j + 1))) + 1) + 1 from by omega, mixF, if_pos h, if_neg h1, if_neg h2]
  rw [mixF_fuel x y up _ (i + 1) (j + 1) 1 (by omega)]

/-- What is made of two nodes: its kind, its names, its kids. -/
def mixK (x y : ND) : Int := if x.kind = y.kind then x.kind else 0
def mixN (x y : ND) (up : Bool) : List ByteArray := if x.kind = y.kind ∧ x.kind = 3 then (mixAll x y up 0 0).map Prod.fst else []
def mixQ (x y : ND) (up : Bool) : List Kq :=
  if x.kind = y.kind then
    if x.kind = 4 then [.qn ⟨kid x 0, kid y 0, !up⟩, .qn ⟨kid x 1, kid y 1, up⟩]
    else if x.kind = 3 then (mixAll x y up 0 0).map Prod.snd
    else []
  else []

/-- A question is added where it is new. -/
def addQ (L : List Qn) : Kq → List Qn
  | .ty _ => L
  | .qn q => if q ∈ L then L else L ++ [q]
/-- The questions behind those of a question's kids. -/
def addAll (L : List Qn) (ks : List Kq) : List Qn := ks.foldl addQ L

theorem addQ_pre (L : List Qn) (k : Kq) : L <+: addQ L k := by
  cases k with
  | ty a => exact List.prefix_refl _
  | qn q =>
    unfold addQ
    by_cases h : q ∈ L
    · simp [h]
    · simp [h]
theorem addAll_pre : ∀ (ks : List Kq) (L : List Qn), L <+: addAll L ks
  | [], _ => List.prefix_refl _
  | k :: ks, L => (addQ_pre L k).trans (addAll_pre ks (addQ L k))

/-- The questions when the first i have been taken up. -/
def qsTill (H : Nat → ND) (q0 : Qn) : Nat → List Qn
  | 0 => [q0]
  | i + 1 => addAll (qsTill H q0 i) (mixQ (H ((qsTill H q0 i).getD i q0).a) (H ((qsTill H q0 i).getD i q0).b) ((qsTill H q0 i).getD i q0).up)

theorem qs_pre (H : Nat → ND) (q0 : Qn) (i : Nat) : ∀ d, qsTill H q0 i <+: qsTill H q0 (i + d)
  | 0 => List.prefix_refl _
  | d + 1 => (qs_pre H q0 i d).trans (addAll_pre _ _)

/-- The number of a kid where the types are n. -/
def numK (n : Nat) (L : List Qn) : Kq → Nat
  | .ty a => a
  | .qn q => n + L.idxOf q

theorem idx_pre {L M : List Qn} (h : L <+: M) {q : Qn} (hq : q ∈ L) : L.idxOf q = M.idxOf q := by
  obtain ⟨t, rfl⟩ := h
  rw [List.idxOf_append, if_pos hq]

end Go.Proofs.YtpbpbppimkeodaaGreatDoor
