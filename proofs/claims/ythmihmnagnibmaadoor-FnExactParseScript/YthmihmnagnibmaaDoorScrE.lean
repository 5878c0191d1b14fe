/-
  Scripts: the model's ParseScript.
-/
import Derived.Test.YthmihmnagnibmaaDoorScrD
namespace Go.Proofs.YthmihmnagnibmaaDoor
open Go.RowKit

/-- A script. -/
structure SC where
  wks : Int
  cpy : Int
  evs : List EV
def scz : SC := ⟨0, 0, []⟩

def wksOf (l : ByteArray) : Int := num (aft l ⟨#[119, 111, 114, 107, 101, 114, 115]⟩)
def cpyOf (l : ByteArray) : Int := num (aft l ⟨#[99, 97, 112, 97, 99, 105, 116, 121]⟩)
def wksOk (l : ByteArray) : Prop := isAft l ⟨#[119, 111, 114, 107, 101, 114, 115]⟩ ∧ 1 ≤ wksOf l ∧ wksOf l ≤ 16
def cpyOk (l : ByteArray) : Prop := isAft l ⟨#[99, 97, 112, 97, 99, 105, 116, 121]⟩ ∧ 1 ≤ cpyOf l ∧ cpyOf l ≤ 4096
instance (l : ByteArray) : Decidable (wksOk l) := inferInstanceAs (Decidable (_ ∧ _))
instance (l : ByteArray) : Decidable (cpyOk l) := inferInstanceAs (Decidable (_ ∧ _))
/-- A line that ends the reading. -/
def badAt (L : List ByteArray) (wks : Int) (j : Nat) : Bool := decide (j = 5002) || !(evOf (L.getD j ⟨#[]⟩) wks).2
def evsTo (L : List ByteArray) (wks : Int) : Nat → List EV
  | 0 => []
  | i + 1 => evsTo L wks i ++ [(evOf (L.getD (i + 2) ⟨#[]⟩) wks).1]
/-- What the further lines give. -/
def restOf (L : List ByteArray) (wks cpy : Int) : SC × Int :=
  match (List.range (L.length - 2)).find? (fun i => badAt L wks (i + 2)) with
  | some i => (scz, (i : Int) + 3)
  | none => (⟨wks, cpy, evsTo L wks (L.length - 2)⟩, 0)
/-- What a text is read as. -/
def scOf (s : ByteArray) : SC × Int :=
  if 40000 < s.size then (scz, 1)
  else if (linesOf s).length < 1 then (scz, 1)
  else if ¬ wksOk ((linesOf s).getD 0 ⟨#[]⟩) then (scz, 1)
  else if (linesOf s).length < 2 then (scz, 2)
  else if ¬ cpyOk ((linesOf s).getD 1 ⟨#[]⟩) then (scz, 2)
  else restOf (linesOf s) (wksOf ((linesOf s).getD 0 ⟨#[]⟩)) (cpyOf ((linesOf s).getD 1 ⟨#[]⟩))

def evc (e : EV) : List Value := [.int .i64 e.kind, .string e.name, .string e.text, .int .i64 e.wk]
def evcells (l : List EV) : List Value := l.flatMap evc
/-- A list of events in memory of its own. -/
def OwnE (w : World) (base : Nat) (v : Value) (l : List EV) : Prop := w.ownsRow base 36 4 v l.length (evcells l)
/-- What the reading of a script gives. -/
def ScPost (w : World) (sc : SC × Int) (e : Ending) (w' : World) : Prop :=
  ∃ v, e = .returned (.tuple #[.agg #[.int .i64 sc.1.wks, .int .i64 sc.1.cpy, v], .int .i64 sc.2]) ∧ OwnE w' w.heap.size v sc.1.evs ∧ Below w.heap.size w w'

theorem Tryd.infoEv : (Tryd.prog.info? 36).map (fun i => (i.zero, i.size, i.bytes)) = some (some (.agg #[.int .i64 0, .string ByteArray.empty, .string ByteArray.empty, .int .i64 0]), 4, 48) := by kernel_rfl
theorem own_formE {w : World} {base : Nat} {v : Value} {l : List EV} (h : OwnE w base v l) : ∃ oa cap, v = .slice oa l.length cap := by
  rcases h.2 with ⟨rfl, h0⟩ | ⟨g, cap, _, rfl, _⟩
  · exact ⟨none, 0, by rw [h0]⟩
  · exact ⟨_, cap, rfl⟩
theorem evs_len (L : List ByteArray) (wks : Int) : ∀ i, (evsTo L wks i).length = i
  | 0 => rfl
  | i + 1 => by show (evsTo L wks i ++ [_]).length = i + 1; rw [List.length_append, evs_len L wks i]; rfl
theorem rest_bad {L : List ByteArray} {wks cpy : Int} {i : Nat} (hi : i + 2 < L.length) (hm : ∀ j, j < i → badAt L wks (j + 2) = false) (hb : badAt L wks (i + 2) = true) : restOf L wks cpy = (scz, (i : Int) + 3) := by
  have : (List.range (L.length - 2)).find? (fun i => badAt L wks (i + 2)) = some i := by
    rw [List.find?_range_eq_some]
    exact ⟨hb, List.mem_range.2 (by omega), fun j hj => by simp [hm j hj]⟩
  unfold restOf
  rw [this]
theorem rest_end {L : List ByteArray} {wks cpy : Int} (hm : ∀ j, j + 2 < L.length → badAt L wks (j + 2) = false) : restOf L wks cpy = (⟨wks, cpy, evsTo L wks (L.length - 2)⟩, 0) := by
  have : (List.range (L.length - 2)).find? (fun i => badAt L wks (i + 2)) = none := by
    rw [List.find?_eq_none]
    intro j hj
    simp [hm j (by have := List.mem_range.1 hj; omega)]
  unfold restOf
  rw [this]

theorem nil_ownE (w : World) (base : Nat) : OwnE w base (.slice none 0 0) [] := World.ownsRow_nil _ _ _ _
theorem add09 (g k : Nat) : (⟨g, 0, none⟩ : Addr).add k = ⟨g, k, none⟩ := by simp [Addr.add]; omega
/-- Where the lines lie. -/
theorem own9_at {w : World} {base : Nat} {v : Value} {l : List ByteArray} (h : Own9 w base v l) (hn : 0 < l.length) : ∃ g cap, v = .slice (some ⟨g, 0, none⟩) l.length cap ∧ base ≤ g ∧ g < w.heap.size ∧ ∀ i, i < l.length → w.cell? ⟨g, i, none⟩ = some (.string (l.getD i ⟨#[]⟩)) := by
  obtain ⟨g, cap, rfl, h1, h2⟩ := h.form hn
  refine ⟨g, cap, rfl, h1, h2, fun i hi => ?_⟩
  have := h.cells (g := g) rfl i (.string (l.getD i ⟨#[]⟩)) (by unfold strs; rw [List.getElem?_map, List.getElem?_eq_getElem hi]; simp [List.getD, List.getElem?_eq_getElem hi])
  rw [add09] at this
  exact this

theorem size_lines (s : ByteArray) (i : Nat) : ((linesOf s).getD i ⟨#[]⟩).size ≤ s.size := by
  have hc : ∀ k, ∀ x ∈ (cuts s k).1, x.size ≤ s.size := by
    intro k
    induction k with
    | zero => intro x hx; cases hx
    | succ k ih =>
      intro x hx
      by_cases h : by_ s k = 10
      · rw [cuts_yes h] at hx
        rcases List.mem_append.1 hx with hx | hx
        · exact ih x hx
        · rw [List.mem_singleton] at hx
          rw [hx, ByteArray.size_extract]; omega
      · rw [cuts_no h] at hx; exact ih x hx
  have hl : ∀ x ∈ linesOf s, x.size ≤ s.size := by
    intro x hx
    unfold linesOf at hx
    split at hx
    · rcases List.mem_append.1 hx with hx | hx
      · exact hc _ x hx
      · rw [List.mem_singleton] at hx
        rw [hx, ByteArray.size_extract]; omega
    · exact hc _ x hx
  by_cases h : i < (linesOf s).length
  · have : (linesOf s).getD i ⟨#[]⟩ = (linesOf s)[i] := by simp [List.getD, List.getElem?_eq_getElem h]
    rw [this]
    exact hl _ (List.getElem_mem h)
  · have : (linesOf s).getD i ⟨#[]⟩ = ⟨#[]⟩ := by
      rw [List.getD_eq_getElem?_getD, List.getElem?_eq_none (show (linesOf s).length ≤ i by omega)]; rfl
    rw [this]
    exact Nat.zero_le _
theorem len_lines (s : ByteArray) : (linesOf s).length ≤ s.size + 1 := by
  have := (cuts_le s s.size).2
  unfold linesOf
  split
  · rw [List.length_append]; show _ + 1 ≤ _; omega
  · omega

end Go.Proofs.YthmihmnagnibmaaDoor
