/-
  Scripts: the lines of a text one by one, and what is read behind each (pure).
-/
import Derived.Test.YthmihmnagnibmaaDoorPrH
namespace Go.Proofs.YthmihmnagnibmaaDoor
open Go

def lineAt (s : ByteArray) (k : Nat) : ByteArray := (linesOf s).getD k ⟨#[]⟩
def trimNl (x : ByteArray) : ByteArray := ⟨(Lib.trimSuffix x.data.toList [10]).toArray⟩

theorem cuts_pre (s : ByteArray) (i : Nat) : ∀ d, (cuts s i).1 <+: (cuts s (i + d)).1 := by
  intro d
  induction d with
  | zero => exact List.prefix_refl _
  | succ d ih =>
    show (cuts s i).1 <+: (cuts s (i + d + 1)).1
    by_cases h : by_ s (i + d) = 10
    · rw [cuts_yes h]; exact ih.trans (List.prefix_append _ _)
    · rw [cuts_no h]; exact ih
theorem cuts_lines (s : ByteArray) (i : Nat) (hi : i ≤ s.size) : (cuts s i).1 <+: linesOf s := by
  have h := cuts_pre s i (s.size - i)
  rw [show i + (s.size - i) = s.size by omega] at h
  unfold linesOf
  split
  · exact h.trans (List.prefix_append _ _)
  · exact h
theorem cuts_still (s : ByteArray) (f : Nat) : ∀ d, (∀ j, f ≤ j → j < f + d → by_ s j ≠ 10) → cuts s (f + d) = cuts s f := by
  intro d
  induction d with
  | zero => intro _; rfl
  | succ d ih =>
    intro h
    show cuts s (f + d + 1) = _
    rw [cuts_no (h (f + d) (by omega) (by omega)), ih (fun j h1 h2 => h j h1 (by omega))]

/-- A line begins at f; k are complete ahead of it. -/
structure At (s : ByteArray) (f k : Nat) : Prop where
  le : f ≤ s.size
  here : (cuts s f).2 = f
  len : (cuts s f).1.length = k
theorem at_zero (s : ByteArray) : At s 0 0 := ⟨Nat.zero_le _, rfl, rfl⟩
theorem pre_getD {a b : List ByteArray} (h : a <+: b) {k : Nat} (hk : k < a.length) (z : ByteArray) : k < b.length ∧ b.getD k z = a.getD k z := by
  obtain ⟨c, rfl⟩ := h
  refine ⟨by rw [List.length_append]; omega, ?_⟩
  rw [List.getD_eq_getElem?_getD, List.getD_eq_getElem?_getD, List.getElem?_append_left hk]
theorem at_step {s : ByteArray} {f k i : Nat} (h : At s f k) (hi : f + i < s.size) (hn : by_ s (f + i) = 10) (hm : ∀ j, j < i → by_ s (f + j) ≠ 10) :
    k < (linesOf s).length ∧ lineAt s k = s.extract f (f + i) ∧ At s (f + i + 1) (k + 1) := by
  have e : cuts s (f + i) = cuts s f := cuts_still s f i (fun j h1 h2 => by
    have := hm (j - f) (by omega)
    rw [show f + (j - f) = j by omega] at this
    exact this)
  have e2 : cuts s (f + i + 1) = ((cuts s f).1 ++ [s.extract f (f + i)], f + i + 1) := by rw [cuts_yes hn, e, h.here]
  have hp := cuts_lines s (f + i + 1) (by omega)
  rw [e2] at hp
  have hk : k < ((cuts s f).1 ++ [s.extract f (f + i)]).length := by rw [List.length_append, h.len]; simp
  obtain ⟨p1, p2⟩ := pre_getD hp hk ⟨#[]⟩
  refine ⟨p1, ?_, ⟨by omega, by rw [e2], by rw [e2]; simp [h.len]⟩⟩
  unfold lineAt
  rw [p2, List.getD_eq_getElem?_getD, List.getElem?_append_right (by rw [h.len]; exact Nat.le_refl _), h.len, Nat.sub_self]
  rfl
theorem at_last {s : ByteArray} {f k : Nat} (h : At s f k) (hf : f < s.size) (hm : ∀ j, f ≤ j → j < s.size → by_ s j ≠ 10) :
    (linesOf s).length = k + 1 ∧ lineAt s k = s.extract f s.size := by
  have e : cuts s s.size = cuts s f := by
    have := cuts_still s f (s.size - f) (fun j h1 h2 => hm j h1 (by omega))
    rw [show f + (s.size - f) = s.size by omega] at this
    exact this
  have e2 : linesOf s = (cuts s f).1 ++ [s.extract f s.size] := by
    unfold linesOf
    rw [e, h.here, if_pos hf]
  refine ⟨by rw [e2, List.length_append, h.len]; rfl, ?_⟩
  unfold lineAt
  rw [e2, List.getD_eq_getElem?_getD, List.getElem?_append_right (by rw [h.len]; exact Nat.le_refl _), h.len, Nat.sub_self]
  rfl
theorem at_end {s : ByteArray} {k : Nat} (h : At s s.size k) : (linesOf s).length = k := by
  unfold linesOf
  rw [h.here, if_neg (by omega), h.len]

theorem trim_yes (s : ByteArray) (f i : Nat) (hi : f + i < s.size) (hn : by_ s (f + i) = 10) : trimNl (s.extract f (f + i + 1)) = s.extract f (f + i) := by
  unfold trimNl
  have hl : (s.extract f (f + i + 1)).data.toList = (s.extract f (f + i)).data.toList ++ [10] := by
    rw [ba_ext, ba_ext, show f + i + 1 - f = i + 1 by omega, show f + i - f = i by omega, List.take_add_one]
    congr 1
    rw [List.getElem?_drop, (bl_at (c := 10) hi).2 hn]
    rfl
  rw [hl]
  unfold Lib.trimSuffix
  rw [if_pos (by unfold Lib.hasSuffix; rw [List.isSuffixOf_iff_suffix]; exact List.suffix_append _ _)]
  rw [List.length_append]
  show (⟨(List.take ((s.extract f (f + i)).data.toList.length + 1 - 1) _).toArray⟩ : ByteArray) = _
  rw [Nat.add_sub_cancel, List.take_left, Lib.mk_data]
theorem trim_no (s : ByteArray) (f : Nat) (hm : ∀ j, f ≤ j → j < s.size → by_ s j ≠ 10) : trimNl (s.extract f s.size) = s.extract f s.size := by
  unfold trimNl Lib.trimSuffix
  rw [if_neg, Lib.mk_data]
  unfold Lib.hasSuffix
  rw [List.isSuffixOf_iff_suffix]
  rintro ⟨a, ha⟩
  have h1 : (s.extract f s.size).data.toList[a.length]? = some 10 := by rw [← ha, List.getElem?_append_right (Nat.le_refl _), Nat.sub_self]; rfl
  have h2 := bl_out h1
  have h3 := (bl_at h2).1 h1
  rw [ext_size _ _ _ (Nat.le_refl _)] at h2
  rw [by_ext s f s.size a.length h2 (Nat.le_refl _)] at h3
  exact hm (f + a.length) (by omega) (by omega) h3

/-! What is read behind k lines. -/
def wksK (s : ByteArray) (k : Nat) : Int := if k = 0 then 0 else wksOf (lineAt s 0)
def cpyK (s : ByteArray) (k : Nat) : Int := if k < 2 then 0 else cpyOf (lineAt s 1)
def evsK (s : ByteArray) (k : Nat) : List EV := evsTo (linesOf s) (wksOf (lineAt s 0)) (k - 2)
def goodK (s : ByteArray) (k : Nat) : Prop := ∀ j, j < k → j ≠ 5002 ∧ okAt j (lineAt s j) (wksK s j) = true
theorem good_zero (s : ByteArray) : goodK s 0 := fun _ h => absurd h (Nat.not_lt_zero _)
theorem good_succ {s : ByteArray} {k : Nat} (h : goodK s k) (h1 : k ≠ 5002) (h2 : okAt k (lineAt s k) (wksK s k) = true) : goodK s (k + 1) := fun j hj => by
  rcases Nat.lt_or_ge j k with h3 | h3
  · exact h j h3
  · have : j = k := by omega
    subst this
    exact ⟨h1, h2⟩
theorem wks_step (s : ByteArray) (k : Nat) : wkAt k (lineAt s k) (wksK s k) = wksK s (k + 1) := by
  unfold wkAt wksK
  by_cases h : k = 0
  · subst h; rfl
  · rw [if_neg h, if_neg h, if_neg (by omega)]
theorem cpy_step (s : ByteArray) (k : Nat) : cpAt k (lineAt s k) (cpyK s k) = cpyK s (k + 1) := by
  unfold cpAt cpyK
  by_cases h : k = 1
  · subst h; rfl
  · rw [if_neg h]
    by_cases h2 : k < 2
    · rw [if_pos h2, if_pos (by omega)]
    · rw [if_neg h2, if_neg (by omega)]
theorem evs_step (s : ByteArray) (k : Nat) : evAt k (lineAt s k) (wksK s k) (evsK s k) = evsK s (k + 1) := by
  unfold evAt evsK
  by_cases h : k < 2
  · rw [if_pos h, show k - 2 = 0 by omega, show k + 1 - 2 = 0 by omega]
  · rw [if_neg h, show k + 1 - 2 = k - 2 + 1 by omega]
    have e : wksK s k = wksOf (lineAt s 0) := if_neg (by omega)
    rw [e]
    show _ = evsTo (linesOf s) (wksOf (lineAt s 0)) (k - 2) ++ [(evOf ((linesOf s).getD (k - 2 + 2) ⟨#[]⟩) (wksOf (lineAt s 0))).1]
    rw [show k - 2 + 2 = k by omega]
    rfl
theorem evsK_len (s : ByteArray) (k : Nat) : (evsK s k).length = k - 2 := evs_len _ _ _
theorem good_wks {s : ByteArray} {k : Nat} (h : goodK s k) (hk : 0 < k) : 1 ≤ wksK s k ∧ wksK s k ≤ 16 := by
  have h0 := (h 0 hk).2
  have h1 : wksOk (lineAt s 0) := of_decide_eq_true h0
  have e : wksK s k = wksOf (lineAt s 0) := if_neg (by omega)
  rw [e]
  exact h1.2
theorem good_bad {s : ByteArray} {j : Nat} (h : goodK s (j + 3)) : badAt (linesOf s) (wksOf (lineAt s 0)) (j + 2) = false := by
  obtain ⟨h1, h2⟩ := h (j + 2) (by omega)
  unfold badAt
  have e : wksK s (j + 2) = wksOf (lineAt s 0) := if_neg (by omega)
  have e2 : okAt (j + 2) (lineAt s (j + 2)) (wksK s (j + 2)) = (evOf (lineAt s (j + 2)) (wksOf (lineAt s 0))).2 := by
    unfold okAt; rw [if_neg (by omega), if_neg (by omega), e]
  rw [e2] at h2
  show (decide (j + 2 = 5002) || !(evOf (lineAt s (j + 2)) (wksOf (lineAt s 0))).2) = false
  rw [h2, decide_eq_false h1]
  rfl
theorem goodK.mono {s : ByteArray} {k j : Nat} (h : goodK s k) (hj : j ≤ k) : goodK s j := fun i hi => h i (by omega)

theorem sc_stop {s : ByteArray} {k : Nat} (hs : s.size ≤ 40000) (h : goodK s k) (hk : k < (linesOf s).length) (hb : k = 5002 ∨ okAt k (lineAt s k) (wksK s k) = false) : scOf s = (scz, (k : Int) + 1) := by
  unfold scOf
  rw [if_neg (by omega), if_neg (by omega)]
  match k with
  | 0 =>
    have hb2 : ¬ wksOk (lineAt s 0) := by
      rcases hb with hb | hb
      · omega
      · exact of_decide_eq_false hb
    rw [if_pos (show ¬ wksOk ((linesOf s).getD 0 ⟨#[]⟩) from hb2)]
    rfl
  | 1 =>
    have h0 : wksOk (lineAt s 0) := of_decide_eq_true (h 0 (by omega)).2
    have hb2 : ¬ cpyOk (lineAt s 1) := by
      rcases hb with hb | hb
      · omega
      · exact of_decide_eq_false hb
    rw [if_neg (show ¬ ¬ wksOk ((linesOf s).getD 0 ⟨#[]⟩) from fun hx => hx h0), if_neg (by omega), if_pos (show ¬ cpyOk ((linesOf s).getD 1 ⟨#[]⟩) from hb2)]
    rfl
  | i + 2 =>
    have h0 : wksOk (lineAt s 0) := of_decide_eq_true (h 0 (by omega)).2
    have h1 : cpyOk (lineAt s 1) := of_decide_eq_true (h 1 (by omega)).2
    rw [if_neg (show ¬ ¬ wksOk ((linesOf s).getD 0 ⟨#[]⟩) from fun hx => hx h0), if_neg (by omega), if_neg (show ¬ ¬ cpyOk ((linesOf s).getD 1 ⟨#[]⟩) from fun hx => hx h1)]
    have hbad : badAt (linesOf s) (wksOf (lineAt s 0)) (i + 2) = true := by
      show (decide (i + 2 = 5002) || !(evOf (lineAt s (i + 2)) (wksOf (lineAt s 0))).2) = true
      rcases hb with hb | hb
      · rw [decide_eq_true hb]; rfl
      · have e : wksK s (i + 2) = wksOf (lineAt s 0) := if_neg (by omega)
        have e2 : okAt (i + 2) (lineAt s (i + 2)) (wksK s (i + 2)) = (evOf (lineAt s (i + 2)) (wksOf (lineAt s 0))).2 := by
          unfold okAt; rw [if_neg (by omega), if_neg (by omega), e]
        rw [e2] at hb
        rw [hb]
        simp
    have := rest_bad (cpy := cpyOf (lineAt s 1)) hk (fun j hj => good_bad (h.mono (by omega))) hbad
    show restOf (linesOf s) (wksOf (lineAt s 0)) (cpyOf (lineAt s 1)) = _
    rw [this]
    show (scz, (i : Int) + 3) = (scz, ((i + 2 : Nat) : Int) + 1)
    rw [show ((i + 2 : Nat) : Int) + 1 = (i : Int) + 3 by omega]
theorem sc_short {s : ByteArray} (hs : s.size ≤ 40000) (h : goodK s (linesOf s).length) (hn : (linesOf s).length < 2) : scOf s = (scz, ((linesOf s).length : Int) + 1) := by
  unfold scOf
  rw [if_neg (by omega)]
  by_cases h0 : (linesOf s).length < 1
  · rw [if_pos h0]
    have : (linesOf s).length = 0 := by omega
    rw [this]; rfl
  · have h1 : (linesOf s).length = 1 := by omega
    have h2 : wksOk (lineAt s 0) := of_decide_eq_true (h 0 (by omega)).2
    rw [if_neg h0, if_neg (show ¬ ¬ wksOk ((linesOf s).getD 0 ⟨#[]⟩) from fun hx => hx h2), if_pos hn, h1]
    rfl
theorem sc_done {s : ByteArray} (hs : s.size ≤ 40000) (h : goodK s (linesOf s).length) (hn : 2 ≤ (linesOf s).length) : scOf s = (⟨wksK s (linesOf s).length, cpyK s (linesOf s).length, evsK s (linesOf s).length⟩, 0) := by
  have h0 : wksOk (lineAt s 0) := of_decide_eq_true (h 0 (by omega)).2
  have h1 : cpyOk (lineAt s 1) := of_decide_eq_true (h 1 (by omega)).2
  unfold scOf
  rw [if_neg (by omega), if_neg (by omega), if_neg (show ¬ ¬ wksOk ((linesOf s).getD 0 ⟨#[]⟩) from fun hx => hx h0), if_neg (by omega), if_neg (show ¬ ¬ cpyOk ((linesOf s).getD 1 ⟨#[]⟩) from fun hx => hx h1)]
  show restOf (linesOf s) (wksOf (lineAt s 0)) (cpyOf (lineAt s 1)) = _
  rw [rest_end (fun j hj => good_bad (h.mono (by omega)))]
  have e1 : wksK s (linesOf s).length = wksOf (lineAt s 0) := if_neg (by omega)
  have e2 : cpyK s (linesOf s).length = cpyOf (lineAt s 1) := if_neg (by omega)
  rw [e1, e2]
  rfl
theorem sc_long {s : ByteArray} (hs : 40000 < s.size) : scOf s = (scz, 1) := by
  unfold scOf
  rw [if_pos hs]

end Go.Proofs.YthmihmnagnibmaaDoor
