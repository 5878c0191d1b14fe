/-
  Scripts: the library's words on texts, against how a script is read (pure).
-/
import Derived.Test.YthmihmnagnibmaaDoorScrE
import Derived.Lib.IndexMore
import Derived.Lib.IndexLaws
import Derived.Lib.CountLaws
import Derived.Lib.Replace
import Derived.Lib.AtoiTie
import Derived.Lib.ItoaNum
import Derived.Lib.Strings
namespace Go.Proofs.YthmihmnagnibmaaDoor
open Go

theorem bl_at {s : ByteArray} {i : Nat} {c : UInt8} (hi : i < s.size) : s.data.toList[i]? = some c ↔ by_ s i = (c.toNat : Int) := by
  have h2 : i < s.data.size := hi
  rw [Array.getElem?_toList]
  unfold by_
  rw [Array.getElem?_eq_getElem h2]
  simp only [Option.some.injEq, Option.getD_some]
  constructor
  · intro h; rw [h]
  · intro h; exact UInt8.toNat_inj.1 (by omega)
theorem bl_out {s : ByteArray} {i : Nat} {c : UInt8} (h : s.data.toList[i]? = some c) : i < s.size := by
  rcases Nat.lt_or_ge i s.size with h2 | h2
  · exact h2
  · rw [Array.getElem?_toList, Array.getElem?_eq_none h2] at h
    cases h

/-- The first place of a byte, or none. -/
theorem by_cases_first (s : ByteArray) (c : Int) : ∀ n, n ≤ s.size → (∃ i, i < n ∧ by_ s i = c ∧ ∀ j, j < i → by_ s j ≠ c) ∨ (∀ j, j < n → by_ s j ≠ c) := by
  intro n
  induction n with
  | zero => intro _; exact Or.inr (fun j h => absurd h (Nat.not_lt_zero _))
  | succ n ih =>
    intro hn
    rcases ih (by omega) with ⟨i, h1, h2, h3⟩ | h
    · exact Or.inl ⟨i, by omega, h2, h3⟩
    · by_cases hc : by_ s n = c
      · exact Or.inl ⟨n, by omega, hc, h⟩
      · refine Or.inr (fun j hj => ?_)
        rcases Nat.lt_or_ge j n with h4 | h4
        · exact h j h4
        · have : j = n := by omega
          rw [this]; exact hc

theorem occ1 (l : List UInt8) (c : UInt8) (i : Nat) : Lib.occAt l [c] i = true ↔ l[i]? = some c := by
  unfold Lib.occAt
  rw [← List.head?_drop]
  cases l.drop i with
  | nil => simp
  | cons b t =>
    show (c == b && true) = true ↔ some b = some c
    rw [Bool.and_true, beq_iff_eq, Option.some.injEq]
    exact eq_comm
theorem idx1_some {l : List UInt8} {c : UInt8} {i : Nat} (h : l[i]? = some c) (hm : ∀ j, j < i → l[j]? ≠ some c) : Lib.index l [c] = i :=
  Lib.index_first (by rcases Nat.lt_or_ge i l.length with h2 | h2; exact Nat.le_of_lt h2; rw [List.getElem?_eq_none h2] at h; cases h) ((occ1 _ _ _).2 h) (fun j hj => by
    have := hm j hj
    cases hh : Lib.occAt l [c] j with
    | false => rfl
    | true => exact absurd ((occ1 _ _ _).1 hh) this)
theorem idx1_none {l : List UInt8} {c : UInt8} (hm : ∀ j : Nat, l[j]? ≠ some c) : Lib.index l [c] = -1 :=
  Lib.index_none (fun j _ => by
    cases hh : Lib.occAt l [c] j with
    | false => rfl
    | true => exact absurd ((occ1 _ _ _).1 hh) (hm j))

theorem ba_ext (s : ByteArray) (a b : Nat) : (s.extract a b).data.toList = (s.data.toList.drop a).take (b - a) := Lib.extract_data s a b

theorem cut_yes {r : ByteArray} {i : Nat} (hi : i < r.size) (h : by_ r i = 32) (hm : ∀ j, j < i → by_ r j ≠ 32) :
    Lib.cut r.data.toList [32] = ((r.extract 0 i).data.toList, (r.extract (i + 1) r.size).data.toList, true) := by
  have e : Lib.index r.data.toList [32] = i := idx1_some ((bl_at hi).2 h) (fun j hj hx => hm j hj ((bl_at (by omega)).1 hx))
  unfold Lib.cut
  rw [e, if_pos (by omega), ba_ext, ba_ext]
  simp only [Int.toNat_natCast, List.length_cons, List.length_nil, Nat.zero_add, List.drop_zero, Nat.sub_zero]
  rw [List.take_of_length_le (l := r.data.toList.drop (i + 1))]
  rw [List.length_drop, Array.length_toList]
  exact Nat.le_refl _
theorem cut_no {r : ByteArray} (hm : ∀ j, j < r.size → by_ r j ≠ 32) : Lib.cut r.data.toList [32] = (r.data.toList, [], false) := by
  have e : Lib.index r.data.toList [32] = -1 := idx1_none (fun j hx => hm j (bl_out hx) ((bl_at (bl_out hx)).1 hx))
  unfold Lib.cut
  rw [e, if_neg (by omega)]

theorem has_sp (s : ByteArray) : (0 ≤ Lib.indexByte s.data.toList 32) ↔ ∃ i, i < s.size ∧ by_ s i = 32 := by
  constructor
  · intro h
    obtain ⟨o, ho⟩ : ∃ o : Nat, Lib.indexByte s.data.toList 32 = o := ⟨_, (Int.toNat_of_nonneg h).symm⟩
    have h2 := (Lib.indexByte_some ho).1
    exact ⟨o, bl_out h2, (bl_at (bl_out h2)).1 h2⟩
  · rintro ⟨i, hi, h⟩
    rcases Int.lt_or_le (Lib.indexByte s.data.toList 32) 0 with h2 | h2
    · exfalso
      have h3 : Lib.indexByte s.data.toList 32 = -1 := by
        have := Lib.indexByte_ge s.data.toList 32
        omega
      exact Lib.indexByte_none h3 i ((bl_at hi).2 h)
    · exact h2

/-- A word's line and the cut at the first blank. -/
theorem ba_eq {a b : ByteArray} (h : a.data.toList = b.data.toList) : a = b := by
  rw [← Lib.mk_data a, ← Lib.mk_data b, h]
theorem ext_size (s : ByteArray) (a b : Nat) (h : b ≤ s.size) : (s.extract a b).size = b - a := by
  rw [ByteArray.size_extract]; omega
theorem by_ext (s : ByteArray) (a b i : Nat) (h : i < b - a) (hb : b ≤ s.size) : by_ (s.extract a b) i = by_ s (a + i) := by
  have h1 : i < (s.extract a b).size := by rw [ext_size _ _ _ hb]; exact h
  obtain ⟨c, hc⟩ : ∃ c, s.data.toList[a + i]? = some c := by
    have : a + i < s.data.toList.length := by rw [Array.length_toList]; show a + i < s.size; omega
    exact ⟨_, List.getElem?_eq_getElem this⟩
  have h2 : (s.extract a b).data.toList[i]? = some c := by
    rw [ba_ext, List.getElem?_take_of_lt h, List.getElem?_drop]; exact hc
  rw [(bl_at h1).1 h2, (bl_at (by omega)).1 hc]

theorem aft_yes {l wd : ByteArray} {i : Nat} (hi : i < l.size) (h : by_ l i = 32) (hm : ∀ j, j < i → by_ l j ≠ 32) (hw : ∀ j, j < wd.size → by_ wd j ≠ 32) :
    (isAft l wd ↔ l.extract 0 i = wd) ∧ (isAft l wd → aft l wd = l.extract (i + 1) l.size) := by
  have key : isAft l wd → i = wd.size := by
    rintro ⟨h1, h2, h3⟩
    have h4 : i ≤ wd.size := by
      rcases Nat.lt_or_ge wd.size i with h5 | h5
      · exact absurd h3 (hm _ h5)
      · exact h5
    rcases Nat.lt_or_ge i wd.size with h5 | h5
    · exfalso
      have h6 : l.extract 0 wd.size = wd := ba_eq (by rw [← Lib.toList_data, ← Lib.toList_data, h2])
      have h7 := by_ext l 0 wd.size i (by omega) (by omega)
      rw [h6, Nat.zero_add] at h7
      exact hw i h5 (h7.trans h)
    · omega
  refine ⟨⟨fun h0 => ?_, fun h0 => ?_⟩, fun h0 => ?_⟩
  · have e := key h0
    rw [e]
    exact ba_eq (by rw [← Lib.toList_data, ← Lib.toList_data, h0.2.1])
  · have e : wd.size = i := by rw [← h0, ext_size _ _ _ (by omega)]; omega
    refine ⟨by omega, by rw [e, h0], by rw [e]; exact h⟩
  · have e := key h0
    unfold aft
    rw [if_pos h0, e]
theorem aft_no {l wd : ByteArray} (hm : ∀ j, j < l.size → by_ l j ≠ 32) : ¬ isAft l wd := by
  rintro ⟨h1, h2, h3⟩
  exact hm wd.size (by omega) h3

/-- Bars for newlines. -/
def bars (l : List UInt8) : List UInt8 := l.map (fun b => if b = 124 then 10 else b)
theorem bars_first {l : List UInt8} {i : Nat} (h : l[i]? = some 124) (hm : ∀ j, j < i → l[j]? ≠ some 124) : bars l = l.take i ++ [10] ++ bars (l.drop (i + 1)) := by
  unfold bars
  have hi : i < l.length := by
    rcases Nat.lt_or_ge i l.length with h2 | h2
    · exact h2
    · rw [List.getElem?_eq_none h2] at h; cases h
  have e : l = l.take i ++ (124 :: l.drop (i + 1)) := by
    rw [List.getElem?_eq_getElem hi] at h
    have h3 := Option.some.inj h
    rw [← h3, ← List.drop_eq_getElem_cons hi, List.take_append_drop]
  have e2 : (l.take i).map (fun b => if b = 124 then (10 : UInt8) else b) = l.take i := by
    apply List.ext_getElem?
    intro k
    rw [List.getElem?_map]
    rcases Nat.lt_or_ge k i with hk | hk
    · rw [List.getElem?_take_of_lt hk]
      have h4 := hm k hk
      cases hx : l[k]? with
      | none => rfl
      | some b => rw [hx] at h4; simp only [Option.map_some]; rw [if_neg (fun hb => h4 (by rw [hb]))]
    · rw [List.getElem?_eq_none (by rw [List.length_take]; omega)]; rfl
  conv => lhs; rw [e]
  rw [List.map_append, List.map_cons, e2, if_pos rfl]
  simp
theorem bars_none {l : List UInt8} (hm : ∀ j : Nat, l[j]? ≠ some 124) : bars l = l := by
  unfold bars
  apply List.ext_getElem?
  intro k
  rw [List.getElem?_map]
  have h4 := hm k
  cases hx : l[k]? with
  | none => rfl
  | some b => rw [hx] at h4; simp only [Option.map_some]; rw [if_neg (fun hb => h4 (by rw [hb]))]
theorem repl_all : ∀ (n : Nat) (l : List UInt8), l.length ≤ n → Lib.replaceK [124] [10] (Lib.count l [124]) l = bars l := by
  intro n
  induction n with
  | zero =>
    intro l hl
    have : l = [] := List.length_eq_zero_iff.1 (by omega)
    subst this
    rfl
  | succ n ih =>
    intro l hl
    rcases Lib.index_spec l [124] with ⟨h1, h2⟩ | ⟨i, h1, h2, h3, h4⟩
    · rw [Lib.count_miss h1, bars_none]
      · rfl
      · intro j hj
        have hlt : j < l.length := by
          rcases Nat.lt_or_ge j l.length with h5 | h5
          · exact h5
          · rw [List.getElem?_eq_none h5] at hj; cases hj
        have := h2 j (by omega)
        rw [(occ1 _ _ _).2 hj] at this
        cases this
    · have hi := (occ1 _ _ _).1 h3
      have hlt : i < l.length := by
        rcases Nat.lt_or_ge i l.length with h5 | h5
        · exact h5
        · rw [List.getElem?_eq_none h5] at hi; cases hi
      rw [Lib.count_hit (by simp) h1, Nat.add_comm, Lib.replaceK_hit _ _ _ _ _ h1, bars_first hi (fun j hj hx => by
        have := h4 j hj
        rw [(occ1 _ _ _).2 hx] at this
        cases this)]
      show _ = _
      rw [show ([124] : List UInt8).length = 1 from rfl, ih _ (by rw [List.length_drop]; omega)]
theorem repl_bars (l : List UInt8) : Lib.replaceAll l [124] [10] = bars l := by
  unfold Lib.replaceAll Lib.replace
  rw [if_neg (by decide)]
  unfold Lib.replaceNum
  rw [if_pos (Or.inl (by decide))]
  exact repl_all _ l (Nat.le_refl _)
theorem txt_bars (s : ByteArray) : ∀ k, k ≤ s.size → (txtTo s k).data.toList = bars (s.data.toList.take k) := by
  intro k
  induction k with
  | zero => intro _; rfl
  | succ k ih =>
    intro hk
    have hlt : k < s.data.toList.length := by rw [Array.length_toList]; exact hk
    show (txtTo s k ++ (if by_ s k = 124 then (⟨#[10]⟩ : ByteArray) else s.extract k (k + 1))).data.toList = _
    rw [ByteArray.data_append, Array.toList_append, ih (by omega), List.take_add_one, List.getElem?_eq_getElem hlt]
    unfold bars
    rw [List.map_append]
    congr 1
    have hb := (bl_at (s := s) (i := k) (c := s.data.toList[k]) hk).1 (List.getElem?_eq_getElem hlt)
    by_cases h : by_ s k = 124
    · rw [if_pos h]
      have : s.data.toList[k] = 124 := UInt8.toNat_inj.1 (by rw [h] at hb; have h5 : ((124 : UInt8).toNat : Int) = 124 := rfl; omega)
      simp [this]
    · rw [if_neg h, ba_ext]
      have : ¬ s.data.toList[k] = 124 := fun hx => h (by rw [hb, hx]; rfl)
      simp only [Option.toList_some, List.map_cons, List.map_nil, if_neg this]
      rw [List.drop_eq_getElem_cons hlt]
      simp
theorem txt_repl (s : ByteArray) : (⟨(Lib.replaceAll s.data.toList [124] [10]).toArray⟩ : ByteArray) = txtTo s s.size := by
  rw [← Lib.mk_data (txtTo s s.size), txt_bars s s.size (Nat.le_refl _), repl_bars, List.take_of_length_le (by rw [Array.length_toList]; exact Nat.le_refl _)]

end Go.Proofs.YthmihmnagnibmaaDoor
