/-
  How a text is cut, told without a program.
-/
import Derived.Test.YthbdomniookmbaaPure
import Derived.Lib.IndexMore
namespace Go.Proofs.Ythbdomniookmbaa

/-- A digit. -/
def dg (c : Int) : Bool := decide (48 ≤ c ∧ c ≤ 57)
/-- Any byte but the newline. -/
def nn (c : Int) : Bool := decide (c ≠ 10)
/-- The byte at a place, -1 behind the end. -/
def bt (s : ByteArray) (i : Nat) : Int := if h : i < s.size then (s[i].toNat : Int) else -1
theorem bt_in {s : ByteArray} {i : Nat} (h : i < s.size) : bt s i = (s[i].toNat : Int) := dif_pos h
theorem bt_out {s : ByteArray} {i : Nat} (h : ¬ i < s.size) : bt s i = -1 := dif_neg h

/-- How many bytes from a place on pass. -/
def run (p : Int → Bool) (s : ByteArray) (i : Nat) : Nat := if i < s.size then (if p (bt s i) then run p s (i + 1) + 1 else 0) else 0
termination_by s.size - i

theorem run_step {p : Int → Bool} {s : ByteArray} {i : Nat} (h : i < s.size) (hp : p (bt s i) = true) : run p s i = run p s (i + 1) + 1 := by
  rw [run, if_pos h, if_pos hp]
theorem run_stop {p : Int → Bool} {s : ByteArray} {i : Nat} (h : i < s.size) (hp : p (bt s i) = false) : run p s i = 0 := by
  rw [run, if_pos h, hp]; rfl
theorem run_end {p : Int → Bool} {s : ByteArray} {i : Nat} (h : ¬ i < s.size) : run p s i = 0 := by
  rw [run, if_neg h]
theorem run_le {p : Int → Bool} {s : ByteArray} {i : Nat} (h : i ≤ s.size) : i + run p s i ≤ s.size := by
  by_cases hi : i < s.size
  · cases hp : p (bt s i)
    · rw [run_stop hi hp]; omega
    · rw [run_step hi hp]
      have := run_le (p := p) (s := s) (i := i + 1) (by omega)
      omega
  · rw [run_end hi]; omega
termination_by s.size - i

/-- How long the piece at a place is. -/
def plen (s : ByteArray) (i : Nat) : Nat :=
  if bt s i = 32 ∨ bt s i = 10 then 1 else
  if bt s i = 35 then 1 + run nn s (i + 1) else
  if sl (bt s i) then 1 + run wb s (i + 1) else
  if dg (bt s i) then 1 + run dg s (i + 1) else
  if bt s i = 45 ∧ bt s (i + 1) = 62 then 2 else 1
/-- The piece at a place is no token. -/
def blk (s : ByteArray) (i : Nat) : Bool := decide (bt s i = 32 ∨ bt s i = 10 ∨ bt s i = 35)

theorem plen_pos (s : ByteArray) (i : Nat) : 1 ≤ plen s i := by
  unfold plen
  repeat' split
  all_goals omega
theorem plen_le {s : ByteArray} {i : Nat} (h : i < s.size) : i + plen s i ≤ s.size := by
  unfold plen
  have h1 := run_le (p := nn) (s := s) (i := i + 1) (by omega)
  have h2 := run_le (p := wb) (s := s) (i := i + 1) (by omega)
  have h3 := run_le (p := dg) (s := s) (i := i + 1) (by omega)
  split
  · omega
  split
  · omega
  split
  · omega
  split
  · omega
  split
  · rename_i h4
    have : i + 1 < s.size := by
      by_cases q : i + 1 < s.size
      · exact q
      · have := h4.2; rw [bt_out q] at this; omega
    omega
  · omega

/-- The signs of one byte. -/
def sgs : List UInt8 := [59, 58, 61, 63, 123, 125, 40, 41, 44, 46, 43, 60]
def sg (c : Int) : Bool := decide (c = 59 ∨ c = 58 ∨ c = 61 ∨ c = 63 ∨ c = 123 ∨ c = 125 ∨ c = 40 ∨ c = 41 ∨ c = 44 ∨ c = 46 ∨ c = 43 ∨ c = 60)
/-- A number that fits. -/
def num (t : List UInt8) : Bool := dg ((t.headD 0).toNat : Int) && !decide (9 < t.length ∨ ((t.headD 0).toNat : Int) = 48 ∧ 1 < t.length)
/-- The class of a token. -/
def cls (t : List UInt8) : Int := if gnl t then 1 else if rsv t then 2 else if num t then 3 else if t == [45, 62] || Lib.contains sgs t then 4 else 0

/-- A token. -/
structure TK where
  cls : Int
  txt : ByteArray
  loc : Nat

/-- The text of the piece at a place. -/
def ptx (s : ByteArray) (i : Nat) : ByteArray := s.extract i (i + plen s i)
/-- All tokens from a place on. -/
def tks (s : ByteArray) (i : Nat) : List TK :=
  if i < s.size then (if blk s i then tks s (i + plen s i) else ⟨cls (ptx s i).toList, ptx s i, i⟩ :: tks s (i + plen s i)) else []
termination_by s.size - i
decreasing_by all_goals (have := plen_pos s i; omega)

theorem tks_blk {s : ByteArray} {i : Nat} (h : i < s.size) (hb : blk s i = true) : tks s i = tks s (i + plen s i) := by
  rw [tks, if_pos h, if_pos hb]
theorem tks_tok {s : ByteArray} {i : Nat} (h : i < s.size) (hb : blk s i = false) : tks s i = ⟨cls (ptx s i).toList, ptx s i, i⟩ :: tks s (i + plen s i) := by
  rw [tks, if_pos h, hb]; rfl
theorem tks_end {s : ByteArray} {i : Nat} (h : ¬ i < s.size) : tks s i = [] := by
  rw [tks, if_neg h]

/-- The tokens of a text. -/
def toks (s : ByteArray) : List TK := if s.size ≤ 1000 then tks s 0 else []

/- What the classes are. -/

theorem ptx_size {s : ByteArray} {i : Nat} (h : i < s.size) : (ptx s i).size = plen s i := by
  unfold ptx; rw [ByteArray.size_extract]; have := plen_le h; omega
theorem ptx_head {s : ByteArray} {i : Nat} (h : i < s.size) : ((((ptx s i).toList.headD 0).toNat : Nat) : Int) = bt s i := by
  have hs := ptx_size h
  have hp := plen_pos s i
  rw [ByteArray.toList_eq, head_at _ (by omega), bt_in h]
  unfold ptx
  rw [ByteArray.getElem_extract]
  simp

theorem not_in {b : UInt8} {l : List UInt8} (h : sg (b.toNat : Int) = false) : Lib.contains sgs (b :: l) = false := by
  have hb : ∀ c ∈ sgs, (b == c) = false := fun c hc => by
    rw [beq_eq_false_iff_ne]
    intro e; subst e
    revert h; revert hc
    simp only [sgs, List.mem_cons, List.not_mem_nil, or_false]
    rintro (rfl | rfl | rfl | rfl | rfl | rfl | rfl | rfl | rfl | rfl | rfl | rfl) <;> decide
  unfold Lib.contains
  rw [Lib.index_none]
  · rfl
  · intro j hj
    unfold Lib.occAt
    cases hd : sgs.drop j with
    | nil => rfl
    | cons c l' =>
      have : c ∈ sgs := List.mem_of_mem_drop (i := j) (by rw [hd]; exact List.mem_cons_self)
      rw [List.isPrefixOf_cons_cons, hb c this, Bool.false_and]

theorem one_in {b : UInt8} : Lib.contains sgs [b] = sg (b.toNat : Int) := by
  cases h : sg (b.toNat : Int)
  · exact not_in h
  · have hb : b = 59 ∨ b = 58 ∨ b = 61 ∨ b = 63 ∨ b = 123 ∨ b = 125 ∨ b = 40 ∨ b = 41 ∨ b = 44 ∨ b = 46 ∨ b = 43 ∨ b = 60 := by
      simp only [sg, decide_eq_true_eq] at h
      simp only [← UInt8.toNat_inj]
      simp only [UInt8.reduceToNat]
      omega
    rcases hb with rfl | rfl | rfl | rfl | rfl | rfl | rfl | rfl | rfl | rfl | rfl | rfl <;> rfl


/-- A word. -/
theorem cls_word {t : List UInt8} (ht : t ≠ []) (h : sl ((t.headD 0).toNat : Int) = true) : cls t = if rsv t then 2 else if gnl t then 1 else 0 := by
  cases t with
  | nil => exact absurd rfl ht
  | cons b l =>
    simp only [List.headD_cons] at h
    have h1 : num (b :: l) = false := by
      unfold num
      have : dg ((b.toNat : Nat) : Int) = false := by
        simp only [sl, decide_eq_true_eq] at h
        simp only [dg, decide_eq_false_iff_not]; omega
      simp only [List.headD_cons, this, Bool.false_and]
    have h2 : Lib.contains sgs (b :: l) = false := not_in (by
      simp only [sl, decide_eq_true_eq] at h
      simp only [sg, decide_eq_false_iff_not]; omega)
    have h3 : ((b :: l) == [45, 62]) = false := by
      rw [beq_eq_false_iff_ne]
      intro e
      have : b = 45 := (List.cons.inj e).1
      subst this
      revert h; decide
    unfold cls
    rw [h1, h2, h3]
    cases hg : gnl (b :: l)
    · cases hr : rsv (b :: l) <;> rfl
    · have : rsv (b :: l) = false := by
        unfold gnl at hg
        simp only [Bool.and_eq_true] at hg
        simpa using hg.2.2.2
      rw [this]; rfl

theorem rsv_head {b : UInt8} {l : List UInt8} (h : rsv (b :: l) = true) : sl (b.toNat : Int) = true := by
  unfold rsv at h
  simp only [Bool.or_eq_true, beq_iff_eq, List.cons.injEq] at h
  rcases h with ((((((((((h | h) | h) | h) | h) | h) | h) | h) | h) | h) | h) <;> (rw [h.1]; decide)

theorem not_word {b : UInt8} {l : List UInt8} (h : sl (b.toNat : Int) = false) : gnl (b :: l) = false ∧ rsv (b :: l) = false := by
  constructor
  · unfold gnl
    simp only [List.headD_cons, h, Bool.false_and, Bool.and_false]
  · cases hr : rsv (b :: l)
    · rfl
    · rw [rsv_head hr] at h; cases h

/-- A number. -/
theorem cls_num {t : List UInt8} (ht : t ≠ []) (h : dg ((t.headD 0).toNat : Int) = true) : cls t = if 9 < t.length ∨ ((t.headD 0).toNat : Int) = 48 ∧ 1 < t.length then 0 else 3 := by
  cases t with
  | nil => exact absurd rfl ht
  | cons b l =>
    simp only [List.headD_cons] at h
    have hs : sl (b.toNat : Int) = false := by
      simp only [dg, decide_eq_true_eq] at h
      simp only [sl, decide_eq_false_iff_not]; omega
    obtain ⟨h0, h1⟩ := not_word (l := l) hs
    have h2 : Lib.contains sgs (b :: l) = false := not_in (by
      simp only [dg, decide_eq_true_eq] at h
      simp only [sg, decide_eq_false_iff_not]; omega)
    have h3 : ((b :: l) == [45, 62]) = false := by
      rw [beq_eq_false_iff_ne]
      intro e
      have : b = 45 := (List.cons.inj e).1
      subst this
      revert h; decide
    unfold cls
    rw [h0, h1, h2, h3]
    unfold num
    by_cases q : 9 < (b :: l).length ∨ (((b :: l).headD 0).toNat : Int) = 48 ∧ 1 < (b :: l).length
    · rw [if_pos q, decide_eq_true q, Bool.not_true, Bool.and_false]; rfl
    · rw [if_neg q, decide_eq_false q, Bool.not_false, Bool.and_true]
      have : dg ((((b :: l).headD 0).toNat : Nat) : Int) = true := h
      rw [this]; rfl

theorem cls_arrow : cls [45, 62] = 4 := by decide

/-- A byte of its own. -/
theorem cls_one {b : UInt8} (h1 : sl (b.toNat : Int) = false) (h2 : dg (b.toNat : Int) = false) : cls [b] = if sg (b.toNat : Int) then 4 else 0 := by
  obtain ⟨a1, a2⟩ := not_word (l := []) h1
  have h3 : num [b] = false := by unfold num; simp only [List.headD_cons, h2, Bool.false_and]
  have h4 : ([b] == [(45 : UInt8), 62]) = false := by rw [beq_eq_false_iff_ne]; simp
  unfold cls
  rw [a1, a2, h3, h4, one_in, Bool.false_or]
  rfl

end Go.Proofs.Ythbdomniookmbaa
