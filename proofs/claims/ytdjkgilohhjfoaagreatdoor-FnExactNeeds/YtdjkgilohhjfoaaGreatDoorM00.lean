/-
  Merged for the claim: Pure Scan.
-/
import Derived.WalkKit
import Derived.Lib.IndexMore
namespace Go.Proofs.YtdjkgilohhjfoaaGreatDoor

/-- A small letter. -/
def sl (c : Int) : Bool := decide (97 ≤ c ∧ c ≤ 122)
/-- A letter, digit or underscore. -/
def wb (c : Int) : Bool := decide ((97 ≤ c ∧ c ≤ 122) ∨ (48 ≤ c ∧ c ≤ 57) ∨ c = 95)
/-- One of the eleven words. -/
def rsv (l : List UInt8) : Bool :=
  l == [105, 109, 112, 111, 114, 116] || l == [116, 121, 112, 101] || l == [118, 97, 108] || l == [102, 117, 110] || l == [105, 102] ||
  l == [116, 104, 101, 110] || l == [101, 108, 115, 101] || l == [105, 110, 116] || l == [98, 111, 111, 108] || l == [116, 114, 117, 101] || l == [102, 97, 108, 115, 101]
/-- A good name. -/
def gnl (l : List UInt8) : Bool :=
  decide (1 ≤ l.length ∧ l.length ≤ 12) && (sl ((l.headD 0).toNat : Int) && (l.all (fun b => wb (b.toNat : Int)) && !rsv l))
def gn (s : ByteArray) : Bool := gnl s.data.toList

theorem wb_of_sl {c : Int} (h : sl c = true) : wb c = true := by
  simp only [sl, wb, decide_eq_true_eq] at *; exact Or.inl h

theorem gn_short {s : ByteArray} (h : s.size < 1 ∨ 12 < s.size) : gn s = false := by
  have : s.data.toList.length = s.size := rfl
  have h2 : ¬ (1 ≤ s.data.toList.length ∧ s.data.toList.length ≤ 12) := by omega
  simp only [gn, gnl, decide_eq_false h2, Bool.false_and]

theorem head_at (s : ByteArray) (h : 0 < s.size) : s.data.toList.headD 0 = s[0] := by
  have h' : 0 < s.data.toList.length := h
  cases e : s.data.toList with
  | nil => rw [e] at h'; simp at h'
  | cons a t =>
    have : s[0] = s.data.toList[0]'h' := rfl
    rw [this]; simp [e]

theorem gn_head {s : ByteArray} (h : 0 < s.size) (hs : sl (s[0].toNat : Int) = false) : gn s = false := by
  simp only [gn, gnl, head_at s h, hs, Bool.false_and, Bool.and_false]

theorem gn_byte {s : ByteArray} (k : Nat) (h : k < s.size) (hs : wb (s[k].toNat : Int) = false) : gn s = false := by
  have hm : s[k] ∈ s.data.toList := by
    have : s[k] = s.data.toList[k]'h := rfl
    rw [this]; exact List.getElem_mem _
  have : s.data.toList.all (fun b => wb (b.toNat : Int)) = false := by
    rw [List.all_eq_false]; exact ⟨_, hm, by simp [hs]⟩
  simp only [gn, gnl, this, Bool.false_and, Bool.and_false]

theorem gn_end {s : ByteArray} (h1 : 1 ≤ s.size) (h2 : s.size ≤ 12) (h0 : sl ((s[0]'(by omega)).toNat : Int) = true)
    (ha : ∀ j (h : j < s.size), wb (s[j].toNat : Int) = true) : gn s = !rsv s.toList := by
  have hl : s.data.toList.length = s.size := rfl
  have hall : s.data.toList.all (fun b => wb (b.toNat : Int)) = true := by
    rw [List.all_eq_true]; intro b hb
    obtain ⟨j, hj, rfl⟩ := List.getElem_of_mem hb
    exact ha j (by omega)
  have hd : decide (1 ≤ s.data.toList.length ∧ s.data.toList.length ≤ 12) = true := by simp only [decide_eq_true_eq]; omega
  simp only [gn, gnl, hd, head_at s (by omega), h0, hall, Bool.true_and, ByteArray.toList_eq]

/-- The order of texts. -/
def lt (a b : ByteArray) : Bool := Op.bytesLess a.toList b.toList

theorem bl_append (p x y : List UInt8) : Op.bytesLess (p ++ x) (p ++ y) = Op.bytesLess x y := by
  induction p with
  | nil => rfl
  | cons c p ih =>
    have : ¬ c < c := by intro h; exact absurd h (by simp)
    simp [Op.bytesLess, ih]

theorem split_at (a : ByteArray) (k : Nat) : a.toList = a.data.toList.take k ++ a.data.toList.drop k := by
  rw [ByteArray.toList_eq, List.take_append_drop]

theorem take_eq {a b : ByteArray} {k : Nat} (ha : k ≤ a.size) (hb : k ≤ b.size) (h : ∀ j (h1 : j < a.size) (h2 : j < b.size), j < k → a[j] = b[j]) :
    a.data.toList.take k = b.data.toList.take k := by
  have la : a.data.toList.length = a.size := rfl
  have lb : b.data.toList.length = b.size := rfl
  apply List.ext_getElem
  · simp only [List.length_take]; omega
  · intro j h1 h2
    simp only [List.length_take] at h1 h2
    rw [List.getElem_take, List.getElem_take]
    exact h j (by omega) (by omega) (by omega)

theorem lt_at {a b : ByteArray} {k : Nat} (ha : k < a.size) (hb : k < b.size) (h : ∀ j (h1 : j < a.size) (h2 : j < b.size), j < k → a[j] = b[j]) (hne : a[k] ≠ b[k]) :
    lt a b = decide ((a[k].toNat : Int) < (b[k].toNat : Int)) := by
  have la : a.data.toList.length = a.size := rfl
  have lb : b.data.toList.length = b.size := rfl
  have ea : a.data.toList[k]'(by omega) = a[k] := rfl
  have eb : b.data.toList[k]'(by omega) = b[k] := rfl
  unfold lt
  rw [split_at a k, split_at b k, take_eq (by omega) (by omega) h, bl_append, List.drop_eq_getElem_cons (by omega), List.drop_eq_getElem_cons (l := b.data.toList) (by omega), ea, eb]
  have hne' : (a[k] == b[k]) = false := by simpa using hne
  rw [Op.bytesLess, hne', Bool.false_and, Bool.or_false]
  rw [decide_eq_decide, UInt8.lt_iff_toNat_lt]; omega

theorem lt_end {a b : ByteArray} {k : Nat} (ha : k ≤ a.size) (hb : k ≤ b.size) (h : ∀ j (h1 : j < a.size) (h2 : j < b.size), j < k → a[j] = b[j]) (he : k = a.size ∨ k = b.size) :
    lt a b = decide ((a.size : Int) < (b.size : Int)) := by
  have la : a.data.toList.length = a.size := rfl
  have lb : b.data.toList.length = b.size := rfl
  unfold lt
  rw [split_at a k, split_at b k, take_eq (by omega) (by omega) h, bl_append]
  by_cases h1 : k = a.size
  · rw [List.drop_of_length_le (l := a.data.toList) (by omega)]
    by_cases h2 : k = b.size
    · rw [List.drop_of_length_le (l := b.data.toList) (by omega), decide_eq_false (by omega)]; rfl
    · rw [List.drop_eq_getElem_cons (l := b.data.toList) (by omega), decide_eq_true (by omega)]; rfl
  · have h2 : k = b.size := by omega
    rw [List.drop_of_length_le (l := b.data.toList) (by omega), List.drop_eq_getElem_cons (l := a.data.toList) (by omega), decide_eq_false (by omega)]; rfl

/-- Every number below n passes. -/
def allTo (n : Nat) (p : Nat → Bool) : Bool := (List.range n).all p
theorem allTo_true {n : Nat} {p : Nat → Bool} (h : ∀ j, j < n → p j = true) : allTo n p = true := by
  unfold allTo; rw [List.all_eq_true]; intro j hj; exact h j (List.mem_range.1 hj)
theorem allTo_false {n : Nat} {p : Nat → Bool} (k : Nat) (hk : k < n) (h : p k = false) : allTo n p = false := by
  unfold allTo; rw [List.all_eq_false]; exact ⟨k, List.mem_range.2 hk, by simp [h]⟩

/-- The names of a record: good, each less than the next. -/
def gio (n : Nat) (S : Nat → ByteArray) : Bool := allTo n fun i => gn (S i) && (decide (i = 0) || lt (S (i - 1)) (S i))
/-- The kids are numbers of nodes. -/
def kok (n : Nat) (D : Nat → Int) (N : Int) : Bool := allTo n fun i => decide (0 ≤ D i ∧ D i < N)

/-- What a node holds. -/
structure ND where
  kind : Int
  nn : Nat
  nm : Nat → ByteArray
  nk : Nat
  kd : Nat → Int

/-- The shape of a node. -/
def shp (d : ND) : Bool :=
  if d.kind = 4 then decide (d.nn = 0 ∧ d.nk = 2) else
  if d.kind = 3 then decide (d.nn = d.nk) && gio d.nn d.nm else
  if d.kind = 0 ∨ d.kind = 1 ∨ d.kind = 2 then decide (d.nn = 0 ∧ d.nk = 0) else false
def nok (d : ND) (N : Int) : Bool := shp d && kok d.nk d.kd N
/-- A graph is valid. -/
def vgr (N : Nat) (G : Nat → ND) : Bool := decide (N ≤ 4000) && allTo N fun i => nok (G i) N

end Go.Proofs.YtdjkgilohhjfoaaGreatDoor

namespace Go.Proofs.YtdjkgilohhjfoaaGreatDoor

/-- A digit. -/
def dg (c : Int) : Bool := decide (48 ≤ c ∧ c ≤ 57)
/-- Any byte but the newline. -/
def nn (c : Int) : Bool := decide (c ≠ 10)
/-- The byte at a place, -1 behind the end. -/
def bt (s : ByteArray) (i : Nat) : Int := if h : i < s.size then (s[i].toNat : Int) else -1
theorem bt_in {s : ByteArray} {i : Nat} (h : i < s.size) : bt s i = (s[i].toNat : Int) := dif_pos h
theorem bt_out {s : ByteArray} {i : Nat} (h : ¬ i < s.size) : bt s i = -1 := dif_neg h

/-- How many bytes from a place on pass. -/
def run (p : Int → Bool) (s : ByteArray) (i : Nat) : Nat := if i < s.size then (if p (bt s i) then run p s (i + 1) + 1 else 0) else 0
termination_by s.size - i

theorem run_step {p : Int → Bool} {s : ByteArray} {i : Nat} (h : i < s.size) (hp : p (bt s i) = true) : run p s i = run p s (i + 1) + 1 := by
  rw [run, if_pos h, if_pos hp]
theorem run_stop {p : Int → Bool} {s : ByteArray} {i : Nat} (h : i < s.size) (hp : p (bt s i) = false) : run p s i = 0 := by
  rw [run, if_pos h, hp]; rfl
theorem run_end {p : Int → Bool} {s : ByteArray} {i : Nat} (h : ¬ i < s.size) : run p s i = 0 := by
  rw [run, if_neg h]
theorem run_le {p : Int → Bool} {s : ByteArray} {i : Nat} (h : i ≤ s.size) : i + run p s i ≤ s.size := by
  by_cases hi : i < s.size
  · cases hp : p (bt s i)
    · rw [run_stop hi hp]; omega
    · rw [run_step hi hp]
      have := run_le (p := p) (s := s) (i := i + 1) (by omega)
      omega
  · rw [run_end hi]; omega
termination_by s.size - i

/-- How long the piece at a place is. -/
def plen (s : ByteArray) (i : Nat) : Nat :=
  if bt s i = 32 ∨ bt s i = 10 then 1 else
  if bt s i = 35 then 1 + run nn s (i + 1) else
  if sl (bt s i) then 1 + run wb s (i + 1) else
  if dg (bt s i) then 1 + run dg s (i + 1) else
  if bt s i = 45 ∧ bt s (i + 1) = 62 then 2 else 1
/-- The piece at a place is no token. -/
def blk (s : ByteArray) (i : Nat) : Bool := decide (bt s i = 32 ∨ bt s i = 10 ∨ bt s i = 35)

theorem plen_pos (s : ByteArray) (i : Nat) : 1 ≤ plen s i := by
  unfold plen
  repeat' split
  all_goals omega
theorem plen_le {s : ByteArray} {i : Nat} (h : i < s.size) : i + plen s i ≤ s.size := by
  unfold plen
  have h1 := run_le (p := nn) (s := s) (i := i + 1) (by omega)
  have h2 := run_le (p := wb) (s := s) (i := i + 1) (by omega)
  have h3 := run_le (p := dg) (s := s) (i := i + 1) (by omega)
  split
  · omega
  split
  · omega
  split
  · omega
  split
  · omega
  split
  · rename_i h4
    have : i + 1 < s.size := by
      by_cases q : i + 1 < s.size
      · exact q
      · have := h4.2; rw [bt_out q] at this; omega
    omega
  · omega

/-- The signs of one byte. -/
def sgs : List UInt8 := [59, 58, 61, 63, 123, 125, 40, 41, 44, 46, 43, 60]
def sg (c : Int) : Bool := decide (c = 59 ∨ c = 58 ∨ c = 61 ∨ c = 63 ∨ c = 123 ∨ c = 125 ∨ c = 40 ∨ c = 41 ∨ c = 44 ∨ c = 46 ∨ c = 43 ∨ c = 60)
/-- A number that fits. -/
def num (t : List UInt8) : Bool := dg ((t.headD 0).toNat : Int) && !decide (9 < t.length ∨ ((t.headD 0).toNat : Int) = 48 ∧ 1 < t.length)
/-- The class of a token. -/
def cls (t : List UInt8) : Int := if gnl t then 1 else if rsv t then 2 else if num t then 3 else if t == [45, 62] || Lib.contains sgs t then 4 else 0

/-- A token. -/
structure TK where
  cls : Int
  txt : ByteArray
  loc : Nat

/-- The text of the piece at a place. -/
def ptx (s : ByteArray) (i : Nat) : ByteArray := s.extract i (i + plen s i)
/-- All tokens from a place on. -/
def tks (s : ByteArray) (i : Nat) : List TK :=
  if i < s.size then (if blk s i then tks s (i + plen s i) else ⟨cls (ptx s i).toList, ptx s i, i⟩ :: tks s (i + plen s i)) else []
termination_by s.size - i
decreasing_by all_goals (have := plen_pos s i; omega)

theorem tks_blk {s : ByteArray} {i : Nat} (h : i < s.size) (hb : blk s i = true) : tks s i = tks s (i + plen s i) := by
  rw [tks, if_pos h, if_pos hb]
theorem tks_tok {s : ByteArray} {i : Nat} (h : i < s.size) (hb : blk s i = false) : tks s i = ⟨cls (ptx s i).toList, ptx s i, i⟩ :: tks s (i + plen s i) := by
  rw [tks, if_pos h, hb]; rfl
theorem tks_end {s : ByteArray} {i : Nat} (h : ¬ i < s.size) : tks s i = [] := by
  rw [tks, if_neg h]

/-- The tokens of a text. -/
def toks (s : ByteArray) : List TK := if s.size ≤ 1000 then tks s 0 else []

/- What the classes are. -/

theorem ptx_size {s : ByteArray} {i : Nat} (h : i < s.size) : (ptx s i).size = plen s i := by
  unfold ptx; rw [ByteArray.size_extract]; have := plen_le h; omega
theorem ptx_head {s : ByteArray} {i : Nat} (h : i < s.size) : ((((ptx s i).toList.headD 0).toNat : Nat) : Int) = bt s i := by
  have hs := ptx_size h
  have hp := plen_pos s i
  rw [ByteArray.toList_eq, head_at _ (by omega), bt_in h]
  unfold ptx
  rw [ByteArray.getElem_extract]
  simp

theorem not_in {b : UInt8} {l : List UInt8} (h : sg (b.toNat : Int) = false) : Lib.contains sgs (b :: l) = false := by
  have hb : ∀ c ∈ sgs, (b == c) = false := fun c hc => by
    rw [beq_eq_false_iff_ne]
    intro e; subst e
    revert h; revert hc
    simp only [sgs, List.mem_cons, List.not_mem_nil, or_false]
    rintro (rfl | rfl | rfl | rfl | rfl | rfl | rfl | rfl | rfl | rfl | rfl | rfl) <;> decide
  unfold Lib.contains
  rw [Lib.index_none]
  · rfl
  · intro j hj
    unfold Lib.occAt
    cases hd : sgs.drop j with
    | nil => rfl
    | cons c l' =>
      have : c ∈ sgs := List.mem_of_mem_drop (i := j) (by rw [hd]; exact List.mem_cons_self)
      rw [List.isPrefixOf_cons_cons, hb c this, Bool.false_and]

theorem one_in {b : UInt8} : Lib.contains sgs [b] = sg (b.toNat : Int) := by
  cases h : sg (b.toNat : Int)
  · exact not_in h
  · have hb : b = 59 ∨ b = 58 ∨ b = 61 ∨ b = 63 ∨ b = 123 ∨ b = 125 ∨ b = 40 ∨ b = 41 ∨ b = 44 ∨ b = 46 ∨ b = 43 ∨ b = 60 := by
      simp only [sg, decide_eq_true_eq] at h
      simp only [← UInt8.toNat_inj]
      simp only [UInt8.reduceToNat]
      omega
    rcases hb with rfl | rfl | rfl | rfl | rfl | rfl | rfl | rfl | rfl | rfl | rfl | rfl <;> rfl


/-- A word. -/
theorem cls_word {t : List UInt8} (ht : t ≠ []) (h : sl ((t.headD 0).toNat : Int) = true) : cls t = if rsv t then 2 else if gnl t then 1 else 0 := by
  cases t with
  | nil => exact absurd rfl ht
  | cons b l =>
    simp only [List.headD_cons] at h
    have h1 : num (b :: l) = false := by
      unfold num
      have : dg ((b.toNat : Nat) : Int) = false := by
        simp only [sl, decide_eq_true_eq] at h
        simp only [dg, decide_eq_false_iff_not]; omega
      simp only [List.headD_cons, this, Bool.false_and]
    have h2 : Lib.contains sgs (b :: l) = false := not_in (by
      simp only [sl, decide_eq_true_eq] at h
      simp only [sg, decide_eq_false_iff_not]; omega)
    have h3 : ((b :: l) == [45, 62]) = false := by
      rw [beq_eq_false_iff_ne]
      intro e
      have : b = 45 := (List.cons.inj e).1
      subst this
      revert h; decide
    unfold cls
    rw [h1, h2, h3]
    cases hg : gnl (b :: l)
    · cases hr : rsv (b :: l) <;> rfl
    · have : rsv (b :: l) = false := by
        unfold gnl at hg
        simp only [Bool.and_eq_true] at hg
        simpa using hg.2.2.2
      rw [this]; rfl

theorem rsv_head {b : UInt8} {l : List UInt8} (h : rsv (b :: l) = true) : sl (b.toNat : Int) = true := by
  unfold rsv at h
  simp only [Bool.or_eq_true, beq_iff_eq, List.cons.injEq] at h
  rcases h with ((((((((((h | h) | h) | h) | h) | h) | h) | h) | h) | h) | h) <;> (rw [h.1]; decide)

theorem not_word {b : UInt8} {l : List UInt8} (h : sl (b.toNat : Int) = false) : gnl (b :: l) = false ∧ rsv (b :: l) = false := by
  constructor
  · unfold gnl
    simp only [List.headD_cons, h, Bool.false_and, Bool.and_false]
  · cases hr : rsv (b :: l)
    · rfl
    · rw [rsv_head hr] at h; cases h

/-- A number. -/
theorem cls_num {t : List UInt8} (ht : t ≠ []) (h : dg ((t.headD 0).toNat : Int) = true) : cls t = if 9 < t.length ∨ ((t.headD 0).toNat : Int) = 48 ∧ 1 < t.length then 0 else 3 := by
  cases t with
  | nil => exact absurd rfl ht
  | cons b l =>
    simp only [List.headD_cons] at h
    have hs : sl (b.toNat : Int) = false := by
      simp only [dg, decide_eq_true_eq] at h
      simp only [sl, decide_eq_false_iff_not]; omega
    obtain ⟨h0, h1⟩ := not_word (l := l) hs
    have h2 : Lib.contains sgs (b :: l) = false := not_in (by
      simp only [dg, decide_eq_true_eq] at h
      simp only [sg, decide_eq_false_iff_not]; omega)
    have h3 : ((b :: l) == [45, 62]) = false := by
      rw [beq_eq_false_iff_ne]
      intro e
      have : b = 45 := (List.cons.inj e).1
      subst this
      revert h; decide
    unfold cls
    rw [h0, h1, h2, h3]
    unfold num
    by_cases q : 9 < (b :: l).length ∨ (((b :: l).headD 0).toNat : Int) = 48 ∧ 1 < (b :: l).length
    · rw [if_pos q, decide_eq_true q, Bool.not_true, Bool.and_false]; rfl
    · rw [if_neg q, decide_eq_false q, Bool.not_false, Bool.and_true]
      have : dg ((((b :: l).headD 0).toNat : Nat) : Int) = true := h
      rw [this]; rfl

theorem cls_arrow : cls [45, 62] = 4 := by decide

/-- A byte of its own. -/
theorem cls_one {b : UInt8} (h1 : sl (b.toNat : Int) = false) (h2 : dg (b.toNat : Int) = false) : cls [b] = if sg (b.toNat : Int) then 4 else 0 := by
  obtain ⟨a1, a2⟩ := not_word (l := []) h1
  have h3 : num [b] = false := by unfold num; simp only [List.headD_cons, h2, Bool.false_and]
  have h4 : ([b] == [(45 : UInt8), 62]) = false := by rw [beq_eq_false_iff_ne]; simp
  unfold cls
  rw [a1, a2, h3, h4, one_in, Bool.false_or]
  rfl

end Go.Proofs.YtdjkgilohhjfoaaGreatDoor

