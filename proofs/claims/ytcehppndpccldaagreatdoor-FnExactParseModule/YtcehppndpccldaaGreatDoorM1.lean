/-
  Merged for the claim: Pure Scan PaA.
-/
import Derived.WalkKit
import Derived.Lib.IndexMore
namespace Go.Proofs.YtcehppndpccldaaGreatDoor

/-- A small letter. -/
def sl (c : Int) : Bool := decide (97 ≤ c ∧ c ≤ 122)
/-- A letter, digit or underscore. -/
def wb (c : Int) : Bool := decide ((97 ≤ c ∧ c ≤ 122) ∨ (48 ≤ c ∧ c ≤ 57) ∨ c = 95)
/-- One of the eleven words. -/
def rsv (l : List UInt8) : Bool :=
  l == [105, 109, 112, 111, 114, 116] || l == [116, 121, 112, 101] || l == [118, 97, 108] || l == [102, 117, 110] || l == [105, 102] ||
  l == [116, 104, 101, 110] || l == [101, 108, 115, 101] || l == [105, 110, 116] || l == [98, 111, 111, 108] || l == [116, 114, 117, 101] || l == [102, 97, 108, 115, 101]
/-- A good name. -/
def gnl (l : List UInt8) : Bool :=
  decide (1 ≤ l.length ∧ l.length ≤ 12) && (sl ((l.headD 0).toNat : Int) && (l.all (fun b => wb (b.toNat : Int)) && !rsv l))
def gn (s : ByteArray) : Bool := gnl s.data.toList

theorem wb_of_sl {c : Int} (h : sl c = true) : wb c = true := by
  simp only [sl, wb, decide_eq_true_eq] at *; exact Or.inl h

theorem gn_short {s : ByteArray} (h : s.size < 1 ∨ 12 < s.size) : gn s = false := by
  have : s.data.toList.length = s.size := rfl
  have h2 : ¬ (1 ≤ s.data.toList.length ∧ s.data.toList.length ≤ 12) := by omega
  simp only [gn, gnl, decide_eq_false h2, Bool.false_and]

theorem head_at (s : ByteArray) (h : 0 < s.size) : s.data.toList.headD 0 = s[0] := by
  have h' : 0 < s.data.toList.length := h
  cases e : s.data.toList with
  | nil => rw [e] at h'; simp at h'
  | cons a t =>
    have : s[0] = s.data.toList[0]'h' := rfl
    rw [this]; simp [e]

theorem gn_head {s : ByteArray} (h : 0 < s.size) (hs : sl (s[0].toNat : Int) = false) : gn s = false := by
  simp only [gn, gnl, head_at s h, hs, Bool.false_and, Bool.and_false]

theorem gn_byte {s : ByteArray} (k : Nat) (h : k < s.size) (hs : wb (s[k].toNat : Int) = false) : gn s = false := by
  have hm : s[k] ∈ s.data.toList := by
    have : s[k] = s.data.toList[k]'h := rfl
    rw [this]; exact List.getElem_mem _
  have : s.data.toList.all (fun b => wb (b.toNat : Int)) = false := by
    rw [List.all_eq_false]; exact ⟨_, hm, by simp [hs]⟩
  simp only [gn, gnl, this, Bool.false_and, Bool.and_false]

theorem gn_end {s : ByteArray} (h1 : 1 ≤ s.size) (h2 : s.size ≤ 12) (h0 : sl ((s[0]'(by omega)).toNat : Int) = true)
    (ha : ∀ j (h : j < s.size), wb (s[j].toNat : Int) = true) : gn s = !rsv s.toList := by
  have hl : s.data.toList.length = s.size := rfl
  have hall : s.data.toList.all (fun b => wb (b.toNat : Int)) = true := by
    rw [List.all_eq_true]; intro b hb
    obtain ⟨j, hj, rfl⟩ := List.getElem_of_mem hb
    exact ha j (by omega)
  have hd : decide (1 ≤ s.data.toList.length ∧ s.data.toList.length ≤ 12) = true := by simp only [decide_eq_true_eq]; omega
  simp only [gn, gnl, hd, head_at s (by omega), h0, hall, Bool.true_and, ByteArray.toList_eq]

/-- The order of texts. -/
def lt (a b : ByteArray) : Bool := Op.bytesLess a.toList b.toList

theorem bl_append (p x y : List UInt8) : Op.bytesLess (p ++ x) (p ++ y) = Op.bytesLess x y := by
  induction p with
  | nil => rfl
  | cons c p ih =>
    have : ¬ c < c := by intro h; exact absurd h (by simp)
    simp [Op.bytesLess, ih]

theorem split_at (a : ByteArray) (k : Nat) : a.toList = a.data.toList.take k ++ a.data.toList.drop k := by
  rw [ByteArray.toList_eq, List.take_append_drop]

theorem take_eq {a b : ByteArray} {k : Nat} (ha : k ≤ a.size) (hb : k ≤ b.size) (h : ∀ j (h1 : j < a.size) (h2 : j < b.size), j < k → a[j] = b[j]) :
    a.data.toList.take k = b.data.toList.take k := by
  have la : a.data.toList.length = a.size := rfl
  have lb : b.data.toList.length = b.size := rfl
  apply List.ext_getElem
  · simp only [List.length_take]; omega
  · intro j h1 h2
    simp only [List.length_take] at h1 h2
    rw [List.getElem_take, List.getElem_take]
    exact h j (by omega) (by omega) (by omega)

theorem lt_at {a b : ByteArray} {k : Nat} (ha : k < a.size) (hb : k < b.size) (h : ∀ j (h1 : j < a.size) (h2 : j < b.size), j < k → a[j] = b[j]) (hne : a[k] ≠ b[k]) :
    lt a b = decide ((a[k].toNat : Int) < (b[k].toNat : Int)) := by
  have la : a.data.toList.length = a.size := rfl
  have lb : b.data.toList.length = b.size := rfl
  have ea : a.data.toList[k]'(by omega) = a[k] := rfl
  have eb : b.data.toList[k]'(by omega) = b[k] := rfl
  unfold lt
  rw [split_at a k, split_at b k, take_eq (by omega) (by omega) h, bl_append, List.drop_eq_getElem_cons (by omega), List.drop_eq_getElem_cons (l := b.data.toList) (by omega), ea, eb]
  have hne' : (a[k] == b[k]) = false := by simpa using hne
  rw [Op.bytesLess, hne', Bool.false_and, Bool.or_false]
  rw [decide_eq_decide, UInt8.lt_iff_toNat_lt]; omega

theorem lt_end {a b : ByteArray} {k : Nat} (ha : k ≤ a.size) (hb : k ≤ b.size) (h : ∀ j (h1 : j < a.size) (h2 : j < b.size), j < k → a[j] = b[j]) (he : k = a.size ∨ k = b.size) :
    lt a b = decide ((a.size : Int) < (b.size : Int)) := by
  have la : a.data.toList.length = a.size := rfl
  have lb : b.data.toList.length = b.size := rfl
  unfold lt
  rw [split_at a k, split_at b k, take_eq (by omega) (by omega) h, bl_append]
  by_cases h1 : k = a.size
  · rw [List.drop_of_length_le (l := a.data.toList) (by omega)]
    by_cases h2 : k = b.size
    · rw [List.drop_of_length_le (l := b.data.toList) (by omega), decide_eq_false (by omega)]; rfl
    · rw [List.drop_eq_getElem_cons (l := b.data.toList) (by omega), decide_eq_true (by omega)]; rfl
  · have h2 : k = b.size := by omega
    rw [List.drop_of_length_le (l := b.data.toList) (by omega), List.drop_eq_getElem_cons (l := a.data.toList) (by omega), decide_eq_false (by omega)]; rfl

/-- Every number below n passes. -/
def allTo (n : Nat) (p : Nat → Bool) : Bool := (List.range n).all p
theorem allTo_true {n : Nat} {p : Nat → Bool} (h : ∀ j, j < n → p j = true) : allTo n p = true := by
  unfold allTo; rw [List.all_eq_true]; intro j hj; exact h j (List.mem_range.1 hj)
theorem allTo_false {n : Nat} {p : Nat → Bool} (k : Nat) (hk : k < n) (h : p k = false) : allTo n p = false := by
  unfold allTo; rw [List.all_eq_false]; exact ⟨k, List.mem_range.2 hk, by simp [h]⟩

/-- The names of a record: good, each less than the next. -/
def gio (n : Nat) (S : Nat → ByteArray) : Bool := allTo n fun i => gn (S i) && (decide (i = 0) || lt (S (i - 1)) (S i))
/-- The kids are numbers of nodes. -/
def kok (n : Nat) (D : Nat → Int) (N : Int) : Bool := allTo n fun i => decide (0 ≤ D i ∧ D i < N)

/-- What a node holds. -/
structure ND where
  kind : Int
  nn : Nat
  nm : Nat → ByteArray
  nk : Nat
  kd : Nat → Int

/-- The shape of a node. -/
def shp (d : ND) : Bool :=
  if d.kind = 4 then decide (d.nn = 0 ∧ d.nk = 2) else
  if d.kind = 3 then decide (d.nn = d.nk) && gio d.nn d.nm else
  if d.kind = 0 ∨ d.kind = 1 ∨ d.kind = 2 then decide (d.nn = 0 ∧ d.nk = 0) else false
def nok (d : ND) (N : Int) : Bool := shp d && kok d.nk d.kd N
/-- A graph is valid. -/
def vgr (N : Nat) (G : Nat → ND) : Bool := decide (N ≤ 4000) && allTo N fun i => nok (G i) N

end Go.Proofs.YtcehppndpccldaaGreatDoor

namespace Go.Proofs.YtcehppndpccldaaGreatDoor

/-- A digit. -/
def dg (c : Int) : Bool := decide (48 ≤ c ∧ c ≤ 57)
/-- Any byte but the newline. -/
def nn (c : Int) : Bool := decide (c ≠ 10)
/-- The byte at a place, -1 behind the end. -/
def bt (s : ByteArray) (i : Nat) : Int := if h : i < s.size then (s[i].toNat : Int) else -1
theorem bt_in {s : ByteArray} {i : Nat} (h : i < s.size) : bt s i = (s[i].toNat : Int) := dif_pos h
theorem bt_out {s : ByteArray} {i : Nat} (h : ¬ i < s.size) : bt s i = -1 := dif_neg h

/-- How many bytes from a place on pass. -/
def run (p : Int → Bool) (s : ByteArray) (i : Nat) : Nat := if i < s.size then (if p (bt s i) then run p s (i + 1) + 1 else 0) else 0
termination_by s.size - i

theorem run_step {p : Int → Bool} {s : ByteArray} {i : Nat} (h : i < s.size) (hp : p (bt s i) = true) : run p s i = run p s (i + 1) + 1 := by
  rw [run, if_pos h, if_pos hp]
theorem run_stop {p : Int → Bool} {s : ByteArray} {i : Nat} (h : i < s.size) (hp : p (bt s i) = false) : run p s i = 0 := by
  rw [run, if_pos h, hp]; rfl
theorem run_end {p : Int → Bool} {s : ByteArray} {i : Nat} (h : ¬ i < s.size) : run p s i = 0 := by
  rw [run, if_neg h]
theorem run_le {p : Int → Bool} {s : ByteArray} {i : Nat} (h : i ≤ s.size) : i + run p s i ≤ s.size := by
  by_cases hi : i < s.size
  · cases hp : p (bt s i)
    · rw [run_stop hi hp]; omega
    · rw [run_step hi hp]
      have := run_le (p := p) (s := s) (i := i + 1) (by omega)
      omega
  · rw [run_end hi]; omega
termination_by s.size - i

/-- How long the piece at a place is. -/
def plen (s : ByteArray) (i : Nat) : Nat :=
  if bt s i = 32 ∨ bt s i = 10 then 1 else
  if bt s i = 35 then 1 + run nn s (i + 1) else
  if sl (bt s i) then 1 + run wb s (i + 1) else
  if dg (bt s i) then 1 + run dg s (i + 1) else
  if bt s i = 45 ∧ bt s (i + 1) = 62 then 2 else 1
/-- The piece at a place is no token. -/
def blk (s : ByteArray) (i : Nat) : Bool := decide (bt s i = 32 ∨ bt s i = 10 ∨ bt s i = 35)

theorem plen_pos (s : ByteArray) (i : Nat) : 1 ≤ plen s i := by
  unfold plen
  repeat' split
  all_goals omega
theorem plen_le {s : ByteArray} {i : Nat} (h : i < s.size) : i + plen s i ≤ s.size := by
  unfold plen
  have h1 := run_le (p := nn) (s := s) (i := i + 1) (by omega)
  have h2 := run_le (p := wb) (s := s) (i := i + 1) (by omega)
  have h3 := run_le (p := dg) (s := s) (i := i + 1) (by omega)
  split
  · omega
  split
  · omega
  split
  · omega
  split
  · omega
  split
  · rename_i h4
    have : i + 1 < s.size := by
      by_cases q : i + 1 < s.size
      · exact q
      · have := h4.2; rw [bt_out q] at this; omega
    omega
  · omega

/-- The signs of one byte. -/
def sgs : List UInt8 := [59, 58, 61, 63, 123, 125, 40, 41, 44, 46, 43, 60]
def sg (c : Int) : Bool := decide (c = 59 ∨ c = 58 ∨ c = 61 ∨ c = 63 ∨ c = 123 ∨ c = 125 ∨ c = 40 ∨ c = 41 ∨ c = 44 ∨ c = 46 ∨ c = 43 ∨ c = 60)
/-- A number that fits. -/
def num (t : List UInt8) : Bool := dg ((t.headD 0).toNat : Int) && !decide (9 < t.length ∨ ((t.headD 0).toNat : Int) = 48 ∧ 1 < t.length)
/-- The class of a token. -/
def cls (t : List UInt8) : Int := if gnl t then 1 else if rsv t then 2 else if num t then 3 else if t == [45, 62] || Lib.contains sgs t then 4 else 0

/-- A token. -/
structure TK where
  cls : Int
  txt : ByteArray
  loc : Nat

/-- The text of the piece at a place. -/
def ptx (s : ByteArray) (i : Nat) : ByteArray := s.extract i (i + plen s i)
/-- All tokens from a place on. -/
def tks (s : ByteArray) (i : Nat) : List TK :=
  if i < s.size then (if blk s i then tks s (i + plen s i) else ⟨cls (ptx s i).toList, ptx s i, i⟩ :: tks s (i + plen s i)) else []
termination_by s.size - i
decreasing_by all_goals (have := plen_pos s i; omega)

theorem tks_blk {s : ByteArray} {i : Nat} (h : i < s.size) (hb : blk s i = true) : tks s i = tks s (i + plen s i) := by
  rw [tks, if_pos h, if_pos hb]
theorem tks_tok {s : ByteArray} {i : Nat} (h : i < s.size) (hb : blk s i = false) : tks s i = ⟨cls (ptx s i).toList, ptx s i, i⟩ :: tks s (i + plen s i) := by
  rw [tks, if_pos h, hb]; rfl
theorem tks_end {s : ByteArray} {i : Nat} (h : ¬ i < s.size) : tks s i = [] := by
  rw [tks, if_neg h]

/-- The tokens of a text. -/
def toks (s : ByteArray) : List TK := if s.size ≤ 1000 then tks s 0 else []

/- What the classes are. -/

theorem ptx_size {s : ByteArray} {i : Nat} (h : i < s.size) : (ptx s i).size = plen s i := by
  unfold ptx; rw [ByteArray.size_extract]; have := plen_le h; omega
theorem ptx_head {s : ByteArray} {i : Nat} (h : i < s.size) : ((((ptx s i).toList.headD 0).toNat : Nat) : Int) = bt s i := by
  have hs := ptx_size h
  have hp := plen_pos s i
  rw [ByteArray.toList_eq, head_at _ (by omega), bt_in h]
  unfold ptx
  rw [ByteArray.getElem_extract]
  simp

theorem not_in {b : UInt8} {l : List UInt8} (h : sg (b.toNat : Int) = false) : Lib.contains sgs (b :: l) = false := by
  have hb : ∀ c ∈ sgs, (b == c) = false := fun c hc => by
    rw [beq_eq_false_iff_ne]
    intro e; subst e
    revert h; revert hc
    simp only [sgs, List.mem_cons, List.not_mem_nil, or_false]
    rintro (rfl | rfl | rfl | rfl | rfl | rfl | rfl | rfl | rfl | rfl | rfl | rfl) <;> decide
  unfold Lib.contains
  rw [Lib.index_none]
  · rfl
  · intro j hj
    unfold Lib.occAt
    cases hd : sgs.drop j with
    | nil => rfl
    | cons c l' =>
      have : c ∈ sgs := List.mem_of_mem_drop (i := j) (by rw [hd]; exact List.mem_cons_self)
      rw [List.isPrefixOf_cons_cons, hb c this, Bool.false_and]

theorem one_in {b : UInt8} : Lib.contains sgs [b] = sg (b.toNat : Int) := by
  cases h : sg (b.toNat : Int)
  · exact not_in h
  · have hb : b = 59 ∨ b = 58 ∨ b = 61 ∨ b = 63 ∨ b = 123 ∨ b = 125 ∨ b = 40 ∨ b = 41 ∨ b = 44 ∨ b = 46 ∨ b = 43 ∨ b = 60 := by
      simp only [sg, decide_eq_true_eq] at h
      simp only [← UInt8.toNat_inj]
      simp only [UInt8.reduceToNat]
      omega
    rcases hb with rfl | rfl | rfl | rfl | rfl | rfl | rfl | rfl | rfl | rfl | rfl | rfl <;> rfl


/-- A word. -/
theorem cls_word {t : List UInt8} (ht : t ≠ []) (h : sl ((t.headD 0).toNat : Int) = true) : cls t = if rsv t then 2 else if gnl t then 1 else 0 := by
  cases t with
  | nil => exact absurd rfl ht
  | cons b l =>
    simp only [List.headD_cons] at h
    have h1 : num (b :: l) = false := by
      unfold num
      have : dg ((b.toNat : Nat) : Int) = false := by
        simp only [sl, decide_eq_true_eq] at h
        simp only [dg, decide_eq_false_iff_not]; omega
      simp only [List.headD_cons, this, Bool.false_and]
    have h2 : Lib.contains sgs (b :: l) = false := not_in (by
      simp only [sl, decide_eq_true_eq] at h
      simp only [sg, decide_eq_false_iff_not]; omega)
    have h3 : ((b :: l) == [45, 62]) = false := by
      rw [beq_eq_false_iff_ne]
      intro e
      have : b = 45 := (List.cons.inj e).1
      subst this
      revert h; decide
    unfold cls
    rw [h1, h2, h3]
    cases hg : gnl (b :: l)
    · cases hr : rsv (b :: l) <;> rfl
    · have : rsv (b :: l) = false := by
        unfold gnl at hg
        simp only [Bool.and_eq_true] at hg
        simpa using hg.2.2.2
      rw [this]; rfl

theorem rsv_head {b : UInt8} {l : List UInt8} (h : rsv (b :: l) = true) : sl (b.toNat : Int) = true := by
  unfold rsv at h
  simp only [Bool.or_eq_true, beq_iff_eq, List.cons.injEq] at h
  rcases h with ((((((((((h | h) | h) | h) | h) | h) | h) | h) | h) | h) | h) <;> (rw [h.1]; decide)

theorem not_word {b : UInt8} {l : List UInt8} (h : sl (b.toNat : Int) = false) : gnl (b :: l) = false ∧ rsv (b :: l) = false := by
  constructor
  · unfold gnl
    simp only [List.headD_cons, h, Bool.false_and, Bool.and_false]
  · cases hr : rsv (b :: l)
    · rfl
    · rw [rsv_head hr] at h; cases h

/-- A number. -/
theorem cls_num {t : List UInt8} (ht : t ≠ []) (h : dg ((t.headD 0).toNat : Int) = true) : cls t = if 9 < t.length ∨ ((t.headD 0).toNat : Int) = 48 ∧ 1 < t.length then 0 else 3 := by
  cases t with
  | nil => exact absurd rfl ht
  | cons b l =>
    simp only [List.headD_cons] at h
    have hs : sl (b.toNat : Int) = false := by
      simp only [dg, decide_eq_true_eq] at h
      simp only [sl, decide_eq_false_iff_not]; omega
    obtain ⟨h0, h1⟩ := not_word (l := l) hs
    have h2 : Lib.contains sgs (b :: l) = false := not_in (by
      simp only [dg, decide_eq_true_eq] at h
      simp only [sg, decide_eq_false_iff_not]; omega)
    have h3 : ((b :: l) == [45, 62]) = false := by
      rw [beq_eq_false_iff_ne]
      intro e
      have : b = 45 := (List.cons.inj e).1
      subst this
      revert h; decide
    unfold cls
    rw [h0, h1, h2, h3]
    unfold num
    by_cases q : 9 < (b :: l).length ∨ (((b :: l).headD 0).toNat : Int) = 48 ∧ 1 < (b :: l).length
    · rw [if_pos q, decide_eq_true q, Bool.not_true, Bool.and_false]; rfl
    · rw [if_neg q, decide_eq_false q, Bool.not_false, Bool.and_true]
      have : dg ((((b :: l).headD 0).toNat : Nat) : Int) = true := h
      rw [this]; rfl

theorem cls_arrow : cls [45, 62] = 4 := by decide

/-- A byte of its own. -/
theorem cls_one {b : UInt8} (h1 : sl (b.toNat : Int) = false) (h2 : dg (b.toNat : Int) = false) : cls [b] = if sg (b.toNat : Int) then 4 else 0 := by
  obtain ⟨a1, a2⟩ := not_word (l := []) h1
  have h3 : num [b] = false := by unfold num; simp only [List.headD_cons, h2, Bool.false_and]
  have h4 : ([b] == [(45 : UInt8), 62]) = false := by rw [beq_eq_false_iff_ne]; simp
  unfold cls
  rw [a1, a2, h3, h4, one_in, Bool.false_or]
  rfl

end Go.Proofs.YtcehppndpccldaaGreatDoor

namespace Go.Proofs.YtcehppndpccldaaGreatDoor

structure TI where
  op : Int
  md : ByteArray
  nm : ByteArray
  ns : List ByteArray
structure EI where
  op : Int
  num : Int
  md : ByteArray
  nm : ByteArray
  ns : List ByteArray
  ty : List TI
structure DC where
  kind : Int
  nm : ByteArray
  ty : List TI
  ex : List EI

def e0 : ByteArray := ByteArray.empty
def tyO (op : Int) : TI := ⟨op, e0, e0, []⟩
def exO (op : Int) : EI := ⟨op, 0, e0, e0, [], []⟩
def dBad : DC := ⟨0, e0, [], []⟩

/-- The text of a token. -/
def tx (ts : List TK) (i : Nat) : ByteArray := ((ts[i]?).map TK.txt).getD e0
/-- The token at a place has this text. -/
def isT (ts : List TK) (i : Nat) (s : List UInt8) : Bool := match ts[i]? with
  | some t => t.txt.data.toList == s
  | none => false
/-- The token at a place has this class. -/
def isC (ts : List TK) (i : Nat) (c : Int) : Bool := match ts[i]? with
  | some t => t.cls == c
  | none => false

theorem isT_lt {ts : List TK} {i : Nat} {s : List UInt8} (h : isT ts i s = true) : i < ts.length := by
  unfold isT at h
  by_cases hi : i < ts.length
  · exact hi
  · rw [List.getElem?_eq_none (by omega)] at h; cases h
theorem isC_lt {ts : List TK} {i : Nat} {c : Int} (h : isC ts i c = true) : i < ts.length := by
  unfold isC at h
  by_cases hi : i < ts.length
  · exact hi
  · rw [List.getElem?_eq_none (by omega)] at h; cases h
/-- One text at one place. -/
theorem isT_one {ts : List TK} {i : Nat} {s s' : List UInt8} (h : isT ts i s = true) (hne : s ≠ s') : isT ts i s' = false := by
  unfold isT at h ⊢
  cases e : ts[i]? with
  | none => rfl
  | some t =>
    rw [e] at h
    have h1 : t.txt.data.toList = s := by simpa using h
    show (t.txt.data.toList == s') = false
    rw [h1]; exact beq_eq_false_iff_ne.2 hne

def sInt : List UInt8 := [105, 110, 116]
def sBool : List UInt8 := [98, 111, 111, 108]
def sAny : List UInt8 := [63]
def sOpen : List UInt8 := [123]
def sShut : List UInt8 := [125]
def sLeft : List UInt8 := [40]
def sRight : List UInt8 := [41]
def sColon : List UInt8 := [58]
def sEq : List UInt8 := [61]
def sComma : List UInt8 := [44]
def sDot : List UInt8 := [46]
def sPlus : List UInt8 := [43]
def sLess : List UInt8 := [60]
def sArrow : List UInt8 := [45, 62]
def sSemi : List UInt8 := [59]
def sTrue : List UInt8 := [116, 114, 117, 101]
def sFalse : List UInt8 := [102, 97, 108, 115, 101]
def sFun : List UInt8 := [102, 117, 110]
def sIf : List UInt8 := [105, 102]
def sThen : List UInt8 := [116, 104, 101, 110]
def sElse : List UInt8 := [101, 108, 115, 101]
def sImport : List UInt8 := [105, 109, 112, 111, 114, 116]
def sType : List UInt8 := [116, 121, 112, 101]
def sVal : List UInt8 := [118, 97, 108]

/-- A name among the names. -/
def hasN (ns : List ByteArray) (s : ByteArray) : Bool := ns.any fun x => x.data.toList == s.data.toList

/-- Behind a name: the module's name, the name, the place. -/
def pathP (st : Bool) (ts : List TK) (i : Nat) : Option (ByteArray × ByteArray × Nat) :=
  if isT ts (i + 1) sColon then
    if isC ts (i + 2) 1 then some (tx ts i, tx ts (i + 2), i + 3)
    else if st then none else some (e0, tx ts i, i + 1)
  else some (e0, tx ts i, i + 1)

/-- The fields from a name on. -/
def floop {α : Type} (ts : List TK) (T : Nat → Option (List α × Nat)) (sg : List UInt8) : Nat → Nat → List ByteArray → List α → Option (List α × List ByteArray × Nat)
  | 0, _, _, _ => none
  | f + 1, j, ns, its =>
    if isC ts j 1 then
      if hasN ns (tx ts j) then none else
      if isT ts (j + 1) sg then
        match T (j + 2) with
        | none => none
        | some (l, k) =>
          if isT ts k sShut then some (its ++ l, ns ++ [tx ts j], k + 1)
          else if isT ts k sComma then floop ts T sg f (k + 1) (ns ++ [tx ts j]) (its ++ l) else none
      else none
    else none
/-- The fields behind the brace. -/
def fldsP {α : Type} (ts : List TK) (T : Nat → Option (List α × Nat)) (sg : List UInt8) (j : Nat) : Option (List α × List ByteArray × Nat) :=
  if isT ts j sShut then some ([], [], j + 1) else floop ts T sg (ts.length + 1) j [] []

/-- A part in brackets. -/
def brkP {α : Type} (ts : List TK) (T : Nat → Option (List α × Nat)) (i : Nat) : Option (List α × Nat) :=
  match T i with
  | none => none
  | some (l, j) => if isT ts j sRight then some (l, j + 1) else none

def baseP (st : Bool) (ts : List TK) (T : Nat → Option (List TI × Nat)) (i : Nat) : Option (List TI × Nat) :=
  if isC ts i 1 then
    match pathP st ts i with
    | none => none
    | some (m, n, j) => some ([⟨4, m, n, []⟩], j)
  else if isT ts i sInt then some ([tyO 1], i + 1)
  else if isT ts i sBool then some ([tyO 2], i + 1)
  else if isT ts i sAny then some ([tyO 3], i + 1)
  else if isT ts i sOpen then
    match fldsP ts T sColon (i + 1) with
    | none => none
    | some (its, ns, j) => some (its ++ [⟨5, e0, e0, ns⟩], j)
  else if isT ts i sLeft then brkP ts T (i + 1)
  else none

def tyP (st : Bool) (ts : List TK) : Nat → Nat → Option (List TI × Nat)
  | 0, _ => none
  | f + 1, i =>
    match baseP st ts (tyP st ts f) i with
    | none => none
    | some (l, j) =>
      if isT ts j sArrow then
        match tyP st ts f (j + 1) with
        | none => none
        | some (r, k) => some (l ++ r ++ [tyO 6], k)
      else some (l, j)

/-- The number that digits write. -/
def valN (s : List UInt8) : Int := s.foldl (fun n c => n * 10 + ((c.toNat : Int) - 48)) 0

def atomP (st : Bool) (ts : List TK) (E : Nat → Option (List EI × Nat)) (i : Nat) : Option (List EI × Nat) :=
  if isC ts i 1 then
    match pathP st ts i with
    | none => none
    | some (m, n, j) => some ([⟨3, 0, m, n, [], []⟩], j)
  else if isC ts i 3 then some ([⟨1, valN (tx ts i).data.toList, e0, e0, [], []⟩], i + 1)
  else if isT ts i sTrue then some ([⟨2, 1, e0, e0, [], []⟩], i + 1)
  else if isT ts i sFalse then some ([exO 2], i + 1)
  else if isT ts i sOpen then
    match fldsP ts E sEq (i + 1) with
    | none => none
    | some (its, ns, j) => some (its ++ [⟨4, 0, e0, e0, ns, []⟩], j)
  else if isT ts i sLeft then brkP ts E (i + 1)
  else none

def postL (ts : List TK) (E : Nat → Option (List EI × Nat)) : Nat → List EI → Nat → Option (List EI × Nat)
  | 0, _, _ => none
  | f + 1, its, j =>
    if isT ts j sDot then
      if isC ts (j + 1) 1 then postL ts E f (its ++ [⟨5, 0, e0, tx ts (j + 1), [], []⟩]) (j + 2) else none
    else if isT ts j sLeft then
      match brkP ts E (j + 1) with
      | none => none
      | some (l, k) => postL ts E f (its ++ l ++ [exO 7]) k
    else some (its, j)

def postP (st : Bool) (ts : List TK) (E : Nat → Option (List EI × Nat)) (i : Nat) : Option (List EI × Nat) :=
  match atomP st ts E i with
  | none => none
  | some (l, j) => postL ts E (ts.length + 1) l j

def sumL (st : Bool) (ts : List TK) (E : Nat → Option (List EI × Nat)) : Nat → List EI → Nat → Option (List EI × Nat)
  | 0, _, _ => none
  | f + 1, its, j =>
    if isT ts j sPlus then
      match postP st ts E (j + 1) with
      | none => none
      | some (l, k) => sumL st ts E f (its ++ l ++ [exO 9]) k
    else some (its, j)

def sumP (st : Bool) (ts : List TK) (E : Nat → Option (List EI × Nat)) (i : Nat) : Option (List EI × Nat) :=
  match postP st ts E i with
  | none => none
  | some (l, j) => sumL st ts E (ts.length + 1) l j

/-- Behind 'fun'. -/
def funP (st : Bool) (ts : List TK) (E : Nat → Option (List EI × Nat)) (i : Nat) : Option (List EI × Nat) :=
  if isT ts i sLeft && isC ts (i + 1) 1 && isT ts (i + 2) sColon then
    match tyP st ts (ts.length + 1) (i + 3) with
    | none => none
    | some (t, j) =>
      if isT ts j sRight then
        match E (j + 1) with
        | none => none
        | some (b, k) => some (b ++ [⟨6, 0, e0, tx ts (i + 1), [], t⟩], k)
      else none
  else none

/-- Behind 'if'. -/
def ifP (ts : List TK) (E : Nat → Option (List EI × Nat)) (i : Nat) : Option (List EI × Nat) :=
  match E i with
  | none => none
  | some (c, j) =>
    if isT ts j sThen then
      match E (j + 1) with
      | none => none
      | some (a, k) =>
        if isT ts k sElse then
          match E (k + 1) with
          | none => none
          | some (b, l) => some (c ++ a ++ b ++ [exO 8], l)
        else none
    else none

/-- One sum, or one below another. -/
def lessP (st : Bool) (ts : List TK) (E : Nat → Option (List EI × Nat)) (i : Nat) : Option (List EI × Nat) :=
  match sumP st ts E i with
  | none => none
  | some (l, j) =>
    if isT ts j sLess then
      match sumP st ts E (j + 1) with
      | none => none
      | some (r, k) => some (l ++ r ++ [exO 10], k)
    else some (l, j)

def exP (st : Bool) (ts : List TK) : Nat → Nat → Option (List EI × Nat)
  | 0, _ => none
  | f + 1, i =>
    if isT ts i sFun then funP st ts (exP st ts f) (i + 1)
    else if isT ts i sIf then ifP ts (exP st ts f) (i + 1)
    else lessP st ts (exP st ts f) i

/-- The declaration that the tokens of a piece are. -/
def declP (st : Bool) (ts : List TK) : DC :=
  if isC ts 1 1 then
    if isT ts 0 sImport then (if ts.length = 2 then ⟨1, tx ts 1, [], []⟩ else dBad)
    else if isT ts 0 sType then
      if isT ts 2 sEq then
        match tyP st ts (ts.length + 1) 3 with
        | none => dBad
        | some (t, j) => if j = ts.length then ⟨2, tx ts 1, t, []⟩ else dBad
      else dBad
    else if isT ts 0 sVal then
      if isT ts 2 sColon then
        match tyP st ts (ts.length + 1) 3 with
        | none => dBad
        | some (t, j) =>
          if isT ts j sEq then
            match exP st ts (ts.length + 1) (j + 1) with
            | none => dBad
            | some (x, k) => if k = ts.length then ⟨3, tx ts 1, t, x⟩ else dBad
          else dBad
      else dBad
    else dBad
  else dBad

/-- The tokens up to the first end of a piece. -/
def semi (ts : List TK) : Option Nat := ts.findIdx? fun t => t.txt.data.toList == sSemi
/-- The declarations of the tokens. -/
def decs (st : Bool) : Nat → List TK → List DC
  | 0, _ => []
  | f + 1, ts =>
    if ts.isEmpty then [] else
    match semi ts with
    | none => [dBad]
    | some k => declP st (ts.take k) :: decs st f (ts.drop (k + 1))

/- The two readers agree: where the strict one gives up, the other has given up, or stands at a colon. -/

def Rel {α : Type} (ts : List TK) (r1 r2 : Option (α × Nat)) : Prop := r1 = r2 ∨ (r1 = none ∧ ∃ l a, r2 = some (l, a) ∧ isT ts a sColon = true)
theorem Rel.rfl' {α : Type} {ts : List TK} {r : Option (α × Nat)} : Rel ts r r := Or.inl rfl

theorem floop_rel {α : Type} {ts : List TK} {T1 T2 : Nat → Option (List α × Nat)} {sg : List UInt8} (h : ∀ i, Rel ts (T1 i) (T2 i)) : ∀ f j ns its, floop ts T1 sg f j ns its = floop ts T2 sg f j ns its
  | 0, _, _, _ => rfl
  | f + 1, j, ns, its => by
    rw [floop, floop]
    split
    · split
      · rfl
      · split
        · rcases h (j + 2) with e | ⟨e1, l, a, e2, hc⟩
          · rw [e]
            cases T2 (j + 2) with
            | none => rfl
            | some r =>
              obtain ⟨l, k⟩ := r
              show (if isT ts k sShut = true then _ else if isT ts k sComma = true then _ else _) = if isT ts k sShut = true then _ else if isT ts k sComma = true then _ else _
              rw [floop_rel h f]
          · rw [e1, e2]
            show none = if isT ts a sShut = true then _ else if isT ts a sComma = true then _ else none
            rw [isT_one hc (by decide), isT_one hc (by decide)]
            rfl
        · rfl
    · rfl

theorem flds_rel {α : Type} {ts : List TK} {T1 T2 : Nat → Option (List α × Nat)} {sg : List UInt8} (h : ∀ i, Rel ts (T1 i) (T2 i)) (j : Nat) : fldsP ts T1 sg j = fldsP ts T2 sg j := by
  unfold fldsP
  rw [floop_rel h]

theorem brk_rel {α : Type} {ts : List TK} {T1 T2 : Nat → Option (List α × Nat)} (h : ∀ i, Rel ts (T1 i) (T2 i)) (i : Nat) : brkP ts T1 i = brkP ts T2 i := by
  unfold brkP
  rcases h i with e | ⟨e1, l, a, e2, hc⟩
  · rw [e]
  · rw [e1, e2]
    show none = if isT ts a sRight = true then _ else none
    rw [isT_one hc (by decide)]
    rfl

theorem path_rel (ts : List TK) (i : Nat) : pathP true ts i = pathP false ts i ∨ (pathP true ts i = none ∧ pathP false ts i = some (e0, tx ts i, i + 1) ∧ isT ts (i + 1) sColon = true) := by
  unfold pathP
  by_cases h : isT ts (i + 1) sColon = true
  · rw [if_pos h, if_pos h]
    by_cases h2 : isC ts (i + 2) 1 = true
    · rw [if_pos h2, if_pos h2]; exact Or.inl rfl
    · rw [if_neg h2, if_neg h2]; exact Or.inr ⟨rfl, rfl, h⟩
  · rw [if_neg h, if_neg h]; exact Or.inl rfl

theorem base_rel {ts : List TK} {T1 T2 : Nat → Option (List TI × Nat)} (h : ∀ i, Rel ts (T1 i) (T2 i)) (i : Nat) : Rel ts (baseP true ts T1 i) (baseP false ts T2 i) := by
  unfold baseP
  rw [flds_rel h, brk_rel h]
  split
  · rcases path_rel ts i with e | ⟨e1, e2, hc⟩
    · rw [e]; exact Rel.rfl'
    · rw [e1, e2]; exact Or.inr ⟨rfl, _, _, rfl, hc⟩
  · exact Rel.rfl'

theorem ty_rel {ts : List TK} : ∀ f i, Rel ts (tyP true ts f i) (tyP false ts f i)
  | 0, _ => Rel.rfl'
  | f + 1, i => by
    rw [tyP, tyP]
    rcases base_rel (ty_rel f) i with e | ⟨e1, l, a, e2, hc⟩
    · rw [e]
      cases baseP false ts (tyP false ts f) i with
      | none => exact Rel.rfl'
      | some r =>
        obtain ⟨l, j⟩ := r
        show Rel ts (if isT ts j sArrow = true then _ else _) (if isT ts j sArrow = true then _ else _)
        split
        · rcases ty_rel f (j + 1) with e | ⟨e1, r, a, e2, hc⟩
          · rw [e]; exact Rel.rfl'
          · rw [e1, e2]; exact Or.inr ⟨rfl, _, _, rfl, hc⟩
        · exact Rel.rfl'
    · rw [e1, e2]
      show Rel ts none (if isT ts a sArrow = true then _ else some (l, a))
      rw [isT_one hc (by decide)]
      exact Or.inr ⟨rfl, l, a, rfl, hc⟩

theorem atom_rel {ts : List TK} {T1 T2 : Nat → Option (List EI × Nat)} (h : ∀ i, Rel ts (T1 i) (T2 i)) (i : Nat) : Rel ts (atomP true ts T1 i) (atomP false ts T2 i) := by
  unfold atomP
  rw [flds_rel h, brk_rel h]
  split
  · rcases path_rel ts i with e | ⟨e1, e2, hc⟩
    · rw [e]; exact Rel.rfl'
    · rw [e1, e2]; exact Or.inr ⟨rfl, _, _, rfl, hc⟩
  · exact Rel.rfl'

theorem postL_rel {ts : List TK} {T1 T2 : Nat → Option (List EI × Nat)} (h : ∀ i, Rel ts (T1 i) (T2 i)) : ∀ f its j, postL ts T1 f its j = postL ts T2 f its j
  | 0, _, _ => rfl
  | f + 1, its, j => by
    rw [postL, postL, brk_rel h]
    split
    · split
      · exact postL_rel h f _ _
      · rfl
    · split
      · cases brkP ts T2 (j + 1) with
        | none => rfl
        | some r => exact postL_rel h f _ _
      · rfl

theorem postL_colon {ts : List TK} {T : Nat → Option (List EI × Nat)} {f : Nat} {its : List EI} {a : Nat} (hc : isT ts a sColon = true) : postL ts T (f + 1) its a = some (its, a) := by
  rw [postL, isT_one hc (by decide), isT_one hc (by decide)]
  rfl
theorem sumL_colon {st : Bool} {ts : List TK} {T : Nat → Option (List EI × Nat)} {f : Nat} {its : List EI} {a : Nat} (hc : isT ts a sColon = true) : sumL st ts T (f + 1) its a = some (its, a) := by
  rw [sumL, isT_one hc (by decide)]
  rfl

theorem post_rel {ts : List TK} {T1 T2 : Nat → Option (List EI × Nat)} (h : ∀ i, Rel ts (T1 i) (T2 i)) (i : Nat) : Rel ts (postP true ts T1 i) (postP false ts T2 i) := by
  unfold postP
  rcases atom_rel h i with e | ⟨e1, l, a, e2, hc⟩
  · rw [e]
    cases atomP false ts T2 i with
    | none => exact Rel.rfl'
    | some r => exact Or.inl (postL_rel h _ _ _)
  · rw [e1, e2]
    exact Or.inr ⟨rfl, l, a, postL_colon hc, hc⟩

theorem sumL_rel {ts : List TK} {T1 T2 : Nat → Option (List EI × Nat)} (h : ∀ i, Rel ts (T1 i) (T2 i)) : ∀ f its j, Rel ts (sumL true ts T1 f its j) (sumL false ts T2 f its j)
  | 0, _, _ => Rel.rfl'
  | f + 1, its, j => by
    rw [sumL, sumL]
    split
    · rcases post_rel h (j + 1) with e | ⟨e1, l, a, e2, hc⟩
      · rw [e]
        cases e3 : postP false ts T2 (j + 1) with
        | none => exact Rel.rfl'
        | some r => exact sumL_rel h f _ _
      · rw [e1, e2]
        cases f with
        | zero => exact Rel.rfl'
        | succ f => exact Or.inr ⟨rfl, _, a, sumL_colon hc, hc⟩
    · exact Rel.rfl'

theorem sum_rel {ts : List TK} {T1 T2 : Nat → Option (List EI × Nat)} (h : ∀ i, Rel ts (T1 i) (T2 i)) (i : Nat) : Rel ts (sumP true ts T1 i) (sumP false ts T2 i) := by
  unfold sumP
  rcases post_rel h i with e | ⟨e1, l, a, e2, hc⟩
  · rw [e]
    cases postP false ts T2 i with
    | none => exact Rel.rfl'
    | some r => exact sumL_rel h _ _ _
  · rw [e1, e2]
    exact Or.inr ⟨rfl, l, a, sumL_colon hc, hc⟩

theorem fun_rel {ts : List TK} {T1 T2 : Nat → Option (List EI × Nat)} (h : ∀ i, Rel ts (T1 i) (T2 i)) (i : Nat) : Rel ts (funP true ts T1 i) (funP false ts T2 i) := by
  unfold funP
  split
  · rcases ty_rel (ts := ts) (ts.length + 1) (i + 3) with e | ⟨e1, l, a, e2, hc⟩
    · rw [e]
      cases tyP false ts (ts.length + 1) (i + 3) with
      | none => exact Rel.rfl'
      | some r =>
        obtain ⟨t, j⟩ := r
        show Rel ts (if isT ts j sRight = true then _ else none) (if isT ts j sRight = true then _ else none)
        split
        · rcases h (j + 1) with e | ⟨e1, l, a, e2, hc⟩
          · rw [e]; exact Rel.rfl'
          · rw [e1, e2]; exact Or.inr ⟨rfl, _, a, rfl, hc⟩
        · exact Rel.rfl'
    · rw [e1, e2]
      show Rel ts none (if isT ts a sRight = true then _ else none)
      rw [isT_one hc (by decide)]
      exact Rel.rfl'
  · exact Rel.rfl'

theorem if_rel {ts : List TK} {T1 T2 : Nat → Option (List EI × Nat)} (h : ∀ i, Rel ts (T1 i) (T2 i)) (i : Nat) : Rel ts (ifP ts T1 i) (ifP ts T2 i) := by
  unfold ifP
  rcases h i with e | ⟨e1, l, a, e2, hc⟩
  · rw [e]
    cases T2 i with
    | none => exact Rel.rfl'
    | some r =>
      obtain ⟨c, j⟩ := r
      show Rel ts (if isT ts j sThen = true then _ else none) (if isT ts j sThen = true then _ else none)
      split
      · rcases h (j + 1) with e | ⟨e1, l, a, e2, hc⟩
        · rw [e]
          cases T2 (j + 1) with
          | none => exact Rel.rfl'
          | some r =>
            obtain ⟨d, k⟩ := r
            show Rel ts (if isT ts k sElse = true then _ else none) (if isT ts k sElse = true then _ else none)
            split
            · rcases h (k + 1) with e | ⟨e1, l, a, e2, hc⟩
              · rw [e]; exact Rel.rfl'
              · rw [e1, e2]; exact Or.inr ⟨rfl, _, a, rfl, hc⟩
            · exact Rel.rfl'
        · rw [e1, e2]
          show Rel ts none (if isT ts a sElse = true then _ else none)
          rw [isT_one hc (by decide)]
          exact Rel.rfl'
      · exact Rel.rfl'
  · rw [e1, e2]
    show Rel ts none (if isT ts a sThen = true then _ else none)
    rw [isT_one hc (by decide)]
    exact Rel.rfl'

theorem less_rel {ts : List TK} {T1 T2 : Nat → Option (List EI × Nat)} (h : ∀ i, Rel ts (T1 i) (T2 i)) (i : Nat) : Rel ts (lessP true ts T1 i) (lessP false ts T2 i) := by
  unfold lessP
  rcases sum_rel h i with e | ⟨e1, l, a, e2, hc⟩
  · rw [e]
    cases sumP false ts T2 i with
    | none => exact Rel.rfl'
    | some r =>
      obtain ⟨l, j⟩ := r
      show Rel ts (if isT ts j sLess = true then _ else some (l, j)) (if isT ts j sLess = true then _ else some (l, j))
      split
      · rcases sum_rel h (j + 1) with e | ⟨e1, r, a, e2, hc⟩
        · rw [e]; exact Rel.rfl'
        · rw [e1, e2]; exact Or.inr ⟨rfl, _, a, rfl, hc⟩
      · exact Rel.rfl'
  · rw [e1, e2]
    show Rel ts none (if isT ts a sLess = true then _ else some (l, a))
    rw [isT_one hc (by decide)]
    exact Or.inr ⟨rfl, l, a, rfl, hc⟩

theorem ex_rel {ts : List TK} : ∀ f i, Rel ts (exP true ts f i) (exP false ts f i)
  | 0, _ => Rel.rfl'
  | f + 1, i => by
    rw [exP, exP]
    split
    · exact fun_rel (ex_rel f) _
    · split
      · exact if_rel (ex_rel f) _
      · exact less_rel (ex_rel f) _

theorem decl_same (ts : List TK) : declP true ts = declP false ts := by
  unfold declP
  split
  · split
    · rfl
    · split
      · split
        · rcases ty_rel (ts := ts) (ts.length + 1) 3 with e | ⟨e1, l, a, e2, hc⟩
          · rw [e]
          · rw [e1, e2]
            have := isT_lt hc
            show dBad = if a = ts.length then _ else dBad
            rw [if_neg (by omega)]
        · rfl
      · split
        · split
          · rcases ty_rel (ts := ts) (ts.length + 1) 3 with e | ⟨e1, l, a, e2, hc⟩
            · rw [e]
              cases tyP false ts (ts.length + 1) 3 with
              | none => rfl
              | some r =>
                obtain ⟨t, j⟩ := r
                show (if isT ts j sEq = true then _ else dBad) = if isT ts j sEq = true then _ else dBad
                split
                · rcases ex_rel (ts := ts) (ts.length + 1) (j + 1) with e | ⟨e1, l, a, e2, hc⟩
                  · rw [e]
                  · rw [e1, e2]
                    have := isT_lt hc
                    show dBad = if a = ts.length then _ else dBad
                    rw [if_neg (by omega)]
                · rfl
            · rw [e1, e2]
              show dBad = if isT ts a sEq = true then _ else dBad
              rw [isT_one hc (by decide)]
              rfl
          · rfl
        · rfl
  · rfl

theorem decs_same : ∀ f ts, decs true f ts = decs false f ts
  | 0, _ => rfl
  | f + 1, ts => by
    rw [decs, decs]
    split
    · rfl
    · cases semi ts with
      | none => rfl
      | some k =>
        show declP true (ts.take k) :: decs true f (ts.drop (k + 1)) = declP false (ts.take k) :: decs false f (ts.drop (k + 1))
        rw [decl_same, decs_same f]

end Go.Proofs.YtcehppndpccldaaGreatDoor

