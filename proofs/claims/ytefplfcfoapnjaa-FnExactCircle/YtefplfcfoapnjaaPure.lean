/-
  The plain functions that the contracts of this seat speak of: no program here.
-/
import Derived.WalkKit
namespace Go.Proofs.Ytefplfcfoapnjaa

/-- A small letter. -/
def sl (c : Int) : Bool := decide (97 ≤ c ∧ c ≤ 122)
/-- A letter, digit or underscore. -/
def wb (c : Int) : Bool := decide ((97 ≤ c ∧ c ≤ 122) ∨ (48 ≤ c ∧ c ≤ 57) ∨ c = 95)
/-- One of the eleven words. -/
def rsv (l : List UInt8) : Bool :=
  l == [105, 109, 112, 111, 114, 116] || l == [116, 121, 112, 101] || l == [118, 97, 108] || l == [102, 117, 110] || l == [105, 102] ||
  l == [116, 104, 101, 110] || l == [101, 108, 115, 101] || l == [105, 110, 116] || l == [98, 111, 111, 108] || l == [116, 114, 117, 101] || l == [102, 97, 108, 115, 101]
/-- A good name. -/
def gnl (l : List UInt8) : Bool :=
  decide (1 ≤ l.length ∧ l.length ≤ 12) && (sl ((l.headD 0).toNat : Int) && (l.all (fun b => wb (b.toNat : Int)) && !rsv l))
def gn (s : ByteArray) : Bool := gnl s.data.toList

theorem wb_of_sl {c : Int} (h : sl c = true) : wb c = true := by
  simp only [sl, wb, decide_eq_true_eq] at *; exact Or.inl h

theorem gn_short {s : ByteArray} (h : s.size < 1 ∨ 12 < s.size) : gn s = false := by
  have : s.data.toList.length = s.size := rfl
  have h2 : ¬ (1 ≤ s.data.toList.length ∧ s.data.toList.length ≤ 12) := by omega
  simp only [gn, gnl, decide_eq_false h2, Bool.false_and]

theorem head_at (s : ByteArray) (h : 0 < s.size) : s.data.toList.headD 0 = s[0] := by
  have h' : 0 < s.data.toList.length := h
  cases e : s.data.toList with
  | nil => rw [e] at h'; simp at h'
  | cons a t =>
    have : s[0] = s.data.toList[0]'h' := rfl
    rw [this]; simp [e]

theorem gn_head {s : ByteArray} (h : 0 < s.size) (hs : sl (s[0].toNat : Int) = false) : gn s = false := by
  simp only [gn, gnl, head_at s h, hs, Bool.false_and, Bool.and_false]

theorem gn_byte {s : ByteArray} (k : Nat) (h : k < s.size) (hs : wb (s[k].toNat : Int) = false) : gn s = false := by
  have hm : s[k] ∈ s.data.toList := by
    have : s[k] = s.data.toList[k]'h := rfl
    rw [this]; exact List.getElem_mem _
  have : s.data.toList.all (fun b => wb (b.toNat : Int)) = false := by
    rw [List.all_eq_false]; exact ⟨_, hm, by simp [hs]⟩
  simp only [gn, gnl, this, Bool.false_and, Bool.and_false]

theorem gn_end {s : ByteArray} (h1 : 1 ≤ s.size) (h2 : s.size ≤ 12) (h0 : sl ((s[0]'(by omega)).toNat : Int) = true)
    (ha : ∀ j (h : j < s.size), wb (s[j].toNat : Int) = true) : gn s = !rsv s.toList := by
  have hl : s.data.toList.length = s.size := rfl
  have hall : s.data.toList.all (fun b => wb (b.toNat : Int)) = true := by
    rw [List.all_eq_true]; intro b hb
    obtain ⟨j, hj, rfl⟩ := List.getElem_of_mem hb
    exact ha j (by omega)
  have hd : decide (1 ≤ s.data.toList.length ∧ s.data.toList.length ≤ 12) = true := by simp only [decide_eq_true_eq]; omega
  simp only [gn, gnl, hd, head_at s (by omega), h0, hall, Bool.true_and, ByteArray.toList_eq]

/-- The order of texts. -/
def lt (a b : ByteArray) : Bool := Op.bytesLess a.toList b.toList

theorem bl_append (p x y : List UInt8) : Op.bytesLess (p ++ x) (p ++ y) = Op.bytesLess x y := by
  induction p with
  | nil => rfl
  | cons c p ih =>
    have : ¬ c < c := by intro h; exact absurd h (by simp)
    simp [Op.bytesLess, ih]

theorem split_at (a : ByteArray) (k : Nat) : a.toList = a.data.toList.take k ++ a.data.toList.drop k := by
  rw [ByteArray.toList_eq, List.take_append_drop]

theorem take_eq {a b : ByteArray} {k : Nat} (ha : k ≤ a.size) (hb : k ≤ b.size) (h : ∀ j (h1 : j < a.size) (h2 : j < b.size), j < k → a[j] = b[j]) :
    a.data.toList.take k = b.data.toList.take k := by
  have la : a.data.toList.length = a.size := rfl
  have lb : b.data.toList.length = b.size := rfl
  apply List.ext_getElem
  · simp only [List.length_take]; omega
  · intro j h1 h2
    simp only [List.length_take] at h1 h2
    rw [List.getElem_take, List.getElem_take]
    exact h j (by omega) (by omega) (by omega)

theorem lt_at {a b : ByteArray} {k : Nat} (ha : k < a.size) (hb : k < b.size) (h : ∀ j (h1 : j < a.size) (h2 : j < b.size), j < k → a[j] = b[j]) (hne : a[k] ≠ b[k]) :
    lt a b = decide ((a[k].toNat : Int) < (b[k].toNat : Int)) := by
  have la : a.data.toList.length = a.size := rfl
  have lb : b.data.toList.length = b.size := rfl
  have ea : a.data.toList[k]'(by omega) = a[k] := rfl
  have eb : b.data.toList[k]'(by omega) = b[k] := rfl
  unfold lt
  rw [split_at a k, split_at b k, take_eq (by omega) (by omega) h, bl_append, List.drop_eq_getElem_cons (by omega), List.drop_eq_getElem_cons (l := b.data.toList) (by omega), ea, eb]
  have hne' : (a[k] == b[k]) = false := by simpa using hne
  rw [Op.bytesLess, hne', Bool.false_and, Bool.or_false]
  rw [decide_eq_decide, UInt8.lt_iff_toNat_lt]; omega

theorem lt_end {a b : ByteArray} {k : Nat} (ha : k ≤ a.size) (hb : k ≤ b.size) (h : ∀ j (h1 : j < a.size) (h2 : j < b.size), j < k → a[j] = b[j]) (he : k = a.size ∨ k = b.size) :
    lt a b = decide ((a.size : Int) < (b.size : Int)) := by
  have la : a.data.toList.length = a.size := rfl
  have lb : b.data.toList.length = b.size := rfl
  unfold lt
  rw [split_at a k, split_at b k, take_eq (by omega) (by omega) h, bl_append]
  by_cases h1 : k = a.size
  · rw [List.drop_of_length_le (l := a.data.toList) (by omega)]
    by_cases h2 : k = b.size
    · rw [List.drop_of_length_le (l := b.data.toList) (by omega), decide_eq_false (by omega)]; rfl
    · rw [List.drop_eq_getElem_cons (l := b.data.toList) (by omega), decide_eq_true (by omega)]; rfl
  · have h2 : k = b.size := by omega
    rw [List.drop_of_length_le (l := b.data.toList) (by omega), List.drop_eq_getElem_cons (l := a.data.toList) (by omega), decide_eq_false (by omega)]; rfl

/-- Every number below n passes. -/
def allTo (n : Nat) (p : Nat → Bool) : Bool := (List.range n).all p
theorem allTo_true {n : Nat} {p : Nat → Bool} (h : ∀ j, j < n → p j = true) : allTo n p = true := by
  unfold allTo; rw [List.all_eq_true]; intro j hj; exact h j (List.mem_range.1 hj)
theorem allTo_false {n : Nat} {p : Nat → Bool} (k : Nat) (hk : k < n) (h : p k = false) : allTo n p = false := by
  unfold allTo; rw [List.all_eq_false]; exact ⟨k, List.mem_range.2 hk, by simp [h]⟩

/-- The names of a record: good, each less than the next. -/
def gio (n : Nat) (S : Nat → ByteArray) : Bool := allTo n fun i => gn (S i) && (decide (i = 0) || lt (S (i - 1)) (S i))
/-- The kids are numbers of nodes. -/
def kok (n : Nat) (D : Nat → Int) (N : Int) : Bool := allTo n fun i => decide (0 ≤ D i ∧ D i < N)

/-- What a node holds. -/
structure ND where
  kind : Int
  nn : Nat
  nm : Nat → ByteArray
  nk : Nat
  kd : Nat → Int

/-- The shape of a node. -/
def shp (d : ND) : Bool :=
  if d.kind = 4 then decide (d.nn = 0 ∧ d.nk = 2) else
  if d.kind = 3 then decide (d.nn = d.nk) && gio d.nn d.nm else
  if d.kind = 0 ∨ d.kind = 1 ∨ d.kind = 2 then decide (d.nn = 0 ∧ d.nk = 0) else false
def nok (d : ND) (N : Int) : Bool := shp d && kok d.nk d.kd N
/-- A graph is valid. -/
def vgr (N : Nat) (G : Nat → ND) : Bool := decide (N ≤ 4000) && allTo N fun i => nok (G i) N

end Go.Proofs.Ytefplfcfoapnjaa
