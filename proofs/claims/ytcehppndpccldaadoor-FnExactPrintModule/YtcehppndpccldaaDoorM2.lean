/-
  Merged for the claim: PaA RdM VaA VaB.
-/
import Derived.Test.YtcehppndpccldaaDoorM1
import Derived.Laws.MakeOwn
import Derived.Deep.RegionHeld3
import Derived.Deep.AppendLies
import Derived.Deep.RegionLaw
namespace Go.Proofs.YtcehppndpccldaaDoor

structure TI where
  op : Int
  md : ByteArray
  nm : ByteArray
  ns : List ByteArray
structure EI where
  op : Int
  num : Int
  md : ByteArray
  nm : ByteArray
  ns : List ByteArray
  ty : List TI
structure DC where
  kind : Int
  nm : ByteArray
  ty : List TI
  ex : List EI

def e0 : ByteArray := ByteArray.empty
def tyO (op : Int) : TI := ⟨op, e0, e0, []⟩
def exO (op : Int) : EI := ⟨op, 0, e0, e0, [], []⟩
def dBad : DC := ⟨0, e0, [], []⟩

/-- The text of a token. -/
def tx (ts : List TK) (i : Nat) : ByteArray := ((ts[i]?).map TK.txt).getD e0
/-- The token at a place has this text. -/
def isT (ts : List TK) (i : Nat) (s : List UInt8) : Bool := match ts[i]? with
  | some t => t.txt.data.toList == s
  | none => false
/-- The token at a place has this class. -/
def isC (ts : List TK) (i : Nat) (c : Int) : Bool := match ts[i]? with
  | some t => t.cls == c
  | none => false

theorem isT_lt {ts : List TK} {i : Nat} {s : List UInt8} (h : isT ts i s = true) : i < ts.length := by
  unfold isT at h
  by_cases hi : i < ts.length
  · exact hi
  · rw [List.getElem?_eq_none (by omega)] at h; cases h
theorem isC_lt {ts : List TK} {i : Nat} {c : Int} (h : isC ts i c = true) : i < ts.length := by
  unfold isC at h
  by_cases hi : i < ts.length
  · exact hi
  · rw [List.getElem?_eq_none (by omega)] at h; cases h
/-- One text at one place. -/
theorem isT_one {ts : List TK} {i : Nat} {s s' : List UInt8} (h : isT ts i s = true) (hne : s ≠ s') : isT ts i s' = false := by
  unfold isT at h ⊢
  cases e : ts[i]? with
  | none => rfl
  | some t =>
    rw [e] at h
    have h1 : t.txt.data.toList = s := by simpa using h
    show (t.txt.data.toList == s') = false
    rw [h1]; exact beq_eq_false_iff_ne.2 hne

def sInt : List UInt8 := [105, 110, 116]
def sBool : List UInt8 := [98, 111, 111, 108]
def sAny : List UInt8 := [63]
def sOpen : List UInt8 := [123]
def sShut : List UInt8 := [125]
def sLeft : List UInt8 := [40]
def sRight : List UInt8 := [41]
def sColon : List UInt8 := [58]
def sEq : List UInt8 := [61]
def sComma : List UInt8 := [44]
def sDot : List UInt8 := [46]
def sPlus : List UInt8 := [43]
def sLess : List UInt8 := [60]
def sArrow : List UInt8 := [45, 62]
def sSemi : List UInt8 := [59]
def sTrue : List UInt8 := [116, 114, 117, 101]
def sFalse : List UInt8 := [102, 97, 108, 115, 101]
def sFun : List UInt8 := [102, 117, 110]
def sIf : List UInt8 := [105, 102]
def sThen : List UInt8 := [116, 104, 101, 110]
def sElse : List UInt8 := [101, 108, 115, 101]
def sImport : List UInt8 := [105, 109, 112, 111, 114, 116]
def sType : List UInt8 := [116, 121, 112, 101]
def sVal : List UInt8 := [118, 97, 108]

/-- A name among the names. -/
def hasN (ns : List ByteArray) (s : ByteArray) : Bool := ns.any fun x => x.data.toList == s.data.toList

/-- Behind a name: the module's name, the name, the place. -/
def pathP (st : Bool) (ts : List TK) (i : Nat) : Option (ByteArray × ByteArray × Nat) :=
  if isT ts (i + 1) sColon then
    if isC ts (i + 2) 1 then some (tx ts i, tx ts (i + 2), i + 3)
    else if st then none else some (e0, tx ts i, i + 1)
  else some (e0, tx ts i, i + 1)

/-- The fields from a name on. -/
def floop {α : Type} (ts : List TK) (T : Nat → Option (List α × Nat)) (sg : List UInt8) : Nat → Nat → List ByteArray → List α → Option (List α × List ByteArray × Nat)
  | 0, _, _, _ => none
  | f + 1, j, ns, its =>
    if isC ts j 1 then
      if hasN ns (tx ts j) then none else
      if isT ts (j + 1) sg then
        match T (j + 2) with
        | none => none
        | some (l, k) =>
          if isT ts k sShut then some (its ++ l, ns ++ [tx ts j], k + 1)
          else if isT ts k sComma then floop ts T sg f (k + 1) (ns ++ [tx ts j]) (its ++ l) else none
      else none
    else none
/-- The fields behind the brace. -/
def fldsP {α : Type} (ts : List TK) (T : Nat → Option (List α × Nat)) (sg : List UInt8) (j : Nat) : Option (List α × List ByteArray × Nat) :=
  if isT ts j sShut then some ([], [], j + 1) else floop ts T sg (ts.length + 1) j [] []

/-- A part in brackets. -/
def brkP {α : Type} (ts : List TK) (T : Nat → Option (List α × Nat)) (i : Nat) : Option (List α × Nat) :=
  match T i with
  | none => none
  | some (l, j) => if isT ts j sRight then some (l, j + 1) else none

def baseP (st : Bool) (ts : List TK) (T : Nat → Option (List TI × Nat)) (i : Nat) : Option (List TI × Nat) :=
  if isC ts i 1 then
    match pathP st ts i with
    | none => none
    | some (m, n, j) => some ([⟨4, m, n, []⟩], j)
  else if isT ts i sInt then some ([tyO 1], i + 1)
  else if isT ts i sBool then some ([tyO 2], i + 1)
  else if isT ts i sAny then some ([tyO 3], i + 1)
  else if isT ts i sOpen then
    match fldsP ts T sColon (i + 1) with
    | none => none
    | some (its, ns, j) => some (its ++ [⟨5, e0, e0, ns⟩], j)
  else if isT ts i sLeft then brkP ts T (i + 1)
  else none

def tyP (st : Bool) (ts : List TK) : Nat → Nat → Option (List TI × Nat)
  | 0, _ => none
  | f + 1, i =>
    match baseP st ts (tyP st ts f) i with
    | none => none
    | some (l, j) =>
      if isT ts j sArrow then
        match tyP st ts f (j + 1) with
        | none => none
        | some (r, k) => some (l ++ r ++ [tyO 6], k)
      else some (l, j)

/-- The number that digits write. -/
def valN (s : List UInt8) : Int := s.foldl (fun n c => n * 10 + ((c.toNat : Int) - 48)) 0

def atomP (st : Bool) (ts : List TK) (E : Nat → Option (List EI × Nat)) (i : Nat) : Option (List EI × Nat) :=
  if isC ts i 1 then
    match pathP st ts i with
    | none => none
    | some (m, n, j) => some ([⟨3, 0, m, n, [], []⟩], j)
  else if isC ts i 3 then some ([⟨1, valN (tx ts i).data.toList, e0, e0, [], []⟩], i + 1)
  else if isT ts i sTrue then some ([⟨2, 1, e0, e0, [], []⟩], i + 1)
  else if isT ts i sFalse then some ([exO 2], i + 1)
  else if isT ts i sOpen then
    match fldsP ts E sEq (i + 1) with
    | none => none
    | some (its, ns, j) => some (its ++ [⟨4, 0, e0, e0, ns, []⟩], j)
  else if isT ts i sLeft then brkP ts E (i + 1)
  else none

def postL (ts : List TK) (E : Nat → Option (List EI × Nat)) : Nat → List EI → Nat → Option (List EI × Nat)
  | 0, _, _ => none
  | f + 1, its, j =>
    if isT ts j sDot then
      if isC ts (j + 1) 1 then postL ts E f (its ++ [⟨5, 0, e0, tx ts (j + 1), [], []⟩]) (j + 2) else none
    else if isT ts j sLeft then
      match brkP ts E (j + 1) with
      | none => none
      | some (l, k) => postL ts E f (its ++ l ++ [exO 7]) k
    else some (its, j)

def postP (st : Bool) (ts : List TK) (E : Nat → Option (List EI × Nat)) (i : Nat) : Option (List EI × Nat) :=
  match atomP st ts E i with
  | none => none
  | some (l, j) => postL ts E (ts.length + 1) l j

def sumL (st : Bool) (ts : List TK) (E : Nat → Option (List EI × Nat)) : Nat → List EI → Nat → Option (List EI × Nat)
  | 0, _, _ => none
  | f + 1, its, j =>
    if isT ts j sPlus then
      match postP st ts E (j + 1) with
      | none => none
      | some (l, k) => sumL st ts E f (its ++ l ++ [exO 9]) k
    else some (its, j)

def sumP (st : Bool) (ts : List TK) (E : Nat → Option (List EI × Nat)) (i : Nat) : Option (List EI × Nat) :=
  match postP st ts E i with
  | none => none
  | some (l, j) => sumL st ts E (ts.length + 1) l j

/-- Behind 'fun'. -/
def funP (st : Bool) (ts : List TK) (E : Nat → Option (List EI × Nat)) (i : Nat) : Option (List EI × Nat) :=
  if isT ts i sLeft && isC ts (i + 1) 1 && isT ts (i + 2) sColon then
    match tyP st ts (ts.length + 1) (i + 3) with
    | none => none
    | some (t, j) =>
      if isT ts j sRight then
        match E (j + 1) with
        | none => none
        | some (b, k) => some (b ++ [⟨6, 0, e0, tx ts (i + 1), [], t⟩], k)
      else none
  else none

/-- Behind 'if'. -/
def ifP (ts : List TK) (E : Nat → Option (List EI × Nat)) (i : Nat) : Option (List EI × Nat) :=
  match E i with
  | none => none
  | some (c, j) =>
    if isT ts j sThen then
      match E (j + 1) with
      | none => none
      | some (a, k) =>
        if isT ts k sElse then
          match E (k + 1) with
          | none => none
          | some (b, l) => some (c ++ a ++ b ++ [exO 8], l)
        else none
    else none

/-- One sum, or one below another. -/
def lessP (st : Bool) (ts : List TK) (E : Nat → Option (List EI × Nat)) (i : Nat) : Option (List EI × Nat) :=
  match sumP st ts E i with
  | none => none
  | some (l, j) =>
    if isT ts j sLess then
      match sumP st ts E (j + 1) with
      | none => none
      | some (r, k) => some (l ++ r ++ [exO 10], k)
    else some (l, j)

def exP (st : Bool) (ts : List TK) : Nat → Nat → Option (List EI × Nat)
  | 0, _ => none
  | f + 1, i =>
    if isT ts i sFun then funP st ts (exP st ts f) (i + 1)
    else if isT ts i sIf then ifP ts (exP st ts f) (i + 1)
    else lessP st ts (exP st ts f) i

/-- The declaration that the tokens of a piece are. -/
def declP (st : Bool) (ts : List TK) : DC :=
  if isC ts 1 1 then
    if isT ts 0 sImport then (if ts.length = 2 then ⟨1, tx ts 1, [], []⟩ else dBad)
    else if isT ts 0 sType then
      if isT ts 2 sEq then
        match tyP st ts (ts.length + 1) 3 with
        | none => dBad
        | some (t, j) => if j = ts.length then ⟨2, tx ts 1, t, []⟩ else dBad
      else dBad
    else if isT ts 0 sVal then
      if isT ts 2 sColon then
        match tyP st ts (ts.length + 1) 3 with
        | none => dBad
        | some (t, j) =>
          if isT ts j sEq then
            match exP st ts (ts.length + 1) (j + 1) with
            | none => dBad
            | some (x, k) => if k = ts.length then ⟨3, tx ts 1, t, x⟩ else dBad
          else dBad
      else dBad
    else dBad
  else dBad

/-- The tokens up to the first end of a piece. -/
def semi (ts : List TK) : Option Nat := ts.findIdx? fun t => t.txt.data.toList == sSemi
/-- The declarations of the tokens. -/
def decs (st : Bool) : Nat → List TK → List DC
  | 0, _ => []
  | f + 1, ts =>
    if ts.isEmpty then [] else
    match semi ts with
    | none => [dBad]
    | some k => declP st (ts.take k) :: decs st f (ts.drop (k + 1))

/- The two readers agree: where the strict one gives up, the other has given up, or stands at a colon. -/

def Rel {α : Type} (ts : List TK) (r1 r2 : Option (α × Nat)) : Prop := r1 = r2 ∨ (r1 = none ∧ ∃ l a, r2 = some (l, a) ∧ isT ts a sColon = true)
theorem Rel.rfl' {α : Type} {ts : List TK} {r : Option (α × Nat)} : Rel ts r r := Or.inl rfl

theorem floop_rel {α : Type} {ts : List TK} {T1 T2 : Nat → Option (List α × Nat)} {sg : List UInt8} (h : ∀ i, Rel ts (T1 i) (T2 i)) : ∀ f j ns its, floop ts T1 sg f j ns its = floop ts T2 sg f j ns its
  | 0, _, _, _ => rfl
  | f + 1, j, ns, its => by
    rw [floop, floop]
    split
    · split
      · rfl
      · split
        · rcases h (j + 2) with e | ⟨e1, l, a, e2, hc⟩
          · rw [e]
            cases T2 (j + 2) with
            | none => rfl
            | some r =>
              obtain ⟨l, k⟩ := r
              show (if isT ts k sShut = true then _ else if isT ts k sComma = true then _ else _) = if isT ts k sShut = true then _ else if isT ts k sComma = true then _ else _
              rw [floop_rel h f]
          · rw [e1, e2]
            show none = if isT ts a sShut = true then _ else if isT ts a sComma = true then _ else none
            rw [isT_one hc (by decide), isT_one hc (by decide)]
            rfl
        · rfl
    · rfl

theorem flds_rel {α : Type} {ts : List TK} {T1 T2 : Nat → Option (List α × Nat)} {sg : List UInt8} (h : ∀ i, Rel ts (T1 i) (T2 i)) (j : Nat) : fldsP ts T1 sg j = fldsP ts T2 sg j := by
  unfold fldsP
  rw [floop_rel h]

theorem brk_rel {α : Type} {ts : List TK} {T1 T2 : Nat → Option (List α × Nat)} (h : ∀ i, Rel ts (T1 i) (T2 i)) (i : Nat) : brkP ts T1 i = brkP ts T2 i := by
  unfold brkP
  rcases h i with e | ⟨e1, l, a, e2, hc⟩
  · rw [e]
  · rw [e1, e2]
    show none = if isT ts a sRight = true then _ else none
    rw [isT_one hc (by decide)]
    rfl

theorem path_rel (ts : List TK) (i : Nat) : pathP true ts i = pathP false ts i ∨ (pathP true ts i = none ∧ pathP false ts i = some (e0, tx ts i, i + 1) ∧ isT ts (i + 1) sColon = true) := by
  unfold pathP
  by_cases h : isT ts (i + 1) sColon = true
  · rw [if_pos h, if_pos h]
    by_cases h2 : isC ts (i + 2) 1 = true
    · rw [if_pos h2, if_pos h2]; exact Or.inl rfl
    · rw [if_neg h2, if_neg h2]; exact Or.inr ⟨rfl, rfl, h⟩
  · rw [if_neg h, if_neg h]; exact Or.inl rfl

theorem base_rel {ts : List TK} {T1 T2 : Nat → Option (List TI × Nat)} (h : ∀ i, Rel ts (T1 i) (T2 i)) (i : Nat) : Rel ts (baseP true ts T1 i) (baseP false ts T2 i) := by
  unfold baseP
  rw [flds_rel h, brk_rel h]
  split
  · rcases path_rel ts i with e | ⟨e1, e2, hc⟩
    · rw [e]; exact Rel.rfl'
    · rw [e1, e2]; exact Or.inr ⟨rfl, _, _, rfl, hc⟩
  · exact Rel.rfl'

theorem ty_rel {ts : List TK} : ∀ f i, Rel ts (tyP true ts f i) (tyP false ts f i)
  | 0, _ => Rel.rfl'
  | f + 1, i => by
    rw [tyP, tyP]
    rcases base_rel (ty_rel f) i with e | ⟨e1, l, a, e2, hc⟩
    · rw [e]
      cases baseP false ts (tyP false ts f) i with
      | none => exact Rel.rfl'
      | some r =>
        obtain ⟨l, j⟩ := r
        show Rel ts (if isT ts j sArrow = true then _ else _) (if isT ts j sArrow = true then _ else _)
        split
        · rcases ty_rel f (j + 1) with e | ⟨e1, r, a, e2, hc⟩
          · rw [e]; exact Rel.rfl'
          · rw [e1, e2]; exact Or.inr ⟨rfl, _, _, rfl, hc⟩
        · exact Rel.rfl'
    · rw [e1, e2]
      show Rel ts none (if isT ts a sArrow = true then _ else some (l, a))
      rw [isT_one hc (by decide)]
      exact Or.inr ⟨rfl, l, a, rfl, hc⟩

theorem atom_rel {ts : List TK} {T1 T2 : Nat → Option (List EI × Nat)} (h : ∀ i, Rel ts (T1 i) (T2 i)) (i : Nat) : Rel ts (atomP true ts T1 i) (atomP false ts T2 i) := by
  unfold atomP
  rw [flds_rel h, brk_rel h]
  split
  · rcases path_rel ts i with e | ⟨e1, e2, hc⟩
    · rw [e]; exact Rel.rfl'
    · rw [e1, e2]; exact Or.inr ⟨rfl, _, _, rfl, hc⟩
  · exact Rel.rfl'

theorem postL_rel {ts : List TK} {T1 T2 : Nat → Option (List EI × Nat)} (h : ∀ i, Rel ts (T1 i) (T2 i)) : ∀ f its j, postL ts T1 f its j = postL ts T2 f its j
  | 0, _, _ => rfl
  | f + 1, its, j => by
    rw [postL, postL, brk_rel h]
    split
    · split
      · exact postL_rel h f _ _
      · rfl
    · split
      · cases brkP ts T2 (j + 1) with
        | none => rfl
        | some r => exact postL_rel h f _ _
      · rfl

theorem postL_colon {ts : List TK} {T : Nat → Option (List EI × Nat)} {f : Nat} {its : List EI} {a : Nat} (hc : isT ts a sColon = true) : postL ts T (f + 1) its a = some (its, a) := by
  rw [postL, isT_one hc (by decide), isT_one hc (by decide)]
  rfl
theorem sumL_colon {st : Bool} {ts : List TK} {T : Nat → Option (List EI × Nat)} {f : Nat} {its : List EI} {a : Nat} (hc : isT ts a sColon = true) : sumL st ts T (f + 1) its a = some (its, a) := by
  rw [sumL, isT_one hc (by decide)]
  rfl

theorem post_rel {ts : List TK} {T1 T2 : Nat → Option (List EI × Nat)} (h : ∀ i, Rel ts (T1 i) (T2 i)) (i : Nat) : Rel ts (postP true ts T1 i) (postP false ts T2 i) := by
  unfold postP
  rcases atom_rel h i with e | ⟨e1, l, a, e2, hc⟩
  · rw [e]
    cases atomP false ts T2 i with
    | none => exact Rel.rfl'
    | some r => exact Or.inl (postL_rel h _ _ _)
  · rw [e1, e2]
    exact Or.inr ⟨rfl, l, a, postL_colon hc, hc⟩

theorem sumL_rel {ts : List TK} {T1 T2 : Nat → Option (List EI × Nat)} (h : ∀ i, Rel ts (T1 i) (T2 i)) : ∀ f its j, Rel ts (sumL true ts T1 f its j) (sumL false ts T2 f its j)
  | 0, _, _ => Rel.rfl'
  | f + 1, its, j => by
    rw [sumL, sumL]
    split
    · rcases post_rel h (j + 1) with e | ⟨e1, l, a, e2, hc⟩
      · rw [e]
        cases e3 : postP false ts T2 (j + 1) with
        | none => exact Rel.rfl'
        | some r => exact sumL_rel h f _ _
      · rw [e1, e2]
        cases f with
        | zero => exact Rel.rfl'
        | succ f => exact Or.inr ⟨rfl, _, a, sumL_colon hc, hc⟩
    · exact Rel.rfl'

theorem sum_rel {ts : List TK} {T1 T2 : Nat → Option (List EI × Nat)} (h : ∀ i, Rel ts (T1 i) (T2 i)) (i : Nat) : Rel ts (sumP true ts T1 i) (sumP false ts T2 i) := by
  unfold sumP
  rcases post_rel h i with e | ⟨e1, l, a, e2, hc⟩
  · rw [e]
    cases postP false ts T2 i with
    | none => exact Rel.rfl'
    | some r => exact sumL_rel h _ _ _
  · rw [e1, e2]
    exact Or.inr ⟨rfl, l, a, sumL_colon hc, hc⟩

theorem fun_rel {ts : List TK} {T1 T2 : Nat → Option (List EI × Nat)} (h : ∀ i, Rel ts (T1 i) (T2 i)) (i : Nat) : Rel ts (funP true ts T1 i) (funP false ts T2 i) := by
  unfold funP
  split
  · rcases ty_rel (ts := ts) (ts.length + 1) (i + 3) with e | ⟨e1, l, a, e2, hc⟩
    · rw [e]
      cases tyP false ts (ts.length + 1) (i + 3) with
      | none => exact Rel.rfl'
      | some r =>
        obtain ⟨t, j⟩ := r
        show Rel ts (if isT ts j sRight = true then _ else none) (if isT ts j sRight = true then _ else none)
        split
        · rcases h (j + 1) with e | ⟨e1, l, a, e2, hc⟩
          · rw [e]; exact Rel.rfl'
          · rw [e1, e2]; exact Or.inr ⟨rfl, _, a, rfl, hc⟩
        · exact Rel.rfl'
    · rw [e1, e2]
      show Rel ts none (if isT ts a sRight = true then _ else none)
      rw [isT_one hc (by decide)]
      exact Rel.rfl'
  · exact Rel.rfl'

theorem if_rel {ts : List TK} {T1 T2 : Nat → Option (List EI × Nat)} (h : ∀ i, Rel ts (T1 i) (T2 i)) (i : Nat) : Rel ts (ifP ts T1 i) (ifP ts T2 i) := by
  unfold ifP
  rcases h i with e | ⟨e1, l, a, e2, hc⟩
  · rw [e]
    cases T2 i with
    | none => exact Rel.rfl'
    | some r =>
      obtain ⟨c, j⟩ := r
      show Rel ts (if isT ts j sThen = true then _ else none) (if isT ts j sThen = true then _ else none)
      split
      · rcases h (j + 1) with e | ⟨e1, l, a, e2, hc⟩
        · rw [e]
          cases T2 (j + 1) with
          | none => exact Rel.rfl'
          | some r =>
            obtain ⟨d, k⟩ := r
            show Rel ts (if isT ts k sElse = true then _ else none) (if isT ts k sElse = true then _ else none)
            split
            · rcases h (k + 1) with e | ⟨e1, l, a, e2, hc⟩
              · rw [e]; exact Rel.rfl'
              · rw [e1, e2]; exact Or.inr ⟨rfl, _, a, rfl, hc⟩
            · exact Rel.rfl'
        · rw [e1, e2]
          show Rel ts none (if isT ts a sElse = true then _ else none)
          rw [isT_one hc (by decide)]
          exact Rel.rfl'
      · exact Rel.rfl'
  · rw [e1, e2]
    show Rel ts none (if isT ts a sThen = true then _ else none)
    rw [isT_one hc (by decide)]
    exact Rel.rfl'

theorem less_rel {ts : List TK} {T1 T2 : Nat → Option (List EI × Nat)} (h : ∀ i, Rel ts (T1 i) (T2 i)) (i : Nat) : Rel ts (lessP true ts T1 i) (lessP false ts T2 i) := by
  unfold lessP
  rcases sum_rel h i with e | ⟨e1, l, a, e2, hc⟩
  · rw [e]
    cases sumP false ts T2 i with
    | none => exact Rel.rfl'
    | some r =>
      obtain ⟨l, j⟩ := r
      show Rel ts (if isT ts j sLess = true then _ else some (l, j)) (if isT ts j sLess = true then _ else some (l, j))
      split
      · rcases sum_rel h (j + 1) with e | ⟨e1, r, a, e2, hc⟩
        · rw [e]; exact Rel.rfl'
        · rw [e1, e2]; exact Or.inr ⟨rfl, _, a, rfl, hc⟩
      · exact Rel.rfl'
  · rw [e1, e2]
    show Rel ts none (if isT ts a sLess = true then _ else some (l, a))
    rw [isT_one hc (by decide)]
    exact Or.inr ⟨rfl, l, a, rfl, hc⟩

theorem ex_rel {ts : List TK} : ∀ f i, Rel ts (exP true ts f i) (exP false ts f i)
  | 0, _ => Rel.rfl'
  | f + 1, i => by
    rw [exP, exP]
    split
    · exact fun_rel (ex_rel f) _
    · split
      · exact if_rel (ex_rel f) _
      · exact less_rel (ex_rel f) _

theorem decl_same (ts : List TK) : declP true ts = declP false ts := by
  unfold declP
  split
  · split
    · rfl
    · split
      · split
        · rcases ty_rel (ts := ts) (ts.length + 1) 3 with e | ⟨e1, l, a, e2, hc⟩
          · rw [e]
          · rw [e1, e2]
            have := isT_lt hc
            show dBad = if a = ts.length then _ else dBad
            rw [if_neg (by omega)]
        · rfl
      · split
        · split
          · rcases ty_rel (ts := ts) (ts.length + 1) 3 with e | ⟨e1, l, a, e2, hc⟩
            · rw [e]
              cases tyP false ts (ts.length + 1) 3 with
              | none => rfl
              | some r =>
                obtain ⟨t, j⟩ := r
                show (if isT ts j sEq = true then _ else dBad) = if isT ts j sEq = true then _ else dBad
                split
                · rcases ex_rel (ts := ts) (ts.length + 1) (j + 1) with e | ⟨e1, l, a, e2, hc⟩
                  · rw [e]
                  · rw [e1, e2]
                    have := isT_lt hc
                    show dBad = if a = ts.length then _ else dBad
                    rw [if_neg (by omega)]
                · rfl
            · rw [e1, e2]
              show dBad = if isT ts a sEq = true then _ else dBad
              rw [isT_one hc (by decide)]
              rfl
          · rfl
        · rfl
  · rfl

theorem decs_same : ∀ f ts, decs true f ts = decs false f ts
  | 0, _ => rfl
  | f + 1, ts => by
    rw [decs, decs]
    split
    · rfl
    · cases semi ts with
      | none => rfl
      | some k =>
        show declP true (ts.take k) :: decs true f (ts.drop (k + 1)) = declP false (ts.take k) :: decs false f (ts.drop (k + 1))
        rw [decl_same, decs_same f]

end Go.Proofs.YtcehppndpccldaaDoor

namespace Go.Proofs.YtcehppndpccldaaDoor
open Go.RowKit

theorem own_form {w : World} {base : Nat} {e : TypeId} {size : Nat} {v : Value} {n : Nat} {xs : List Value} (h : w.ownsRow base e size v n xs) : ∃ oa cap, v = .slice oa n cap := by
  rcases h.2 with ⟨rfl, rfl⟩ | ⟨g, cap, _, rfl, _⟩
  · exact ⟨none, 0, rfl⟩
  · exact ⟨_, cap, rfl⟩
theorem own_block {w w' : World} {base : Nat} {e : TypeId} {size : Nat} {v : Value} {n : Nat} {xs : List Value} (h : w.ownsRow base e size v n xs) (hb : ∀ k, some k = v.ownBlock → w'.heap[k]? = w.heap[k]?) : w'.ownsRow base e size v n xs := by
  obtain ⟨h1, h2⟩ := h
  refine ⟨h1, ?_⟩
  rcases h2 with h2 | ⟨g, cap, cur, hv, hb', hh, r⟩
  · exact Or.inl h2
  · exact Or.inr ⟨g, cap, cur, hv, hb', (hb g (by rw [hv]; rfl)).trans hh, r⟩
/-- Where a list of names lies. -/
structure NPl where
  a : Option Addr
  b : Nat
  c : Nat
/-- Names in memory of one's own. -/
def NmOK (B : Nat) (w : World) (ns : List ByteArray) (p : NPl) : Prop := ns ≠ [] → p.a = some ⟨p.b, 0, none⟩ ∧ B ≤ p.b ∧ ∃ (N : Nat) (f : Nat → Value), w.rowIs p.b 9 N f ∧ ns.length ≤ N ∧ ∀ j, j < ns.length → f j = .string (ns.getD j e0)
def tiC (x : TI × NPl) : List Value := [.int .i64 x.1.op, .string x.1.md, .string x.1.nm, .slice x.2.a x.1.ns.length x.2.c]
def tisC (xs : List (TI × NPl)) : List Value := xs.flatMap tiC
theorem tisC_snoc (xs : List (TI × NPl)) (x : TI × NPl) : tisC (xs ++ [x]) = tisC xs ++ tiC x := by simp [tisC]
/-- Where the names and the type of an item lie. -/
structure EPl where
  np : NPl
  tv : Value
  zs : List (TI × NPl)
def ep0 : EPl := ⟨⟨none, 0, 0⟩, .slice none 0 0, []⟩
def eiC (x : EI × EPl) : List Value := [.int .i64 x.1.op, .int .i64 x.1.num, .string x.1.md, .string x.1.nm, .slice x.2.np.a x.1.ns.length x.2.np.c, x.2.tv]
def eisC (xs : List (EI × EPl)) : List Value := xs.flatMap eiC
theorem eisC_snoc (xs : List (EI × EPl)) (x : EI × EPl) : eisC (xs ++ [x]) = eisC xs ++ eiC x := by simp [eisC]
/-- Where the lists of a declaration lie. -/
structure DPl where
  tv : Value
  zs : List (TI × NPl)
  ev : Value
  es : List (EI × EPl)
def dp0 : DPl := ⟨.slice none 0 0, [], .slice none 0 0, []⟩
def dV (d : DC) (p : DPl) : Value := .agg #[.int .i64 d.kind, .string d.nm, p.tv, p.ev]
def dcC (x : DC × DPl) : List Value := [.int .i64 x.1.kind, .string x.1.nm, x.2.tv, x.2.ev]
def dcsC (xs : List (DC × DPl)) : List Value := xs.flatMap dcC
theorem dcsC_snoc (xs : List (DC × DPl)) (x : DC × DPl) : dcsC (xs ++ [x]) = dcsC xs ++ dcC x := by simp [dcsC]
/-- A box is no block of it. -/
theorem own_box {B : Nat} {w : World} {v : Value} {n size N : Nat} {xs : List Value} {t t' : TypeId} {X : Nat} {f : Nat → Value} (h : w.ownsRow B t size v n xs) (hX : w.rowIs X t' N f) (hne : t ≠ t') : v.ownBlock ≠ some X := fun e => by
  obtain ⟨c, hc, _⟩ := hX
  rcases h.2 with ⟨rfl, rfl⟩ | ⟨g, cap, cur, rfl, _, hh, _⟩
  · cases e
  · have eg : g = X := by simpa [Value.ownBlock] using e
    rw [eg, hc] at hh
    simp only [Option.some.injEq, Obj.cells.injEq] at hh
    exact hne hh.2.1.symm
theorem own_mono {w : World} {B B' : Nat} {e : TypeId} {size : Nat} {v : Value} {n : Nat} {xs : List Value} (h : w.ownsRow B e size v n xs) (hb : B' ≤ B) : w.ownsRow B' e size v n xs := by
  obtain ⟨h1, h2⟩ := h
  refine ⟨h1, ?_⟩
  rcases h2 with h2 | ⟨g, cap, cur, hv, hb', r⟩
  · exact Or.inl h2
  · exact Or.inr ⟨g, cap, cur, hv, Nat.le_trans hb hb', r⟩
theorem NmOK.mono {B B' : Nat} {w : World} {ns : List ByteArray} {p : NPl} (h : NmOK B w ns p) (hb : B' ≤ B) : NmOK B' w ns p := fun hn => by
  obtain ⟨h0, h1, r⟩ := h hn
  exact ⟨h0, Nat.le_trans hb h1, r⟩
theorem flat_get {α : Type} (f : α → List Value) (k : Nat) (hk : ∀ x, (f x).length = k) : ∀ (l : List α) (j r : Nat) (hj : j < l.length), r < k → (l.flatMap f)[j * k + r]? = (f l[j])[r]?
  | [], j, r, hj, _ => absurd hj (Nat.not_lt_zero _)
  | x :: l, 0, r, hj, hr => by
    rw [List.flatMap_cons, Nat.zero_mul, Nat.zero_add, List.getElem?_append_left (by rw [hk]; exact hr)]
    rfl
  | x :: l, j + 1, r, hj, hr => by
    rw [List.flatMap_cons, List.getElem?_append_right (by rw [hk, Nat.succ_mul]; omega), hk]
    have e : (j + 1) * k + r - k = j * k + r := by rw [Nat.succ_mul]; omega
    rw [e, flat_get f k hk l j r (by simpa using hj) hr]
    rfl
theorem flat_len {α : Type} (f : α → List Value) (k : Nat) (hk : ∀ x, (f x).length = k) : ∀ (l : List α), (l.flatMap f).length = l.length * k
  | [] => by simp
  | x :: l => by rw [List.flatMap_cons, List.length_append, flat_len f k hk l, hk, List.length_cons, Nat.succ_mul, Nat.add_comm]
/-- A cell of a row of one's own. -/
theorem own_at {B : Nat} {w : World} {t : TypeId} {k : Nat} {v : Value} {α : Type} {f : α → List Value} (hk : ∀ x, (f x).length = k) {l : List α} (h : w.ownsRow B t k v l.length (l.flatMap f)) {g : Nat} (hg : v.ownBlock = some g) {j r : Nat} {u : Value} (hj : j < l.length) (hr : r < k) (hu : (f l[j])[r]? = some u) : w.cell? ⟨g, j * k + r, none⟩ = some u := by
  have := h.cells hg (j * k + r) u (by rw [flat_get f k hk l j r hj hr]; exact hu)
  rw [← this]
  congr 1
  unfold Addr.add
  simp
theorem own_blk {B : Nat} {w : World} {t : TypeId} {k n : Nat} {v : Value} {xs : List Value} (h : w.ownsRow B t k v n xs) (hn : 0 < n) : ∃ g c, v = .slice (some ⟨g, 0, none⟩) n c ∧ B ≤ g ∧ g < w.heap.size ∧ n ≤ c := by
  obtain ⟨h1, h2⟩ := h
  rcases h2 with ⟨_, h3⟩ | ⟨g, cap, cur, hv, hb, hh, hc, _⟩
  · omega
  · refine ⟨g, cap, hv, hb, ?_, hc⟩
    obtain ⟨hlt, _⟩ := Array.getElem?_eq_some_iff.1 hh
    exact hlt
/-- Items that can be read. -/
structure RT (B : Nat) (w : World) (v : Value) (xs : List (TI × NPl)) : Prop where
  own : w.ownsRow B 66 4 v xs.length (tisC xs)
  nm : ∀ x, x ∈ xs → NmOK B w x.1.ns x.2
structure RiOK (B : Nat) (w : World) (x : EI × EPl) : Prop where
  nm : NmOK B w x.1.ns x.2.np
  ty : RT B w x.2.tv x.2.zs
  is : x.2.zs.map Prod.fst = x.1.ty
structure RE (B : Nat) (w : World) (v : Value) (xs : List (EI × EPl)) : Prop where
  own : w.ownsRow B 69 6 v xs.length (eisC xs)
  ok : ∀ x, x ∈ xs → RiOK B w x
structure RdOK (B : Nat) (w : World) (d : DC) (p : DPl) : Prop where
  ty : RT B w p.tv p.zs
  isT : p.zs.map Prod.fst = d.ty
  ex : RE B w p.ev p.es
  isE : p.es.map Prod.fst = d.ex
structure RD (B : Nat) (w : World) (v : Value) (xs : List (DC × DPl)) : Prop where
  own : w.ownsRow B 38 4 v xs.length (dcsC xs)
  ok : ∀ x, x ∈ xs → RdOK B w x.1 x.2
/-- Nothing below N, and no block but one of the type t, has changed. -/
def Kp (t : TypeId) (w w' : World) : Prop := ∀ (k : Nat) (c : Array Value) (t' : TypeId) (fr : Nat × Nat), w.heap[k]? = some (Obj.cells c t' fr) → t' ≠ t → w'.heap[k]? = w.heap[k]?
theorem rowIs_kp {t t' : TypeId} {w w' : World} {b n : Nat} {f : Nat → Value} (h : w.rowIs b t' n f) (hk : Kp t w w') (hne : t' ≠ t) : w'.rowIs b t' n f := by
  obtain ⟨c, hc, r⟩ := h
  exact ⟨c, (hk b c t' _ hc hne).trans hc, r⟩
theorem own_kp {t t' : TypeId} {w w' : World} {B n size : Nat} {v : Value} {xs : List Value} (h : w.ownsRow B t' size v n xs) (hk : Kp t w w') (hne : t' ≠ t) : w'.ownsRow B t' size v n xs := by
  obtain ⟨h1, h2⟩ := h
  refine ⟨h1, ?_⟩
  rcases h2 with h2 | ⟨g, cap, cur, hv, hb', hh, r⟩
  · exact Or.inl h2
  · exact Or.inr ⟨g, cap, cur, hv, hb', (hk g cur t' _ hh hne).trans hh, r⟩
theorem NmOK.kp {t : TypeId} {B : Nat} {w w' : World} {ns : List ByteArray} {p : NPl} (h : NmOK B w ns p) (hk : Kp t w w') (hne : 9 ≠ t) : NmOK B w' ns p := fun hn => by
  obtain ⟨h0, h1, N, f, hr, r⟩ := h hn
  exact ⟨h0, h1, N, f, rowIs_kp hr hk hne, r⟩
theorem RT.kp {t : TypeId} {B : Nat} {w w' : World} {v : Value} {xs : List (TI × NPl)} (h : RT B w v xs) (hk : Kp t w w') (h1 : 66 ≠ t) (h2 : 9 ≠ t) : RT B w' v xs :=
  ⟨own_kp h.own hk h1, fun x hx => (h.nm x hx).kp hk h2⟩
theorem RiOK.kp {t : TypeId} {B : Nat} {w w' : World} {x : EI × EPl} (h : RiOK B w x) (hk : Kp t w w') (h1 : 66 ≠ t) (h2 : 9 ≠ t) : RiOK B w' x :=
  ⟨h.nm.kp hk h2, h.ty.kp hk h1 h2, h.is⟩
theorem RE.kp {t : TypeId} {B : Nat} {w w' : World} {v : Value} {xs : List (EI × EPl)} (h : RE B w v xs) (hk : Kp t w w') (h0 : 69 ≠ t) (h1 : 66 ≠ t) (h2 : 9 ≠ t) : RE B w' v xs :=
  ⟨own_kp h.own hk h0, fun x hx => (h.ok x hx).kp hk h1 h2⟩
theorem RdOK.kp {t : TypeId} {B : Nat} {w w' : World} {d : DC} {p : DPl} (h : RdOK B w d p) (hk : Kp t w w') (h0 : 69 ≠ t) (h1 : 66 ≠ t) (h2 : 9 ≠ t) : RdOK B w' d p :=
  ⟨h.ty.kp hk h1 h2, h.isT, h.ex.kp hk h0 h1 h2, h.isE⟩
theorem below_kp {w w' : World} (hb : Below w.heap.size w w') : Kp 0 w w' := fun k c t' fr hk _ => by
  obtain ⟨hlt, _⟩ := Array.getElem?_eq_some_iff.1 hk
  exact hb.block k hlt
theorem RT.below {B : Nat} {w w' : World} {v : Value} {xs : List (TI × NPl)} (h : RT B w v xs) (hb : Below w.heap.size w w') : RT B w' v xs := h.kp (below_kp hb) (by decide) (by decide)
theorem RE.below {B : Nat} {w w' : World} {v : Value} {xs : List (EI × EPl)} (h : RE B w v xs) (hb : Below w.heap.size w w') : RE B w' v xs := h.kp (below_kp hb) (by decide) (by decide) (by decide)
theorem RdOK.below {B : Nat} {w w' : World} {d : DC} {p : DPl} (h : RdOK B w d p) (hb : Below w.heap.size w w') : RdOK B w' d p := h.kp (below_kp hb) (by decide) (by decide) (by decide)
theorem RD.below {B : Nat} {w w' : World} {v : Value} {xs : List (DC × DPl)} (h : RD B w v xs) (hb : Below w.heap.size w w') : RD B w' v xs := ⟨own_kp h.own (below_kp hb) (by decide), fun x hx => (h.ok x hx).below hb⟩
theorem NmOK.below {B : Nat} {w w' : World} {ns : List ByteArray} {p : NPl} (h : NmOK B w ns p) (hb : Below w.heap.size w w') : NmOK B w' ns p := h.kp (below_kp hb) (by decide)
theorem RT.mono {B B' : Nat} {w : World} {v : Value} {xs : List (TI × NPl)} (h : RT B w v xs) (hb : B' ≤ B) : RT B' w v xs := ⟨own_mono h.own hb, fun x hx => (h.nm x hx).mono hb⟩
theorem RiOK.mono {B B' : Nat} {w : World} {x : EI × EPl} (h : RiOK B w x) (hb : B' ≤ B) : RiOK B' w x := ⟨h.nm.mono hb, h.ty.mono hb, h.is⟩
theorem RE.mono {B B' : Nat} {w : World} {v : Value} {xs : List (EI × EPl)} (h : RE B w v xs) (hb : B' ≤ B) : RE B' w v xs := ⟨own_mono h.own hb, fun x hx => (h.ok x hx).mono hb⟩
theorem RdOK.mono {B B' : Nat} {w : World} {d : DC} {p : DPl} (h : RdOK B w d p) (hb : B' ≤ B) : RdOK B' w d p := ⟨h.ty.mono hb, h.isT, h.ex.mono hb, h.isE⟩
/-- What an append leaves: only the row's own block, which is of its type, has changed. -/
theorem grown_kp {w w3 : World} {B n size : Nat} {v : Value} {xs : List Value} {t : TypeId} (h : w.ownsRow B t size v n xs) (hg : w.grownBy w3 v.ownBlock) : Kp t w w3 := fun k c t' fr hk hne => by
  obtain ⟨hlt, _⟩ := Array.getElem?_eq_some_iff.1 hk
  refine hg.block k hlt (fun e => ?_)
  rcases h.2 with ⟨rfl, _⟩ | ⟨g, cap, cur, rfl, _, hh, _⟩
  · cases e
  · have eg : k = g := by simpa [Value.ownBlock] using e
    subst eg
    rw [hh] at hk
    simp only [Option.some.injEq, Obj.cells.injEq] at hk
    exact hne hk.2.1.symm
theorem Kp.trans {t : TypeId} {w w1 w2 : World} (h : Kp t w w1) (h' : Kp t w1 w2) : Kp t w w2 := fun k c t' fr hk hne => by
  have e := h k c t' fr hk hne
  rw [h' k c t' fr (e.trans hk) hne, e]
theorem kp_alloc (t : TypeId) (w : World) (o : Obj) : Kp t w (w.alloc o) := fun k c t' fr hk _ => by
  obtain ⟨hlt, _⟩ := Array.getElem?_eq_some_iff.1 hk
  exact Below.heap_alloc _ _ _ hlt
theorem tiC_len (x : TI × NPl) : (tiC x).length = 4 := rfl
theorem eiC_len (x : EI × EPl) : (eiC x).length = 6 := rfl
theorem dcC_len (x : DC × DPl) : (dcC x).length = 4 := rfl
theorem kp_set {W : World} {X n : Nat} {t : TypeId} {f : Nat → Value} (R : W.rowIs X t n f) (k : Nat) (v : Value) : Kp t W (W.setCell ⟨X, k, none⟩ v) := fun b c t' fr hb hne => by
  refine Below.heap_setCell _ _ _ _ ?_
  show b ≠ X
  rintro rfl
  obtain ⟨c', hc', _⟩ := R
  rw [hc'] at hb
  simp only [Option.some.injEq, Obj.cells.injEq] at hb
  exact hne hb.2.1.symm
theorem own_len {w : World} {B n m k cp : Nat} {a : Option Addr} {xs : List Value} {t : TypeId} (h : w.ownsRow B t k (.slice a n cp) m xs) : n = m := by
  rcases h.2 with ⟨e, z⟩ | ⟨g, cap, cur, e, _⟩
  · simp only [Value.slice.injEq] at e; omega
  · simp only [Value.slice.injEq] at e; omega
theorem row1 (w : World) (a : Value) (t : TypeId) : (w.alloc (.cells #[a] t)).rowIs w.heap.size t 1 (fun _ => a) :=
  World.rowIs_alloc w #[a] t _ (fun i hi => by
    match i, hi with
    | 0, _ => rfl)
/-- Two values by their place. -/
def v2 (a b : Value) : Nat → Value := fun i => if i = 0 then a else b
theorem row2 (w : World) (a b : Value) (t : TypeId) : (w.alloc (.cells #[a, b] t)).rowIs w.heap.size t 2 (v2 a b) :=
  World.rowIs_alloc w #[a, b] t _ (fun i hi => by
    match i, hi with
    | 0, _ => rfl
    | 1, _ => rfl)
def v4 (a b c d : Value) : Nat → Value := fun i => if i = 0 then a else if i = 1 then b else if i = 2 then c else d
theorem row4 (w : World) (a b c d : Value) (t : TypeId) : (w.alloc (.cells #[a, b, c, d] t)).rowIs w.heap.size t 4 (v4 a b c d) :=
  World.rowIs_alloc w #[a, b, c, d] t _ (fun i hi => by
    match i, hi with
    | 0, _ => rfl
    | 1, _ => rfl
    | 2, _ => rfl
    | 3, _ => rfl)
theorem row_drew {w : World} {b n : Nat} {t : TypeId} {f : Nat → Value} (h : w.rowIs b t n f) : w.drew.rowIs b t n f := h
theorem RT.drew {B : Nat} {w : World} {v : Value} {xs : List (TI × NPl)} (h : RT B w v xs) : RT B w.drew v xs := ⟨h.own, h.nm⟩
theorem RE.drew {B : Nat} {w : World} {v : Value} {xs : List (EI × EPl)} (h : RE B w v xs) : RE B w.drew v xs := ⟨h.own, fun x hx => ⟨(h.ok x hx).nm, (h.ok x hx).ty.drew, (h.ok x hx).is⟩⟩

end Go.Proofs.YtcehppndpccldaaDoor

namespace Go.Proofs.YtcehppndpccldaaDoor

/-- How an item is printed. -/
structure Fm where
  lev : Nat
  needs : List Nat
  texts : List ByteArray
abbrev Wh := ByteArray × Nat

def sL : ByteArray := ⟨#[40]⟩
def sR : ByteArray := ⟨#[41]⟩
/-- A part, in brackets if its level is below. -/
def brk (need : Nat) (x : Wh) : ByteArray := if x.2 < need then sL ++ x.1 ++ sR else x.1
def arnd : List Nat → List ByteArray → List Wh → ByteArray
  | n :: ns, t :: ts, p :: ps => t ++ brk n p ++ arnd ns ts ps
  | _, t :: _, _ => t
  | _, [], _ => e0
def szW (st : List Wh) : Nat := (st.map fun x => x.1.size).sum

/-- The stack behind k items. -/
def stk (F : Nat → Fm) : Nat → List Wh
  | 0 => []
  | k + 1 => (stk F k).take ((stk F k).length - (F k).needs.length) ++ [(arnd (F k).needs (F k).texts ((stk F k).drop ((stk F k).length - (F k).needs.length)), (F k).lev)]
/-- The ends of what stands on the stack. -/
def en (a : Nat → Nat) : Nat → List Nat
  | 0 => []
  | k + 1 => (en a k).take ((en a k).length - a k) ++ [k + 1]
/-- How many stand there, if all items fit. -/
def vld (ar : Nat → Option Nat) : Nat → Option Nat
  | 0 => some 0
  | k + 1 => match vld ar k, ar k with
    | some h, some n => if n ≤ h then some (h - n + 1) else none
    | _, _ => none
/-- The place where what ends there begins, counted backwards. -/
def back (a : Nat → Nat) : Nat → Nat → Nat
  | 0, _ => 0
  | i + 1, need => if need = 0 then i + 1 else back a i (need - 1 + a i)
/-- The ends of the parts. -/
def pts (a : Nat → Nat) : Nat → Nat → List Nat
  | 0, _ => []
  | n + 1, at_ => pts a n (back a at_ 1) ++ [at_]

theorem back_zero (a : Nat → Nat) (i : Nat) : back a i 0 = i := by cases i <;> simp [back]
theorem back_le (a : Nat → Nat) : ∀ i need, back a i need ≤ i
  | 0, _ => Nat.le_refl _
  | i + 1, need => by
    rw [back]
    split
    · exact Nat.le_refl _
    · exact Nat.le_trans (back_le a i _) (Nat.le_succ _)

/-- All items up to there find their parts. -/
def Vk (a : Nat → Nat) (k : Nat) : Prop := ∀ j, j < k → a j ≤ (en a j).length
theorem Vk.mono {a : Nat → Nat} {j k : Nat} (h : Vk a k) (hj : j ≤ k) : Vk a j := fun i hi => h i (Nat.lt_of_lt_of_le hi hj)
theorem en_len {a : Nat → Nat} {k : Nat} (h : a k ≤ (en a k).length) : (en a (k + 1)).length + a k = (en a k).length + 1 := by
  rw [en, List.length_append, List.length_take]
  simp only [List.length_singleton]
  omega
theorem vld_en {ar : Nat → Option Nat} {a : Nat → Nat} : ∀ {k h : Nat}, (∀ j n, j < k → ar j = some n → a j = n) → vld ar k = some h → Vk a k ∧ (en a k).length = h ∧ ∀ j, j < k → ar j = some (a j)
  | 0, h, _, e => by
    cases e
    exact ⟨fun j hj => absurd hj (Nat.not_lt_zero _), rfl, fun j hj => absurd hj (Nat.not_lt_zero _)⟩
  | k + 1, h, ha, e => by
    rw [vld] at e
    cases e1 : vld ar k with
    | none => rw [e1] at e; cases e
    | some h0 =>
      cases e2 : ar k with
      | none => rw [e1, e2] at e; cases e
      | some n =>
        rw [e1, e2] at e
        dsimp only at e
        split at e
        case isTrue hn =>
          cases e
          obtain ⟨h1, h2, h3⟩ := vld_en (fun j n hj => ha j n (Nat.lt_succ_of_lt hj)) e1
          have an := ha k n (Nat.lt_succ_self _) e2
          have hk : a k ≤ (en a k).length := by omega
          refine ⟨fun j hj => ?_, by have := en_len hk; omega, fun j hj => ?_⟩
          · by_cases z : j = k
            · rw [z]; exact hk
            · exact h1 j (by omega)
          · by_cases z : j = k
            · rw [z, e2, an]
            · exact h3 j (by omega)
        case isFalse => cases e

theorem en_last (a : Nat → Nat) (k : Nat) : (en a (k + 1))[(en a (k + 1)).length - 1]? = some (k + 1) := by
  rw [en, List.length_append]
  simp
/-- The end of what stands below the last m. -/
def pos (es : List Nat) (m : Nat) : Nat := if es.length ≤ m then 0 else es.getD (es.length - m - 1) 0
theorem pos_zero (a : Nat → Nat) (k : Nat) : pos (en a k) 0 = k := by
  cases k with
  | zero => rfl
  | succ k =>
    have hl : 0 < (en a (k + 1)).length := by rw [en, List.length_append]; simp
    unfold pos
    rw [if_neg (by omega), Nat.sub_zero, List.getD_eq_getElem?_getD, en_last]
    rfl
theorem back_en {a : Nat → Nat} : ∀ (k m r : Nat), Vk a k → m ≤ (en a k).length → back a k (m + r) = back a (pos (en a k) m) r
  | k, 0, r, _, _ => by rw [pos_zero, Nat.zero_add]
  | 0, m + 1, r, _, hm => absurd hm (by simp [en])
  | k + 1, m + 1, r, hv, hm => by
    have hk := hv k (Nat.lt_succ_self _)
    have hl := en_len hk
    rw [back, if_neg (by omega), show m + 1 + r - 1 + a k = m + a k + r by omega, back_en k (m + a k) r (hv.mono (Nat.le_succ _)) (by omega)]
    congr 1
    unfold pos
    by_cases z : (en a k).length ≤ m + a k
    · rw [if_pos z, if_pos (by omega)]
    · rw [if_neg z, if_neg (by omega)]
      rw [List.getD_eq_getElem?_getD, List.getD_eq_getElem?_getD]
      congr 1
      rw [show (en a (k + 1)).length - (m + 1) - 1 = (en a k).length - (m + a k) - 1 by omega]
      conv => rhs; rw [en]
      rw [List.getElem?_append_left (by rw [List.length_take]; omega), List.getElem?_take, if_pos (by omega)]
theorem en_pre {a : Nat → Nat} : ∀ {k : Nat}, Vk a k → ∀ {j e : Nat}, (en a k)[j]? = some e → en a e = (en a k).take (j + 1) ∧ 0 < e ∧ e ≤ k
  | 0, _, j, e, h => by simp [en] at h
  | k + 1, hv, j, e, h => by
    have hk := hv k (Nat.lt_succ_self _)
    have hl := en_len hk
    have hj : j < (en a (k + 1)).length := by
      obtain ⟨hj, _⟩ := List.getElem?_eq_some_iff.1 h
      exact hj
    by_cases z : j = (en a (k + 1)).length - 1
    · rw [z, en_last] at h
      cases h
      exact ⟨by rw [List.take_of_length_le (by omega)], Nat.succ_pos _, Nat.le_refl _⟩
    · have h2 : (en a k)[j]? = some e := by
        rw [en, List.getElem?_append_left (by rw [List.length_take]; omega), List.getElem?_take, if_pos (by omega)] at h
        exact h
      obtain ⟨p1, p2, p3⟩ := en_pre (hv.mono (Nat.le_succ _)) h2
      refine ⟨?_, p2, by omega⟩
      rw [p1]
      conv => rhs; rw [en]
      rw [List.take_append_of_le_length (by rw [List.length_take]; omega), List.take_take, Nat.min_eq_left (by omega)]
/-- The parts of the item at k are the last on the stack. -/
theorem pts_en {a : Nat → Nat} : ∀ (n k : Nat), Vk a k → n ≤ (en a k).length → pts a n k = (en a k).drop ((en a k).length - n)
  | 0, k, _, _ => by rw [pts, Nat.sub_zero, List.drop_length]
  | n + 1, k, hv, hn => by
    have hk : ∃ k', k = k' + 1 := by
      cases k with
      | zero => simp [en] at hn
      | succ k' => exact ⟨k', rfl⟩
    obtain ⟨k', rfl⟩ := hk
    have lst := en_last a k'
    obtain ⟨es, hes⟩ : ∃ es, es = en a (k' + 1) := ⟨_, rfl⟩
    have hb : back a (k' + 1) 1 = pos es 1 := by
      have := back_en (a := a) (k' + 1) 1 0 hv (by omega)
      rw [back_zero] at this
      rw [hes]; exact this
    rw [← hes] at hn lst ⊢
    have hlast : es.drop (es.length - 1) = [k' + 1] := by
      rw [List.drop_eq_getElem_cons (by omega), List.drop_of_length_le (by omega)]
      obtain ⟨h1, h2⟩ := List.getElem?_eq_some_iff.1 lst
      rw [h2]
    have hsplit : es.drop (es.length - (n + 1)) = (es.take (es.length - 1)).drop (es.length - (n + 1)) ++ [k' + 1] := by
      have e : es.take (es.length - 1) ++ [k' + 1] = es := by rw [← hlast, List.take_append_drop]
      have d := List.drop_append_of_le_length (l₁ := es.take (es.length - 1)) (l₂ := [k' + 1]) (i := es.length - (n + 1)) (by rw [List.length_take]; omega)
      rw [e] at d
      exact d
    rw [pts, hsplit, hb]
    congr 1
    by_cases h1 : es.length ≤ 1
    · have hn0 : n = 0 := by omega
      subst hn0
      rw [pts, List.drop_of_length_le (by rw [List.length_take]; omega)]
    · have hp : es[es.length - 2]? = some (pos es 1) := by
        unfold pos
        rw [if_neg (by omega), List.getD_eq_getElem?_getD, show es.length - 1 - 1 = es.length - 2 by omega, List.getElem?_eq_getElem (by omega)]
        rfl
      have pre := en_pre hv (by rw [← hes]; exact hp)
      rw [← hes, show es.length - 2 + 1 = es.length - 1 by omega] at pre
      rw [pts_en n (pos es 1) (hv.mono pre.2.2) (by rw [pre.1, List.length_take]; omega), pre.1, List.length_take, Nat.min_eq_left (by omega)]
      congr 1
      omega

theorem stk_len (F : Nat → Fm) : ∀ k, (stk F k).length = (en (fun i => (F i).needs.length) k).length
  | 0 => rfl
  | k + 1 => by rw [stk, en, List.length_append, List.length_append, List.length_take, List.length_take, stk_len F k]; rfl
/-- What is printed of what ends at k. -/
def pw (F : Nat → Fm) : Nat → Wh
  | 0 => (e0, 0)
  | k + 1 => (arnd (F k).needs (F k).texts ((stk F k).drop ((stk F k).length - (F k).needs.length)), (F k).lev)
theorem stk_en (F : Nat → Fm) : ∀ k, stk F k = (en (fun i => (F i).needs.length) k).map (pw F)
  | 0 => rfl
  | k + 1 => by
    rw [stk, en, List.map_append, List.map_take, ← stk_en F k, ← stk_len F k]
    rfl
/-- How the model prints: by the ends of the parts. -/
theorem pw_eq {F : Nat → Fm} {k : Nat} (hv : Vk (fun i => (F i).needs.length) (k + 1)) : pw F (k + 1) = (arnd (F k).needs (F k).texts ((pts (fun i => (F i).needs.length) (F k).needs.length k).map (pw F)), (F k).lev) := by
  rw [pw, pts_en _ _ (hv.mono (Nat.le_succ _)) (hv k (Nat.lt_succ_self _)), List.map_drop, ← stk_en, stk_len]

/- How long. -/
theorem szW_app (x y : List Wh) : szW (x ++ y) = szW x + szW y := by unfold szW; rw [List.map_append, List.sum_append]
theorem szW_one (x : Wh) : szW [x] = x.1.size := by simp [szW]
theorem szW_take (x : List Wh) (n : Nat) : szW (x.take n) + szW (x.drop n) = szW x := by rw [← szW_app, List.take_append_drop]
theorem brk_ge (n : Nat) (x : Wh) : x.1.size ≤ (brk n x).size ∧ (brk n x).size ≤ x.1.size + 2 := by
  unfold brk
  split
  · rw [ByteArray.size_append, ByteArray.size_append]
    have h1 : sL.size = 1 := rfl
    have h2 : sR.size = 1 := rfl
    omega
  · omega
/-- All letters of a form. -/
def ltF (ts : List ByteArray) : Nat := (ts.map ByteArray.size).sum
theorem arnd_ge : ∀ (ns : List Nat) (ts : List ByteArray) (ps : List Wh), ts.length = ns.length + 1 → ps.length = ns.length → szW ps + ltF ts ≤ (arnd ns ts ps).size ∧ (arnd ns ts ps).size ≤ szW ps + ltF ts + 2 * ns.length
  | [], t :: ts, ps, h1, h2 => by
    have e1 : ts = [] := List.length_eq_zero_iff.1 (by simpa using h1)
    have e2 : ps = [] := List.length_eq_zero_iff.1 (by simpa using h2)
    subst e1 e2
    simp [arnd, szW, ltF]
  | n :: ns, t :: ts, p :: ps, h1, h2 => by
    have ih := arnd_ge ns ts ps (by simpa using h1) (by simpa using h2)
    have hb := brk_ge n p
    rw [arnd, ByteArray.size_append, ByteArray.size_append]
    have e1 : szW (p :: ps) = p.1.size + szW ps := by simp [szW]
    have e2 : ltF (t :: ts) = t.size + ltF ts := by simp [ltF]
    rw [e1, e2, List.length_cons]
    omega
  | [], [], _, h1, _ => by simp at h1
  | _ :: _, [], _, h1, _ => by simp at h1
  | _ :: _, _ :: _, [], _, h2 => by simp at h2

structure FOk (f : Fm) : Prop where
  texts : f.texts.length = f.needs.length + 1
theorem stk_step {F : Nat → Fm} {k : Nat} (hF : FOk (F k)) (hn : (F k).needs.length ≤ (stk F k).length) : szW (stk F k) + ltF (F k).texts ≤ szW (stk F (k + 1)) ∧ szW (stk F (k + 1)) ≤ szW (stk F k) + ltF (F k).texts + 2 * (F k).needs.length := by
  have h1 := arnd_ge (F k).needs (F k).texts ((stk F k).drop ((stk F k).length - (F k).needs.length)) hF.texts (by rw [List.length_drop]; omega)
  have h2 := szW_take (stk F k) ((stk F k).length - (F k).needs.length)
  rw [stk, szW_app, szW_one]
  show _ ∧ _ + (arnd _ _ _).size ≤ _
  have : szW (stk F k) + ltF (F k).texts ≤ szW ((stk F k).take ((stk F k).length - (F k).needs.length)) + (arnd (F k).needs (F k).texts ((stk F k).drop ((stk F k).length - (F k).needs.length))).size := by omega
  exact ⟨this, by omega⟩

end Go.Proofs.YtcehppndpccldaaDoor

namespace Go.Proofs.YtcehppndpccldaaDoor

def xInt : ByteArray := ⟨#[105, 110, 116]⟩
def xBool : ByteArray := ⟨#[98, 111, 111, 108]⟩
def xAny : ByteArray := ⟨#[63]⟩
def xArr : ByteArray := ⟨#[32, 45, 62, 32]⟩
def xColon : ByteArray := ⟨#[58]⟩
def xCs : ByteArray := ⟨#[58, 32]⟩
def xEs : ByteArray := ⟨#[32, 61, 32]⟩
def xCm : ByteArray := ⟨#[44, 32]⟩
def xO : ByteArray := ⟨#[123]⟩
def xC : ByteArray := ⟨#[125]⟩
def xOC : ByteArray := ⟨#[123, 125]⟩
def xTrue : ByteArray := ⟨#[116, 114, 117, 101]⟩
def xFalse : ByteArray := ⟨#[102, 97, 108, 115, 101]⟩
def xDot : ByteArray := ⟨#[46]⟩
def xFun : ByteArray := ⟨#[102, 117, 110, 40]⟩
def xFn2 : ByteArray := ⟨#[41, 32]⟩
def xIf : ByteArray := ⟨#[105, 102, 32]⟩
def xThen : ByteArray := ⟨#[32, 116, 104, 101, 110, 32]⟩
def xElse : ByteArray := ⟨#[32, 101, 108, 115, 101, 32]⟩
def xAdd : ByteArray := ⟨#[32, 43, 32]⟩
def xLess : ByteArray := ⟨#[32, 60, 32]⟩
def xImp : ByteArray := ⟨#[105, 109, 112, 111, 114, 116, 32]⟩
def xTyp : ByteArray := ⟨#[116, 121, 112, 101, 32]⟩
def xVal : ByteArray := ⟨#[118, 97, 108, 32]⟩
def xEnd : ByteArray := ⟨#[59, 10]⟩

def digits10 : ByteArray := ⟨#[48, 49, 50, 51, 52, 53, 54, 55, 56, 57]⟩
/-- The digits of a number. -/
def digs (n : Nat) : ByteArray := if n < 10 then digits10.extract n (n + 1) else digs (n / 10) ++ digits10.extract (n % 10) (n % 10 + 1)
termination_by n
decreasing_by omega
theorem dig_one (d : Nat) (h : d < 10) : (digits10.extract d (d + 1)).size = 1 := by
  have : digits10.size = 10 := rfl
  rw [ByteArray.size_extract]; omega
theorem digs_size : ∀ (k n : Nat), n < 10 ^ k → 1 ≤ k → (digs n).size ≤ k := by
  intro k
  induction k with
  | zero => intro n _ h; omega
  | succ k ih =>
    intro n hn _
    rw [digs]
    split
    · rename_i h; rw [dig_one n h]; omega
    · rename_i h
      rw [ByteArray.size_append, dig_one _ (Nat.mod_lt _ (by omega))]
      have hk : 1 ≤ k := by
        rcases Nat.eq_zero_or_pos k with rfl | h
        · simp at hn; omega
        · exact h
      have := ih (n / 10) (by rw [Nat.pow_succ] at hn; omega) hk
      omega
def shN (n : Nat) : ByteArray := digs n

def pth (md nm : ByteArray) : ByteArray := if md.size = 0 then nm else md ++ xColon ++ nm
def gPth (md nm : ByteArray) : Bool := gn nm && (decide (md.size = 0) || gn md)
/-- Names that are good and all different. -/
def nmOk (ns : List ByteArray) : Bool := (List.range ns.length).all fun i => gn (ns.getD i e0) && !hasN (ns.take i) (ns.getD i e0)
/-- The texts of a record. -/
def brT (sign : ByteArray) : ByteArray → List ByteArray → List ByteArray
  | _, [] => [xC]
  | ah, n :: ns => (ah ++ n ++ sign) :: brT sign xCm ns
def brc (ns : List ByteArray) (sign : ByteArray) (lev : Nat) : Fm := if ns.length = 0 then ⟨lev, [], [xOC]⟩ else ⟨lev, List.replicate ns.length 0, brT sign xO ns⟩

def fT (t : TI) : Option Fm :=
  if t.op = 4 then (if gPth t.md t.nm && decide (t.ns.length = 0) then some ⟨1, [], [pth t.md t.nm]⟩ else none)
  else if t.md.size = 0 ∧ t.nm.size = 0 then
    if t.op = 5 then (if nmOk t.ns then some (brc t.ns xCs 1) else none)
    else if t.ns.length = 0 then
      if t.op = 1 then some ⟨1, [], [xInt]⟩
      else if t.op = 2 then some ⟨1, [], [xBool]⟩
      else if t.op = 3 then some ⟨1, [], [xAny]⟩
      else if t.op = 6 then some ⟨0, [1, 0], [e0, xArr, e0]⟩
      else none
    else none
  else none
def fm0 : Fm := ⟨0, [], [e0]⟩
def FT (ts : List TI) (i : Nat) : Fm := ((ts[i]?).bind fT).getD fm0
def aT (ts : List TI) (i : Nat) : Option Nat := ((ts[i]?).bind fT).map fun f => f.needs.length
/-- One whole type. -/
def okT (ts : List TI) : Bool := vld (aT ts) ts.length == some 1
def prT (ts : List TI) : ByteArray := (pw (FT ts) ts.length).1

def fE (e : EI) : Option Fm :=
  if e.op = 3 then (if gPth e.md e.nm && decide (e.num = 0) && decide (e.ns.length = 0) && decide (e.ty.length = 0) then some ⟨4, [], [pth e.md e.nm]⟩ else none)
  else if e.md.size = 0 then
    if e.op = 6 then (if gn e.nm && okT e.ty && decide (e.num = 0) && decide (e.ns.length = 0) then some ⟨0, [0], [xFun ++ e.nm ++ xCs ++ prT e.ty ++ xFn2, e0]⟩ else none)
    else if e.ty.length = 0 then
      if e.op = 5 then (if gn e.nm && decide (e.num = 0) && decide (e.ns.length = 0) then some ⟨3, [3], [e0, xDot ++ e.nm]⟩ else none)
      else if e.nm.size = 0 then
        if e.op = 4 then (if decide (e.num = 0) && nmOk e.ns then some (brc e.ns xEs 4) else none)
        else if e.ns.length = 0 then
          if e.op = 1 then (if 0 ≤ e.num ∧ e.num ≤ 999999999 then some ⟨4, [], [shN e.num.toNat]⟩ else none)
          else if e.op = 2 then (if e.num = 0 then some ⟨4, [], [xFalse]⟩ else if e.num = 1 then some ⟨4, [], [xTrue]⟩ else none)
          else if e.num = 0 then
            if e.op = 7 then some ⟨3, [3, 0], [e0, sL, sR]⟩
            else if e.op = 8 then some ⟨0, [0, 0, 0], [xIf, xThen, xElse, e0]⟩
            else if e.op = 9 then some ⟨2, [2, 3], [e0, xAdd, e0]⟩
            else if e.op = 10 then some ⟨1, [2, 2], [e0, xLess, e0]⟩
            else none
          else none
        else none
      else none
    else none
  else none
def FE (es : List EI) (i : Nat) : Fm := ((es[i]?).bind fE).getD fm0
def aE (es : List EI) (i : Nat) : Option Nat := ((es[i]?).bind fE).map fun f => f.needs.length
def okE (es : List EI) : Bool := vld (aE es) es.length == some 1
def prE (es : List EI) : ByteArray := (pw (FE es) es.length).1

def okD (d : DC) : Bool := gn d.nm && (
  if d.kind = 1 then decide (d.ty.length = 0) && decide (d.ex.length = 0)
  else if d.kind = 2 then okT d.ty && decide (d.ex.length = 0)
  else decide (d.kind = 3) && okT d.ty && okE d.ex)
def prD (d : DC) : ByteArray :=
  if d.kind = 1 then xImp ++ d.nm ++ xEnd
  else if d.kind = 2 then xTyp ++ d.nm ++ xEs ++ prT d.ty ++ xEnd
  else xVal ++ d.nm ++ xCs ++ prT d.ty ++ xEs ++ prE d.ex ++ xEnd
def prDs : List DC → ByteArray
  | [] => e0
  | d :: ds => prD d ++ prDs ds
/-- A module that can be printed. -/
def okM (ds : List DC) : Bool := ds.all okD && decide ((prDs ds).size ≤ 1000)
def prM (ds : List DC) : ByteArray := if okM ds then prDs ds else e0

theorem brT_len (sign : ByteArray) : ∀ (ah : ByteArray) (ns : List ByteArray), (brT sign ah ns).length = ns.length + 1
  | _, [] => rfl
  | _, _ :: ns => by rw [brT, List.length_cons, brT_len sign _ ns, List.length_cons]
theorem brc_ok (ns : List ByteArray) (sign : ByteArray) (lev : Nat) : FOk (brc ns sign lev) ∧ (brc ns sign lev).needs.length = ns.length ∧ (brc ns sign lev).lev = lev := by
  unfold brc
  split
  case isTrue h => exact ⟨⟨rfl⟩, h.symm, rfl⟩
  case isFalse h => exact ⟨⟨by rw [brT_len, List.length_replicate]⟩, List.length_replicate, rfl⟩
theorem fT_ok {t : TI} {f : Fm} (h : fT t = some f) : FOk f := by
  unfold fT at h
  repeat' split at h
  all_goals first | (cases h; exact ⟨rfl⟩) | (cases h; exact (brc_ok _ _ _).1) | cases h
theorem if_some {c : Prop} [Decidable c] {x y : Option Fm} {f : Fm} {P : Prop} (h : (if c then x else y) = some f) (h1 : x = some f → P) (h2 : y = some f → P) : P := by
  split at h
  · exact h1 h
  · exact h2 h
theorem none_some {f : Fm} {P : Prop} (h : (none : Option Fm) = some f) : P := by cases h
theorem some_ok {f g : Fm} (hg : FOk g) (h : some g = some f) : FOk f := by cases h; exact hg
theorem fE_ok {t : EI} {f : Fm} (h : fE t = some f) : FOk f := by
  unfold fE at h
  refine if_some h (fun h => if_some h (some_ok ⟨rfl⟩) none_some) fun h => ?_
  refine if_some h (fun h => ?_) none_some
  refine if_some h (fun h => if_some h (some_ok ⟨rfl⟩) none_some) fun h => ?_
  refine if_some h (fun h => ?_) none_some
  refine if_some h (fun h => if_some h (some_ok ⟨rfl⟩) none_some) fun h => ?_
  refine if_some h (fun h => ?_) none_some
  refine if_some h (fun h => if_some h (some_ok (brc_ok _ _ _).1) none_some) fun h => ?_
  refine if_some h (fun h => ?_) none_some
  refine if_some h (fun h => if_some h (some_ok ⟨rfl⟩) none_some) fun h => ?_
  refine if_some h (fun h => if_some h (some_ok ⟨rfl⟩) (fun h => if_some h (some_ok ⟨rfl⟩) none_some)) fun h => ?_
  refine if_some h (fun h => ?_) none_some
  refine if_some h (some_ok ⟨rfl⟩) fun h => ?_
  refine if_some h (some_ok ⟨rfl⟩) fun h => ?_
  refine if_some h (some_ok ⟨rfl⟩) fun h => ?_
  exact if_some h (some_ok ⟨rfl⟩) none_some
theorem FT_ok (ts : List TI) (i : Nat) : FOk (FT ts i) := by
  unfold FT
  cases h : (ts[i]?).bind fT with
  | none => exact ⟨rfl⟩
  | some f =>
    obtain ⟨t, _, ht⟩ := Option.bind_eq_some_iff.1 h
    exact fT_ok ht
theorem FE_ok (ts : List EI) (i : Nat) : FOk (FE ts i) := by
  unfold FE
  cases h : (ts[i]?).bind fE with
  | none => exact ⟨rfl⟩
  | some f =>
    obtain ⟨t, _, ht⟩ := Option.bind_eq_some_iff.1 h
    exact fE_ok ht
theorem aT_F {ts : List TI} {i n : Nat} (h : aT ts i = some n) : (FT ts i).needs.length = n := by
  unfold aT at h
  unfold FT
  cases e : (ts[i]?).bind fT with
  | none => rw [e] at h; cases h
  | some f => rw [e] at h; exact Option.some.inj h
theorem aE_F {ts : List EI} {i n : Nat} (h : aE ts i = some n) : (FE ts i).needs.length = n := by
  unfold aE at h
  unfold FE
  cases e : (ts[i]?).bind fE with
  | none => rw [e] at h; cases h
  | some f => rw [e] at h; exact Option.some.inj h

/-- The program's stack, with a limit on its letters. -/
def rn (fo : Nat → Option Fm) (lim : Nat) : Nat → Option (List Wh)
  | 0 => some []
  | k + 1 => match rn fo lim k, fo k with
    | some st, some f =>
      if f.needs.length ≤ st.length then
        if szW (st.take (st.length - f.needs.length) ++ [(arnd f.needs f.texts (st.drop (st.length - f.needs.length)), f.lev)]) ≤ lim then some (st.take (st.length - f.needs.length) ++ [(arnd f.needs f.texts (st.drop (st.length - f.needs.length)), f.lev)]) else none
      else none
    | _, _ => none
/-- It is the stack of all that fits, where that is within the limit. -/
theorem rn_eq {fo : Nat → Option Fm} {F : Nat → Fm} {lim : Nat} (hF : ∀ i f, fo i = some f → F i = f ∧ FOk f) : ∀ k, rn fo lim k = if (vld (fun i => (fo i).map fun f => f.needs.length) k).isSome && decide (szW (stk F k) ≤ lim) then some (stk F k) else none
  | 0 => by simp [rn, vld, stk, szW]
  | k + 1 => by
    rw [rn, rn_eq hF k, vld]
    cases hv : vld (fun i => (fo i).map fun f => f.needs.length) k with
    | none => simp
    | some h =>
      cases hf : fo k with
      | none => simp
      | some f =>
        obtain ⟨e1, e2⟩ := hF k f hf
        have va : ∀ j n, j < k → (fun i => (fo i).map fun f => f.needs.length) j = some n → (fun i => (F i).needs.length) j = n := fun j n _ hj => by
          dsimp only at hj ⊢
          cases hfj : fo j with
          | none => rw [hfj] at hj; cases hj
          | some g => rw [hfj] at hj; rw [(hF j g hfj).1]; exact Option.some.inj hj
        obtain ⟨_, hl, _⟩ := vld_en va hv
        have hlen : (stk F k).length = h := by rw [stk_len, hl]
        dsimp only [Option.map_some]
        by_cases hn : f.needs.length ≤ h
        · have st := stk_step (F := F) (k := k) (by rw [e1]; exact e2) (by rw [e1, hlen]; exact hn)
          have es : stk F (k + 1) = (stk F k).take ((stk F k).length - f.needs.length) ++ [(arnd f.needs f.texts ((stk F k).drop ((stk F k).length - f.needs.length)), f.lev)] := by rw [stk, e1]
          simp only [if_pos hn]
          by_cases hs : szW (stk F k) ≤ lim
          · simp only [Option.isSome_some, Bool.true_and, hs, decide_true, if_true]
            rw [← es, if_pos (by rw [hlen]; exact hn)]
            simp
          · have : ¬ szW (stk F (k + 1)) ≤ lim := by omega
            simp [hs, this]
        · simp only [if_neg hn]
          by_cases hs : szW (stk F k) ≤ lim
          · simp only [Option.isSome_some, Bool.true_and, hs, decide_true, if_true]
            rw [if_neg (by rw [hlen]; exact hn)]
            simp
          · simp [hs]
/-- A form may be missing where its letters alone are too many. -/
theorem rn_less {fo fo' : Nat → Option Fm} {lim : Nat} (h : ∀ i, fo' i = fo i ∨ (fo' i = none ∧ ∀ f, fo i = some f → FOk f ∧ lim < ltF f.texts)) : ∀ k, rn fo' lim k = rn fo lim k
  | 0 => rfl
  | k + 1 => by
    rw [rn, rn, rn_less h k]
    rcases h k with e | ⟨e, hb⟩
    · rw [e]
    · rw [e]
      cases rn fo lim k with
      | none => rfl
      | some st =>
        cases hf : fo k with
        | none => rfl
        | some f =>
          obtain ⟨ok, hl⟩ := hb f hf
          dsimp only
          by_cases hn : f.needs.length ≤ st.length
          · rw [if_pos hn]
            have := (arnd_ge f.needs f.texts (st.drop (st.length - f.needs.length)) ok.texts (by rw [List.length_drop]; omega)).1
            rw [if_neg]
            rw [szW_app, szW_one]
            show ¬ _ + (arnd _ _ _).size ≤ _
            omega
          · rw [if_neg hn]
/-- What the program prints of a list. -/
def plF (fo : Nat → Option Fm) (lim n : Nat) : Option ByteArray := match rn fo lim n with
  | some [x] => some x.1
  | _ => none
theorem pl_eq {fo : Nat → Option Fm} {F : Nat → Fm} {lim : Nat} (hF : ∀ i f, fo i = some f → F i = f ∧ FOk f) (n : Nat) : plF fo lim n = if vld (fun i => (fo i).map fun f => f.needs.length) n = some 1 ∧ (pw F n).1.size ≤ lim then some (pw F n).1 else none := by
  unfold plF
  rw [rn_eq hF]
  cases hv : vld (fun i => (fo i).map fun f => f.needs.length) n with
  | none => simp
  | some h =>
    have va : ∀ j m, j < n → (fun i => (fo i).map fun f => f.needs.length) j = some m → (fun i => (F i).needs.length) j = m := fun j m _ hj => by
      dsimp only at hj ⊢
      cases hfj : fo j with
      | none => rw [hfj] at hj; cases hj
      | some g => rw [hfj] at hj; rw [(hF j g hfj).1]; exact Option.some.inj hj
    obtain ⟨_, hl, _⟩ := vld_en va hv
    have hlen : (stk F n).length = h := by rw [stk_len, hl]
    by_cases h1 : h = 1
    · subst h1
      have e : stk F n = [pw F n] := by
        cases n with
        | zero => simp [stk] at hlen
        | succ k =>
          rw [stk] at hlen ⊢
          have : (stk F k).take ((stk F k).length - (F k).needs.length) = [] := List.length_eq_zero_iff.1 (by rw [List.length_append] at hlen; simp only [List.length_singleton] at hlen; omega)
          rw [this]; rfl
      rw [e, szW_one]
      by_cases hs : (pw F n).1.size ≤ lim
      · simp [hs]
      · simp [hs]
    · have hne : ¬ (some h = some 1) := fun e => h1 (Option.some.inj e)
      simp only [if_neg (fun z : some h = some 1 ∧ (pw F n).1.size ≤ lim => hne z.1)]
      by_cases hs : szW (stk F n) ≤ lim
      · simp only [Option.isSome_some, Bool.true_and, hs, decide_true, if_true]
        cases hst : stk F n with
        | nil => rfl
        | cons x l =>
          cases l with
          | nil => rw [hst] at hlen; exact absurd hlen.symm h1
          | cons y l => rfl
      · simp [hs]

/-- The program's types. -/
theorem pl_T (ts : List TI) (lim : Nat) : plF (fun i => (ts[i]?).bind fT) lim ts.length = if okT ts = true ∧ (prT ts).size ≤ lim then some (prT ts) else none := by
  rw [pl_eq (F := FT ts) (fun i f hf => ?_)]
  · have : (vld (fun i => ((ts[i]?).bind fT).map fun f => f.needs.length) ts.length = some 1) ↔ okT ts = true := by
      unfold okT
      rw [beq_iff_eq]
      exact Iff.rfl
    unfold prT
    simp only [this]
  · exact ⟨by unfold FT; rw [hf]; rfl, by obtain ⟨t, _, ht⟩ := Option.bind_eq_some_iff.1 hf; exact fT_ok ht⟩
/-- The form that the program finds: none where a parameter's type is too long. -/
def fEp (lim : Nat) (e : EI) : Option Fm := if e.op = 6 ∧ lim < (prT e.ty).size then none else fE e
theorem fE_fun {e : EI} {f : Fm} (h6 : e.op = 6) (h : fE e = some f) : ltF f.texts ≥ (prT e.ty).size := by
  unfold fE at h
  rw [if_neg (by omega)] at h
  refine if_some h (fun h => ?_) none_some
  rw [if_pos h6] at h
  refine if_some h (fun h => ?_) none_some
  cases h
  show (prT e.ty).size ≤ ltF _
  unfold ltF
  rw [List.map_cons, List.sum_cons, ByteArray.size_append, ByteArray.size_append]
  omega
theorem pl_E (es : List EI) (lim : Nat) : plF (fun i => (es[i]?).bind (fEp lim)) lim es.length = if okE es = true ∧ (prE es).size ≤ lim then some (prE es) else none := by
  have e1 : plF (fun i => (es[i]?).bind (fEp lim)) lim es.length = plF (fun i => (es[i]?).bind fE) lim es.length := by
    unfold plF
    rw [rn_less (fo := fun i => (es[i]?).bind fE) (fun i => ?_)]
    cases es[i]? with
    | none => exact Or.inl rfl
    | some e =>
      dsimp only [Option.bind_some]
      unfold fEp
      by_cases h : e.op = 6 ∧ lim < (prT e.ty).size
      · rw [if_pos h]
        refine Or.inr ⟨rfl, fun f hf => ⟨fE_ok hf, ?_⟩⟩
        have := fE_fun h.1 hf
        omega
      · rw [if_neg h]; exact Or.inl rfl
  rw [e1, pl_eq (F := FE es) (fun i f hf => ?_)]
  · have : (vld (fun i => ((es[i]?).bind fE).map fun f => f.needs.length) es.length = some 1) ↔ okE es = true := by
      unfold okE
      rw [beq_iff_eq]
      exact Iff.rfl
    unfold prE
    simp only [this]
  · exact ⟨by unfold FE; rw [hf]; rfl, by obtain ⟨t, _, ht⟩ := Option.bind_eq_some_iff.1 hf; exact fE_ok ht⟩

end Go.Proofs.YtcehppndpccldaaDoor

