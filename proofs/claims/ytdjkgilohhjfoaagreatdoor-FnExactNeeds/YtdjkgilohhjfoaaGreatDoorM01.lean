/-
  Merged for the claim: PaA PaB.
-/
import Derived.Test.YtdjkgilohhjfoaaGreatDoorM00
namespace Go.Proofs.YtdjkgilohhjfoaaGreatDoor

structure TI where
  op : Int
  md : ByteArray
  nm : ByteArray
  ns : List ByteArray
structure EI where
  op : Int
  num : Int
  md : ByteArray
  nm : ByteArray
  ns : List ByteArray
  ty : List TI
structure DC where
  kind : Int
  nm : ByteArray
  ty : List TI
  ex : List EI

def e0 : ByteArray := ByteArray.empty
def tyO (op : Int) : TI := ⟨op, e0, e0, []⟩
def exO (op : Int) : EI := ⟨op, 0, e0, e0, [], []⟩
def dBad : DC := ⟨0, e0, [], []⟩

/-- The text of a token. -/
def tx (ts : List TK) (i : Nat) : ByteArray := ((ts[i]?).map TK.txt).getD e0
/-- The token at a place has this text. -/
def isT (ts : List TK) (i : Nat) (s : List UInt8) : Bool := match ts[i]? with
  | some t => t.txt.data.toList == s
  | none => false
/-- The token at a place has this class. -/
def isC (ts : List TK) (i : Nat) (c : Int) : Bool := match ts[i]? with
  | some t => t.cls == c
  | none => false

theorem isT_lt {ts : List TK} {i : Nat} {s : List UInt8} (h : isT ts i s = true) : i < ts.length := by
  unfold isT at h
  by_cases hi : i < ts.length
  · exact hi
  · rw [List.getElem?_eq_none (by omega)] at h; cases h
theorem isC_lt {ts : List TK} {i : Nat} {c : Int} (h : isC ts i c = true) : i < ts.length := by
  unfold isC at h
  by_cases hi : i < ts.length
  · exact hi
  · rw [List.getElem?_eq_none (by omega)] at h; cases h
/-- One text at one place. -/
theorem isT_one {ts : List TK} {i : Nat} {s s' : List UInt8} (h : isT ts i s = true) (hne : s ≠ s') : isT ts i s' = false := by
  unfold isT at h ⊢
  cases e : ts[i]? with
  | none => rfl
  | some t =>
    rw [e] at h
    have h1 : t.txt.data.toList = s := by simpa using h
    show (t.txt.data.toList == s') = false
    rw [h1]; exact beq_eq_false_iff_ne.2 hne

def sInt : List UInt8 := [105, 110, 116]
def sBool : List UInt8 := [98, 111, 111, 108]
def sAny : List UInt8 := [63]
def sOpen : List UInt8 := [123]
def sShut : List UInt8 := [125]
def sLeft : List UInt8 := [40]
def sRight : List UInt8 := [41]
def sColon : List UInt8 := [58]
def sEq : List UInt8 := [61]
def sComma : List UInt8 := [44]
def sDot : List UInt8 := [46]
def sPlus : List UInt8 := [43]
def sLess : List UInt8 := [60]
def sArrow : List UInt8 := [45, 62]
def sSemi : List UInt8 := [59]
def sTrue : List UInt8 := [116, 114, 117, 101]
def sFalse : List UInt8 := [102, 97, 108, 115, 101]
def sFun : List UInt8 := [102, 117, 110]
def sIf : List UInt8 := [105, 102]
def sThen : List UInt8 := [116, 104, 101, 110]
def sElse : List UInt8 := [101, 108, 115, 101]
def sImport : List UInt8 := [105, 109, 112, 111, 114, 116]
def sType : List UInt8 := [116, 121, 112, 101]
def sVal : List UInt8 := [118, 97, 108]

/-- A name among the names. -/
def hasN (ns : List ByteArray) (s : ByteArray) : Bool := ns.any fun x => x.data.toList == s.data.toList

/-- Behind a name: the module's name, the name, the place. -/
def pathP (st : Bool) (ts : List TK) (i : Nat) : Option (ByteArray × ByteArray × Nat) :=
  if isT ts (i + 1) sColon then
    if isC ts (i + 2) 1 then some (tx ts i, tx ts (i + 2), i + 3)
    else if st then none else some (e0, tx ts i, i + 1)
  else some (e0, tx ts i, i + 1)

/-- The fields from a name on. -/
def floop {α : Type} (ts : List TK) (T : Nat → Option (List α × Nat)) (sg : List UInt8) : Nat → Nat → List ByteArray → List α → Option (List α × List ByteArray × Nat)
  | 0, _, _, _ => none
  | f + 1, j, ns, its =>
    if isC ts j 1 then
      if hasN ns (tx ts j) then none else
      if isT ts (j + 1) sg then
        match T (j + 2) with
        | none => none
        | some (l, k) =>
          if isT ts k sShut then some (its ++ l, ns ++ [tx ts j], k + 1)
          else if isT ts k sComma then floop ts T sg f (k + 1) (ns ++ [tx ts j]) (its ++ l) else none
      else none
    else none
/-- The fields behind the brace. -/
def fldsP {α : Type} (ts : List TK) (T : Nat → Option (List α × Nat)) (sg : List UInt8) (j : Nat) : Option (List α × List ByteArray × Nat) :=
  if isT ts j sShut then some ([], [], j + 1) else floop ts T sg (ts.length + 1) j [] []

/-- A part in brackets. -/
def brkP {α : Type} (ts : List TK) (T : Nat → Option (List α × Nat)) (i : Nat) : Option (List α × Nat) :=
  match T i with
  | none => none
  | some (l, j) => if isT ts j sRight then some (l, j + 1) else none

def baseP (st : Bool) (ts : List TK) (T : Nat → Option (List TI × Nat)) (i : Nat) : Option (List TI × Nat) :=
  if isC ts i 1 then
    match pathP st ts i with
    | none => none
    | some (m, n, j) => some ([⟨4, m, n, []⟩], j)
  else if isT ts i sInt then some ([tyO 1], i + 1)
  else if isT ts i sBool then some ([tyO 2], i + 1)
  else if isT ts i sAny then some ([tyO 3], i + 1)
  else if isT ts i sOpen then
    match fldsP ts T sColon (i + 1) with
    | none => none
    | some (its, ns, j) => some (its ++ [⟨5, e0, e0, ns⟩], j)
  else if isT ts i sLeft then brkP ts T (i + 1)
  else none

def tyP (st : Bool) (ts : List TK) : Nat → Nat → Option (List TI × Nat)
  | 0, _ => none
  | f + 1, i =>
    match baseP st ts (tyP st ts f) i with
    | none => none
    | some (l, j) =>
      if isT ts j sArrow then
        match tyP st ts f (j + 1) with
        | none => none
        | some (r, k) => some (l ++ r ++ [tyO 6], k)
      else some (l, j)

/-- The number that digits write. -/
def valN (s : List UInt8) : Int := s.foldl (fun n c => n * 10 + ((c.toNat : Int) - 48)) 0

def atomP (st : Bool) (ts : List TK) (E : Nat → Option (List EI × Nat)) (i : Nat) : Option (List EI × Nat) :=
  if isC ts i 1 then
    match pathP st ts i with
    | none => none
    | some (m, n, j) => some ([⟨3, 0, m, n, [], []⟩], j)
  else if isC ts i 3 then some ([⟨1, valN (tx ts i).data.toList, e0, e0, [], []⟩], i + 1)
  else if isT ts i sTrue then some ([⟨2, 1, e0, e0, [], []⟩], i + 1)
  else if isT ts i sFalse then some ([exO 2], i + 1)
  else if isT ts i sOpen then
    match fldsP ts E sEq (i + 1) with
    | none => none
    | some (its, ns, j) => some (its ++ [⟨4, 0, e0, e0, ns, []⟩], j)
  else if isT ts i sLeft then brkP ts E (i + 1)
  else none

def postL (ts : List TK) (E : Nat → Option (List EI × Nat)) : Nat → List EI → Nat → Option (List EI × Nat)
  | 0, _, _ => none
  | f + 1, its, j =>
    if isT ts j sDot then
      if isC ts (j + 1) 1 then postL ts E f (its ++ [⟨5, 0, e0, tx ts (j + 1), [], []⟩]) (j + 2) else none
    else if isT ts j sLeft then
      match brkP ts E (j + 1) with
      | none => none
      | some (l, k) => postL ts E f (its ++ l ++ [exO 7]) k
    else some (its, j)

def postP (st : Bool) (ts : List TK) (E : Nat → Option (List EI × Nat)) (i : Nat) : Option (List EI × Nat) :=
  match atomP st ts E i with
  | none => none
  | some (l, j) => postL ts E (ts.length + 1) l j

def sumL (st : Bool) (ts : List TK) (E : Nat → Option (List EI × Nat)) : Nat → List EI → Nat → Option (List EI × Nat)
  | 0, _, _ => none
  | f + 1, its, j =>
    if isT ts j sPlus then
      match postP st ts E (j + 1) with
      | none => none
      | some (l, k) => sumL st ts E f (its ++ l ++ [exO 9]) k
    else some (its, j)

def sumP (st : Bool) (ts : List TK) (E : Nat → Option (List EI × Nat)) (i : Nat) : Option (List EI × Nat) :=
  match postP st ts E i with
  | none => none
  | some (l, j) => sumL st ts E (ts.length + 1) l j

/-- Behind 'fun'. -/
def funP (st : Bool) (ts : List TK) (E : Nat → Option (List EI × Nat)) (i : Nat) : Option (List EI × Nat) :=
  if isT ts i sLeft && isC ts (i + 1) 1 && isT ts (i + 2) sColon then
    match tyP st ts (ts.length + 1) (i + 3) with
    | none => none
    | some (t, j) =>
      if isT ts j sRight then
        match E (j + 1) with
        | none => none
        | some (b, k) => some (b ++ [⟨6, 0, e0, tx ts (i + 1), [], t⟩], k)
      else none
  else none

/-- Behind 'if'. -/
def ifP (ts : List TK) (E : Nat → Option (List EI × Nat)) (i : Nat) : Option (List EI × Nat) :=
  match E i with
  | none => none
  | some (c, j) =>
    if isT ts j sThen then
      match E (j + 1) with
      | none => none
      | some (a, k) =>
        if isT ts k sElse then
          match E (k + 1) with
          | none => none
          | some (b, l) => some (c ++ a ++ b ++ [exO 8], l)
        else none
    else none

/-- One sum, or one below another. -/
def lessP (st : Bool) (ts : List TK) (E : Nat → Option (List EI × Nat)) (i : Nat) : Option (List EI × Nat) :=
  match sumP st ts E i with
  | none => none
  | some (l, j) =>
    if isT ts j sLess then
      match sumP st ts E (j + 1) with
      | none => none
      | some (r, k) => some (l ++ r ++ [exO 10], k)
    else some (l, j)

def exP (st : Bool) (ts : List TK) : Nat → Nat → Option (List EI × Nat)
  | 0, _ => none
  | f + 1, i =>
    if isT ts i sFun then funP st ts (exP st ts f) (i + 1)
    else if isT ts i sIf then ifP ts (exP st ts f) (i + 1)
    else lessP st ts (exP st ts f) i

/-- The declaration that the tokens of a piece are. -/
def declP (st : Bool) (ts : List TK) : DC :=
  if isC ts 1 1 then
    if isT ts 0 sImport then (if ts.length = 2 then ⟨1, tx ts 1, [], []⟩ else dBad)
    else if isT ts 0 sType then
      if isT ts 2 sEq then
        match tyP st ts (ts.length + 1) 3 with
        | none => dBad
        | some (t, j) => if j = ts.length then ⟨2, tx ts 1, t, []⟩ else dBad
      else dBad
    else if isT ts 0 sVal then
      if isT ts 2 sColon then
        match tyP st ts (ts.length + 1) 3 with
        | none => dBad
        | some (t, j) =>
          if isT ts j sEq then
            match exP st ts (ts.length + 1) (j + 1) with
            | none => dBad
            | some (x, k) => if k = ts.length then ⟨3, tx ts 1, t, x⟩ else dBad
          else dBad
      else dBad
    else dBad
  else dBad

/-- The tokens up to the first end of a piece. -/
def semi (ts : List TK) : Option Nat := ts.findIdx? fun t => t.txt.data.toList == sSemi
/-- The declarations of the tokens. -/
def decs (st : Bool) : Nat → List TK → List DC
  | 0, _ => []
  | f + 1, ts =>
    if ts.isEmpty then [] else
    match semi ts with
    | none => [dBad]
    | some k => declP st (ts.take k) :: decs st f (ts.drop (k + 1))

/- The two readers agree: where the strict one gives up, the other has given up, or stands at a colon. -/

def Rel {α : Type} (ts : List TK) (r1 r2 : Option (α × Nat)) : Prop := r1 = r2 ∨ (r1 = none ∧ ∃ l a, r2 = some (l, a) ∧ isT ts a sColon = true)
theorem Rel.rfl' {α : Type} {ts : List TK} {r : Option (α × Nat)} : Rel ts r r := Or.inl rfl

theorem floop_rel {α : Type} {ts : List TK} {T1 T2 : Nat → Option (List α × Nat)} {sg : List UInt8} (h : ∀ i, Rel ts (T1 i) (T2 i)) : ∀ f j ns its, floop ts T1 sg f j ns its = floop ts T2 sg f j ns its
  | 0, _, _, _ => rfl
  | f + 1, j, ns, its => by
    rw [floop, floop]
    split
    · split
      · rfl
      · split
        · rcases h (j + 2) with e | ⟨e1, l, a, e2, hc⟩
          · rw [e]
            cases T2 (j + 2) with
            | none => rfl
            | some r =>
              obtain ⟨l, k⟩ := r
              show (if isT ts k sShut = true then _ else if isT ts k sComma = true then _ else _) = if isT ts k sShut = true then _ else if isT ts k sComma = true then _ else _
              rw [floop_rel h f]
          · rw [e1, e2]
            show none = if isT ts a sShut = true then _ else if isT ts a sComma = true then _ else none
            rw [isT_one hc (by decide), isT_one hc (by decide)]
            rfl
        · rfl
    · rfl

theorem flds_rel {α : Type} {ts : List TK} {T1 T2 : Nat → Option (List α × Nat)} {sg : List UInt8} (h : ∀ i, Rel ts (T1 i) (T2 i)) (j : Nat) : fldsP ts T1 sg j = fldsP ts T2 sg j := by
  unfold fldsP
  rw [floop_rel h]

theorem brk_rel {α : Type} {ts : List TK} {T1 T2 : Nat → Option (List α × Nat)} (h : ∀ i, Rel ts (T1 i) (T2 i)) (i : Nat) : brkP ts T1 i = brkP ts T2 i := by
  unfold brkP
  rcases h i with e | ⟨e1, l, a, e2, hc⟩
  · rw [e]
  · rw [e1, e2]
    show none = if isT ts a sRight = true then _ else none
    rw [isT_one hc (by decide)]
    rfl

theorem path_rel (ts : List TK) (i : Nat) : pathP true ts i = pathP false ts i ∨ (pathP true ts i = none ∧ pathP false ts i = some (e0, tx ts i, i + 1) ∧ isT ts (i + 1) sColon = true) := by
  unfold pathP
  by_cases h : isT ts (i + 1) sColon = true
  · rw [if_pos h, if_pos h]
    by_cases h2 : isC ts (i + 2) 1 = true
    · rw [if_pos h2, if_pos h2]; exact Or.inl rfl
    · rw [if_neg h2, if_neg h2]; exact Or.inr ⟨rfl, rfl, h⟩
  · rw [if_neg h, if_neg h]; exact Or.inl rfl

theorem base_rel {ts : List TK} {T1 T2 : Nat → Option (List TI × Nat)} (h : ∀ i, Rel ts (T1 i) (T2 i)) (i : Nat) : Rel ts (baseP true ts T1 i) (baseP false ts T2 i) := by
  unfold baseP
  rw [flds_rel h, brk_rel h]
  split
  · rcases path_rel ts i with e | ⟨e1, e2, hc⟩
    · rw [e]; exact Rel.rfl'
    · rw [e1, e2]; exact Or.inr ⟨rfl, _, _, rfl, hc⟩
  · exact Rel.rfl'

theorem ty_rel {ts : List TK} : ∀ f i, Rel ts (tyP true ts f i) (tyP false ts f i)
  | 0, _ => Rel.rfl'
  | f + 1, i => by
    rw [tyP, tyP]
    rcases base_rel (ty_rel f) i with e | ⟨e1, l, a, e2, hc⟩
    · rw [e]
      cases baseP false ts (tyP false ts f) i with
      | none => exact Rel.rfl'
      | some r =>
        obtain ⟨l, j⟩ := r
        show Rel ts (if isT ts j sArrow = true then _ else _) (if isT ts j sArrow = true then _ else _)
        split
        · rcases ty_rel f (j + 1) with e | ⟨e1, r, a, e2, hc⟩
          · rw [e]; exact Rel.rfl'
          · rw [e1, e2]; exact Or.inr ⟨rfl, _, _, rfl, hc⟩
        · exact Rel.rfl'
    · rw [e1, e2]
      show Rel ts none (if isT ts a sArrow = true then _ else some (l, a))
      rw [isT_one hc (by decide)]
      exact Or.inr ⟨rfl, l, a, rfl, hc⟩

theorem atom_rel {ts : List TK} {T1 T2 : Nat → Option (List EI × Nat)} (h : ∀ i, Rel ts (T1 i) (T2 i)) (i : Nat) : Rel ts (atomP true ts T1 i) (atomP false ts T2 i) := by
  unfold atomP
  rw [flds_rel h, brk_rel h]
  split
  · rcases path_rel ts i with e | ⟨e1, e2, hc⟩
    · rw [e]; exact Rel.rfl'
    · rw [e1, e2]; exact Or.inr ⟨rfl, _, _, rfl, hc⟩
  · exact Rel.rfl'

theorem postL_rel {ts : List TK} {T1 T2 : Nat → Option (List EI × Nat)} (h : ∀ i, Rel ts (T1 i) (T2 i)) : ∀ f its j, postL ts T1 f its j = postL ts T2 f its j
  | 0, _, _ => rfl
  | f + 1, its, j => by
    rw [postL, postL, brk_rel h]
    split
    · split
      · exact postL_rel h f _ _
      · rfl
    · split
      · cases brkP ts T2 (j + 1) with
        | none => rfl
        | some r => exact postL_rel h f _ _
      · rfl

theorem postL_colon {ts : List TK} {T : Nat → Option (List EI × Nat)} {f : Nat} {its : List EI} {a : Nat} (hc : isT ts a sColon = true) : postL ts T (f + 1) its a = some (its, a) := by
  rw [postL, isT_one hc (by decide), isT_one hc (by decide)]
  rfl
theorem sumL_colon {st : Bool} {ts : List TK} {T : Nat → Option (List EI × Nat)} {f : Nat} {its : List EI} {a : Nat} (hc : isT ts a sColon = true) : sumL st ts T (f + 1) its a = some (its, a) := by
  rw [sumL, isT_one hc (by decide)]
  rfl

theorem post_rel {ts : List TK} {T1 T2 : Nat → Option (List EI × Nat)} (h : ∀ i, Rel ts (T1 i) (T2 i)) (i : Nat) : Rel ts (postP true ts T1 i) (postP false ts T2 i) := by
  unfold postP
  rcases atom_rel h i with e | ⟨e1, l, a, e2, hc⟩
  · rw [e]
    cases atomP false ts T2 i with
    | none => exact Rel.rfl'
    | some r => exact Or.inl (postL_rel h _ _ _)
  · rw [e1, e2]
    exact Or.inr ⟨rfl, l, a, postL_colon hc, hc⟩

theorem sumL_rel {ts : List TK} {T1 T2 : Nat → Option (List EI × Nat)} (h : ∀ i, Rel ts (T1 i) (T2 i)) : ∀ f its j, Rel ts (sumL true ts T1 f its j) (sumL false ts T2 f its j)
  | 0, _, _ => Rel.rfl'
  | f + 1, its, j => by
    rw [sumL, sumL]
    split
    · rcases post_rel h (j + 1) with e | ⟨e1, l, a, e2, hc⟩
      · rw [e]
        cases e3 : postP false ts T2 (j + 1) with
        | none => exact Rel.rfl'
        | some r => exact sumL_rel h f _ _
      · rw [e1, e2]
        cases f with
        | zero => exact Rel.rfl'
        | succ f => exact Or.inr ⟨rfl, _, a, sumL_colon hc, hc⟩
    · exact Rel.rfl'

theorem sum_rel {ts : List TK} {T1 T2 : Nat → Option (List EI × Nat)} (h : ∀ i, Rel ts (T1 i) (T2 i)) (i : Nat) : Rel ts (sumP true ts T1 i) (sumP false ts T2 i) := by
  unfold sumP
  rcases post_rel h i with e | ⟨e1, l, a, e2, hc⟩
  · rw [e]
    cases postP false ts T2 i with
    | none => exact Rel.rfl'
    | some r => exact sumL_rel h _ _ _
  · rw [e1, e2]
    exact Or.inr ⟨rfl, l, a, sumL_colon hc, hc⟩

theorem fun_rel {ts : List TK} {T1 T2 : Nat → Option (List EI × Nat)} (h : ∀ i, Rel ts (T1 i) (T2 i)) (i : Nat) : Rel ts (funP true ts T1 i) (funP false ts T2 i) := by
  unfold funP
  split
  · rcases ty_rel (ts := ts) (ts.length + 1) (i + 3) with e | ⟨e1, l, a, e2, hc⟩
    · rw [e]
      cases tyP false ts (ts.length + 1) (i + 3) with
      | none => exact Rel.rfl'
      | some r =>
        obtain ⟨t, j⟩ := r
        show Rel ts (if isT ts j sRight = true then _ else none) (if isT ts j sRight = true then _ else none)
        split
        · rcases h (j + 1) with e | ⟨e1, l, a, e2, hc⟩
          · rw [e]; exact Rel.rfl'
          · rw [e1, e2]; exact Or.inr ⟨rfl, _, a, rfl, hc⟩
        · exact Rel.rfl'
    · rw [e1, e2]
      show Rel ts none (if isT ts a sRight = true then _ else none)
      rw [isT_one hc (by decide)]
      exact Rel.rfl'
  · exact Rel.rfl'

theorem if_rel {ts : List TK} {T1 T2 : Nat → Option (List EI × Nat)} (h : ∀ i, Rel ts (T1 i) (T2 i)) (i : Nat) : Rel ts (ifP ts T1 i) (ifP ts T2 i) := by
  unfold ifP
  rcases h i with e | ⟨e1, l, a, e2, hc⟩
  · rw [e]
    cases T2 i with
    | none => exact Rel.rfl'
    | some r =>
      obtain ⟨c, j⟩ := r
      show Rel ts (if isT ts j sThen = true then _ else none) (if isT ts j sThen = true then _ else none)
      split
      · rcases h (j + 1) with e | ⟨e1, l, a, e2, hc⟩
        · rw [e]
          cases T2 (j + 1) with
          | none => exact Rel.rfl'
          | some r =>
            obtain ⟨d, k⟩ := r
            show Rel ts (if isT ts k sElse = true then _ else none) (if isT ts k sElse = true then _ else none)
            split
            · rcases h (k + 1) with e | ⟨e1, l, a, e2, hc⟩
              · rw [e]; exact Rel.rfl'
              · rw [e1, e2]; exact Or.inr ⟨rfl, _, a, rfl, hc⟩
            · exact Rel.rfl'
        · rw [e1, e2]
          show Rel ts none (if isT ts a sElse = true then _ else none)
          rw [isT_one hc (by decide)]
          exact Rel.rfl'
      · exact Rel.rfl'
  · rw [e1, e2]
    show Rel ts none (if isT ts a sThen = true then _ else none)
    rw [isT_one hc (by decide)]
    exact Rel.rfl'

theorem less_rel {ts : List TK} {T1 T2 : Nat → Option (List EI × Nat)} (h : ∀ i, Rel ts (T1 i) (T2 i)) (i : Nat) : Rel ts (lessP true ts T1 i) (lessP false ts T2 i) := by
  unfold lessP
  rcases sum_rel h i with e | ⟨e1, l, a, e2, hc⟩
  · rw [e]
    cases sumP false ts T2 i with
    | none => exact Rel.rfl'
    | some r =>
      obtain ⟨l, j⟩ := r
      show Rel ts (if isT ts j sLess = true then _ else some (l, j)) (if isT ts j sLess = true then _ else some (l, j))
      split
      · rcases sum_rel h (j + 1) with e | ⟨e1, r, a, e2, hc⟩
        · rw [e]; exact Rel.rfl'
        · rw [e1, e2]; exact Or.inr ⟨rfl, _, a, rfl, hc⟩
      · exact Rel.rfl'
  · rw [e1, e2]
    show Rel ts none (if isT ts a sLess = true then _ else some (l, a))
    rw [isT_one hc (by decide)]
    exact Or.inr ⟨rfl, l, a, rfl, hc⟩

theorem ex_rel {ts : List TK} : ∀ f i, Rel ts (exP true ts f i) (exP false ts f i)
  | 0, _ => Rel.rfl'
  | f + 1, i => by
    rw [exP, exP]
    split
    · exact fun_rel (ex_rel f) _
    · split
      · exact if_rel (ex_rel f) _
      · exact less_rel (ex_rel f) _

theorem decl_same (ts : List TK) : declP true ts = declP false ts := by
  unfold declP
  split
  · split
    · rfl
    · split
      · split
        · rcases ty_rel (ts := ts) (ts.length + 1) 3 with e | ⟨e1, l, a, e2, hc⟩
          · rw [e]
          · rw [e1, e2]
            have := isT_lt hc
            show dBad = if a = ts.length then _ else dBad
            rw [if_neg (by omega)]
        · rfl
      · split
        · split
          · rcases ty_rel (ts := ts) (ts.length + 1) 3 with e | ⟨e1, l, a, e2, hc⟩
            · rw [e]
              cases tyP false ts (ts.length + 1) 3 with
              | none => rfl
              | some r =>
                obtain ⟨t, j⟩ := r
                show (if isT ts j sEq = true then _ else dBad) = if isT ts j sEq = true then _ else dBad
                split
                · rcases ex_rel (ts := ts) (ts.length + 1) (j + 1) with e | ⟨e1, l, a, e2, hc⟩
                  · rw [e]
                  · rw [e1, e2]
                    have := isT_lt hc
                    show dBad = if a = ts.length then _ else dBad
                    rw [if_neg (by omega)]
                · rfl
            · rw [e1, e2]
              show dBad = if isT ts a sEq = true then _ else dBad
              rw [isT_one hc (by decide)]
              rfl
          · rfl
        · rfl
  · rfl

theorem decs_same : ∀ f ts, decs true f ts = decs false f ts
  | 0, _ => rfl
  | f + 1, ts => by
    rw [decs, decs]
    split
    · rfl
    · cases semi ts with
      | none => rfl
      | some k =>
        show declP true (ts.take k) :: decs true f (ts.drop (k + 1)) = declP false (ts.take k) :: decs false f (ts.drop (k + 1))
        rw [decl_same, decs_same f]

end Go.Proofs.YtdjkgilohhjfoaaGreatDoor

namespace Go.Proofs.YtdjkgilohhjfoaaGreatDoor

/-- A reader gives no more items than tokens that it passes over, and goes on. -/
def Far {α : Type} (n : Nat) (T : Nat → Option (List α × Nat)) : Prop := ∀ i l j, T i = some (l, j) → i + l.length ≤ j ∧ i < j ∧ j ≤ n

theorem floop_far {α : Type} {ts : List TK} {T : Nat → Option (List α × Nat)} {sg : List UInt8} (h : Far ts.length T) : ∀ f j ns its l ns' k, floop ts T sg f j ns its = some (l, ns', k) → l.length + j ≤ its.length + k ∧ j < k ∧ k ≤ ts.length ∧ ns'.length + j ≤ ns.length + k
  | 0, _, _, _, _, _, _, e => by cases e
  | f + 1, j, ns, its, l, ns', k, e => by
    rw [floop] at e
    split at e
    · split at e
      · cases e
      · split at e
        · cases eT : T (j + 2) with
          | none => rw [eT] at e; cases e
          | some r =>
            obtain ⟨l0, k0⟩ := r
            rw [eT] at e
            obtain ⟨h1, h2, h3⟩ := h _ _ _ eT
            dsimp only at e
            split at e
            case isTrue hs =>
              have := isT_lt hs
              simp only [Option.some.injEq, Prod.mk.injEq] at e
              obtain ⟨rfl, rfl, rfl⟩ := e
              simp only [List.length_append, List.length_cons, List.length_nil]
              omega
            case isFalse hs =>
              split at e
              · have := floop_far h f _ _ _ _ _ _ e
                simp only [List.length_append, List.length_cons, List.length_nil] at this
                omega
              · cases e
        · cases e
    · cases e

theorem flds_far {α : Type} {ts : List TK} {T : Nat → Option (List α × Nat)} {sg : List UInt8} (h : Far ts.length T) {j : Nat} {l : List α} {ns : List ByteArray} {k : Nat} (e : fldsP ts T sg j = some (l, ns, k)) : l.length + j ≤ k ∧ j < k ∧ k ≤ ts.length ∧ ns.length + j ≤ k := by
  unfold fldsP at e
  split at e
  case isTrue hs =>
    have := isT_lt hs
    simp only [Option.some.injEq, Prod.mk.injEq] at e
    obtain ⟨rfl, rfl, rfl⟩ := e
    simp only [List.length_nil]
    omega
  case isFalse =>
    have := floop_far h _ _ _ _ _ _ _ e
    simp only [List.length_nil] at this
    omega

theorem brk_far {α : Type} {ts : List TK} {T : Nat → Option (List α × Nat)} (h : Far ts.length T) {i : Nat} {l : List α} {k : Nat} (e : brkP ts T i = some (l, k)) : i + l.length ≤ k ∧ i < k ∧ k ≤ ts.length := by
  unfold brkP at e
  cases eT : T i with
  | none => rw [eT] at e; cases e
  | some r =>
    obtain ⟨l0, k0⟩ := r
    rw [eT] at e
    obtain ⟨h1, h2, h3⟩ := h _ _ _ eT
    dsimp only at e
    split at e
    case isTrue hs =>
      have := isT_lt hs
      simp only [Option.some.injEq, Prod.mk.injEq] at e
      obtain ⟨rfl, rfl⟩ := e
      omega
    case isFalse => cases e

theorem path_far {st : Bool} {ts : List TK} {i : Nat} {m n : ByteArray} {j : Nat} (hi : i < ts.length) (e : pathP st ts i = some (m, n, j)) : i < j ∧ j ≤ ts.length := by
  unfold pathP at e
  split at e
  · split at e
    case isTrue h =>
      have := isC_lt h
      simp only [Option.some.injEq, Prod.mk.injEq] at e
      omega
    case isFalse =>
      split at e
      · cases e
      · simp only [Option.some.injEq, Prod.mk.injEq] at e
        omega
  · simp only [Option.some.injEq, Prod.mk.injEq] at e
    omega

theorem base_far {st : Bool} {ts : List TK} {T : Nat → Option (List TI × Nat)} (h : Far ts.length T) : Far ts.length (baseP st ts T) := fun i l j e => by
  unfold baseP at e
  split at e
  case isTrue hc =>
    have := isC_lt hc
    cases ep : pathP st ts i with
    | none => rw [ep] at e; cases e
    | some r =>
      obtain ⟨m, n, k⟩ := r
      rw [ep] at e
      simp only [Option.some.injEq, Prod.mk.injEq] at e
      obtain ⟨rfl, rfl⟩ := e
      have := path_far (by omega) ep
      simp only [List.length_cons, List.length_nil]
      omega
  case isFalse =>
    have one : ∀ {s : List UInt8} {t : TI}, isT ts i s = true → (some ([t], i + 1) : Option (List TI × Nat)) = some (l, j) → i + l.length ≤ j ∧ i < j ∧ j ≤ ts.length := fun hs e => by
      have := isT_lt hs
      simp only [Option.some.injEq, Prod.mk.injEq] at e
      obtain ⟨rfl, rfl⟩ := e
      simp only [List.length_cons, List.length_nil]
      omega
    split at e
    · exact one ‹_› e
    split at e
    · exact one ‹_› e
    split at e
    · exact one ‹_› e
    split at e
    · cases ep : fldsP ts T sColon (i + 1) with
      | none => rw [ep] at e; cases e
      | some r =>
        obtain ⟨its, ns, k⟩ := r
        rw [ep] at e
        simp only [Option.some.injEq, Prod.mk.injEq] at e
        obtain ⟨rfl, rfl⟩ := e
        have := flds_far h ep
        simp only [List.length_append, List.length_cons, List.length_nil]
        omega
    split at e
    · have := brk_far h e
      omega
    · cases e

theorem ty_far {st : Bool} {ts : List TK} : ∀ f, Far ts.length (tyP st ts f)
  | 0 => fun i l j e => by cases e
  | f + 1 => fun i l j e => by
    rw [tyP] at e
    cases eb : baseP st ts (tyP st ts f) i with
    | none => rw [eb] at e; cases e
    | some r =>
      obtain ⟨l0, k0⟩ := r
      rw [eb] at e
      obtain ⟨h1, h2, h3⟩ := base_far (ty_far f) _ _ _ eb
      dsimp only at e
      split at e
      · cases eT : tyP st ts f (k0 + 1) with
        | none => rw [eT] at e; cases e
        | some r =>
          obtain ⟨l1, k1⟩ := r
          rw [eT] at e
          obtain ⟨h4, h5, h6⟩ := ty_far f _ _ _ eT
          simp only [Option.some.injEq, Prod.mk.injEq] at e
          obtain ⟨rfl, rfl⟩ := e
          simp only [List.length_append, List.length_cons, List.length_nil]
          omega
      · simp only [Option.some.injEq, Prod.mk.injEq] at e
        obtain ⟨rfl, rfl⟩ := e
        exact ⟨h1, h2, h3⟩

theorem atom_far {st : Bool} {ts : List TK} {T : Nat → Option (List EI × Nat)} (h : Far ts.length T) : Far ts.length (atomP st ts T) := fun i l j e => by
  unfold atomP at e
  split at e
  case isTrue hc =>
    have := isC_lt hc
    cases ep : pathP st ts i with
    | none => rw [ep] at e; cases e
    | some r =>
      obtain ⟨m, n, k⟩ := r
      rw [ep] at e
      simp only [Option.some.injEq, Prod.mk.injEq] at e
      obtain ⟨rfl, rfl⟩ := e
      have := path_far (by omega) ep
      simp only [List.length_cons, List.length_nil]
      omega
  case isFalse =>
    have one : ∀ {t : EI}, i < ts.length → (some ([t], i + 1) : Option (List EI × Nat)) = some (l, j) → i + l.length ≤ j ∧ i < j ∧ j ≤ ts.length := fun hs e => by
      simp only [Option.some.injEq, Prod.mk.injEq] at e
      obtain ⟨rfl, rfl⟩ := e
      simp only [List.length_cons, List.length_nil]
      omega
    split at e
    · exact one (isC_lt ‹_›) e
    split at e
    · exact one (isT_lt ‹_›) e
    split at e
    · exact one (isT_lt ‹_›) e
    split at e
    · cases ep : fldsP ts T sEq (i + 1) with
      | none => rw [ep] at e; cases e
      | some r =>
        obtain ⟨its, ns, k⟩ := r
        rw [ep] at e
        simp only [Option.some.injEq, Prod.mk.injEq] at e
        obtain ⟨rfl, rfl⟩ := e
        have := flds_far h ep
        simp only [List.length_append, List.length_cons, List.length_nil]
        omega
    split at e
    · have := brk_far h e
      omega
    · cases e

theorem postL_far {ts : List TK} {T : Nat → Option (List EI × Nat)} (h : Far ts.length T) : ∀ f its j l k, j ≤ ts.length → postL ts T f its j = some (l, k) → l.length + j ≤ its.length + k ∧ j ≤ k ∧ k ≤ ts.length
  | 0, _, _, _, _, _, e => by cases e
  | f + 1, its, j, l, k, hj, e => by
    rw [postL] at e
    split at e
    · split at e
      case isTrue hc =>
        have := isC_lt hc
        have := postL_far h f _ _ _ _ (by omega) e
        simp only [List.length_append, List.length_cons, List.length_nil] at this
        omega
      case isFalse => cases e
    · split at e
      · cases eb : brkP ts T (j + 1) with
        | none => rw [eb] at e; cases e
        | some r =>
          obtain ⟨l0, k0⟩ := r
          rw [eb] at e
          have h1 := brk_far h eb
          have := postL_far h f _ _ _ _ (by omega) e
          simp only [List.length_append, List.length_cons, List.length_nil] at this
          omega
      · simp only [Option.some.injEq, Prod.mk.injEq] at e
        obtain ⟨rfl, rfl⟩ := e
        omega

theorem post_far {st : Bool} {ts : List TK} {T : Nat → Option (List EI × Nat)} (h : Far ts.length T) : Far ts.length (postP st ts T) := fun i l j e => by
  unfold postP at e
  cases ea : atomP st ts T i with
  | none => rw [ea] at e; cases e
  | some r =>
    obtain ⟨l0, k0⟩ := r
    rw [ea] at e
    obtain ⟨h1, h2, h3⟩ := atom_far h _ _ _ ea
    have := postL_far h _ _ _ _ _ h3 e
    omega

theorem sumL_far {st : Bool} {ts : List TK} {T : Nat → Option (List EI × Nat)} (h : Far ts.length T) : ∀ f its j l k, j ≤ ts.length → sumL st ts T f its j = some (l, k) → l.length + j ≤ its.length + k ∧ j ≤ k ∧ k ≤ ts.length
  | 0, _, _, _, _, _, e => by cases e
  | f + 1, its, j, l, k, hj, e => by
    rw [sumL] at e
    split at e
    · cases eb : postP st ts T (j + 1) with
      | none => rw [eb] at e; cases e
      | some r =>
        obtain ⟨l0, k0⟩ := r
        rw [eb] at e
        have h1 := post_far h _ _ _ eb
        have := sumL_far h f _ _ _ _ (by omega) e
        simp only [List.length_append, List.length_cons, List.length_nil] at this
        omega
    · simp only [Option.some.injEq, Prod.mk.injEq] at e
      obtain ⟨rfl, rfl⟩ := e
      omega

theorem sum_far {st : Bool} {ts : List TK} {T : Nat → Option (List EI × Nat)} (h : Far ts.length T) : Far ts.length (sumP st ts T) := fun i l j e => by
  unfold sumP at e
  cases ea : postP st ts T i with
  | none => rw [ea] at e; cases e
  | some r =>
    obtain ⟨l0, k0⟩ := r
    rw [ea] at e
    obtain ⟨h1, h2, h3⟩ := post_far h _ _ _ ea
    have := sumL_far h _ _ _ _ _ h3 e
    omega

theorem fun_far {st : Bool} {ts : List TK} {T : Nat → Option (List EI × Nat)} (h : Far ts.length T) : Far ts.length (funP st ts T) := fun i l j e => by
  unfold funP at e
  split at e
  · cases et : tyP st ts (ts.length + 1) (i + 3) with
    | none => rw [et] at e; cases e
    | some r =>
      obtain ⟨t, k0⟩ := r
      rw [et] at e
      have h1 := ty_far _ _ _ _ et
      dsimp only at e
      split at e
      · cases eT : T (k0 + 1) with
        | none => rw [eT] at e; cases e
        | some r =>
          obtain ⟨b, k1⟩ := r
          rw [eT] at e
          have h2 := h _ _ _ eT
          simp only [Option.some.injEq, Prod.mk.injEq] at e
          obtain ⟨rfl, rfl⟩ := e
          simp only [List.length_append, List.length_cons, List.length_nil]
          omega
      · cases e
  · cases e

theorem if_far {ts : List TK} {T : Nat → Option (List EI × Nat)} (h : Far ts.length T) : Far ts.length (ifP ts T) := fun i l j e => by
  unfold ifP at e
  cases e1 : T i with
  | none => rw [e1] at e; cases e
  | some r =>
    obtain ⟨c, k⟩ := r
    rw [e1] at e
    have h1 := h _ _ _ e1
    dsimp only at e
    split at e
    · cases e2 : T (k + 1) with
      | none => rw [e2] at e; cases e
      | some r =>
        obtain ⟨a, k1⟩ := r
        rw [e2] at e
        have h2 := h _ _ _ e2
        dsimp only at e
        split at e
        · cases e3 : T (k1 + 1) with
          | none => rw [e3] at e; cases e
          | some r =>
            obtain ⟨b, k2⟩ := r
            rw [e3] at e
            have h3 := h _ _ _ e3
            simp only [Option.some.injEq, Prod.mk.injEq] at e
            obtain ⟨rfl, rfl⟩ := e
            simp only [List.length_append, List.length_cons, List.length_nil]
            omega
        · cases e
    · cases e

theorem less_far {st : Bool} {ts : List TK} {T : Nat → Option (List EI × Nat)} (h : Far ts.length T) : Far ts.length (lessP st ts T) := fun i l j e => by
  unfold lessP at e
  cases e1 : sumP st ts T i with
  | none => rw [e1] at e; cases e
  | some r =>
    obtain ⟨l0, k0⟩ := r
    rw [e1] at e
    have h1 := sum_far h _ _ _ e1
    dsimp only at e
    split at e
    · cases e2 : sumP st ts T (k0 + 1) with
      | none => rw [e2] at e; cases e
      | some r =>
        obtain ⟨l1, k1⟩ := r
        rw [e2] at e
        have h2 := sum_far h _ _ _ e2
        simp only [Option.some.injEq, Prod.mk.injEq] at e
        obtain ⟨rfl, rfl⟩ := e
        simp only [List.length_append, List.length_cons, List.length_nil]
        omega
    · simp only [Option.some.injEq, Prod.mk.injEq] at e
      obtain ⟨rfl, rfl⟩ := e
      omega

theorem ex_far {st : Bool} {ts : List TK} : ∀ f, Far ts.length (exP st ts f)
  | 0 => fun i l j e => by cases e
  | f + 1 => fun i l j e => by
    rw [exP] at e
    split at e
    · have := fun_far (ex_far f) _ _ _ e
      omega
    · split at e
      · have := if_far (ex_far f) _ _ _ e
        omega
      · exact less_far (ex_far f) _ _ _ e

end Go.Proofs.YtdjkgilohhjfoaaGreatDoor

