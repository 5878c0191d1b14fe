/-
  Merged for the claim: PaA Mem2 Words Names Names2.
-/
import Derived.Test.YtmcbmcjbgjnbhaaGreatDoorM00
import Derived.Test.YtmcbmcjbgjnbhaaGreatDoorProg
import Derived.WalkKit
import Derived.WalkSmall
import Derived.WalkSpells
import Derived.WalkLawsBesides
import Derived.Deep.OwnRows
import Derived.Deep.Draws
import Derived.Deep.QuietTactic
import Derived.BigQuiet
import Derived.Deep.RegionWith
namespace Go.Proofs.YtmcbmcjbgjnbhaaGreatDoor

structure TI where
  op : Int
  md : ByteArray
  nm : ByteArray
  ns : List ByteArray
structure EI where
  op : Int
  num : Int
  md : ByteArray
  nm : ByteArray
  ns : List ByteArray
  ty : List TI
structure DC where
  kind : Int
  nm : ByteArray
  ty : List TI
  ex : List EI

def e0 : ByteArray := ByteArray.empty
def tyO (op : Int) : TI := ⟨op, e0, e0, []⟩
def exO (op : Int) : EI := ⟨op, 0, e0, e0, [], []⟩
def dBad : DC := ⟨0, e0, [], []⟩

/-- The text of a token. -/
def tx (ts : List TK) (i : Nat) : ByteArray := ((ts[i]?).map TK.txt).getD e0
/-- The token at a place has this text. -/
def isT (ts : List TK) (i : Nat) (s : List UInt8) : Bool := match ts[i]? with
  | some t => t.txt.data.toList == s
  | none => false
/-- The token at a place has this class. -/
def isC (ts : List TK) (i : Nat) (c : Int) : Bool := match ts[i]? with
  | some t => t.cls == c
  | none => false

theorem isT_lt {ts : List TK} {i : Nat} {s : List UInt8} (h : isT ts i s = true) : i < ts.length := by
  unfold isT at h
  by_cases hi : i < ts.length
  · exact hi
  · rw [List.getElem?_eq_none (by omega)] at h; cases h
theorem isC_lt {ts : List TK} {i : Nat} {c : Int} (h : isC ts i c = true) : i < ts.length := by
  unfold isC at h
  by_cases hi : i < ts.length
  · exact hi
  · rw [List.getElem?_eq_none (by omega)] at h; cases h
/-- One text at one place. -/
theorem isT_one {ts : List TK} {i : Nat} {s s' : List UInt8} (h : isT ts i s = true) (hne : s ≠ s') : isT ts i s' = false := by
  unfold isT at h ⊢
  cases e : ts[i]? with
  | none => rfl
  | some t =>
    rw [e] at h
    have h1 : t.txt.data.toList = s := by simpa using h
    show (t.txt.data.toList == s') = false
    rw [h1]; exact beq_eq_false_iff_ne.2 hne

def sInt : List UInt8 := [105, 110, 116]
def sBool : List UInt8 := [98, 111, 111, 108]
def sAny : List UInt8 := [63]
def sOpen : List UInt8 := [123]
def sShut : List UInt8 := [125]
def sLeft : List UInt8 := [40]
def sRight : List UInt8 := [41]
def sColon : List UInt8 := [58]
def sEq : List UInt8 := [61]
def sComma : List UInt8 := [44]
def sDot : List UInt8 := [46]
def sPlus : List UInt8 := [43]
def sLess : List UInt8 := [60]
def sArrow : List UInt8 := [45, 62]
def sSemi : List UInt8 := [59]
def sTrue : List UInt8 := [116, 114, 117, 101]
def sFalse : List UInt8 := [102, 97, 108, 115, 101]
def sFun : List UInt8 := [102, 117, 110]
def sIf : List UInt8 := [105, 102]
def sThen : List UInt8 := [116, 104, 101, 110]
def sElse : List UInt8 := [101, 108, 115, 101]
def sImport : List UInt8 := [105, 109, 112, 111, 114, 116]
def sType : List UInt8 := [116, 121, 112, 101]
def sVal : List UInt8 := [118, 97, 108]

/-- A name among the names. -/
def hasN (ns : List ByteArray) (s : ByteArray) : Bool := ns.any fun x => x.data.toList == s.data.toList

/-- Behind a name: the module's name, the name, the place. -/
def pathP (st : Bool) (ts : List TK) (i : Nat) : Option (ByteArray × ByteArray × Nat) :=
  if isT ts (i + 1) sColon then
    if isC ts (i + 2) 1 then some (tx ts i, tx ts (i + 2), i + 3)
    else if st then none else some (e0, tx ts i, i + 1)
  else some (e0, tx ts i, i + 1)

/-- The fields from a name on. -/
def floop {α : Type} (ts : List TK) (T : Nat → Option (List α × Nat)) (sg : List UInt8) : Nat → Nat → List ByteArray → List α → Option (List α × List ByteArray × Nat)
  | 0, _, _, _ => none
  | f + 1, j, ns, its =>
    if isC ts j 1 then
      if hasN ns (tx ts j) then none else
      if isT ts (j + 1) sg then
        match T (j + 2) with
        | none => none
        | some (l, k) =>
          if isT ts k sShut then some (its ++ l, ns ++ [tx ts j], k + 1)
          else if isT ts k sComma then floop ts T sg f (k + 1) (ns ++ [tx ts j]) (its ++ l) else none
      else none
    else none
/-- The fields behind the brace. -/
def fldsP {α : Type} (ts : List TK) (T : Nat → Option (List α × Nat)) (sg : List UInt8) (j : Nat) : Option (List α × List ByteArray × Nat) :=
  if isT ts j sShut then some ([], [], j + 1) else floop ts T sg (ts.length + 1) j [] []

/-- A part in brackets. -/
def brkP {α : Type} (ts : List TK) (T : Nat → Option (List α × Nat)) (i : Nat) : Option (List α × Nat) :=
  match T i with
  | none => none
  | some (l, j) => if isT ts j sRight then some (l, j + 1) else none

def baseP (st : Bool) (ts : List TK) (T : Nat → Option (List TI × Nat)) (i : Nat) : Option (List TI × Nat) :=
  if isC ts i 1 then
    match pathP st ts i with
    | none => none
    | some (m, n, j) => some ([⟨4, m, n, []⟩], j)
  else if isT ts i sInt then some ([tyO 1], i + 1)
  else if isT ts i sBool then some ([tyO 2], i + 1)
  else if isT ts i sAny then some ([tyO 3], i + 1)
  else if isT ts i sOpen then
    match fldsP ts T sColon (i + 1) with
    | none => none
    | some (its, ns, j) => some (its ++ [⟨5, e0, e0, ns⟩], j)
  else if isT ts i sLeft then brkP ts T (i + 1)
  else none

def tyP (st : Bool) (ts : List TK) : Nat → Nat → Option (List TI × Nat)
  | 0, _ => none
  | f + 1, i =>
    match baseP st ts (tyP st ts f) i with
    | none => none
    | some (l, j) =>
      if isT ts j sArrow then
        match tyP st ts f (j + 1) with
        | none => none
        | some (r, k) => some (l ++ r ++ [tyO 6], k)
      else some (l, j)

/-- The number that digits write. -/
def valN (s : List UInt8) : Int := s.foldl (fun n c => n * 10 + ((c.toNat : Int) - 48)) 0

def atomP (st : Bool) (ts : List TK) (E : Nat → Option (List EI × Nat)) (i : Nat) : Option (List EI × Nat) :=
  if isC ts i 1 then
    match pathP st ts i with
    | none => none
    | some (m, n, j) => some ([⟨3, 0, m, n, [], []⟩], j)
  else if isC ts i 3 then some ([⟨1, valN (tx ts i).data.toList, e0, e0, [], []⟩], i + 1)
  else if isT ts i sTrue then some ([⟨2, 1, e0, e0, [], []⟩], i + 1)
  else if isT ts i sFalse then some ([exO 2], i + 1)
  else if isT ts i sOpen then
    match fldsP ts E sEq (i + 1) with
    | none => none
    | some (its, ns, j) => some (its ++ [⟨4, 0, e0, e0, ns, []⟩], j)
  else if isT ts i sLeft then brkP ts E (i + 1)
  else none

def postL (ts : List TK) (E : Nat → Option (List EI × Nat)) : Nat → List EI → Nat → Option (List EI × Nat)
  | 0, _, _ => none
  | f + 1, its, j =>
    if isT ts j sDot then
      if isC ts (j + 1) 1 then postL ts E f (its ++ [⟨5, 0, e0, tx ts (j + 1), [], []⟩]) (j + 2) else none
    else if isT ts j sLeft then
      match brkP ts E (j + 1) with
      | none => none
      | some (l, k) => postL ts E f (its ++ l ++ [exO 7]) k
    else some (its, j)

def postP (st : Bool) (ts : List TK) (E : Nat → Option (List EI × Nat)) (i : Nat) : Option (List EI × Nat) :=
  match atomP st ts E i with
  | none => none
  | some (l, j) => postL ts E (ts.length + 1) l j

def sumL (st : Bool) (ts : List TK) (E : Nat → Option (List EI × Nat)) : Nat → List EI → Nat → Option (List EI × Nat)
  | 0, _, _ => none
  | f + 1, its, j =>
    if isT ts j sPlus then
      match postP st ts E (j + 1) with
      | none => none
      | some (l, k) => sumL st ts E f (its ++ l ++ [exO 9]) k
    else some (its, j)

def sumP (st : Bool) (ts : List TK) (E : Nat → Option (List EI × Nat)) (i : Nat) : Option (List EI × Nat) :=
  match postP st ts E i with
  | none => none
  | some (l, j) => sumL st ts E (ts.length + 1) l j

/-- Behind 'fun'. -/
def funP (st : Bool) (ts : List TK) (E : Nat → Option (List EI × Nat)) (i : Nat) : Option (List EI × Nat) :=
  if isT ts i sLeft && isC ts (i + 1) 1 && isT ts (i + 2) sColon then
    match tyP st ts (ts.length + 1) (i + 3) with
    | none => none
    | some (t, j) =>
      if isT ts j sRight then
        match E (j + 1) with
        | none => none
        | some (b, k) => some (b ++ [⟨6, 0, e0, tx ts (i + 1), [], t⟩], k)
      else none
  else none

/-- Behind 'if'. -/
def ifP (ts : List TK) (E : Nat → Option (List EI × Nat)) (i : Nat) : Option (List EI × Nat) :=
  match E i with
  | none => none
  | some (c, j) =>
    if isT ts j sThen then
      match E (j + 1) with
      | none => none
      | some (a, k) =>
        if isT ts k sElse then
          match E (k + 1) with
          | none => none
          | some (b, l) => some (c ++ a ++ b ++ [exO 8], l)
        else none
    else none

/-- One sum, or one below another. -/
def lessP (st : Bool) (ts : List TK) (E : Nat → Option (List EI × Nat)) (i : Nat) : Option (List EI × Nat) :=
  match sumP st ts E i with
  | none => none
  | some (l, j) =>
    if isT ts j sLess then
      match sumP st ts E (j + 1) with
      | none => none
      | some (r, k) => some (l ++ r ++ [exO 10], k)
    else some (l, j)

def exP (st : Bool) (ts : List TK) : Nat → Nat → Option (List EI × Nat)
  | 0, _ => none
  | f + 1, i =>
    if isT ts i sFun then funP st ts (exP st ts f) (i + 1)
    else if isT ts i sIf then ifP ts (exP st ts f) (i + 1)
    else lessP st ts (exP st ts f) i

/-- The declaration that the tokens of a piece are. -/
def declP (st : Bool) (ts : List TK) : DC :=
  if isC ts 1 1 then
    if isT ts 0 sImport then (if ts.length = 2 then ⟨1, tx ts 1, [], []⟩ else dBad)
    else if isT ts 0 sType then
      if isT ts 2 sEq then
        match tyP st ts (ts.length + 1) 3 with
        | none => dBad
        | some (t, j) => if j = ts.length then ⟨2, tx ts 1, t, []⟩ else dBad
      else dBad
    else if isT ts 0 sVal then
      if isT ts 2 sColon then
        match tyP st ts (ts.length + 1) 3 with
        | none => dBad
        | some (t, j) =>
          if isT ts j sEq then
            match exP st ts (ts.length + 1) (j + 1) with
            | none => dBad
            | some (x, k) => if k = ts.length then ⟨3, tx ts 1, t, x⟩ else dBad
          else dBad
      else dBad
    else dBad
  else dBad

/-- The tokens up to the first end of a piece. -/
def semi (ts : List TK) : Option Nat := ts.findIdx? fun t => t.txt.data.toList == sSemi
/-- The declarations of the tokens. -/
def decs (st : Bool) : Nat → List TK → List DC
  | 0, _ => []
  | f + 1, ts =>
    if ts.isEmpty then [] else
    match semi ts with
    | none => [dBad]
    | some k => declP st (ts.take k) :: decs st f (ts.drop (k + 1))

/- The two readers agree: where the strict one gives up, the other has given up, or stands at a colon. -/

def Rel {α : Type} (ts : List TK) (r1 r2 : Option (α × Nat)) : Prop := r1 = r2 ∨ (r1 = none ∧ ∃ l a, r2 = some (l, a) ∧ isT ts a sColon = true)
theorem Rel.rfl' {α : Type} {ts : List TK} {r : Option (α × Nat)} : Rel ts r r := Or.inl rfl

theorem floop_rel {α : Type} {ts : List TK} {T1 T2 : Nat → Option (List α × Nat)} {sg : List UInt8} (h : ∀ i, Rel ts (T1 i) (T2 i)) : ∀ f j ns its, floop ts T1 sg f j ns its = floop ts T2 sg f j ns its
  | 0, _, _, _ => rfl
  | f + 1, j, ns, its => by
    rw [floop, floop]
    split
    · split
      · rfl
      · split
        · rcases h (j + 2) with e | ⟨e1, l, a, e2, hc⟩
          · rw [e]
            cases T2 (j + 2) with
            | none => rfl
            | some r =>
              obtain ⟨l, k⟩ := r
              show (if isT ts k sShut = true then _ else if isT ts k sComma = true then _ else _) = if isT ts k sShut = true then _ else if isT ts k sComma = true then _ else _
              rw [floop_rel h f]
          · rw [e1, e2]
            show none = if isT ts a sShut = true then _ else if isT ts a sComma = true then _ else none
            rw [isT_one hc (by decide), isT_one hc (by decide)]
            rfl
        · rfl
    · rfl

theorem flds_rel {α : Type} {ts : List TK} {T1 T2 : Nat → Option (List α × Nat)} {sg : List UInt8} (h : ∀ i, Rel ts (T1 i) (T2 i)) (j : Nat) : fldsP ts T1 sg j = fldsP ts T2 sg j := by
  unfold fldsP
  rw [floop_rel h]

theorem brk_rel {α : Type} {ts : List TK} {T1 T2 : Nat → Option (List α × Nat)} (h : ∀ i, Rel ts (T1 i) (T2 i)) (i : Nat) : brkP ts T1 i = brkP ts T2 i := by
  unfold brkP
  rcases h i with e | ⟨e1, l, a, e2, hc⟩
  · rw [e]
  · rw [e1, e2]
    show none = if isT ts a sRight = true then _ else none
    rw [isT_one hc (by decide)]
    rfl

theorem path_rel (ts : List TK) (i : Nat) : pathP true ts i = pathP false ts i ∨ (pathP true ts i = none ∧ pathP false ts i = some (e0, tx ts i, i + 1) ∧ isT ts (i + 1) sColon = true) := by
  unfold pathP
  by_cases h : isT ts (i + 1) sColon = true
  · rw [if_pos h, if_pos h]
    by_cases h2 : isC ts (i + 2) 1 = true
    · rw [if_pos h2, if_pos h2]; exact Or.inl rfl
    · rw [if_neg h2, if_neg h2]; exact Or.inr ⟨rfl, rfl, h⟩
  · rw [if_neg h, if_neg h]; exact Or.inl rfl

theorem base_rel {ts : List TK} {T1 T2 : Nat → Option (List TI × Nat)} (h : ∀ i, Rel ts (T1 i) (T2 i)) (i : Nat) : Rel ts (baseP true ts T1 i) (baseP false ts T2 i) := by
  unfold baseP
  rw [flds_rel h, brk_rel h]
  split
  · rcases path_rel ts i with e | ⟨e1, e2, hc⟩
    · rw [e]; exact Rel.rfl'
    · rw [e1, e2]; exact Or.inr ⟨rfl, _, _, rfl, hc⟩
  · exact Rel.rfl'

theorem ty_rel {ts : List TK} : ∀ f i, Rel ts (tyP true ts f i) (tyP false ts f i)
  | 0, _ => Rel.rfl'
  | f + 1, i => by
    rw [tyP, tyP]
    rcases base_rel (ty_rel f) i with e | ⟨e1, l, a, e2, hc⟩
    · rw [e]
      cases baseP false ts (tyP false ts f) i with
      | none => exact Rel.rfl'
      | some r =>
        obtain ⟨l, j⟩ := r
        show Rel ts (if isT ts j sArrow = true then _ else _) (if isT ts j sArrow = true then _ else _)
        split
        · rcases ty_rel f (j + 1) with e | ⟨e1, r, a, e2, hc⟩
          · rw [e]; exact Rel.rfl'
          · rw [e1, e2]; exact Or.inr ⟨rfl, _, _, rfl, hc⟩
        · exact Rel.rfl'
    · rw [e1, e2]
      show Rel ts none (if isT ts a sArrow = true then _ else some (l, a))
      rw [isT_one hc (by decide)]
      exact Or.inr ⟨rfl, l, a, rfl, hc⟩

theorem atom_rel {ts : List TK} {T1 T2 : Nat → Option (List EI × Nat)} (h : ∀ i, Rel ts (T1 i) (T2 i)) (i : Nat) : Rel ts (atomP true ts T1 i) (atomP false ts T2 i) := by
  unfold atomP
  rw [flds_rel h, brk_rel h]
  split
  · rcases path_rel ts i with e | ⟨e1, e2, hc⟩
    · rw [e]; exact Rel.rfl'
    · rw [e1, e2]; exact Or.inr ⟨rfl, _, _, rfl, hc⟩
  · exact Rel.rfl'

theorem postL_rel {ts : List TK} {T1 T2 : Nat → Option (List EI × Nat)} (h : ∀ i, Rel ts (T1 i) (T2 i)) : ∀ f its j, postL ts T1 f its j = postL ts T2 f its j
  | 0, _, _ => rfl
  | f + 1, its, j => by
    rw [postL, postL, brk_rel h]
    split
    · split
      · exact postL_rel h f _ _
      · rfl
    · split
      · cases brkP ts T2 (j + 1) with
        | none => rfl
        | some r => exact postL_rel h f _ _
      · rfl

theorem postL_colon {ts : List TK} {T : Nat → Option (List EI × Nat)} {f : Nat} {its : List EI} {a : Nat} (hc : isT ts a sColon = true) : postL ts T (f + 1) its a = some (its, a) := by
  rw [postL, isT_one hc (by decide), isT_one hc (by decide)]
  rfl
theorem sumL_colon {st : Bool} {ts : List TK} {T : Nat → Option (List EI × Nat)} {f : Nat} {its : List EI} {a : Nat} (hc : isT ts a sColon = true) : sumL st ts T (f + 1) its a = some (its, a) := by
  rw [sumL, isT_one hc (by decide)]
  rfl

theorem post_rel {ts : List TK} {T1 T2 : Nat → Option (List EI × Nat)} (h : ∀ i, Rel ts (T1 i) (T2 i)) (i : Nat) : Rel ts (postP true ts T1 i) (postP false ts T2 i) := by
  unfold postP
  rcases atom_rel h i with e | ⟨e1, l, a, e2, hc⟩
  · rw [e]
    cases atomP false ts T2 i with
    | none => exact Rel.rfl'
    | some r => exact Or.inl (postL_rel h _ _ _)
  · rw [e1, e2]
    exact Or.inr ⟨rfl, l, a, postL_colon hc, hc⟩

theorem sumL_rel {ts : List TK} {T1 T2 : Nat → Option (List EI × Nat)} (h : ∀ i, Rel ts (T1 i) (T2 i)) : ∀ f its j, Rel ts (sumL true ts T1 f its j) (sumL false ts T2 f its j)
  | 0, _, _ => Rel.rfl'
  | f + 1, its, j => by
    rw [sumL, sumL]
    split
    · rcases post_rel h (j + 1) with e | ⟨e1, l, a, e2, hc⟩
      · rw [e]
        cases e3 : postP false ts T2 (j + 1) with
        | none => exact Rel.rfl'
        | some r => exact sumL_rel h f _ _
      · rw [e1, e2]
        cases f with
        | zero => exact Rel.rfl'
        | succ f => exact Or.inr ⟨rfl, _, a, sumL_colon hc, hc⟩
    · exact Rel.rfl'

theorem sum_rel {ts : List TK} {T1 T2 : Nat → Option (List EI × Nat)} (h : ∀ i, Rel ts (T1 i) (T2 i)) (i : Nat) : Rel ts (sumP true ts T1 i) (sumP false ts T2 i) := by
  unfold sumP
  rcases post_rel h i with e | ⟨e1, l, a, e2, hc⟩
  · rw [e]
    cases postP false ts T2 i with
    | none => exact Rel.rfl'
    | some r => exact sumL_rel h _ _ _
  · rw [e1, e2]
    exact Or.inr ⟨rfl, l, a, sumL_colon hc, hc⟩

theorem fun_rel {ts : List TK} {T1 T2 : Nat → Option (List EI × Nat)} (h : ∀ i, Rel ts (T1 i) (T2 i)) (i : Nat) : Rel ts (funP true ts T1 i) (funP false ts T2 i) := by
  unfold funP
  split
  · rcases ty_rel (ts := ts) (ts.length + 1) (i + 3) with e | ⟨e1, l, a, e2, hc⟩
    · rw [e]
      cases tyP false ts (ts.length + 1) (i + 3) with
      | none => exact Rel.rfl'
      | some r =>
        obtain ⟨t, j⟩ := r
        show Rel ts (if isT ts j sRight = true then _ else none) (if isT ts j sRight = true then _ else none)
        split
        · rcases h (j + 1) with e | ⟨e1, l, a, e2, hc⟩
          · rw [e]; exact Rel.rfl'
          · rw [e1, e2]; exact Or.inr ⟨rfl, _, a, rfl, hc⟩
        · exact Rel.rfl'
    · rw [e1, e2]
      show Rel ts none (if isT ts a sRight = true then _ else none)
      rw [isT_one hc (by decide)]
      exact Rel.rfl'
  · exact Rel.rfl'

theorem if_rel {ts : List TK} {T1 T2 : Nat → Option (List EI × Nat)} (h : ∀ i, Rel ts (T1 i) (T2 i)) (i : Nat) : Rel ts (ifP ts T1 i) (ifP ts T2 i) := by
  unfold ifP
  rcases h i with e | ⟨e1, l, a, e2, hc⟩
  · rw [e]
    cases T2 i with
    | none => exact Rel.rfl'
    | some r =>
      obtain ⟨c, j⟩ := r
      show Rel ts (if isT ts j sThen = true then _ else none) (if isT ts j sThen = true then _ else none)
      split
      · rcases h (j + 1) with e | ⟨e1, l, a, e2, hc⟩
        · rw [e]
          cases T2 (j + 1) with
          | none => exact Rel.rfl'
          | some r =>
            obtain ⟨d, k⟩ := r
            show Rel ts (if isT ts k sElse = true then _ else none) (if isT ts k sElse = true then _ else none)
            split
            · rcases h (k + 1) with e | ⟨e1, l, a, e2, hc⟩
              · rw [e]; exact Rel.rfl'
              · rw [e1, e2]; exact Or.inr ⟨rfl, _, a, rfl, hc⟩
            · exact Rel.rfl'
        · rw [e1, e2]
          show Rel ts none (if isT ts a sElse = true then _ else none)
          rw [isT_one hc (by decide)]
          exact Rel.rfl'
      · exact Rel.rfl'
  · rw [e1, e2]
    show Rel ts none (if isT ts a sThen = true then _ else none)
    rw [isT_one hc (by decide)]
    exact Rel.rfl'

theorem less_rel {ts : List TK} {T1 T2 : Nat → Option (List EI × Nat)} (h : ∀ i, Rel ts (T1 i) (T2 i)) (i : Nat) : Rel ts (lessP true ts T1 i) (lessP false ts T2 i) := by
  unfold lessP
  rcases sum_rel h i with e | ⟨e1, l, a, e2, hc⟩
  · rw [e]
    cases sumP false ts T2 i with
    | none => exact Rel.rfl'
    | some r =>
      obtain ⟨l, j⟩ := r
      show Rel ts (if isT ts j sLess = true then _ else some (l, j)) (if isT ts j sLess = true then _ else some (l, j))
      split
      · rcases sum_rel h (j + 1) with e | ⟨e1, r, a, e2, hc⟩
        · rw [e]; exact Rel.rfl'
        · rw [e1, e2]; exact Or.inr ⟨rfl, _, a, rfl, hc⟩
      · exact Rel.rfl'
  · rw [e1, e2]
    show Rel ts none (if isT ts a sLess = true then _ else some (l, a))
    rw [isT_one hc (by decide)]
    exact Or.inr ⟨rfl, l, a, rfl, hc⟩

theorem ex_rel {ts : List TK} : ∀ f i, Rel ts (exP true ts f i) (exP false ts f i)
  | 0, _ => Rel.rfl'
  | f + 1, i => by
    rw [exP, exP]
    split
    · exact fun_rel (ex_rel f) _
    · split
      · exact if_rel (ex_rel f) _
      · exact less_rel (ex_rel f) _

theorem decl_same (ts : List TK) : declP true ts = declP false ts := by
  unfold declP
  split
  · split
    · rfl
    · split
      · split
        · rcases ty_rel (ts := ts) (ts.length + 1) 3 with e | ⟨e1, l, a, e2, hc⟩
          · rw [e]
          · rw [e1, e2]
            have := isT_lt hc
            show dBad = if a = ts.length then _ else dBad
            rw [if_neg (by omega)]
        · rfl
      · split
        · split
          · rcases ty_rel (ts := ts) (ts.length + 1) 3 with e | ⟨e1, l, a, e2, hc⟩
            · rw [e]
              cases tyP false ts (ts.length + 1) 3 with
              | none => rfl
              | some r =>
                obtain ⟨t, j⟩ := r
                show (if isT ts j sEq = true then _ else dBad) = if isT ts j sEq = true then _ else dBad
                split
                · rcases ex_rel (ts := ts) (ts.length + 1) (j + 1) with e | ⟨e1, l, a, e2, hc⟩
                  · rw [e]
                  · rw [e1, e2]
                    have := isT_lt hc
                    show dBad = if a = ts.length then _ else dBad
                    rw [if_neg (by omega)]
                · rfl
            · rw [e1, e2]
              show dBad = if isT ts a sEq = true then _ else dBad
              rw [isT_one hc (by decide)]
              rfl
          · rfl
        · rfl
  · rfl

theorem decs_same : ∀ f ts, decs true f ts = decs false f ts
  | 0, _ => rfl
  | f + 1, ts => by
    rw [decs, decs]
    split
    · rfl
    · cases semi ts with
      | none => rfl
      | some k =>
        show declP true (ts.take k) :: decs true f (ts.drop (k + 1)) = declP false (ts.take k) :: decs false f (ts.drop (k + 1))
        rw [decl_same, decs_same f]

end Go.Proofs.YtmcbmcjbgjnbhaaGreatDoor

namespace Go.Proofs.YtmcbmcjbgjnbhaaGreatDoor
open Go.RowKit

/-- The bound that every length keeps once the law has counted. -/
def lim : Nat := 1048576

/-- A slice of strings. -/
structure StrsAt (w : World) (ao : Option Addr) (b o n : Nat) (S : Nat → ByteArray) : Prop where
  at_ : 0 < n → ao = some ⟨b, o, none⟩
  cell : ∀ i, i < n → w.cell? ⟨b, o + i, none⟩ = some (.string (S i))
  size : ∀ i, i < n → (S i).size ≤ 9223372036854775807
  len : n ≤ 9223372036854775807

/-- A slice of numbers. -/
structure IntsAt (w : World) (ao : Option Addr) (b o n : Nat) (D : Nat → Int) : Prop where
  at_ : 0 < n → ao = some ⟨b, o, none⟩
  cell : ∀ i, i < n → w.cell? ⟨b, o + i, none⟩ = some (.int .i64 (D i))
  len : n ≤ 9223372036854775807

theorem StrsAt.below {w w' : World} {ao : Option Addr} {b o n : Nat} {S : Nat → ByteArray} (h : StrsAt w ao b o n S) (hb : Below w.heap.size w w') : StrsAt w' ao b o n S :=
  ⟨h.at_, fun i hi => by rw [hb.cell (p := ⟨b, o + i, none⟩) (World.block_lt_of_cell? _ _ (h.cell i hi))]; exact h.cell i hi, h.size, h.len⟩
theorem IntsAt.below {w w' : World} {ao : Option Addr} {b o n : Nat} {D : Nat → Int} (h : IntsAt w ao b o n D) (hb : Below w.heap.size w w') : IntsAt w' ao b o n D :=
  ⟨h.at_, fun i hi => by rw [hb.cell (p := ⟨b, o + i, none⟩) (World.block_lt_of_cell? _ _ (h.cell i hi))]; exact h.cell i hi, h.len⟩
theorem below_drewN' (w : World) (n : Nat) : Below w.heap.size w (w.drewN n) := ⟨rfl, rfl, rfl, Nat.le_refl _, fun _ _ => rfl⟩


theorem bel1 (w : World) (o1 : Obj) : Below w.heap.size w (w.alloc o1) := (Below.refl _ _).alloc (Nat.le_refl _) _
theorem bel2 (w : World) (o1 o2 : Obj) : Below w.heap.size w ((w.alloc o1).alloc o2) := (bel1 w o1).alloc (by simp) _
theorem bel2d (w : World) (o1 o2 : Obj) (k : Nat) : Below w.heap.size w (((w.alloc o1).alloc o2).drewN k) := below_drewN (bel2 w o1 o2) k

end Go.Proofs.YtmcbmcjbgjnbhaaGreatDoor

namespace Go.Proofs.YtmcbmcjbgjnbhaaGreatDoor
open Go.RowKit

set_option maxRecDepth 100000 in
set_option maxHeartbeats 400000 in
theorem c18 (c : Int) (w : World) :
    Calls Tryz.prog 34 #[.int .u8 c] w fun e w' => e = .returned (.bool (sl c)) ∧ w' = w := by
  by_cases h1 : 97 ≤ c <;> by_cases h2 : c ≤ 122 <;>
  (go_enter Tryz.func34, Tryz.ntmps34
   go_wp2
   go_ret
   exact ⟨by simp [sl, h1, h2], rfl⟩)

set_option maxRecDepth 100000 in
set_option maxHeartbeats 1000000 in
theorem c30 (c : Int) (w : World) :
    Calls Tryz.prog 31 #[.int .u8 c] w fun e w' => e = .returned (.bool (wb c)) ∧ w' = w := by
  by_cases h1 : 97 ≤ c <;> by_cases h2 : c ≤ 122 <;> by_cases h3 : 48 ≤ c <;> by_cases h4 : c ≤ 57 <;> by_cases h5 : c = 95 <;> try (exfalso; omega)
  all_goals
    have h5' : (c == 95) = decide (c = 95) := by rw [Bool.eq_iff_iff]; simp
    go_enter Tryz.func31, Tryz.ntmps31
    go_wp2
    go_ret
    exact ⟨by simp [wb, *], rfl⟩

set_option maxRecDepth 100000 in
set_option maxHeartbeats 1000000 in
theorem c31 (s : ByteArray) (w : World) :
    Calls Tryz.prog 32 #[.string s] w fun e w' => e = .returned (.bool (rsv s.toList)) ∧ w' = w := by
  go_enter Tryz.func32, Tryz.ntmps32
  go_wp2
  all_goals
    go_ret
    exact ⟨by first | (simp_all [rsv]; done) | (refine congrArg (fun b => Ending.returned (Value.bool b)) ?_; rw [Bool.eq_iff_iff]; simp_all [rsv]), rfl⟩

set_option maxRecDepth 100000 in
set_option maxHeartbeats 1000000 in
theorem c41 (s : ByteArray) (w : World) :
    Calls Tryz.prog 36 #[.string s] w fun e w' => e = .returned (.bool (rsv s.toList)) ∧ w' = w := by
  go_enter Tryz.func36, Tryz.ntmps36
  go_wp2
  all_goals
    go_ret
    exact ⟨by simp_all [rsv], rfl⟩

end Go.Proofs.YtmcbmcjbgjnbhaaGreatDoor

namespace Go.Proofs.YtmcbmcjbgjnbhaaGreatDoor
open Go.RowKit

theorem ret_bool {a b : Bool} (h : a = b) : Ending.returned (.bool a) = .returned (.bool b) := by rw [h]

set_option maxRecDepth 100000 in
set_option maxHeartbeats 1000000 in
theorem c20 (c : Int) (w : World) :
    Calls Tryz.prog 35 #[.int .u8 c] w fun e w' => e = .returned (.bool (wb c)) ∧ w' = w := by
  by_cases h1 : 97 ≤ c <;> by_cases h2 : c ≤ 122 <;> by_cases h3 : 48 ≤ c <;> by_cases h4 : c ≤ 57 <;> by_cases h5 : c = 95 <;> try (exfalso; omega)
  all_goals
    have h5' : (c == 95) = decide (c = 95) := by rw [Bool.eq_iff_iff]; simp
    have h6 : sl c = decide (97 ≤ c ∧ c ≤ 122) := rfl
    go_enter Tryz.func35, Tryz.ntmps35
    go_wp2_with (go_at_call 34; refine (c18 _ _).mono ?_; rintro e w' ⟨rfl, rfl⟩)
    go_ret
    exact ⟨by simp [wb, *] <;> omega, rfl⟩

set_option maxRecDepth 100000 in
set_option maxHeartbeats 1000000 in
theorem c32 (s : ByteArray) (w : World) (_hs : s.size ≤ 9223372036854775807) :
    Calls Tryz.prog 22 #[.string s] w fun e w' => e = .returned (.bool (gn s)) ∧ w' = w := by
  by_cases h1 : s.size < 1
  · have HG : Hid (gn s = false) := gn_short (s := s) (Or.inl h1)
    go_enter Tryz.func22, Tryz.ntmps22
    go_wp2
    go_ret
    exact ⟨ret_bool HG.out.symm, rfl⟩
  by_cases h2 : 12 < s.size
  · have HG : Hid (gn s = false) := gn_short (s := s) (Or.inr h2)
    go_enter Tryz.func22, Tryz.ntmps22
    go_wp2
    go_ret
    exact ⟨ret_bool HG.out.symm, rfl⟩
  have hp : 0 < s.size := by omega
  have H0 : Hid (sl ((s[0]'hp).toNat : Int) = decide (97 ≤ ((s[0]'hp).toNat : Int) ∧ ((s[0]'hp).toNat : Int) ≤ 122)) := rfl
  by_cases h3 : 97 ≤ ((s[0]'hp).toNat : Int)
  case neg =>
    have HG : Hid (gn s = false) := gn_head hp (by rw [H0.out]; exact decide_eq_false (fun h => h3 h.1))
    have h3' : ((s[0]'hp).toNat : Int) < 97 := by omega
    go_enter Tryz.func22, Tryz.ntmps22
    go_wp2
    go_ret
    exact ⟨ret_bool HG.out.symm, rfl⟩
  by_cases h4 : ((s[0]'hp).toNat : Int) ≤ 122
  case neg =>
    have HG : Hid (gn s = false) := gn_head hp (by rw [H0.out]; exact decide_eq_false (fun h => h4 h.2))
    have h4' : 122 < ((s[0]'hp).toNat : Int) := by omega
    go_enter Tryz.func22, Tryz.ntmps22
    go_wp2
    go_ret
    exact ⟨ret_bool HG.out.symm, rfl⟩
  have Hs : Hid (sl ((s[0]'hp).toNat : Int) = true) := by rw [H0.out]; exact decide_eq_true ⟨h3, h4⟩
  go_enter Tryz.func22, Tryz.ntmps22
  go_wp2
  go_loop [3] (fun i => ∃ k : Nat, k ≤ s.size ∧ i = .int .i64 k ∧ Hid (∀ j (h : j < s.size), j < k → wb (s[j].toNat : Int) = true)) (fun i => s.size - (intOf i).toNat)
  case atStart => exact ⟨0, Nat.zero_le _, rfl, fun j _ h => absurd h (Nat.not_lt_zero _)⟩
  case round =>
    obtain ⟨k, hk, rfl, HA⟩ := hrel
    by_cases hlt : k < s.size
    · cases hw : wb (s[k].toNat : Int)
      · have HG : Hid (gn s = false) := gn_byte k hlt hw
        go_wp2_with (go_at_call 31; refine (c30 _ _).mono ?_; rintro e w' ⟨rfl, rfl⟩)
        go_ret
        exact ⟨ret_bool HG.out.symm, rfl⟩
      · have HW : Hid (wb (s[k].toNat : Int) = true) := hw
        go_wp2_with (go_at_call 31; refine (c30 _ _).mono ?_; rintro e w' ⟨rfl, rfl⟩)
        go_round
        case rel => exact ⟨k + 1, by omega, by go_num, fun j h hj => by
          by_cases e : j = k
          · subst e; exact HW.out
          · exact HA.out j h (by omega)⟩
        case measure => simp [intOf]; omega
    · have HE : Hid (gn s = !rsv s.toList) := gn_end (by omega) (by omega) Hs.out (fun j h => HA.out j h (by omega))
      go_wp2_with (go_at_call 32; refine (c31 _ _).mono ?_; rintro e w' ⟨rfl, rfl⟩)
      go_ret
      exact ⟨ret_bool HE.out.symm, rfl⟩

end Go.Proofs.YtmcbmcjbgjnbhaaGreatDoor

namespace Go.Proofs.YtmcbmcjbgjnbhaaGreatDoor
open Go.RowKit

set_option maxRecDepth 100000 in
set_option maxHeartbeats 1000000 in
theorem c40 (s : ByteArray) (w : World) (_hs : s.size ≤ 9223372036854775807) :
    Calls Tryz.prog 28 #[.string s] w fun e w' => e = .returned (.bool (gn s)) ∧ w' = w := by
  by_cases h1 : s.size = 0
  · have HG : Hid (gn s = false) := gn_short (s := s) (Or.inl (by omega))
    go_enter Tryz.func28, Tryz.ntmps28
    go_wp2
    go_ret
    exact ⟨ret_bool HG.out.symm, rfl⟩
  by_cases h2 : 12 < s.size
  · have HG : Hid (gn s = false) := gn_short (s := s) (Or.inr h2)
    have h1' : ((s.size : Int) == 0) = false := beq_eq_false_iff_ne.2 (by omega)
    go_enter Tryz.func28, Tryz.ntmps28
    go_wp2
    go_ret
    exact ⟨ret_bool HG.out.symm, rfl⟩
  have hp : 0 < s.size := by omega
  have h1' : ((s.size : Int) == 0) = false := beq_eq_false_iff_ne.2 (by omega)
  cases h3 : sl ((s[0]'hp).toNat : Int)
  · have HG : Hid (gn s = false) := gn_head hp h3
    go_enter Tryz.func28, Tryz.ntmps28
    go_wp2_with (go_at_call 34; refine (c18 _ _).mono ?_; rintro e w' ⟨rfl, rfl⟩)
    go_ret
    exact ⟨ret_bool HG.out.symm, rfl⟩
  have Hs : Hid (sl ((s[0]'hp).toNat : Int) = true) := h3
  go_enter Tryz.func28, Tryz.ntmps28
  go_wp2_with (go_at_call 34; refine (c18 _ _).mono ?_; rintro e w' ⟨rfl, rfl⟩)
  clear h3
  go_loop [3] (fun i => ∃ k : Nat, 1 ≤ k ∧ k ≤ s.size ∧ i = .int .i64 k ∧ Hid (∀ j (h : j < s.size), j < k → wb (s[j].toNat : Int) = true)) (fun i => s.size - (intOf i).toNat)
  case atStart => exact ⟨1, Nat.le_refl _, by omega, rfl, fun j _ h => by
    have : j = 0 := by omega
    subst this; exact wb_of_sl Hs.out⟩
  case round =>
    obtain ⟨k, hk1, hk, rfl, HA⟩ := hrel
    by_cases hlt : k < s.size
    · cases hw : wb (s[k].toNat : Int)
      · have HG : Hid (gn s = false) := gn_byte k hlt hw
        go_wp2_with (go_at_call 35; refine (c20 _ _).mono ?_; rintro e w' ⟨rfl, rfl⟩)
        go_ret
        exact ⟨ret_bool HG.out.symm, rfl⟩
      · have HW : Hid (wb (s[k].toNat : Int) = true) := hw
        go_wp2_with (go_at_call 35; refine (c20 _ _).mono ?_; rintro e w' ⟨rfl, rfl⟩)
        go_round
        case rel => exact ⟨k + 1, by omega, by omega, by go_num, fun j h hj => by
          by_cases e : j = k
          · subst e; exact HW.out
          · exact HA.out j h (by omega)⟩
        case measure => simp [intOf]; omega
    · have HE : Hid (gn s = !rsv s.toList) := gn_end (by omega) (by omega) Hs.out (fun j h => HA.out j h (by omega))
      go_wp2_with (go_at_call 36; refine (c41 _ _).mono ?_; rintro e w' ⟨rfl, rfl⟩)
      go_ret
      exact ⟨ret_bool HE.out.symm, rfl⟩

end Go.Proofs.YtmcbmcjbgjnbhaaGreatDoor

