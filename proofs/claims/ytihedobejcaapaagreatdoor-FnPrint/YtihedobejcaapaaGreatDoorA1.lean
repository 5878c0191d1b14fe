/-
  Pure Scan PaA Mem2 Words Names Names2
-/
import Derived.WalkKit
import Derived.Lib.IndexMore
import Derived.Test.YtihedobejcaapaaGreatDoorProg
import Derived.WalkSmall
import Derived.WalkSpells
import Derived.WalkLawsBesides
import Derived.Deep.OwnRows
import Derived.Deep.Draws
import Derived.Deep.QuietTactic
import Derived.BigQuiet
import Derived.Deep.RegionWith
import Derived.Below
import Derived.Laws.Concat
set_option maxHeartbeats 1000000
set_option maxRecDepth 100000
namespace Go.Proofs.YtihedobejcaapaaGreatDoor
theorem hQx {p : Prop} (h : p) : Go.RowKit.Hid p:=h
theorem blt {w : World} {a : Addr} {v : Value} (h : w.cell? a = some v) : a.block < w.heap.size:=World.block_lt_of_cell?  _ _ h
abbrev Bw (w w' : World) : Prop:=Go.RowKit.Below w.heap.size w w'
theorem xe.{u} {α : Sort u} (a : α) : Exists fun x=>x = a:=⟨a,rfl⟩
theorem rsa (a b : ByteArray) (h : a.size + b.size <= 9223372036854775807) (W : World) : (Op.stringOp .add a b).run Tryz.prog W = .ok (.string (a ++ b)) W:=run_string_add_sum (P:=Tryz.prog) (w:=W) a b h
theorem wk {x y : Int} (h : x = y /\ -9223372036854775808 <= y /\ y <= 9223372036854775807) : IntKind.i64.wrap x = y:=by rw [IntKind.wrap_i64];omega
theorem bsa (a b : ByteArray) : (a ++ b).size = a.size + b.size:=ByteArray.size_append
theorem ms1 {α : Type} {a b : α} (h : a ∈ [b]) : a = b:=List.mem_singleton.1 h
theorem bn2 {α : Type} [BEq α] [LawfulBEq α] {a b : α} (h : a ≠ b) : (a == b) = false:=beq_eq_false_iff_ne.2 h
theorem nlr (n : Nat) : n <= n:=Nat.le_refl n
theorem lap {α : Type} {a b : List α} : (a ++ b).length = a.length + b.length:=List.length_append
def sl (c : Int) : Bool:=decide (97 <= c /\ c <= 122)
def wb (c : Int) : Bool:=decide ((97 <= c /\ c <= 122) \/ (48 <= c /\ c <= 57) \/ c = 95)
def pI (l : List UInt8) : Bool:=
 l == [105,109,112,111,114,116] || l == [116,121,112,101] || l == [118,97,108] || l == [102,117,110] || l == [105,102] ||
 l == [116,104,101,110] || l == [101,108,115,101] || l == [105,110,116] || l == [98,111,111,108] || l == [116,114,117,101] || l == [102,97,108,115,101]
def pz (l : List UInt8) : Bool:=
 decide (1 <= l.length /\ l.length <= 12) && (sl ((l.headD 0).toNat : Int) && (l.all (fun b=>wb (b.toNat : Int)) && !pI l))
def gn (s : ByteArray) : Bool:=pz s.data.toList
theorem tX {c : Int} (h : sl c = true) : wb c = true:=by
 simp only [sl,wb,decide_eq_true_eq] at *;exact Or.inl h
theorem fg {s : ByteArray} (h : s.size < 1 \/ 12 < s.size) : gn s = false:=by
 have : s.data.toList.length = s.size:=rfl;have a : ¬ (1 <= s.data.toList.length /\ s.data.toList.length <= 12):=by omega
 simp only [gn,pz,decide_eq_false a,Bool.false_and]
theorem eF (s : ByteArray) (h : 0 < s.size) : s.data.toList.headD 0 = s[0]:=by
 have b : 0 < s.data.toList.length:=h
 cases e : s.data.toList with
 | nil=>rw [e] at b;simp at b
 | cons a t=>
   have : s[0] = s.data.toList[0]'b:=rfl;rw [this];simp [e]
theorem jR {s : ByteArray} (h : 0 < s.size) (hs : sl (s[0].toNat : Int) = false) : gn s = false:=by
 simp only [gn,pz,eF s h,hs,Bool.false_and,Bool.and_false]
theorem nj {s : ByteArray} (k : Nat) (h : k < s.size) (hs : wb (s[k].toNat : Int) = false) : gn s = false:=by
 have a : s[k] ∈ s.data.toList:=by
  have : s[k] = s.data.toList[k]'h:=rfl;rw [this];exact List.getElem_mem _
 have : s.data.toList.all (fun b=>wb (b.toNat : Int)) = false:=by
  rw [List.all_eq_false];exact ⟨_,a,by simp [hs]⟩
 simp only [gn,pz,this,Bool.false_and,Bool.and_false]
theorem wo {s : ByteArray} (h1 : 1 <= s.size) (h2 : s.size <= 12) (h0 : sl ((s[0]'(by omega)).toNat : Int) = true)
  (ha : ∀ j (h : j < s.size),wb (s[j].toNat : Int) = true) : gn s = !pI s.toList:=by
 have f : s.data.toList.length = s.size:=rfl
 have a : s.data.toList.all (fun b=>wb (b.toNat : Int)) = true:=by
  rw [List.all_eq_true];intro b c;obtain ⟨j,e,rfl⟩:=List.getElem_of_mem c;exact ha j (by omega)
 have d : decide (1 <= s.data.toList.length /\ s.data.toList.length <= 12) = true:=by simp only [decide_eq_true_eq];omega
 simp only [gn,pz,d,eF s (by omega),h0,a,Bool.true_and,ByteArray.toList_eq]
def dg (c : Int) : Bool:=decide (48 <= c /\ c <= 57)
def nn (c : Int) : Bool:=decide (c ≠ 10)
def bt (s : ByteArray) (i : Nat) : Int:=if h : i < s.size then (s[i].toNat : Int) else -1
theorem eA {s : ByteArray} {i : Nat} (h : i < s.size) : bt s i = (s[i].toNat : Int):=dif_pos h
theorem mJ {s : ByteArray} {i : Nat} (h : ¬ i < s.size) : bt s i = -1:=dif_neg h
def run (p : Int -> Bool) (s : ByteArray) (i : Nat) : Nat:=if i < s.size then (if p (bt s i) then run p s (i + 1) + 1 else 0) else 0
termination_by s.size - i
theorem fk {p : Int -> Bool} {s : ByteArray} {i : Nat} (h : i < s.size) (hp : p (bt s i) = true) : run p s i = run p s (i + 1) + 1:=by
 rw [run,if_pos h,if_pos hp]
theorem eU {p : Int -> Bool} {s : ByteArray} {i : Nat} (h : i < s.size) (hp : p (bt s i) = false) : run p s i = 0:=by
 rw [run,if_pos h,hp];rfl
theorem fu {p : Int -> Bool} {s : ByteArray} {i : Nat} (h : ¬ i < s.size) : run p s i = 0:=by
 rw [run,if_neg h]
theorem mS {p : Int -> Bool} {s : ByteArray} {i : Nat} (h : i <= s.size) : i + run p s i <= s.size:=by
 by_cases a : i < s.size
 ·cases hp : p (bt s i)
  ·rw [eU a hp];omega
  ·rw [fk a hp]
   have:=mS (p:=p) (s:=s) (i:=i + 1) (by omega);omega
 ·rw [fu a];omega
termination_by s.size - i
def aR (s : ByteArray) (i : Nat) : Nat:=
 if bt s i = 32 \/ bt s i = 10 then 1 else
 if bt s i = 35 then 1 + run nn s (i + 1) else
 if sl (bt s i) then 1 + run wb s (i + 1) else
 if dg (bt s i) then 1 + run dg s (i + 1) else
 if bt s i = 45 /\ bt s (i + 1) = 62 then 2 else 1
def blk (s : ByteArray) (i : Nat) : Bool:=decide (bt s i = 32 \/ bt s i = 10 \/ bt s i = 35)
theorem dU (s : ByteArray) (i : Nat) : 1 <= aR s i:=by
 unfold aR
 repeat' split
 all_goals omega
theorem iO {s : ByteArray} {i : Nat} (h : i < s.size) : i + aR s i <= s.size:=by
 unfold aR;have c:=mS (p:=nn) (s:=s) (i:=i + 1) (by omega);have a:=mS (p:=wb) (s:=s) (i:=i + 1) (by omega);have b:=mS (p:=dg) (s:=s) (i:=i + 1) (by omega)
 split
 ·omega
 split
 ·omega
 split
 ·omega
 split
 ·omega
 split
 ·rename_i h4
  have : i + 1 < s.size:=by
   by_cases q : i + 1 < s.size
   ·exact q
   ·have:=h4.2;rw [mJ q] at this;omega
  omega
 ·omega
def lC : List UInt8:=[59,58,61,63,123,125,40,41,44,46,43,60]
def sg (c : Int) : Bool:=decide (c = 59 \/ c = 58 \/ c = 61 \/ c = 63 \/ c = 123 \/ c = 125 \/ c = 40 \/ c = 41 \/ c = 44 \/ c = 46 \/ c = 43 \/ c = 60)
def num (t : List UInt8) : Bool:=dg ((t.headD 0).toNat : Int) && !decide (9 < t.length \/ ((t.headD 0).toNat : Int) = 48 /\ 1 < t.length)
def cls (t : List UInt8) : Int:=if pz t then 1 else if pI t then 2 else if num t then 3 else if t == [45,62] || Lib.contains lC t then 4 else 0
structure TK where
 cls : Int
 txt : ByteArray
 loc : Nat
def gC (s : ByteArray) (i : Nat) : ByteArray:=s.extract i (i + aR s i)
def iZ (s : ByteArray) (i : Nat) : List TK:=
 if i < s.size then (if blk s i then iZ s (i + aR s i) else ⟨cls (gC s i).toList,gC s i,i⟩ :: iZ s (i + aR s i)) else []
termination_by s.size - i
decreasing_by all_goals (have:=dU s i;omega)
theorem gQ {s : ByteArray} {i : Nat} (h : i < s.size) (hb : blk s i = true) : iZ s i = iZ s (i + aR s i):=by
 rw [iZ,if_pos h,if_pos hb]
theorem gO {s : ByteArray} {i : Nat} (h : i < s.size) (hb : blk s i = false) : iZ s i = ⟨cls (gC s i).toList,gC s i,i⟩ :: iZ s (i + aR s i):=by
 rw [iZ,if_pos h,hb];rfl
theorem fI {s : ByteArray} {i : Nat} (h : ¬ i < s.size) : iZ s i = []:=by
 rw [iZ,if_neg h]
def bB (s : ByteArray) : List TK:=if s.size <= 1000 then iZ s 0 else []
theorem eZ {s : ByteArray} {i : Nat} (h : i < s.size) : (gC s i).size = aR s i:=by
 unfold gC;rw [ByteArray.size_extract];have:=iO h;omega
theorem ox {s : ByteArray} {i : Nat} (h : i < s.size) : ((((gC s i).toList.headD 0).toNat : Nat) : Int) = bt s i:=by
 have b:=eZ h;have a:=dU s i;rw [ByteArray.toList_eq,eF _ (by omega),eA h];unfold gC;rw [ByteArray.getElem_extract];simp
theorem uA {b : UInt8} {l : List UInt8} (h : sg (b.toNat : Int) = false) : Lib.contains lC (b :: l) = false:=by
 have a : ∀ c ∈ lC,(b == c) = false:=fun c hc=>by
  rw [beq_eq_false_iff_ne];intro e;subst e
  revert h;revert hc
  simp only [lC,List.mem_cons,List.not_mem_nil,or_false];rintro (rfl | rfl | rfl | rfl | rfl | rfl | rfl | rfl | rfl | rfl | rfl | rfl) <;> decide
 unfold Lib.contains;rw [Lib.index_none]
 ·rfl
 ·intro j d
  unfold Lib.occAt
  cases hd : lC.drop j with
  | nil=>rfl
  | cons c l'=>
    have : c ∈ lC:=List.mem_of_mem_drop (i:=j) (by rw [hd];exact List.mem_cons_self);rw [List.isPrefixOf_cons_cons,a c this,Bool.false_and]
theorem tP {b : UInt8} {l : List UInt8} (h : pI (b :: l) = true) : sl (b.toNat : Int) = true:=by
 unfold pI at h;simp only [Bool.or_eq_true,beq_iff_eq,List.cons.injEq] at h;rcases h with ((((((((((h | h) | h) | h) | h) | h) | h) | h) | h) | h) | h) <;> (rw [h.1];decide)
theorem vV {b : UInt8} {l : List UInt8} (h : sl (b.toNat : Int) = false) : pz (b :: l) = false /\ pI (b :: l) = false:=by
 constructor
 ·unfold pz
  simp only [List.headD_cons,h,Bool.false_and,Bool.and_false]
 ·cases hr : pI (b :: l)
  ·rfl
  ·rw [tP hr] at h;cases h
theorem xn {t : List UInt8} (ht : t ≠ []) (h : dg ((t.headD 0).toNat : Int) = true) : cls t = if 9 < t.length \/ ((t.headD 0).toNat : Int) = 48 /\ 1 < t.length then 0 else 3:=by
 cases t with
 | nil=>exact absurd rfl ht
 | cons b l=>
   simp only [List.headD_cons] at h
   have g : sl (b.toNat : Int) = false:=by
    simp only [dg,decide_eq_true_eq] at h;simp only [sl,decide_eq_false_iff_not];omega
   obtain ⟨f,c⟩:=vV (l:=l) g
   have d : Lib.contains lC (b :: l) = false:=uA (by
    simp only [dg,decide_eq_true_eq] at h;simp only [sg,decide_eq_false_iff_not];omega)
   have a : ((b :: l) == [45,62]) = false:=by
    rw [beq_eq_false_iff_ne];intro e;have : b = 45:=(List.cons.inj e).1;subst this
    revert h;decide
   unfold cls;rw [f,c,d,a];unfold num;by_cases q : 9 < (b :: l).length \/ (((b :: l).headD 0).toNat : Int) = 48 /\ 1 < (b :: l).length
   ·rw [if_pos q,decide_eq_true q,Bool.not_true,Bool.and_false];rfl
   ·rw [if_neg q,decide_eq_false q,Bool.not_false,Bool.and_true]
    have : dg ((((b :: l).headD 0).toNat : Nat) : Int) = true:=h;rw [this];rfl
structure TI where
 op : Int
 md : ByteArray
 nm : ByteArray
 ns : List ByteArray
structure EI where
 op : Int
 num : Int
 md : ByteArray
 nm : ByteArray
 ns : List ByteArray
 ty : List TI
structure DC where
 kind : Int
 nm : ByteArray
 ty : List TI
 ex : List EI
def e0 : ByteArray:=ByteArray.empty
def cV (op : Int) : TI:=⟨op,e0,e0,[]⟩
def fM (op : Int) : EI:=⟨op,0,e0,e0,[],[]⟩
def cK : DC:=⟨0,e0,[],[]⟩
def tx (ts : List TK) (i : Nat) : ByteArray:=((ts[i]?).map TK.txt).getD e0
def isT (ts : List TK) (i : Nat) (s : List UInt8) : Bool:=match ts[i]? with
 | some t=>t.txt.data.toList == s
 | none=>false
def cr (ts : List TK) (i : Nat) (c : Int) : Bool:=match ts[i]? with
 | some t=>t.cls == c
 | none=>false
theorem aL {ts : List TK} {i : Nat} {s : List UInt8} (h : isT ts i s = true) : i < ts.length:=by
 unfold isT at h;by_cases a : i < ts.length
 ·exact a
 ·rw [List.getElem?_eq_none (by omega)] at h;cases h
theorem d4 {ts : List TK} {i : Nat} {c : Int} (h : cr ts i c = true) : i < ts.length:=by
 unfold cr at h;by_cases a : i < ts.length
 ·exact a
 ·rw [List.getElem?_eq_none (by omega)] at h;cases h
theorem bi {ts : List TK} {i : Nat} {s s' : List UInt8} (h : isT ts i s = true) (hne : s ≠ s') : isT ts i s' = false:=by
 unfold isT at h ⊢
 cases e : ts[i]? with
 | none=>rfl
 | some t=>
   rw [e] at h;have a : t.txt.data.toList = s:=by simpa using h
   show (t.txt.data.toList == s') = false;rw [a];exact bn2 hne
def jb : List UInt8:=[105,110,116]
def fL : List UInt8:=[98,111,111,108]
def lA : List UInt8:=[63]
def dI : List UInt8:=[123]
def cw : List UInt8:=[125]
def cQ : List UInt8:=[40]
def bA : List UInt8:=[41]
def aB : List UInt8:=[58]
def gh : List UInt8:=[61]
def eK : List UInt8:=[44]
def qr : List UInt8:=[46]
def lM : List UInt8:=[43]
def jI : List UInt8:=[60]
def iF : List UInt8:=[45,62]
def gx : List UInt8:=[59]
def fQ : List UInt8:=[116,114,117,101]
def eS : List UInt8:=[102,97,108,115,101]
def ix : List UInt8:=[102,117,110]
def sk : List UInt8:=[105,102]
def jK : List UInt8:=[116,104,101,110]
def lJ : List UInt8:=[101,108,115,101]
def bY : List UInt8:=[105,109,112,111,114,116]
def ik : List UInt8:=[116,121,112,101]
def qd : List UInt8:=[118,97,108]
def bC (ns : List ByteArray) (s : ByteArray) : Bool:=ns.any fun x=>x.data.toList == s.data.toList
def bW (st : Bool) (ts : List TK) (i : Nat) : Option (ByteArray × ByteArray × Nat):=
 if isT ts (i + 1) aB then
  if cr ts (i + 2) 1 then some (tx ts i,tx ts (i + 2),i + 3)
  else if st then none else some (e0,tx ts i,i + 1)
 else some (e0,tx ts i,i + 1)
def cX {α : Type} (ts : List TK) (T : Nat -> Option (List α × Nat)) (sg : List UInt8) : Nat -> Nat -> List ByteArray -> List α -> Option (List α × List ByteArray × Nat)
 | 0,_,_,_=>none
 | f + 1,j,ns,its=>
   if cr ts j 1 then
    if bC ns (tx ts j) then none else
    if isT ts (j + 1) sg then
     match T (j + 2) with
     | none=>none
     | some (l,k)=>
       if isT ts k cw then some (its ++ l,ns ++ [tx ts j],k + 1)
       else if isT ts k eK then cX ts T sg f (k + 1) (ns ++ [tx ts j]) (its ++ l) else none
    else none
   else none
def aH {α : Type} (ts : List TK) (T : Nat -> Option (List α × Nat)) (sg : List UInt8) (j : Nat) : Option (List α × List ByteArray × Nat):=
 if isT ts j cw then some ([],[],j + 1) else cX ts T sg (ts.length + 1) j [] []
def bO {α : Type} (ts : List TK) (T : Nat -> Option (List α × Nat)) (i : Nat) : Option (List α × Nat):=
 match T i with
 | none=>none
 | some (l,j)=>if isT ts j bA then some (l,j + 1) else none
def aF (st : Bool) (ts : List TK) (T : Nat -> Option (List TI × Nat)) (i : Nat) : Option (List TI × Nat):=
 if cr ts i 1 then
  match bW st ts i with
  | none=>none
  | some (m,n,j)=>some ([⟨4,m,n,[]⟩],j)
 else if isT ts i jb then some ([cV 1],i + 1)
 else if isT ts i fL then some ([cV 2],i + 1)
 else if isT ts i lA then some ([cV 3],i + 1)
 else if isT ts i dI then
  match aH ts T aB (i + 1) with
  | none=>none
  | some (its,ns,j)=>some (its ++ [⟨5,e0,e0,ns⟩],j)
 else if isT ts i cQ then bO ts T (i + 1)
 else none
def tyP (st : Bool) (ts : List TK) : Nat -> Nat -> Option (List TI × Nat)
 | 0,_=>none
 | f + 1,i=>
   match aF st ts (tyP st ts f) i with
   | none=>none
   | some (l,j)=>
     if isT ts j iF then
      match tyP st ts f (j + 1) with
      | none=>none
      | some (r,k)=>some (l ++ r ++ [cV 6],k)
     else some (l,j)
def ib (s : List UInt8) : Int:=s.foldl (fun n c=>n * 10 + ((c.toNat : Int) - 48)) 0
def atomP (st : Bool) (ts : List TK) (E : Nat -> Option (List EI × Nat)) (i : Nat) : Option (List EI × Nat):=
 if cr ts i 1 then
  match bW st ts i with
  | none=>none
  | some (m,n,j)=>some ([⟨3,0,m,n,[],[]⟩],j)
 else if cr ts i 3 then some ([⟨1,ib (tx ts i).data.toList,e0,e0,[],[]⟩],i + 1)
 else if isT ts i fQ then some ([⟨2,1,e0,e0,[],[]⟩],i + 1)
 else if isT ts i eS then some ([fM 2],i + 1)
 else if isT ts i dI then
  match aH ts E gh (i + 1) with
  | none=>none
  | some (its,ns,j)=>some (its ++ [⟨4,0,e0,e0,ns,[]⟩],j)
 else if isT ts i cQ then bO ts E (i + 1)
 else none
def bu (ts : List TK) (E : Nat -> Option (List EI × Nat)) : Nat -> List EI -> Nat -> Option (List EI × Nat)
 | 0,_,_=>none
 | f + 1,its,j=>
   if isT ts j qr then
    if cr ts (j + 1) 1 then bu ts E f (its ++ [⟨5,0,e0,tx ts (j + 1),[],[]⟩]) (j + 2) else none
   else if isT ts j cQ then
    match bO ts E (j + 1) with
    | none=>none
    | some (l,k)=>bu ts E f (its ++ l ++ [fM 7]) k
   else some (its,j)
def postP (st : Bool) (ts : List TK) (E : Nat -> Option (List EI × Nat)) (i : Nat) : Option (List EI × Nat):=
 match atomP st ts E i with
 | none=>none
 | some (l,j)=>bu ts E (ts.length + 1) l j
def ek (st : Bool) (ts : List TK) (E : Nat -> Option (List EI × Nat)) : Nat -> List EI -> Nat -> Option (List EI × Nat)
 | 0,_,_=>none
 | f + 1,its,j=>
   if isT ts j lM then
    match postP st ts E (j + 1) with
    | none=>none
    | some (l,k)=>ek st ts E f (its ++ l ++ [fM 9]) k
   else some (its,j)
def cu (st : Bool) (ts : List TK) (E : Nat -> Option (List EI × Nat)) (i : Nat) : Option (List EI × Nat):=
 match postP st ts E i with
 | none=>none
 | some (l,j)=>ek st ts E (ts.length + 1) l j
def dp (st : Bool) (ts : List TK) (E : Nat -> Option (List EI × Nat)) (i : Nat) : Option (List EI × Nat):=
 if isT ts i cQ && cr ts (i + 1) 1 && isT ts (i + 2) aB then
  match tyP st ts (ts.length + 1) (i + 3) with
  | none=>none
  | some (t,j)=>
    if isT ts j bA then
     match E (j + 1) with
     | none=>none
     | some (b,k)=>some (b ++ [⟨6,0,e0,tx ts (i + 1),[],t⟩],k)
    else none
 else none
def pF (ts : List TK) (E : Nat -> Option (List EI × Nat)) (i : Nat) : Option (List EI × Nat):=
 match E i with
 | none=>none
 | some (c,j)=>
   if isT ts j jK then
    match E (j + 1) with
    | none=>none
    | some (a,k)=>
      if isT ts k lJ then
       match E (k + 1) with
       | none=>none
       | some (b,l)=>some (c ++ a ++ b ++ [fM 8],l)
      else none
   else none
def cY (st : Bool) (ts : List TK) (E : Nat -> Option (List EI × Nat)) (i : Nat) : Option (List EI × Nat):=
 match cu st ts E i with
 | none=>none
 | some (l,j)=>
   if isT ts j jI then
    match cu st ts E (j + 1) with
    | none=>none
    | some (r,k)=>some (l ++ r ++ [fM 10],k)
   else some (l,j)
def ay (st : Bool) (ts : List TK) : Nat -> Nat -> Option (List EI × Nat)
 | 0,_=>none
 | f + 1,i=>
   if isT ts i ix then dp st ts (ay st ts f) (i + 1)
   else if isT ts i sk then pF ts (ay st ts f) (i + 1)
   else cY st ts (ay st ts f) i
def bM (st : Bool) (ts : List TK) : DC:=
 if cr ts 1 1 then
  if isT ts 0 bY then (if ts.length = 2 then ⟨1,tx ts 1,[],[]⟩ else cK)
  else if isT ts 0 ik then
   if isT ts 2 gh then
    match tyP st ts (ts.length + 1) 3 with
    | none=>cK
    | some (t,j)=>if j = ts.length then ⟨2,tx ts 1,t,[]⟩ else cK
   else cK
  else if isT ts 0 qd then
   if isT ts 2 aB then
    match tyP st ts (ts.length + 1) 3 with
    | none=>cK
    | some (t,j)=>
      if isT ts j gh then
       match ay st ts (ts.length + 1) (j + 1) with
       | none=>cK
       | some (x,k)=>if k = ts.length then ⟨3,tx ts 1,t,x⟩ else cK
      else cK
   else cK
  else cK
 else cK
def semi (ts : List TK) : Option Nat:=ts.findIdx? fun t=>t.txt.data.toList == gx
def cF (st : Bool) : Nat -> List TK -> List DC
 | 0,_=>[]
 | f + 1,ts=>
   if ts.isEmpty then [] else
   match semi ts with
   | none=>[cK]
   | some k=>bM st (ts.take k) :: cF st f (ts.drop (k + 1))
end Go.Proofs.YtihedobejcaapaaGreatDoor
namespace Go.Proofs.YtihedobejcaapaaGreatDoor
open Go.RowKit
theorem bh (w : World) (n : Nat) : Bw w (w.drewN n):=⟨rfl,rfl,rfl,nlr _,fun _ _=>rfl⟩
theorem bel1 (w : World) (o1 : Obj) : Bw w (w.alloc o1):=(Below.refl _ _).alloc (nlr _) _
theorem eM (w : World) (o1 o2 : Obj) : Bw w ((w.alloc o1).alloc o2):=(bel1 w o1).alloc (by simp) _
theorem ph (w : World) (o1 o2 : Obj) (k : Nat) : Bw w (((w.alloc o1).alloc o2).drewN k):=below_drewN (eM w o1 o2) k
theorem zI (c : Int) (w : World) :
  Calls Tryz.prog 30 #[.int .u8 c] w fun e w'=>e = .returned (.bool (sl c)) /\ w' = w:=by
 by_cases b : 97 <= c <;> by_cases a : c <= 122 <;>
 (go_enter Tryz.func30,Tryz.ntmps30
  go_wp2;go_ret;exact ⟨by simp [sl,b,a],rfl⟩)
theorem Dh (c : Int) (w : World) :
  Calls Tryz.prog 48 #[.int .u8 c] w fun e w'=>e = .returned (.bool (wb c)) /\ w' = w:=by
 by_cases d : 97 <= c <;> by_cases g : c <= 122 <;> by_cases b : 48 <= c <;> by_cases h : c <= 57 <;> by_cases f : c = 95 <;> try (exfalso;omega)
 all_goals
  have a : (c == 95) = decide (c = 95):=by rw [Bool.eq_iff_iff];simp
  go_enter Tryz.func48,Tryz.ntmps48;go_wp2;go_ret;exact ⟨by simp [wb, *],rfl⟩
theorem Dt (s : ByteArray) (w : World) :
  Calls Tryz.prog 49 #[.string s] w fun e w'=>e = .returned (.bool (pI s.toList)) /\ w' = w:=by
 go_enter Tryz.func49,Tryz.ntmps49;go_wp2
 all_goals
  go_ret;exact ⟨by first | (simp_all [pI];done) | (refine congrArg (fun b=>Ending.returned (Value.bool b)) ?_;rw [Bool.eq_iff_iff];simp_all [pI]),rfl⟩
theorem c41 (s : ByteArray) (w : World) :
  Calls Tryz.prog 68 #[.string s] w fun e w'=>e = .returned (.bool (pI s.toList)) /\ w' = w:=by
 go_enter Tryz.func68,Tryz.ntmps68;go_wp2
 all_goals
  go_ret;exact ⟨by simp_all [pI],rfl⟩
theorem aV {a b : Bool} (h : a = b) : Ending.returned (.bool a) = .returned (.bool b):=by rw [h]
theorem Ct (c : Int) (w : World) :
  Calls Tryz.prog 32 #[.int .u8 c] w fun e w'=>e = .returned (.bool (wb c)) /\ w' = w:=by
 by_cases d : 97 <= c <;> by_cases g : c <= 122 <;> by_cases b : 48 <= c <;> by_cases h : c <= 57 <;> by_cases f : c = 95 <;> try (exfalso;omega)
 all_goals
  have a : (c == 95) = decide (c = 95):=by rw [Bool.eq_iff_iff];simp
  have i : sl c = decide (97 <= c /\ c <= 122):=rfl;go_enter Tryz.func32,Tryz.ntmps32;go_wp2_with (go_at_call 30;refine (zI _ _).mono ?_;rintro e w' ⟨rfl,rfl⟩);go_ret;exact ⟨by simp [wb, *] <;> omega,rfl⟩
theorem Bl (s : ByteArray) (w : World) (_hs : s.size <= 9223372036854775807) :
  Calls Tryz.prog 23 #[.string s] w fun e w'=>e = .returned (.bool (gn s)) /\ w' = w:=by
 by_cases o : s.size < 1
 ·have b : Hid (gn s = false):=fg (s:=s) (Or.inl o)
  go_enter Tryz.func23,Tryz.ntmps23;go_wp2;go_ret;exact ⟨aV b.out.symm,rfl⟩
 by_cases q : 12 < s.size
 ·have b : Hid (gn s = false):=fg (s:=s) (Or.inr q)
  go_enter Tryz.func23,Tryz.ntmps23;go_wp2;go_ret;exact ⟨aV b.out.symm,rfl⟩
 have a : 0 < s.size:=by omega
 have c : Hid (sl ((s[0]'a).toNat : Int) = decide (97 <= ((s[0]'a).toNat : Int) /\ ((s[0]'a).toNat : Int) <= 122)):=rfl;by_cases g : 97 <= ((s[0]'a).toNat : Int)
 case neg=>
  have b : Hid (gn s = false):=jR a (by rw [c.out];exact decide_eq_false (fun h=>g h.1));have n : ((s[0]'a).toNat : Int) < 97:=by omega
  go_enter Tryz.func23,Tryz.ntmps23;go_wp2;go_ret;exact ⟨aV b.out.symm,rfl⟩
 by_cases l : ((s[0]'a).toNat : Int) <= 122
 case neg=>
  have b : Hid (gn s = false):=jR a (by rw [c.out];exact decide_eq_false (fun h=>l h.2));have p : 122 < ((s[0]'a).toNat : Int):=by omega
  go_enter Tryz.func23,Tryz.ntmps23;go_wp2;go_ret;exact ⟨aV b.out.symm,rfl⟩
 have r : Hid (sl ((s[0]'a).toNat : Int) = true):=by rw [c.out];exact decide_eq_true ⟨g,l⟩
 go_enter Tryz.func23,Tryz.ntmps23;go_wp2
 go_loop [3] (fun i=>∃ k : Nat,k <= s.size /\ i = .int .i64 k /\ Hid (∀ j (h : j < s.size),j < k -> wb (s[j].toNat : Int) = true)) (fun i=>s.size - (intOf i).toNat)
 case atStart=>exact ⟨0,Nat.zero_le _,rfl,fun j _ h=>absurd h (Nat.not_lt_zero _)⟩
 case round=>
  obtain ⟨k,u,rfl,f⟩:=hrel;by_cases d : k < s.size
  ·cases hw : wb (s[k].toNat : Int)
   ·have b : Hid (gn s = false):=nj k d hw
    go_wp2_with (go_at_call 48;refine (Dh _ _).mono ?_;rintro e w' ⟨rfl,rfl⟩);go_ret;exact ⟨aV b.out.symm,rfl⟩
   ·have t : Hid (wb (s[k].toNat : Int) = true):=hw
    go_wp2_with (go_at_call 48;refine (Dh _ _).mono ?_;rintro e w' ⟨rfl,rfl⟩)
    go_round
    case rel=>exact ⟨k + 1,by omega,by go_num,fun j h hj=>by
     by_cases e : j = k
     ·subst e;exact t.out
     ·exact f.out j h (by omega)⟩
    case measure=>simp [intOf];omega
  ·have m : Hid (gn s = !pI s.toList):=wo (by omega) (by omega) r.out (fun j h=>f.out j h (by omega))
   go_wp2_with (go_at_call 49;refine (Dt _ _).mono ?_;rintro e w' ⟨rfl,rfl⟩);go_ret;exact ⟨aV m.out.symm,rfl⟩
theorem tG (s : ByteArray) (w : World) (_hs : s.size <= 9223372036854775807) :
  Calls Tryz.prog 43 #[.string s] w fun e w'=>e = .returned (.bool (gn s)) /\ w' = w:=by
 by_cases p : s.size = 0
 ·have a : Hid (gn s = false):=fg (s:=s) (Or.inl (by omega))
  go_enter Tryz.func43,Tryz.ntmps43;go_wp2;go_ret;exact ⟨aV a.out.symm,rfl⟩
 by_cases m : 12 < s.size
 ·have a : Hid (gn s = false):=fg (s:=s) (Or.inr m)
  have b : ((s.size : Int) == 0) = false:=bn2 (by omega);go_enter Tryz.func43,Tryz.ntmps43;go_wp2;go_ret;exact ⟨aV a.out.symm,rfl⟩
 have d : 0 < s.size:=by omega
 have b : ((s.size : Int) == 0) = false:=bn2 (by omega);cases h3 : sl ((s[0]'d).toNat : Int)
 ·have a : Hid (gn s = false):=jR d h3
  go_enter Tryz.func43,Tryz.ntmps43;go_wp2_with (go_at_call 30;refine (zI _ _).mono ?_;rintro e w' ⟨rfl,rfl⟩);go_ret;exact ⟨aV a.out.symm,rfl⟩
 have g : Hid (sl ((s[0]'d).toNat : Int) = true):=h3;go_enter Tryz.func43,Tryz.ntmps43;go_wp2_with (go_at_call 30;refine (zI _ _).mono ?_;rintro e w' ⟨rfl,rfl⟩);clear h3
 go_loop [3] (fun i=>∃ k : Nat,1 <= k /\ k <= s.size /\ i = .int .i64 k /\ Hid (∀ j (h : j < s.size),j < k -> wb (s[j].toNat : Int) = true)) (fun i=>s.size - (intOf i).toNat)
 case atStart=>exact ⟨1,nlr _,by omega,rfl,fun j _ h=>by
  have : j = 0:=by omega
  subst this;exact tX g.out⟩
 case round=>
  obtain ⟨k,n,q,rfl,f⟩:=hrel;by_cases c : k < s.size
  ·cases hw : wb (s[k].toNat : Int)
   ·have a : Hid (gn s = false):=nj k c hw
    go_wp2_with (go_at_call 32;refine (Ct _ _).mono ?_;rintro e w' ⟨rfl,rfl⟩);go_ret;exact ⟨aV a.out.symm,rfl⟩
   ·have o : Hid (wb (s[k].toNat : Int) = true):=hw
    go_wp2_with (go_at_call 32;refine (Ct _ _).mono ?_;rintro e w' ⟨rfl,rfl⟩)
    go_round
    case rel=>exact ⟨k + 1,by omega,by omega,by go_num,fun j h hj=>by
     by_cases e : j = k
     ·subst e;exact o.out
     ·exact f.out j h (by omega)⟩
    case measure=>simp [intOf];omega
  ·have l : Hid (gn s = !pI s.toList):=wo (by omega) (by omega) g.out (fun j h=>f.out j h (by omega))
   go_wp2_with (go_at_call 68;refine (c41 _ _).mono ?_;rintro e w' ⟨rfl,rfl⟩);go_ret;exact ⟨aV l.out.symm,rfl⟩
end Go.Proofs.YtihedobejcaapaaGreatDoor
