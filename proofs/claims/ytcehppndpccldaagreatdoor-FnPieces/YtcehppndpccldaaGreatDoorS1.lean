/-
  M1 M2 M3
-/
import Derived.WalkKit
import Derived.Lib.IndexMore
import Derived.Test.YtcehppndpccldaaGreatDoorProg
import Derived.WalkSmall
import Derived.WalkSpells
import Derived.WalkLawsBesides
import Derived.Deep.OwnRows
import Derived.Deep.Draws
import Derived.Deep.QuietTactic
import Derived.BigQuiet
import Derived.Deep.RegionWith
import Derived.Lib.Bytealg
import Derived.Lib.IndexBytes
import Derived.Lib.IndexEntry
import Derived.Laws.Externs
import Derived.Laws.Strings3
import Derived.Lib.UnsafeStr
import Derived.Lib.BufferWrite
import Derived.Laws.MakeOwn
import Derived.Deep.RegionHeld3
import Derived.Below
import Derived.Laws.Concat
set_option maxHeartbeats 4000000
set_option maxRecDepth 100000
namespace Go.Proofs.YtcehppndpccldaaGreatDoor
theorem blt {w : World} {a : Addr} {v : Value} (h : w.cell? a = some v) : a.block < w.heap.size:=World.block_lt_of_cell?  _ _ h
abbrev Bw (w w' : World) : Prop:=Go.RowKit.Below w.heap.size w w'
theorem xe.{u} {α : Sort u} (a : α) : Exists fun x=>x = a:=⟨a,rfl⟩
theorem rsa (a b : ByteArray) (h : a.size + b.size <= 9223372036854775807) (W : World) : (Op.stringOp .add a b).run Tryz.prog W = .ok (.string (a ++ b)) W:=run_string_add_sum (P:=Tryz.prog) (w:=W) a b h
theorem wk {x y : Int} (h : x = y /\ -9223372036854775808 <= y /\ y <= 9223372036854775807) : IntKind.i64.wrap x = y:=by rw [IntKind.wrap_i64];omega
theorem bsa (a b : ByteArray) : (a ++ b).size = a.size + b.size:=ByteArray.size_append
theorem ms1 {α : Type} {a b : α} (h : a ∈ [b]) : a = b:=List.mem_singleton.1 h
theorem bn2 {α : Type} [BEq α] [LawfulBEq α] {a b : α} (h : a ≠ b) : (a == b) = false:=beq_eq_false_iff_ne.2 h
theorem nlr (n : Nat) : n <= n:=Nat.le_refl n
theorem lap {α : Type} {a b : List α} : (a ++ b).length = a.length + b.length:=List.length_append
def sl (c : Int) : Bool:=decide (97 <= c /\ c <= 122)
def wb (c : Int) : Bool:=decide ((97 <= c /\ c <= 122) \/ (48 <= c /\ c <= 57) \/ c = 95)
def rsv (l : List UInt8) : Bool:=
 l == [105,109,112,111,114,116] || l == [116,121,112,101] || l == [118,97,108] || l == [102,117,110] || l == [105,102] ||
 l == [116,104,101,110] || l == [101,108,115,101] || l == [105,110,116] || l == [98,111,111,108] || l == [116,114,117,101] || l == [102,97,108,115,101]
def gnl (l : List UInt8) : Bool:=
 decide (1 <= l.length /\ l.length <= 12) && (sl ((l.headD 0).toNat : Int) && (l.all (fun b=>wb (b.toNat : Int)) && !rsv l))
def gn (s : ByteArray) : Bool:=gnl s.data.toList
theorem wb_of_sl {c : Int} (h : sl c = true) : wb c = true:=by
 simp only [sl,wb,decide_eq_true_eq] at *;exact Or.inl h
theorem gn_short {s : ByteArray} (h : s.size < 1 \/ 12 < s.size) : gn s = false:=by
 have : s.data.toList.length = s.size:=rfl
 have h2 : ¬ (1 <= s.data.toList.length /\ s.data.toList.length <= 12):=by omega
 simp only [gn,gnl,decide_eq_false h2,Bool.false_and]
theorem head_at (s : ByteArray) (h : 0 < s.size) : s.data.toList.headD 0 = s[0]:=by
 have h' : 0 < s.data.toList.length:=h
 cases e : s.data.toList with
 | nil=>rw [e] at h';simp at h'
 | cons a t=>
   have : s[0] = s.data.toList[0]'h':=rfl
   rw [this];simp [e]
theorem gn_head {s : ByteArray} (h : 0 < s.size) (hs : sl (s[0].toNat : Int) = false) : gn s = false:=by
 simp only [gn,gnl,head_at s h,hs,Bool.false_and,Bool.and_false]
theorem gn_byte {s : ByteArray} (k : Nat) (h : k < s.size) (hs : wb (s[k].toNat : Int) = false) : gn s = false:=by
 have hm : s[k] ∈ s.data.toList:=by
  have : s[k] = s.data.toList[k]'h:=rfl
  rw [this];exact List.getElem_mem _
 have : s.data.toList.all (fun b=>wb (b.toNat : Int)) = false:=by
  rw [List.all_eq_false];exact ⟨_,hm,by simp [hs]⟩
 simp only [gn,gnl,this,Bool.false_and,Bool.and_false]
theorem gn_end {s : ByteArray} (h1 : 1 <= s.size) (h2 : s.size <= 12) (h0 : sl ((s[0]'(by omega)).toNat : Int) = true)
  (ha : ∀ j (h : j < s.size),wb (s[j].toNat : Int) = true) : gn s = !rsv s.toList:=by
 have hl : s.data.toList.length = s.size:=rfl
 have hall : s.data.toList.all (fun b=>wb (b.toNat : Int)) = true:=by
  rw [List.all_eq_true];intro b hb
  obtain ⟨j,hj,rfl⟩:=List.getElem_of_mem hb
  exact ha j (by omega)
 have hd : decide (1 <= s.data.toList.length /\ s.data.toList.length <= 12) = true:=by simp only [decide_eq_true_eq];omega
 simp only [gn,gnl,hd,head_at s (by omega),h0,hall,Bool.true_and,ByteArray.toList_eq]
def dg (c : Int) : Bool:=decide (48 <= c /\ c <= 57)
def nn (c : Int) : Bool:=decide (c ≠ 10)
def bt (s : ByteArray) (i : Nat) : Int:=if h : i < s.size then (s[i].toNat : Int) else -1
theorem bt_in {s : ByteArray} {i : Nat} (h : i < s.size) : bt s i = (s[i].toNat : Int):=dif_pos h
theorem bt_out {s : ByteArray} {i : Nat} (h : ¬ i < s.size) : bt s i = -1:=dif_neg h
def run (p : Int -> Bool) (s : ByteArray) (i : Nat) : Nat:=if i < s.size then (if p (bt s i) then run p s (i + 1) + 1 else 0) else 0
termination_by s.size - i
theorem run_step {p : Int -> Bool} {s : ByteArray} {i : Nat} (h : i < s.size) (hp : p (bt s i) = true) : run p s i = run p s (i + 1) + 1:=by
 rw [run,if_pos h,if_pos hp]
theorem run_stop {p : Int -> Bool} {s : ByteArray} {i : Nat} (h : i < s.size) (hp : p (bt s i) = false) : run p s i = 0:=by
 rw [run,if_pos h,hp];rfl
theorem run_end {p : Int -> Bool} {s : ByteArray} {i : Nat} (h : ¬ i < s.size) : run p s i = 0:=by
 rw [run,if_neg h]
theorem run_le {p : Int -> Bool} {s : ByteArray} {i : Nat} (h : i <= s.size) : i + run p s i <= s.size:=by
 by_cases hi : i < s.size
 ·cases hp : p (bt s i)
  ·rw [run_stop hi hp];omega
  ·rw [run_step hi hp]
   have:=run_le (p:=p) (s:=s) (i:=i + 1) (by omega)
   omega
 ·rw [run_end hi];omega
termination_by s.size - i
def plen (s : ByteArray) (i : Nat) : Nat:=
 if bt s i = 32 \/ bt s i = 10 then 1 else
 if bt s i = 35 then 1 + run nn s (i + 1) else
 if sl (bt s i) then 1 + run wb s (i + 1) else
 if dg (bt s i) then 1 + run dg s (i + 1) else
 if bt s i = 45 /\ bt s (i + 1) = 62 then 2 else 1
def blk (s : ByteArray) (i : Nat) : Bool:=decide (bt s i = 32 \/ bt s i = 10 \/ bt s i = 35)
theorem plen_pos (s : ByteArray) (i : Nat) : 1 <= plen s i:=by
 unfold plen
 repeat' split
 all_goals omega
theorem plen_le {s : ByteArray} {i : Nat} (h : i < s.size) : i + plen s i <= s.size:=by
 unfold plen
 have h1:=run_le (p:=nn) (s:=s) (i:=i + 1) (by omega)
 have h2:=run_le (p:=wb) (s:=s) (i:=i + 1) (by omega)
 have h3:=run_le (p:=dg) (s:=s) (i:=i + 1) (by omega)
 split
 ·omega
 split
 ·omega
 split
 ·omega
 split
 ·omega
 split
 ·rename_i h4
  have : i + 1 < s.size:=by
   by_cases q : i + 1 < s.size
   ·exact q
   ·have:=h4.2;rw [bt_out q] at this;omega
  omega
 ·omega
def sgs : List UInt8:=[59,58,61,63,123,125,40,41,44,46,43,60]
def sg (c : Int) : Bool:=decide (c = 59 \/ c = 58 \/ c = 61 \/ c = 63 \/ c = 123 \/ c = 125 \/ c = 40 \/ c = 41 \/ c = 44 \/ c = 46 \/ c = 43 \/ c = 60)
def num (t : List UInt8) : Bool:=dg ((t.headD 0).toNat : Int) && !decide (9 < t.length \/ ((t.headD 0).toNat : Int) = 48 /\ 1 < t.length)
def cls (t : List UInt8) : Int:=if gnl t then 1 else if rsv t then 2 else if num t then 3 else if t == [45,62] || Lib.contains sgs t then 4 else 0
structure TK where
 cls : Int
 txt : ByteArray
 loc : Nat
def ptx (s : ByteArray) (i : Nat) : ByteArray:=s.extract i (i + plen s i)
def tks (s : ByteArray) (i : Nat) : List TK:=
 if i < s.size then (if blk s i then tks s (i + plen s i) else ⟨cls (ptx s i).toList,ptx s i,i⟩ :: tks s (i + plen s i)) else []
termination_by s.size - i
decreasing_by all_goals (have:=plen_pos s i;omega)
theorem tks_blk {s : ByteArray} {i : Nat} (h : i < s.size) (hb : blk s i = true) : tks s i = tks s (i + plen s i):=by
 rw [tks,if_pos h,if_pos hb]
theorem tks_tok {s : ByteArray} {i : Nat} (h : i < s.size) (hb : blk s i = false) : tks s i = ⟨cls (ptx s i).toList,ptx s i,i⟩ :: tks s (i + plen s i):=by
 rw [tks,if_pos h,hb];rfl
theorem tks_end {s : ByteArray} {i : Nat} (h : ¬ i < s.size) : tks s i = []:=by
 rw [tks,if_neg h]
def toks (s : ByteArray) : List TK:=if s.size <= 1000 then tks s 0 else []
theorem ptx_size {s : ByteArray} {i : Nat} (h : i < s.size) : (ptx s i).size = plen s i:=by
 unfold ptx;rw [ByteArray.size_extract];have:=plen_le h;omega
theorem ptx_head {s : ByteArray} {i : Nat} (h : i < s.size) : ((((ptx s i).toList.headD 0).toNat : Nat) : Int) = bt s i:=by
 have hs:=ptx_size h
 have hp:=plen_pos s i
 rw [ByteArray.toList_eq,head_at _ (by omega),bt_in h]
 unfold ptx
 rw [ByteArray.getElem_extract]
 simp
theorem not_in {b : UInt8} {l : List UInt8} (h : sg (b.toNat : Int) = false) : Lib.contains sgs (b :: l) = false:=by
 have hb : ∀ c ∈ sgs,(b == c) = false:=fun c hc=>by
  rw [beq_eq_false_iff_ne]
  intro e;subst e
  revert h;revert hc
  simp only [sgs,List.mem_cons,List.not_mem_nil,or_false]
  rintro (rfl | rfl | rfl | rfl | rfl | rfl | rfl | rfl | rfl | rfl | rfl | rfl) <;> decide
 unfold Lib.contains
 rw [Lib.index_none]
 ·rfl
 ·intro j hj
  unfold Lib.occAt
  cases hd : sgs.drop j with
  | nil=>rfl
  | cons c l'=>
    have : c ∈ sgs:=List.mem_of_mem_drop (i:=j) (by rw [hd];exact List.mem_cons_self)
    rw [List.isPrefixOf_cons_cons,hb c this,Bool.false_and]
theorem one_in {b : UInt8} : Lib.contains sgs [b] = sg (b.toNat : Int):=by
 cases h : sg (b.toNat : Int)
 ·exact not_in h
 ·have hb : b = 59 \/ b = 58 \/ b = 61 \/ b = 63 \/ b = 123 \/ b = 125 \/ b = 40 \/ b = 41 \/ b = 44 \/ b = 46 \/ b = 43 \/ b = 60:=by
   simp only [sg,decide_eq_true_eq] at h
   simp only [<- UInt8.toNat_inj]
   simp only [UInt8.reduceToNat]
   omega
  rcases hb with rfl | rfl | rfl | rfl | rfl | rfl | rfl | rfl | rfl | rfl | rfl | rfl <;> rfl
theorem cls_word {t : List UInt8} (ht : t ≠ []) (h : sl ((t.headD 0).toNat : Int) = true) : cls t = if rsv t then 2 else if gnl t then 1 else 0:=by
 cases t with
 | nil=>exact absurd rfl ht
 | cons b l=>
   simp only [List.headD_cons] at h
   have h1 : num (b :: l) = false:=by
    unfold num
    have : dg ((b.toNat : Nat) : Int) = false:=by
     simp only [sl,decide_eq_true_eq] at h
     simp only [dg,decide_eq_false_iff_not];omega
    simp only [List.headD_cons,this,Bool.false_and]
   have h2 : Lib.contains sgs (b :: l) = false:=not_in (by
    simp only [sl,decide_eq_true_eq] at h
    simp only [sg,decide_eq_false_iff_not];omega)
   have h3 : ((b :: l) == [45,62]) = false:=by
    rw [beq_eq_false_iff_ne]
    intro e
    have : b = 45:=(List.cons.inj e).1
    subst this
    revert h;decide
   unfold cls
   rw [h1,h2,h3]
   cases hg : gnl (b :: l)
   ·cases hr : rsv (b :: l) <;> rfl
   ·have : rsv (b :: l) = false:=by
     unfold gnl at hg
     simp only [Bool.and_eq_true] at hg
     simpa using hg.2.2.2
    rw [this];rfl
theorem rsv_head {b : UInt8} {l : List UInt8} (h : rsv (b :: l) = true) : sl (b.toNat : Int) = true:=by
 unfold rsv at h
 simp only [Bool.or_eq_true,beq_iff_eq,List.cons.injEq] at h
 rcases h with ((((((((((h | h) | h) | h) | h) | h) | h) | h) | h) | h) | h) <;> (rw [h.1];decide)
theorem not_word {b : UInt8} {l : List UInt8} (h : sl (b.toNat : Int) = false) : gnl (b :: l) = false /\ rsv (b :: l) = false:=by
 constructor
 ·unfold gnl
  simp only [List.headD_cons,h,Bool.false_and,Bool.and_false]
 ·cases hr : rsv (b :: l)
  ·rfl
  ·rw [rsv_head hr] at h;cases h
theorem cls_num {t : List UInt8} (ht : t ≠ []) (h : dg ((t.headD 0).toNat : Int) = true) : cls t = if 9 < t.length \/ ((t.headD 0).toNat : Int) = 48 /\ 1 < t.length then 0 else 3:=by
 cases t with
 | nil=>exact absurd rfl ht
 | cons b l=>
   simp only [List.headD_cons] at h
   have hs : sl (b.toNat : Int) = false:=by
    simp only [dg,decide_eq_true_eq] at h
    simp only [sl,decide_eq_false_iff_not];omega
   obtain ⟨h0,h1⟩:=not_word (l:=l) hs
   have h2 : Lib.contains sgs (b :: l) = false:=not_in (by
    simp only [dg,decide_eq_true_eq] at h
    simp only [sg,decide_eq_false_iff_not];omega)
   have h3 : ((b :: l) == [45,62]) = false:=by
    rw [beq_eq_false_iff_ne]
    intro e
    have : b = 45:=(List.cons.inj e).1
    subst this
    revert h;decide
   unfold cls
   rw [h0,h1,h2,h3]
   unfold num
   by_cases q : 9 < (b :: l).length \/ (((b :: l).headD 0).toNat : Int) = 48 /\ 1 < (b :: l).length
   ·rw [if_pos q,decide_eq_true q,Bool.not_true,Bool.and_false];rfl
   ·rw [if_neg q,decide_eq_false q,Bool.not_false,Bool.and_true]
    have : dg ((((b :: l).headD 0).toNat : Nat) : Int) = true:=h
    rw [this];rfl
theorem cls_arrow : cls [45,62] = 4:=by decide
theorem cls_one {b : UInt8} (h1 : sl (b.toNat : Int) = false) (h2 : dg (b.toNat : Int) = false) : cls [b] = if sg (b.toNat : Int) then 4 else 0:=by
 obtain ⟨a1,a2⟩:=not_word (l:=[]) h1
 have h3 : num [b] = false:=by unfold num;simp only [List.headD_cons,h2,Bool.false_and]
 have h4 : ([b] == [(45 : UInt8),62]) = false:=by rw [beq_eq_false_iff_ne];simp
 unfold cls
 rw [a1,a2,h3,h4,one_in,Bool.false_or]
 rfl
structure TI where
 op : Int
 md : ByteArray
 nm : ByteArray
 ns : List ByteArray
structure EI where
 op : Int
 num : Int
 md : ByteArray
 nm : ByteArray
 ns : List ByteArray
 ty : List TI
structure DC where
 kind : Int
 nm : ByteArray
 ty : List TI
 ex : List EI
def e0 : ByteArray:=ByteArray.empty
def tyO (op : Int) : TI:=⟨op,e0,e0,[]⟩
def exO (op : Int) : EI:=⟨op,0,e0,e0,[],[]⟩
def dBad : DC:=⟨0,e0,[],[]⟩
def tx (ts : List TK) (i : Nat) : ByteArray:=((ts[i]?).map TK.txt).getD e0
def isT (ts : List TK) (i : Nat) (s : List UInt8) : Bool:=match ts[i]? with
 | some t=>t.txt.data.toList == s
 | none=>false
def isC (ts : List TK) (i : Nat) (c : Int) : Bool:=match ts[i]? with
 | some t=>t.cls == c
 | none=>false
theorem isT_lt {ts : List TK} {i : Nat} {s : List UInt8} (h : isT ts i s = true) : i < ts.length:=by
 unfold isT at h
 by_cases hi : i < ts.length
 ·exact hi
 ·rw [List.getElem?_eq_none (by omega)] at h;cases h
theorem isC_lt {ts : List TK} {i : Nat} {c : Int} (h : isC ts i c = true) : i < ts.length:=by
 unfold isC at h
 by_cases hi : i < ts.length
 ·exact hi
 ·rw [List.getElem?_eq_none (by omega)] at h;cases h
theorem isT_one {ts : List TK} {i : Nat} {s s' : List UInt8} (h : isT ts i s = true) (hne : s ≠ s') : isT ts i s' = false:=by
 unfold isT at h ⊢
 cases e : ts[i]? with
 | none=>rfl
 | some t=>
   rw [e] at h
   have h1 : t.txt.data.toList = s:=by simpa using h
   show (t.txt.data.toList == s') = false
   rw [h1];exact bn2 hne
def sInt : List UInt8:=[105,110,116]
def sBool : List UInt8:=[98,111,111,108]
def sAny : List UInt8:=[63]
def sOpen : List UInt8:=[123]
def sShut : List UInt8:=[125]
def sLeft : List UInt8:=[40]
def sRight : List UInt8:=[41]
def sColon : List UInt8:=[58]
def sEq : List UInt8:=[61]
def sComma : List UInt8:=[44]
def sDot : List UInt8:=[46]
def sPlus : List UInt8:=[43]
def sLess : List UInt8:=[60]
def sArrow : List UInt8:=[45,62]
def sSemi : List UInt8:=[59]
def sTrue : List UInt8:=[116,114,117,101]
def sFalse : List UInt8:=[102,97,108,115,101]
def sFun : List UInt8:=[102,117,110]
def sIf : List UInt8:=[105,102]
def sThen : List UInt8:=[116,104,101,110]
def sElse : List UInt8:=[101,108,115,101]
def sImport : List UInt8:=[105,109,112,111,114,116]
def sType : List UInt8:=[116,121,112,101]
def sVal : List UInt8:=[118,97,108]
def hasN (ns : List ByteArray) (s : ByteArray) : Bool:=ns.any fun x=>x.data.toList == s.data.toList
def pathP (st : Bool) (ts : List TK) (i : Nat) : Option (ByteArray × ByteArray × Nat):=
 if isT ts (i + 1) sColon then
  if isC ts (i + 2) 1 then some (tx ts i,tx ts (i + 2),i + 3)
  else if st then none else some (e0,tx ts i,i + 1)
 else some (e0,tx ts i,i + 1)
def floop {α : Type} (ts : List TK) (T : Nat -> Option (List α × Nat)) (sg : List UInt8) : Nat -> Nat -> List ByteArray -> List α -> Option (List α × List ByteArray × Nat)
 | 0,_,_,_=>none
 | f + 1,j,ns,its=>
   if isC ts j 1 then
    if hasN ns (tx ts j) then none else
    if isT ts (j + 1) sg then
     match T (j + 2) with
     | none=>none
     | some (l,k)=>
       if isT ts k sShut then some (its ++ l,ns ++ [tx ts j],k + 1)
       else if isT ts k sComma then floop ts T sg f (k + 1) (ns ++ [tx ts j]) (its ++ l) else none
    else none
   else none
def fldsP {α : Type} (ts : List TK) (T : Nat -> Option (List α × Nat)) (sg : List UInt8) (j : Nat) : Option (List α × List ByteArray × Nat):=
 if isT ts j sShut then some ([],[],j + 1) else floop ts T sg (ts.length + 1) j [] []
def brkP {α : Type} (ts : List TK) (T : Nat -> Option (List α × Nat)) (i : Nat) : Option (List α × Nat):=
 match T i with
 | none=>none
 | some (l,j)=>if isT ts j sRight then some (l,j + 1) else none
def baseP (st : Bool) (ts : List TK) (T : Nat -> Option (List TI × Nat)) (i : Nat) : Option (List TI × Nat):=
 if isC ts i 1 then
  match pathP st ts i with
  | none=>none
  | some (m,n,j)=>some ([⟨4,m,n,[]⟩],j)
 else if isT ts i sInt then some ([tyO 1],i + 1)
 else if isT ts i sBool then some ([tyO 2],i + 1)
 else if isT ts i sAny then some ([tyO 3],i + 1)
 else if isT ts i sOpen then
  match fldsP ts T sColon (i + 1) with
  | none=>none
  | some (its,ns,j)=>some (its ++ [⟨5,e0,e0,ns⟩],j)
 else if isT ts i sLeft then brkP ts T (i + 1)
 else none
def tyP (st : Bool) (ts : List TK) : Nat -> Nat -> Option (List TI × Nat)
 | 0,_=>none
 | f + 1,i=>
   match baseP st ts (tyP st ts f) i with
   | none=>none
   | some (l,j)=>
     if isT ts j sArrow then
      match tyP st ts f (j + 1) with
      | none=>none
      | some (r,k)=>some (l ++ r ++ [tyO 6],k)
     else some (l,j)
def valN (s : List UInt8) : Int:=s.foldl (fun n c=>n * 10 + ((c.toNat : Int) - 48)) 0
def atomP (st : Bool) (ts : List TK) (E : Nat -> Option (List EI × Nat)) (i : Nat) : Option (List EI × Nat):=
 if isC ts i 1 then
  match pathP st ts i with
  | none=>none
  | some (m,n,j)=>some ([⟨3,0,m,n,[],[]⟩],j)
 else if isC ts i 3 then some ([⟨1,valN (tx ts i).data.toList,e0,e0,[],[]⟩],i + 1)
 else if isT ts i sTrue then some ([⟨2,1,e0,e0,[],[]⟩],i + 1)
 else if isT ts i sFalse then some ([exO 2],i + 1)
 else if isT ts i sOpen then
  match fldsP ts E sEq (i + 1) with
  | none=>none
  | some (its,ns,j)=>some (its ++ [⟨4,0,e0,e0,ns,[]⟩],j)
 else if isT ts i sLeft then brkP ts E (i + 1)
 else none
def postL (ts : List TK) (E : Nat -> Option (List EI × Nat)) : Nat -> List EI -> Nat -> Option (List EI × Nat)
 | 0,_,_=>none
 | f + 1,its,j=>
   if isT ts j sDot then
    if isC ts (j + 1) 1 then postL ts E f (its ++ [⟨5,0,e0,tx ts (j + 1),[],[]⟩]) (j + 2) else none
   else if isT ts j sLeft then
    match brkP ts E (j + 1) with
    | none=>none
    | some (l,k)=>postL ts E f (its ++ l ++ [exO 7]) k
   else some (its,j)
def postP (st : Bool) (ts : List TK) (E : Nat -> Option (List EI × Nat)) (i : Nat) : Option (List EI × Nat):=
 match atomP st ts E i with
 | none=>none
 | some (l,j)=>postL ts E (ts.length + 1) l j
def sumL (st : Bool) (ts : List TK) (E : Nat -> Option (List EI × Nat)) : Nat -> List EI -> Nat -> Option (List EI × Nat)
 | 0,_,_=>none
 | f + 1,its,j=>
   if isT ts j sPlus then
    match postP st ts E (j + 1) with
    | none=>none
    | some (l,k)=>sumL st ts E f (its ++ l ++ [exO 9]) k
   else some (its,j)
def sumP (st : Bool) (ts : List TK) (E : Nat -> Option (List EI × Nat)) (i : Nat) : Option (List EI × Nat):=
 match postP st ts E i with
 | none=>none
 | some (l,j)=>sumL st ts E (ts.length + 1) l j
def funP (st : Bool) (ts : List TK) (E : Nat -> Option (List EI × Nat)) (i : Nat) : Option (List EI × Nat):=
 if isT ts i sLeft && isC ts (i + 1) 1 && isT ts (i + 2) sColon then
  match tyP st ts (ts.length + 1) (i + 3) with
  | none=>none
  | some (t,j)=>
    if isT ts j sRight then
     match E (j + 1) with
     | none=>none
     | some (b,k)=>some (b ++ [⟨6,0,e0,tx ts (i + 1),[],t⟩],k)
    else none
 else none
def ifP (ts : List TK) (E : Nat -> Option (List EI × Nat)) (i : Nat) : Option (List EI × Nat):=
 match E i with
 | none=>none
 | some (c,j)=>
   if isT ts j sThen then
    match E (j + 1) with
    | none=>none
    | some (a,k)=>
      if isT ts k sElse then
       match E (k + 1) with
       | none=>none
       | some (b,l)=>some (c ++ a ++ b ++ [exO 8],l)
      else none
   else none
def lessP (st : Bool) (ts : List TK) (E : Nat -> Option (List EI × Nat)) (i : Nat) : Option (List EI × Nat):=
 match sumP st ts E i with
 | none=>none
 | some (l,j)=>
   if isT ts j sLess then
    match sumP st ts E (j + 1) with
    | none=>none
    | some (r,k)=>some (l ++ r ++ [exO 10],k)
   else some (l,j)
def exP (st : Bool) (ts : List TK) : Nat -> Nat -> Option (List EI × Nat)
 | 0,_=>none
 | f + 1,i=>
   if isT ts i sFun then funP st ts (exP st ts f) (i + 1)
   else if isT ts i sIf then ifP ts (exP st ts f) (i + 1)
   else lessP st ts (exP st ts f) i
def declP (st : Bool) (ts : List TK) : DC:=
 if isC ts 1 1 then
  if isT ts 0 sImport then (if ts.length = 2 then ⟨1,tx ts 1,[],[]⟩ else dBad)
  else if isT ts 0 sType then
   if isT ts 2 sEq then
    match tyP st ts (ts.length + 1) 3 with
    | none=>dBad
    | some (t,j)=>if j = ts.length then ⟨2,tx ts 1,t,[]⟩ else dBad
   else dBad
  else if isT ts 0 sVal then
   if isT ts 2 sColon then
    match tyP st ts (ts.length + 1) 3 with
    | none=>dBad
    | some (t,j)=>
      if isT ts j sEq then
       match exP st ts (ts.length + 1) (j + 1) with
       | none=>dBad
       | some (x,k)=>if k = ts.length then ⟨3,tx ts 1,t,x⟩ else dBad
      else dBad
   else dBad
  else dBad
 else dBad
def semi (ts : List TK) : Option Nat:=ts.findIdx? fun t=>t.txt.data.toList == sSemi
def decs (st : Bool) : Nat -> List TK -> List DC
 | 0,_=>[]
 | f + 1,ts=>
   if ts.isEmpty then [] else
   match semi ts with
   | none=>[dBad]
   | some k=>declP st (ts.take k) :: decs st f (ts.drop (k + 1))
def Rel {α : Type} (ts : List TK) (r1 r2 : Option (α × Nat)) : Prop:=r1 = r2 \/ (r1 = none /\ ∃ l a,r2 = some (l,a) /\ isT ts a sColon = true)
theorem Rel.rfl' {α : Type} {ts : List TK} {r : Option (α × Nat)} : Rel ts r r:=Or.inl rfl
theorem floop_rel {α : Type} {ts : List TK} {T1 T2 : Nat -> Option (List α × Nat)} {sg : List UInt8} (h : ∀ i,Rel ts (T1 i) (T2 i)) : ∀ f j ns its,floop ts T1 sg f j ns its = floop ts T2 sg f j ns its
 | 0,_,_,_=>rfl
 | f + 1,j,ns,its=>by
   rw [floop,floop]
   split
   ·split
    ·rfl
    ·split
     ·rcases h (j + 2) with e | ⟨e1,l,a,e2,hc⟩
      ·rw [e]
       cases T2 (j + 2) with
       | none=>rfl
       | some r=>
         obtain ⟨l,k⟩:=r
         show (if isT ts k sShut = true then _ else if isT ts k sComma = true then _ else _) = if isT ts k sShut = true then _ else if isT ts k sComma = true then _ else _
         rw [floop_rel h f]
      ·rw [e1,e2]
       show none = if isT ts a sShut = true then _ else if isT ts a sComma = true then _ else none
       rw [isT_one hc (by decide),isT_one hc (by decide)]
       rfl
     ·rfl
   ·rfl
theorem flds_rel {α : Type} {ts : List TK} {T1 T2 : Nat -> Option (List α × Nat)} {sg : List UInt8} (h : ∀ i,Rel ts (T1 i) (T2 i)) (j : Nat) : fldsP ts T1 sg j = fldsP ts T2 sg j:=by
 unfold fldsP
 rw [floop_rel h]
theorem brk_rel {α : Type} {ts : List TK} {T1 T2 : Nat -> Option (List α × Nat)} (h : ∀ i,Rel ts (T1 i) (T2 i)) (i : Nat) : brkP ts T1 i = brkP ts T2 i:=by
 unfold brkP
 rcases h i with e | ⟨e1,l,a,e2,hc⟩
 ·rw [e]
 ·rw [e1,e2]
  show none = if isT ts a sRight = true then _ else none
  rw [isT_one hc (by decide)]
  rfl
theorem path_rel (ts : List TK) (i : Nat) : pathP true ts i = pathP false ts i \/ (pathP true ts i = none /\ pathP false ts i = some (e0,tx ts i,i + 1) /\ isT ts (i + 1) sColon = true):=by
 unfold pathP
 by_cases h : isT ts (i + 1) sColon = true
 ·rw [if_pos h,if_pos h]
  by_cases h2 : isC ts (i + 2) 1 = true
  ·rw [if_pos h2,if_pos h2];exact Or.inl rfl
  ·rw [if_neg h2,if_neg h2];exact Or.inr ⟨rfl,rfl,h⟩
 ·rw [if_neg h,if_neg h];exact Or.inl rfl
theorem base_rel {ts : List TK} {T1 T2 : Nat -> Option (List TI × Nat)} (h : ∀ i,Rel ts (T1 i) (T2 i)) (i : Nat) : Rel ts (baseP true ts T1 i) (baseP false ts T2 i):=by
 unfold baseP
 rw [flds_rel h,brk_rel h]
 split
 ·rcases path_rel ts i with e | ⟨e1,e2,hc⟩
  ·rw [e];exact Rel.rfl'
  ·rw [e1,e2];exact Or.inr ⟨rfl,_,_,rfl,hc⟩
 ·exact Rel.rfl'
theorem ty_rel {ts : List TK} : ∀ f i,Rel ts (tyP true ts f i) (tyP false ts f i)
 | 0,_=>Rel.rfl'
 | f + 1,i=>by
   rw [tyP,tyP]
   rcases base_rel (ty_rel f) i with e | ⟨e1,l,a,e2,hc⟩
   ·rw [e]
    cases baseP false ts (tyP false ts f) i with
    | none=>exact Rel.rfl'
    | some r=>
      obtain ⟨l,j⟩:=r
      show Rel ts (if isT ts j sArrow = true then _ else _) (if isT ts j sArrow = true then _ else _)
      split
      ·rcases ty_rel f (j + 1) with e | ⟨e1,r,a,e2,hc⟩
       ·rw [e];exact Rel.rfl'
       ·rw [e1,e2];exact Or.inr ⟨rfl,_,_,rfl,hc⟩
      ·exact Rel.rfl'
   ·rw [e1,e2]
    show Rel ts none (if isT ts a sArrow = true then _ else some (l,a))
    rw [isT_one hc (by decide)]
    exact Or.inr ⟨rfl,l,a,rfl,hc⟩
theorem atom_rel {ts : List TK} {T1 T2 : Nat -> Option (List EI × Nat)} (h : ∀ i,Rel ts (T1 i) (T2 i)) (i : Nat) : Rel ts (atomP true ts T1 i) (atomP false ts T2 i):=by
 unfold atomP
 rw [flds_rel h,brk_rel h]
 split
 ·rcases path_rel ts i with e | ⟨e1,e2,hc⟩
  ·rw [e];exact Rel.rfl'
  ·rw [e1,e2];exact Or.inr ⟨rfl,_,_,rfl,hc⟩
 ·exact Rel.rfl'
theorem postL_rel {ts : List TK} {T1 T2 : Nat -> Option (List EI × Nat)} (h : ∀ i,Rel ts (T1 i) (T2 i)) : ∀ f its j,postL ts T1 f its j = postL ts T2 f its j
 | 0,_,_=>rfl
 | f + 1,its,j=>by
   rw [postL,postL,brk_rel h]
   split
   ·split
    ·exact postL_rel h f _ _
    ·rfl
   ·split
    ·cases brkP ts T2 (j + 1) with
     | none=>rfl
     | some r=>exact postL_rel h f _ _
    ·rfl
theorem postL_colon {ts : List TK} {T : Nat -> Option (List EI × Nat)} {f : Nat} {its : List EI} {a : Nat} (hc : isT ts a sColon = true) : postL ts T (f + 1) its a = some (its,a):=by
 rw [postL,isT_one hc (by decide),isT_one hc (by decide)]
 rfl
theorem sumL_colon {st : Bool} {ts : List TK} {T : Nat -> Option (List EI × Nat)} {f : Nat} {its : List EI} {a : Nat} (hc : isT ts a sColon = true) : sumL st ts T (f + 1) its a = some (its,a):=by
 rw [sumL,isT_one hc (by decide)]
 rfl
theorem post_rel {ts : List TK} {T1 T2 : Nat -> Option (List EI × Nat)} (h : ∀ i,Rel ts (T1 i) (T2 i)) (i : Nat) : Rel ts (postP true ts T1 i) (postP false ts T2 i):=by
 unfold postP
 rcases atom_rel h i with e | ⟨e1,l,a,e2,hc⟩
 ·rw [e]
  cases atomP false ts T2 i with
  | none=>exact Rel.rfl'
  | some r=>exact Or.inl (postL_rel h _ _ _)
 ·rw [e1,e2]
  exact Or.inr ⟨rfl,l,a,postL_colon hc,hc⟩
theorem sumL_rel {ts : List TK} {T1 T2 : Nat -> Option (List EI × Nat)} (h : ∀ i,Rel ts (T1 i) (T2 i)) : ∀ f its j,Rel ts (sumL true ts T1 f its j) (sumL false ts T2 f its j)
 | 0,_,_=>Rel.rfl'
 | f + 1,its,j=>by
   rw [sumL,sumL]
   split
   ·rcases post_rel h (j + 1) with e | ⟨e1,l,a,e2,hc⟩
    ·rw [e]
     cases e3 : postP false ts T2 (j + 1) with
     | none=>exact Rel.rfl'
     | some r=>exact sumL_rel h f _ _
    ·rw [e1,e2]
     cases f with
     | zero=>exact Rel.rfl'
     | succ f=>exact Or.inr ⟨rfl,_,a,sumL_colon hc,hc⟩
   ·exact Rel.rfl'
theorem sum_rel {ts : List TK} {T1 T2 : Nat -> Option (List EI × Nat)} (h : ∀ i,Rel ts (T1 i) (T2 i)) (i : Nat) : Rel ts (sumP true ts T1 i) (sumP false ts T2 i):=by
 unfold sumP
 rcases post_rel h i with e | ⟨e1,l,a,e2,hc⟩
 ·rw [e]
  cases postP false ts T2 i with
  | none=>exact Rel.rfl'
  | some r=>exact sumL_rel h _ _ _
 ·rw [e1,e2]
  exact Or.inr ⟨rfl,l,a,sumL_colon hc,hc⟩
theorem fun_rel {ts : List TK} {T1 T2 : Nat -> Option (List EI × Nat)} (h : ∀ i,Rel ts (T1 i) (T2 i)) (i : Nat) : Rel ts (funP true ts T1 i) (funP false ts T2 i):=by
 unfold funP
 split
 ·rcases ty_rel (ts:=ts) (ts.length + 1) (i + 3) with e | ⟨e1,l,a,e2,hc⟩
  ·rw [e]
   cases tyP false ts (ts.length + 1) (i + 3) with
   | none=>exact Rel.rfl'
   | some r=>
     obtain ⟨t,j⟩:=r
     show Rel ts (if isT ts j sRight = true then _ else none) (if isT ts j sRight = true then _ else none)
     split
     ·rcases h (j + 1) with e | ⟨e1,l,a,e2,hc⟩
      ·rw [e];exact Rel.rfl'
      ·rw [e1,e2];exact Or.inr ⟨rfl,_,a,rfl,hc⟩
     ·exact Rel.rfl'
  ·rw [e1,e2]
   show Rel ts none (if isT ts a sRight = true then _ else none)
   rw [isT_one hc (by decide)]
   exact Rel.rfl'
 ·exact Rel.rfl'
theorem if_rel {ts : List TK} {T1 T2 : Nat -> Option (List EI × Nat)} (h : ∀ i,Rel ts (T1 i) (T2 i)) (i : Nat) : Rel ts (ifP ts T1 i) (ifP ts T2 i):=by
 unfold ifP
 rcases h i with e | ⟨e1,l,a,e2,hc⟩
 ·rw [e]
  cases T2 i with
  | none=>exact Rel.rfl'
  | some r=>
    obtain ⟨c,j⟩:=r
    show Rel ts (if isT ts j sThen = true then _ else none) (if isT ts j sThen = true then _ else none)
    split
    ·rcases h (j + 1) with e | ⟨e1,l,a,e2,hc⟩
     ·rw [e]
      cases T2 (j + 1) with
      | none=>exact Rel.rfl'
      | some r=>
        obtain ⟨d,k⟩:=r
        show Rel ts (if isT ts k sElse = true then _ else none) (if isT ts k sElse = true then _ else none)
        split
        ·rcases h (k + 1) with e | ⟨e1,l,a,e2,hc⟩
         ·rw [e];exact Rel.rfl'
         ·rw [e1,e2];exact Or.inr ⟨rfl,_,a,rfl,hc⟩
        ·exact Rel.rfl'
     ·rw [e1,e2]
      show Rel ts none (if isT ts a sElse = true then _ else none)
      rw [isT_one hc (by decide)]
      exact Rel.rfl'
    ·exact Rel.rfl'
 ·rw [e1,e2]
  show Rel ts none (if isT ts a sThen = true then _ else none)
  rw [isT_one hc (by decide)]
  exact Rel.rfl'
theorem less_rel {ts : List TK} {T1 T2 : Nat -> Option (List EI × Nat)} (h : ∀ i,Rel ts (T1 i) (T2 i)) (i : Nat) : Rel ts (lessP true ts T1 i) (lessP false ts T2 i):=by
 unfold lessP
 rcases sum_rel h i with e | ⟨e1,l,a,e2,hc⟩
 ·rw [e]
  cases sumP false ts T2 i with
  | none=>exact Rel.rfl'
  | some r=>
    obtain ⟨l,j⟩:=r
    show Rel ts (if isT ts j sLess = true then _ else some (l,j)) (if isT ts j sLess = true then _ else some (l,j))
    split
    ·rcases sum_rel h (j + 1) with e | ⟨e1,r,a,e2,hc⟩
     ·rw [e];exact Rel.rfl'
     ·rw [e1,e2];exact Or.inr ⟨rfl,_,a,rfl,hc⟩
    ·exact Rel.rfl'
 ·rw [e1,e2]
  show Rel ts none (if isT ts a sLess = true then _ else some (l,a))
  rw [isT_one hc (by decide)]
  exact Or.inr ⟨rfl,l,a,rfl,hc⟩
theorem ex_rel {ts : List TK} : ∀ f i,Rel ts (exP true ts f i) (exP false ts f i)
 | 0,_=>Rel.rfl'
 | f + 1,i=>by
   rw [exP,exP]
   split
   ·exact fun_rel (ex_rel f) _
   ·split
    ·exact if_rel (ex_rel f) _
    ·exact less_rel (ex_rel f) _
theorem decl_same (ts : List TK) : declP true ts = declP false ts:=by
 unfold declP
 split
 ·split
  ·rfl
  ·split
   ·split
    ·rcases ty_rel (ts:=ts) (ts.length + 1) 3 with e | ⟨e1,l,a,e2,hc⟩
     ·rw [e]
     ·rw [e1,e2]
      have:=isT_lt hc
      show dBad = if a = ts.length then _ else dBad
      rw [if_neg (by omega)]
    ·rfl
   ·split
    ·split
     ·rcases ty_rel (ts:=ts) (ts.length + 1) 3 with e | ⟨e1,l,a,e2,hc⟩
      ·rw [e]
       cases tyP false ts (ts.length + 1) 3 with
       | none=>rfl
       | some r=>
         obtain ⟨t,j⟩:=r
         show (if isT ts j sEq = true then _ else dBad) = if isT ts j sEq = true then _ else dBad
         split
         ·rcases ex_rel (ts:=ts) (ts.length + 1) (j + 1) with e | ⟨e1,l,a,e2,hc⟩
          ·rw [e]
          ·rw [e1,e2]
           have:=isT_lt hc
           show dBad = if a = ts.length then _ else dBad
           rw [if_neg (by omega)]
         ·rfl
      ·rw [e1,e2]
       show dBad = if isT ts a sEq = true then _ else dBad
       rw [isT_one hc (by decide)]
       rfl
     ·rfl
    ·rfl
 ·rfl
theorem decs_same : ∀ f ts,decs true f ts = decs false f ts
 | 0,_=>rfl
 | f + 1,ts=>by
   rw [decs,decs]
   split
   ·rfl
   ·cases semi ts with
    | none=>rfl
    | some k=>
      show declP true (ts.take k) :: decs true f (ts.drop (k + 1)) = declP false (ts.take k) :: decs false f (ts.drop (k + 1))
      rw [decl_same,decs_same f]
end Go.Proofs.YtcehppndpccldaaGreatDoor
namespace Go.Proofs.YtcehppndpccldaaGreatDoor
open Go.RowKit
theorem below_drewN' (w : World) (n : Nat) : Bw w (w.drewN n):=⟨rfl,rfl,rfl,nlr _,fun _ _=>rfl⟩
theorem bel1 (w : World) (o1 : Obj) : Bw w (w.alloc o1):=(Below.refl _ _).alloc (nlr _) _
theorem bel2 (w : World) (o1 o2 : Obj) : Bw w ((w.alloc o1).alloc o2):=(bel1 w o1).alloc (by simp) _
theorem bel2d (w : World) (o1 o2 : Obj) (k : Nat) : Bw w (((w.alloc o1).alloc o2).drewN k):=below_drewN (bel2 w o1 o2) k
theorem c18 (c : Int) (w : World) :
  Calls Tryz.prog 38 #[.int .u8 c] w fun e w'=>e = .returned (.bool (sl c)) /\ w' = w:=by
 by_cases h1 : 97 <= c <;> by_cases h2 : c <= 122 <;>
 (go_enter Tryz.func38,Tryz.ntmps38
  go_wp2
  go_ret
  exact ⟨by simp [sl,h1,h2],rfl⟩)
theorem c30 (c : Int) (w : World) :
  Calls Tryz.prog 67 #[.int .u8 c] w fun e w'=>e = .returned (.bool (wb c)) /\ w' = w:=by
 by_cases h1 : 97 <= c <;> by_cases h2 : c <= 122 <;> by_cases h3 : 48 <= c <;> by_cases h4 : c <= 57 <;> by_cases h5 : c = 95 <;> try (exfalso;omega)
 all_goals
  have h5' : (c == 95) = decide (c = 95):=by rw [Bool.eq_iff_iff];simp
  go_enter Tryz.func67,Tryz.ntmps67
  go_wp2
  go_ret
  exact ⟨by simp [wb, *],rfl⟩
theorem c31 (s : ByteArray) (w : World) :
  Calls Tryz.prog 68 #[.string s] w fun e w'=>e = .returned (.bool (rsv s.toList)) /\ w' = w:=by
 go_enter Tryz.func68,Tryz.ntmps68
 go_wp2
 all_goals
  go_ret
  exact ⟨by first | (simp_all [rsv];done) | (refine congrArg (fun b=>Ending.returned (Value.bool b)) ?_;rw [Bool.eq_iff_iff];simp_all [rsv]),rfl⟩
theorem c41 (s : ByteArray) (w : World) :
  Calls Tryz.prog 105 #[.string s] w fun e w'=>e = .returned (.bool (rsv s.toList)) /\ w' = w:=by
 go_enter Tryz.func105,Tryz.ntmps105
 go_wp2
 all_goals
  go_ret
  exact ⟨by simp_all [rsv],rfl⟩
theorem ret_bool {a b : Bool} (h : a = b) : Ending.returned (.bool a) = .returned (.bool b):=by rw [h]
theorem c20 (c : Int) (w : World) :
  Calls Tryz.prog 40 #[.int .u8 c] w fun e w'=>e = .returned (.bool (wb c)) /\ w' = w:=by
 by_cases h1 : 97 <= c <;> by_cases h2 : c <= 122 <;> by_cases h3 : 48 <= c <;> by_cases h4 : c <= 57 <;> by_cases h5 : c = 95 <;> try (exfalso;omega)
 all_goals
  have h5' : (c == 95) = decide (c = 95):=by rw [Bool.eq_iff_iff];simp
  have h6 : sl c = decide (97 <= c /\ c <= 122):=rfl
  go_enter Tryz.func40,Tryz.ntmps40
  go_wp2_with (go_at_call 38;refine (c18 _ _).mono ?_;rintro e w' ⟨rfl,rfl⟩)
  go_ret
  exact ⟨by simp [wb, *] <;> omega,rfl⟩
theorem c32 (s : ByteArray) (w : World) (_hs : s.size <= 9223372036854775807) :
  Calls Tryz.prog 62 #[.string s] w fun e w'=>e = .returned (.bool (gn s)) /\ w' = w:=by
 by_cases h1 : s.size < 1
 ·have HG : Hid (gn s = false):=gn_short (s:=s) (Or.inl h1)
  go_enter Tryz.func62,Tryz.ntmps62
  go_wp2
  go_ret
  exact ⟨ret_bool HG.out.symm,rfl⟩
 by_cases h2 : 12 < s.size
 ·have HG : Hid (gn s = false):=gn_short (s:=s) (Or.inr h2)
  go_enter Tryz.func62,Tryz.ntmps62
  go_wp2
  go_ret
  exact ⟨ret_bool HG.out.symm,rfl⟩
 have hp : 0 < s.size:=by omega
 have H0 : Hid (sl ((s[0]'hp).toNat : Int) = decide (97 <= ((s[0]'hp).toNat : Int) /\ ((s[0]'hp).toNat : Int) <= 122)):=rfl
 by_cases h3 : 97 <= ((s[0]'hp).toNat : Int)
 case neg=>
  have HG : Hid (gn s = false):=gn_head hp (by rw [H0.out];exact decide_eq_false (fun h=>h3 h.1))
  have h3' : ((s[0]'hp).toNat : Int) < 97:=by omega
  go_enter Tryz.func62,Tryz.ntmps62
  go_wp2
  go_ret
  exact ⟨ret_bool HG.out.symm,rfl⟩
 by_cases h4 : ((s[0]'hp).toNat : Int) <= 122
 case neg=>
  have HG : Hid (gn s = false):=gn_head hp (by rw [H0.out];exact decide_eq_false (fun h=>h4 h.2))
  have h4' : 122 < ((s[0]'hp).toNat : Int):=by omega
  go_enter Tryz.func62,Tryz.ntmps62
  go_wp2
  go_ret
  exact ⟨ret_bool HG.out.symm,rfl⟩
 have Hs : Hid (sl ((s[0]'hp).toNat : Int) = true):=by rw [H0.out];exact decide_eq_true ⟨h3,h4⟩
 go_enter Tryz.func62,Tryz.ntmps62
 go_wp2
 go_loop [3] (fun i=>∃ k : Nat,k <= s.size /\ i = .int .i64 k /\ Hid (∀ j (h : j < s.size),j < k -> wb (s[j].toNat : Int) = true)) (fun i=>s.size - (intOf i).toNat)
 case atStart=>exact ⟨0,Nat.zero_le _,rfl,fun j _ h=>absurd h (Nat.not_lt_zero _)⟩
 case round=>
  obtain ⟨k,hk,rfl,HA⟩:=hrel
  by_cases hlt : k < s.size
  ·cases hw : wb (s[k].toNat : Int)
   ·have HG : Hid (gn s = false):=gn_byte k hlt hw
    go_wp2_with (go_at_call 67;refine (c30 _ _).mono ?_;rintro e w' ⟨rfl,rfl⟩)
    go_ret
    exact ⟨ret_bool HG.out.symm,rfl⟩
   ·have HW : Hid (wb (s[k].toNat : Int) = true):=hw
    go_wp2_with (go_at_call 67;refine (c30 _ _).mono ?_;rintro e w' ⟨rfl,rfl⟩)
    go_round
    case rel=>exact ⟨k + 1,by omega,by go_num,fun j h hj=>by
     by_cases e : j = k
     ·subst e;exact HW.out
     ·exact HA.out j h (by omega)⟩
    case measure=>simp [intOf];omega
  ·have HE : Hid (gn s = !rsv s.toList):=gn_end (by omega) (by omega) Hs.out (fun j h=>HA.out j h (by omega))
   go_wp2_with (go_at_call 68;refine (c31 _ _).mono ?_;rintro e w' ⟨rfl,rfl⟩)
   go_ret
   exact ⟨ret_bool HE.out.symm,rfl⟩
theorem c40 (s : ByteArray) (w : World) (_hs : s.size <= 9223372036854775807) :
  Calls Tryz.prog 93 #[.string s] w fun e w'=>e = .returned (.bool (gn s)) /\ w' = w:=by
 by_cases h1 : s.size = 0
 ·have HG : Hid (gn s = false):=gn_short (s:=s) (Or.inl (by omega))
  go_enter Tryz.func93,Tryz.ntmps93
  go_wp2
  go_ret
  exact ⟨ret_bool HG.out.symm,rfl⟩
 by_cases h2 : 12 < s.size
 ·have HG : Hid (gn s = false):=gn_short (s:=s) (Or.inr h2)
  have h1' : ((s.size : Int) == 0) = false:=bn2 (by omega)
  go_enter Tryz.func93,Tryz.ntmps93
  go_wp2
  go_ret
  exact ⟨ret_bool HG.out.symm,rfl⟩
 have hp : 0 < s.size:=by omega
 have h1' : ((s.size : Int) == 0) = false:=bn2 (by omega)
 cases h3 : sl ((s[0]'hp).toNat : Int)
 ·have HG : Hid (gn s = false):=gn_head hp h3
  go_enter Tryz.func93,Tryz.ntmps93
  go_wp2_with (go_at_call 38;refine (c18 _ _).mono ?_;rintro e w' ⟨rfl,rfl⟩)
  go_ret
  exact ⟨ret_bool HG.out.symm,rfl⟩
 have Hs : Hid (sl ((s[0]'hp).toNat : Int) = true):=h3
 go_enter Tryz.func93,Tryz.ntmps93
 go_wp2_with (go_at_call 38;refine (c18 _ _).mono ?_;rintro e w' ⟨rfl,rfl⟩)
 clear h3
 go_loop [3] (fun i=>∃ k : Nat,1 <= k /\ k <= s.size /\ i = .int .i64 k /\ Hid (∀ j (h : j < s.size),j < k -> wb (s[j].toNat : Int) = true)) (fun i=>s.size - (intOf i).toNat)
 case atStart=>exact ⟨1,nlr _,by omega,rfl,fun j _ h=>by
  have : j = 0:=by omega
  subst this;exact wb_of_sl Hs.out⟩
 case round=>
  obtain ⟨k,hk1,hk,rfl,HA⟩:=hrel
  by_cases hlt : k < s.size
  ·cases hw : wb (s[k].toNat : Int)
   ·have HG : Hid (gn s = false):=gn_byte k hlt hw
    go_wp2_with (go_at_call 40;refine (c20 _ _).mono ?_;rintro e w' ⟨rfl,rfl⟩)
    go_ret
    exact ⟨ret_bool HG.out.symm,rfl⟩
   ·have HW : Hid (wb (s[k].toNat : Int) = true):=hw
    go_wp2_with (go_at_call 40;refine (c20 _ _).mono ?_;rintro e w' ⟨rfl,rfl⟩)
    go_round
    case rel=>exact ⟨k + 1,by omega,by omega,by go_num,fun j h hj=>by
     by_cases e : j = k
     ·subst e;exact HW.out
     ·exact HA.out j h (by omega)⟩
    case measure=>simp [intOf];omega
  ·have HE : Hid (gn s = !rsv s.toList):=gn_end (by omega) (by omega) Hs.out (fun j h=>HA.out j h (by omega))
   go_wp2_with (go_at_call 105;refine (c41 _ _).mono ?_;rintro e w' ⟨rfl,rfl⟩)
   go_ret
   exact ⟨ret_bool HE.out.symm,rfl⟩
theorem c19 (c : Int) (w : World) :
  Calls Tryz.prog 39 #[.int .u8 c] w fun e w'=>e = .returned (.bool (dg c)) /\ w' = w:=by
 by_cases h1 : 48 <= c <;> by_cases h2 : c <= 57 <;>
 (go_enter Tryz.func39,Tryz.ntmps39
  go_wp2
  go_ret
  exact ⟨by simp [dg,h1,h2],rfl⟩)
theorem ret_int {a b : Int} (h : a = b) : Ending.returned (.int .i64 a) = .returned (.int .i64 b):=by rw [h]
theorem zero_one {t : ByteArray} (hp : 0 < t.size) (h : ((t[0]'hp).toNat : Int) = 48) : (t.toList == [48]) = decide (t.size = 1):=by
 have hl : t.toList.length = t.size:=by rw [ByteArray.toList_eq];rfl
 by_cases e : t.size = 1
 ·rw [decide_eq_true e]
  have hh:=head_at t hp
  rw [<- ByteArray.toList_eq] at hh
  cases q : t.toList with
  | nil=>rw [q] at hl;simp at hl;omega
  | cons a l=>
    rw [q] at hl hh
    simp only [List.length_cons] at hl
    have : l = []:=List.eq_nil_of_length_eq_zero (by omega)
    subst this
    simp only [List.headD_cons] at hh
    have : a = 48:=by
     rw [<- UInt8.toNat_inj,hh];simp only [UInt8.reduceToNat];omega
    subst this;rfl
 ·rw [decide_eq_false e,beq_eq_false_iff_ne]
  intro q
  rw [q] at hl
  simp at hl;omega
theorem num_at {t : ByteArray} (hp : 0 < t.size) : num t.toList = (dg ((t[0]'hp).toNat : Int) && !decide (9 < t.size \/ ((t[0]'hp).toNat : Int) = 48 /\ 1 < t.size)):=by
 have hl : t.toList.length = t.size:=by rw [ByteArray.toList_eq];rfl
 have hh:=head_at t hp
 rw [<- ByteArray.toList_eq] at hh
 unfold num
 rw [hh,hl]
theorem c42 (t : ByteArray) (w : World) (hp : 0 < t.size) (_hs : t.size <= 9223372036854775807) :
  Calls Tryz.prog 106 #[.string t] w fun e w'=>e = .returned (.bool (num t.toList)) /\ w' = w:=by
 have HN : Hid (num t.toList = (dg ((t[0]'hp).toNat : Int) && !decide (9 < t.size \/ ((t[0]'hp).toNat : Int) = 48 /\ 1 < t.size))):=num_at hp
 cases hd : dg ((t[0]'hp).toNat : Int)
 ·go_enter Tryz.func106,Tryz.ntmps106
  go_wp2_with (go_at_call 39;refine (c19 _ _).mono ?_;rintro e w' ⟨rfl,rfl⟩)
  go_ret
  exact ⟨ret_bool (by rw [HN.out,hd];rfl),rfl⟩
 ·by_cases h9 : t.size <= 9
  ·by_cases h0 : ((t[0]'hp).toNat : Int) = 48
   ·have hz:=zero_one hp h0
    have hb : (((t[0]'hp).toNat : Int) != 48) = false:=by rw [bne_eq_false_iff_eq];exact h0
    have H0 : Hid (((t[0]'hp).toNat : Int) = 48):=h0
    have HZ : Hid ((t.toList == [48]) = decide (t.size = 1)):=hz
    clear h0 hz
    go_enter Tryz.func106,Tryz.ntmps106
    go_wp2_with (go_at_call 39;refine (c19 _ _).mono ?_;rintro e w' ⟨rfl,rfl⟩)
    go_ret
    refine ⟨ret_bool ?_,rfl⟩
    rw [HN.out,hd,HZ.out,Bool.true_and]
    by_cases q : t.size = 1
    ·rw [decide_eq_true q,decide_eq_false (by omega)];rfl
    ·rw [decide_eq_false q,decide_eq_true (by have:=H0.out;omega)];rfl
   ·have hb : (((t[0]'hp).toNat : Int) != 48) = true:=by rw [bne_iff_ne];exact h0
    have HF : Hid (num t.toList = true):=by
     show num t.toList = true
     rw [HN.out,hd,decide_eq_false (by omega)];rfl
    clear h0
    go_enter Tryz.func106,Tryz.ntmps106
    go_wp2_with (go_at_call 39;refine (c19 _ _).mono ?_;rintro e w' ⟨rfl,rfl⟩)
    go_ret
    exact ⟨ret_bool HF.out.symm,rfl⟩
  ·have HF : Hid (num t.toList = false):=by
    show num t.toList = false
    rw [HN.out,decide_eq_true (by omega)];simp
   go_enter Tryz.func106,Tryz.ntmps106
   go_wp2_with (go_at_call 39;refine (c19 _ _).mono ?_;rintro e w' ⟨rfl,rfl⟩)
   go_ret
   exact ⟨ret_bool HF.out.symm,rfl⟩
theorem c53 (s : ByteArray) (c : Int) (w : World) :
  Calls Tryz.prog 153 #[.string s,.int .u8 c] w fun e w'=>e = .returned (.int .i64 (Lib.indexByte s.data.toList c.toNat.toUInt8)) /\ w' = w:=by
 go_enter Tryz.func153,Tryz.ntmps153
 go_wp2
 rw [run_callFunc_extern Tryz.func164 (by kernel_rfl) (by kernel_rfl) (by kernel_rfl) (e:=Extern.BytealgIndexByte.indexByte) (by kernel_rfl),Lib.run_indexByteString]
 simp only [Result.andThen]
 rw [Oper.upon_value]
 go_wp2
 go_ret
 exact ⟨rfl,rfl⟩
def sgT : ByteArray:=⟨#[59,58,61,63,123,125,40,41,44,46,43,60]⟩
theorem sgT_list : sgT.data.toList = sgs:=rfl
theorem no_sign {t : ByteArray} (hp : 0 < t.size) (h : sg ((t[0]'hp).toNat : Int) = false) : Lib.index sgs t.data.toList = -1:=by
 have hh:=head_at t hp
 cases q : t.data.toList with
 | nil=>
   have hl : t.data.toList.length = t.size:=rfl
   rw [q] at hl;simp at hl;omega
 | cons a l=>
   rw [q] at hh
   simp only [List.headD_cons] at hh
   have:=not_in (b:=a) (l:=l) (by rw [hh];exact h)
   unfold Lib.contains at this
   have h2:=Lib.index_ge sgs (a :: l)
   simp only [decide_eq_false_iff_not] at this
   omega
theorem no_byte {c : UInt8} (h : sg (c.toNat : Int) = false) (a b : Nat) : Lib.indexByte (sgT.extract a b).data.toList c = -1:=by
 have hb : ∀ x ∈ sgs,(x == c) = false:=fun x hx=>by
  rw [beq_eq_false_iff_ne]
  intro e;subst e
  revert h;revert hx
  simp only [sgs,List.mem_cons,List.not_mem_nil,or_false]
  rintro (rfl | rfl | rfl | rfl | rfl | rfl | rfl | rfl | rfl | rfl | rfl | rfl) <;> decide
 have hs : ∀ x ∈ (sgT.extract a b).data.toList,x ∈ sgs:=fun x hx=>by
  rw [ByteArray.data_extract,Array.toList_extract,List.extract_eq_take_drop] at hx
  exact List.mem_of_mem_drop (List.mem_of_mem_take hx)
 generalize (sgT.extract a b).data.toList = l at hs
 induction l with
 | nil=>rfl
 | cons x l ih=>
   have h1:=hb x (hs x List.mem_cons_self)
   have h2:=ih (fun y hy=>hs y (List.mem_cons_of_mem _ hy))
   unfold Lib.indexByte
   rw [h1,h2];rfl
theorem c52 (t : ByteArray) (m : Int) (w : World) (hp : 0 < t.size) (hs : t.size <= 4294967280) (hm : w.cell? ⟨1,0,none⟩ = some (.int .i64 m)) (hc : t.size = 1 \/ sg ((t[0]'hp).toNat : Int) = false) :
  Calls Tryz.prog 147 #[.string sgT,.string t] w fun e w'=>e = .returned (.int .i64 (Lib.index sgs t.data.toList)) /\ w' = w:=by
 have b0 : ((t.size : Int) == 0) = false:=bn2 (by omega)
 by_cases h1 : t.size = 1
 ·have H1 : Hid (Lib.index sgs t.data.toList = Lib.indexByte sgT.data.toList (t[0]'hp)):=by
   show _ = _
   have:=Lib.one sgT t h1
   rw [Lib.byte_back] at this;exact this
  have b1 : ((t.size : Int) == 1) = true:=beq_iff_eq.2 (by omega)
  have e1 : (t.toList == sgT.toList) = false:=by
   rw [beq_eq_false_iff_ne]
   intro q
   have : t.toList.length = t.size:=by rw [ByteArray.toList_eq];rfl
   rw [q,h1] at this
   rw [ByteArray.toList_eq] at this
   cases this
  go_enter Tryz.func147,Tryz.ntmps147
  go_wp2_with (go_at_call 153;refine (c53 _ _ _).mono ?_;rintro e w' ⟨rfl,rfl⟩)
  go_ret
  exact ⟨ret_int H1.out.symm,rfl⟩
 have hc' : sg ((t[0]'hp).toNat : Int) = false:=hc.resolve_left h1
 have H1 : Hid (Lib.index sgs t.data.toList = -1):=no_sign hp hc'
 have b1 : ((t.size : Int) == 1) = false:=bn2 (by omega)
 have e1 : (t.toList == sgT.toList) = false:=by
  rw [beq_eq_false_iff_ne]
  intro q
  have e0:=head_at t hp
  rw [<- ByteArray.toList_eq,q] at e0
  have : (sgT.toList.headD 0) = 59:=by rw [ByteArray.toList_eq];rfl
  rw [this] at e0
  rw [<- e0] at hc'
  revert hc';decide
 have hz : sgT.size = 12:=rfl
 by_cases h12 : 12 <= t.size
 ·go_enter Tryz.func147,Tryz.ntmps147
  go_wp2
  go_ret
  exact ⟨ret_int H1.out.symm,rfl⟩
 by_cases hM : (t.size : Int) <= m
 ·have hIS : (callFunc 154 #[.string sgT,.string t]).run Tryz.prog w = .ok (.value (.int .i64 (-1))) w:=by
   rw [run_callFunc_extern Tryz.func154 (by kernel_rfl) (by kernel_rfl) (by kernel_rfl) (e:=Extern.BytealgIndex.index) (by kernel_rfl),Lib.run_indexString sgT t w 1 m (by kernel_rfl) hm (by omega) hM (by rw [hz];omega)]
   simp only [Result.andThen]
   rw [sgT_list,H1.out]
  go_enter Tryz.func147,Tryz.ntmps147
  go_wp2
  go_ret
  exact ⟨ret_int H1.out.symm,rfl⟩
 ·have e0 : (((sgT[0]'(by rw [hz];omega)).toNat : Int) != ((t[0]'hp).toNat : Int)) = true:=by
   rw [bne_iff_ne]
   intro q
   rw [<- q,show ((sgT[0]'(by rw [hz];omega)).toNat : Int) = 59 from rfl] at hc'
   revert hc';decide
  have HB : Hid (∀ a b : Nat,Lib.indexByte (sgT.extract a b).data.toList (((t[0]'hp).toNat : Int)).toNat.toUInt8 = -1):=fun a b=>by
   rw [Lib.byte_back]
   exact no_byte hc' a b
  go_enter Tryz.func147,Tryz.ntmps147
  go_wp2_with (first | (go_at_call 153;refine (c53 _ _ _).mono ?_;rintro e w' ⟨rfl,rfl⟩))
  go_loop [8] (fun i=>i = .int .i64 0) (fun _=>0)
  case atStart=>rfl
  case round=>
   subst hrel
   go_wp2_with (first | (go_at_call 153;refine (c53 _ _ _).mono ?_;rintro e w' ⟨rfl,rfl⟩;rw [HB.out]))
   go_ret
   exact ⟨ret_int H1.out.symm,rfl⟩
theorem c51 (t : ByteArray) (m : Int) (w : World) (hp : 0 < t.size) (hs : t.size <= 4294967280) (hm : w.cell? ⟨1,0,none⟩ = some (.int .i64 m)) (hc : t.size = 1 \/ sg ((t[0]'hp).toNat : Int) = false) :
  Calls Tryz.prog 135 #[.string sgT,.string t] w fun e w'=>e = .returned (.int .i64 (Lib.index sgs t.data.toList)) /\ w' = w:=by
 go_enter Tryz.func135,Tryz.ntmps135
 go_wp2_with (go_at_call 147;refine (c52 t m _ hp hs hm hc).mono ?_;rintro e w' ⟨rfl,rfl⟩)
 go_ret
 exact ⟨rfl,rfl⟩
theorem c43 (t : ByteArray) (m : Int) (w : World) (hp : 0 < t.size) (hs : t.size <= 4294967280) (hm : w.cell? ⟨1,0,none⟩ = some (.int .i64 m)) (hc : t.size = 1 \/ sg ((t[0]'hp).toNat : Int) = false) :
  Calls Tryz.prog 107 #[.string sgT,.string t] w fun e w'=>e = .returned (.bool (Lib.contains sgs t.toList)) /\ w' = w:=by
 have HL : Hid (t.toList = t.data.toList):=ByteArray.toList_eq t
 go_enter Tryz.func107,Tryz.ntmps107
 go_wp2_with (go_at_call 135;refine (c51 t m _ hp hs hm hc).mono ?_;rintro e w' ⟨rfl,rfl⟩)
 go_ret
 exact ⟨ret_bool (by rw [HL.out];rfl),rfl⟩
theorem gn_list (t : ByteArray) : gn t = gnl t.toList:=by rw [ByteArray.toList_eq];rfl
theorem c33 (t : ByteArray) (m : Int) (w : World) (hp : 0 < t.size) (hs : t.size <= 4294967280) (hm : w.cell? ⟨1,0,none⟩ = some (.int .i64 m)) (hc : t.size = 1 \/ sg ((t[0]'hp).toNat : Int) = false) :
  Calls Tryz.prog 69 #[.string t] w fun e w'=>e = .returned (.int .i64 (cls t.toList)) /\ w' = w:=by
 have HL : Hid (gn t = gnl t.toList):=gn_list t
 have HC : Hid (cls t.toList = if gnl t.toList then 1 else if rsv t.toList then 2 else if num t.toList then 3 else if t.toList == [45,62] || Lib.contains sgs t.toList then 4 else 0):=rfl
 have HQ : Hid (t.size = 1 \/ sg ((t[0]'hp).toNat : Int) = false):=hc
 clear hc
 cases h1 : gn t
 case true=>
  have HF : Hid (cls t.toList = 1):=by show _ = _;rw [HC.out,<- HL.out,h1];rfl
  go_enter Tryz.func69,Tryz.ntmps69
  go_wp2_with (go_at_call 93;refine (c40 t _ (by omega)).mono ?_;rintro e w' ⟨rfl,rfl⟩)
  go_ret
  exact ⟨ret_int HF.out.symm,rfl⟩
 cases h2 : rsv t.toList
 case true=>
  have HF : Hid (cls t.toList = 2):=by show _ = _;rw [HC.out,<- HL.out,h1,h2];rfl
  go_enter Tryz.func69,Tryz.ntmps69
  go_wp2_with (first | (go_at_call 93;refine (c40 t _ (by omega)).mono ?_;rintro e w' ⟨rfl,rfl⟩) | (go_at_call 105;refine (c41 t _).mono ?_;rintro e w' ⟨rfl,rfl⟩))
  go_ret
  exact ⟨ret_int HF.out.symm,rfl⟩
 cases h3 : num t.toList
 case true=>
  have HF : Hid (cls t.toList = 3):=by show _ = _;rw [HC.out,<- HL.out,h1,h2,h3];rfl
  go_enter Tryz.func69,Tryz.ntmps69
  go_wp2_with (first | (go_at_call 93;refine (c40 t _ (by omega)).mono ?_;rintro e w' ⟨rfl,rfl⟩) | (go_at_call 105;refine (c41 t _).mono ?_;rintro e w' ⟨rfl,rfl⟩) | (go_at_call 106;refine (c42 t _ hp (by omega)).mono ?_;rintro e w' ⟨rfl,rfl⟩))
  go_ret
  exact ⟨ret_int HF.out.symm,rfl⟩
 cases h4 : (t.toList == [45,62])
 case true=>
  have HF : Hid (cls t.toList = 4):=by show _ = _;rw [HC.out,<- HL.out,h1,h2,h3,h4];rfl
  go_enter Tryz.func69,Tryz.ntmps69
  go_wp2_with (first | (go_at_call 93;refine (c40 t _ (by omega)).mono ?_;rintro e w' ⟨rfl,rfl⟩) | (go_at_call 105;refine (c41 t _).mono ?_;rintro e w' ⟨rfl,rfl⟩) | (go_at_call 106;refine (c42 t _ hp (by omega)).mono ?_;rintro e w' ⟨rfl,rfl⟩))
  go_ret
  exact ⟨ret_int HF.out.symm,rfl⟩
 cases h5 : Lib.contains sgs t.toList
 ·have HF : Hid (cls t.toList = 0):=by show _ = _;rw [HC.out,<- HL.out,h1,h2,h3,h4,h5];rfl
  go_enter Tryz.func69,Tryz.ntmps69
  go_wp2_with (first | (go_at_call 93;refine (c40 t _ (by omega)).mono ?_;rintro e w' ⟨rfl,rfl⟩) | (go_at_call 105;refine (c41 t _).mono ?_;rintro e w' ⟨rfl,rfl⟩) | (go_at_call 106;refine (c42 t _ hp (by omega)).mono ?_;rintro e w' ⟨rfl,rfl⟩) | (go_at_call 107;refine (c43 t m _ hp hs hm HQ.out).mono ?_;rintro e w' ⟨rfl,rfl⟩))
  go_ret
  exact ⟨ret_int HF.out.symm,rfl⟩
 ·have HF : Hid (cls t.toList = 4):=by show _ = _;rw [HC.out,<- HL.out,h1,h2,h3,h4,h5];rfl
  go_enter Tryz.func69,Tryz.ntmps69
  go_wp2_with (first | (go_at_call 93;refine (c40 t _ (by omega)).mono ?_;rintro e w' ⟨rfl,rfl⟩) | (go_at_call 105;refine (c41 t _).mono ?_;rintro e w' ⟨rfl,rfl⟩) | (go_at_call 106;refine (c42 t _ hp (by omega)).mono ?_;rintro e w' ⟨rfl,rfl⟩) | (go_at_call 107;refine (c43 t m _ hp hs hm HQ.out).mono ?_;rintro e w' ⟨rfl,rfl⟩))
  go_ret
  exact ⟨ret_int HF.out.symm,rfl⟩
theorem Tryz.info5 : (Tryz.prog.info? 5).map (fun i=>(i.zero,i.size,i.bytes)) = some (some (.int .u8 0),1,1):=by kernel_rfl
theorem c44 (s : ByteArray) (w : World) (hp : 0 < s.size) (hs : s.size <= 1048576) :
  Calls Tryz.prog 108 #[.string s] w fun e w'=>e = .returned (.string s) /\ Bw w w':=by
 obtain ⟨i0,hi,hz0,hz1,hz2⟩:=info_parts Tryz.info5
 have hsz : (Tryz.prog.info? 5).map (·.size) = some 1:=by rw [hi];simp [hz1]
 have hone : Tryz.prog.cellsOf 5 = 1:=by simp [Program.cellsOf,hi,hz1]
 have hlen : s.data.toList.length = s.size:=rfl
 obtain ⟨M,hM⟩:=xe (madeCells (Value.int .u8 0).cells (((s.size : Nat) : Int).toNat * i0.size))
 have hMs : M.size = s.size:=by rw [hM,size_madeCells,hz1];simp
 have hmk : ∀ W : World,(Instr.makeSlice 29 (.int .i64 (s.size : Int)) (.int .i64 (s.size : Int))).run Tryz.prog W = .ok (.slice (some ⟨W.heap.size,0,none⟩) s.size s.size) (W.alloc (.cells M 5)):=fun W=>by
  have h:=run_make (P:=Tryz.prog) W 29 5 i0 (.int .u8 0) Tryz.underlying29 hi hz0 .i64 .i64 (s.size : Int) (s.size : Int) (by omega) (by omega) (by rw [hz2];omega) (by omega)
  rw [<- hM] at h
  simpa using h
 clear hM
 have hcp:=Lib.run_copy_row_string (P:=Tryz.prog) (w.alloc (.cells M 5)) 29 9 3 5 w.heap.size 0 s.size s.size s M 5 Tryz.underlying29 hsz (heap_alloc_new w _) (nlr _) (by omega)
 obtain ⟨Y,hY⟩:=xe ((M.toList.take 0 ++ Lib.byteCells s.data.toList ++ M.toList.drop (0 + s.size)).toArray)
 rw [<- hY] at hcp
 have hYl : Y.toList = Lib.byteCells s.data.toList:=by
  rw [hY,List.toList_toArray,List.take_zero,List.nil_append,List.drop_of_length_le (by rw [Array.length_toList];omega),List.append_nil]
 have hYs : Y.size = s.size:=by rw [<- Array.length_toList,hYl,Lib.byteCells_length,hlen]
 have hgY : ((w.alloc (.cells M 5)).setRow w.heap.size Y).heap[w.heap.size]? = some (.cells Y 5 (0,0)):=setRow_heap _ _ M _ 5 (0,0) (heap_alloc_new w _)
 have hUS:=Lib.run_unsafeString_row (P:=Tryz.prog) ((w.alloc (.cells M 5)).setRow w.heap.size Y) 150 3 9 5 Tryz.underlying150 hone w.heap.size Y.size (by unfold World.shape?;rw [hgY]) s.data.toList (fun e=>by rw [e] at hlen;simp at hlen;omega) (by omega) (by omega)
  (fun j x hx=>Lib.cells_of_row hgY Y.size j _ (by rw [List.take_of_length_le (by rw [Array.length_toList];exact nlr _),hYl];simp [Lib.byteCells,hx]))
 rw [hlen] at hUS
 have b0 : ((s.size : Int) == 0) = false:=bn2 (by omega)
 clear hY
 go_enter Tryz.func108,Tryz.ntmps108
 go_wp2
 go_ret
 have hb : Below w.heap.size (w.alloc (.cells M 5)) ((w.alloc (.cells M 5)).setRow w.heap.size Y):=⟨rfl,rfl,rfl,by simp,fun k hk=>setRow_other _ _ _ _ (by omega)⟩
 exact ⟨rfl,Lib.below_freeze ((bel1 w _).trans hb) (p:=⟨w.heap.size,0,none⟩) (nlr _) _⟩
theorem c34 (s : ByteArray) (w : World) (hp : 0 < s.size) (hs : s.size <= 1048576) :
  Calls Tryz.prog 70 #[.string s] w fun e w'=>e = .returned (.string s) /\ Bw w w':=by
 go_enter Tryz.func70,Tryz.ntmps70
 go_wp2_with (go_at_call 108;refine (c44 s _ hp hs).mono ?_;rintro e w' ⟨rfl,hb⟩)
 go_ret
 exact ⟨rfl,hb⟩
def v3 (a b c : Value) : Nat -> Value:=fun i=>if i = 0 then a else if i = 1 then b else c
theorem row3 (w : World) (a b c : Value) (t : TypeId) : (w.alloc (.cells #[a,b,c] t)).rowIs w.heap.size t 3 (v3 a b c):=
 World.rowIs_alloc w #[a,b,c] t _ (fun i hi=>by
  match i,hi with
  | 0,_=>rfl
  | 1,_=>rfl
  | 2,_=>rfl)
theorem max_below {w w' : World} {m : Int} (h : w.cell? ⟨1,0,none⟩ = some (.int .i64 m)) (hb : Bw w w') : w'.cell? ⟨1,0,none⟩ = some (.int .i64 m):=by
 rw [hb.cell (p:=⟨1,0,none⟩) (blt h)];exact h
theorem c21 (t : ByteArray) (k : Nat) (m : Int) (w : World) (hp : 0 < t.size) (hs : t.size <= 1048576) (hm : w.cell? ⟨1,0,none⟩ = some (.int .i64 m)) (hc : t.size = 1 \/ sg ((t[0]'hp).toNat : Int) = false) :
  Calls Tryz.prog 41 #[.string t,.int .i64 (k : Int)] w fun e w'=>e = .returned (.agg #[.int .i64 (cls t.toList),.string t,.int .i64 (k : Int)]) /\ Bw w w':=by
 have HM : Hid (∀ w',Bw w w' -> w'.cell? ⟨1,0,none⟩ = some (.int .i64 m)):=fun w' hb=>max_below hm hb
 clear hm
 go_enter Tryz.func41,Tryz.ntmps41
 go_wp2_with fail
 refine (c33 t m _ hp (by omega) (HM.out _ (bel1 _ _)) hc).mono ?_
 rintro e w' ⟨rfl,rfl⟩
 go_wp2_with fail
 refine (c34 t _ hp hs).mono ?_
 rintro e w1 ⟨rfl,hb⟩
 have r1:=(row3 w (.int .i64 0) (.string ⟨#[]⟩) (.int .i64 0) 38).of_block (hb.block _ (by simp))
 have B1:=(bel1 w _).trans (hb.mono (by simp))
 have k0:=r1.cell (i:=0) (by omega)
 have k1:=r1.cell (i:=1) (by omega)
 have k2:=r1.cell (i:=2) (by omega)
 have f0:=r1.frozen 0
 have f1:=r1.frozen 1
 have f2:=r1.frozen 2
 have hB:=((B1.setCell (p:=⟨w.heap.size,0,none⟩) (nlr _) (.int .i64 (cls t.toList))).setCell (p:=⟨w.heap.size,1,none⟩) (nlr _) (.string t)).setCell (p:=⟨w.heap.size,2,none⟩) (nlr _) (.int .i64 (k : Int))
 have r2:=((r1.set 0 (.int .i64 (cls t.toList))).set 1 (.string t)).set 2 (.int .i64 (k : Int))
 have z0:=r2.cell (i:=0) (by omega)
 have z1:=r2.cell (i:=1) (by omega)
 have z2:=r2.cell (i:=2) (by omega)
 clear hb r1 r2 HM
 go_wp2
 exact bodyPost_ret (v:=.agg #[.int .i64 (cls t.toList),.string t,.int .i64 (k : Int)]) (by simp [results,Tryz.results41,go_sem,z0,z1,z2]) rfl ⟨rfl,hB⟩
def tkA (l : List TK) (i : Nat) : TK:=l.getD i ⟨0,ByteArray.empty,0⟩
structure But (S : List Nat) (w w' : World) : Prop where
 os : w'.os = w.os
 tape : w'.tape = w.tape
 output : w'.output = w.output
 size : w.heap.size <= w'.heap.size
 block : ∀ k,k < w.heap.size -> k ∉ S -> w'.heap[k]? = w.heap[k]?
theorem But.refl (S : List Nat) (w : World) : But S w w:=⟨rfl,rfl,rfl,nlr _,fun _ _ _=>rfl⟩
theorem But.trans {S S' : List Nat} {w w1 w2 : World} (h : But S w w1) (h' : But S' w1 w2) (hs : ∀ k,k ∈ S' -> k < w.heap.size -> k ∈ S) : But S w w2:=
 ⟨h'.os.trans h.os,h'.tape.trans h.tape,h'.output.trans h.output,Nat.le_trans h.size h'.size,fun k hk hn=>(h'.block k (Nat.lt_of_lt_of_le hk h.size) (fun z=>hn (hs k z hk))).trans (h.block k hk hn)⟩
theorem But.then_ {S : List Nat} {w w1 w2 : World} (h : But S w w1) (h' : But S w1 w2) : But S w w2:=h.trans h' (fun _ z _=>z)
theorem But.below {S : List Nat} {w w1 w2 : World} (h : But S w w1) (hb : Bw w1 w2) : But S w w2:=
 ⟨hb.os.trans h.os,hb.tape.trans h.tape,hb.output.trans h.output,Nat.le_trans h.size hb.size,fun k hk hn=>(hb.block k (Nat.lt_of_lt_of_le hk h.size)).trans (h.block k hk hn)⟩
theorem But.set {S : List Nat} {w w1 : World} (h : But S w w1) {b : Nat} (hb : b < w.heap.size -> b ∈ S) (o : Nat) (v : Value) : But S w (w1.setCell ⟨b,o,none⟩ v):=
 ⟨h.os,h.tape,h.output,by rw [World.size_setCell];exact h.size,fun k hk hn=>(Below.heap_setCell _ _ _ _ (by show k ≠ b;rintro rfl;exact hn (hb hk))).trans (h.block k hk hn)⟩
theorem But.alloc {S : List Nat} {w w1 : World} (h : But S w w1) (o : Obj) : But S w (w1.alloc o):=h.below (bel1 _ _)
theorem But.more {S S' : List Nat} {w w1 : World} (h : But S w w1) (hs : ∀ k,k ∈ S -> k ∈ S') : But S' w w1:=⟨h.os,h.tape,h.output,h.size,fun k hk hn=>h.block k hk (fun z=>hn (hs k z))⟩
theorem But.cell {S : List Nat} {w w1 : World} (h : But S w w1) {b o : Nat} {v : Value} (hc : w.cell? ⟨b,o,none⟩ = some v) (hb : b ∉ S) : w1.cell? ⟨b,o,none⟩ = some v:=
 (World.cell?_of_block (h.block b (blt hc) hb)).trans hc
structure TkAt (w : World) (tb o : Nat) (ts : List TK) : Prop where
 c0 : ∀ j,j < ts.length -> w.cell? ⟨tb,o + j * 3,none⟩ = some (.int .i64 (tkA ts j).cls)
 c1 : ∀ j,j < ts.length -> w.cell? ⟨tb,o + j * 3 + 1,none⟩ = some (.string (tkA ts j).txt)
 c2 : ∀ j,j < ts.length -> w.cell? ⟨tb,o + j * 3 + 2,none⟩ = some (.int .i64 ((tkA ts j).loc : Int))
 len : ts.length <= 1000
 sz : ∀ j,j < ts.length -> (tkA ts j).txt.size <= 1000
 gd : ∀ j,j < ts.length -> (tkA ts j).cls = cls (tkA ts j).txt.toList
theorem TkAt.but {S : List Nat} {w w1 : World} {tb o : Nat} {ts : List TK} (h : TkAt w tb o ts) (hb : But S w w1) (hn : tb ∉ S) : TkAt w1 tb o ts:=
 ⟨fun j hj=>hb.cell (h.c0 j hj) hn,fun j hj=>hb.cell (h.c1 j hj) hn,fun j hj=>hb.cell (h.c2 j hj) hn,h.len,h.sz,h.gd⟩
structure PsAt (w : World) (P tb o i : Nat) (ts : List TK) (eT : TypeId) (eV : Value) : Prop where
 box : ∃ ao c,w.rowIs P 81 1 (fun _=>.slice ao (ts.length - i) c) /\ (i < ts.length -> ao = some ⟨tb,o + i * 3,none⟩) /\ ts.length - i <= c
 le : i <= ts.length
 tk : TkAt w tb o ts
 ne : P ≠ tb
 pos : P ≠ 0
 ev : w.cell? ⟨0,0,none⟩ = some (.iface eT eV)
theorem PsAt.but {S : List Nat} {w w1 : World} {P tb o i : Nat} {ts : List TK} {eT : TypeId} {eV : Value} (h : PsAt w P tb o i ts eT eV) (hb : But S w w1) (hP : P ∉ S) (ht : tb ∉ S) (h0 : 0 ∉ S) : PsAt w1 P tb o i ts eT eV:=by
 obtain ⟨ao,c,hr,r⟩:=h.box
 exact ⟨⟨ao,c,hr.of_block (hb.block P hr.lt hP),r⟩,h.le,h.tk.but hb ht,h.ne,h.pos,hb.cell h.ev h0⟩
theorem PsAt.step {w w1 : World} {P tb o i j : Nat} {ts : List TK} {eT : TypeId} {eV : Value} (h : PsAt w P tb o i ts eT eV) (hb : But [P] w w1) (hP : w1.heap[P]? = w.heap[P]?) {ao : Option Addr} {c : Nat} (hj : j <= ts.length) (ha : j < ts.length -> ao = some ⟨tb,o + j * 3,none⟩) (hc : ts.length - j <= c) :
  PsAt (w1.setCell ⟨P,0,none⟩ (.slice ao (ts.length - j) c)) P tb o j ts eT eV:=by
 obtain ⟨ao',c',hr,_⟩:=h.box
 have hr1:=hr.of_block hP
 have hb2 : But [P] w (w1.setCell ⟨P,0,none⟩ (.slice ao (ts.length - j) c)):=hb.set (fun _=>by simp) 0 _
 refine ⟨⟨ao,c,(hr1.set 0 _).congr (fun k hk=>by
  match k,hk with
  | 0,_=>rfl),ha,hc⟩,hj,h.tk.but hb2 (by simp;exact fun e=>h.ne e.symm),h.ne,h.pos,hb2.cell h.ev (by simp;exact fun e=>h.pos e.symm)⟩
def tkV (t : TK) : Value:=.agg #[.int .i64 t.cls,.string t.txt,.int .i64 (t.loc : Int)]
theorem p_next {P tb o i : Nat} {ts : List TK} {eT : TypeId} {eV : Value} (w : World) (h : PsAt w P tb o i ts eT eV) (hi : i < ts.length) :
  Calls Tryz.prog 79 #[.pointer (some ⟨P,0,none⟩)] w fun e w'=>e = .returned (tkV (tkA ts i)) /\ PsAt w' P tb o (i + 1) ts eT eV /\ But [P] w w':=by
 have HP : Hid (PsAt w P tb o i ts eT eV):=h
 obtain ⟨ao,c,hr,ha,hc⟩:=h.box
 have ea:=ha hi
 subst ea
 have t0:=h.tk.c0 i hi
 have t1:=h.tk.c1 i hi
 have t2:=h.tk.c2 i hi
 have hl:=h.tk.len
 obtain ⟨m,hm⟩:=xe (ts.length - i)
 have HM : Hid (m = ts.length - i):=hm
 rw [<- hm] at hr hc
 have hb:=hr.cell (i:=0) (by omega)
 have hf:=hr.frozen 0
 have hm0 : 0 < m:=by omega
 have qm : ((m : Int) == 0) = false:=bn2 (by omega)
 have tb1:=blt t0
 have lP:=hr.lt
 obtain ⟨k0,hk0⟩:=xe ((tkA ts i).cls)
 obtain ⟨k1,hk1⟩:=xe ((tkA ts i).txt)
 obtain ⟨k2,hk2⟩:=xe (((tkA ts i).loc : Int))
 have HV : Hid (tkV (tkA ts i) = .agg #[.int .i64 k0,.string k1,.int .i64 k2]):=by show tkV _ = _;rw [hk0,hk1,hk2];rfl
 rw [<- hk0] at t0
 rw [<- hk1] at t1
 rw [<- hk2] at t2
 have BA:=bel1 w (.cells #[.int .i64 0,.string ⟨#[]⟩,.int .i64 0] 38)
 have a0:=(BA.cell (p:=⟨tb,o + i * 3,none⟩) tb1).trans t0
 have a1:=(BA.cell (p:=⟨tb,o + i * 3 + 1,none⟩) tb1).trans t1
 have a2:=(BA.cell (p:=⟨tb,o + i * 3 + 2,none⟩) tb1).trans t2
 have ab:=(BA.cell (p:=⟨P,0,none⟩) lP).trans hb
 have RB : ((w.alloc (.cells #[.int .i64 0,.string ⟨#[]⟩,.int .i64 0] 38)).alloc (.cells #[.int .i64 k0,.string k1,.int .i64 k2] 38)).rowIs P 81 1 (fun _=>.slice (some ⟨tb,o + i * 3,none⟩) m c):=(hr.alloc _).alloc _
 have bb:=RB.cell (i:=0) (by omega)
 have bf:=RB.frozen 0
 clear h ha hm hk0 hk1 hk2 BA RB hr t0 t1 t2 hb hf
 go_enter Tryz.func79,Tryz.ntmps79
 have EQ : Hid (ts.length - (i + 1) = m - 1):=by show _ = _;rw [HM.out];omega
 have FIN : Hid (∀ (ao : Option Addr) (c' : Nat) (x y : Obj),(i + 1 < ts.length -> ao = some ⟨tb,o + i * 3 + 3,none⟩) -> m - 1 <= c' -> PsAt (((w.setCell ⟨P,0,none⟩ (.slice ao (m - 1) c')).alloc x).alloc y) P tb o (i + 1) ts eT eV /\ But [P] w (((w.setCell ⟨P,0,none⟩ (.slice ao (m - 1) c')).alloc x).alloc y)):=fun ao c' x y h1 h2=>by
  have hs:=HP.out.step (But.refl [P] w) rfl (ao:=ao) (c:=c') (j:=i + 1) (by omega) (fun z=>by rw [h1 z];congr 2;omega) (by rw [EQ.out];exact h2)
  rw [EQ.out] at hs
  have hb1 : But [P] w (w.setCell ⟨P,0,none⟩ (.slice ao (m - 1) c')):=(But.refl [P] w).set (fun _=>by simp) 0 _
  have hb2 : But ([] : List Nat) (w.setCell ⟨P,0,none⟩ (.slice ao (m - 1) c')) (((w.setCell ⟨P,0,none⟩ (.slice ao (m - 1) c')).alloc x).alloc y):=((But.refl [] _).alloc x).alloc y
  exact ⟨hs.but hb2 (by simp) (by simp) (by simp),hb1.trans hb2 (fun _ z=>by simp at z)⟩
 go_wp2
 case inr=>
  exact bodyPost_ret (v:=.agg #[.int .i64 k0,.string k1,.int .i64 k2]) (by simp [results,Tryz.results79,go_sem]) rfl ⟨by rw [HV.out],FIN.out _ _ _ _ (fun _=>rfl) (by omega)⟩
 case inl=>
  exact bodyPost_ret (v:=.agg #[.int .i64 k0,.string k1,.int .i64 k2]) (by simp [results,Tryz.results79,go_sem]) rfl ⟨by rw [HV.out],FIN.out _ _ _ _ (fun z=>by have:=HM.out;omega) (by omega)⟩
theorem p_next_no {P tb o i : Nat} {ts : List TK} {eT : TypeId} {eV : Value} (w : World) (h : PsAt w P tb o i ts eT eV) (hi : ¬ i < ts.length) :
  Calls Tryz.prog 79 #[.pointer (some ⟨P,0,none⟩)] w fun e w'=>e = .panicked [{ v:=.iface eT eV,recovered:=false }] /\ But [P] w w':=by
 obtain ⟨ao,c,hr,ha,hc⟩:=h.box
 have he : ts.length - i = 0:=by omega
 rw [he] at hr
 have RB:=hr.alloc (.cells #[.int .i64 0,.string ⟨#[]⟩,.int .i64 0] 38)
 have bb:=RB.cell (i:=0) (by omega)
 have be:=((bel1 w (.cells #[.int .i64 0,.string ⟨#[]⟩,.int .i64 0] 38)).cell (p:=⟨0,0,none⟩) (blt h.ev)).trans h.ev
 have HB : Hid (But [P] w (w.alloc (.cells #[.int .i64 0,.string ⟨#[]⟩,.int .i64 0] 38))):=(But.refl _ _).alloc _
 clear h ha hc he RB hr
 go_enter Tryz.func79,Tryz.ntmps79
 go_wp2
 exact ⟨rfl,rfl,HB.out⟩
theorem isT_at {ts : List TK} {i : Nat} (hi : i < ts.length) (s : List UInt8) : isT ts i s = ((tkA ts i).txt.data.toList == s):=by
 unfold isT tkA
 rw [List.getD,List.getElem?_eq_getElem hi]
 rfl
theorem isC_at {ts : List TK} {i : Nat} (hi : i < ts.length) (c : Int) : isC ts i c = ((tkA ts i).cls == c):=by
 unfold isC tkA
 rw [List.getD,List.getElem?_eq_getElem hi]
 rfl
theorem tx_at {ts : List TK} {i : Nat} (hi : i < ts.length) : tx ts i = (tkA ts i).txt:=by
 unfold tx tkA
 rw [List.getD,List.getElem?_eq_getElem hi]
 rfl
theorem p_comes {P tb o i : Nat} {ts : List TK} {eT : TypeId} {eV : Value} (s : ByteArray) (w : World) (h : PsAt w P tb o i ts eT eV) (hi : isT ts i s.data.toList = true) :
  Calls Tryz.prog 112 #[.pointer (some ⟨P,0,none⟩),.string s] w fun e w'=>e = .returned (.bool true) /\ PsAt w' P tb o (i + 1) ts eT eV /\ But [P] w w':=by
 have HP : Hid (PsAt w P tb o i ts eT eV):=h
 have hl':=isT_lt hi
 rw [isT_at hl'] at hi
 obtain ⟨ao,c,hr,ha,hc⟩:=h.box
 have ea:=ha hl'
 subst ea
 have t1:=h.tk.c1 i hl'
 have hl:=h.tk.len
 obtain ⟨m,hm⟩:=xe (ts.length - i)
 have HM : Hid (m = ts.length - i):=hm
 rw [<- hm] at hr hc
 have hb:=hr.cell (i:=0) (by omega)
 have hf:=hr.frozen 0
 have hm0 : 0 < m:=by omega
 have qm : ((m : Int) == 0) = false:=bn2 (by omega)
 obtain ⟨k1,hk1⟩:=xe ((tkA ts i).txt)
 rw [<- hk1] at t1 hi
 have qs : (k1.toList == s.toList) = true:=by rw [ByteArray.toList_eq,ByteArray.toList_eq];exact hi
 clear h ha hm hk1 hr hi
 have EQ : Hid (ts.length - (i + 1) = m - 1):=by show _ = _;rw [HM.out];omega
 have FIN : Hid (∀ (ao : Option Addr) (c' : Nat),(i + 1 < ts.length -> ao = some ⟨tb,o + i * 3 + 3,none⟩) -> m - 1 <= c' -> PsAt (w.setCell ⟨P,0,none⟩ (.slice ao (m - 1) c')) P tb o (i + 1) ts eT eV /\ But [P] w (w.setCell ⟨P,0,none⟩ (.slice ao (m - 1) c'))):=fun ao c' h1 h2=>by
  have hs:=HP.out.step (But.refl [P] w) rfl (ao:=ao) (c:=c') (j:=i + 1) (by omega) (fun z=>by rw [h1 z];congr 2;omega) (by rw [EQ.out];exact h2)
  rw [EQ.out] at hs
  exact ⟨hs,(But.refl [P] w).set (fun _=>by simp) 0 _⟩
 go_enter Tryz.func112,Tryz.ntmps112
 go_wp2
 case inr=>
  go_ret
  exact ⟨rfl,FIN.out _ _ (fun _=>rfl) (by omega)⟩
 case inl=>
  go_ret
  exact ⟨rfl,FIN.out _ _ (fun z=>by have:=HM.out;omega) (by omega)⟩
theorem p_comes_no {P tb o i : Nat} {ts : List TK} {eT : TypeId} {eV : Value} (s : ByteArray) (w : World) (h : PsAt w P tb o i ts eT eV) (hi : isT ts i s.data.toList = false) :
  Calls Tryz.prog 112 #[.pointer (some ⟨P,0,none⟩),.string s] w fun e w'=>e = .returned (.bool false) /\ w = w':=by
 obtain ⟨ao,c,hr,ha,hc⟩:=h.box
 by_cases hl' : i < ts.length
 case neg=>
  have he : ts.length - i = 0:=by omega
  rw [he] at hr
  have hb:=hr.cell (i:=0) (by omega)
  clear h ha hc he hr hi
  go_enter Tryz.func112,Tryz.ntmps112
  go_wp2
  go_ret
  exact ⟨rfl,rfl⟩
 rw [isT_at hl'] at hi
 have ea:=ha hl'
 subst ea
 have t1:=h.tk.c1 i hl'
 have hl:=h.tk.len
 obtain ⟨m,hm⟩:=xe (ts.length - i)
 rw [<- hm] at hr hc
 have hb:=hr.cell (i:=0) (by omega)
 have hm0 : 0 < m:=by omega
 have qm : ((m : Int) == 0) = false:=bn2 (by omega)
 obtain ⟨k1,hk1⟩:=xe ((tkA ts i).txt)
 rw [<- hk1] at t1 hi
 have qs : (k1.toList == s.toList) = false:=by rw [ByteArray.toList_eq,ByteArray.toList_eq];exact hi
 clear h ha hm hk1 hr hi
 go_enter Tryz.func112,Tryz.ntmps112
 go_wp2
 go_ret
 exact ⟨rfl,rfl⟩
theorem p_need {P tb o i : Nat} {ts : List TK} {eT : TypeId} {eV : Value} (s : ByteArray) (w : World) (h : PsAt w P tb o i ts eT eV) (hi : isT ts i s.data.toList = true) :
  Calls Tryz.prog 81 #[.pointer (some ⟨P,0,none⟩),.string s] w fun e w'=>e = .returned (.tuple #[]) /\ PsAt w' P tb o (i + 1) ts eT eV /\ But [P] w w':=by
 have HP : Hid (PsAt w P tb o i ts eT eV):=h
 clear h
 go_enter Tryz.func81,Tryz.ntmps81
 go_wp2_with fail
 refine (p_comes s w HP.out hi).mono ?_
 rintro e w1 ⟨rfl,h1⟩
 go_wp2
 go_end0
 exact ⟨rfl,h1⟩
theorem p_need_no {P tb o i : Nat} {ts : List TK} {eT : TypeId} {eV : Value} (s : ByteArray) (w : World) (h : PsAt w P tb o i ts eT eV) (hi : isT ts i s.data.toList = false) :
  Calls Tryz.prog 81 #[.pointer (some ⟨P,0,none⟩),.string s] w fun e w'=>e = .panicked [{ v:=.iface eT eV,recovered:=false }] /\ w = w':=by
 have HP : Hid (PsAt w P tb o i ts eT eV):=h
 have he:=h.ev
 clear h
 go_enter Tryz.func81,Tryz.ntmps81
 go_wp2_with fail
 refine (p_comes_no s w HP.out hi).mono ?_
 rintro e w1 ⟨rfl,rfl⟩
 go_wp2
 exact ⟨rfl,rfl,rfl⟩
theorem p_name {P tb o i : Nat} {ts : List TK} {eT : TypeId} {eV : Value} (w : World) (h : PsAt w P tb o i ts eT eV) (hi : isC ts i 1 = true) :
  Calls Tryz.prog 80 #[.pointer (some ⟨P,0,none⟩)] w fun e w'=>e = .returned (.string (tx ts i)) /\ PsAt w' P tb o (i + 1) ts eT eV /\ But [P] w w':=by
 have HP : Hid (PsAt w P tb o i ts eT eV):=h
 have hl':=isC_lt hi
 rw [isC_at hl'] at hi
 have HTX : Hid (tx ts i = (tkA ts i).txt):=tx_at hl'
 clear h
 go_enter Tryz.func80,Tryz.ntmps80
 go_wp2_with fail
 refine (p_next w HP.out hl').mono ?_
 rintro e w1 ⟨rfl,h1,h2⟩
 unfold tkV
 obtain ⟨k0,hk0⟩:=xe ((tkA ts i).cls)
 obtain ⟨k1,hk1⟩:=xe ((tkA ts i).txt)
 obtain ⟨k2,hk2⟩:=xe (((tkA ts i).loc : Int))
 have HT2 : Hid (tx ts i = k1):=by show _ = _;rw [HTX.out,hk1]
 rw [<- hk0] at hi
 rw [<- hk0,<- hk1,<- hk2]
 have F1 : Hid (PsAt (w1.alloc (.cells #[.int .i64 k0,.string k1,.int .i64 k2] 38)) P tb o (i + 1) ts eT eV):=h1.but ((But.refl ([] : List Nat) w1).alloc _) (by simp) (by simp) (by simp)
 have F2 : Hid (But [P] w (w1.alloc (.cells #[.int .i64 k0,.string k1,.int .i64 k2] 38))):=h2.alloc _
 clear hk0 hk1 hk2 h1 h2
 go_wp2
 go_ret
 exact ⟨by rw [HT2.out];rfl,F1.out,F2.out⟩
theorem p_name_no {P tb o i : Nat} {ts : List TK} {eT : TypeId} {eV : Value} (w : World) (h : PsAt w P tb o i ts eT eV) (hi : isC ts i 1 = false) :
  Calls Tryz.prog 80 #[.pointer (some ⟨P,0,none⟩)] w fun e w'=>e = .panicked [{ v:=.iface eT eV,recovered:=false }] /\ But [P] w w':=by
 have HP : Hid (PsAt w P tb o i ts eT eV):=h
 clear h
 by_cases hl' : i < ts.length
 case neg=>
  clear hi
  go_enter Tryz.func80,Tryz.ntmps80
  go_wp2_with fail
  refine (p_next_no w HP.out hl').mono ?_
  rintro e w1 ⟨rfl,h2⟩
  go_wp2
  exact ⟨rfl,rfl,h2⟩
 rw [isC_at hl'] at hi
 go_enter Tryz.func80,Tryz.ntmps80
 go_wp2_with fail
 refine (p_next w HP.out hl').mono ?_
 rintro e w1 ⟨rfl,h1,h2⟩
 unfold tkV
 obtain ⟨k0,hk0⟩:=xe ((tkA ts i).cls)
 obtain ⟨k1,hk1⟩:=xe ((tkA ts i).txt)
 obtain ⟨k2,hk2⟩:=xe (((tkA ts i).loc : Int))
 rw [<- hk0] at hi
 rw [<- hk0,<- hk1,<- hk2]
 have F1:=(h1.but ((But.refl ([] : List Nat) w1).alloc (.cells #[.int .i64 k0,.string k1,.int .i64 k2] 38)) (by simp) (by simp) (by simp)).ev
 have F2 : Hid (But [P] w (w1.alloc (.cells #[.int .i64 k0,.string k1,.int .i64 k2] 38))):=h2.alloc _
 clear hk0 hk1 hk2 h1 h2
 go_wp2
 exact ⟨rfl,rfl,F2.out⟩
def Out (P tb o : Nat) (ts : List TK) (eT : TypeId) (eV : Value) (S : List Nat) (w : World) (r : Option (Value × Nat)) (e : Ending) (w' : World) : Prop:=
 But S w w' /\ match r with
 | none=>e = .panicked [{ v:=.iface eT eV,recovered:=false }]
 | some (v,j)=>e = .returned v /\ PsAt w' P tb o j ts eT eV
theorem p_path {P tb o i : Nat} {ts : List TK} {eT : TypeId} {eV : Value} (w : World) (h : PsAt w P tb o (i + 1) ts eT eV) :
  Calls Tryz.prog 137 #[.pointer (some ⟨P,0,none⟩),.string (tx ts i)] w (Out P tb o ts eT eV [P] w ((pathP true ts i).map fun r=>(.tuple #[.string r.1,.string r.2.1],r.2.2))):=by
 have HP : Hid (PsAt w P tb o (i + 1) ts eT eV):=h
 clear h
 obtain ⟨x,hx⟩:=xe (tx ts i)
 have HX : Hid (x = tx ts i):=hx
 rw [<- hx]
 clear hx
 cases hc : isT ts (i + 1) sColon
 case false=>
  have HR : Hid (pathP true ts i = some (e0,x,i + 1)):=by show _ = _;unfold pathP;rw [hc,HX.out];rfl
  go_enter Tryz.func137,Tryz.ntmps137
  go_wp2_with fail
  refine (p_comes_no ⟨#[58]⟩ w HP.out hc).mono ?_
  rintro e w1 ⟨rfl,rfl⟩
  clear hc
  go_wp2
  exact bodyPost_ret (v:=.tuple #[.string ⟨#[]⟩,.string x]) (by simp [results,Tryz.results137,go_sem]) rfl (by rw [HR.out];exact ⟨But.refl _ _,rfl,HP.out⟩)
 cases hn : isC ts (i + 2) 1
 case false=>
  have HR : Hid (pathP true ts i = none):=by show _ = _;unfold pathP;rw [hc,hn];rfl
  go_enter Tryz.func137,Tryz.ntmps137
  go_wp2_with fail
  refine (p_comes ⟨#[58]⟩ w HP.out hc).mono ?_
  rintro e w1 ⟨rfl,h1,b1⟩
  go_wp2_with fail
  refine (p_name_no w1 h1 hn).mono ?_
  rintro e w2 ⟨rfl,b2⟩
  clear hc hn
  go_wp2
  rw [HR.out]
  exact ⟨rfl,b1.then_ b2,rfl⟩
 have HR : Hid (pathP true ts i = some (x,tx ts (i + 2),i + 3)):=by show _ = _;unfold pathP;rw [hc,hn,HX.out];rfl
 go_enter Tryz.func137,Tryz.ntmps137
 go_wp2_with fail
 refine (p_comes ⟨#[58]⟩ w HP.out hc).mono ?_
 rintro e w1 ⟨rfl,h1,b1⟩
 go_wp2_with fail
 refine (p_name w1 h1 hn).mono ?_
 rintro e w2 ⟨rfl,h2,b2⟩
 clear hc hn
 go_wp2
 exact bodyPost_ret (v:=.tuple #[.string x,.string (tx ts (i + 2))]) (by simp [results,Tryz.results137,go_sem]) rfl (by rw [HR.out];exact ⟨b1.then_ b2,rfl,h2⟩)
end Go.Proofs.YtcehppndpccldaaGreatDoor
