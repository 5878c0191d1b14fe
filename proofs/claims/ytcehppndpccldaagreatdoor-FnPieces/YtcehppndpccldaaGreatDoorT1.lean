/-
  VaA VaB
-/
import Derived.Test.YtcehppndpccldaaGreatDoorSD
namespace Go.Proofs.YtcehppndpccldaaGreatDoor
structure Fm where
 lev : Nat
 needs : List Nat
 texts : List ByteArray
abbrev Wh:=ByteArray × Nat
def sL : ByteArray:=⟨#[40]⟩
def sR : ByteArray:=⟨#[41]⟩
def brk (need : Nat) (x : Wh) : ByteArray:=if x.2 < need then sL ++ x.1 ++ sR else x.1
def arnd : List Nat -> List ByteArray -> List Wh -> ByteArray
 | n :: ns,t :: ts,p :: ps=>t ++ brk n p ++ arnd ns ts ps
 | _,t :: _,_=>t
 | _,[],_=>e0
def szW (st : List Wh) : Nat:=(st.map fun x=>x.1.size).sum
def stk (F : Nat -> Fm) : Nat -> List Wh
 | 0=>[]
 | k + 1=>(stk F k).take ((stk F k).length - (F k).needs.length) ++ [(arnd (F k).needs (F k).texts ((stk F k).drop ((stk F k).length - (F k).needs.length)),(F k).lev)]
def en (a : Nat -> Nat) : Nat -> List Nat
 | 0=>[]
 | k + 1=>(en a k).take ((en a k).length - a k) ++ [k + 1]
def vld (ar : Nat -> Option Nat) : Nat -> Option Nat
 | 0=>some 0
 | k + 1=>match vld ar k,ar k with
   | some h,some n=>if n <= h then some (h - n + 1) else none
   | _,_=>none
def back (a : Nat -> Nat) : Nat -> Nat -> Nat
 | 0,_=>0
 | i + 1,need=>if need = 0 then i + 1 else back a i (need - 1 + a i)
def pts (a : Nat -> Nat) : Nat -> Nat -> List Nat
 | 0,_=>[]
 | n + 1,at_=>pts a n (back a at_ 1) ++ [at_]
theorem back_zero (a : Nat -> Nat) (i : Nat) : back a i 0 = i:=by cases i <;> simp [back]
theorem back_le (a : Nat -> Nat) : ∀ i need,back a i need <= i
 | 0,_=>nlr _
 | i + 1,need=>by
   rw [back]
   split
   ·exact nlr _
   ·exact Nat.le_trans (back_le a i _) (Nat.le_succ _)
def Vk (a : Nat -> Nat) (k : Nat) : Prop:=∀ j,j < k -> a j <= (en a j).length
theorem Vk.mono {a : Nat -> Nat} {j k : Nat} (h : Vk a k) (hj : j <= k) : Vk a j:=fun i hi=>h i (Nat.lt_of_lt_of_le hi hj)
theorem en_len {a : Nat -> Nat} {k : Nat} (h : a k <= (en a k).length) : (en a (k + 1)).length + a k = (en a k).length + 1:=by
 rw [en,lap,List.length_take]
 simp only [List.length_singleton]
 omega
theorem vld_en {ar : Nat -> Option Nat} {a : Nat -> Nat} : ∀ {k h : Nat},(∀ j n,j < k -> ar j = some n -> a j = n) -> vld ar k = some h -> Vk a k /\ (en a k).length = h /\ ∀ j,j < k -> ar j = some (a j)
 | 0,h,_,e=>by
   cases e
   exact ⟨fun j hj=>absurd hj (Nat.not_lt_zero _),rfl,fun j hj=>absurd hj (Nat.not_lt_zero _)⟩
 | k + 1,h,ha,e=>by
   rw [vld] at e
   cases e1 : vld ar k with
   | none=>rw [e1] at e;cases e
   | some h0=>
     cases e2 : ar k with
     | none=>rw [e1,e2] at e;cases e
     | some n=>
       rw [e1,e2] at e
       dsimp only at e
       split at e
       case isTrue hn=>
        cases e
        obtain ⟨h1,h2,h3⟩:=vld_en (fun j n hj=>ha j n (Nat.lt_succ_of_lt hj)) e1
        have an:=ha k n (Nat.lt_succ_self _) e2
        have hk : a k <= (en a k).length:=by omega
        refine ⟨fun j hj=>?_,by have:=en_len hk;omega,fun j hj=>?_⟩
        ·by_cases z : j = k
         ·rw [z];exact hk
         ·exact h1 j (by omega)
        ·by_cases z : j = k
         ·rw [z,e2,an]
         ·exact h3 j (by omega)
       case isFalse=>cases e
theorem en_last (a : Nat -> Nat) (k : Nat) : (en a (k + 1))[(en a (k + 1)).length - 1]? = some (k + 1):=by
 rw [en,lap]
 simp
def pos (es : List Nat) (m : Nat) : Nat:=if es.length <= m then 0 else es.getD (es.length - m - 1) 0
theorem pos_zero (a : Nat -> Nat) (k : Nat) : pos (en a k) 0 = k:=by
 cases k with
 | zero=>rfl
 | succ k=>
   have hl : 0 < (en a (k + 1)).length:=by rw [en,lap];simp
   unfold pos
   rw [if_neg (by omega),Nat.sub_zero,List.getD_eq_getElem?_getD,en_last]
   rfl
theorem back_en {a : Nat -> Nat} : ∀ (k m r : Nat),Vk a k -> m <= (en a k).length -> back a k (m + r) = back a (pos (en a k) m) r
 | k,0,r,_,_=>by rw [pos_zero,Nat.zero_add]
 | 0,m + 1,r,_,hm=>absurd hm (by simp [en])
 | k + 1,m + 1,r,hv,hm=>by
   have hk:=hv k (Nat.lt_succ_self _)
   have hl:=en_len hk
   rw [back,if_neg (by omega),show m + 1 + r - 1 + a k = m + a k + r by omega,back_en k (m + a k) r (hv.mono (Nat.le_succ _)) (by omega)]
   congr 1
   unfold pos
   by_cases z : (en a k).length <= m + a k
   ·rw [if_pos z,if_pos (by omega)]
   ·rw [if_neg z,if_neg (by omega)]
    rw [List.getD_eq_getElem?_getD,List.getD_eq_getElem?_getD]
    congr 1
    rw [show (en a (k + 1)).length - (m + 1) - 1 = (en a k).length - (m + a k) - 1 by omega]
    conv=>rhs;rw [en]
    rw [List.getElem?_append_left (by rw [List.length_take];omega),List.getElem?_take,if_pos (by omega)]
theorem en_pre {a : Nat -> Nat} : ∀ {k : Nat},Vk a k -> ∀ {j e : Nat},(en a k)[j]? = some e -> en a e = (en a k).take (j + 1) /\ 0 < e /\ e <= k
 | 0,_,j,e,h=>by simp [en] at h
 | k + 1,hv,j,e,h=>by
   have hk:=hv k (Nat.lt_succ_self _)
   have hl:=en_len hk
   have hj : j < (en a (k + 1)).length:=by
    obtain ⟨hj,_⟩:=List.getElem?_eq_some_iff.1 h
    exact hj
   by_cases z : j = (en a (k + 1)).length - 1
   ·rw [z,en_last] at h
    cases h
    exact ⟨by rw [List.take_of_length_le (by omega)],Nat.succ_pos _,nlr _⟩
   ·have h2 : (en a k)[j]? = some e:=by
     rw [en,List.getElem?_append_left (by rw [List.length_take];omega),List.getElem?_take,if_pos (by omega)] at h
     exact h
    obtain ⟨p1,p2,p3⟩:=en_pre (hv.mono (Nat.le_succ _)) h2
    refine ⟨?_,p2,by omega⟩
    rw [p1]
    conv=>rhs;rw [en]
    rw [List.take_append_of_le_length (by rw [List.length_take];omega),List.take_take,Nat.min_eq_left (by omega)]
theorem pts_en {a : Nat -> Nat} : ∀ (n k : Nat),Vk a k -> n <= (en a k).length -> pts a n k = (en a k).drop ((en a k).length - n)
 | 0,k,_,_=>by rw [pts,Nat.sub_zero,List.drop_length]
 | n + 1,k,hv,hn=>by
   have hk : ∃ k',k = k' + 1:=by
    cases k with
    | zero=>simp [en] at hn
    | succ k'=>exact ⟨k',rfl⟩
   obtain ⟨k',rfl⟩:=hk
   have lst:=en_last a k'
   obtain ⟨es,hes⟩:=xe (en a (k' + 1))
   have hb : back a (k' + 1) 1 = pos es 1:=by
    have:=back_en (a:=a) (k' + 1) 1 0 hv (by omega)
    rw [back_zero] at this
    rw [hes];exact this
   rw [<- hes] at hn lst ⊢
   have hlast : es.drop (es.length - 1) = [k' + 1]:=by
    rw [List.drop_eq_getElem_cons (by omega),List.drop_of_length_le (by omega)]
    obtain ⟨h1,h2⟩:=List.getElem?_eq_some_iff.1 lst
    rw [h2]
   have hsplit : es.drop (es.length - (n + 1)) = (es.take (es.length - 1)).drop (es.length - (n + 1)) ++ [k' + 1]:=by
    have e : es.take (es.length - 1) ++ [k' + 1] = es:=by rw [<- hlast,List.take_append_drop]
    have d:=List.drop_append_of_le_length (l₁:=es.take (es.length - 1)) (l₂:=[k' + 1]) (i:=es.length - (n + 1)) (by rw [List.length_take];omega)
    rw [e] at d
    exact d
   rw [pts,hsplit,hb]
   congr 1
   by_cases h1 : es.length <= 1
   ·have hn0 : n = 0:=by omega
    subst hn0
    rw [pts,List.drop_of_length_le (by rw [List.length_take];omega)]
   ·have hp : es[es.length - 2]? = some (pos es 1):=by
     unfold pos
     rw [if_neg (by omega),List.getD_eq_getElem?_getD,show es.length - 1 - 1 = es.length - 2 by omega,List.getElem?_eq_getElem (by omega)]
     rfl
    have pre:=en_pre hv (by rw [<- hes];exact hp)
    rw [<- hes,show es.length - 2 + 1 = es.length - 1 by omega] at pre
    rw [pts_en n (pos es 1) (hv.mono pre.2.2) (by rw [pre.1,List.length_take];omega),pre.1,List.length_take,Nat.min_eq_left (by omega)]
    congr 1
    omega
theorem stk_len (F : Nat -> Fm) : ∀ k,(stk F k).length = (en (fun i=>(F i).needs.length) k).length
 | 0=>rfl
 | k + 1=>by rw [stk,en,lap,lap,List.length_take,List.length_take,stk_len F k];rfl
def pw (F : Nat -> Fm) : Nat -> Wh
 | 0=>(e0,0)
 | k + 1=>(arnd (F k).needs (F k).texts ((stk F k).drop ((stk F k).length - (F k).needs.length)),(F k).lev)
theorem stk_en (F : Nat -> Fm) : ∀ k,stk F k = (en (fun i=>(F i).needs.length) k).map (pw F)
 | 0=>rfl
 | k + 1=>by
   rw [stk,en,List.map_append,List.map_take,<- stk_en F k,<- stk_len F k]
   rfl
theorem pw_eq {F : Nat -> Fm} {k : Nat} (hv : Vk (fun i=>(F i).needs.length) (k + 1)) : pw F (k + 1) = (arnd (F k).needs (F k).texts ((pts (fun i=>(F i).needs.length) (F k).needs.length k).map (pw F)),(F k).lev):=by
 rw [pw,pts_en _ _ (hv.mono (Nat.le_succ _)) (hv k (Nat.lt_succ_self _)),List.map_drop,<- stk_en,stk_len]
theorem szW_app (x y : List Wh) : szW (x ++ y) = szW x + szW y:=by unfold szW;rw [List.map_append,List.sum_append]
theorem szW_one (x : Wh) : szW [x] = x.1.size:=by simp [szW]
theorem szW_take (x : List Wh) (n : Nat) : szW (x.take n) + szW (x.drop n) = szW x:=by rw [<- szW_app,List.take_append_drop]
theorem brk_ge (n : Nat) (x : Wh) : x.1.size <= (brk n x).size /\ (brk n x).size <= x.1.size + 2:=by
 unfold brk
 split
 ·rw [bsa,bsa]
  have h1 : sL.size = 1:=rfl
  have h2 : sR.size = 1:=rfl
  omega
 ·omega
def ltF (ts : List ByteArray) : Nat:=(ts.map ByteArray.size).sum
theorem arnd_ge : ∀ (ns : List Nat) (ts : List ByteArray) (ps : List Wh),ts.length = ns.length + 1 -> ps.length = ns.length -> szW ps + ltF ts <= (arnd ns ts ps).size /\ (arnd ns ts ps).size <= szW ps + ltF ts + 2 * ns.length
 | [],t :: ts,ps,h1,h2=>by
   have e1 : ts = []:=List.length_eq_zero_iff.1 (by simpa using h1)
   have e2 : ps = []:=List.length_eq_zero_iff.1 (by simpa using h2)
   subst e1 e2
   simp [arnd,szW,ltF]
 | n :: ns,t :: ts,p :: ps,h1,h2=>by
   have ih:=arnd_ge ns ts ps (by simpa using h1) (by simpa using h2)
   have hb:=brk_ge n p
   rw [arnd,bsa,bsa]
   have e1 : szW (p :: ps) = p.1.size + szW ps:=by simp [szW]
   have e2 : ltF (t :: ts) = t.size + ltF ts:=by simp [ltF]
   rw [e1,e2,List.length_cons]
   omega
 | [],[],_,h1,_=>by simp at h1
 | _ :: _,[],_,h1,_=>by simp at h1
 | _ :: _,_ :: _,[],_,h2=>by simp at h2
structure FOk (f : Fm) : Prop where
 texts : f.texts.length = f.needs.length + 1
theorem stk_step {F : Nat -> Fm} {k : Nat} (hF : FOk (F k)) (hn : (F k).needs.length <= (stk F k).length) : szW (stk F k) + ltF (F k).texts <= szW (stk F (k + 1)) /\ szW (stk F (k + 1)) <= szW (stk F k) + ltF (F k).texts + 2 * (F k).needs.length:=by
 have h1:=arnd_ge (F k).needs (F k).texts ((stk F k).drop ((stk F k).length - (F k).needs.length)) hF.texts (by rw [List.length_drop];omega)
 have h2:=szW_take (stk F k) ((stk F k).length - (F k).needs.length)
 rw [stk,szW_app,szW_one]
 show _ /\ _ + (arnd _ _ _).size <= _
 have : szW (stk F k) + ltF (F k).texts <= szW ((stk F k).take ((stk F k).length - (F k).needs.length)) + (arnd (F k).needs (F k).texts ((stk F k).drop ((stk F k).length - (F k).needs.length))).size:=by omega
 exact ⟨this,by omega⟩
def xInt : ByteArray:=⟨#[105,110,116]⟩
def xBool : ByteArray:=⟨#[98,111,111,108]⟩
def xAny : ByteArray:=⟨#[63]⟩
def xArr : ByteArray:=⟨#[32,45,62,32]⟩
def xColon : ByteArray:=⟨#[58]⟩
def xCs : ByteArray:=⟨#[58,32]⟩
def xEs : ByteArray:=⟨#[32,61,32]⟩
def xCm : ByteArray:=⟨#[44,32]⟩
def xO : ByteArray:=⟨#[123]⟩
def xC : ByteArray:=⟨#[125]⟩
def xOC : ByteArray:=⟨#[123,125]⟩
def xTrue : ByteArray:=⟨#[116,114,117,101]⟩
def xFalse : ByteArray:=⟨#[102,97,108,115,101]⟩
def xDot : ByteArray:=⟨#[46]⟩
def xFun : ByteArray:=⟨#[102,117,110,40]⟩
def xFn2 : ByteArray:=⟨#[41,32]⟩
def xIf : ByteArray:=⟨#[105,102,32]⟩
def xThen : ByteArray:=⟨#[32,116,104,101,110,32]⟩
def xElse : ByteArray:=⟨#[32,101,108,115,101,32]⟩
def xAdd : ByteArray:=⟨#[32,43,32]⟩
def xLess : ByteArray:=⟨#[32,60,32]⟩
def xImp : ByteArray:=⟨#[105,109,112,111,114,116,32]⟩
def xTyp : ByteArray:=⟨#[116,121,112,101,32]⟩
def xVal : ByteArray:=⟨#[118,97,108,32]⟩
def xEnd : ByteArray:=⟨#[59,10]⟩
def digits10 : ByteArray:=⟨#[48,49,50,51,52,53,54,55,56,57]⟩
def digs (n : Nat) : ByteArray:=if n < 10 then digits10.extract n (n + 1) else digs (n / 10) ++ digits10.extract (n % 10) (n % 10 + 1)
termination_by n
decreasing_by omega
theorem dig_one (d : Nat) (h : d < 10) : (digits10.extract d (d + 1)).size = 1:=by
 have : digits10.size = 10:=rfl
 rw [ByteArray.size_extract];omega
theorem digs_size : ∀ (k n : Nat),n < 10 ^ k -> 1 <= k -> (digs n).size <= k:=by
 intro k
 induction k with
 | zero=>intro n _ h;omega
 | succ k ih=>
   intro n hn _
   rw [digs]
   split
   ·rename_i h;rw [dig_one n h];omega
   ·rename_i h
    rw [bsa,dig_one _ (Nat.mod_lt _ (by omega))]
    have hk : 1 <= k:=by
     rcases Nat.eq_zero_or_pos k with rfl | h
     ·simp at hn;omega
     ·exact h
    have:=ih (n / 10) (by rw [Nat.pow_succ] at hn;omega) hk
    omega
def shN (n : Nat) : ByteArray:=digs n
def pth (md nm : ByteArray) : ByteArray:=if md.size = 0 then nm else md ++ xColon ++ nm
def gPth (md nm : ByteArray) : Bool:=gn nm && (decide (md.size = 0) || gn md)
def nmOk (ns : List ByteArray) : Bool:=(List.range ns.length).all fun i=>gn (ns.getD i e0) && !hasN (ns.take i) (ns.getD i e0)
def brT (sign : ByteArray) : ByteArray -> List ByteArray -> List ByteArray
 | _,[]=>[xC]
 | ah,n :: ns=>(ah ++ n ++ sign) :: brT sign xCm ns
def brc (ns : List ByteArray) (sign : ByteArray) (lev : Nat) : Fm:=if ns.length = 0 then ⟨lev,[],[xOC]⟩ else ⟨lev,List.replicate ns.length 0,brT sign xO ns⟩
def fT (t : TI) : Option Fm:=
 if t.op = 4 then (if gPth t.md t.nm && decide (t.ns.length = 0) then some ⟨1,[],[pth t.md t.nm]⟩ else none)
 else if t.md.size = 0 /\ t.nm.size = 0 then
  if t.op = 5 then (if nmOk t.ns then some (brc t.ns xCs 1) else none)
  else if t.ns.length = 0 then
   if t.op = 1 then some ⟨1,[],[xInt]⟩
   else if t.op = 2 then some ⟨1,[],[xBool]⟩
   else if t.op = 3 then some ⟨1,[],[xAny]⟩
   else if t.op = 6 then some ⟨0,[1,0],[e0,xArr,e0]⟩
   else none
  else none
 else none
def fm0 : Fm:=⟨0,[],[e0]⟩
def FT (ts : List TI) (i : Nat) : Fm:=((ts[i]?).bind fT).getD fm0
def aT (ts : List TI) (i : Nat) : Option Nat:=((ts[i]?).bind fT).map fun f=>f.needs.length
def okT (ts : List TI) : Bool:=vld (aT ts) ts.length == some 1
def prT (ts : List TI) : ByteArray:=(pw (FT ts) ts.length).1
def fE (e : EI) : Option Fm:=
 if e.op = 3 then (if gPth e.md e.nm && decide (e.num = 0) && decide (e.ns.length = 0) && decide (e.ty.length = 0) then some ⟨4,[],[pth e.md e.nm]⟩ else none)
 else if e.md.size = 0 then
  if e.op = 6 then (if gn e.nm && okT e.ty && decide (e.num = 0) && decide (e.ns.length = 0) then some ⟨0,[0],[xFun ++ e.nm ++ xCs ++ prT e.ty ++ xFn2,e0]⟩ else none)
  else if e.ty.length = 0 then
   if e.op = 5 then (if gn e.nm && decide (e.num = 0) && decide (e.ns.length = 0) then some ⟨3,[3],[e0,xDot ++ e.nm]⟩ else none)
   else if e.nm.size = 0 then
    if e.op = 4 then (if decide (e.num = 0) && nmOk e.ns then some (brc e.ns xEs 4) else none)
    else if e.ns.length = 0 then
     if e.op = 1 then (if 0 <= e.num /\ e.num <= 999999999 then some ⟨4,[],[shN e.num.toNat]⟩ else none)
     else if e.op = 2 then (if e.num = 0 then some ⟨4,[],[xFalse]⟩ else if e.num = 1 then some ⟨4,[],[xTrue]⟩ else none)
     else if e.num = 0 then
      if e.op = 7 then some ⟨3,[3,0],[e0,sL,sR]⟩
      else if e.op = 8 then some ⟨0,[0,0,0],[xIf,xThen,xElse,e0]⟩
      else if e.op = 9 then some ⟨2,[2,3],[e0,xAdd,e0]⟩
      else if e.op = 10 then some ⟨1,[2,2],[e0,xLess,e0]⟩
      else none
     else none
    else none
   else none
  else none
 else none
def FE (es : List EI) (i : Nat) : Fm:=((es[i]?).bind fE).getD fm0
def aE (es : List EI) (i : Nat) : Option Nat:=((es[i]?).bind fE).map fun f=>f.needs.length
def okE (es : List EI) : Bool:=vld (aE es) es.length == some 1
def prE (es : List EI) : ByteArray:=(pw (FE es) es.length).1
def okD (d : DC) : Bool:=gn d.nm && (
 if d.kind = 1 then decide (d.ty.length = 0) && decide (d.ex.length = 0)
 else if d.kind = 2 then okT d.ty && decide (d.ex.length = 0)
 else decide (d.kind = 3) && okT d.ty && okE d.ex)
def prD (d : DC) : ByteArray:=
 if d.kind = 1 then xImp ++ d.nm ++ xEnd
 else if d.kind = 2 then xTyp ++ d.nm ++ xEs ++ prT d.ty ++ xEnd
 else xVal ++ d.nm ++ xCs ++ prT d.ty ++ xEs ++ prE d.ex ++ xEnd
def prDs : List DC -> ByteArray
 | []=>e0
 | d :: ds=>prD d ++ prDs ds
def okM (ds : List DC) : Bool:=ds.all okD && decide ((prDs ds).size <= 1000)
def prM (ds : List DC) : ByteArray:=if okM ds then prDs ds else e0
theorem brT_len (sign : ByteArray) : ∀ (ah : ByteArray) (ns : List ByteArray),(brT sign ah ns).length = ns.length + 1
 | _,[]=>rfl
 | _,_ :: ns=>by rw [brT,List.length_cons,brT_len sign _ ns,List.length_cons]
theorem brc_ok (ns : List ByteArray) (sign : ByteArray) (lev : Nat) : FOk (brc ns sign lev) /\ (brc ns sign lev).needs.length = ns.length /\ (brc ns sign lev).lev = lev:=by
 unfold brc
 split
 case isTrue h=>exact ⟨⟨rfl⟩,h.symm,rfl⟩
 case isFalse h=>exact ⟨⟨by rw [brT_len,List.length_replicate]⟩,List.length_replicate,rfl⟩
theorem fT_ok {t : TI} {f : Fm} (h : fT t = some f) : FOk f:=by
 unfold fT at h
 repeat' split at h
 all_goals first | (cases h;exact ⟨rfl⟩) | (cases h;exact (brc_ok _ _ _).1) | cases h
theorem if_some {c : Prop} [Decidable c] {x y : Option Fm} {f : Fm} {P : Prop} (h : (if c then x else y) = some f) (h1 : x = some f -> P) (h2 : y = some f -> P) : P:=by
 split at h
 ·exact h1 h
 ·exact h2 h
theorem none_some {f : Fm} {P : Prop} (h : (none : Option Fm) = some f) : P:=by cases h
theorem some_ok {f g : Fm} (hg : FOk g) (h : some g = some f) : FOk f:=by cases h;exact hg
theorem fE_ok {t : EI} {f : Fm} (h : fE t = some f) : FOk f:=by
 unfold fE at h
 refine if_some h (fun h=>if_some h (some_ok ⟨rfl⟩) none_some) fun h=>?_
 refine if_some h (fun h=>?_) none_some
 refine if_some h (fun h=>if_some h (some_ok ⟨rfl⟩) none_some) fun h=>?_
 refine if_some h (fun h=>?_) none_some
 refine if_some h (fun h=>if_some h (some_ok ⟨rfl⟩) none_some) fun h=>?_
 refine if_some h (fun h=>?_) none_some
 refine if_some h (fun h=>if_some h (some_ok (brc_ok _ _ _).1) none_some) fun h=>?_
 refine if_some h (fun h=>?_) none_some
 refine if_some h (fun h=>if_some h (some_ok ⟨rfl⟩) none_some) fun h=>?_
 refine if_some h (fun h=>if_some h (some_ok ⟨rfl⟩) (fun h=>if_some h (some_ok ⟨rfl⟩) none_some)) fun h=>?_
 refine if_some h (fun h=>?_) none_some
 refine if_some h (some_ok ⟨rfl⟩) fun h=>?_
 refine if_some h (some_ok ⟨rfl⟩) fun h=>?_
 refine if_some h (some_ok ⟨rfl⟩) fun h=>?_
 exact if_some h (some_ok ⟨rfl⟩) none_some
theorem aT_F {ts : List TI} {i n : Nat} (h : aT ts i = some n) : (FT ts i).needs.length = n:=by
 unfold aT at h
 unfold FT
 cases e : (ts[i]?).bind fT with
 | none=>rw [e] at h;cases h
 | some f=>rw [e] at h;exact Option.some.inj h
theorem aE_F {ts : List EI} {i n : Nat} (h : aE ts i = some n) : (FE ts i).needs.length = n:=by
 unfold aE at h
 unfold FE
 cases e : (ts[i]?).bind fE with
 | none=>rw [e] at h;cases h
 | some f=>rw [e] at h;exact Option.some.inj h
end Go.Proofs.YtcehppndpccldaaGreatDoor
