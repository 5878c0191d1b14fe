/-
  VaA VaB
-/
import Derived.Test.YtihedobejcaapaaGreatDoorA1
namespace Go.Proofs.YtihedobejcaapaaGreatDoor
structure Fm where
 lev : Nat
 needs : List Nat
 texts : List ByteArray
abbrev Wh:=ByteArray × Nat
def sL : ByteArray:=⟨#[40]⟩
def sR : ByteArray:=⟨#[41]⟩
def brk (need : Nat) (x : Wh) : ByteArray:=if x.2 < need then sL ++ x.1 ++ sR else x.1
def aC : List Nat -> List ByteArray -> List Wh -> ByteArray
 | n :: ns,t :: ts,p :: ps=>t ++ brk n p ++ aC ns ts ps
 | _,t :: _,_=>t
 | _,[],_=>e0
def szW (st : List Wh) : Nat:=(st.map fun x=>x.1.size).sum
def bk (F : Nat -> Fm) : Nat -> List Wh
 | 0=>[]
 | k + 1=>(bk F k).take ((bk F k).length - (F k).needs.length) ++ [(aC (F k).needs (F k).texts ((bk F k).drop ((bk F k).length - (F k).needs.length)),(F k).lev)]
def en (a : Nat -> Nat) : Nat -> List Nat
 | 0=>[]
 | k + 1=>(en a k).take ((en a k).length - a k) ++ [k + 1]
def bN (ar : Nat -> Option Nat) : Nat -> Option Nat
 | 0=>some 0
 | k + 1=>match bN ar k,ar k with
   | some h,some n=>if n <= h then some (h - n + 1) else none
   | _,_=>none
def cl (a : Nat -> Nat) : Nat -> Nat -> Nat
 | 0,_=>0
 | i + 1,need=>if need = 0 then i + 1 else cl a i (need - 1 + a i)
def cC (a : Nat -> Nat) : Nat -> Nat -> List Nat
 | 0,_=>[]
 | n + 1,at_=>cC a n (cl a at_ 1) ++ [at_]
theorem jo (a : Nat -> Nat) (i : Nat) : cl a i 0 = i:=by cases i <;> simp [cl]
theorem mY (a : Nat -> Nat) : ∀ i need,cl a i need <= i
 | 0,_=>nlr _
 | i + 1,need=>by
   rw [cl]
   split
   ·exact nlr _
   ·exact Nat.le_trans (mY a i _) (Nat.le_succ _)
def Vk (a : Nat -> Nat) (k : Nat) : Prop:=∀ j,j < k -> a j <= (en a j).length
theorem Vk.mono {a : Nat -> Nat} {j k : Nat} (h : Vk a k) (hj : j <= k) : Vk a j:=fun i hi=>h i (Nat.lt_of_lt_of_le hi hj)
theorem pX {a : Nat -> Nat} {k : Nat} (h : a k <= (en a k).length) : (en a (k + 1)).length + a k = (en a k).length + 1:=by
 rw [en,lap,List.length_take];simp only [List.length_singleton];omega
theorem gF {ar : Nat -> Option Nat} {a : Nat -> Nat} : ∀ {k h : Nat},(∀ j n,j < k -> ar j = some n -> a j = n) -> bN ar k = some h -> Vk a k /\ (en a k).length = h /\ ∀ j,j < k -> ar j = some (a j)
 | 0,h,_,e=>by
   cases e;exact ⟨fun j hj=>absurd hj (Nat.not_lt_zero _),rfl,fun j hj=>absurd hj (Nat.not_lt_zero _)⟩
 | k + 1,h,ha,e=>by
   rw [bN] at e
   cases e1 : bN ar k with
   | none=>rw [e1] at e;cases e
   | some h0=>
     cases e2 : ar k with
     | none=>rw [e1,e2] at e;cases e
     | some n=>
       rw [e1,e2] at e
       dsimp only at e
       split at e
       case isTrue hn=>
        cases e;obtain ⟨h1,h2,h3⟩:=gF (fun j n hj=>ha j n (Nat.lt_succ_of_lt hj)) e1;have an:=ha k n (Nat.lt_succ_self _) e2;have hk : a k <= (en a k).length:=by omega
        refine ⟨fun j hj=>?_,by have:=pX hk;omega,fun j hj=>?_⟩
        ·by_cases z : j = k
         ·rw [z];exact hk
         ·exact h1 j (by omega)
        ·by_cases z : j = k
         ·rw [z,e2,an]
         ·exact h3 j (by omega)
       case isFalse=>cases e
theorem mN (a : Nat -> Nat) (k : Nat) : (en a (k + 1))[(en a (k + 1)).length - 1]? = some (k + 1):=by
 rw [en,lap];simp
def pos (es : List Nat) (m : Nat) : Nat:=if es.length <= m then 0 else es.getD (es.length - m - 1) 0
theorem t8 (a : Nat -> Nat) (k : Nat) : pos (en a k) 0 = k:=by
 cases k with
 | zero=>rfl
 | succ k=>
   have b : 0 < (en a (k + 1)).length:=by rw [en,lap];simp
   unfold pos;rw [if_neg (by omega),Nat.sub_zero,List.getD_eq_getElem?_getD,mN];rfl
theorem ro {a : Nat -> Nat} : ∀ (k m r : Nat),Vk a k -> m <= (en a k).length -> cl a k (m + r) = cl a (pos (en a k) m) r
 | k,0,r,_,_=>by rw [t8,Nat.zero_add]
 | 0,m + 1,r,_,hm=>absurd hm (by simp [en])
 | k + 1,m + 1,r,hv,hm=>by
   have hk:=hv k (Nat.lt_succ_self _);have hl:=pX hk;rw [cl,if_neg (by omega),show m + 1 + r - 1 + a k = m + a k + r by omega,ro k (m + a k) r (hv.mono (Nat.le_succ _)) (by omega)];congr 1;unfold pos;by_cases z : (en a k).length <= m + a k
   ·rw [if_pos z,if_pos (by omega)]
   ·rw [if_neg z,if_neg (by omega)]
    rw [List.getD_eq_getElem?_getD,List.getD_eq_getElem?_getD];congr 1;rw [show (en a (k + 1)).length - (m + 1) - 1 = (en a k).length - (m + a k) - 1 by omega]
    conv=>rhs;rw [en]
    rw [List.getElem?_append_left (by rw [List.length_take];omega),List.getElem?_take,if_pos (by omega)]
theorem qx {a : Nat -> Nat} : ∀ {k : Nat},Vk a k -> ∀ {j e : Nat},(en a k)[j]? = some e -> en a e = (en a k).take (j + 1) /\ 0 < e /\ e <= k
 | 0,_,j,e,h=>by simp [en] at h
 | k + 1,hv,j,e,h=>by
   have hk:=hv k (Nat.lt_succ_self _);have hl:=pX hk
   have hj : j < (en a (k + 1)).length:=by
    obtain ⟨hj,_⟩:=List.getElem?_eq_some_iff.1 h;exact hj
   by_cases z : j = (en a (k + 1)).length - 1
   ·rw [z,mN] at h
    cases h;exact ⟨by rw [List.take_of_length_le (by omega)],Nat.succ_pos _,nlr _⟩
   ·have b : (en a k)[j]? = some e:=by
     rw [en,List.getElem?_append_left (by rw [List.length_take];omega),List.getElem?_take,if_pos (by omega)] at h;exact h
    obtain ⟨c,d,f⟩:=qx (hv.mono (Nat.le_succ _)) b;refine ⟨?_,d,by omega⟩;rw [c]
    conv=>rhs;rw [en]
    rw [List.take_append_of_le_length (by rw [List.length_take];omega),List.take_take,Nat.min_eq_left (by omega)]
theorem qv {a : Nat -> Nat} : ∀ (n k : Nat),Vk a k -> n <= (en a k).length -> cC a n k = (en a k).drop ((en a k).length - n)
 | 0,k,_,_=>by rw [cC,Nat.sub_zero,List.drop_length]
 | n + 1,k,hv,hn=>by
   have hk : ∃ k',k = k' + 1:=by
    cases k with
    | zero=>simp [en] at hn
    | succ k'=>exact ⟨k',rfl⟩
   obtain ⟨k',rfl⟩:=hk;have j:=mN a k';obtain ⟨b,f⟩:=xe (en a (k' + 1))
   have p : cl a (k' + 1) 1 = pos b 1:=by
    have:=ro (a:=a) (k' + 1) 1 0 hv (by omega);rw [jo] at this;rw [f];exact this
   rw [<- f] at hn j ⊢
   have h : b.drop (b.length - 1) = [k' + 1]:=by
    rw [List.drop_eq_getElem_cons (by omega),List.drop_of_length_le (by omega)];obtain ⟨m,o⟩:=List.getElem?_eq_some_iff.1 j;rw [o]
   have c : b.drop (b.length - (n + 1)) = (b.take (b.length - 1)).drop (b.length - (n + 1)) ++ [k' + 1]:=by
    have e : b.take (b.length - 1) ++ [k' + 1] = b:=by rw [<- h,List.take_append_drop]
    have d:=List.drop_append_of_le_length (l₁:=b.take (b.length - 1)) (l₂:=[k' + 1]) (i:=b.length - (n + 1)) (by rw [List.length_take];omega);rw [e] at d;exact d
   rw [cC,c,p];congr 1;by_cases m : b.length <= 1
   ·have l : n = 0:=by omega
    subst l;rw [cC,List.drop_of_length_le (by rw [List.length_take];omega)]
   ·have q : b[b.length - 2]? = some (pos b 1):=by
     unfold pos;rw [if_neg (by omega),List.getD_eq_getElem?_getD,show b.length - 1 - 1 = b.length - 2 by omega,List.getElem?_eq_getElem (by omega)];rfl
    have g:=qx hv (by rw [<- f];exact q);rw [<- f,show b.length - 2 + 1 = b.length - 1 by omega] at g;rw [qv n (pos b 1) (hv.mono g.2.2) (by rw [g.1,List.length_take];omega),g.1,List.length_take,Nat.min_eq_left (by omega)];congr 1;omega
theorem eD (F : Nat -> Fm) : ∀ k,(bk F k).length = (en (fun i=>(F i).needs.length) k).length
 | 0=>rfl
 | k + 1=>by rw [bk,en,lap,lap,List.length_take,List.length_take,eD F k];rfl
def pw (F : Nat -> Fm) : Nat -> Wh
 | 0=>(e0,0)
 | k + 1=>(aC (F k).needs (F k).texts ((bk F k).drop ((bk F k).length - (F k).needs.length)),(F k).lev)
theorem wI (F : Nat -> Fm) : ∀ k,bk F k = (en (fun i=>(F i).needs.length) k).map (pw F)
 | 0=>rfl
 | k + 1=>by
   rw [bk,en,List.map_append,List.map_take,<- wI F k,<- eD F k];rfl
theorem zo {F : Nat -> Fm} {k : Nat} (hv : Vk (fun i=>(F i).needs.length) (k + 1)) : pw F (k + 1) = (aC (F k).needs (F k).texts ((cC (fun i=>(F i).needs.length) (F k).needs.length k).map (pw F)),(F k).lev):=by
 rw [pw,qv _ _ (hv.mono (Nat.le_succ _)) (hv k (Nat.lt_succ_self _)),List.map_drop,<- wI,eD]
theorem gW (x y : List Wh) : szW (x ++ y) = szW x + szW y:=by unfold szW;rw [List.map_append,List.sum_append]
theorem dQ (x : Wh) : szW [x] = x.1.size:=by simp [szW]
theorem dX (x : List Wh) (n : Nat) : szW (x.take n) + szW (x.drop n) = szW x:=by rw [<- gW,List.take_append_drop]
theorem dD (n : Nat) (x : Wh) : x.1.size <= (brk n x).size /\ (brk n x).size <= x.1.size + 2:=by
 unfold brk
 split
 ·rw [bsa,bsa]
  have b : sL.size = 1:=rfl;have a : sR.size = 1:=rfl;omega
 ·omega
def d6 (ts : List ByteArray) : Nat:=(ts.map ByteArray.size).sum
theorem iW : ∀ (ns : List Nat) (ts : List ByteArray) (ps : List Wh),ts.length = ns.length + 1 -> ps.length = ns.length -> szW ps + d6 ts <= (aC ns ts ps).size /\ (aC ns ts ps).size <= szW ps + d6 ts + 2 * ns.length
 | [],t :: ts,ps,h1,h2=>by
   have e1 : ts = []:=List.length_eq_zero_iff.1 (by simpa using h1);have e2 : ps = []:=List.length_eq_zero_iff.1 (by simpa using h2);subst e1 e2;simp [aC,szW,d6]
 | n :: ns,t :: ts,p :: ps,h1,h2=>by
   have ih:=iW ns ts ps (by simpa using h1) (by simpa using h2);have hb:=dD n p;rw [aC,bsa,bsa];have e1 : szW (p :: ps) = p.1.size + szW ps:=by simp [szW]
   have e2 : d6 (t :: ts) = t.size + d6 ts:=by simp [d6]
   rw [e1,e2,List.length_cons];omega
 | [],[],_,h1,_=>by simp at h1
 | _ :: _,[],_,h1,_=>by simp at h1
 | _ :: _,_ :: _,[],_,h2=>by simp at h2
structure qU (f : Fm) : Prop where
 texts : f.texts.length = f.needs.length + 1
theorem nY {F : Nat -> Fm} {k : Nat} (hF : qU (F k)) (hn : (F k).needs.length <= (bk F k).length) : szW (bk F k) + d6 (F k).texts <= szW (bk F (k + 1)) /\ szW (bk F (k + 1)) <= szW (bk F k) + d6 (F k).texts + 2 * (F k).needs.length:=by
 have b:=iW (F k).needs (F k).texts ((bk F k).drop ((bk F k).length - (F k).needs.length)) hF.texts (by rw [List.length_drop];omega);have a:=dX (bk F k) ((bk F k).length - (F k).needs.length);rw [bk,gW,dQ];show _ /\ _ + (aC _ _ _).size <= _;have : szW (bk F k) + d6 (F k).texts <= szW ((bk F k).take ((bk F k).length - (F k).needs.length)) + (aC (F k).needs (F k).texts ((bk F k).drop ((bk F k).length - (F k).needs.length))).size:=by omega
 exact ⟨this,by omega⟩
def jD : ByteArray:=⟨#[105,110,116]⟩
def eB : ByteArray:=⟨#[98,111,111,108]⟩
def iC : ByteArray:=⟨#[63]⟩
def iu : ByteArray:=⟨#[32,45,62,32]⟩
def aQ : ByteArray:=⟨#[58]⟩
def dz : ByteArray:=⟨#[58,32]⟩
def ft : ByteArray:=⟨#[32,61,32]⟩
def ld : ByteArray:=⟨#[44,32]⟩
def xO : ByteArray:=⟨#[123]⟩
def xC : ByteArray:=⟨#[125]⟩
def zu : ByteArray:=⟨#[123,125]⟩
def d9 : ByteArray:=⟨#[116,114,117,101]⟩
def cg : ByteArray:=⟨#[102,97,108,115,101]⟩
def gi : ByteArray:=⟨#[46]⟩
def gu : ByteArray:=⟨#[102,117,110,40]⟩
def ij : ByteArray:=⟨#[41,32]⟩
def wP : ByteArray:=⟨#[105,102,32]⟩
def il : ByteArray:=⟨#[32,116,104,101,110,32]⟩
def iq : ByteArray:=⟨#[32,101,108,115,101,32]⟩
def mK : ByteArray:=⟨#[32,43,32]⟩
def iR : ByteArray:=⟨#[32,60,32]⟩
def pQ : ByteArray:=⟨#[105,109,112,111,114,116,32]⟩
def pL : ByteArray:=⟨#[116,121,112,101,32]⟩
def pV : ByteArray:=⟨#[118,97,108,32]⟩
def iH : ByteArray:=⟨#[59,10]⟩
def bV : ByteArray:=⟨#[48,49,50,51,52,53,54,55,56,57]⟩
def bP (n : Nat) : ByteArray:=if n < 10 then bV.extract n (n + 1) else bP (n / 10) ++ bV.extract (n % 10) (n % 10 + 1)
termination_by n
decreasing_by omega
theorem jf (d : Nat) (h : d < 10) : (bV.extract d (d + 1)).size = 1:=by
 have : bV.size = 10:=rfl;rw [ByteArray.size_extract];omega
theorem jw : ∀ (k n : Nat),n < 10 ^ k -> 1 <= k -> (bP n).size <= k:=by
 intro k
 induction k with
 | zero=>intro n _ h;omega
 | succ k ih=>
   intro n a _;rw [bP]
   split
   ·rename_i h;rw [jf n h];omega
   ·rename_i h
    rw [bsa,jf _ (Nat.mod_lt _ (by omega))]
    have b : 1 <= k:=by
     rcases Nat.eq_zero_or_pos k with rfl | h
     ·simp at a;omega
     ·exact h
    have:=ih (n / 10) (by rw [Nat.pow_succ] at a;omega) b;omega
def hU (n : Nat) : ByteArray:=bP n
def ia (md nm : ByteArray) : ByteArray:=if md.size = 0 then nm else md ++ aQ ++ nm
def aI (md nm : ByteArray) : Bool:=gn nm && (decide (md.size = 0) || gn md)
def dN (ns : List ByteArray) : Bool:=(List.range ns.length).all fun i=>gn (ns.getD i e0) && !bC (ns.take i) (ns.getD i e0)
def jq (sign : ByteArray) : ByteArray -> List ByteArray -> List ByteArray
 | _,[]=>[xC]
 | ah,n :: ns=>(ah ++ n ++ sign) :: jq sign ld ns
def fF (ns : List ByteArray) (sign : ByteArray) (lev : Nat) : Fm:=if ns.length = 0 then ⟨lev,[],[zu]⟩ else ⟨lev,List.replicate ns.length 0,jq sign xO ns⟩
def fT (t : TI) : Option Fm:=
 if t.op = 4 then (if aI t.md t.nm && decide (t.ns.length = 0) then some ⟨1,[],[ia t.md t.nm]⟩ else none)
 else if t.md.size = 0 /\ t.nm.size = 0 then
  if t.op = 5 then (if dN t.ns then some (fF t.ns dz 1) else none)
  else if t.ns.length = 0 then
   if t.op = 1 then some ⟨1,[],[jD]⟩
   else if t.op = 2 then some ⟨1,[],[eB]⟩
   else if t.op = 3 then some ⟨1,[],[iC]⟩
   else if t.op = 6 then some ⟨0,[1,0],[e0,iu,e0]⟩
   else none
  else none
 else none
def wK : Fm:=⟨0,[],[e0]⟩
def FT (ts : List TI) (i : Nat) : Fm:=((ts[i]?).bind fT).getD wK
def aT (ts : List TI) (i : Nat) : Option Nat:=((ts[i]?).bind fT).map fun f=>f.needs.length
def dH (ts : List TI) : Bool:=bN (aT ts) ts.length == some 1
def fW (ts : List TI) : ByteArray:=(pw (FT ts) ts.length).1
def fE (e : EI) : Option Fm:=
 if e.op = 3 then (if aI e.md e.nm && decide (e.num = 0) && decide (e.ns.length = 0) && decide (e.ty.length = 0) then some ⟨4,[],[ia e.md e.nm]⟩ else none)
 else if e.md.size = 0 then
  if e.op = 6 then (if gn e.nm && dH e.ty && decide (e.num = 0) && decide (e.ns.length = 0) then some ⟨0,[0],[gu ++ e.nm ++ dz ++ fW e.ty ++ ij,e0]⟩ else none)
  else if e.ty.length = 0 then
   if e.op = 5 then (if gn e.nm && decide (e.num = 0) && decide (e.ns.length = 0) then some ⟨3,[3],[e0,gi ++ e.nm]⟩ else none)
   else if e.nm.size = 0 then
    if e.op = 4 then (if decide (e.num = 0) && dN e.ns then some (fF e.ns ft 4) else none)
    else if e.ns.length = 0 then
     if e.op = 1 then (if 0 <= e.num /\ e.num <= 999999999 then some ⟨4,[],[hU e.num.toNat]⟩ else none)
     else if e.op = 2 then (if e.num = 0 then some ⟨4,[],[cg]⟩ else if e.num = 1 then some ⟨4,[],[d9]⟩ else none)
     else if e.num = 0 then
      if e.op = 7 then some ⟨3,[3,0],[e0,sL,sR]⟩
      else if e.op = 8 then some ⟨0,[0,0,0],[wP,il,iq,e0]⟩
      else if e.op = 9 then some ⟨2,[2,3],[e0,mK,e0]⟩
      else if e.op = 10 then some ⟨1,[2,2],[e0,iR,e0]⟩
      else none
     else none
    else none
   else none
  else none
 else none
def FE (es : List EI) (i : Nat) : Fm:=((es[i]?).bind fE).getD wK
def aE (es : List EI) (i : Nat) : Option Nat:=((es[i]?).bind fE).map fun f=>f.needs.length
def nO (es : List EI) : Bool:=bN (aE es) es.length == some 1
def ww (es : List EI) : ByteArray:=(pw (FE es) es.length).1
def fO (d : DC) : Bool:=gn d.nm && (
 if d.kind = 1 then decide (d.ty.length = 0) && decide (d.ex.length = 0)
 else if d.kind = 2 then dH d.ty && decide (d.ex.length = 0)
 else decide (d.kind = 3) && dH d.ty && nO d.ex)
def nN (d : DC) : ByteArray:=
 if d.kind = 1 then pQ ++ d.nm ++ iH
 else if d.kind = 2 then pL ++ d.nm ++ ft ++ fW d.ty ++ iH
 else pV ++ d.nm ++ dz ++ fW d.ty ++ ft ++ ww d.ex ++ iH
def bR : List DC -> ByteArray
 | []=>e0
 | d :: ds=>nN d ++ bR ds
def fS (ds : List DC) : Bool:=ds.all fO && decide ((bR ds).size <= 1000)
def pD (ds : List DC) : ByteArray:=if fS ds then bR ds else e0
theorem rb (sign : ByteArray) : ∀ (ah : ByteArray) (ns : List ByteArray),(jq sign ah ns).length = ns.length + 1
 | _,[]=>rfl
 | _,_ :: ns=>by rw [jq,List.length_cons,rb sign _ ns,List.length_cons]
theorem bq (ns : List ByteArray) (sign : ByteArray) (lev : Nat) : qU (fF ns sign lev) /\ (fF ns sign lev).needs.length = ns.length /\ (fF ns sign lev).lev = lev:=by
 unfold fF
 split
 case isTrue h=>exact ⟨⟨rfl⟩,h.symm,rfl⟩
 case isFalse h=>exact ⟨⟨by rw [rb,List.length_replicate]⟩,List.length_replicate,rfl⟩
theorem uP {t : TI} {f : Fm} (h : fT t = some f) : qU f:=by
 unfold fT at h
 repeat' split at h
 all_goals first | (cases h;exact ⟨rfl⟩) | (cases h;exact (bq _ _ _).1) | cases h
theorem ac {c : Prop} [Decidable c] {x y : Option Fm} {f : Fm} {P : Prop} (h : (if c then x else y) = some f) (h1 : x = some f -> P) (h2 : y = some f -> P) : P:=by
 split at h
 ·exact h1 h
 ·exact h2 h
theorem aa {f : Fm} {P : Prop} (h : (none : Option Fm) = some f) : P:=by cases h
theorem cP {f g : Fm} (hg : qU g) (h : some g = some f) : qU f:=by cases h;exact hg
theorem qY {t : EI} {f : Fm} (h : fE t = some f) : qU f:=by
 unfold fE at h;refine ac h (fun h=>ac h (cP ⟨rfl⟩) aa) fun h=>?_;refine ac h (fun h=>?_) aa;refine ac h (fun h=>ac h (cP ⟨rfl⟩) aa) fun h=>?_;refine ac h (fun h=>?_) aa;refine ac h (fun h=>ac h (cP ⟨rfl⟩) aa) fun h=>?_;refine ac h (fun h=>?_) aa;refine ac h (fun h=>ac h (cP (bq _ _ _).1) aa) fun h=>?_;refine ac h (fun h=>?_) aa;refine ac h (fun h=>ac h (cP ⟨rfl⟩) aa) fun h=>?_;refine ac h (fun h=>ac h (cP ⟨rfl⟩) (fun h=>ac h (cP ⟨rfl⟩) aa)) fun h=>?_;refine ac h (fun h=>?_) aa;refine ac h (cP ⟨rfl⟩) fun h=>?_;refine ac h (cP ⟨rfl⟩) fun h=>?_;refine ac h (cP ⟨rfl⟩) fun h=>?_;exact ac h (cP ⟨rfl⟩) aa
theorem Ba {ts : List TI} {i n : Nat} (h : aT ts i = some n) : (FT ts i).needs.length = n:=by
 unfold aT at h;unfold FT
 cases e : (ts[i]?).bind fT with
 | none=>rw [e] at h;cases h
 | some f=>rw [e] at h;exact Option.some.inj h
theorem BG {ts : List EI} {i n : Nat} (h : aE ts i = some n) : (FE ts i).needs.length = n:=by
 unfold aE at h;unfold FE
 cases e : (ts[i]?).bind fE with
 | none=>rw [e] at h;cases h
 | some f=>rw [e] at h;exact Option.some.inj h
def rn (fo : Nat -> Option Fm) (lim : Nat) : Nat -> Option (List Wh)
 | 0=>some []
 | k + 1=>match rn fo lim k,fo k with
   | some st,some f=>
     if f.needs.length <= st.length then
      if szW (st.take (st.length - f.needs.length) ++ [(aC f.needs f.texts (st.drop (st.length - f.needs.length)),f.lev)]) <= lim then some (st.take (st.length - f.needs.length) ++ [(aC f.needs f.texts (st.drop (st.length - f.needs.length)),f.lev)]) else none
     else none
   | _,_=>none
theorem yP {fo : Nat -> Option Fm} {F : Nat -> Fm} {lim : Nat} (hF : ∀ i f,fo i = some f -> F i = f /\ qU f) : ∀ k,rn fo lim k = if (bN (fun i=>(fo i).map fun f=>f.needs.length) k).isSome && decide (szW (bk F k) <= lim) then some (bk F k) else none
 | 0=>by simp [rn,bN,bk,szW]
 | k + 1=>by
   rw [rn,yP hF k,bN]
   cases hv : bN (fun i=>(fo i).map fun f=>f.needs.length) k with
   | none=>simp
   | some h=>
     cases hf : fo k with
     | none=>simp
     | some f=>
       obtain ⟨e1,e2⟩:=hF k f hf
       have va : ∀ j n,j < k -> (fun i=>(fo i).map fun f=>f.needs.length) j = some n -> (fun i=>(F i).needs.length) j = n:=fun j n _ hj=>by
        dsimp only at hj ⊢
        cases hfj : fo j with
        | none=>rw [hfj] at hj;cases hj
        | some g=>rw [hfj] at hj;rw [(hF j g hfj).1];exact Option.some.inj hj
       obtain ⟨_,hl,_⟩:=gF va hv;have hlen : (bk F k).length = h:=by rw [eD,hl]
       dsimp only [Option.map_some]
       by_cases a : f.needs.length <= h
       ·have d:=nY (F:=F) (k:=k) (by rw [e1];exact e2) (by rw [e1,hlen];exact a)
        have c : bk F (k + 1) = (bk F k).take ((bk F k).length - f.needs.length) ++ [(aC f.needs f.texts ((bk F k).drop ((bk F k).length - f.needs.length)),f.lev)]:=by rw [bk,e1]
        simp only [if_pos a];by_cases b : szW (bk F k) <= lim
        ·simp only [Option.isSome_some,Bool.true_and,b,decide_true,if_true]
         rw [<- c,if_pos (by rw [hlen];exact a)];simp
        ·have : ¬ szW (bk F (k + 1)) <= lim:=by omega
         simp [b,this]
       ·simp only [if_neg a]
        by_cases b : szW (bk F k) <= lim
        ·simp only [Option.isSome_some,Bool.true_and,b,decide_true,if_true]
         rw [if_neg (by rw [hlen];exact a)];simp
        ·simp [b]
theorem rY {fo fo' : Nat -> Option Fm} {lim : Nat} (h : ∀ i,fo' i = fo i \/ (fo' i = none /\ ∀ f,fo i = some f -> qU f /\ lim < d6 f.texts)) : ∀ k,rn fo' lim k = rn fo lim k
 | 0=>rfl
 | k + 1=>by
   rw [rn,rn,rY h k];rcases h k with e | ⟨e,hb⟩
   ·rw [e]
   ·rw [e]
    cases rn fo lim k with
    | none=>rfl
    | some st=>
      cases hf : fo k with
      | none=>rfl
      | some f=>
        obtain ⟨ok,hl⟩:=hb f hf
        dsimp only
        by_cases hn : f.needs.length <= st.length
        ·rw [if_pos hn]
         have:=(iW f.needs f.texts (st.drop (st.length - f.needs.length)) ok.texts (by rw [List.length_drop];omega)).1;rw [if_neg];rw [gW,dQ];show ¬ _ + (aC _ _ _).size <= _;omega
        ·rw [if_neg hn]
def fP (fo : Nat -> Option Fm) (lim n : Nat) : Option ByteArray:=match rn fo lim n with
 | some [x]=>some x.1
 | _=>none
theorem yZ {fo : Nat -> Option Fm} {F : Nat -> Fm} {lim : Nat} (hF : ∀ i f,fo i = some f -> F i = f /\ qU f) (n : Nat) : fP fo lim n = if bN (fun i=>(fo i).map fun f=>f.needs.length) n = some 1 /\ (pw F n).1.size <= lim then some (pw F n).1 else none:=by
 unfold fP;rw [yP hF]
 cases hv : bN (fun i=>(fo i).map fun f=>f.needs.length) n with
 | none=>simp
 | some h=>
   have o : ∀ j m,j < n -> (fun i=>(fo i).map fun f=>f.needs.length) j = some m -> (fun i=>(F i).needs.length) j = m:=fun j m _ hj=>by
    dsimp only at hj ⊢
    cases hfj : fo j with
    | none=>rw [hfj] at hj;cases hj
    | some g=>rw [hfj] at hj;rw [(hF j g hfj).1];exact Option.some.inj hj
   obtain ⟨_,p,_⟩:=gF o hv;have a : (bk F n).length = h:=by rw [eD,p]
   by_cases c : h = 1
   ·subst c
    have e : bk F n = [pw F n]:=by
     cases n with
     | zero=>simp [bk] at a
     | succ k=>
       rw [bk] at a ⊢;have : (bk F k).take ((bk F k).length - (F k).needs.length) = []:=List.length_eq_zero_iff.1 (by rw [lap] at a;simp only [List.length_singleton] at a;omega);rw [this];rfl
    rw [e,dQ];by_cases b : (pw F n).1.size <= lim
    ·simp [b]
    ·simp [b]
   ·have d : ¬ (some h = some 1):=fun e=>c (Option.some.inj e)
    simp only [if_neg (fun z : some h = some 1 /\ (pw F n).1.size <= lim=>d z.1)];by_cases b : szW (bk F n) <= lim
    ·simp only [Option.isSome_some,Bool.true_and,b,decide_true,if_true]
     cases hst : bk F n with
     | nil=>rfl
     | cons x l=>
       cases l with
       | nil=>rw [hst] at a;exact absurd a.symm c
       | cons y l=>rfl
    ·simp [b]
theorem vh (ts : List TI) (lim : Nat) : fP (fun i=>(ts[i]?).bind fT) lim ts.length = if dH ts = true /\ (fW ts).size <= lim then some (fW ts) else none:=by
 rw [yZ (F:=FT ts) (fun i f hf=>?_)]
 ·have : (bN (fun i=>((ts[i]?).bind fT).map fun f=>f.needs.length) ts.length = some 1) ↔ dH ts = true:=by
   unfold dH;rw [beq_iff_eq];exact Iff.rfl
  unfold fW;simp only [this]
 ·exact ⟨by unfold FT;rw [hf];rfl,by obtain ⟨t,_,a⟩:=Option.bind_eq_some_iff.1 hf;exact uP a⟩
def ir (lim : Nat) (e : EI) : Option Fm:=if e.op = 6 /\ lim < (fW e.ty).size then none else fE e
theorem zQ {e : EI} {f : Fm} (h6 : e.op = 6) (h : fE e = some f) : d6 f.texts ≥ (fW e.ty).size:=by
 unfold fE at h;rw [if_neg (by omega)] at h;refine ac h (fun h=>?_) aa;rw [if_pos h6] at h;refine ac h (fun h=>?_) aa;cases h;show (fW e.ty).size <= d6 _;unfold d6;rw [List.map_cons,List.sum_cons,bsa,bsa];omega
theorem Af (es : List EI) (lim : Nat) : fP (fun i=>(es[i]?).bind (ir lim)) lim es.length = if nO es = true /\ (ww es).size <= lim then some (ww es) else none:=by
 have b : fP (fun i=>(es[i]?).bind (ir lim)) lim es.length = fP (fun i=>(es[i]?).bind fE) lim es.length:=by
  unfold fP;rw [rY (fo:=fun i=>(es[i]?).bind fE) (fun i=>?_)]
  cases es[i]? with
  | none=>exact Or.inl rfl
  | some e=>
    dsimp only [Option.bind_some]
    unfold ir;by_cases h : e.op = 6 /\ lim < (fW e.ty).size
    ·rw [if_pos h]
     refine Or.inr ⟨rfl,fun f hf=>⟨qY hf,?_⟩⟩;have:=zQ h.1 hf;omega
    ·rw [if_neg h];exact Or.inl rfl
 rw [b,yZ (F:=FE es) (fun i f hf=>?_)]
 ·have : (bN (fun i=>((es[i]?).bind fE).map fun f=>f.needs.length) es.length = some 1) ↔ nO es = true:=by
   unfold nO;rw [beq_iff_eq];exact Iff.rfl
  unfold ww;simp only [this]
 ·exact ⟨by unfold FE;rw [hf];rfl,by obtain ⟨t,_,a⟩:=Option.bind_eq_some_iff.1 hf;exact qY a⟩
end Go.Proofs.YtihedobejcaapaaGreatDoor
