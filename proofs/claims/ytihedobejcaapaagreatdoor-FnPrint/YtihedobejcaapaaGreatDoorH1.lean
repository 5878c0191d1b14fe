/-
  QaA QaB QaC PpA PpB PpC PpD PpE PpF PpG PpH PpI
-/
import Derived.Test.YtihedobejcaapaaGreatDoorA1
import Derived.Test.YtihedobejcaapaaGreatDoorB1
namespace Go.Proofs.YtihedobejcaapaaGreatDoor
def er (ts : List TK) : List TK:=ts.map fun t=>⟨t.cls,t.txt,0⟩
theorem qo (ts : List TK) (i : Nat) : (er ts)[i]? = (ts[i]?).map fun t=>⟨t.cls,t.txt,0⟩:=List.getElem?_map
theorem jG (ts : List TK) : (er ts).length = ts.length:=List.length_map _
theorem cR (ts : List TK) : isT (er ts) = isT ts:=by
 funext i s
 unfold isT;rw [qo];cases ts[i]? <;> rfl
theorem iI (ts : List TK) : cr (er ts) = cr ts:=by
 funext i c
 unfold cr;rw [qo];cases ts[i]? <;> rfl
theorem lB (ts : List TK) : tx (er ts) = tx ts:=by
 funext i
 unfold tx;rw [qo];cases ts[i]? <;> rfl
theorem pA (st : Bool) (ts : List TK) : bW st (er ts) = bW st ts:=by
 funext i
 unfold bW;rw [cR,iI,lB]
theorem pg {α : Type} (ts : List TK) (T : Nat -> Option (List α × Nat)) (sg : List UInt8) : ∀ f j ns its,cX (er ts) T sg f j ns its = cX ts T sg f j ns its
 | 0,_,_,_=>rfl
 | f + 1,j,ns,its=>by
   rw [cX,cX,cR,iI,lB];have ih:=pg ts T sg f;simp only [ih]
theorem oL {α : Type} (ts : List TK) (T : Nat -> Option (List α × Nat)) (sg : List UInt8) : aH (er ts) T sg = aH ts T sg:=by
 funext j
 unfold aH;rw [cR,jG,pg]
theorem my {α : Type} (ts : List TK) (T : Nat -> Option (List α × Nat)) : bO (er ts) T = bO ts T:=by
 funext j
 unfold bO;rw [cR]
theorem vB (st : Bool) (ts : List TK) (T : Nat -> Option (List TI × Nat)) : aF st (er ts) T = aF st ts T:=by
 funext i
 unfold aF;rw [cR,iI,pA,oL,my]
theorem pW (st : Bool) (ts : List TK) : ∀ f,tyP st (er ts) f = tyP st ts f
 | 0=>by funext i;rfl
 | f + 1=>by
   funext i
   rw [tyP,tyP,vB,cR,pW st ts f]
theorem wl (st : Bool) (ts : List TK) (E : Nat -> Option (List EI × Nat)) : atomP st (er ts) E = atomP st ts E:=by
 funext i
 unfold atomP;rw [cR,iI,lB,pA,oL,my]
theorem od (ts : List TK) (E : Nat -> Option (List EI × Nat)) : ∀ f its j,bu (er ts) E f its j = bu ts E f its j
 | 0,_,_=>rfl
 | f + 1,its,j=>by
   have ih:=od ts E f;rw [bu,bu,cR,iI,lB,my];simp only [ih]
theorem og (st : Bool) (ts : List TK) (E : Nat -> Option (List EI × Nat)) : postP st (er ts) E = postP st ts E:=by
 funext i
 unfold postP;rw [wl,jG]
 cases atomP st ts E i with
 | none=>rfl
 | some x=>exact od _ _ _ _ _
theorem qR (st : Bool) (ts : List TK) (E : Nat -> Option (List EI × Nat)) : ∀ f its j,ek st (er ts) E f its j = ek st ts E f its j
 | 0,_,_=>rfl
 | f + 1,its,j=>by
   have ih:=qR st ts E f;rw [ek,ek,cR,og];simp only [ih]
theorem xy (st : Bool) (ts : List TK) (E : Nat -> Option (List EI × Nat)) : cu st (er ts) E = cu st ts E:=by
 funext i
 unfold cu;rw [og,jG]
 cases postP st ts E i with
 | none=>rfl
 | some x=>exact qR _ _ _ _ _ _
theorem yl (st : Bool) (ts : List TK) (E : Nat -> Option (List EI × Nat)) : dp st (er ts) E = dp st ts E:=by
 funext i
 unfold dp;rw [cR,iI,lB,jG,pW]
theorem zN (ts : List TK) (E : Nat -> Option (List EI × Nat)) : pF (er ts) E = pF ts E:=by
 funext i
 unfold pF;rw [cR]
theorem vD (st : Bool) (ts : List TK) (E : Nat -> Option (List EI × Nat)) : cY st (er ts) E = cY st ts E:=by
 funext i
 unfold cY;rw [cR,xy]
theorem ve (st : Bool) (ts : List TK) : ∀ f,ay st (er ts) f = ay st ts f
 | 0=>by funext i;rfl
 | f + 1=>by
   funext i
   rw [ay,ay,cR,ve st ts f,yl,zN,vD]
theorem uS (st : Bool) (ts : List TK) : bM st (er ts) = bM st ts:=by
 unfold bM;rw [cR,iI,lB,jG,pW,ve]
theorem xV (ts : List TK) : semi (er ts) = semi ts:=by
 unfold semi er;rw [List.findIdx?_map];rfl
theorem rD (st : Bool) : ∀ f (ts : List TK),cF st f (er ts) = cF st f ts
 | 0,_=>rfl
 | f + 1,ts=>by
   rw [cF,cF,xV];have e1 : (er ts).isEmpty = ts.isEmpty:=by cases ts <;> rfl
   rw [e1]
   split
   ·rfl
   ·cases semi ts with
    | none=>rfl
    | some k=>
      have b : (er ts).take k = er (ts.take k):=List.map_take.symm;have a : (er ts).drop (k + 1) = er (ts.drop (k + 1)):=List.map_drop.symm
      dsimp only
      rw [b,a,uS,rD st f]
theorem dM {a b : ByteArray} {i : Nat} (h : i < a.size) : bt (a ++ b) i = bt a i:=by
 rw [eA (by rw [bsa];omega),eA h];congr 2;exact ByteArray.getElem_append_left h
theorem gp {a b : ByteArray} (j : Nat) : bt (a ++ b) (a.size + j) = bt b j:=by
 by_cases h : j < b.size
 ·rw [eA (by rw [bsa];omega),eA h]
  congr 2;rw [ByteArray.getElem_append_right (by omega)];congr 1;omega
 ·rw [mJ h,mJ (by rw [bsa];omega)]
theorem eY (p : Int -> Bool) {a b : ByteArray} (j : Nat) : run p (a ++ b) (a.size + j) = run p b j:=by
 by_cases h : j < b.size
 ·have c : a.size + j < (a ++ b).size:=by rw [bsa];omega
  cases hp : p (bt b j)
  ·rw [eU h hp,eU c (by rw [gp];exact hp)]
  ·rw [fk h hp,fk c (by rw [gp];exact hp),Nat.add_assoc,eY p (j + 1)]
 ·rw [fu h,fu (by rw [bsa];omega)]
termination_by b.size - j
theorem iJ {a b : ByteArray} (j : Nat) : aR (a ++ b) (a.size + j) = aR b j:=by
 unfold aR;rw [gp,show a.size + j + 1 = a.size + (j + 1) by omega,gp,eY,eY,eY]
theorem lH {a b : ByteArray} (j : Nat) : blk (a ++ b) (a.size + j) = blk b j:=by
 unfold blk;rw [gp]
theorem s4 {a b : ByteArray} (j k : Nat) : (a ++ b).extract (a.size + j) (a.size + j + k) = b.extract j (j + k):=by
 rw [ByteArray.extract_append,ByteArray.extract_eq_empty_iff.2 (by omega),show a.size + j - a.size = j by omega,show a.size + j + k - a.size = j + k by omega];exact ByteArray.empty_append
theorem jp {a b : ByteArray} (j : Nat) : er (iZ (a ++ b) (a.size + j)) = er (iZ b j):=by
 by_cases h : j < b.size
 ·have d : a.size + j < (a ++ b).size:=by rw [bsa];omega
  have e:=dU b j;have c:=jp (a:=a) (b:=b) (j + aR b j);rw [<- Nat.add_assoc] at c;cases hb : blk b j
  ·rw [gO h hb,gO d (by rw [lH];exact hb),iJ]
   have f : gC (a ++ b) (a.size + j) = gC b j:=by
    unfold gC;rw [iJ,s4]
   rw [f];show (⟨_,_,0⟩ : TK) :: er _ = ⟨_,_,0⟩ :: er _;rw [c]
  ·rw [gQ h hb,gQ d (by rw [lH];exact hb),iJ]
   exact c
 ·rw [fI h,fI (by rw [bsa];omega)]
termination_by b.size - j
decreasing_by all_goals omega
theorem ja (p : Int -> Bool) {t x : ByteArray} (hc : p (bt x 0) = false) : ∀ (n i : Nat),t.size - i <= n -> i <= t.size -> (∀ j,i <= j -> j < t.size -> p (bt t j) = true) -> run p (t ++ x) i = t.size - i
 | 0,i,hn,hi,_=>by
   have : i = t.size:=by omega
   subst this;have h:=eY p (a:=t) (b:=x) 0;rw [Nat.add_zero] at h;rw [h,Nat.sub_self];by_cases d : 0 < x.size
   ·exact eU d hc
   ·exact fu d
 | n + 1,i,hn,hi,ha=>by
   by_cases h : i < t.size
   ·have c : i < (t ++ x).size:=by rw [bsa];omega
    rw [fk c (by rw [dM h];exact ha i (nlr _) h),ja p hc n (i + 1) (by omega) (by omega) (fun j h1 c=>ha j (by omega) c)];omega
   ·exact ja p hc 0 i (by omega) hi ha
def Cr : ByteArray:=⟨#[32]⟩
def Dl : ByteArray:=⟨#[10]⟩
theorem yH {x r : ByteArray} (hx : x = Cr \/ x = Dl) : er (iZ (x ++ r) 0) = er (iZ r 0):=by
 have f : x.size = 1:=by rcases hx with rfl | rfl <;> rfl
 have d : bt (x ++ r) 0 = 32 \/ bt (x ++ r) 0 = 10:=by
  rw [dM (by omega)];rcases hx with rfl | rfl <;> decide
 have e : 0 < (x ++ r).size:=by rw [bsa];omega
 have h : aR (x ++ r) 0 = 1:=by unfold aR;rw [if_pos d]
 have g : blk (x ++ r) 0 = true:=by
  unfold blk;exact decide_eq_true (by rcases d with z | z;exact .inl z;exact .inr (.inl z))
 rw [gQ e g,h];have c:=jp (a:=x) (b:=r) 0;rw [Nat.add_zero,f] at c;exact c
def aj (s : ByteArray) : TK:=⟨cls s.data.toList,s,0⟩
def cZ (s : ByteArray) (l : List TK) : Prop:=∀ x : ByteArray,er (iZ (s ++ x) 0) = l ++ er (iZ x 0)
def fN (s : ByteArray) (l : List TK) : Prop:=∀ x : ByteArray,wb (bt x 0) = false -> er (iZ (s ++ x) 0) = l ++ er (iZ x 0)
def Nw (s : ByteArray) : Prop:=0 < s.size /\ wb (bt s 0) = false
theorem cZ.w {s : ByteArray} {l : List TK} (h : cZ s l) : fN s l:=fun x _=>h x
theorem cZ.nil : cZ e0 []:=fun x=>by show er (iZ (ByteArray.empty ++ x) 0) = _;rw [ByteArray.empty_append];rfl
theorem cZ.app {a b : ByteArray} {la lb : List TK} (h : cZ a la) (k : cZ b lb) : cZ (a ++ b) (la ++ lb):=fun x=>by
 rw [ByteArray.append_assoc,h,k,List.append_assoc]
theorem cZ.appW {a b : ByteArray} {la lb : List TK} (h : cZ a la) (k : fN b lb) : fN (a ++ b) (la ++ lb):=fun x hx=>by
 rw [ByteArray.append_assoc,h,k x hx,List.append_assoc]
theorem Nw.app {a : ByteArray} (h : Nw a) (x : ByteArray) : wb (bt (a ++ x) 0) = false:=by rw [dM h.1];exact h.2
theorem fN.app {a b : ByteArray} {la lb : List TK} (h : fN a la) (hn : Nw b) (k : cZ b lb) : cZ (a ++ b) (la ++ lb):=fun x=>by
 rw [ByteArray.append_assoc,h _ (hn.app x),k,List.append_assoc]
theorem fN.appW {a b : ByteArray} {la lb : List TK} (h : fN a la) (hn : Nw b) (k : fN b lb) : fN (a ++ b) (la ++ lb):=fun x hx=>by
 rw [ByteArray.append_assoc,h _ (hn.app x),k x hx,List.append_assoc]
theorem gP {s x : ByteArray} (hs : 0 < s.size) (hb : blk s 0 = false) (hp : aR (s ++ x) 0 = s.size) : er (iZ (s ++ x) 0) = aj s :: er (iZ x 0):=by
 have d : 0 < (s ++ x).size:=by rw [bsa];omega
 have e : bt (s ++ x) 0 = bt s 0:=dM hs;rw [gO d (by unfold blk at hb ⊢;rw [e];exact hb),hp]
 have g : gC (s ++ x) 0 = s:=by
  show (s ++ x).extract 0 (0 + aR (s ++ x) 0) = _;rw [hp,Nat.zero_add,ByteArray.extract_append];have f : x.extract (0 - s.size) (s.size - s.size) = ByteArray.empty:=ByteArray.extract_eq_empty_iff.2 (by omega);rw [f,ByteArray.append_empty];exact ByteArray.extract_zero_size
 rw [g];show (⟨_,_,0⟩ : TK) :: er _ = _;have c:=jp (a:=s) (b:=x) 0;rw [Nat.add_zero] at c;rw [Nat.zero_add,c];unfold aj;rw [ByteArray.toList_eq]
theorem lL {s : ByteArray} (h : s = Cr \/ s = Dl) : cZ s []:=fun _=>yH h
theorem bD {s : ByteArray} (hs : s.size = 1) (h : sg (bt s 0) = true) : cZ s [aj s]:=fun x=>by
 have h0 : bt (s ++ x) 0 = bt s 0:=dM (by omega)
 have hc : bt s 0 = 59 \/ bt s 0 = 58 \/ bt s 0 = 61 \/ bt s 0 = 63 \/ bt s 0 = 123 \/ bt s 0 = 125 \/ bt s 0 = 40 \/ bt s 0 = 41 \/ bt s 0 = 44 \/ bt s 0 = 46 \/ bt s 0 = 43 \/ bt s 0 = 60:=by
  unfold sg at h;exact of_decide_eq_true h
 have b : sl (bt s 0) = false:=by rcases hc with z | z | z | z | z | z | z | z | z | z | z | z <;> (rw [z];decide)
 have a : dg (bt s 0) = false:=by rcases hc with z | z | z | z | z | z | z | z | z | z | z | z <;> (rw [z];decide)
 refine gP (by omega) ?_ ?_
 ·unfold blk
  exact decide_eq_false (by omega)
 ·unfold aR
  rw [h0,if_neg (by omega),if_neg (by omega),b,a];simp only [Bool.false_eq_true,if_false];rw [if_neg (by omega),hs]
def uo : ByteArray:=⟨#[45,62]⟩
theorem sE : cZ uo [aj uo]:=fun x=>by
 have h0 : bt (uo ++ x) 0 = 45:=(dM (by decide)).trans (by decide);have h1 : bt (uo ++ x) 1 = 62:=(dM (by decide)).trans (by decide);refine gP (by decide) (by decide) ?_;unfold aR;rw [h0,h1,if_neg (by omega),if_neg (by omega)];rfl
theorem bE {s : ByteArray} (hs : 0 < s.size) (h0 : sl (bt s 0) = true) (hw : ∀ j,j < s.size -> wb (bt s j) = true) : fN s [aj s]:=fun x hx=>by
 have e0 : bt (s ++ x) 0 = bt s 0:=dM hs;have hr : run wb (s ++ x) 1 = s.size - 1:=ja wb hx (s.size - 1) 1 (nlr _) (by omega) (fun j _ hj=>hw j hj)
 have hc : 97 <= bt s 0:=by
  unfold sl at h0;have:=of_decide_eq_true h0;omega
 refine gP hs ?_ ?_
 ·unfold blk
  exact decide_eq_false (by omega)
 ·unfold aR
  rw [e0,if_neg (by omega),if_neg (by omega),if_pos h0,hr];omega
theorem ql {s : ByteArray} (hs : 0 < s.size) (hw : ∀ j,j < s.size -> dg (bt s j) = true) : fN s [aj s]:=fun x hx=>by
 have e0 : bt (s ++ x) 0 = bt s 0:=dM hs
 have hd : dg (bt x 0) = false:=by
  cases h : dg (bt x 0)
  ·rfl
  ·exfalso
   have c : wb (bt x 0) = true:=by
    unfold dg at h;have:=of_decide_eq_true h;unfold wb;rw [decide_eq_true_eq];omega
   rw [c] at hx;cases hx
 have d : run dg (s ++ x) 1 = s.size - 1:=ja dg hd (s.size - 1) 1 (nlr _) (by omega) (fun j _ hj=>hw j hj);have a:=hw 0 hs
 have e : 48 <= bt s 0 /\ bt s 0 <= 57:=by
  unfold dg at a;exact of_decide_eq_true a
 have b : sl (bt s 0) = false:=by
  unfold sl;exact decide_eq_false (by omega)
 refine gP hs ?_ ?_
 ·unfold blk
  exact decide_eq_false (by omega)
 ·unfold aR
  rw [e0,if_neg (by omega),if_neg (by omega),b,if_pos a,d];simp only [Bool.false_eq_true,if_false];omega
section
variable {α : Type} (fx : α -> Option Fm)
def FX (ts : List α) (i : Nat) : Fm:=((ts[i]?).bind fx).getD wK
def aX (ts : List α) (i : Nat) : Option Nat:=((ts[i]?).bind fx).map fun f=>f.needs.length
def dG (ts : List α) : Wh:=pw (FX fx ts) ts.length
def rh (ts : List α) : Prop:=bN (aX fx ts) ts.length = some 1
theorem yJ {a b : List α} {i : Nat} (h : i < a.length) : aX fx (a ++ b) i = aX fx a i:=by
 unfold aX;rw [List.getElem?_append_left h]
theorem oj (a b : List α) (j : Nat) : aX fx (a ++ b) (a.length + j) = aX fx b j:=by
 unfold aX;rw [List.getElem?_append_right (by omega),Nat.add_sub_cancel_left]
theorem xI {a b : List α} {i : Nat} (h : i < a.length) : FX fx (a ++ b) i = FX fx a i:=by
 unfold FX;rw [List.getElem?_append_left h]
theorem vS (a b : List α) (j : Nat) : FX fx (a ++ b) (a.length + j) = FX fx b j:=by
 unfold FX;rw [List.getElem?_append_right (by omega),Nat.add_sub_cancel_left]
theorem zj {ts : List α} {i n : Nat} (h : aX fx ts i = some n) : (FX fx ts i).needs.length = n:=by
 unfold aX at h;unfold FX
 cases e : (ts[i]?).bind fx with
 | none=>rw [e] at h;cases h
 | some f=>rw [e] at h;simpa using h
theorem js {a b : List α} : ∀ k,k <= a.length -> bN (aX fx (a ++ b)) k = bN (aX fx a) k
 | 0,_=>rfl
 | k + 1,h=>by
   rw [bN,bN,js k (by omega),yJ fx (by omega)]
theorem oH {a b : List α} {h : Nat} (ha : bN (aX fx a) a.length = some h) : ∀ (j g : Nat),bN (aX fx b) j = some g -> bN (aX fx (a ++ b)) (a.length + j) = some (h + g)
 | 0,g,hb=>by
   cases hb;rw [Nat.add_zero,js fx _ (nlr _),ha];rfl
 | j + 1,g,hb=>by
   rw [bN] at hb;show bN (aX fx (a ++ b)) (a.length + j + 1) = _;rw [bN,oj]
   cases hv : bN (aX fx b) j with
   | none=>rw [hv] at hb;cases hb
   | some g0=>
     rw [hv] at hb;rw [oH ha j g0 hv]
     cases ht : aX fx b j with
     | none=>rw [ht] at hb;cases hb
     | some m=>
       rw [ht] at hb
       dsimp only at hb ⊢
       split at hb
       ·rename_i hm
        cases hb;rw [if_pos (by omega)];congr 1;omega
       ·cases hb
theorem gJ {ts : List α} {k h : Nat} (hv : bN (aX fx ts) (k + 1) = some h) : ∃ h0 n,bN (aX fx ts) k = some h0 /\ aX fx ts k = some n /\ n <= h0 /\ h = h0 - n + 1:=by
 rw [bN] at hv
 cases h1 : bN (aX fx ts) k with
 | none=>rw [h1] at hv;cases hv
 | some h0=>
   rw [h1] at hv
   cases h2 : aX fx ts k with
   | none=>rw [h2] at hv;cases hv
   | some n=>
     rw [h2] at hv
     dsimp only at hv
     split at hv
     ·rename_i hn
      cases hv;exact ⟨h0,n,rfl,rfl,hn,rfl⟩
     ·cases hv
theorem ky {ts : List α} : ∀ {k h : Nat},bN (aX fx ts) k = some h -> (bk (FX fx ts) k).length = h
 | 0,h,hv=>by cases hv;rfl
 | k + 1,h,hv=>by
   obtain ⟨h0,n,e1,e2,hn,rfl⟩:=gJ fx hv;rw [bk,lap,List.length_take,ky e1,zj fx e2];simp
theorem jm {a b : List α} : ∀ k,k <= a.length -> bk (FX fx (a ++ b)) k = bk (FX fx a) k
 | 0,_=>rfl
 | k + 1,h=>by rw [bk,bk,jm k (by omega),xI fx (by omega)]
theorem pf {a b : List α} : ∀ (j g : Nat),bN (aX fx b) j = some g -> bk (FX fx (a ++ b)) (a.length + j) = bk (FX fx a) a.length ++ bk (FX fx b) j
 | 0,g,_=>by rw [Nat.add_zero,jm fx _ (nlr _)];simp [bk]
 | j + 1,g,hv=>by
   obtain ⟨h0,n,e1,e2,hn,rfl⟩:=gJ fx hv;have ih:=pf (a:=a) j h0 e1;have hl:=ky fx e1;have hf:=zj fx e2;show bk (FX fx (a ++ b)) (a.length + j + 1) = _;rw [bk,bk,vS,ih,lap,hf,hl];have e3 : (bk (FX fx a) a.length).length + h0 - n = (bk (FX fx a) a.length).length + (h0 - n):=by omega
   rw [e3,List.take_append,List.drop_append];rw [List.take_of_length_le (by omega),List.drop_of_length_le (by omega),Nat.add_sub_cancel_left,List.nil_append,List.append_assoc]
theorem vr {p : List α} (h : rh fx p) : bk (FX fx p) p.length = [dG fx p]:=by
 have a:=ky fx h;unfold dG
 cases hk : p.length with
 | zero=>
   unfold rh at h;rw [hk] at h;cases h
 | succ k=>
   rw [hk] at a;rw [bk] at a ⊢;rw [lap] at a
   have e : (bk (FX fx p) k).take ((bk (FX fx p) k).length - (FX fx p k).needs.length) = []:=by
    apply List.eq_nil_of_length_eq_zero;simp only [List.length_cons,List.length_nil] at a;omega
   rw [e];rfl
theorem vn : ∀ (ps : List (List α)),(∀ p,p ∈ ps -> rh fx p) -> bN (aX fx ps.flatten) ps.flatten.length = some ps.length /\ bk (FX fx ps.flatten) ps.flatten.length = ps.map (dG fx)
 | [],_=>⟨rfl,rfl⟩
 | p :: ps,h=>by
   obtain ⟨i1,i2⟩:=vn ps (fun q hq=>h q (List.mem_cons_of_mem _ hq));have hp:=h p (List.mem_cons_self ..);rw [List.flatten_cons,lap];refine ⟨?_,?_⟩
   ·rw [oH fx hp _ _ i1,List.length_cons,Nat.add_comm]
   ·rw [pf fx _ _ i1,i2,vr fx hp]
    rfl
theorem Cb {qs : List (List α)} (h : ∀ p,p ∈ qs -> rh fx p) {t : α} {f : Fm} (hf : fx t = some f) (hn : f.needs.length = qs.length) : rh fx (qs.flatten ++ [t]):=by
 obtain ⟨b,_⟩:=vn fx qs h;unfold rh
 have a : aX fx (qs.flatten ++ [t]) qs.flatten.length = some qs.length:=by
  have:=oj fx qs.flatten [t] 0;rw [Nat.add_zero] at this;rw [this,<- hn];simp [aX,hf]
 rw [lap,List.length_singleton,bN,js fx _ (nlr _),b,a];simp
theorem uc (ts : List α) : ∀ (k h : Nat),k <= ts.length -> bN (aX fx ts) k = some h -> ∃ ps : List (List α),ps.length = h /\ ts.take k = ps.flatten /\ ∀ p,p ∈ ps -> rh fx p
 | 0,h,_,hv=>by
   cases hv;exact ⟨[],rfl,by simp,fun p hp=>by cases hp⟩
 | k + 1,h,hk,hv=>by
   obtain ⟨h0,n,e1,e2,hn,rfl⟩:=gJ fx hv;obtain ⟨ps,hl,ht,ho⟩:=uc ts k h0 (by omega) e1;have hkl : k < ts.length:=by omega
   have b : ∃ f,fx ts[k] = some f /\ f.needs.length = n:=by
    unfold aX at e2;rw [List.getElem?_eq_getElem hkl] at e2
    cases e : fx ts[k] with
    | none=>simp [e] at e2
    | some f=>exact ⟨f,rfl,by simpa [e] using e2⟩
   obtain ⟨f,b,a⟩:=b;refine ⟨ps.take (h0 - n) ++ [(ps.drop (h0 - n)).flatten ++ [ts[k]]],?_,?_,?_⟩
   ·rw [lap,List.length_take,hl]
    simp
   ·rw [List.take_add_one,List.getElem?_eq_getElem hkl,ht,List.flatten_append,List.flatten_singleton,<- List.append_assoc,<- List.flatten_append,List.take_append_drop]
    rfl
   ·intro p hp
    rcases List.mem_append.1 hp with z | z
    ·exact ho p (List.mem_of_mem_take z)
    ·rw [ms1 z]
     exact Cb fx (fun q hq=>ho q (List.mem_of_mem_drop hq)) b (by rw [a,List.length_drop,hl];omega)
theorem vA {ts : List α} (h : rh fx ts) : ∃ (ps : List (List α)) (t : α) (f : Fm),ts = ps.flatten ++ [t] /\ fx t = some f /\ f.needs.length = ps.length /\ (∀ p,p ∈ ps -> rh fx p) /\ dG fx ts = (aC f.needs f.texts (ps.map (dG fx)),f.lev):=by
 have x:=h;unfold rh at h
 cases hk : ts.length with
 | zero=>rw [hk] at h;cases h
 | succ k=>
   rw [hk] at h;obtain ⟨j,n,u,d,y,v⟩:=gJ fx h;have q : j = n:=by omega
   subst q;obtain ⟨ps,o,m,l⟩:=uc fx ts k j (by omega) u;have a : k < ts.length:=by omega
   have g : ∃ f,fx ts[k] = some f /\ f.needs.length = j:=by
    unfold aX at d;rw [List.getElem?_eq_getElem a] at d
    cases e : fx ts[k] with
    | none=>simp [e] at d
    | some f=>exact ⟨f,rfl,by simpa [e] using d⟩
   obtain ⟨f,g,c⟩:=g
   have b : ts = ps.flatten ++ [ts[k]]:=by
    have:=List.take_append_drop k ts;rw [m,List.drop_eq_getElem_cons a,List.drop_of_length_le (by omega)] at this;exact this.symm
   have i : ps.flatten.length = k:=by rw [<- m,List.length_take];omega
   refine ⟨ps,ts[k],f,b,g,by rw [c,o],l,?_⟩
   have r : FX fx ts k = f:=by
    unfold FX;rw [List.getElem?_eq_getElem a];simp [g]
   have s : bk (FX fx ts) k = ps.map (dG fx):=by
    rw [<- (vn fx ps l).2,i]
    conv=>lhs;rw [b]
    exact jm fx k (by omega)
   unfold dG;rw [hk,pw,r,s,List.length_map,o,c,Nat.sub_self];rfl
end
def lK : ByteArray:=⟨#[61]⟩
def pJ : ByteArray:=⟨#[44]⟩
def kf : ByteArray:=⟨#[43]⟩
def j5 : ByteArray:=⟨#[60]⟩
def d8 : ByteArray:=⟨#[59]⟩
def qt : ByteArray:=⟨#[102,117,110]⟩
def yY : ByteArray:=⟨#[105,102]⟩
def j7 : ByteArray:=⟨#[116,104,101,110]⟩
def kD : ByteArray:=⟨#[101,108,115,101]⟩
def qq : ByteArray:=⟨#[105,109,112,111,114,116]⟩
def lq : ByteArray:=⟨#[116,121,112,101]⟩
def kY : ByteArray:=⟨#[118,97,108]⟩
theorem eu {s : ByteArray} (hs : s.size = 1) (h : sg (bt s 0) = true) : Nw s:=by
 refine ⟨by omega,?_⟩;unfold sg at h;have:=of_decide_eq_true h;unfold wb;exact decide_eq_false (by omega)
theorem cS {a b : ByteArray} (h : Nw a) : Nw (a ++ b):=⟨by rw [bsa];have:=h.1;omega,h.app b⟩
theorem mi : Nw Cr:=⟨by decide,by decide⟩
theorem fD : cZ Cr []:=lL (.inl rfl)
theorem zg : cZ aQ [aj aQ]:=bD rfl (by decide)
theorem Cf : cZ xO [aj xO]:=bD rfl (by decide)
theorem BI : cZ xC [aj xC]:=bD rfl (by decide)
theorem yp : cZ sL [aj sL]:=bD rfl (by decide)
theorem xB : cZ sR [aj sR]:=bD rfl (by decide)
theorem BM : cZ gi [aj gi]:=bD rfl (by decide)
theorem BK : cZ iC [aj iC]:=bD rfl (by decide)
theorem CU : cZ lK [aj lK]:=bD rfl (by decide)
theorem CX : cZ pJ [aj pJ]:=bD rfl (by decide)
theorem zK : cZ kf [aj kf]:=bD rfl (by decide)
theorem AH : cZ j5 [aj j5]:=bD rfl (by decide)
theorem zH : cZ d8 [aj d8]:=bD rfl (by decide)
theorem yR : cZ zu [aj xO,aj xC]:=Cf.app BI
theorem zD : cZ iu [aj uo]:=fD.app (sE.app fD)
theorem uZ : cZ dz [aj aQ]:=zg.app fD
theorem t7 : cZ ft [aj lK]:=fD.app (CU.app fD)
theorem B7 : cZ ld [aj pJ]:=CX.app fD
theorem AX : cZ ij [aj sR]:=xB.app fD
theorem Bf : cZ mK [aj kf]:=fD.app (zK.app fD)
theorem yy : cZ iR [aj j5]:=fD.app (AH.app fD)
theorem pT : cZ iH [aj d8]:=zH.app (lL (.inr rfl))
theorem BV : fN jD [aj jD]:=bE (by decide) (by decide) (by decide)
theorem zC : fN eB [aj eB]:=bE (by decide) (by decide) (by decide)
theorem AW : fN d9 [aj d9]:=bE (by decide) (by decide) (by decide)
theorem xH : fN cg [aj cg]:=bE (by decide) (by decide) (by decide)
theorem BH : fN qt [aj qt]:=bE (by decide) (by decide) (by decide)
theorem Dd : fN yY [aj yY]:=bE (by decide) (by decide) (by decide)
theorem AB : fN j7 [aj j7]:=bE (by decide) (by decide) (by decide)
theorem AG : fN kD [aj kD]:=bE (by decide) (by decide) (by decide)
theorem BR : fN qq [aj qq]:=bE (by decide) (by decide) (by decide)
theorem Ce : fN lq [aj lq]:=bE (by decide) (by decide) (by decide)
theorem BD : fN kY [aj kY]:=bE (by decide) (by decide) (by decide)
theorem AL : cZ gu [aj qt,aj sL]:=BH.app (eu rfl (by decide)) yp
theorem B5 : cZ wP [aj yY]:=Dd.app mi fD
theorem wQ : cZ il [aj j7]:=fD.app (AB.app mi fD)
theorem yA : cZ iq [aj kD]:=fD.app (AG.app mi fD)
theorem A8 : cZ pQ [aj qq]:=BR.app mi fD
theorem Bg : cZ pL [aj lq]:=Ce.app mi fD
theorem As : cZ pV [aj kY]:=BD.app mi fD
theorem kA {s : ByteArray} (h : gn s = true) : 0 < s.size /\ sl (bt s 0) = true /\ ∀ j,j < s.size -> wb (bt s j) = true:=by
 have b : ¬ (s.size < 1 \/ 12 < s.size):=fun z=>by rw [fg z] at h;cases h
 have a : 0 < s.size:=by omega
 refine ⟨a,?_,fun j hj=>?_⟩
 ·rw [eA a]
  cases e : sl (s[0].toNat : Int)
  ·rw [jR a e] at h;cases h
  ·rfl
 ·rw [eA hj]
  cases e : wb (s[j].toNat : Int)
  ·rw [nj j hj e] at h;cases h
  ·rfl
theorem fJ {s : ByteArray} (h : gn s = true) : fN s [aj s]:=bE (kA h).1 (kA h).2.1 (kA h).2.2
theorem fB {s : ByteArray} (h : gn s = true) : (aj s).cls = 1:=by
 show cls s.data.toList = 1;unfold cls;have : pz s.data.toList = true:=h;rw [this];rfl
def cy (r : List TK) (s : List UInt8) : Prop:=∀ t r',r = t :: r' -> t.txt.data.toList ≠ s
theorem al {t : TK} {r : List TK} {s : List UInt8} (h : t.txt.data.toList ≠ s) : cy (t :: r) s:=fun _ _ e=>by cases e;exact h
theorem d7 (s : List UInt8) : cy [] s:=fun _ _ e=>by cases e
section
variable {all : List TK} {i : Nat} {t : TK} {r : List TK}
theorem Aa (h : all.drop i = t :: r) : all[i]? = some t:=by
 have : (all.drop i)[0]? = some t:=by rw [h];rfl
 rw [List.getElem?_drop,Nat.add_zero] at this;exact this
theorem ap (h : all.drop i = t :: r) (s : List UInt8) : isT all i s = (t.txt.data.toList == s):=by unfold isT;rw [Aa h]
theorem br (h : all.drop i = t :: r) (c : Int) : cr all i c = (t.cls == c):=by unfold cr;rw [Aa h]
theorem lw (h : all.drop i = t :: r) : tx all i = t.txt:=by unfold tx;rw [Aa h];rfl
theorem aJ (h : all.drop i = t :: r) : all.drop (i + 1) = r:=by rw [<- List.drop_drop,h];rfl
theorem cf {a b : List TK} (h : all.drop i = a ++ b) : all.drop (i + a.length) = b:=by rw [<- List.drop_drop,h,List.drop_append_of_le_length (nlr _)];simp
theorem gl (h : all.drop i = r) {s : List UInt8} (hn : cy r s) : isT all i s = false:=by
 cases r with
 | nil=>
   unfold isT
   have : all[i]? = none:=by
    rw [List.getElem?_eq_none];have:=congrArg List.length h;rw [List.length_drop,List.length_nil] at this;omega
   rw [this]
 | cons t r'=>rw [ap h];exact bn2 (hn t r' rfl)
theorem d_len {l : List TK} (h : all.drop i = l) : i + l.length <= all.length \/ l = []:=by
 have:=congrArg List.length h;rw [List.length_drop] at this;by_cases e : l = []
 ·exact .inr e
 ·have:=List.length_pos_iff.2 e
  left;omega
end
def jL (sgn : TK) : List (ByteArray × List TK) -> List TK
 | []=>[]
 | x :: fs=>aj x.1 :: sgn :: (x.2 ++ (if fs.isEmpty then [aj xC] else aj pJ :: jL sgn fs))
def zM (r : List TK) : Prop:=∃ r',r = aj xC :: r' \/ r = aj pJ :: r'
theorem oW {α : Type} (all : List TK) (T : Nat -> Option (List α × Nat)) (sg : List UInt8) (sgn : TK) (hsg : sgn.txt.data.toList = sg) : ∀ (fs : List (ByteArray × List TK × List α)) (f j : Nat) (ns : List ByteArray) (its : List α) (r : List TK),fs ≠ [] -> all.drop j = jL sgn (fs.map fun x=>(x.1,x.2.1)) ++ r -> (∀ x,x ∈ fs -> gn x.1 = true) -> (ns ++ fs.map (·.1)).Nodup ->
  (∀ x,x ∈ fs -> ∀ i r',all.drop i = x.2.1 ++ r' -> zM r' -> T i = some (x.2.2,i + x.2.1.length)) -> fs.length <= f -> cX all T sg f j ns its = some (its ++ fs.flatMap (·.2.2),ns ++ fs.map (·.1),j + (jL sgn (fs.map fun x=>(x.1,x.2.1))).length)
 | [],_,_,_,_,_,h,_,_,_,_,_=>absurd rfl h
 | x :: fs,0,_,_,_,_,_,_,_,_,_,hf=>absurd hf (by simp)
 | x :: fs,f + 1,j,ns,its,r,_,hd,hg,hn,hT,hf=>by
   obtain ⟨n,l,p⟩:=x;simp only [List.map_cons,jL] at hd ⊢;have hgn:=hg (n,l,p) (List.mem_cons_self ..);have h1 : all.drop j = aj n :: (sgn :: (l ++ (if (fs.map fun x=>(x.1,x.2.1)).isEmpty then [aj xC] else aj pJ :: jL sgn (fs.map fun x=>(x.1,x.2.1)))) ++ r):=by rw [hd];rfl
   have k:=aJ h1;have a : all.drop (j + 1 + 1) = (l ++ (if (fs.map fun x=>(x.1,x.2.1)).isEmpty then [aj xC] else aj pJ :: jL sgn (fs.map fun x=>(x.1,x.2.1)))) ++ r:=aJ k;rw [List.append_assoc] at a
   have d : bC ns n = false:=by
    unfold bC;rw [List.any_eq_false];intro y q e
    have m : y = n:=by
     cases y;cases n;simp only [ByteArray.mk.injEq];exact Array.toList_inj.1 (beq_iff_eq.1 e)
    rw [List.nodup_append] at hn;exact hn.2.2 y q n (List.mem_cons_self ..) m
   rw [cX,br h1,fB hgn];simp only [beq_self_eq_true,if_true];rw [lw h1];show (if bC ns n = true then none else _) = _;rw [d];simp only [Bool.false_eq_true,if_false];rw [ap k,hsg];simp only [beq_self_eq_true,if_true]
   cases fs with
   | nil=>
     simp only [List.map_nil,List.isEmpty_nil,if_true] at a ⊢;have c:=hT (n,l,p) (List.mem_cons_self ..) (j + 1 + 1) _ a ⟨r,.inl rfl⟩;simp only at c;have b : all.drop (j + 1 + 1 + l.length) = aj xC :: r:=cf a;rw [show j + 2 = j + 1 + 1 from rfl,c];simp only;rw [ap b];show (if (xC.data.toList == cw) = true then _ else _) = _;rw [show (xC.data.toList == cw) = true by decide];simp only [if_true];show some (its ++ p,ns ++ [n],j + 1 + 1 + l.length + 1) = _;simp only [List.flatMap_cons,List.flatMap_nil,List.append_nil,List.length_cons,lap,List.length_nil];congr 3;omega
   | cons y fs=>
     have g : (List.map (fun x=>(x.1,x.2.1)) (y :: fs)).isEmpty = false:=rfl;rw [g] at a ⊢;simp only [Bool.false_eq_true,if_false] at a ⊢;have c:=hT (n,l,p) (List.mem_cons_self ..) (j + 1 + 1) _ a ⟨_,.inr rfl⟩;simp only at c;have b : all.drop (j + 1 + 1 + l.length) = aj pJ :: (jL sgn (List.map (fun x=>(x.1,x.2.1)) (y :: fs)) ++ r):=cf a;rw [show j + 2 = j + 1 + 1 from rfl,c];simp only;rw [ap b,ap b];show (if (pJ.data.toList == cw) = true then _ else if (pJ.data.toList == eK) = true then _ else _) = _;rw [show (pJ.data.toList == cw) = false by decide,show (pJ.data.toList == eK) = true by decide];simp only [Bool.false_eq_true,if_false,if_true];have o:=oW all T sg sgn hsg (y :: fs) f (j + 1 + 1 + l.length + 1) (ns ++ [n]) (its ++ p) r (by simp) (aJ b) (fun z hz=>hg z (List.mem_cons_of_mem _ hz)) (by rw [List.append_assoc];exact hn) (fun z hz=>hT z (List.mem_cons_of_mem _ hz)) (by simp at hf ⊢;omega);show cX all T sg f (j + 1 + 1 + l.length + 1) (ns ++ [n]) (its ++ p) = _;rw [o];simp only [List.map_cons,List.flatMap_cons,List.append_assoc,List.singleton_append,List.length_cons,lap];congr 3;omega
theorem ba0 {s : ByteArray} (h : s.size = 0) : s = e0:=by
 cases s with
 | mk d=>
   have : d = #[]:=Array.eq_empty_of_size_eq_zero h;rw [this];rfl
theorem eJ {α : Type} {l : List α} (h : l.length = 0) : l = []:=List.length_eq_zero_iff.1 h
theorem fT_all {t : TI} {f : Fm} (h : fT t = some f) : (∃ md nm,t = ⟨4,md,nm,[]⟩ /\ aI md nm = true /\ f = ⟨1,[],[ia md nm]⟩) \/ (∃ ns,t = ⟨5,e0,e0,ns⟩ /\ dN ns = true /\ f = fF ns dz 1) \/ (t = cV 1 /\ f = ⟨1,[],[jD]⟩) \/ (t = cV 2 /\ f = ⟨1,[],[eB]⟩) \/ (t = cV 3 /\ f = ⟨1,[],[iC]⟩) \/ (t = cV 6 /\ f = ⟨0,[1,0],[e0,iu,e0]⟩):=by
 obtain ⟨b,md,nm,ns⟩:=t;unfold fT at h;simp only at h;by_cases k : b = 4
 ·rw [if_pos k] at h
  by_cases a : (aI md nm && decide (ns.length = 0)) = true
  ·rw [if_pos a] at h
   rw [Bool.and_eq_true] at a;have:=eJ (of_decide_eq_true a.2);subst this;subst k;exact .inl ⟨md,nm,rfl,a.1,(Option.some.inj h).symm⟩
  ·rw [if_neg a] at h;cases h
 ·rw [if_neg k] at h
  by_cases c : md.size = 0 /\ nm.size = 0
  ·rw [if_pos c] at h
   have n:=ba0 c.1;have m:=ba0 c.2;subst n;subst m;by_cases g : b = 5
   ·rw [if_pos g] at h
    by_cases a : dN ns = true
    ·rw [if_pos a] at h
     subst g;exact .inr (.inl ⟨ns,rfl,a,(Option.some.inj h).symm⟩)
    ·rw [if_neg a] at h;cases h
   ·rw [if_neg g] at h
    by_cases j : ns.length = 0
    ·rw [if_pos j] at h
     have:=eJ j;subst this;by_cases e : b = 1
     ·rw [if_pos e] at h;subst e;exact .inr (.inr (.inl ⟨rfl,(Option.some.inj h).symm⟩))
     ·rw [if_neg e] at h
      by_cases i : b = 2
      ·rw [if_pos i] at h;subst i;exact .inr (.inr (.inr (.inl ⟨rfl,(Option.some.inj h).symm⟩)))
      ·rw [if_neg i] at h
       by_cases d : b = 3
       ·rw [if_pos d] at h;subst d;exact .inr (.inr (.inr (.inr (.inl ⟨rfl,(Option.some.inj h).symm⟩))))
       ·rw [if_neg d] at h
        by_cases l : b = 6
        ·rw [if_pos l] at h;subst l;exact .inr (.inr (.inr (.inr (.inr ⟨rfl,(Option.some.inj h).symm⟩))))
        ·rw [if_neg l] at h;cases h
    ·rw [if_neg j] at h;cases h
  ·rw [if_neg c] at h;cases h
def sY (md nm : ByteArray) : List TK:=if md.size = 0 then [aj nm] else [aj md,aj aQ,aj nm]
theorem fw {md nm : ByteArray} (h : aI md nm = true) : gn nm = true /\ (md.size = 0 \/ gn md = true):=by
 unfold aI at h;rw [Bool.and_eq_true,Bool.or_eq_true] at h;exact ⟨h.1,h.2.imp of_decide_eq_true id⟩
theorem tS {md nm : ByteArray} (h : aI md nm = true) : fN (ia md nm) (sY md nm):=by
 obtain ⟨a,b⟩:=fw h;unfold ia sY
 split
 ·exact fJ a
 ·rename_i hz
  have c:=b.resolve_left hz;exact ((fJ c).app (eu rfl (by decide)) zg).appW (fJ a)
theorem rV (st : Bool) {md nm : ByteArray} (h : aI md nm = true) {all : List TK} {i : Nat} {r : List TK} (hd : all.drop i = sY md nm ++ r) (hn : cy r aB) : cr all i 1 = true /\ bW st all i = some (md,nm,i + (sY md nm).length):=by
 obtain ⟨b,f⟩:=fw h;unfold sY at hd ⊢
 split at hd
 ·rename_i hz
  rw [if_pos hz];have a : all.drop i = aj nm :: r:=hd;refine ⟨by rw [br a,fB b];rfl,?_⟩;unfold bW;rw [gl (aJ a) hn,lw a,ba0 hz];rfl
 ·rename_i hz
  rw [if_neg hz];have e:=f.resolve_left hz;have a : all.drop i = aj md :: aj aQ :: aj nm :: r:=hd;have d:=aJ a;have c:=aJ d;refine ⟨by rw [br a,fB e];rfl,?_⟩;unfold bW;rw [ap d,show ((aj aQ).txt.data.toList == aB) = true by decide,show i + 2 = i + 1 + 1 from rfl,br c,fB b,lw a,lw c];rfl
def NS (l : List TK) : Prop:=∀ t,t ∈ l -> t.txt.data.toList ≠ gx
theorem NS.nil : NS []:=fun t h=>by cases h
theorem NS.cons {t : TK} {l : List TK} (h : t.txt.data.toList ≠ gx) (k : NS l) : NS (t :: l):=fun x hx=>by
 rcases List.mem_cons.1 hx with rfl | z
 ·exact h
 ·exact k x z
theorem NS.app {a b : List TK} (h : NS a) (k : NS b) : NS (a ++ b):=fun x hx=>by
 rcases List.mem_append.1 hx with z | z
 ·exact h x z
 ·exact k x z
theorem dR {s : ByteArray} (h : gn s = true) : (aj s).txt.data.toList ≠ gx:=fun e=>by
 have : pz s.data.toList = true:=h;have e' : s.data.toList = gx:=e;rw [e'] at this
 revert this;decide
theorem uj {md nm : ByteArray} (h : aI md nm = true) : NS (sY md nm):=by
 obtain ⟨a,b⟩:=fw h;unfold sY
 split
 ·exact NS.nil.cons (dR a)
 ·rename_i hz
  exact ((NS.nil.cons (dR a)).cons (by decide)).cons (dR (b.resolve_left hz))
theorem vG {sgn : TK} (hs : sgn.txt.data.toList ≠ gx) : ∀ {fs : List (ByteArray × List TK)},(∀ x,x ∈ fs -> gn x.1 = true /\ NS x.2) -> NS (jL sgn fs)
 | [],_=>NS.nil
 | x :: fs,h=>by
   have hx:=h x (List.mem_cons_self ..);rw [jL];refine ((hx.2.app ?_).cons hs).cons (dR hx.1)
   split
   ·exact NS.nil.cons (by decide)
   ·exact (vG hs (fun z hz=>h z (List.mem_cons_of_mem _ hz))).cons (by decide)
theorem ra (sign : ByteArray) (sgn : TK) (hs : cZ sign [sgn]) (hns : Nw sign) : ∀ (xs : List (ByteArray × Wh × List TK)) (ah : ByteArray) (la : List TK),cZ ah la -> Nw ah -> (∀ x,x ∈ xs -> gn x.1 = true /\ fN x.2.1.1 x.2.2) -> cZ (aC (List.replicate xs.length 0) (jq sign ah (xs.map (·.1))) (xs.map (·.2.1))) (if xs.isEmpty then [aj xC] else la ++ jL sgn (xs.map fun x=>(x.1,x.2.2))) /\ Nw (aC (List.replicate xs.length 0) (jq sign ah (xs.map (·.1))) (xs.map (·.2.1)))
 | [],ah,la,_,_,_=>⟨BI,eu (s:=xC) rfl (by decide)⟩
 | x :: xs,ah,la,ha,hna,hx=>by
   obtain ⟨n,p,l⟩:=x;obtain ⟨hg,hp⟩:=hx (n,p,l) (List.mem_cons_self ..);obtain ⟨i1,i2⟩:=ra sign sgn hs hns xs ld [aj pJ] B7 ⟨by decide,by decide⟩ (fun z hz=>hx z (List.mem_cons_of_mem _ hz))
   have e : aC (List.replicate ((n,p,l) :: xs).length 0) (jq sign ah (((n,p,l) :: xs).map (·.1))) (((n,p,l) :: xs).map (·.2.1)) = ah ++ n ++ sign ++ p.1 ++ aC (List.replicate xs.length 0) (jq sign ld (xs.map (·.1))) (xs.map (·.2.1)):=by
    show aC (0 :: List.replicate xs.length 0) ((ah ++ n ++ sign) :: jq sign ld (xs.map (·.1))) (p :: xs.map (·.2.1)) = _;rw [aC];unfold brk;rw [if_neg (Nat.not_lt_zero _)]
   rw [e];refine ⟨?_,cS (cS (cS (cS hna)))⟩;have b:=((ha.appW (fJ hg)).app hns hs).appW hp;have a:=b.app i2 i1
   have c : la ++ [aj n] ++ [sgn] ++ l ++ (if xs.isEmpty then [aj xC] else [aj pJ] ++ jL sgn (xs.map fun x=>(x.1,x.2.2))) = la ++ jL sgn (((n,p,l) :: xs).map fun x=>(x.1,x.2.2)):=by
    simp only [List.map_cons,jL];have : (List.map (fun x : ByteArray × Wh × List TK=>(x.1,x.2.2)) xs).isEmpty = xs.isEmpty:=by cases xs <;> rfl
    rw [this];simp
   rw [c] at a;exact a
structure qH (st : Bool) (ts : List TI) (l : List TK) : Prop where
 tok : fN (dG fT ts).1 l
 pos : 0 < l.length
 ns : NS l
 base : 1 <= (dG fT ts).2 -> ∀ (all : List TK) (i f : Nat) (r : List TK),all.drop i = l ++ r -> cy r aB -> l.length <= f -> aF st all (tyP st all f) i = some (ts,i + l.length)
 whole : ∀ (all : List TK) (i f : Nat) (r : List TK),all.drop i = l ++ r -> cy r aB -> cy r iF -> l.length <= f -> tyP st all (f + 1) i = some (ts,i + l.length)
theorem qH.of_base {st : Bool} {ts : List TI} {l : List TK} (h1 : fN (dG fT ts).1 l) (h2 : 0 < l.length) (hs : NS l) (h3 : ∀ (all : List TK) (i f : Nat) (r : List TK),all.drop i = l ++ r -> cy r aB -> l.length <= f -> aF st all (tyP st all f) i = some (ts,i + l.length)) : qH st ts l:=
 ⟨h1,h2,hs,fun _=>h3,fun all i f r hd hc ha hf=>by
  rw [tyP,h3 all i f r hd hc hf];simp only;rw [gl (cf hd) ha];rfl⟩
theorem Aj {st : Bool} {ts : List TI} {l : List TK} (h : qH st ts l) {all : List TK} {i f : Nat} {r : List TK} (hd : all.drop i = aj sL :: (l ++ aj sR :: r)) (hf : l.length + 2 <= f) : aF st all (tyP st all f) i = some (ts,i + (l.length + 2)):=by
 have a:=aJ hd;obtain ⟨g,rfl⟩ : ∃ g,f = g + 1:=⟨f - 1,by omega⟩;have b:=h.whole all (i + 1) g _ a (al (by decide)) (al (by decide)) (by omega);have c:=cf a;unfold aF;rw [br hd,show ((aj sL).cls == 1) = false by decide,ap hd,ap hd,ap hd,ap hd,ap hd];rw [show ((aj sL).txt.data.toList == jb) = false by decide,show ((aj sL).txt.data.toList == fL) = false by decide,show ((aj sL).txt.data.toList == lA) = false by decide,show ((aj sL).txt.data.toList == dI) = false by decide,show ((aj sL).txt.data.toList == cQ) = true by decide];simp only [Bool.false_eq_true,if_false,if_true];unfold bO;rw [b];simp only;rw [ap c,show ((aj sR).txt.data.toList == bA) = true by decide];simp only [if_true];congr 2;omega
theorem kH {ns : List ByteArray} (h : dN ns = true) : (∀ n,n ∈ ns -> gn n = true) /\ ns.Nodup:=by
 have b : ∀ i (a : i < ns.length),gn ns[i] = true /\ bC (ns.take i) ns[i] = false:=fun i a=>by
  unfold dN at h;have:=List.all_eq_true.1 h i (List.mem_range.2 a);rw [Bool.and_eq_true,List.getD_eq_getElem?_getD,List.getElem?_eq_getElem a] at this;exact ⟨this.1,by simpa using this.2⟩
 refine ⟨fun n hn=>?_,?_⟩
 ·obtain ⟨i,a,rfl⟩:=List.getElem_of_mem hn
  exact (b i a).1
 ·refine List.pairwise_iff_getElem.2 fun i j a hj hij e=>?_
  have c:=(b j hj).2;unfold bC at c;rw [List.any_eq_false] at c;refine c ns[i] (List.mem_take_iff_getElem.2 ⟨i,by omega,rfl⟩) ?_;rw [e];exact beq_iff_eq.2 rfl
def dO {α : Type} (g : List α -> List TK) (ns : List ByteArray) (ps : List (List α)) : List (ByteArray × List TK × List α):=(ns.zip ps).map fun x=>(x.1,g x.2,x.2)
theorem ke {α : Type} (g : List α -> List TK) {ns : List ByteArray} {ps : List (List α)} (h : ns.length = ps.length) : (dO g ns ps).map (·.1) = ns:=by
 unfold dO;rw [List.map_map];show (ns.zip ps).map (fun x=>x.1) = ns;exact List.map_fst_zip (Nat.le_of_eq h)
theorem qz {α : Type} (g : List α -> List TK) {ns : List ByteArray} {ps : List (List α)} (h : ns.length = ps.length) : (dO g ns ps).flatMap (·.2.2) = ps.flatten:=by
 unfold dO;rw [List.flatMap_def,List.map_map];show ((ns.zip ps).map fun x=>x.2).flatten = ps.flatten;rw [List.map_snd_zip (Nat.le_of_eq h.symm)]
theorem eW {α : Type} {g : List α -> List TK} {ns : List ByteArray} {ps : List (List α)} {x : ByteArray × List TK × List α} (h : x ∈ dO g ns ps) : x.1 ∈ ns /\ x.2.2 ∈ ps /\ x.2.1 = g x.2.2:=by
 obtain ⟨y,a,rfl⟩:=List.mem_map.1 h;exact ⟨(List.of_mem_zip a).1,(List.of_mem_zip a).2,rfl⟩
theorem ua {α : Type} (g : List α -> List TK) {ns : List ByteArray} {ps : List (List α)} (h : ns.length = ps.length) : (dO g ns ps).length = ns.length:=by
 unfold dO;rw [List.length_map,List.length_zip,h,Nat.min_self]
theorem yK (sgn : TK) {fs : List (ByteArray × List TK)} (h : fs ≠ []) : fs.length + 2 <= (jL sgn fs).length:=by
 induction fs with
 | nil=>exact absurd rfl h
 | cons x fs ih=>
   simp only [jL,List.length_cons,lap]
   cases fs with
   | nil=>simp
   | cons y fs=>
     have:=ih (by simp);simp only [List.isEmpty_cons,Bool.false_eq_true,if_false,List.length_cons] at this ⊢;omega
theorem oN (sgn : TK) {fs : List (ByteArray × List TK)} {x : ByteArray × List TK} (h : x ∈ fs) : x.2.length + 3 <= (jL sgn fs).length:=by
 induction fs with
 | nil=>cases h
 | cons y fs ih=>
   rw [jL,List.length_cons,List.length_cons,lap];rcases List.mem_cons.1 h with rfl | h
   ·split
    ·simp
    ·simp
   ·have:=ih h
    have a : fs.isEmpty = false:=by cases fs with
     | nil=>cases h
     | cons=>rfl
    rw [a];simp only [Bool.false_eq_true,if_false,List.length_cons];omega
theorem vI {α : Type} {sgn : TK} (hs : sgn.txt.data.toList ≠ gx) {g : List α -> List TK} {ns : List ByteArray} {ps : List (List α)} (hg : ∀ n,n ∈ ns -> gn n = true) (hp : ∀ p,p ∈ ps -> NS (g p)) : NS (jL sgn ((dO g ns ps).map fun x=>(x.1,x.2.1))):=vG hs fun x hx=>by
 obtain ⟨y,hy,rfl⟩:=List.mem_map.1 hx;obtain ⟨h1,h2,h3⟩:=eW hy;exact ⟨hg _ h1,by show NS y.2.1;rw [h3];exact hp _ h2⟩
theorem oh {α : Type} (wh : List α -> Wh) (g : List α -> List TK) (sign : ByteArray) (sgn : TK) (hs : cZ sign [sgn]) (hns : Nw sign) {ns : List ByteArray} {ps : List (List α)} (hl : ns.length = ps.length) (h0 : ns.length ≠ 0) (hg : ∀ n,n ∈ ns -> gn n = true) (hp : ∀ p,p ∈ ps -> fN (wh p).1 (g p)) :
  cZ (aC (List.replicate ns.length 0) (jq sign xO ns) (ps.map wh)) (aj xO :: jL sgn ((dO g ns ps).map fun x=>(x.1,x.2.1))):=by
 have h:=(ra sign sgn hs hns ((ns.zip ps).map fun x=>(x.1,wh x.2,g x.2)) xO [aj xO] Cf ⟨by decide,by decide⟩ (fun x hx=>by
  obtain ⟨y,b,rfl⟩:=List.mem_map.1 hx;exact ⟨hg _ (List.of_mem_zip b).1,hp _ (List.of_mem_zip b).2⟩)).1
 have a : ((ns.zip ps).map fun x=>(x.1,wh x.2,g x.2)).length = ns.length:=by rw [List.length_map,List.length_zip,hl,Nat.min_self]
 have c : ((ns.zip ps).map fun x=>(x.1,wh x.2,g x.2)).map (·.1) = ns:=by
  rw [List.map_map];exact List.map_fst_zip (Nat.le_of_eq hl)
 have d : ((ns.zip ps).map fun x=>(x.1,wh x.2,g x.2)).map (·.2.1) = ps.map wh:=by
  rw [List.map_map];show (ns.zip ps).map (wh ∘ Prod.snd) = _;rw [<- List.map_map,List.map_snd_zip (Nat.le_of_eq hl.symm)]
 have i : ((ns.zip ps).map fun x=>(x.1,wh x.2,g x.2)).isEmpty = false:=by
  rw [List.isEmpty_eq_false_iff];intro e;rw [e] at a;exact h0 a.symm
 have f : ((ns.zip ps).map fun x=>(x.1,wh x.2,g x.2)).map (fun x=>(x.1,x.2.2)) = (dO g ns ps).map fun x=>(x.1,x.2.1):=by
  unfold dO;rw [List.map_map,List.map_map];rfl
 rw [a,c,d,i,f] at h;exact h
theorem rH {α : Type} (all : List TK) (T : Nat -> Option (List α × Nat)) (sg : List UInt8) (sgn : TK) (hsg : sgn.txt.data.toList = sg) (g : List α -> List TK) {ns : List ByteArray} {ps : List (List α)} (hl : ns.length = ps.length) (h0 : ns.length ≠ 0) (hg : ∀ n,n ∈ ns -> gn n = true) (hn : ns.Nodup) {j : Nat} {r : List TK} (hd : all.drop j = jL sgn ((dO g ns ps).map fun x=>(x.1,x.2.1)) ++ r)
  (hT : ∀ p,p ∈ ps -> ∀ i r',all.drop i = g p ++ r' -> zM r' -> T i = some (p,i + (g p).length)) : aH all T sg j = some (ps.flatten,ns,j + (jL sgn ((dO g ns ps).map fun x=>(x.1,x.2.1))).length):=by
 have k:=ua g hl;have c : dO g ns ps ≠ []:=fun e=>by rw [e] at k;exact h0 k.symm
 have m : isT all j cw = false:=by
  obtain ⟨x,b,d⟩ : ∃ x b,dO g ns ps = x :: b:=by
   cases e : dO g ns ps with
   | nil=>exact absurd e c
   | cons x b=>exact ⟨x,b,rfl⟩
  rw [d] at hd;have a : all.drop j = aj x.1 :: ((sgn :: (x.2.1 ++ (if (b.map fun x=>(x.1,x.2.1)).isEmpty then [aj xC] else aj pJ :: jL sgn (b.map fun x=>(x.1,x.2.1))))) ++ r):=hd;rw [ap a];have l:=hg x.1 (eW (g:=g) (ps:=ps) (by rw [d];exact List.mem_cons_self ..)).1;rw [beq_eq_false_iff_ne];intro e
  have : pz cw = true:=by
   rw [<- e];exact l
  revert this
  decide
 unfold aH;rw [m];simp only [Bool.false_eq_true,if_false];have f:=d_len hd;have s:=yK sgn (fs:=(dO g ns ps).map fun x=>(x.1,x.2.1)) (by simp [c]);rw [List.length_map] at s
 have h:=oW all T sg sgn hsg (dO g ns ps) (all.length + 1) j [] [] r c hd (fun x d=>hg x.1 (eW d).1) (by rw [List.nil_append,ke g hl];exact hn) (fun x d i r' a he=>by
  obtain ⟨_,q,o⟩:=eW d;rw [o] at a ⊢
  exact hT x.2.2 q i r' a he) (by
   rcases f with z | z
   ·rw [lap] at z;omega
   ·have:=congrArg List.length z
    rw [lap,List.length_nil] at this;omega)
 rw [h,ke g hl,qz g hl,List.nil_append,List.nil_append]
theorem zv {α : Type} {fx : α -> Option Fm} {p : List α} (h : rh fx p) : 0 < p.length:=by
 cases e : p.length with
 | zero=>unfold rh at h;rw [e] at h;cases h
 | succ n=>exact Nat.succ_pos n
theorem po {α : Type} {ps : List (List α)} {p : List α} (h : p ∈ ps) : p.length <= ps.flatten.length:=by
 induction ps with
 | nil=>cases h
 | cons q ps ih=>
   rw [List.flatten_cons,lap];rcases List.mem_cons.1 h with rfl | h
   ·omega
   ·have:=ih h;omega
theorem dT {r : List TK} (h : zM r) {s : List UInt8} (h1 : xC.data.toList ≠ s) (h2 : pJ.data.toList ≠ s) : cy r s:=by
 obtain ⟨a,rfl | rfl⟩:=h
 ·exact al h1
 ·exact al h2
theorem qN (st : Bool) : ∀ (n : Nat) (ts : List TI),ts.length <= n -> rh fT ts -> ∃ l,qH st ts l
 | 0,ts,hl,h=>by
   have:=zv h;omega
 | n + 1,ts,hl,h=>by
   obtain ⟨ps,t,f,hts,hf,hn,ho,hw⟩:=vA fT h
   have hps : ∀ p,p ∈ ps -> p.length <= n:=fun p hp=>by
    have h1:=po hp;have h2:=congrArg List.length hts;rw [lap,List.length_singleton] at h2;omega
   obtain ⟨g,hg⟩ : ∃ g : List TI -> List TK,∀ p,p ∈ ps -> qH st p (g p):=by
    classical
    refine ⟨fun p=>if e : ∃ l,qH st p l then e.choose else [],fun p hp=>?_⟩;have e:=qN st n p (hps p hp) (ho p hp);show qH st p (if e : ∃ l,qH st p l then e.choose else []);rw [dif_pos e];exact e.choose_spec
   rcases fT_all hf with ⟨Q,P,rfl,hp,rfl⟩ | ⟨m,rfl,F,rfl⟩ | ⟨rfl,rfl⟩ | ⟨rfl,rfl⟩ | ⟨rfl,rfl⟩ | ⟨rfl,rfl⟩
   ·have e0 : ps = []:=eJ hn.symm
    subst e0;have d : (dG fT ts).1 = ia Q P:=by rw [hw];rfl
    refine ⟨sY Q P,qH.of_base (by rw [d];exact tS hp) (by unfold sY;split <;> simp) (uj hp) fun all i f r hd hc hf=>?_⟩;obtain ⟨h1,h2⟩:=rV st hp hd hc;unfold aF;rw [h1,h2,hts];rfl
   ·have y : m.length = ps.length:=by rw [<- hn];exact (bq m dz 1).2.1.symm
    obtain ⟨u,L⟩:=kH F;by_cases E : m.length = 0
    ·have e0 : ps = []:=eJ (by omega)
     have V : m = []:=eJ E;subst e0;subst V;have d : (dG fT ts).1 = zu:=by rw [hw];rfl
     refine ⟨[aj xO,aj xC],qH.of_base (by rw [d];exact yR.w) (by simp) ((NS.nil.cons (by decide)).cons (by decide)) fun all i f r hd hc hf=>?_⟩;have c : all.drop i = aj xO :: aj xC :: r:=hd;have D:=aJ c;unfold aF;rw [br c,show ((aj xO).cls == 1) = false by decide,ap c,ap c,ap c,ap c];rw [show ((aj xO).txt.data.toList == jb) = false by decide,show ((aj xO).txt.data.toList == fL) = false by decide,show ((aj xO).txt.data.toList == lA) = false by decide,show ((aj xO).txt.data.toList == dI) = true by decide];simp only [Bool.false_eq_true,if_false,if_true];unfold aH;rw [ap D,show ((aj xC).txt.data.toList == cw) = true by decide];simp only [if_true];rw [hts];rfl
    ·have d : (dG fT ts).1 = aC (List.replicate m.length 0) (jq dz xO m) (ps.map (dG fT)):=by
      rw [hw];unfold fF;rw [if_neg E]
     have Z:=oh (dG fT) g dz (aj aQ) uZ ⟨by decide,by decide⟩ y E u (fun p hp=>(hg p hp).tok);refine ⟨aj xO :: jL (aj aQ) ((dO g m ps).map fun x=>(x.1,x.2.1)),qH.of_base (by rw [d];exact Z.w) (by simp) ((vI (by decide) u (fun p hp=>(hg p hp).ns)).cons (by decide)) fun all i f r hd hc hf=>?_⟩;have c : all.drop i = aj xO :: (jL (aj aQ) ((dO g m ps).map fun x=>(x.1,x.2.1)) ++ r):=hd;have D:=aJ c
     have I:=rH all (tyP st all f) aB (aj aQ) rfl g y E u L D (fun p hp i' r' hd2 he=>by
      have T : ∃ x,x ∈ dO g m ps /\ x.2.2 = p:=by
       obtain ⟨k,U,rfl⟩:=List.getElem_of_mem hp;refine ⟨(m[k],g ps[k],ps[k]),List.mem_map.2 ⟨(m[k],ps[k]),?_,rfl⟩,rfl⟩;exact List.mem_iff_getElem.2 ⟨k,by rw [List.length_zip];omega,List.getElem_zip⟩
      obtain ⟨x,O,M⟩:=T;have J:=(eW O).2.2;have B:=oN (aj aQ) (List.mem_map_of_mem (f:=fun x : ByteArray × List TK × List TI=>(x.1,x.2.1)) O);simp only at B;rw [J,M] at B;rw [List.length_cons] at hf;obtain ⟨v,rfl⟩ : ∃ v,f = v + 1:=⟨f - 1,by omega⟩;exact (hg p hp).whole all i' v r' hd2 (dT he (by decide) (by decide)) (dT he (by decide) (by decide)) (by omega))
     unfold aF;rw [br c,show ((aj xO).cls == 1) = false by decide,ap c,ap c,ap c,ap c];rw [show ((aj xO).txt.data.toList == jb) = false by decide,show ((aj xO).txt.data.toList == fL) = false by decide,show ((aj xO).txt.data.toList == lA) = false by decide,show ((aj xO).txt.data.toList == dI) = true by decide];simp only [Bool.false_eq_true,if_false,if_true];rw [I];simp only;rw [hts,List.length_cons];congr 2;omega
   ·have e0 : ps = []:=eJ hn.symm
    subst e0;have d : (dG fT ts).1 = jD:=by rw [hw];rfl
    refine ⟨[aj jD],qH.of_base (by rw [d];exact BV) (by simp) (NS.nil.cons (by decide)) fun all i f r hd hc hf=>?_⟩;have c : all.drop i = aj jD :: r:=hd;unfold aF;rw [br c,show ((aj jD).cls == 1) = false by decide,ap c,show ((aj jD).txt.data.toList == jb) = true by decide,hts];rfl
   ·have e0 : ps = []:=eJ hn.symm
    subst e0;have d : (dG fT ts).1 = eB:=by rw [hw];rfl
    refine ⟨[aj eB],qH.of_base (by rw [d];exact zC) (by simp) (NS.nil.cons (by decide)) fun all i f r hd hc hf=>?_⟩;have c : all.drop i = aj eB :: r:=hd;unfold aF;rw [br c,show ((aj eB).cls == 1) = false by decide,ap c,ap c,show ((aj eB).txt.data.toList == jb) = false by decide,show ((aj eB).txt.data.toList == fL) = true by decide,hts];rfl
   ·have e0 : ps = []:=eJ hn.symm
    subst e0;have d : (dG fT ts).1 = iC:=by rw [hw];rfl
    refine ⟨[aj iC],qH.of_base (by rw [d];exact BK.w) (by simp) (NS.nil.cons (by decide)) fun all i f r hd hc hf=>?_⟩;have c : all.drop i = aj iC :: r:=hd;unfold aF;rw [br c,show ((aj iC).cls == 1) = false by decide,ap c,ap c,ap c,show ((aj iC).txt.data.toList == jb) = false by decide,show ((aj iC).txt.data.toList == fL) = false by decide,show ((aj iC).txt.data.toList == lA) = true by decide,hts];rfl
   ·obtain ⟨a,b,rfl⟩ : ∃ a b,ps = [a,b]:=by
     match ps,hn with
     | [a,b],_=>exact ⟨a,b,rfl⟩
    have q:=hg a (by simp);have H:=hg b (by simp);have d : (dG fT ts).1 = e0 ++ brk 1 (dG fT a) ++ (iu ++ brk 0 (dG fT b) ++ e0):=by rw [hw];rfl
    have W : (dG fT ts).2 = 0:=by rw [hw]
    have Y : brk 0 (dG fT b) = (dG fT b).1:=by unfold brk;rw [if_neg (Nat.not_lt_zero _)]
    have z : ts = a ++ b ++ [cV 6]:=by rw [hts];simp
    obtain ⟨j,G,K,R,A⟩ : ∃ j,fN (brk 1 (dG fT a)) j /\ (∀ (all : List TK) (i f : Nat) (r : List TK),all.drop i = j ++ aj uo :: r -> j.length <= f -> aF st all (tyP st all f) i = some (a,i + j.length)) /\ 0 < j.length /\ NS j:=by
     unfold brk;by_cases o : (dG fT a).2 < 1
     ·rw [if_pos o]
      refine ⟨aj sL :: (g a ++ [aj sR]),?_,fun all i f r hd hf=>?_,by simp,(q.ns.app (NS.nil.cons (by decide))).cons (by decide)⟩
      ·have:=((yp.appW q.tok).app (eu (s:=sR) rfl (by decide)) xB).w
       simpa using this
      ·have c : all.drop i = aj sL :: (g a ++ aj sR :: aj uo :: r):=by rw [hd];simp
       have:=Aj q c (f:=f) (by simp at hf;omega);rw [this];simp
     ·rw [if_neg o]
      exact ⟨g a,q.tok,fun all i f r hd hf=>q.base (by omega) all i f _ hd (al (by decide)) hf,q.pos,q.ns⟩
    refine ⟨j ++ (aj uo :: g b),⟨?_,by rw [lap];omega,A.app (H.ns.cons (by decide)),fun o=>by rw [W] at o;omega,fun all i f r hd hc hr hf=>?_⟩⟩
    ·rw [d,Y]
     have h1 : fN (e0 ++ brk 1 (dG fT a)) j:=by
      have:=cZ.nil.appW G;simpa using this
     have h2 : fN (iu ++ (dG fT b).1 ++ e0) (aj uo :: g b):=by
      have:=zD.appW H.tok;rw [show iu ++ (dG fT b).1 ++ e0 = iu ++ (dG fT b).1 from ByteArray.append_empty];exact this
     exact h1.appW (cS (cS ⟨by decide,by decide⟩)) h2
    ·have C : all.drop i = j ++ aj uo :: (g b ++ r):=by rw [hd];simp
     rw [lap,List.length_cons] at hf;have D:=K all i f _ C (by omega);have N:=cf C;have S:=aJ N;obtain ⟨v,rfl⟩ : ∃ v,f = v + 1:=⟨f - 1,by omega⟩;have X:=H.whole all (i + j.length + 1) v r S hc hr (by omega);rw [tyP,D];simp only;rw [ap N,show ((aj uo).txt.data.toList == iF) = true by decide];simp only [if_true];rw [X];simp only;rw [z,lap,List.length_cons];congr 2;omega
def SA (r : List TK) : Prop:=cy r aB
def SP (r : List TK) : Prop:=SA r /\ cy r qr /\ cy r cQ
def SS (r : List TK) : Prop:=SP r /\ cy r lM
def SE (r : List TK) : Prop:=SS r /\ cy r jI
theorem mP {t : TK} {r : List TK} (h1 : t.txt.data.toList ≠ aB) (h2 : t.txt.data.toList ≠ qr) (h3 : t.txt.data.toList ≠ cQ) (h4 : t.txt.data.toList ≠ lM) (h5 : t.txt.data.toList ≠ jI) : SE (t :: r):=⟨⟨⟨al h1,al h2,al h3⟩,al h4⟩,al h5⟩
structure bH (st : Bool) (n : Nat) (es : List EI) (s : ByteArray) (l : List TK) : Prop where
 tok : fN s l
 pos : 0 < l.length
 ns : NS l
 hd : 1 <= n -> cy l ix /\ cy l sk
 atom : 4 <= n -> ∀ (all : List TK) (i f : Nat) (r : List TK),all.drop i = l ++ r -> SA r -> l.length <= f -> atomP st all (ay st all f) i = some (es,i + l.length)
 post : 3 <= n -> ∀ (all : List TK) (i f : Nat) (r : List TK),all.drop i = l ++ r -> SA r -> l.length <= f -> ∃ k,all.length + 1 <= k + l.length /\ postP st all (ay st all f) i = bu all (ay st all f) k es (i + l.length)
 sum : 2 <= n -> ∀ (all : List TK) (i f : Nat) (r : List TK),all.drop i = l ++ r -> SP r -> l.length <= f -> ∃ k,all.length + 1 <= k + l.length /\ cu st all (ay st all f) i = ek st all (ay st all f) k es (i + l.length)
 less : 1 <= n -> ∀ (all : List TK) (i f : Nat) (r : List TK),all.drop i = l ++ r -> SE r -> l.length <= f -> cY st all (ay st all f) i = some (es,i + l.length)
 whole : ∀ (all : List TK) (i f : Nat) (r : List TK),all.drop i = l ++ r -> SE r -> l.length <= f -> ay st all (f + 1) i = some (es,i + l.length)
theorem bH.mono {st : Bool} {n m : Nat} {es : List EI} {s : ByteArray} {l : List TK} (h : bH st n es s l) (hm : m <= n) : bH st m es s l:=
 ⟨h.tok,h.pos,h.ns,fun z=>h.hd (by omega),fun z=>h.atom (by omega),fun z=>h.post (by omega),fun z=>h.sum (by omega),fun z=>h.less (by omega),h.whole⟩
theorem fX {all : List TK} {i : Nat} {l r : List TK} (hp : 0 < l.length) (hd : all.drop i = l ++ r) : i + l.length <= all.length:=by
 rcases d_len hd with z | z
 ·rw [lap] at z;omega
 ·have:=congrArg List.length z
  rw [lap,List.length_nil] at this;omega
theorem bH.postS {st : Bool} {n : Nat} {es : List EI} {s : ByteArray} {l : List TK} (h : bH st n es s l) (hn : 3 <= n) {all : List TK} {i f : Nat} {r : List TK} (hd : all.drop i = l ++ r) (hr : SP r) (hf : l.length <= f) : postP st all (ay st all f) i = some (es,i + l.length):=by
 obtain ⟨k,b,e⟩:=h.post hn all i f r hd hr.1 hf;have:=fX h.pos hd;obtain ⟨a,rfl⟩ : ∃ a,k = a + 1:=⟨k - 1,by omega⟩;rw [e,bu,gl (cf hd) hr.2.1,gl (cf hd) hr.2.2];rfl
theorem bH.sumS {st : Bool} {n : Nat} {es : List EI} {s : ByteArray} {l : List TK} (h : bH st n es s l) (hn : 2 <= n) {all : List TK} {i f : Nat} {r : List TK} (hd : all.drop i = l ++ r) (hr : SS r) (hf : l.length <= f) : cu st all (ay st all f) i = some (es,i + l.length):=by
 obtain ⟨k,b,e⟩:=h.sum hn all i f r hd hr.1 hf;have:=fX h.pos hd;obtain ⟨a,rfl⟩ : ∃ a,k = a + 1:=⟨k - 1,by omega⟩;rw [e,ek,gl (cf hd) hr.2];rfl
theorem bH.of_whole {st : Bool} {es : List EI} {s : ByteArray} {l : List TK} (h1 : fN s l) (h2 : 0 < l.length) (hns : NS l) (h3 : ∀ (all : List TK) (i f : Nat) (r : List TK),all.drop i = l ++ r -> SE r -> l.length <= f -> ay st all (f + 1) i = some (es,i + l.length)) : bH st 0 es s l:=
 ⟨h1,h2,hns,fun z=>absurd z (by omega),fun z=>absurd z (by omega),fun z=>absurd z (by omega),fun z=>absurd z (by omega),fun z=>absurd z (by omega),h3⟩
theorem mD {l : List TK} (hp : 0 < l.length) {s : List UInt8} (h : cy l s) (r : List TK) : cy (l ++ r) s:=by
 cases l with
 | nil=>exact absurd hp (by simp)
 | cons t l=>intro a b e;cases e;exact h t l rfl
theorem bH.of_less {st : Bool} {es : List EI} {s : ByteArray} {l : List TK} (h1 : fN s l) (h2 : 0 < l.length) (hns : NS l) (hh : cy l ix /\ cy l sk) (h3 : ∀ (all : List TK) (i f : Nat) (r : List TK),all.drop i = l ++ r -> SE r -> l.length <= f -> cY st all (ay st all f) i = some (es,i + l.length)) : bH st 1 es s l:=
 ⟨h1,h2,hns,fun _=>hh,fun z=>absurd z (by omega),fun z=>absurd z (by omega),fun z=>absurd z (by omega),fun _=>h3,fun all i f r hd hr hf=>by
  rw [ay,gl hd (mD h2 hh.1 r),gl hd (mD h2 hh.2 r)];simp only [Bool.false_eq_true,if_false];exact h3 all i f r hd hr hf⟩
theorem bH.of_sum {st : Bool} {es : List EI} {s : ByteArray} {l : List TK} (h1 : fN s l) (h2 : 0 < l.length) (hns : NS l) (hh : cy l ix /\ cy l sk) (h3 : ∀ (all : List TK) (i f : Nat) (r : List TK),all.drop i = l ++ r -> SP r -> l.length <= f -> ∃ k,all.length + 1 <= k + l.length /\ cu st all (ay st all f) i = ek st all (ay st all f) k es (i + l.length)) : bH st 2 es s l:=by
 have b : ∀ (all : List TK) (i f : Nat) (r : List TK),all.drop i = l ++ r -> SE r -> l.length <= f -> cY st all (ay st all f) i = some (es,i + l.length):=fun all i f r hd hr hf=>by
  obtain ⟨k,c,e⟩:=h3 all i f r hd hr.1.1 hf;have:=fX h2 hd;obtain ⟨a,rfl⟩ : ∃ a,k = a + 1:=⟨k - 1,by omega⟩;rw [ek,gl (cf hd) hr.1.2] at e;unfold cY;rw [e];simp only [Bool.false_eq_true,if_false];rw [gl (cf hd) hr.2];rfl
 have h:=bH.of_less h1 h2 hns hh b;exact ⟨h1,h2,hns,fun _=>hh,fun z=>absurd z (by omega),fun z=>absurd z (by omega),fun _=>h3,fun _=>b,h.whole⟩
theorem bH.of_post {st : Bool} {es : List EI} {s : ByteArray} {l : List TK} (h1 : fN s l) (h2 : 0 < l.length) (hns : NS l) (hh : cy l ix /\ cy l sk) (h3 : ∀ (all : List TK) (i f : Nat) (r : List TK),all.drop i = l ++ r -> SA r -> l.length <= f -> ∃ k,all.length + 1 <= k + l.length /\ postP st all (ay st all f) i = bu all (ay st all f) k es (i + l.length)) : bH st 3 es s l:=by
 have b : ∀ (all : List TK) (i f : Nat) (r : List TK),all.drop i = l ++ r -> SP r -> l.length <= f -> ∃ k,all.length + 1 <= k + l.length /\ cu st all (ay st all f) i = ek st all (ay st all f) k es (i + l.length):=fun all i f r hd hr hf=>by
  obtain ⟨k,c,e⟩:=h3 all i f r hd hr.1 hf;have:=fX h2 hd;obtain ⟨a,rfl⟩ : ∃ a,k = a + 1:=⟨k - 1,by omega⟩;rw [bu,gl (cf hd) hr.2.1,gl (cf hd) hr.2.2] at e;refine ⟨all.length + 1,by omega,?_⟩;unfold cu;rw [e];rfl
 have h:=bH.of_sum h1 h2 hns hh b;exact ⟨h1,h2,hns,fun _=>hh,fun z=>absurd z (by omega),fun _=>h3,fun _=>b,fun _=>h.less (by omega),h.whole⟩
theorem bH.of_atom {st : Bool} {es : List EI} {s : ByteArray} {l : List TK} (h1 : fN s l) (h2 : 0 < l.length) (hns : NS l) (hh : cy l ix /\ cy l sk) (h3 : ∀ (all : List TK) (i f : Nat) (r : List TK),all.drop i = l ++ r -> SA r -> l.length <= f -> atomP st all (ay st all f) i = some (es,i + l.length)) : bH st 4 es s l:=by
 have a : ∀ (all : List TK) (i f : Nat) (r : List TK),all.drop i = l ++ r -> SA r -> l.length <= f -> ∃ k,all.length + 1 <= k + l.length /\ postP st all (ay st all f) i = bu all (ay st all f) k es (i + l.length):=fun all i f r hd hr hf=>by
  refine ⟨all.length + 1,by omega,?_⟩;unfold postP;rw [h3 all i f r hd hr hf]
 have h:=bH.of_post h1 h2 hns hh a;exact ⟨h1,h2,hns,fun _=>hh,fun _=>h3,fun _=>a,fun z=>h.sum (by omega),fun z=>h.less (by omega),h.whole⟩
theorem bH.brk {st : Bool} {n : Nat} {es : List EI} {s : ByteArray} {l : List TK} (h : bH st n es s l) : bH st 4 es (sL ++ s ++ sR) (aj sL :: (l ++ [aj sR])):=by
 refine bH.of_atom ?_ (by simp) ((h.ns.app (NS.nil.cons (by decide))).cons (by decide)) ⟨al (by decide),al (by decide)⟩ fun all i f r hd hr hf=>?_
 ·have:=((yp.appW h.tok).app (eu (s:=sR) rfl (by decide)) xB).w
  simpa using this
 ·have a : all.drop i = aj sL :: (l ++ aj sR :: r):=by rw [hd];simp
  have b:=aJ a;simp only [List.length_cons,lap,List.length_nil] at hf;obtain ⟨g,rfl⟩ : ∃ g,f = g + 1:=⟨f - 1,by omega⟩;have d:=h.whole all (i + 1) g _ b (mP (by decide) (by decide) (by decide) (by decide) (by decide)) (by omega);have c:=cf b;unfold atomP;rw [br a,br a,show ((aj sL).cls == 1) = false by decide,show ((aj sL).cls == 3) = false by decide,ap a,ap a,ap a,ap a];rw [show ((aj sL).txt.data.toList == fQ) = false by decide,show ((aj sL).txt.data.toList == eS) = false by decide,show ((aj sL).txt.data.toList == dI) = false by decide,show ((aj sL).txt.data.toList == cQ) = true by decide];simp only [Bool.false_eq_true,if_false,if_true];unfold bO;rw [d];simp only;rw [ap c,show ((aj sR).txt.data.toList == bA) = true by decide];simp only [if_true,List.length_cons,lap,List.length_nil];congr 2;omega
theorem bH.part {st : Bool} {w : Wh} {es : List EI} {l : List TK} (h : bH st w.2 es w.1 l) {need : Nat} (hn : need <= 4) : ∃ l',bH st need es (Proofs.YtihedobejcaapaaGreatDoor.brk need w) l':=by
 unfold Proofs.YtihedobejcaapaaGreatDoor.brk;by_cases a : w.2 < need
 ·rw [if_pos a]
  exact ⟨_,h.brk.mono hn⟩
 ·rw [if_neg a]
  exact ⟨l,h.mono (by omega)⟩
theorem zZ : ∀ d : Fin 10,(bV.extract d.val (d.val + 1)).data.toList = [(48 + d.val).toUInt8]:=by decide
theorem ka {d : Nat} (h : d < 10) : (bV.extract d (d + 1)).data.toList = [(48 + d).toUInt8]:=zZ ⟨d,h⟩
theorem rz : ∀ d : Fin 10,((48 + d.val).toUInt8).toNat = 48 + d.val:=by decide
structure Dr (n : Nat) (l : List UInt8) : Prop where
 val : ib l = (n : Int)
 pos : 0 < l.length
 all : ∀ b,b ∈ l -> 48 <= b.toNat /\ b.toNat <= 57
 lead : 10 <= n -> (l.headD 0).toNat ≠ 48
 one : n < 10 -> l.length = 1
theorem sO (l : List UInt8) (b : UInt8) : ib (l ++ [b]) = ib l * 10 + ((b.toNat : Int) - 48):=by
 unfold ib;rw [List.foldl_append];rfl
theorem uY : ∀ (k n : Nat),n <= k -> Dr n (bP n).data.toList:=by
 intro k
 induction k with
 | zero=>
   intro n o;have : n = 0:=by omega
   subst this;rw [bP,if_pos (by omega),ka (by omega)];exact ⟨by decide,by decide,by decide,fun h=>by omega,fun _=>rfl⟩
 | succ k ih=>
   intro n o;rw [bP];by_cases h : n < 10
   ·rw [if_pos h,ka h]
    have a:=rz ⟨n,h⟩;simp only at a;refine ⟨?_,by simp,fun b hb=>?_,fun c=>by omega,fun _=>rfl⟩
    ·show (0 : Int) * 10 + (((48 + n).toUInt8.toNat : Int) - 48) = n
     rw [a];omega
    ·rw [ms1 hb,a];omega
   ·rw [if_neg h]
    have I:=ih (n / 10) (by omega);have i : n % 10 < 10:=Nat.mod_lt _ (by omega)
    have e : (bP (n / 10) ++ bV.extract (n % 10) (n % 10 + 1)).data.toList = (bP (n / 10)).data.toList ++ [(48 + n % 10).toUInt8]:=by
     rw [ByteArray.data_append,Array.toList_append,ka i]
    have a:=rz ⟨n % 10,i⟩;simp only at a;rw [e];refine ⟨?_,by rw [lap];simp,fun b hb=>?_,fun _=>?_,fun c=>absurd c h⟩
    ·rw [sO,I.val,a]
     omega
    ·rcases List.mem_append.1 hb with z | z
     ·exact I.all b z
     ·rw [ms1 z,a];omega
    ·have j:=I.pos
     cases hl : (bP (n / 10)).data.toList with
     | nil=>rw [hl] at j;exact absurd j (by simp)
     | cons b l=>
       show b.toNat ≠ 48;by_cases d : 10 <= n / 10
       ·have:=I.lead d
        rw [hl] at this;exact this
       ·have g:=I.one (by omega)
        have c:=I.val;rw [hl] at g c;have : l = []:=eJ (by simpa using g);subst this;have m : (0 : Int) * 10 + ((b.toNat : Int) - 48) = ((n / 10 : Nat) : Int):=c;intro f;rw [f] at m;omega
theorem xz {n : Nat} (h : n <= 999999999) : fN (hU n) [aj (hU n)] /\ (aj (hU n)).cls = 3 /\ ib (hU n).data.toList = (n : Int) /\ cy [aj (hU n)] ix /\ cy [aj (hU n)] sk:=by
 have D:=uY n n (nlr _);have o : (bP n).size <= 9:=jw 9 n (by omega) (by omega);have m : 0 < (bP n).size:=D.pos
 have i : ∀ j (hj : j < (bP n).size),48 <= (bP n)[j].toNat /\ (bP n)[j].toNat <= 57:=fun j hj=>D.all _ (by
  have : (bP n)[j] = (bP n).data.toList[j]'hj:=rfl;rw [this];exact List.getElem_mem _)
 have k : ∃ b l,(bP n).data.toList = b :: l:=by
  cases e : (bP n).data.toList with
  | nil=>have:=D.pos;rw [e] at this;exact absurd this (by simp)
  | cons b l=>exact ⟨b,l,rfl⟩
 obtain ⟨b,l,a⟩:=k;have c : 48 <= b.toNat /\ b.toNat <= 57:=D.all b (by rw [a];exact List.mem_cons_self ..);unfold hU;refine ⟨ql m fun j hj=>?_,?_,D.val,al ?_,al ?_⟩
 ·rw [eA hj]
  have:=i j hj;unfold dg;exact decide_eq_true (by omega)
 ·show cls (bP n).data.toList = 3
  rw [xn (by rw [a];simp) (by rw [a];show dg (b.toNat : Int) = true;unfold dg;exact decide_eq_true (by omega)),if_neg];intro g;have f : (bP n).data.toList.length = (bP n).size:=rfl;rcases g with z | ⟨p,q⟩
  ·omega
  ·by_cases d : 10 <= n
   ·have:=D.lead d
    omega
   ·have:=D.one (by omega)
    omega
 ·show (bP n).data.toList ≠ ix
  rw [a];intro e;have : b = 102:=(List.cons.inj e).1;subst this
  revert c;decide
 ·show (bP n).data.toList ≠ sk
  rw [a];intro e;have : b = 105:=(List.cons.inj e).1;subst this
  revert c;decide
theorem fE_all {t : EI} {f : Fm} (h : fE t = some f) :
  (∃ num,t = ⟨1,num,e0,e0,[],[]⟩ /\ 0 <= num /\ num <= 999999999 /\ f = ⟨4,[],[hU num.toNat]⟩) \/ (t = fM 2 /\ f = ⟨4,[],[cg]⟩) \/ (t = ⟨2,1,e0,e0,[],[]⟩ /\ f = ⟨4,[],[d9]⟩) \/
  (∃ md nm,t = ⟨3,0,md,nm,[],[]⟩ /\ aI md nm = true /\ f = ⟨4,[],[ia md nm]⟩) \/ (∃ ns,t = ⟨4,0,e0,e0,ns,[]⟩ /\ dN ns = true /\ f = fF ns ft 4) \/ (∃ nm,t = ⟨5,0,e0,nm,[],[]⟩ /\ gn nm = true /\ f = ⟨3,[3],[e0,gi ++ nm]⟩) \/
  (∃ nm ty,t = ⟨6,0,e0,nm,[],ty⟩ /\ gn nm = true /\ dH ty = true /\ f = ⟨0,[0],[gu ++ nm ++ dz ++ fW ty ++ ij,e0]⟩) \/ (t = fM 7 /\ f = ⟨3,[3,0],[e0,sL,sR]⟩) \/ (t = fM 8 /\ f = ⟨0,[0,0,0],[wP,il,iq,e0]⟩) \/ (t = fM 9 /\ f = ⟨2,[2,3],[e0,mK,e0]⟩) \/ (t = fM 10 /\ f = ⟨1,[2,2],[e0,iR,e0]⟩):=by
 obtain ⟨a,num,md,nm,ns,ty⟩:=t;unfold fE at h;simp only at h;by_cases u : a = 3
 ·rw [if_pos u] at h
  split at h
  ·rename_i hg
   simp only [Bool.and_eq_true,decide_eq_true_eq] at hg;have k:=eJ hg.1.2;have x:=eJ hg.2;have c:=hg.1.1.2;subst k;subst x;subst c;subst u;exact .inr (.inr (.inr (.inl ⟨md,nm,rfl,hg.1.1.1,(Option.some.inj h).symm⟩)))
  ·cases h
 rw [if_neg u] at h;by_cases j : md.size = 0
 ·rw [if_pos j] at h
  have:=ba0 j;subst this;by_cases r : a = 6
  ·rw [if_pos r] at h
   split at h
   ·rename_i hg
    simp only [Bool.and_eq_true,decide_eq_true_eq] at hg;have k:=eJ hg.2;have c:=hg.1.2;subst k;subst c;subst r;exact .inr (.inr (.inr (.inr (.inr (.inr (.inl ⟨nm,ty,rfl,hg.1.1.1,hg.1.1.2,(Option.some.inj h).symm⟩))))))
   ·cases h
  rw [if_neg r] at h;by_cases i : ty.length = 0
  ·rw [if_pos i] at h
   have:=eJ i;subst this;by_cases o : a = 5
   ·rw [if_pos o] at h
    split at h
    ·rename_i hg
     simp only [Bool.and_eq_true,decide_eq_true_eq] at hg;have k:=eJ hg.2;have c:=hg.1.2;subst k;subst c;subst o;exact .inr (.inr (.inr (.inr (.inr (.inl ⟨nm,rfl,hg.1.1,(Option.some.inj h).symm⟩)))))
    ·cases h
   rw [if_neg o] at h;by_cases d : nm.size = 0
   ·rw [if_pos d] at h
    have:=ba0 d;subst this;by_cases q : a = 4
    ·rw [if_pos q] at h
     split at h
     ·rename_i hg
      simp only [Bool.and_eq_true,decide_eq_true_eq] at hg;have c:=hg.1;subst c;subst q;exact .inr (.inr (.inr (.inr (.inl ⟨ns,rfl,hg.2,(Option.some.inj h).symm⟩))))
     ·cases h
    rw [if_neg q] at h;by_cases b : ns.length = 0
    ·rw [if_pos b] at h
     have:=eJ b;subst this;by_cases l : a = 1
     ·rw [if_pos l] at h
      split at h
      ·rename_i hg
       subst l;exact .inl ⟨num,rfl,hg.1,hg.2,(Option.some.inj h).symm⟩
      ·cases h
     rw [if_neg l] at h;by_cases m : a = 2
     ·rw [if_pos m] at h
      subst m;by_cases e : num = 0
      ·rw [if_pos e] at h
       subst e;exact .inr (.inl ⟨rfl,(Option.some.inj h).symm⟩)
      rw [if_neg e] at h;by_cases v : num = 1
      ·rw [if_pos v] at h
       subst v;exact .inr (.inr (.inl ⟨rfl,(Option.some.inj h).symm⟩))
      ·rw [if_neg v] at h;cases h
     rw [if_neg m] at h;by_cases e : num = 0
     ·rw [if_pos e] at h
      subst e;by_cases s : a = 7
      ·rw [if_pos s] at h;subst s;exact .inr (.inr (.inr (.inr (.inr (.inr (.inr (.inl ⟨rfl,(Option.some.inj h).symm⟩)))))))
      rw [if_neg s] at h;by_cases p : a = 8
      ·rw [if_pos p] at h;subst p;exact .inr (.inr (.inr (.inr (.inr (.inr (.inr (.inr (.inl ⟨rfl,(Option.some.inj h).symm⟩))))))))
      rw [if_neg p] at h;by_cases n : a = 9
      ·rw [if_pos n] at h;subst n;exact .inr (.inr (.inr (.inr (.inr (.inr (.inr (.inr (.inr (.inl ⟨rfl,(Option.some.inj h).symm⟩)))))))))
      rw [if_neg n] at h;by_cases g : a = 10
      ·rw [if_pos g] at h;subst g;exact .inr (.inr (.inr (.inr (.inr (.inr (.inr (.inr (.inr (.inr ⟨rfl,(Option.some.inj h).symm⟩)))))))))
      ·rw [if_neg g] at h;cases h
     ·rw [if_neg e] at h;cases h
    ·rw [if_neg b] at h;cases h
   ·rw [if_neg d] at h;cases h
  ·rw [if_neg i] at h;cases h
 ·rw [if_neg j] at h;cases h
theorem nI (s : ByteArray) : e0 ++ s = s:=ByteArray.empty_append
theorem kG (s : ByteArray) : s ++ e0 = s:=ByteArray.append_empty
theorem nC {n : Nat} {st : Bool} {es : List EI} {s : ByteArray} {l : List TK} (h : bH st n es s l) (hn : 1 <= n) (r : List TK) : cy (l ++ r) ix /\ cy (l ++ r) sk:=⟨mD h.pos (h.hd hn).1 r,mD h.pos (h.hd hn).2 r⟩
theorem AZ {st : Bool} {p : List EI} {s : ByteArray} {l : List TK} (h : bH st 3 p s l) {nm : ByteArray} (hg : gn nm = true) : bH st 3 (p ++ [⟨5,0,e0,nm,[],[]⟩]) (s ++ (gi ++ nm)) (l ++ [aj gi,aj nm]):=by
 refine bH.of_post (h.tok.appW (cS (eu (s:=gi) rfl (by decide))) (BM.appW (fJ hg))) (by simp only [lap,List.length_cons];omega) (h.ns.app ((NS.nil.cons (dR hg)).cons (by decide))) (nC h (by omega) _) fun all i f r hd hr hf=>?_;have a : all.drop i = l ++ aj gi :: aj nm :: r:=by rw [hd];simp
 rw [lap] at hf;obtain ⟨k,j,e⟩:=h.post (by omega) all i f _ a (al (by decide)) (by omega);have g:=fX h.pos a;obtain ⟨b,rfl⟩ : ∃ b,k = b + 1:=⟨k - 1,by omega⟩;have d:=cf a;have c:=aJ d;refine ⟨b,by rw [lap];simp;omega,?_⟩;rw [e,bu,ap d,show ((aj gi).txt.data.toList == qr) = true by decide];simp only [if_true];rw [br c,fB hg,lw c];simp only [beq_self_eq_true,if_true];rw [lap];rfl
theorem xE {st : Bool} {p q : List EI} {s s2 : ByteArray} {l l2 : List TK} (h : bH st 3 p s l) (hq : bH st 0 q s2 l2) : bH st 3 (p ++ q ++ [fM 7]) (s ++ (sL ++ s2 ++ sR)) (l ++ (aj sL :: (l2 ++ [aj sR]))):=by
 refine bH.of_post ?_ (by simp only [lap,List.length_cons];omega) (h.ns.app ((hq.ns.app (NS.nil.cons (by decide))).cons (by decide))) (nC h (by omega) _) fun all i f r hd hr hf=>?_
 ·have j:=((yp.appW hq.tok).app (eu (s:=sR) rfl (by decide)) xB).w
  have o:=h.tok.appW (cS (cS (eu (s:=sL) rfl (by decide)))) j;simpa using o
 have a : all.drop i = l ++ aj sL :: (l2 ++ aj sR :: r):=by rw [hd];simp
 simp only [lap,List.length_cons,List.length_nil] at hf;obtain ⟨k,u,e⟩:=h.post (by omega) all i f _ a (al (by decide)) (by omega);have n:=fX h.pos a;obtain ⟨b,rfl⟩ : ∃ b,k = b + 1:=⟨k - 1,by omega⟩;obtain ⟨d,rfl⟩ : ∃ d,f = d + 1:=⟨f - 1,by omega⟩;have c:=cf a;have g:=aJ c;have t:=hq.whole all (i + l.length + 1) d _ g (mP (by decide) (by decide) (by decide) (by decide) (by decide)) (by omega);have m:=cf g;refine ⟨b,by simp only [lap,List.length_cons,List.length_nil];omega,?_⟩;rw [e,bu,ap c,ap c,show ((aj sL).txt.data.toList == qr) = false by decide,show ((aj sL).txt.data.toList == cQ) = true by decide];simp only [Bool.false_eq_true,if_false,if_true];unfold bO;rw [t];simp only;rw [ap m,show ((aj sR).txt.data.toList == bA) = true by decide];simp only [if_true,lap,List.length_cons,List.length_nil];congr 1;omega
theorem Ae {st : Bool} {p q : List EI} {s s2 : ByteArray} {l l2 : List TK} (h : bH st 2 p s l) (hq : bH st 3 q s2 l2) : bH st 2 (p ++ q ++ [fM 9]) (s ++ (mK ++ s2)) (l ++ aj kf :: l2):=by
 refine bH.of_sum (h.tok.appW (cS ⟨by decide,by decide⟩) (Bf.appW hq.tok)) (by simp only [lap,List.length_cons];omega) (h.ns.app (hq.ns.cons (by decide))) (nC h (by omega) _) fun all i f r hd hr hf=>?_;have a : all.drop i = l ++ aj kf :: (l2 ++ r):=by rw [hd];simp
 simp only [lap,List.length_cons] at hf;obtain ⟨k,m,e⟩:=h.sum (by omega) all i f _ a ⟨al (by decide),al (by decide),al (by decide)⟩ (by omega);have g:=fX h.pos a;obtain ⟨b,rfl⟩ : ∃ b,k = b + 1:=⟨k - 1,by omega⟩;have c:=cf a;have d:=aJ c;have j:=hq.postS (by omega) (f:=f) d hr (by omega);refine ⟨b,by simp only [lap,List.length_cons];omega,?_⟩;rw [e,ek,ap c,show ((aj kf).txt.data.toList == lM) = true by decide];simp only [if_true];rw [j];simp only [lap,List.length_cons];congr 1;omega
theorem xj {st : Bool} {p q : List EI} {s s2 : ByteArray} {l l2 : List TK} (h : bH st 2 p s l) (hq : bH st 2 q s2 l2) : bH st 1 (p ++ q ++ [fM 10]) (s ++ (iR ++ s2)) (l ++ aj j5 :: l2):=by
 refine bH.of_less (h.tok.appW (cS ⟨by decide,by decide⟩) (yy.appW hq.tok)) (by simp only [lap,List.length_cons];omega) (h.ns.app (hq.ns.cons (by decide))) (nC h (by omega) _) fun all i f r hd hr hf=>?_;have a : all.drop i = l ++ aj j5 :: (l2 ++ r):=by rw [hd];simp
 simp only [lap,List.length_cons] at hf;have c:=h.sumS (by omega) (f:=f) a ⟨⟨al (by decide),al (by decide),al (by decide)⟩,al (by decide)⟩ (by omega);have b:=cf a;have d:=aJ b;have e:=hq.sumS (by omega) (f:=f) d hr.1 (by omega);unfold cY;rw [c];simp only;rw [ap b,show ((aj j5).txt.data.toList == jI) = true by decide];simp only [if_true];rw [e];simp only [lap,List.length_cons];congr 2;omega
theorem zy {st : Bool} {b : List EI} {s : ByteArray} {l : List TK} (h : bH st 0 b s l) {nm : ByteArray} (hg : gn nm = true) {ty : List TI} {lt : List TK} (ht : qH st ty lt) : bH st 0 (b ++ [⟨6,0,e0,nm,[],ty⟩]) (gu ++ nm ++ dz ++ fW ty ++ ij ++ s) (aj qt :: aj sL :: aj nm :: aj aQ :: (lt ++ aj sR :: l)):=by
 refine bH.of_whole ?_ (by simp) (((((ht.ns.app (h.ns.cons (by decide))).cons (by decide)).cons (dR hg)).cons (by decide)).cons (by decide)) fun all i f r hd hr hf=>?_
 ·have d : cZ (gu ++ nm ++ dz) _:=(AL.appW (fJ hg)).app ⟨by decide,by decide⟩ uZ
  have j : cZ (gu ++ nm ++ dz ++ fW ty ++ ij) _:=(d.appW ht.tok).app ⟨by decide,by decide⟩ AX;have p:=j.appW h.tok;simpa using p
 have a : all.drop i = aj qt :: aj sL :: aj nm :: aj aQ :: (lt ++ aj sR :: (l ++ r)):=by rw [hd];simp
 simp only [lap,List.length_cons] at hf;have n:=aJ a;have e:=aJ n;have m:=aJ e;have c:=aJ m;have g:=fX (l:=lt ++ aj sR :: (l ++ r)) (r:=[]) (by simp only [lap,List.length_cons];omega) (by rw [List.append_nil];exact c);simp only [lap,List.length_cons] at g;have d:=ht.whole all (i + 1 + 1 + 1 + 1) all.length _ c (al (by decide)) (al (by decide)) (by omega);have o:=cf c;have q:=aJ o;obtain ⟨k,rfl⟩ : ∃ k,f = k + 1:=⟨f - 1,by omega⟩;have j:=h.whole all _ k r q hr (by omega);rw [ay,ap a,show ((aj qt).txt.data.toList == ix) = true by decide];simp only [if_true];unfold dp;rw [show i + 1 + 2 = i + 1 + 1 + 1 from rfl,show i + 1 + 3 = i + 1 + 1 + 1 + 1 from rfl,ap n,br e,ap m,fB hg,show ((aj sL).txt.data.toList == cQ) = true by decide,show ((aj aQ).txt.data.toList == aB) = true by decide];simp only [beq_self_eq_true,Bool.and_self,if_true];rw [d];simp only;rw [ap o,show ((aj sR).txt.data.toList == bA) = true by decide];simp only [if_true];rw [j,lw e];simp only [lap,List.length_cons];show some (b ++ [⟨6,0,e0,nm,[],ty⟩],_) = _;congr 2;omega
theorem Cg {st : Bool} {c a b : List EI} {sc sa sb : ByteArray} {lc la lb : List TK} (hc : bH st 0 c sc lc) (ha : bH st 0 a sa la) (hb : bH st 0 b sb lb) : bH st 0 (c ++ a ++ b ++ [fM 8]) (wP ++ sc ++ (il ++ sa ++ (iq ++ sb))) (aj yY :: (lc ++ aj j7 :: (la ++ aj kD :: lb))):=by
 refine bH.of_whole ?_ (by simp) ((hc.ns.app ((ha.ns.app (hb.ns.cons (by decide))).cons (by decide))).cons (by decide)) fun all i f r hd hr hf=>?_
 ·have h:=B5.appW hc.tok
  have j:=wQ.appW ha.tok;have g:=yA.appW hb.tok;have p:=j.appW (cS (b:=sb) (show Nw iq from ⟨by decide,by decide⟩)) g;have o:=h.appW (cS (cS (show Nw il from ⟨by decide,by decide⟩))) p;simpa using o
 have d : all.drop i = aj yY :: (lc ++ aj j7 :: (la ++ aj kD :: (lb ++ r))):=by rw [hd];simp
 simp only [lap,List.length_cons] at hf;have n:=aJ d;obtain ⟨e,rfl⟩ : ∃ e,f = e + 1:=⟨f - 1,by omega⟩;have h:=hc.whole all _ e _ n (mP (by decide) (by decide) (by decide) (by decide) (by decide)) (by omega);have m:=cf n;have l:=aJ m;have j:=ha.whole all _ e _ l (mP (by decide) (by decide) (by decide) (by decide) (by decide)) (by omega);have k:=cf l;have q:=aJ k;have g:=hb.whole all _ e r q hr (by omega);rw [ay,ap d,ap d,show ((aj yY).txt.data.toList == ix) = false by decide,show ((aj yY).txt.data.toList == sk) = true by decide];simp only [Bool.false_eq_true,if_false,if_true];unfold pF;rw [h];simp only;rw [ap m,show ((aj j7).txt.data.toList == jK) = true by decide];simp only [if_true];rw [j];simp only;rw [ap k,show ((aj kD).txt.data.toList == lJ) = true by decide];simp only [if_true];rw [g];simp only [lap,List.length_cons];congr 2;omega
theorem lR {s : ByteArray} (h : gn s = true) {k : List UInt8} (hk : pz k = false) {r : List TK} : cy (aj s :: r) k:=al (by
 intro e;have : pz s.data.toList = true:=h;have e' : s.data.toList = k:=e;rw [e',hk] at this;cases this)
theorem xi {st : Bool} {md nm : ByteArray} (h : aI md nm = true) : bH st 4 [⟨3,0,md,nm,[],[]⟩] (ia md nm) (sY md nm):=by
 have c : ∀ k,pz k = false -> cy (sY md nm) k:=fun k hk=>by
  obtain ⟨b,a⟩:=fw h;unfold sY
  split
  ·exact lR b hk
  ·rename_i hz
   exact lR (a.resolve_left hz) hk
 refine bH.of_atom (tS h) (by unfold sY;split <;> simp) (uj h) ⟨c _ (by decide),c _ (by decide)⟩ fun all i f r hd hr hf=>?_;obtain ⟨b,a⟩:=rV st h hd hr;unfold atomP;rw [b,a];rfl
theorem zU {st : Bool} {num : Int} (h0 : 0 <= num) (h1 : num <= 999999999) : bH st 4 [⟨1,num,e0,e0,[],[]⟩] (hU num.toNat) [aj (hU num.toNat)]:=by
 obtain ⟨a,b,c,d,e⟩:=xz (n:=num.toNat) (by omega)
 have h : (aj (hU num.toNat)).txt.data.toList ≠ gx:=fun z=>by
  have j:=b;have k : (hU num.toNat).data.toList = gx:=z;have : cls (hU num.toNat).data.toList = 3:=j;rw [k] at this
  revert this;decide
 refine bH.of_atom a (by simp) (NS.nil.cons h) ⟨d,e⟩ fun all i f r hd hr hf=>?_;have g : all.drop i = aj (hU num.toNat) :: r:=hd;unfold atomP;rw [br g,br g,b,lw g];show some ([(⟨1,ib (hU num.toNat).data.toList,e0,e0,[],[]⟩ : EI)],i + 1) = _;rw [c,Int.toNat_of_nonneg h0];rfl
theorem xr {st : Bool} : bH st 4 [⟨2,1,e0,e0,[],[]⟩] d9 [aj d9]:=by
 refine bH.of_atom AW (by simp) (NS.nil.cons (by decide)) ⟨al (by decide),al (by decide)⟩ fun all i f r hd hr hf=>?_;have a : all.drop i = aj d9 :: r:=hd;unfold atomP;rw [br a,br a,show ((aj d9).cls == 1) = false by decide,show ((aj d9).cls == 3) = false by decide,ap a,show ((aj d9).txt.data.toList == fQ) = true by decide];rfl
theorem uu {st : Bool} : bH st 4 [fM 2] cg [aj cg]:=by
 refine bH.of_atom xH (by simp) (NS.nil.cons (by decide)) ⟨al (by decide),al (by decide)⟩ fun all i f r hd hr hf=>?_;have a : all.drop i = aj cg :: r:=hd;unfold atomP;rw [br a,br a,show ((aj cg).cls == 1) = false by decide,show ((aj cg).cls == 3) = false by decide,ap a,ap a,show ((aj cg).txt.data.toList == fQ) = false by decide,show ((aj cg).txt.data.toList == eS) = true by decide];rfl
theorem xK {st : Bool} : bH st 4 [⟨4,0,e0,e0,[],[]⟩] zu [aj xO,aj xC]:=by
 refine bH.of_atom yR.w (by simp) ((NS.nil.cons (by decide)).cons (by decide)) ⟨al (by decide),al (by decide)⟩ fun all i f r hd hr hf=>?_;have a : all.drop i = aj xO :: aj xC :: r:=hd;have b:=aJ a;unfold atomP;rw [br a,br a,show ((aj xO).cls == 1) = false by decide,show ((aj xO).cls == 3) = false by decide,ap a,ap a,ap a,show ((aj xO).txt.data.toList == fQ) = false by decide,show ((aj xO).txt.data.toList == eS) = false by decide,show ((aj xO).txt.data.toList == dI) = true by decide];simp only [Bool.false_eq_true,if_false,if_true];unfold aH;rw [ap b,show ((aj xC).txt.data.toList == cw) = true by decide];rfl
theorem AO {st : Bool} {ns : List ByteArray} {ps : List (List EI)} (wh : List EI -> Wh) (g : List EI -> List TK) (hl : ns.length = ps.length) (hz : ns.length ≠ 0) (hgn : ∀ n,n ∈ ns -> gn n = true) (hnd : ns.Nodup) (hg : ∀ p,p ∈ ps -> bH st 0 p (wh p).1 (g p)) :
  bH st 4 (ps.flatten ++ [⟨4,0,e0,e0,ns,[]⟩]) (aC (List.replicate ns.length 0) (jq ft xO ns) (ps.map wh)) (aj xO :: jL (aj lK) ((dO g ns ps).map fun x=>(x.1,x.2.1))):=by
 have o:=oh wh g ft (aj lK) t7 ⟨by decide,by decide⟩ hl hz hgn (fun p hp=>(hg p hp).tok);refine bH.of_atom o.w (by simp) ((vI (by decide) hgn (fun p hp=>(hg p hp).ns)).cons (by decide)) ⟨al (by decide),al (by decide)⟩ fun all i f r hd hr hf=>?_;have a : all.drop i = aj xO :: (jL (aj lK) ((dO g ns ps).map fun x=>(x.1,x.2.1)) ++ r):=hd;have m:=aJ a
 have e:=rH all (ay st all f) gh (aj lK) rfl g hl hz hgn hnd m (fun p hp i' r' hd2 he=>by
  have q : ∃ x,x ∈ dO g ns ps /\ x.2.2 = p:=by
   obtain ⟨k,l,rfl⟩:=List.getElem_of_mem hp;refine ⟨(ns[k],g ps[k],ps[k]),List.mem_map.2 ⟨(ns[k],ps[k]),?_,rfl⟩,rfl⟩;exact List.mem_iff_getElem.2 ⟨k,by rw [List.length_zip];omega,List.getElem_zip⟩
  obtain ⟨x,j,d⟩:=q;have h:=(eW j).2.2;have b:=oN (aj lK) (List.mem_map_of_mem (f:=fun x : ByteArray × List TK × List EI=>(x.1,x.2.1)) j);simp only at b;rw [h,d] at b;rw [List.length_cons] at hf;obtain ⟨c,rfl⟩ : ∃ c,f = c + 1:=⟨f - 1,by omega⟩;exact (hg p hp).whole all i' c r' hd2 ⟨⟨⟨dT he (by decide) (by decide),dT he (by decide) (by decide),dT he (by decide) (by decide)⟩,dT he (by decide) (by decide)⟩,dT he (by decide) (by decide)⟩ (by omega))
 unfold atomP;rw [br a,br a,show ((aj xO).cls == 1) = false by decide,show ((aj xO).cls == 3) = false by decide,ap a,ap a,ap a,show ((aj xO).txt.data.toList == fQ) = false by decide,show ((aj xO).txt.data.toList == eS) = false by decide,show ((aj xO).txt.data.toList == dI) = true by decide];simp only [Bool.false_eq_true,if_false,if_true];rw [e];simp only [List.length_cons];congr 2;omega
theorem y9 (st : Bool) : ∀ (n : Nat) (es : List EI),es.length <= n -> rh fE es -> ∃ l,bH st (dG fE es).2 es (dG fE es).1 l
 | 0,es,hl,h=>by
   have:=zv h;omega
 | n + 1,es,hl,h=>by
   obtain ⟨ps,t,f,hts,hf,hn,ho,hw⟩:=vA fE h
   have hps : ∀ p,p ∈ ps -> p.length <= n:=fun p hp=>by
    have h1:=po hp;have h2:=congrArg List.length hts;rw [lap,List.length_singleton] at h2;omega
   obtain ⟨g,hg⟩ : ∃ g : List EI -> List TK,∀ p,p ∈ ps -> bH st (dG fE p).2 p (dG fE p).1 (g p):=by
    classical
    refine ⟨fun p=>if e : ∃ l,bH st (dG fE p).2 p (dG fE p).1 l then e.choose else [],fun p hp=>?_⟩;have e:=y9 st n p (hps p hp) (ho p hp);show bH st _ p _ (if e : ∃ l,bH st (dG fE p).2 p (dG fE p).1 l then e.choose else []);rw [dif_pos e];exact e.choose_spec
   rw [hw];have i : f.needs.length = 0 -> ps = []:=fun z=>eJ (by omega);rcases fE_all hf with ⟨num,rfl,E,h1,rfl⟩ | ⟨rfl,rfl⟩ | ⟨rfl,rfl⟩ | ⟨H,o,rfl,hp,rfl⟩ | ⟨r,rfl,v,rfl⟩ | ⟨o,rfl,k,rfl⟩ | ⟨o,s,rfl,k,B,rfl⟩ | ⟨rfl,rfl⟩ | ⟨rfl,rfl⟩ | ⟨rfl,rfl⟩ | ⟨rfl,rfl⟩
   ·rw [i rfl] at hts
    rw [hts];exact ⟨_,zU E h1⟩
   ·rw [i rfl] at hts
    rw [hts];exact ⟨_,uu⟩
   ·rw [i rfl] at hts
    rw [hts];exact ⟨_,xr⟩
   ·rw [i rfl] at hts
    rw [hts];exact ⟨_,xi hp⟩
   ·have u : r.length = ps.length:=by rw [<- hn];exact (bq r ft 4).2.1.symm
    obtain ⟨k,C⟩:=kH v;by_cases y : r.length = 0
    ·have e0 : ps = []:=eJ (by omega)
     have F : r = []:=eJ y;subst e0;subst F;rw [hts];exact ⟨_,xK⟩
    ·have G : fF r ft 4 = ⟨4,List.replicate r.length 0,jq ft xO r⟩:=by unfold fF;rw [if_neg y]
     rw [G,hts];exact ⟨_,AO (dG fE) g u y k C (fun p hp=>(hg p hp).mono (Nat.zero_le _))⟩
   ·obtain ⟨a,rfl⟩ : ∃ a,ps = [a]:=by
     match ps,hn with
     | [a],_=>exact ⟨a,rfl⟩
    obtain ⟨m,d⟩:=(hg a (by simp)).part (need:=3) (by omega);have e : es = a ++ [⟨5,0,e0,o,[],[]⟩]:=by rw [hts];simp
    rw [e];refine ⟨m ++ [aj gi,aj o],?_⟩;show bH st 3 _ (e0 ++ brk 3 (dG fE a) ++ (gi ++ o)) (_);rw [nI];exact AZ d k
   ·obtain ⟨a,rfl⟩ : ∃ a,ps = [a]:=by
     match ps,hn with
     | [a],_=>exact ⟨a,rfl⟩
    obtain ⟨m,d⟩:=(hg a (by simp)).part (need:=0) (by omega);obtain ⟨lt,A⟩:=qN st s.length s (nlr _) (beq_iff_eq.1 B);have e : es = a ++ [⟨6,0,e0,o,[],s⟩]:=by rw [hts];simp
    rw [e];refine ⟨aj qt :: aj sL :: aj o :: aj aQ :: (lt ++ aj sR :: m),?_⟩;show bH st 0 _ (gu ++ o ++ dz ++ fW s ++ ij ++ brk 0 (dG fE a) ++ e0) (_);rw [kG];exact zy d k A
   ·obtain ⟨a,b,rfl⟩ : ∃ a b,ps = [a,b]:=by
     match ps,hn with
     | [a,b],_=>exact ⟨a,b,rfl⟩
    obtain ⟨m,d⟩:=(hg a (by simp)).part (need:=3) (by omega);obtain ⟨q,j⟩:=(hg b (by simp)).part (need:=0) (by omega);have e : es = a ++ b ++ [fM 7]:=by rw [hts];simp
    rw [e];refine ⟨m ++ (aj sL :: (q ++ [aj sR])),?_⟩;show bH st 3 _ (e0 ++ brk 3 (dG fE a) ++ (sL ++ brk 0 (dG fE b) ++ sR)) (_);rw [nI];exact xE d j
   ·obtain ⟨c,a,b,rfl⟩ : ∃ c a b,ps = [c,a,b]:=by
     match ps,hn with
     | [c,a,b],_=>exact ⟨c,a,b,rfl⟩
    obtain ⟨D,x⟩:=(hg c (by simp)).part (need:=0) (by omega);obtain ⟨m,d⟩:=(hg a (by simp)).part (need:=0) (by omega);obtain ⟨q,j⟩:=(hg b (by simp)).part (need:=0) (by omega);have e : es = c ++ a ++ b ++ [fM 8]:=by rw [hts];simp
    rw [e];refine ⟨aj yY :: (D ++ aj j7 :: (m ++ aj kD :: q)),?_⟩;show bH st 0 _ (wP ++ brk 0 (dG fE c) ++ (il ++ brk 0 (dG fE a) ++ (iq ++ brk 0 (dG fE b) ++ e0))) _;rw [kG];exact Cg x d j
   ·obtain ⟨a,b,rfl⟩ : ∃ a b,ps = [a,b]:=by
     match ps,hn with
     | [a,b],_=>exact ⟨a,b,rfl⟩
    obtain ⟨m,d⟩:=(hg a (by simp)).part (need:=2) (by omega);obtain ⟨q,j⟩:=(hg b (by simp)).part (need:=3) (by omega);have e : es = a ++ b ++ [fM 9]:=by rw [hts];simp
    rw [e];refine ⟨m ++ aj kf :: q,?_⟩;show bH st 2 _ (e0 ++ brk 2 (dG fE a) ++ (mK ++ brk 3 (dG fE b) ++ e0)) (_);rw [nI,kG];exact Ae d j
   ·obtain ⟨a,b,rfl⟩ : ∃ a b,ps = [a,b]:=by
     match ps,hn with
     | [a,b],_=>exact ⟨a,b,rfl⟩
    obtain ⟨m,d⟩:=(hg a (by simp)).part (need:=2) (by omega);obtain ⟨q,j⟩:=(hg b (by simp)).part (need:=2) (by omega);have e : es = a ++ b ++ [fM 10]:=by rw [hts];simp
    rw [e];refine ⟨m ++ aj j5 :: q,?_⟩;show bH st 1 _ (e0 ++ brk 2 (dG fE a) ++ (iR ++ brk 2 (dG fE b) ++ e0)) (_);rw [nI,kG];exact xj d j
theorem Be (st : Bool) {d : DC} (h : fO d = true) : ∃ l,cZ (nN d) (l ++ [aj d8]) /\ NS l /\ bM st l = d:=by
 obtain ⟨k,f,r,y⟩:=d;unfold fO at h;rw [Bool.and_eq_true] at h;obtain ⟨i,h⟩:=h;simp only at i h;by_cases x : k = 1
 ·rw [if_pos x] at h
  simp only [Bool.and_eq_true,decide_eq_true_eq] at h;have B:=eJ h.1;have s:=eJ h.2;subst B;subst s;subst x;refine ⟨[aj qq,aj f],?_,(NS.nil.cons (dR i)).cons (by decide),?_⟩
  ·exact (A8.appW (fJ i)).app ⟨by decide,by decide⟩ pT
  ·have a : [aj qq,aj f].drop 0 = aj qq :: [aj f]:=rfl
   have c:=aJ a;unfold bM;rw [br c,fB i,ap a,show ((aj qq).txt.data.toList == bY) = true by decide,lw c];rfl
 rw [if_neg x] at h;by_cases t : k = 2
 ·rw [if_pos t] at h
  simp only [Bool.and_eq_true,decide_eq_true_eq] at h;have s:=eJ h.2;subst s;subst t;obtain ⟨lt,n⟩:=qN st r.length r (nlr _) (beq_iff_eq.1 h.1);refine ⟨aj lq :: aj f :: aj lK :: lt,?_,((n.ns.cons (by decide)).cons (dR i)).cons (by decide),?_⟩
  ·have m:=((Bg.appW (fJ i)).app ⟨by decide,by decide⟩ t7).appW n.tok
   have o:=m.app ⟨by decide,by decide⟩ pT;have e : [aj lq] ++ [aj f] ++ [aj lK] ++ lt ++ [aj d8] = aj lq :: aj f :: aj lK :: lt ++ [aj d8]:=by simp
   rw [e] at o;exact o
  ·obtain ⟨all,b⟩:=xe (aj lq :: aj f :: aj lK :: lt)
   have a : all.drop 0 = aj lq :: aj f :: aj lK :: lt:=by rw [b];rfl
   have c:=aJ a;have g:=aJ c;have j : all.drop (0 + 1 + 1 + 1) = lt ++ []:=by rw [List.append_nil];exact aJ g
   have q : all.length = lt.length + 3:=by rw [b];rfl
   have m:=n.whole all _ all.length [] j (d7 _) (d7 _) (by omega);rw [<- b];unfold bM;rw [show (1 : Nat) = 0 + 1 from rfl,show (2 : Nat) = 0 + 1 + 1 from rfl,show (3 : Nat) = 0 + 1 + 1 + 1 from rfl,br c,fB i,ap a,ap a,show ((aj lq).txt.data.toList == bY) = false by decide,show ((aj lq).txt.data.toList == ik) = true by decide,ap g,show ((aj lK).txt.data.toList == gh) = true by decide];simp only [beq_self_eq_true,Bool.false_eq_true,if_true,if_false];rw [m];simp only;rw [if_pos (by omega),lw c];rfl
 rw [if_neg t] at h;simp only [Bool.and_eq_true,decide_eq_true_eq] at h;have A:=h.1.1;subst A;obtain ⟨lt,n⟩:=qN st r.length r (nlr _) (beq_iff_eq.1 h.1.2);obtain ⟨le,u⟩:=y9 st y.length y (nlr _) (beq_iff_eq.1 h.2);refine ⟨aj kY :: aj f :: aj aQ :: (lt ++ aj lK :: le),?_,(((n.ns.app (u.ns.cons (by decide))).cons (by decide)).cons (dR i)).cons (by decide),?_⟩
 ·have m:=((As.appW (fJ i)).app ⟨by decide,by decide⟩ uZ).appW n.tok
  have o:=(m.app ⟨by decide,by decide⟩ t7).appW u.tok;have z:=o.app ⟨by decide,by decide⟩ pT;have e : [aj kY] ++ [aj f] ++ [aj aQ] ++ lt ++ [aj lK] ++ le ++ [aj d8] = aj kY :: aj f :: aj aQ :: (lt ++ aj lK :: le) ++ [aj d8]:=by simp
  rw [e] at z;exact z
 ·obtain ⟨all,b⟩:=xe (aj kY :: aj f :: aj aQ :: (lt ++ aj lK :: le))
  have a : all.drop 0 = aj kY :: aj f :: aj aQ :: (lt ++ aj lK :: le):=by rw [b];rfl
  have c:=aJ a;have g:=aJ c;have j:=aJ g;have q : all.length = lt.length + (le.length + 1) + 3:=by rw [b];simp
  have m:=n.whole all _ all.length _ j (al (by decide)) (al (by decide)) (by omega);have p:=cf j;have v : all.drop (0 + 1 + 1 + 1 + lt.length + 1) = le ++ []:=by rw [List.append_nil];exact aJ p
  have o:=u.whole all _ all.length [] v ⟨⟨⟨d7 _,d7 _,d7 _⟩,d7 _⟩,d7 _⟩ (by omega);rw [<- b];unfold bM;rw [show (1 : Nat) = 0 + 1 from rfl,show (2 : Nat) = 0 + 1 + 1 from rfl,show (3 : Nat) = 0 + 1 + 1 + 1 from rfl,br c,fB i,ap a,ap a,ap a,show ((aj kY).txt.data.toList == bY) = false by decide,show ((aj kY).txt.data.toList == ik) = false by decide,show ((aj kY).txt.data.toList == qd) = true by decide,ap g,ap g,show ((aj aQ).txt.data.toList == aB) = true by decide];simp only [beq_self_eq_true,Bool.false_eq_true,if_true,if_false];rw [m];simp only;rw [ap p,show ((aj lK).txt.data.toList == gh) = true by decide];simp only [if_true];rw [o];simp only;rw [if_pos (by omega),lw c];rfl
theorem ya {l r : List TK} (h : NS l) : semi (l ++ aj d8 :: r) = some l.length:=by
 unfold semi
 induction l with
 | nil=>rfl
 | cons t l ih=>
   rw [List.cons_append,List.findIdx?_cons,show (t.txt.data.toList == gx) = false from bn2 (h t (List.mem_cons_self ..))];simp only [Bool.false_eq_true,if_false];rw [ih (fun x hx=>h x (List.mem_cons_of_mem _ hx))];rfl
theorem rZ (st : Bool) : ∀ (ds : List DC),(∀ d,d ∈ ds -> fO d = true) -> ∃ L,cZ (bR ds) L /\ ∀ f,L.length <= f -> cF st (f + 1) L = ds
 | [],_=>⟨[],cZ.nil,fun f _=>rfl⟩
 | d :: ds,h=>by
   obtain ⟨l,h1,h2,h3⟩:=Be st (h d (List.mem_cons_self ..));obtain ⟨L,i1,i2⟩:=rZ st ds (fun x hx=>h x (List.mem_cons_of_mem _ hx));refine ⟨(l ++ [aj d8]) ++ L,h1.app i1,fun f hf=>?_⟩;have e : (l ++ [aj d8]) ++ L = l ++ aj d8 :: L:=by simp
   rw [e] at hf ⊢;rw [lap,List.length_cons] at hf;obtain ⟨b,rfl⟩ : ∃ b,f = b + 1:=⟨f - 1,by omega⟩;have a : (l ++ aj d8 :: L).isEmpty = false:=by cases l <;> rfl
   rw [cF,a,ya h2];simp only [Bool.false_eq_true,if_false];have g : (l ++ aj d8 :: L).take l.length = l:=by simp
   have c : (l ++ aj d8 :: L).drop (l.length + 1) = L:=by
    rw [<- List.drop_drop];simp
   rw [g,c,h3,i2 b (by omega)]
theorem oS (st : Bool) {ds : List DC} (h : fS ds = true) : cF st ((bB (pD ds)).length + 1) (bB (pD ds)) = ds:=by
 have f : pD ds = bR ds:=by unfold pD;rw [if_pos h]
 unfold fS at h;rw [Bool.and_eq_true,List.all_eq_true] at h;obtain ⟨L,c,d⟩:=rZ st ds h.1;have b : (bR ds).size <= 1000:=of_decide_eq_true h.2
 have e : er (bB (bR ds)) = L:=by
  unfold bB;rw [if_pos b];have:=c e0;rw [kG] at this;rw [this];have a : iZ e0 0 = []:=fI (by decide);rw [a];simp [er]
 rw [f,<- rD,e];have g : (bB (bR ds)).length = L.length:=by rw [<- e,jG]
 exact d _ (by omega)
end Go.Proofs.YtihedobejcaapaaGreatDoor
