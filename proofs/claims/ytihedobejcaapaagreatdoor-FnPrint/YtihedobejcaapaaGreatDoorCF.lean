/-
  YbP YbV
-/
import Derived.Test.YtihedobejcaapaaGreatDoorC8
import Derived.Test.YtihedobejcaapaaGreatDoorC9
import Derived.Test.YtihedobejcaapaaGreatDoorCA
import Derived.Test.YtihedobejcaapaaGreatDoorCC
import Derived.Test.YtihedobejcaapaaGreatDoorC5
import Derived.Test.YtihedobejcaapaaGreatDoorCE
namespace Go.Proofs.YtihedobejcaapaaGreatDoor
open Go.RowKit
theorem kS (w : World) (z : Int) (hz1 : -10 <= z) (hz2 : z <= 2) {P X : Nat} {ca : Option Addr} {cb co Ln cc p : Nat} {C : Nat -> Nat} (hC : am w ca cb co Ln C) (hLn : Ln <= 1048576) (hp : p <= 900000) {T V M : List ByteArray} {tp vp mp : NPl} (hS : Sc w T V M tp vp mp) {xs : List (TI × NPl)} {l : List TI} {ta : Option Addr} {tc e : Nat} (hT : fq w (.slice ta xs.length tc) xs) (hH : TH xs l) (he : e < xs.length)
  (hP : 1 <= P) (hX : 25 <= X) (hca : tk C Ln p 16 ≠ 15 /\ (xs[e].1.op = 1 -> 8 <= tk C Ln p 16 /\ (0 < z -> 10 <= tk C Ln p 16)) /\ (0 < z -> ¬ (10 <= tk C Ln p 16 /\ tk C Ln p 16 < 13))) (hop : xs[e].1.op = 1 \/ xs[e].1.op = 3 \/ xs[e].1.op = 4 \/ (xs[e].1.op = 5 /\ z <= -3) \/ (xs[e].1.op = 6 /\ z <= -3)) {r : List EI × Nat} (hr : r = (lF (tk C Ln p 16) M,p + 1)) :
  Calls Tryz.prog 39 #[.slice ca Ln cc,.int .i64 (p : Int),.agg #[.slice tp.a T.length tp.c,.slice vp.a V.length vp.c,.slice mp.a M.length mp.c],.slice ta xs.length tc,.int .i64 ((e : Int) + 1),.int .i64 z] w (j8 w P X p r):=by
 rcases hop with o | o | o | o | o
 ·exact ss w z hz1 hz2 hC hLn hp hS hT hH he hP hX ⟨hca.1,hca.2.1 o,hca.2.2⟩ o hr
 ·exact l8 w z hz1 hz2 hC hLn hp hS hT hH he hP hX ⟨hca.1,hca.2.2⟩ (.inl o) hr
 ·exact l8 w z hz1 hz2 hC hLn hp hS hT hH he hP hX ⟨hca.1,hca.2.2⟩ (.inr o) hr
 ·exact mj w z hz1 hz2 hC hLn hp hS hT hH he hP hX ⟨hca.1,hca.2.2⟩ ⟨.inl o.1,o.2⟩ hr
 ·exact mj w z hz1 hz2 hC hLn hp hS hT hH he hP hX ⟨hca.1,hca.2.2⟩ ⟨.inr o.1,o.2⟩ hr
def Bo (C : Nat -> Nat) (Ln : Nat) (V M : List ByteArray) (z : Int) (q : Nat) : List EI × Nat:=(ie (tk C Ln q 20) (tk C Ln (q + 1) 64) z V M,q + 1 + 1)
def ud (C : Nat -> Nat) (Ln : Nat) (V M : List ByteArray) (z : Int) (q : Nat) : List EI × Nat:=
 if tk C Ln q 16 = 15 then Bo C Ln V M z (q + 1) else if tk C Ln q 16 < 8 then ([bI 1 (tk C Ln q 16 : Int) ⟨#[]⟩ ⟨#[]⟩],q + 1) else (lF (tk C Ln q 16) M,q + 1)
def zW (G1 : Nat -> List EI × Nat) (op : Int) (q : Nat) : List EI × Nat:=((rp (fun _ q=>G1 q) ([],q + 1) 2).1 ++ [bI (if op = 2 then 10 else 9) 0 e0 e0],(rp (fun _ q=>G1 q) ([],q + 1) 2).2)
def Dj (C : Nat -> Nat) (Ln : Nat) (Gf : List TI -> Nat -> Nat -> List EI × Nat) (l : List TI) (e q : Nat) : List EI × Nat:=((rp (fun _ q=>Gf l e q) ([bI 2 ((tk C Ln q 16 % 2 : Nat) : Int) e0 e0],q + 1) 2).1 ++ [bI 8 0 e0 e0],(rp (fun _ q=>Gf l e q) ([bI 2 ((tk C Ln q 16 % 2 : Nat) : Int) e0 e0],q + 1) 2).2)
def Cj (C : Nat -> Nat) (Ln : Nat) (Gf : List TI -> Nat -> Nat -> List EI × Nat) (l : List TI) (e q : Nat) : List EI × Nat:=((Gf l ((eo l e).getD 1 0 - 1) (q + 1)).1 ++ [⟨6,0,e0,dK (tk C Ln q 16 % 5),[],sF l ((eo l e).getD 0 0)⟩],(Gf l ((eo l e).getD 1 0 - 1) (q + 1)).2)
def Cz (C : Nat -> Nat) (Ln : Nat) (Gf : List TI -> Nat -> Nat -> List EI × Nat) (it : TI) (l : List TI) (e q : Nat) : List EI × Nat:=((rp (fun i q=>Gf l ((eo l e).getD i 0 - 1) q) ([],q + 1) (eo l e).length).1 ++ kt (tk C Ln q 16) it.ns,(rp (fun i q=>Gf l ((eo l e).getD i 0 - 1) q) ([],q + 1) (eo l e).length).2)
def tC (C : Nat -> Nat) (Ln : Nat) (V M : List ByteArray) (it : TI) (q : Nat) : List EI × Nat:=
 if tk C Ln q 16 = 15 then Bo C Ln V M (-3) (q + 1)
 else if it.op = 1 then (if tk C Ln q 16 < 8 then ([bI 1 (tk C Ln q 16 : Int) ⟨#[]⟩ ⟨#[]⟩],q + 1) else (lF (tk C Ln q 16) M,q + 1))
 else if it.op = 2 then (if tk C Ln q 16 < 8 then zW (ud C Ln V M (-3 - 2)) it.op q else ([bI 2 ((tk C Ln q 16 % 2 : Nat) : Int) ⟨#[]⟩ ⟨#[]⟩],q + 1))
 else (lF (tk C Ln q 16) M,q + 1)
def oG (C : Nat -> Nat) (Ln : Nat) (T V M : List ByteArray) (z : Int) (Gf : List TI -> Nat -> Nat -> List EI × Nat) (it : TI) (l : List TI) (e q : Nat) : List EI × Nat:=
 if tk C Ln q 16 = 15 then (if z <= 0 then Bo C Ln V M z (q + 1) else em C Ln T M z.toNat V (q + 1))
 else if it.op = 1 then
  (if 5 <= tk C Ln q 16 /\ tk C Ln q 16 < 10 /\ 0 < z then zW (ud C Ln V M (z - 2)) it.op q
   else if 0 < z /\ 10 <= tk C Ln q 16 /\ tk C Ln q 16 < 13 then Dj C Ln Gf l e q
   else if tk C Ln q 16 < 8 then ([bI 1 (tk C Ln q 16 : Int) ⟨#[]⟩ ⟨#[]⟩],q + 1) else (lF (tk C Ln q 16) M,q + 1))
 else if it.op = 2 then (if tk C Ln q 16 < 8 then zW (ud C Ln V M (z - 2)) it.op q else ([bI 2 ((tk C Ln q 16 % 2 : Nat) : Int) ⟨#[]⟩ ⟨#[]⟩],q + 1))
 else if it.op = 5 then Cz C Ln Gf it l e q
 else if it.op = 6 then Cj C Ln Gf l e q
 else if 0 < z /\ 10 <= tk C Ln q 16 /\ tk C Ln q 16 < 13 then Dj C Ln Gf l e q
 else (lF (tk C Ln q 16) M,q + 1)
def dL (C : Nat -> Nat) (Ln : Nat) (T V M : List ByteArray) : Nat -> List TI -> Nat -> Nat -> List EI × Nat
 | 0,l,e,q=>tC C Ln V M (l.getD e (cV 0)) q
 | f + 1,l,e,q=>oG C Ln T V M (((f + 1 : Nat) : Int) - 3) (dL C Ln T V M f) (l.getD e (cV 0)) l e q
theorem qV {xs : List (TI × NPl)} {l : List TI} (h : TH xs l) {e : Nat} (he : e < xs.length) : l.getD e (cV 0) = xs[e].1:=by
 rw [<- h.is,List.getD_eq_getElem?_getD,List.getElem?_map,List.getElem?_eq_getElem he];rfl
def XF : Nat -> Nat
 | 0=>385
 | f + 1=>3 * XF f + 70
def PF : Nat -> Nat
 | 0=>10
 | f + 1=>3 * PF f + 60
theorem BE {f : Nat} (h : f <= 5) : 385 <= XF f /\ XF f <= 102025 /\ 10 <= PF f /\ PF f <= 9690:=by
 match f,h with
 | 0,_=>decide
 | 1,_=>decide
 | 2,_=>decide
 | 3,_=>decide
 | 4,_=>decide
 | 5,_=>decide
theorem Cw {f : Nat} (h : f <= 4) : XF f <= 33985 /\ PF f <= 3210:=by
 match f,h with
 | 0,_=>decide
 | 1,_=>decide
 | 2,_=>decide
 | 3,_=>decide
 | 4,_=>decide
theorem op_of {xs : List (TI × NPl)} {l : List TI} (h : TH xs l) {e : Nat} (he : e < xs.length) : xs[e].1.op = 1 \/ xs[e].1.op = 2 \/ xs[e].1.op = 3 \/ xs[e].1.op = 4 \/ xs[e].1.op = 5 \/ xs[e].1.op = 6:=by
 obtain ⟨f,a,_⟩:=h.item he;rcases fT_cases a with ⟨o,_⟩ | ⟨o,_⟩ | ⟨o,_⟩ | ⟨o,_⟩ | ⟨o,_⟩ | ⟨o,_⟩ <;> omega
theorem zi {ca : Option Addr} {cb co Ln cc : Nat} {C : Nat -> Nat} (hLn : Ln <= 1048576) {T V M : List ByteArray} {tp vp mp : NPl} (hV : 0 < V.length) {z : Int} (hz1 : -10 <= z) (hz2 : z <= 0) : Cs (ud C Ln V M z) z 3 25 900000 ca cb co Ln cc C T V M tp vp mp:=by
 intro W r l p o e q c d j m f b k;have n : tk C Ln q 16 < 16:=cd (by omega);by_cases a : tk C Ln q 16 = 15
 ·exact kM W z hz1 (by omega) c hLn k d j m f (g:=Bo C Ln V M z) (by unfold ud;rw [if_pos a]) (P0:=2) (X0:=25) (by omega) (nlr _) a (fun W2 q2 hb h2=>g_E_lit W2 z (nlr _) (nlr _) (c.below hb) hLn (by omega) (d.below hb) hV (.inr hz2) rfl)
 by_cases i : tk C Ln q 16 < 8
 ·exact mV W z hz1 (by omega) c hLn k d j m f (by omega) (nlr _) i ⟨b,.inl hz2⟩ (by unfold ud;rw [if_neg a,if_pos i])
 ·exact kS W z hz1 (by omega) c hLn k d j m f (by omega) (nlr _) ⟨a,fun _=>⟨by omega,fun h=>by omega⟩,fun h=>by omega⟩ (.inl b) (by unfold ud;rw [if_neg a,if_neg i])
theorem Ds {ca : Option Addr} {cb co Ln cc : Nat} {C : Nat -> Nat} (hLn : Ln <= 1048576) {T V M : List ByteArray} {tp vp mp : NPl} (hV : 0 < V.length) (hV2 : V.length + 4 <= 1000) :
  ∀ f : Nat,f <= 5 -> CF (dL C Ln T V M f) ((f : Int) - 3) (PF f) (XF f) (800000 - 10000 * f) ca cb co Ln cc C T V M tp vp mp:=by
 intro f
 induction f with
 | zero=>
   intro _ W B l J G e q b d j i c K;have A : tk C Ln q 16 < 16:=cd (by omega);obtain ⟨z,x⟩ : ∃ z : Int,z = ((0 : Nat) : Int) - 3:=⟨_,rfl⟩;rw [<- x];have E : dL C Ln T V M 0 l e q = tC C Ln V M B[e].1 q:=by rw [dL,qV i c]
   have u : z = -3:=by omega
   have F : XF 0 = 385:=rfl;have H : PF 0 = 10:=rfl;by_cases a : tk C Ln q 16 = 15
   ·exact kM W z (by omega) (by omega) b hLn (by omega) d j i c (g:=Bo C Ln V M z) (by rw [E];unfold tC;rw [if_pos a,u]) (P0:=2) (X0:=25) (by omega) (by omega) a (fun W2 q2 hb v=>g_E_lit W2 z (nlr _) (nlr _) (b.below hb) hLn (by omega) (d.below hb) hV (.inr (by omega)) rfl)
   have s:=fun hop hop2 hE=>kS W z (by omega) (by omega) b hLn (by omega) d j i c (cc:=cc) (P:=PF 0) (X:=XF 0) (by omega) (by omega) ⟨a,hop,fun h=>by omega⟩ hop2 (r:=dL C Ln T V M 0 l e q) hE;rcases op_of i c with o | o | o | o | o | o
   ·by_cases k : tk C Ln q 16 < 8
    ·exact mV W z (by omega) (by omega) b hLn (by omega) d j i c (by omega) (by omega) k ⟨o,.inl (by omega)⟩ (by rw [E];unfold tC;rw [if_neg a,if_pos o,if_pos k])
    ·exact s (fun _=>⟨by omega,fun h=>by omega⟩) (.inl o) (by rw [E];unfold tC;rw [if_neg a,if_pos o,if_neg k])
   ·by_cases k : tk C Ln q 16 < 8
    ·exact mA W z (by omega) (by omega) b hLn (by omega) d j i c (by omega) (by omega) (by omega) (.inl ⟨o,k⟩) (G1:=ud C Ln V M (z - 2)) (by rw [E];unfold tC;rw [if_neg a,if_neg (by omega),if_pos o,if_pos k,u];rfl) (fun W2 xs2 l2 ta2 tc2 e2 q2 b1 b2 b3 b4 b5 b6 b7=>zi hLn hV (by omega) (by omega) W2 xs2 l2 ta2 tc2 e2 q2 b1 b2 b3 b4 b5 b6 (by omega))
    ·exact n7 W z (by omega) (by omega) b hLn (by omega) d j i c (by omega) (by omega) ⟨by omega,a⟩ o (by rw [E];unfold tC;rw [if_neg a,if_neg (by omega),if_pos o,if_neg k])
   ·exact s (fun h=>by omega) (.inr (.inl o)) (by rw [E];unfold tC;rw [if_neg a,if_neg (by omega),if_neg (by omega)])
   ·exact s (fun h=>by omega) (.inr (.inr (.inl o))) (by rw [E];unfold tC;rw [if_neg a,if_neg (by omega),if_neg (by omega)])
   ·exact s (fun h=>by omega) (.inr (.inr (.inr (.inl ⟨o,by omega⟩)))) (by rw [E];unfold tC;rw [if_neg a,if_neg (by omega),if_neg (by omega)])
   ·exact s (fun h=>by omega) (.inr (.inr (.inr (.inr ⟨o,by omega⟩)))) (by rw [E];unfold tC;rw [if_neg a,if_neg (by omega),if_neg (by omega)])
 | succ f ih=>
   intro U W B l J G e q b d j i c K;have A : tk C Ln q 16 < 16:=cd (by omega);obtain ⟨z,x⟩ : ∃ z : Int,z = ((f + 1 : Nat) : Int) - 3:=⟨_,rfl⟩;rw [<- x];have E : dL C Ln T V M (f + 1) l e q = oG C Ln T V M z (dL C Ln T V M f) B[e].1 l e q:=by rw [dL,qV i c,x]
   have I : CF (dL C Ln T V M f) (z - 1) (PF f) (XF f) (800000 - 10000 * f) ca cb co Ln cc C T V M tp vp mp:=by
    have h:=ih (by omega);rw [show (f : Int) - 3 = z - 1 by omega] at h;exact h
   obtain ⟨L,v,S,Q⟩:=BE (show f <= 5 by omega);obtain ⟨O,R⟩:=Cw (show f <= 4 by omega);have F : XF (f + 1) = 3 * XF f + 70:=rfl;have H : PF (f + 1) = 3 * PF f + 60:=rfl;have n : ∀ N,N <= q + 1 + 2 * PF f -> CF (dL C Ln T V M f) (z - 1) (PF f) (XF f) N ca cb co Ln cc C T V M tp vp mp:=fun N hN W2 xs2 l2 ta2 tc2 e2 q2 b1 b2 b3 b4 b5 b6=>I W2 xs2 l2 ta2 tc2 e2 q2 b1 b2 b3 b4 b5 (by omega);have D : Cs (ud C Ln V M (z - 2)) (z - 2) 3 25 (q + 10) ca cb co Ln cc C T V M tp vp mp:=fun W2 xs2 l2 ta2 tc2 e2 q2 b1 b2 b3 b4 b5 b6 b7=>zi hLn hV (by omega) (by omega) W2 xs2 l2 ta2 tc2 e2 q2 b1 b2 b3 b4 b5 b6 (by omega);by_cases a : tk C Ln q 16 = 15
   ·by_cases p : z <= 0
    ·exact kM W z (by omega) (by omega) b hLn (by omega) d j i c (g:=Bo C Ln V M z) (by rw [E];unfold oG;rw [if_pos a,if_pos p]) (P0:=2) (X0:=25) (by omega) (by omega) a (fun W2 q2 hb v=>g_E_lit W2 z (nlr _) (nlr _) (b.below hb) hLn (by omega) (d.below hb) hV (.inr p) rfl)
    ·by_cases y : z = 1
     ·subst y
      have : f = 3:=by omega
      subst this;exact kM W 1 (by omega) (by omega) b hLn (by omega) d j i c (g:=em C Ln T M 1 V) (by rw [E];unfold oG;rw [if_pos a,if_neg p];rfl) (P0:=PE 1) (X0:=XE 1) (by decide) (by decide) a (fun W2 q2 hb v=>Dn hLn 1 (by omega) W2 V vp q2 (b.below hb) (d.below hb) hV (by omega) (by omega))
     ·have : z = 2:=by omega
      subst this;have : f = 4:=by omega
      subst this;exact kM W 2 (by omega) (by omega) b hLn (by omega) d j i c (g:=em C Ln T M 2 V) (by rw [E];unfold oG;rw [if_pos a,if_neg p];rfl) (P0:=PE 2) (X0:=XE 2) (by decide) (by decide) a (fun W2 q2 hb v=>Dn hLn 2 (by omega) W2 V vp q2 (b.below hb) (d.below hb) hV (by omega) (by omega))
   have s:=fun hop h0 hop2 hE=>kS W z (by omega) (by omega) b hLn (by omega) d j i c (cc:=cc) (P:=PF (f + 1)) (X:=XF (f + 1)) (by omega) (by omega) ⟨a,hop,h0⟩ hop2 (r:=dL C Ln T V M (f + 1) l e q) hE;rcases op_of i c with o | o | o | o | o | o
   ·by_cases t : 5 <= tk C Ln q 16 /\ tk C Ln q 16 < 10 /\ 0 < z
    ·exact mA W z (by omega) (by omega) b hLn (by omega) d j i c (by omega) (by omega) t.2.1 (.inr ⟨o,t.1,t.2.2⟩) (G1:=ud C Ln V M (z - 2)) (by rw [E];unfold oG;rw [if_neg a,if_pos o,if_pos t];rfl) D
    by_cases m : 0 < z /\ 10 <= tk C Ln q 16 /\ tk C Ln q 16 < 13
    ·exact qI W z (by omega) (by omega) b hLn (by omega) d j i c (P1:=PF f) (X1:=XF f) m.1 (by omega) (by omega) (by omega) (by omega) m.2 (.inl o) (Gf:=dL C Ln T V M f) (by rw [E];unfold oG;rw [if_neg a,if_pos o,if_neg t,if_pos m];rfl) (n _ (by omega))
    by_cases k : tk C Ln q 16 < 8
    ·exact mV W z (by omega) (by omega) b hLn (by omega) d j i c (by omega) (by omega) k ⟨o,by omega⟩ (by rw [E];unfold oG;rw [if_neg a,if_pos o,if_neg t,if_neg m,if_pos k])
    ·exact s (fun _=>⟨by omega,fun h=>by omega⟩) (fun h=>by omega) (.inl o) (by rw [E];unfold oG;rw [if_neg a,if_pos o,if_neg t,if_neg m,if_neg k])
   ·by_cases k : tk C Ln q 16 < 8
    ·exact mA W z (by omega) (by omega) b hLn (by omega) d j i c (by omega) (by omega) (by omega) (.inl ⟨o,k⟩) (G1:=ud C Ln V M (z - 2)) (by rw [E];unfold oG;rw [if_neg a,if_neg (by omega),if_pos o,if_pos k];rfl) D
    ·exact n7 W z (by omega) (by omega) b hLn (by omega) d j i c (by omega) (by omega) ⟨by omega,a⟩ o (by rw [E];unfold oG;rw [if_neg a,if_neg (by omega),if_pos o,if_neg k])
   ·by_cases m : 0 < z /\ 10 <= tk C Ln q 16 /\ tk C Ln q 16 < 13
    ·exact qI W z (by omega) (by omega) b hLn (by omega) d j i c (P1:=PF f) (X1:=XF f) m.1 (by omega) (by omega) (by omega) (by omega) m.2 (.inr (.inl o)) (Gf:=dL C Ln T V M f) (by rw [E];unfold oG;rw [if_neg a,if_neg (by omega),if_neg (by omega),if_neg (by omega),if_neg (by omega),if_pos m];rfl) (n _ (by omega))
    ·exact s (fun h=>by omega) (fun h=>by omega) (.inr (.inl o)) (by rw [E];unfold oG;rw [if_neg a,if_neg (by omega),if_neg (by omega),if_neg (by omega),if_neg (by omega),if_neg m])
   ·by_cases m : 0 < z /\ 10 <= tk C Ln q 16 /\ tk C Ln q 16 < 13
    ·exact qI W z (by omega) (by omega) b hLn (by omega) d j i c (P1:=PF f) (X1:=XF f) m.1 (by omega) (by omega) (by omega) (by omega) m.2 (.inr (.inr o)) (Gf:=dL C Ln T V M f) (by rw [E];unfold oG;rw [if_neg a,if_neg (by omega),if_neg (by omega),if_neg (by omega),if_neg (by omega),if_pos m];rfl) (n _ (by omega))
    ·exact s (fun h=>by omega) (fun h=>by omega) (.inr (.inr (.inl o))) (by rw [E];unfold oG;rw [if_neg a,if_neg (by omega),if_neg (by omega),if_neg (by omega),if_neg (by omega),if_neg m])
   ·exact yr W z (by omega) (by omega) b hLn (by omega) d j i c (P1:=PF f) (X1:=XF f) (by omega) (by omega) (by omega) (by omega) (by omega) a o (Gf:=dL C Ln T V M f) (by rw [E];unfold oG;rw [if_neg a,if_neg (by omega),if_neg (by omega),if_pos o];rfl) (n _ (by omega))
   ·exact yC W z (by omega) (by omega) b hLn (by omega) d j i c (P1:=PF f) (X1:=XF f) (by omega) (by omega) (by omega) (by omega) (by omega) a o (Gf:=dL C Ln T V M f) (by rw [E];unfold oG;rw [if_neg a,if_neg (by omega),if_neg (by omega),if_neg (by omega),if_pos o];rfl) (n _ (by omega))
end Go.Proofs.YtihedobejcaapaaGreatDoor
