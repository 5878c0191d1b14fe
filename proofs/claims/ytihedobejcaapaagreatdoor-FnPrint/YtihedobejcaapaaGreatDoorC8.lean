/-
  YbP1
-/
import Derived.Test.YtihedobejcaapaaGreatDoorC7
set_option maxHeartbeats 4000000
set_option maxRecDepth 100000
namespace Go.Proofs.YtihedobejcaapaaGreatDoor
open Go.RowKit
theorem ss (w : World) (z : Int) (_hz1 : -10 <= z) (_hz2 : z <= 2) {P X : Nat} {ca : Option Addr} {cb co Ln cc p : Nat} {C : Nat -> Nat} (hC : am w ca cb co Ln C) (hLn : Ln <= 1048576) (hp : p <= 900000) {T V M : List ByteArray} {tp vp mp : NPl} (hS : Sc w T V M tp vp mp) {xs : List (TI × NPl)} {l : List TI} {ta : Option Addr} {tc e : Nat} (hT : fq w (.slice ta xs.length tc) xs) (hH : TH xs l) (he : e < xs.length)
  (hP : 1 <= P) (hX : 25 <= X) (hca : tk C Ln p 16 ≠ 15 /\ (8 <= tk C Ln p 16 /\ (0 < z -> 10 <= tk C Ln p 16)) /\ (0 < z -> ¬ (10 <= tk C Ln p 16 /\ tk C Ln p 16 < 13))) (hop : xs[e].1.op = 1) {r : List EI × Nat} (hr : r = (lF (tk C Ln p 16) M,p + 1)) :
  Calls Tryz.prog 39 #[.slice ca Ln cc,.int .i64 (p : Int),.agg #[.slice tp.a T.length tp.c,.slice vp.a V.length vp.c,.slice mp.a M.length mp.c],.slice ta xs.length tc,.int .i64 ((e : Int) + 1),.int .i64 z] w (j8 w P X p r):=by
 obtain ⟨i0,cq,be,b0,bp⟩:=info_parts Tryz.infoEI;have bv : Hid (M.length <= 1000):=hS.lm.1;have a2:=hH.len;have a8:=hQx hH;obtain ⟨W1,Z,a,g,nd,xt,op,ps,H,K,i,Q,C1,ha,a6,an,a0,x,y0,y1,y2,y3,ab,m,Y,S,bf,_⟩:=io w hC (cc:=cc) hLn hp hS hT hH he;rw [<- ha] at hca hr;have y : Hid (r = (lF a M,p + 1)):=hr;clear hr;rw [<- m] at hop;have bL : Hid (op = xt.1.op):=by rw [ab.out.2];exact m
 have U : IntKind.i64.wrap ((e : Int) + 1 - 1) = (e : Int):=wk (by omega);have ao : IntKind.i64.wrap (e : Int) = (e : Int):=wk (by omega);have ar : (e : Int) < (xs.length : Int):=by omega
 have ah : (0 : Int) <= (e : Int):=by omega
 have b3 : ((a : Int) == 15) = false:=bn2 (by omega);have N : op = 1:=hop;clear hop;subst N;have O:=x;rw [x];clear hC hS ha hT hH m x;go_enter Tryz.func39,Tryz.ntmps39;go_wp2_with fail;rw [<- H];clear H;refine C1.mono ?_;rintro e' w7 ⟨rfl,rfl⟩;clear C1;go_wp2_with fail;rw [<- K];rw [O] at S;refine S.mono ?_;rintro e' j ⟨va,cp,rfl,D,BP⟩;have v : Hid (Bw Z j):=BP;have ch : Hid (j.ownsRow Z.heap.size 3 1 (.slice va nd cp) nd (eh ps)):=D;have t : Hid (Bw W1 j):=Q.out.trans (v.out.mono Q.out.size);obtain ⟨f,b⟩:=xe (j.alloc (.cells #[] 65));have R : Hid (Bw j f):=by rw [b];exact bel1 _ _
 have cs : Hid (GE j.heap.size 0 f (some ⟨j.heap.size,0,none⟩) 0 0 0 []):=by rw [b];exact eL j
 have d : Hid (Bw W1 f):=t.out.trans (R.out.mono t.out.size);have J : Hid (Bw Z f):=v.out.trans (R.out.mono v.out.size);obtain ⟨t0,t3⟩:=Y.out f J.out;obtain ⟨x0,x1,x2⟩:=an.out f d.out;rw [b] at t0 t3 x0 x1 x2;clear S BP D K y0 y1 y2 y3 U ao ar ah
 have h : Hid (∀ (op num : Int) (md nm : ByteArray) (V : World),V = f.alloc (.cells #[.int .i64 op,.int .i64 num,.string md,.string nm,.slice none 0 0,.slice none 0 0] 65) \/ V = (f.alloc (.cells #[.int .i64 op,.int .i64 num,.string md,.string nm,.slice none 0 0,.slice none 0 0] 65)).drew -> md.size <= 12 -> nm.size <= 12 -> r = ([bI op num md nm],p + 1) -> j8 w P X p r (.returned (.tuple #[.slice (some ⟨j.heap.size + 1,0,none⟩) 1 1,.int .i64 ((p + 1 : Nat) : Int)])) V):=fun op num md nm V hV h1 h2 hrr=>by
  have u : f.heap.size = j.heap.size + 1:=by rw [b];simp
  rw [<- u];have A : w.heap.size <= f.heap.size:=Nat.le_trans i.out.size d.out.size;have G:=(iz f (Bi:=0) (X:=X) op num (md:=md) (nm:=nm) (by omega)).mono A (nlr _) (nlr _);have s:=(i.out.trans (d.out.mono i.out.size)).alloc A (.cells #[.int .i64 op,.int .i64 num,.string md,.string nm,.slice none 0 0,.slice none 0 0] 65);rcases hV with rfl | rfl
  ·exact ⟨⟨_,_,_,p + 1,rfl,by omega,by omega,_,G,hrr⟩,s⟩
  ·exact ⟨⟨_,_,_,p + 1,rfl,by omega,by omega,_,G.drew,hrr⟩,s.drew⟩
 have E : Hid (∀ V : World,V = f.alloc (.cells #[.int .i64 3,.int .i64 0,.string ⟨#[]⟩,.string ⟨#[113]⟩,.slice none 0 0,.slice none 0 0,.int .i64 1,.int .i64 (a : Int),.string ⟨#[]⟩,.string ⟨#[]⟩,.slice none 0 0,.slice none 0 0,.int .i64 7,.int .i64 0,.string ⟨#[]⟩,.string ⟨#[]⟩,.slice none 0 0,.slice none 0 0,.int .i64 5,.int .i64 0,.string ⟨#[]⟩,.string ⟨#[120]⟩,.slice none 0 0,.slice none 0 0] 65) -> r = ([bI 3 0 ⟨#[]⟩ ⟨#[113]⟩,bI 1 (a : Int) ⟨#[]⟩ ⟨#[]⟩,bI 7 0 ⟨#[]⟩ ⟨#[]⟩,bI 5 0 ⟨#[]⟩ ⟨#[120]⟩],p + 1) -> j8 w P X p r (.returned (.tuple #[.slice (some ⟨j.heap.size + 1,0,none⟩) 4 4,.int .i64 ((p + 1 : Nat) : Int)])) V):=fun V hV hrr=>by
  have u : f.heap.size = j.heap.size + 1:=by rw [b];simp
  rw [<- u];have A : w.heap.size <= f.heap.size:=Nat.le_trans i.out.size d.out.size;have G:=(nK f (Bi:=0) (X:=X) (a : Int) hX).mono A (nlr _) (nlr _);have s:=(i.out.trans (d.out.mono i.out.size)).alloc A (.cells #[.int .i64 3,.int .i64 0,.string ⟨#[]⟩,.string ⟨#[113]⟩,.slice none 0 0,.slice none 0 0,.int .i64 1,.int .i64 (a : Int),.string ⟨#[]⟩,.string ⟨#[]⟩,.slice none 0 0,.slice none 0 0,.int .i64 7,.int .i64 0,.string ⟨#[]⟩,.string ⟨#[]⟩,.slice none 0 0,.slice none 0 0,.int .i64 5,.int .i64 0,.string ⟨#[]⟩,.string ⟨#[120]⟩,.slice none 0 0,.slice none 0 0] 65);rw [hV];exact ⟨⟨_,_,_,p + 1,rfl,by omega,by omega,_,G,hrr⟩,s⟩
 have bo : Hid (∀ W,Bw W1 W -> Sc W T V M tp vp mp):=fun W hb=>(a0.out W hb).2.1;by_cases b7 : (0 : Int) < z
 ·have F : (5 : Int) <= (a : Int):=by omega
  have I : ¬ (a : Int) < 8:=by omega
  have L : ¬ (a : Int) < 3:=by omega
  have B : ¬ (a : Int) < 9:=by omega
  have n : ¬ (a : Int) < 10:=by omega
  have k : ¬ (a : Int) < 12:=by omega
  have o : ¬ (a : Int) < 13:=by omega
  have q : (10 : Int) <= (a : Int):=by omega
  clear hca;go_wp2_with fail;rw [<- b];go_ret2;exact h.out 3 0 ⟨#[]⟩ ⟨#[102]⟩ _ (.inl rfl) (by decide) (by decide) (by rw [y.out,jH (by omega)])
 ·by_cases k9 : a < 9
  ·have F : (5 : Int) <= (a : Int):=by omega
   have I : ¬ (a : Int) < 8:=by omega
   have L : ¬ (a : Int) < 3:=by omega
   have B : (a : Int) < 9:=by omega
   have n : (a : Int) < 10:=by omega
   have k : (a : Int) < 12:=by omega
   have o : (a : Int) < 13:=by omega
   have q : ¬ (10 : Int) <= (a : Int):=by omega
   clear hca;go_wp2_with fail;rw [<- b];go_ret2;exact h.out 3 0 ⟨#[]⟩ ⟨#[113]⟩ _ (.inl rfl) (by decide) (by decide) (by rw [y.out,kQ (by omega) (by omega)])
  ·by_cases b1 : a < 10
   ·have F : (5 : Int) <= (a : Int):=by omega
    have I : ¬ (a : Int) < 8:=by omega
    have L : ¬ (a : Int) < 3:=by omega
    have B : ¬ (a : Int) < 9:=by omega
    have n : (a : Int) < 10:=by omega
    have k : (a : Int) < 12:=by omega
    have o : (a : Int) < 13:=by omega
    have q : ¬ (10 : Int) <= (a : Int):=by omega
    clear hca;go_wp2_with fail;rw [<- b];go_ret2;exact E.out _ rfl (by rw [y.out,kP (by omega) (by omega)])
   ·by_cases bb : a < 12
    ·have F : (5 : Int) <= (a : Int):=by omega
     have I : ¬ (a : Int) < 8:=by omega
     have L : ¬ (a : Int) < 3:=by omega
     have B : ¬ (a : Int) < 9:=by omega
     have n : ¬ (a : Int) < 10:=by omega
     have k : (a : Int) < 12:=by omega
     have o : (a : Int) < 13:=by omega
     have q : (10 : Int) <= (a : Int):=by omega
     clear hca;go_wp2_with fail;rw [<- b];go_ret2;exact E.out _ rfl (by rw [y.out,kP (by omega) (by omega)])
    ·by_cases bx : a < 13
     ·have F : (5 : Int) <= (a : Int):=by omega
      have I : ¬ (a : Int) < 8:=by omega
      have L : ¬ (a : Int) < 3:=by omega
      have B : ¬ (a : Int) < 9:=by omega
      have n : ¬ (a : Int) < 10:=by omega
      have k : ¬ (a : Int) < 12:=by omega
      have o : (a : Int) < 13:=by omega
      have q : (10 : Int) <= (a : Int):=by omega
      clear hca;go_wp2_with fail;rw [<- b];go_ret2;exact h.out 3 0 ⟨#[]⟩ ⟨#[102]⟩ _ (.inl rfl) (by decide) (by decide) (by rw [y.out,jH (by omega)])
     ·have F : (5 : Int) <= (a : Int):=by omega
      have I : ¬ (a : Int) < 8:=by omega
      have L : ¬ (a : Int) < 3:=by omega
      have B : ¬ (a : Int) < 9:=by omega
      have n : ¬ (a : Int) < 10:=by omega
      have k : ¬ (a : Int) < 12:=by omega
      have o : ¬ (a : Int) < 13:=by omega
      have q : (10 : Int) <= (a : Int):=by omega
      clear hca;go_wp2_with fail;rw [<- b];go_ret2;exact h.out 3 0 ⟨#[]⟩ ⟨#[102]⟩ _ (.inl rfl) (by decide) (by decide) (by rw [y.out,jH (by omega)])
end Go.Proofs.YtihedobejcaapaaGreatDoor
