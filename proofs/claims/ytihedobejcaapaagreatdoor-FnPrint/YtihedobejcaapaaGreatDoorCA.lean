/-
  YbP5
-/
import Derived.Test.YtihedobejcaapaaGreatDoorC7
set_option maxHeartbeats 4000000
set_option maxRecDepth 100000
namespace Go.Proofs.YtihedobejcaapaaGreatDoor
open Go.RowKit
theorem mj (w : World) (z : Int) (_hz1 : -10 <= z) (_hz2 : z <= 2) {P X : Nat} {ca : Option Addr} {cb co Ln cc p : Nat} {C : Nat -> Nat} (hC : am w ca cb co Ln C) (hLn : Ln <= 1048576) (hp : p <= 900000) {T V M : List ByteArray} {tp vp mp : NPl} (hS : Sc w T V M tp vp mp) {xs : List (TI × NPl)} {l : List TI} {ta : Option Addr} {tc e : Nat} (hT : fq w (.slice ta xs.length tc) xs) (hH : TH xs l) (he : e < xs.length)
  (hP : 1 <= P) (hX : 25 <= X) (hca : tk C Ln p 16 ≠ 15 /\ (0 < z -> ¬ (10 <= tk C Ln p 16 /\ tk C Ln p 16 < 13))) (hop : (xs[e].1.op = 5 \/ xs[e].1.op = 6) /\ z <= -3) {r : List EI × Nat} (hr : r = (lF (tk C Ln p 16) M,p + 1)) :
  Calls Tryz.prog 39 #[.slice ca Ln cc,.int .i64 (p : Int),.agg #[.slice tp.a T.length tp.c,.slice vp.a V.length vp.c,.slice mp.a M.length mp.c],.slice ta xs.length tc,.int .i64 ((e : Int) + 1),.int .i64 z] w (j8 w P X p r):=by
 obtain ⟨i0,ds,b4,cq,b8⟩:=info_parts Tryz.infoEI;have a1 : Hid (M.length <= 1000):=hS.lm.1;have bo:=hH.len;have b1:=hQx hH;obtain ⟨W1,W2,a,g,nd,xt,op,ps,O,R,i,Y,C1,ha,bL,a6,be,I,y0,y1,y2,y3,a3,o,a0,CP,b5,_⟩:=io w hC (cc:=cc) hLn hp hS hT hH he;rw [<- ha] at hca hr;have J : Hid (r = (lF a M,p + 1)):=hr;clear hr;rw [<- o] at hop;have cn : Hid (op = xt.1.op):=by rw [a3.out.2];exact o
 have ao : IntKind.i64.wrap ((e : Int) + 1 - 1) = (e : Int):=wk (by omega);have a9 : IntKind.i64.wrap (e : Int) = (e : Int):=wk (by omega);have bb : (e : Int) < (xs.length : Int):=by omega
 have a4 : (0 : Int) <= (e : Int):=by omega
 have cx : ((a : Int) == 15) = false:=bn2 (by omega);have b7 : z <= -3:=by omega
 rcases hop.1 with A | A
 all_goals
  subst A;clear hop;have U:=I;rw [I];clear hC hS ha hT hH o I;go_enter Tryz.func39,Tryz.ntmps39;go_wp2_with fail;rw [<- O];clear O;refine C1.mono ?_;rintro e' w7 ⟨rfl,rfl⟩;clear C1;go_wp2_with fail;rw [<- R];rw [U] at CP;refine CP.mono ?_;rintro e' j ⟨va,cp,rfl,L,BP⟩;have F : Hid (Bw W2 j):=BP;have di : Hid (j.ownsRow W2.heap.size 3 1 (.slice va nd cp) nd (eh ps)):=L;have B : Hid (Bw W1 j):=Y.out.trans (F.out.mono Y.out.size);obtain ⟨h,b⟩:=xe (j.alloc (.cells #[] 65));have Z : Hid (Bw j h):=by rw [b];exact bel1 _ _
  have dt : Hid (GE j.heap.size 0 h (some ⟨j.heap.size,0,none⟩) 0 0 0 []):=by rw [b];exact eL j
  have d : Hid (Bw W1 h):=B.out.trans (Z.out.mono B.out.size);have Q : Hid (Bw W2 h):=F.out.trans (Z.out.mono F.out.size);obtain ⟨t0,t3⟩:=a0.out h Q.out;obtain ⟨x0,x1,x2⟩:=a6.out h d.out;rw [b] at t0 t3 x0 x1 x2;clear CP BP L R y0 y1 y2 y3 ao a9 bb a4
  have f : Hid (∀ (op num : Int) (md nm : ByteArray) (V : World),V = h.alloc (.cells #[.int .i64 op,.int .i64 num,.string md,.string nm,.slice none 0 0,.slice none 0 0] 65) \/ V = (h.alloc (.cells #[.int .i64 op,.int .i64 num,.string md,.string nm,.slice none 0 0,.slice none 0 0] 65)).drew -> md.size <= 12 -> nm.size <= 12 -> r = ([bI op num md nm],p + 1) -> j8 w P X p r (.returned (.tuple #[.slice (some ⟨j.heap.size + 1,0,none⟩) 1 1,.int .i64 ((p + 1 : Nat) : Int)])) V):=fun op num md nm V hV h1 h2 hrr=>by
   have E : h.heap.size = j.heap.size + 1:=by rw [b];simp
   rw [<- E];have v : w.heap.size <= h.heap.size:=Nat.le_trans i.out.size d.out.size;have G:=(iz h (Bi:=0) (X:=X) op num (md:=md) (nm:=nm) (by omega)).mono v (nlr _) (nlr _);have x:=(i.out.trans (d.out.mono i.out.size)).alloc v (.cells #[.int .i64 op,.int .i64 num,.string md,.string nm,.slice none 0 0,.slice none 0 0] 65);rcases hV with rfl | rfl
   ·exact ⟨⟨_,_,_,p + 1,rfl,by omega,by omega,_,G,hrr⟩,x⟩
   ·exact ⟨⟨_,_,_,p + 1,rfl,by omega,by omega,_,G.drew,hrr⟩,x.drew⟩
  have N : Hid (∀ V : World,V = h.alloc (.cells #[.int .i64 3,.int .i64 0,.string ⟨#[]⟩,.string ⟨#[113]⟩,.slice none 0 0,.slice none 0 0,.int .i64 1,.int .i64 (a : Int),.string ⟨#[]⟩,.string ⟨#[]⟩,.slice none 0 0,.slice none 0 0,.int .i64 7,.int .i64 0,.string ⟨#[]⟩,.string ⟨#[]⟩,.slice none 0 0,.slice none 0 0,.int .i64 5,.int .i64 0,.string ⟨#[]⟩,.string ⟨#[120]⟩,.slice none 0 0,.slice none 0 0] 65) -> r = ([bI 3 0 ⟨#[]⟩ ⟨#[113]⟩,bI 1 (a : Int) ⟨#[]⟩ ⟨#[]⟩,bI 7 0 ⟨#[]⟩ ⟨#[]⟩,bI 5 0 ⟨#[]⟩ ⟨#[120]⟩],p + 1) -> j8 w P X p r (.returned (.tuple #[.slice (some ⟨j.heap.size + 1,0,none⟩) 4 4,.int .i64 ((p + 1 : Nat) : Int)])) V):=fun V hV hrr=>by
   have E : h.heap.size = j.heap.size + 1:=by rw [b];simp
   rw [<- E];have v : w.heap.size <= h.heap.size:=Nat.le_trans i.out.size d.out.size;have G:=(nK h (Bi:=0) (X:=X) (a : Int) hX).mono v (nlr _) (nlr _);have x:=(i.out.trans (d.out.mono i.out.size)).alloc v (.cells #[.int .i64 3,.int .i64 0,.string ⟨#[]⟩,.string ⟨#[113]⟩,.slice none 0 0,.slice none 0 0,.int .i64 1,.int .i64 (a : Int),.string ⟨#[]⟩,.string ⟨#[]⟩,.slice none 0 0,.slice none 0 0,.int .i64 7,.int .i64 0,.string ⟨#[]⟩,.string ⟨#[]⟩,.slice none 0 0,.slice none 0 0,.int .i64 5,.int .i64 0,.string ⟨#[]⟩,.string ⟨#[120]⟩,.slice none 0 0,.slice none 0 0] 65);rw [hV];exact ⟨⟨_,_,_,p + 1,rfl,by omega,by omega,_,G,hrr⟩,x⟩
  have ar : Hid (∀ W,Bw W1 W -> Sc W T V M tp vp mp):=fun W hb=>(be.out W hb).2.1;have ck : ¬ (-3 : Int) < z:=by omega
  have c2 : ¬ (0 : Int) < z:=by omega
  by_cases k3 : a < 3
  ·have S : (a : Int) < 3:=by omega
   have K : (a : Int) < 9:=by omega
   have q : (a : Int) < 10:=by omega
   have n : (a : Int) < 12:=by omega
   have t : (a : Int) < 13:=by omega
   have u : ¬ (10 : Int) <= (a : Int):=by omega
   clear hca;by_cases cM : (0 : Int) < (M.length : Int)
   ·obtain ⟨k,hk⟩:=xe (a % M.length)
    have a5 : ¬ (M.length : Int) = 0:=by omega
    have D : k < M.length:=by rw [hk];exact Nat.mod_lt _ (by omega)
    have m1 : Int.tmod (a : Int) (M.length : Int) = (k : Int):=by rw [bl,hk]
    have m2 : (k : Int) < (M.length : Int):=by omega
    have m3 : (0 : Int) <= (k : Int):=by omega
    have SM:=ar.out h d.out;have ea:=SM.m.at_ (by omega);have yk:=SM.m.cell k D;have H:=SM.gm (M.getD k e0) (by rw [List.getD_eq_getElem?_getD,List.getElem?_eq_getElem D];exact List.getElem_mem D);obtain ⟨s,v⟩:=xe (M.getD k e0);have HL : Hid (r = ([bI 3 0 s ⟨#[113]⟩],p + 1)):=by show _ = _;rw [J.out,ul ⟨by omega,by omega⟩,v,hk]
    rw [<- v] at yk H;have a7 : Hid (gn s = true):=H;obtain ⟨ml,y⟩:=xe (M.length);have ce : ml <= 1000:=by rw [y];exact a1.out
    rw [ea] at x2;rw [<- y] at x2 cM a5 m1 m2;rw [ea,<- y];rw [b] at yk;clear hk v ea H y SM;go_wp2
    go_region
    all_goals
     go_wp2;rw [<- b];go_ret2;exact f.out 3 0 s ⟨#[113]⟩ _ (.inr rfl) (dr a7.out) (by decide) HL.out
   ·go_wp2_with fail
    rw [<- b];go_ret2;exact f.out 3 0 ⟨#[]⟩ ⟨#[113]⟩ _ (.inl rfl) (by decide) (by decide) (by rw [J.out,kQ (by omega) (by omega)])
  ·by_cases k9 : a < 9
   ·have S : ¬ (a : Int) < 3:=by omega
    have K : (a : Int) < 9:=by omega
    have q : (a : Int) < 10:=by omega
    have n : (a : Int) < 12:=by omega
    have t : (a : Int) < 13:=by omega
    have u : ¬ (10 : Int) <= (a : Int):=by omega
    clear hca;go_wp2_with fail;rw [<- b];go_ret2;exact f.out 3 0 ⟨#[]⟩ ⟨#[113]⟩ _ (.inl rfl) (by decide) (by decide) (by rw [J.out,kQ (by omega) (by omega)])
   ·by_cases cs : a < 10
    ·have S : ¬ (a : Int) < 3:=by omega
     have K : ¬ (a : Int) < 9:=by omega
     have q : (a : Int) < 10:=by omega
     have n : (a : Int) < 12:=by omega
     have t : (a : Int) < 13:=by omega
     have u : ¬ (10 : Int) <= (a : Int):=by omega
     clear hca;go_wp2_with fail;rw [<- b];go_ret2;exact N.out _ rfl (by rw [J.out,kP (by omega) (by omega)])
    ·by_cases b3 : a < 12
     ·have S : ¬ (a : Int) < 3:=by omega
      have K : ¬ (a : Int) < 9:=by omega
      have q : ¬ (a : Int) < 10:=by omega
      have n : (a : Int) < 12:=by omega
      have t : (a : Int) < 13:=by omega
      have u : (10 : Int) <= (a : Int):=by omega
      clear hca;go_wp2_with fail;rw [<- b];go_ret2;exact N.out _ rfl (by rw [J.out,kP (by omega) (by omega)])
     ·by_cases ch : a < 13
      ·have S : ¬ (a : Int) < 3:=by omega
       have K : ¬ (a : Int) < 9:=by omega
       have q : ¬ (a : Int) < 10:=by omega
       have n : ¬ (a : Int) < 12:=by omega
       have t : (a : Int) < 13:=by omega
       have u : (10 : Int) <= (a : Int):=by omega
       clear hca;go_wp2_with fail;rw [<- b];go_ret2;exact f.out 3 0 ⟨#[]⟩ ⟨#[102]⟩ _ (.inl rfl) (by decide) (by decide) (by rw [J.out,jH (by omega)])
      ·have S : ¬ (a : Int) < 3:=by omega
       have K : ¬ (a : Int) < 9:=by omega
       have q : ¬ (a : Int) < 10:=by omega
       have n : ¬ (a : Int) < 12:=by omega
       have t : ¬ (a : Int) < 13:=by omega
       have u : (10 : Int) <= (a : Int):=by omega
       clear hca;go_wp2_with fail;rw [<- b];go_ret2;exact f.out 3 0 ⟨#[]⟩ ⟨#[102]⟩ _ (.inl rfl) (by decide) (by decide) (by rw [J.out,jH (by omega)])
end Go.Proofs.YtihedobejcaapaaGreatDoor
