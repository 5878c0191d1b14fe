/-
  YbP3
-/
import Derived.Test.YtihedobejcaapaaGreatDoorC7
set_option maxHeartbeats 4000000
set_option maxRecDepth 100000
namespace Go.Proofs.YtihedobejcaapaaGreatDoor
open Go.RowKit
theorem l8 (w : World) (z : Int) (_hz1 : -10 <= z) (_hz2 : z <= 2) {P X : Nat} {ca : Option Addr} {cb co Ln cc p : Nat} {C : Nat -> Nat} (hC : am w ca cb co Ln C) (hLn : Ln <= 1048576) (hp : p <= 900000) {T V M : List ByteArray} {tp vp mp : NPl} (hS : Sc w T V M tp vp mp) {xs : List (TI × NPl)} {l : List TI} {ta : Option Addr} {tc e : Nat} (hT : fq w (.slice ta xs.length tc) xs) (hH : TH xs l) (he : e < xs.length)
  (hP : 1 <= P) (hX : 25 <= X) (hca : tk C Ln p 16 ≠ 15 /\ (0 < z -> ¬ (10 <= tk C Ln p 16 /\ tk C Ln p 16 < 13))) (hop : xs[e].1.op = 3 \/ xs[e].1.op = 4) {r : List EI × Nat} (hr : r = (lF (tk C Ln p 16) M,p + 1)) :
  Calls Tryz.prog 39 #[.slice ca Ln cc,.int .i64 (p : Int),.agg #[.slice tp.a T.length tp.c,.slice vp.a V.length vp.c,.slice mp.a M.length mp.c],.slice ta xs.length tc,.int .i64 ((e : Int) + 1),.int .i64 z] w (j8 w P X p r):=by
 obtain ⟨i0,dt,ch,c1,ct⟩:=info_parts Tryz.infoEI;have ah : Hid (M.length <= 1000):=hS.lm.1;have b2:=hH.len;have b8:=hQx hH;obtain ⟨W1,W2,a,g,nd,xt,op,ps,ab,ar,x,a1,C1,ha,b6,bn,bL,R,y0,y1,y2,y3,a9,B,a6,CP,ck,_⟩:=io w hC (cc:=cc) hLn hp hS hT hH he;rw [<- ha] at hca hr;have A : Hid (r = (lF a M,p + 1)):=hr;clear hr;rw [<- B] at hop;have c0 : Hid (op = xt.1.op):=by rw [a9.out.2];exact B
 have a5 : IntKind.i64.wrap ((e : Int) + 1 - 1) = (e : Int):=wk (by omega);have bv : IntKind.i64.wrap (e : Int) = (e : Int):=wk (by omega);have bx : (e : Int) < (xs.length : Int):=by omega
 have bb : (0 : Int) <= (e : Int):=by omega
 have c4 : ((a : Int) == 15) = false:=bn2 (by omega);rcases hop with J | J
 all_goals
  subst J;have a0:=R;rw [R];clear hC hS ha hT hH B R;go_enter Tryz.func39,Tryz.ntmps39;go_wp2_with fail;rw [<- ab];clear ab;refine C1.mono ?_;rintro e' w7 ⟨rfl,rfl⟩;clear C1;go_wp2_with fail;rw [<- ar];rw [a0] at CP;refine CP.mono ?_;rintro e' y ⟨va,cp,rfl,Z,BP⟩;have Q : Hid (Bw W2 y):=BP;have dl : Hid (y.ownsRow W2.heap.size 3 1 (.slice va nd cp) nd (eh ps)):=Z;have K : Hid (Bw W1 y):=a1.out.trans (Q.out.mono a1.out.size);obtain ⟨q,b⟩:=xe (y.alloc (.cells #[] 65));have a2 : Hid (Bw y q):=by rw [b];exact bel1 _ _
  have dv : Hid (GE y.heap.size 0 q (some ⟨y.heap.size,0,none⟩) 0 0 0 []):=by rw [b];exact eL y
  have f : Hid (Bw W1 q):=K.out.trans (a2.out.mono K.out.size);have ao : Hid (Bw W2 q):=Q.out.trans (a2.out.mono Q.out.size);obtain ⟨t0,t3⟩:=a6.out q ao.out;obtain ⟨x0,x1,x2⟩:=bn.out q f.out;rw [b] at t0 t3 x0 x1 x2;clear CP BP Z ar y0 y1 y2 y3 a5 bv bx bb
  have d : Hid (∀ (op num : Int) (md nm : ByteArray) (V : World),V = q.alloc (.cells #[.int .i64 op,.int .i64 num,.string md,.string nm,.slice none 0 0,.slice none 0 0] 65) \/ V = (q.alloc (.cells #[.int .i64 op,.int .i64 num,.string md,.string nm,.slice none 0 0,.slice none 0 0] 65)).drew -> md.size <= 12 -> nm.size <= 12 -> r = ([bI op num md nm],p + 1) -> j8 w P X p r (.returned (.tuple #[.slice (some ⟨y.heap.size + 1,0,none⟩) 1 1,.int .i64 ((p + 1 : Nat) : Int)])) V):=fun op num md nm V hV h1 h2 hrr=>by
   have O : q.heap.size = y.heap.size + 1:=by rw [b];simp
   rw [<- O];have v : w.heap.size <= q.heap.size:=Nat.le_trans x.out.size f.out.size;have G:=(iz q (Bi:=0) (X:=X) op num (md:=md) (nm:=nm) (by omega)).mono v (nlr _) (nlr _);have I:=(x.out.trans (f.out.mono x.out.size)).alloc v (.cells #[.int .i64 op,.int .i64 num,.string md,.string nm,.slice none 0 0,.slice none 0 0] 65);rcases hV with rfl | rfl
   ·exact ⟨⟨_,_,_,p + 1,rfl,by omega,by omega,_,G,hrr⟩,I⟩
   ·exact ⟨⟨_,_,_,p + 1,rfl,by omega,by omega,_,G.drew,hrr⟩,I.drew⟩
  have L : Hid (∀ V : World,V = q.alloc (.cells #[.int .i64 3,.int .i64 0,.string ⟨#[]⟩,.string ⟨#[113]⟩,.slice none 0 0,.slice none 0 0,.int .i64 1,.int .i64 (a : Int),.string ⟨#[]⟩,.string ⟨#[]⟩,.slice none 0 0,.slice none 0 0,.int .i64 7,.int .i64 0,.string ⟨#[]⟩,.string ⟨#[]⟩,.slice none 0 0,.slice none 0 0,.int .i64 5,.int .i64 0,.string ⟨#[]⟩,.string ⟨#[120]⟩,.slice none 0 0,.slice none 0 0] 65) -> r = ([bI 3 0 ⟨#[]⟩ ⟨#[113]⟩,bI 1 (a : Int) ⟨#[]⟩ ⟨#[]⟩,bI 7 0 ⟨#[]⟩ ⟨#[]⟩,bI 5 0 ⟨#[]⟩ ⟨#[120]⟩],p + 1) -> j8 w P X p r (.returned (.tuple #[.slice (some ⟨y.heap.size + 1,0,none⟩) 4 4,.int .i64 ((p + 1 : Nat) : Int)])) V):=fun V hV hrr=>by
   have O : q.heap.size = y.heap.size + 1:=by rw [b];simp
   rw [<- O];have v : w.heap.size <= q.heap.size:=Nat.le_trans x.out.size f.out.size;have G:=(nK q (Bi:=0) (X:=X) (a : Int) hX).mono v (nlr _) (nlr _);have I:=(x.out.trans (f.out.mono x.out.size)).alloc v (.cells #[.int .i64 3,.int .i64 0,.string ⟨#[]⟩,.string ⟨#[113]⟩,.slice none 0 0,.slice none 0 0,.int .i64 1,.int .i64 (a : Int),.string ⟨#[]⟩,.string ⟨#[]⟩,.slice none 0 0,.slice none 0 0,.int .i64 7,.int .i64 0,.string ⟨#[]⟩,.string ⟨#[]⟩,.slice none 0 0,.slice none 0 0,.int .i64 5,.int .i64 0,.string ⟨#[]⟩,.string ⟨#[120]⟩,.slice none 0 0,.slice none 0 0] 65);rw [hV];exact ⟨⟨_,_,_,p + 1,rfl,by omega,by omega,_,G,hrr⟩,I⟩
  have Y : Hid (∀ W,Bw W1 W -> Sc W T V M tp vp mp):=fun W hb=>(bL.out W hb).2.1;by_cases dd : (0 : Int) < z
  ·by_cases k3 : a < 3
   ·have H : (a : Int) < 3:=by omega
    have D : (a : Int) < 9:=by omega
    have i : (a : Int) < 10:=by omega
    have h : (a : Int) < 12:=by omega
    have n : (a : Int) < 13:=by omega
    have o : ¬ (10 : Int) <= (a : Int):=by omega
    clear hca;by_cases cM : (0 : Int) < (M.length : Int)
    ·obtain ⟨k,E⟩:=xe (a % M.length)
     have N : ¬ (M.length : Int) = 0:=by omega
     have t : k < M.length:=by rw [E];exact Nat.mod_lt _ (by omega)
     have m1 : Int.tmod (a : Int) (M.length : Int) = (k : Int):=by rw [bl,E]
     have m2 : (k : Int) < (M.length : Int):=by omega
     have m3 : (0 : Int) <= (k : Int):=by omega
     have F:=Y.out q f.out;have U:=F.m.at_ (by omega);have yk:=F.m.cell k t;have u:=F.gm (M.getD k e0) (by rw [List.getD_eq_getElem?_getD,List.getElem?_eq_getElem t];exact List.getElem_mem t);obtain ⟨s,v⟩:=xe (M.getD k e0);have HL : Hid (r = ([bI 3 0 s ⟨#[113]⟩],p + 1)):=by show _ = _;rw [A.out,ul ⟨by omega,by omega⟩,v,E]
     rw [<- v] at yk u;have S : Hid (gn s = true):=u;obtain ⟨ml,j⟩:=xe (M.length);have a8 : ml <= 1000:=by rw [j];exact ah.out
     rw [U] at x2;rw [<- j] at x2 cM N m1 m2;rw [U,<- j];rw [b] at yk;clear E v U u j F;go_wp2
     go_region
     all_goals
      go_wp2;rw [<- b];go_ret2;exact d.out 3 0 s ⟨#[113]⟩ _ (.inr rfl) (dr S.out) (by decide) HL.out
    ·go_wp2_with fail
     rw [<- b];go_ret2;exact d.out 3 0 ⟨#[]⟩ ⟨#[113]⟩ _ (.inl rfl) (by decide) (by decide) (by rw [A.out,kQ (by omega) (by omega)])
   ·by_cases k9 : a < 9
    ·have H : ¬ (a : Int) < 3:=by omega
     have D : (a : Int) < 9:=by omega
     have i : (a : Int) < 10:=by omega
     have h : (a : Int) < 12:=by omega
     have n : (a : Int) < 13:=by omega
     have o : ¬ (10 : Int) <= (a : Int):=by omega
     clear hca;go_wp2_with fail;rw [<- b];go_ret2;exact d.out 3 0 ⟨#[]⟩ ⟨#[113]⟩ _ (.inl rfl) (by decide) (by decide) (by rw [A.out,kQ (by omega) (by omega)])
    ·by_cases bf : a < 10
     ·have H : ¬ (a : Int) < 3:=by omega
      have D : ¬ (a : Int) < 9:=by omega
      have i : (a : Int) < 10:=by omega
      have h : (a : Int) < 12:=by omega
      have n : (a : Int) < 13:=by omega
      have o : ¬ (10 : Int) <= (a : Int):=by omega
      clear hca;go_wp2_with fail;rw [<- b];go_ret2;exact L.out _ rfl (by rw [A.out,kP (by omega) (by omega)])
     ·have H : ¬ (a : Int) < 3:=by omega
      have D : ¬ (a : Int) < 9:=by omega
      have i : ¬ (a : Int) < 10:=by omega
      have h : ¬ (a : Int) < 12:=by omega
      have n : ¬ (a : Int) < 13:=by omega
      have o : (10 : Int) <= (a : Int):=by omega
      clear hca;go_wp2_with fail;rw [<- b];go_ret2;exact d.out 3 0 ⟨#[]⟩ ⟨#[102]⟩ _ (.inl rfl) (by decide) (by decide) (by rw [A.out,jH (by omega)])
  ·by_cases k3 : a < 3
   ·have H : (a : Int) < 3:=by omega
    have D : (a : Int) < 9:=by omega
    have i : (a : Int) < 10:=by omega
    have h : (a : Int) < 12:=by omega
    have n : (a : Int) < 13:=by omega
    have o : ¬ (10 : Int) <= (a : Int):=by omega
    clear hca;by_cases cM : (0 : Int) < (M.length : Int)
    ·obtain ⟨k,E⟩:=xe (a % M.length)
     have N : ¬ (M.length : Int) = 0:=by omega
     have t : k < M.length:=by rw [E];exact Nat.mod_lt _ (by omega)
     have m1 : Int.tmod (a : Int) (M.length : Int) = (k : Int):=by rw [bl,E]
     have m2 : (k : Int) < (M.length : Int):=by omega
     have m3 : (0 : Int) <= (k : Int):=by omega
     have F:=Y.out q f.out;have U:=F.m.at_ (by omega);have yk:=F.m.cell k t;have u:=F.gm (M.getD k e0) (by rw [List.getD_eq_getElem?_getD,List.getElem?_eq_getElem t];exact List.getElem_mem t);obtain ⟨s,v⟩:=xe (M.getD k e0);have HL : Hid (r = ([bI 3 0 s ⟨#[113]⟩],p + 1)):=by show _ = _;rw [A.out,ul ⟨by omega,by omega⟩,v,E]
     rw [<- v] at yk u;have S : Hid (gn s = true):=u;obtain ⟨ml,j⟩:=xe (M.length);have a8 : ml <= 1000:=by rw [j];exact ah.out
     rw [U] at x2;rw [<- j] at x2 cM N m1 m2;rw [U,<- j];rw [b] at yk;clear E v U u j F;go_wp2
     go_region
     all_goals
      go_wp2;rw [<- b];go_ret2;exact d.out 3 0 s ⟨#[113]⟩ _ (.inr rfl) (dr S.out) (by decide) HL.out
    ·go_wp2_with fail
     rw [<- b];go_ret2;exact d.out 3 0 ⟨#[]⟩ ⟨#[113]⟩ _ (.inl rfl) (by decide) (by decide) (by rw [A.out,kQ (by omega) (by omega)])
   ·by_cases k9 : a < 9
    ·have H : ¬ (a : Int) < 3:=by omega
     have D : (a : Int) < 9:=by omega
     have i : (a : Int) < 10:=by omega
     have h : (a : Int) < 12:=by omega
     have n : (a : Int) < 13:=by omega
     have o : ¬ (10 : Int) <= (a : Int):=by omega
     clear hca;go_wp2_with fail;rw [<- b];go_ret2;exact d.out 3 0 ⟨#[]⟩ ⟨#[113]⟩ _ (.inl rfl) (by decide) (by decide) (by rw [A.out,kQ (by omega) (by omega)])
    ·by_cases bf : a < 10
     ·have H : ¬ (a : Int) < 3:=by omega
      have D : ¬ (a : Int) < 9:=by omega
      have i : (a : Int) < 10:=by omega
      have h : (a : Int) < 12:=by omega
      have n : (a : Int) < 13:=by omega
      have o : ¬ (10 : Int) <= (a : Int):=by omega
      clear hca;go_wp2_with fail;rw [<- b];go_ret2;exact L.out _ rfl (by rw [A.out,kP (by omega) (by omega)])
     ·by_cases ce : a < 12
      ·have H : ¬ (a : Int) < 3:=by omega
       have D : ¬ (a : Int) < 9:=by omega
       have i : ¬ (a : Int) < 10:=by omega
       have h : (a : Int) < 12:=by omega
       have n : (a : Int) < 13:=by omega
       have o : (10 : Int) <= (a : Int):=by omega
       clear hca;go_wp2_with fail;rw [<- b];go_ret2;exact L.out _ rfl (by rw [A.out,kP (by omega) (by omega)])
      ·by_cases cz : a < 13
       ·have H : ¬ (a : Int) < 3:=by omega
        have D : ¬ (a : Int) < 9:=by omega
        have i : ¬ (a : Int) < 10:=by omega
        have h : ¬ (a : Int) < 12:=by omega
        have n : (a : Int) < 13:=by omega
        have o : (10 : Int) <= (a : Int):=by omega
        clear hca;go_wp2_with fail;rw [<- b];go_ret2;exact d.out 3 0 ⟨#[]⟩ ⟨#[102]⟩ _ (.inl rfl) (by decide) (by decide) (by rw [A.out,jH (by omega)])
       ·have H : ¬ (a : Int) < 3:=by omega
        have D : ¬ (a : Int) < 9:=by omega
        have i : ¬ (a : Int) < 10:=by omega
        have h : ¬ (a : Int) < 12:=by omega
        have n : ¬ (a : Int) < 13:=by omega
        have o : (10 : Int) <= (a : Int):=by omega
        clear hca;go_wp2_with fail;rw [<- b];go_ret2;exact d.out 3 0 ⟨#[]⟩ ⟨#[102]⟩ _ (.inl rfl) (by decide) (by decide) (by rw [A.out,jH (by omega)])
end Go.Proofs.YtihedobejcaapaaGreatDoor
