/-
  YbQ YbT
-/
import Derived.Test.YtihedobejcaapaaGreatDoorC7
set_option maxHeartbeats 4000000
set_option maxRecDepth 100000
namespace Go.Proofs.YtihedobejcaapaaGreatDoor
open Go.RowKit
structure rN (w W5 wr : World) (K X k : Nat) (va : Option Addr) (n c : Nat) (es : List (EI × EPl)) : Prop where
 ge : GE w.heap.size 0 wr va n c (K + k * X) es
 bel : Bw W5 wr
theorem rN.step {w W5 wr w2 w3 : World} {K X k : Nat} {va : Option Addr} {n c : Nat} {xs ys : List (EI × EPl)} (h : rN w W5 wr K X k va n c xs) (h1 : w.heap.size <= W5.heap.size)
  (B2 : Bw wr w2) (B3 : Bw w2 w3) {u : Option Addr} {m cc : Nat} (hr : GE w2.heap.size 0 w3 u m cc (K + k * X + X) (xs ++ ys)) :
  rN w W5 w3 K X (k + 1) u m cc (xs ++ ys):=by
 have a : Bw wr w3:=B2.trans (B3.mono B2.size);have b : w.heap.size <= w2.heap.size:=Nat.le_trans h1 (Nat.le_trans h.bel.size B2.size);refine ⟨?_,h.bel.trans (a.mono h.bel.size)⟩;rw [Nat.succ_mul,<- Nat.add_assoc];exact hr.mono b (nlr _) (nlr _)
theorem rj : ∀ x,x ∈ [((⟨1,⟨#[]⟩,⟨#[]⟩,[]⟩ : TI),(⟨none,0,0⟩ : NPl))] -> ku x:=fun x hx=>by
 rw [ms1 hx];exact mR 1 (by decide) (by decide)
theorem mA (w : World) (z : Int) (_hz1 : -10 <= z) (_hz2 : z <= 2) {P X : Nat} {ca : Option Addr} {cb co Ln cc p : Nat} {C : Nat -> Nat} (hC : am w ca cb co Ln C) (hLn : Ln <= 1048576) (hp : p <= 900000) {T V M : List ByteArray} {tp vp mp : NPl} (hS : Sc w T V M tp vp mp) {xs : List (TI × NPl)} {l : List TI} {ta : Option Addr} {tc e : Nat} (hT : fq w (.slice ta xs.length tc) xs) (hH : TH xs l) (he : e < xs.length)
  (hP : 7 <= P) (hX : 51 <= X) (hca : tk C Ln p 16 < 10) (hop : (xs[e].1.op = 2 /\ tk C Ln p 16 < 8) \/ (xs[e].1.op = 1 /\ 5 <= tk C Ln p 16 /\ 0 < z)) {G1 : Nat -> List EI × Nat} {r : List EI × Nat} (hr : r = ((rp (fun _ q=>G1 q) ([],p + 1) 2).1 ++ [bI (if xs[e].1.op = 2 then 10 else 9) 0 e0 e0],(rp (fun _ q=>G1 q) ([],p + 1) 2).2)) (CI : Cs G1 (z - 2) 3 25 (p + 10) ca cb co Ln cc C T V M tp vp mp) :
  Calls Tryz.prog 39 #[.slice ca Ln cc,.int .i64 (p : Int),.agg #[.slice tp.a T.length tp.c,.slice vp.a V.length vp.c,.slice mp.a M.length mp.c],.slice ta xs.length tc,.int .i64 ((e : Int) + 1),.int .i64 z] w (j8 w P X p r):=by
 obtain ⟨i0,bn,Y,a2,ao⟩:=info_parts Tryz.infoEI;have eb : Hid (M.length <= 1000):=hS.lm.1;have cz:=hH.len;have dv:=hQx hH;obtain ⟨W1,W2,a,g,nd,xt,op,ps,an,a4,v,bb,C1,ha,di,a8,bf,S,y0,y1,y2,y3,b6,A,ah,CP,d1,_⟩:=io w hC (cc:=cc) hLn hp hS hT hH he;rw [<- ha] at hca;rw [<- A] at hop hr;have HR : Hid (r = ((rp (fun _ q=>G1 q) ([],p + 1) 2).1 ++ [bI (if op = 2 then 10 else 9) 0 e0 e0],(rp (fun _ q=>G1 q) ([],p + 1) 2).2)):=hr;clear hr;have eg : Hid (op = xt.1.op):=by rw [b6.out.2];exact A
 have b2 : IntKind.i64.wrap ((e : Int) + 1 - 1) = (e : Int):=wk (by omega);have cm : IntKind.i64.wrap (e : Int) = (e : Int):=wk (by omega);have cn : (e : Int) < (xs.length : Int):=by omega
 have b7 : (0 : Int) <= (e : Int):=by omega
 have ep : ((a : Int) == 15) = false:=bn2 (by omega);rw [<- ha] at hop;have ee : (a : Int) < 10:=by omega
 have wz : IntKind.i64.wrap (z - 2) = z - 2:=wk (by omega);have b4:=hQx CI;have bp : (op = 2 /\ (a : Int) < 8) \/ (op = 1 /\ (5 : Int) <= (a : Int) /\ 0 < z):=by omega
 clear hca hop CI;rcases bp with ⟨L,n8⟩ | ⟨L,n5,nz⟩
 all_goals
  subst L;have a9:=S;rw [S];clear hC hS ha hT hH A S;go_enter Tryz.func39,Tryz.ntmps39;go_wp2_with fail;rw [<- an];clear an;refine C1.mono ?_;rintro e' w7 ⟨rfl,rfl⟩;clear C1;go_wp2_with fail;rw [<- a4];rw [a9] at CP;refine CP.mono ?_;rintro e' h ⟨J,cp,rfl,d,BP⟩;have R : Hid (Bw W2 h):=BP;have ez : Hid (h.ownsRow W2.heap.size 3 1 (.slice J nd cp) nd (eh ps)):=d;have B : Hid (Bw W1 h):=bb.out.trans (R.out.mono bb.out.size);obtain ⟨E,b⟩:=xe (h.alloc (.cells #[] 65));have be : Hid (Bw h E):=by rw [b];exact bel1 _ _
  have bo : Hid (GE h.heap.size 0 E (some ⟨h.heap.size,0,none⟩) 0 0 0 []):=by rw [b];exact eL h
  have D : Hid (Bw W1 E):=B.out.trans (be.out.mono B.out.size);have y : Hid (Bw W2 E):=R.out.trans (be.out.mono R.out.size);obtain ⟨t0,t3⟩:=ah.out E y.out;obtain ⟨x0,x1,x2⟩:=a8.out E D.out;rw [b] at t0 t3 x0 x1 x2;clear CP BP d a4 y0 y1 y2 y3 b2 cm cn b7;obtain ⟨H,u⟩:=xe (E.alloc (.cells #[.int .i64 1,.string ⟨#[]⟩,.string ⟨#[]⟩,.slice none 0 0] 80));have f : Hid (Bw E H):=by rw [u];exact bel1 _ _
  have Z : Hid (RT 0 H (.slice (some ⟨E.heap.size,0,none⟩) 1 1) [((⟨1,⟨#[]⟩,⟨#[]⟩,[]⟩ : TI),(⟨none,0,0⟩ : NPl))]):=by rw [u];exact pK E (Nat.zero_le _) 1 ⟨#[]⟩ ⟨#[]⟩
  have s : Hid (Bw W1 H):=D.out.trans (f.out.mono D.out.size);have a5 : Hid (rN w H H 0 25 0 (some ⟨h.heap.size,0,none⟩) 0 0 []):=⟨(bo.out.below f.out).mono (Nat.le_trans v.out.size B.out.size) (nlr _) (Nat.zero_le _),Below.refl _ _⟩;have a3 : E.heap.size = h.heap.size + 1:=by rw [b];simp
  rw [a3] at Z;have a0:=ah.out H (y.out.trans (f.out.mono y.out.size));have t5:=a0.1;rw [u,b] at t5;clear a3 a0;go_wp2_with fail;rw [<- b,<- u];clear b u x0 x1 x2 t0 t3 t5
  go_loopw [1,18,26] (fun pp o i wr=>∃ (k q F N : Nat) (J : Option Addr),k <= 2 /\ i = .int .i64 k /\ pp = .int .i64 q /\ p + 1 <= q /\ q <= p + 1 + k * 3 /\ o = .slice J F N /\ Hid (∃ xs,rN w H wr 0 25 k J F N xs /\ (xs.map Prod.fst,q) = (rp (fun _ q=>G1 q) ([],p + 1) k))) (fun _ _ i _=>2 - (intOf i).toNat)
  case atStart=>exact ⟨0,p + 1,0,0,_,by omega,rfl,by rfl,by omega,by omega,rfl,_,a5.out,rfl⟩
  case round=>
   clear a5 bo;obtain ⟨k,q,F,N,J,hk,rfl,rfl,eT,ea,rfl,HG⟩:=hrel;obtain ⟨U,Q,a1⟩:=HG.out;have a7 : Hid ((U.map Prod.fst,q) = (rp (fun _ q=>G1 q) ([],p + 1) k)):=a1;clear a1;have ab : Hid (Bw H wr):=Q.bel;have n : Hid (Bw W1 wr):=s.out.trans (ab.out.mono s.out.size);obtain ⟨y0,y1,y2⟩:=a8.out wr n.out;by_cases ec : k < 2
   ·have lk : (k : Int) < 2:=by omega
    have I : Hid (rN w H wr 0 25 k J F N U):=Q;have C3 : Calls Tryz.prog 39 #[.slice ca Ln cc,.int .i64 (q : Int),.agg #[.slice tp.a T.length tp.c,.slice vp.a V.length vp.c,.slice mp.a M.length mp.c],.slice (some ⟨h.heap.size + 1,0,none⟩) 1 1,.int .i64 1,.int .i64 (z - 2)] wr (j8 wr 3 25 q (G1 q)):=b4.out wr [((⟨1,⟨#[]⟩,⟨#[]⟩,[]⟩ : TI),(⟨none,0,0⟩ : NPl))] _ (some ⟨h.heap.size + 1,0,none⟩) 1 0 q (bf.out wr n.out).1 (bf.out wr n.out).2.1 (fq.of_rt (Z.out.below ab.out) rj (by decide)) (TH.of_ok kJ.1 rj (by decide)) (by decide) rfl (by omega);clear Q HG;go_wp2_with fail;refine C3.mono ?_;rintro e2 w5 ⟨⟨v3,n3,c3,q3,rfl,d2,ef,a6⟩,f⟩;clear C3 y0 y1 y2;obtain ⟨ys,G,W⟩:=a6.out;have b8 : Hid (G1 q = (ys.map Prod.fst,q3)):=W;clear W;have C4:=BT w5 (I.out.ge.below f.out) G (by omega);clear G a6;go_wp2_with fail;refine C4.mono ?_;rintro e2 w6 ⟨⟨v4,n4,c4,rfl,b9⟩,b0⟩;clear C4;go_wp2;refine ⟨⟨k + 1,q3,n4,c4,v4,by omega,by go_num,rfl,by omega,by omega,rfl,_,I.out.step (Nat.le_trans v.out.size s.out.size) f.out b0.out b9.out,by rw [List.map_append];exact dm a7.out b8.out⟩,by simp [intOf];omega⟩
   ·have cq : k = 2:=by omega
    subst cq;have I : Hid (rN w H wr 0 25 2 J F N U):=Q;have d:=Q.ge.own;have ex:=Q.ge.le;have ew : w.heap.size <= wr.heap.size:=Nat.le_trans v.out.size n.out.size;clear Q HG y0 y1 y2;go_wp2_with (first | (at_builtin;refine wpList_append_lies _ rfl _ _ 35 rfl w.heap.size 65 i0 _ 6 96 Tryz.underlying35 bn Y a2 ao rfl (by omega) (.slice J F N) F (eisC U) rfl (d.alloc _) ⟨wr.heap.size,0,none⟩ 1 1 [.int .i64 10,.int .i64 0,.string ⟨#[]⟩,.string ⟨#[]⟩,.slice none 0 0,.slice none 0 0] rfl rfl (World.news_of_block (cs:=#[.int .i64 10,.int .i64 0,.string ⟨#[]⟩,.string ⟨#[]⟩,.slice none 0 0,.slice none 0 0]) (t:=65) (fr:=(0,0)) (heap_alloc_new wr _)) (by simp [Value.oneCell']) (by omega) (by unfold maxLen;omega) (by omega) (by simp only [World.size_alloc];omega) (wr.heap.size + 1) (by simp) ?_;intro gg K w7 m O ce ar) | (at_builtin;refine wpList_append_lies _ rfl _ _ 35 rfl w.heap.size 65 i0 _ 6 96 Tryz.underlying35 bn Y a2 ao rfl (by omega) (.slice J F N) F (eisC U) rfl (d.alloc _) ⟨wr.heap.size,0,none⟩ 1 1 [.int .i64 9,.int .i64 0,.string ⟨#[]⟩,.string ⟨#[]⟩,.slice none 0 0,.slice none 0 0] rfl rfl (World.news_of_block (cs:=#[.int .i64 9,.int .i64 0,.string ⟨#[]⟩,.string ⟨#[]⟩,.slice none 0 0,.slice none 0 0]) (t:=65) (fr:=(0,0)) (heap_alloc_new wr _)) (by simp [Value.oneCell']) (by omega) (by unfold maxLen;omega) (by omega) (by simp only [World.size_alloc];omega) (wr.heap.size + 1) (by simp) ?_;intro gg K w7 m O ce ar));go_ret2;have ck : ∀ o : Int,cE (⟨o,0,e0,e0,[],[]⟩ : EI) = e0.size + e0.size:=fun _=>eG;have dt : e0.size = 0:=rfl;have PU:=I.out.ge.push (x:=((⟨_,0,e0,e0,[],[]⟩ : EI),im)) (X':=X) m O (dj _) eI (by show 0 + 2 * 25 + 1 + cE (⟨_,0,e0,e0,[],[]⟩ : EI) <= _;rw [ck];omega);refine ⟨⟨some ⟨gg,0,none⟩,F + 1,K,q,rfl,by omega,by omega,_,PU,by rw [List.map_append];exact kZ HR.out a7.out⟩,?_⟩;exact ae (v.out.trans (n.out.mono v.out.size)) O (fun j e=>(d.lt j e).1)
theorem tT (w : World) {p : NPl} {ns : List ByteArray} (h : lG w p ns) {c : Nat} (hl : ns.length <= 1000000) :
  Calls Tryz.prog 42 #[.slice p.a ns.length c] w fun e w'=>(∃ va c2,e = .returned (.slice va ns.length c2) /\ Hid (w'.ownsRow w.heap.size 9 1 (.slice va ns.length c2) ns.length (ii ns))) /\ Hid (Bw w w'):=by
 obtain ⟨F,r,q,o,n⟩:=info_parts Tryz.info9;have G : Hid (∀ W,Bw w W -> ∀ k,k < ns.length -> p.a = some ⟨p.b,0,none⟩ /\ W.cell? ⟨p.b,k,none⟩ = some (.string (ns.getD k e0))):=fun W hb k D=>⟨h.at_ (by omega),(h.below hb).cell k D⟩;have z : Hid ((w.alloc (.cells #[] 9)).ownsRow w.heap.size 9 1 (.slice (some ⟨w.heap.size,0,none⟩) 0 0) 0 (ii (ns.take 0))):=World.ownsRow_lit w #[] 0 (nlr _) (by unfold maxLen;omega) (by rfl);clear h;go_enter Tryz.func42,Tryz.ntmps42;go_wp2
 go_loopw [3,4] (fun v i wr=>∃ k : Nat,k <= ns.length /\ i = .int .i64 k /\ wr.ownsRow w.heap.size 9 1 v k (ii (ns.take k)) /\ Hid (Bw w wr)) (fun _ i _=>ns.length - (intOf i).toNat)
 case atStart=>exact ⟨0,Nat.zero_le _,rfl,z.out,bel1 _ _⟩
 case round=>
  clear z;obtain ⟨k,D,rfl,g,j⟩:=hrel;obtain ⟨va,B,rfl⟩:=ad g;have I:=j.out.size;by_cases f : k < ns.length
  case pos=>
   obtain ⟨u,K⟩:=G.out wr j.out k f;obtain ⟨x,l⟩:=xe (ns.getD k e0)
   have H : Hid (ns.take (k + 1) = ns.take k ++ [x]):=by
    show _ = _;rw [List.take_add_one,List.getElem?_eq_getElem f,l,List.getD_eq_getElem?_getD,List.getElem?_eq_getElem f];rfl
   rw [<- l] at K;rw [u];clear l u;go_wp2_with (first | (at_builtin;refine wpList_append_lies _ rfl _ _ 52 rfl w.heap.size 9 F _ 1 16 Tryz.underlying52 r q o n rfl (by omega) (.slice va k B) k (ii (ns.take k)) rfl (g.alloc _) ⟨wr.heap.size,0,none⟩ 1 1 [.string x] rfl rfl (World.news_of_block (cs:=#[.string x]) (t:=9) (fr:=(0,0)) (heap_alloc_new wr _)) (by simp [Value.oneCell']) (by omega) (by unfold maxLen;omega) (by omega) (by simp only [World.size_alloc];omega) (wr.heap.size + 1) (by simp) ?_;intro M A J d s C y));have L : Hid (Bw w J):=ae j.out s (fun b e=>(g.lt b e).1);refine ⟨⟨k + 1,by omega,by go_num,?_,L⟩,by simp [intOf];omega⟩;rw [H.out,jd];exact d
  have m : k = ns.length:=by omega
  subst m;rw [List.take_length] at g;have E : Hid (wr.ownsRow w.heap.size 9 1 (.slice va ns.length B) ns.length (ii ns)):=g;clear g;go_wp2;go_ret;exact ⟨⟨_,_,rfl,E⟩,j⟩
end Go.Proofs.YtihedobejcaapaaGreatDoor
