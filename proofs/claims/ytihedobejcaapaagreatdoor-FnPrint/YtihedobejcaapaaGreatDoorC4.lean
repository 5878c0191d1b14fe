/-
  YbK YbL
-/
import Derived.Test.YtihedobejcaapaaGreatDoorC3
set_option maxHeartbeats 4000000
set_option maxRecDepth 100000
namespace Go.Proofs.YtihedobejcaapaaGreatDoor
open Go.RowKit
theorem rI {d : Nat} (h : d <= 3) : XE d <= 5000 /\ PE d <= 200:=by
 match d,h with
 | 0,_=>decide
 | 1,_=>decide
 | 2,_=>decide
 | 3,_=>decide
def Bh (F : List ByteArray -> Nat -> List EI × Nat) (d N : Nat) (ca : Option Addr) (cb co Ln cc : Nat) (C : Nat -> Nat) (T M : List ByteArray) (tp mp : NPl) : Prop:=∀ (W : World) (V : List ByteArray) (vp : NPl) (q : Nat),am W ca cb co Ln C -> Sc W T V M tp vp mp -> 0 < V.length -> V.length + d <= 1000 -> q <= N -> Calls Tryz.prog 65 #[.slice ca Ln cc,.int .i64 (q : Int),.agg #[.slice tp.a T.length tp.c,.slice vp.a V.length vp.c,.slice mp.a M.length mp.c],.int .i64 (d : Int)] W (tE W (PE d) (XE d) q (F V q))
theorem Ay {α : Type} {s r : List α × Nat} {x : List α} {q : Nat} {y : α} (hr : r = (s.1 ++ [y],s.2)) (h : s = (x,q)) : r = (x ++ [y],q):=by
 rw [hr,h]
theorem rP (w : World) (d : Nat) {ca : Option Addr} {cb co Ln cc p : Nat} {C : Nat -> Nat} (hC : am w ca cb co Ln C) (hLn : Ln <= 1048576) (hp : p <= 1000000) {T V M : List ByteArray} {tp vp mp : NPl} (hS : Sc w T V M tp vp mp) :
  ∃ (W1 W2 : World) (a b : Nat),W1 = w.alloc (.cells #[.slice tp.a T.length tp.c,.slice vp.a V.length vp.c,.slice mp.a M.length mp.c] 76) /\ W2 = W1.alloc (.cells #[] 65) /\ Hid (Bw w W1) /\ Hid (Bw W1 W2) /\ (Calls Tryz.prog 18 #[.slice ca Ln cc,.int .i64 (p : Int),.int .i64 20] W1 fun e w'=>e = .returned (.tuple #[.int .i64 (a : Int),.int .i64 ((p + 1 : Nat) : Int)]) /\ W1 = w') /\ (Calls Tryz.prog 18 #[.slice ca Ln cc,.int .i64 ((p + 1 : Nat) : Int),.int .i64 64] W1 fun e w'=>e = .returned (.tuple #[.int .i64 (b : Int),.int .i64 ((p + 1 + 1 : Nat) : Int)]) /\ W1 = w') /\ a = tk C Ln p 20 /\ b = tk C Ln (p + 1) 64 /\ a < 20 /\ b < 64 /\
    Hid (∀ W,Bw W1 W -> W.cell? ⟨w.heap.size,0,none⟩ = some (.slice tp.a T.length tp.c) /\ W.cell? ⟨w.heap.size,1,none⟩ = some (.slice vp.a V.length vp.c) /\ W.cell? ⟨w.heap.size,2,none⟩ = some (.slice mp.a M.length mp.c)) /\ Hid (∀ W,Bw W1 W -> am W ca cb co Ln C /\ Sc W T V M tp vp mp) /\ Hid (GE W1.heap.size W1.heap.size W2 (some ⟨W1.heap.size,0,none⟩) 0 0 0 []) /\ Hid (PE (d + 1) = 10 + 3 * PE d /\ XE (d + 1) = 3 * XE d + 300):=by
 obtain ⟨W1,f⟩:=xe (w.alloc (.cells #[.slice tp.a T.length tp.c,.slice vp.a V.length vp.c,.slice mp.a M.length mp.c] 76));have g : Bw w W1:=by rw [f];exact bel1 _ _
 have j : W1.rowIs w.heap.size 76 3 (v3 (.slice tp.a T.length tp.c) (.slice vp.a V.length vp.c) (.slice mp.a M.length mp.c)):=by rw [f];exact ej w _ _ _ _
 refine ⟨W1,W1.alloc (.cells #[] 65),_,_,f,rfl,g,bel1 _ _,aO ca cb co Ln cc p 20 C W1 (hC.below g) hLn (by omega) (by omega),aO ca cb co Ln cc (p + 1) 64 C W1 (hC.below g) hLn (by omega) (by omega),rfl,rfl,cd (by omega),cd (by omega),fun W hb=>?_,fun W hb=>?_,eL W1,⟨rfl,rfl⟩⟩
 ·have r:=j.of_block (hb.block _ j.lt)
  exact ⟨r.cell (i:=0) (by omega),r.cell (i:=1) (by omega),r.cell (i:=2) (by omega)⟩
 ·have h:=g.trans (hb.mono g.size)
  exact ⟨hC.below h,hS.below h⟩
theorem xl (w : World) (d : Nat) {ca : Option Addr} {cb co Ln cc p : Nat} {C : Nat -> Nat} (hC : am w ca cb co Ln C) (hLn : Ln <= 1048576) (hd : d <= 3) {Nq : Nat} (hp : p + 2000 <= Nq) (hNq : Nq <= 1000000) {T V M : List ByteArray} {tp vp mp : NPl} (hS : Sc w T V M tp vp mp) (hV : 0 < V.length) (hVd : V.length + d + 1 <= 1000) {F : List ByteArray -> Nat -> List EI × Nat} (ih : Bh F d Nq ca cb co Ln cc C T M tp mp)
  (hca : 10 <= tk C Ln p 20 /\ tk C Ln p 20 < 12) {r : List EI × Nat} (hr : r = ((F V (p + 1 + 1)).1 ++ [bI 5 0 e0 (fldN (tk C Ln (p + 1) 64) (tk C Ln (p + 1) 64 % 3))],(F V (p + 1 + 1)).2)) :
  Calls Tryz.prog 65 #[.slice ca Ln cc,.int .i64 (p : Int),.agg #[.slice tp.a T.length tp.c,.slice vp.a V.length vp.c,.slice mp.a M.length mp.c],.int .i64 ((d : Int) + 1)] w (tE w (PE (d + 1)) (XE (d + 1)) p r):=by
 obtain ⟨i0,X,S,R,K⟩:=info_parts Tryz.infoEI;obtain ⟨i9,ce,b7,bn,bL⟩:=info_parts Tryz.info9;obtain ⟨b2,bx⟩:=rI hd;obtain ⟨W1,I,a,b,v,i,g,f,C1,C2,ha,D,Z,a6,B,E,bb,m⟩:=rP w d hC (cc:=cc) (p:=p) hLn (by omega) hS;rw [<- ha] at hca;rw [<- D] at hr;clear D;obtain ⟨x0,x1,x2⟩:=B.out W1 (Below.refl _ _);have L : Hid (∀ W q,Bw W1 W -> q <= Nq -> Calls Tryz.prog 65 #[.slice ca Ln cc,.int .i64 (q : Int),.agg #[.slice tp.a T.length tp.c,.slice vp.a V.length vp.c,.slice mp.a M.length mp.c],.int .i64 (d : Int)] W (tE W (PE d) (XE d) q (F V q))):=fun W q D hq=>ih W V vp q (E.out W D).1 (E.out W D).2 hV (by omega) hq;obtain ⟨y0,Y,y2⟩:=B.out I f.out;rw [i] at y0 Y y2;have dd : IntKind.i64.wrap ((d : Int) + 1 - 1) = (d : Int):=wk (by omega);have d0 : ¬ ((d : Int) + 1) <= 0:=by omega
 have q3 : ¬ (a : Int) < 4:=by omega
 have q4 : ((a : Int) == 4) = false:=bn2 (by omega);have q6 : ¬ (a : Int) < 7:=by omega
 have q7 : ((a : Int) == 7) = false:=bn2 (by omega);have b8 : ¬ (a : Int) < 10:=by omega
 have b0 : (a : Int) < 12:=by omega
 have C3:=L.out I (p + 1 + 1) f.out (by omega);have m3 : Int.tmod (b : Int) 3 = ((b % 3 : Nat) : Int):=bl b 3;obtain ⟨z,y⟩:=xe (b % 3);rw [<- y] at m3 hr;have HR : Hid (r = ((F V (p + 1 + 1)).1 ++ [bI 5 0 e0 (fldN b z)],(F V (p + 1 + 1)).2)):=hr;clear y hr;clear hC hS ha hV ih hca;go_enter Tryz.func65,Tryz.ntmps65;go_wp2_with fail;rw [<- v];clear v;refine C1.mono ?_;rintro e w' ⟨rfl,rfl⟩;go_wp2_with fail;refine C2.mono ?_;rintro e w' ⟨rfl,rfl⟩;clear C1 C2;go_wp2_with fail;rw [<- i];clear i y0 Y y2 x0 x1 x2;refine C3.mono ?_;rintro e w3 ⟨⟨va,n,c,q,rfl,cn,bv,HG⟩,A⟩;clear C3;obtain ⟨H,G,k⟩:=HG.out;have Q : Hid (F V (p + 1 + 1) = (H.map Prod.fst,q)):=k;clear k;have o:=G.own;have b9:=G.le;have O : Hid (GE I.heap.size w.heap.size w3 va n c (XE d) H):=G.mono (nlr _) (Nat.le_trans g.out.size f.out.size) (nlr _);have C4:=nD b z w3;have HS : Hid ((fldN b z).size <= 12):=dr (j3 b z).1;obtain ⟨s,J⟩:=xe (fldN b z);rw [<- J] at C4 HS;have N : Hid (r = (H.map Prod.fst ++ [bI 5 0 e0 s],q)):=by rw [J];exact Ay HR.out Q.out
 clear J G HG;have ch:=A.out.size;have bf:=f.out.size;go_wp2_with (first | (go_at_call 64;refine C4.mono ?_;rintro e U ⟨rfl,rfl⟩) | (at_builtin;refine wpList_append_lies _ rfl _ _ 35 rfl I.heap.size 65 i0 _ 6 96 Tryz.underlying35 X S R K rfl (by omega) (.slice va n c) n (eisC H) rfl (o.alloc _) ⟨U.heap.size,0,none⟩ 1 1 [.int .i64 5,.int .i64 0,.string ⟨#[]⟩,.string s,.slice none 0 0,.slice none 0 0] rfl rfl (World.news_of_block (cs:=#[.int .i64 5,.int .i64 0,.string ⟨#[]⟩,.string s,.slice none 0 0,.slice none 0 0]) (t:=65) (fr:=(0,0)) (heap_alloc_new U _)) (by simp [Value.oneCell']) (by omega) (by unfold maxLen;omega) (by omega) (by simp only [World.size_alloc];omega) (U.heap.size + 1) (by simp) ?_;intro gg l w7 h u b4 ar));go_ret2;have b5 : cE (⟨5,0,e0,s,[],[]⟩ : EI) = e0.size + s.size:=eG;have a9 : e0.size = 0:=rfl;have P:=O.out.push (x:=((⟨5,0,e0,s,[],[]⟩ : EI),im)) (X':=XE (d + 1)) h u (dj _) eI (by show XE d + 1 + cE (⟨5,0,e0,s,[],[]⟩ : EI) <= _;have:=HS.out;have:=m.out.2;omega);refine ⟨⟨some ⟨gg,0,none⟩,n + 1,l,q,rfl,by omega,by have:=m.out.1;omega,_,P.mono (Nat.le_trans g.out.size f.out.size) (nlr _) (nlr _),by rw [List.map_append];exact N.out⟩,?_⟩;exact ae (g.out.trans ((f.out.trans (A.out.mono f.out.size)).mono g.out.size)) u (fun j e=>Nat.le_trans (Nat.le_trans g.out.size f.out.size) (o.lt j e).1)
theorem jv : ∀ {l : List ByteArray},(∀ s,s ∈ l -> s.size <= 12) -> kx l <= 12 * l.length
 | [],_=>nlr _
 | s :: l,h=>by
   have h1:=h s (List.mem_cons_self ..);have h2:=jv (l:=l) (fun y hy=>h y (List.mem_cons_of_mem _ hy));have e : kx (s :: l) = s.size + kx l:=by simp [kx]
   rw [List.length_cons];omega
theorem Bv {x : TI × NPl} (h : ku x) : cT x.1 <= 63:=by
 have c:=h.len;have a:=h.md;have b:=h.nm;have d : kx x.1.ns <= 12 * x.1.ns.length:=jv h.nms;unfold cT cN;omega
theorem kB : ∀ {xs : List (TI × NPl)},(∀ x,x ∈ xs -> ku x) -> bQ (xs.map Prod.fst) <= 64 * xs.length
 | [],_=>nlr _
 | x :: xs,h=>by
   have h1:=Bv (h x (List.mem_cons_self ..));have h2:=kB (xs:=xs) (fun y hy=>h y (List.mem_cons_of_mem _ hy))
   have e : bQ ((x :: xs).map Prod.fst) = 1 + cT x.1 + bQ (xs.map Prod.fst):=by
    unfold bQ;simp only [List.map_cons,List.length_cons,List.sum_cons];omega
   rw [List.length_cons];omega
theorem qh (l : List ByteArray) : (ii l).length = l.length:=by rw [<- i8,List.length_map]
theorem uJ (l : List ByteArray) : ∀ u,u ∈ ii l -> u.oneCell' = true:=fun u hu=>by
 rw [<- i8] at hu;obtain ⟨s,_,rfl⟩:=List.mem_map.1 hu;rfl
theorem BZ {w : World} {p : NPl} {l : List ByteArray} (h : lG w p l) : ∀ j u,(ii l)[j]? = some u -> w.cell? ((⟨p.b,0,none⟩ : Addr).add j) = some u:=fun j u hu=>by
 rw [<- i8,List.getElem?_map] at hu
 have hj : j < l.length:=by
  rcases Nat.lt_or_ge j l.length with x | x
  ·exact x
  ·rw [List.getElem?_eq_none x] at hu;cases hu
 have a : (⟨p.b,0,none⟩ : Addr).add j = ⟨p.b,j,none⟩:=by unfold Addr.add;split <;> simp_all
 rw [a,h.cell j hj,List.getD_eq_getElem?_getD];rw [List.getElem?_eq_getElem hj] at hu ⊢;exact hu
theorem Bs {F : List ByteArray -> Nat -> List EI × Nat} {g : List TI × Nat} {V : List ByteArray} {s : ByteArray} {q q2 : Nat} {x : List TI} {y : List EI} {r : List EI × Nat} (hr : r = ((F (s :: V) g.2).1 ++ [⟨6,0,e0,s,[],g.1⟩],(F (s :: V) g.2).2)) (h1 : g = (x,q)) (h2 : F (s :: V) q = (y,q2)) : r = (y ++ [⟨6,0,e0,s,[],x⟩],q2):=by
 rw [hr,h1];show ((F (s :: V) q).1 ++ _,(F (s :: V) q).2) = _;rw [h2]
theorem xM (w : World) (d : Nat) {ca : Option Addr} {cb co Ln cc p : Nat} {C : Nat -> Nat} (hC : am w ca cb co Ln C) (hLn : Ln <= 1048576) (hd : d <= 3) {Nq : Nat} (hp : p + 2000 <= Nq) (hNq : Nq <= 1000000) {T V M : List ByteArray} {tp vp mp : NPl} (hS : Sc w T V M tp vp mp) (hV : 0 < V.length) (hVd : V.length + d + 1 <= 1000) {F : List ByteArray -> Nat -> List EI × Nat} (ih : Bh F d Nq ca cb co Ln cc C T M tp mp)
  (hca : 8 <= tk C Ln p 20 /\ tk C Ln p 20 < 10) {r : List EI × Nat} (hr : r = ((F (dK (tk C Ln (p + 1) 64 % 5) :: V) (ba C Ln T M 1 (p + 1 + 1)).2).1 ++ [⟨6,0,e0,dK (tk C Ln (p + 1) 64 % 5),[],(ba C Ln T M 1 (p + 1 + 1)).1⟩],(F (dK (tk C Ln (p + 1) 64 % 5) :: V) (ba C Ln T M 1 (p + 1 + 1)).2).2)) :
  Calls Tryz.prog 65 #[.slice ca Ln cc,.int .i64 (p : Int),.agg #[.slice tp.a T.length tp.c,.slice vp.a V.length vp.c,.slice mp.a M.length mp.c],.int .i64 ((d : Int) + 1)] w (tE w (PE (d + 1)) (XE (d + 1)) p r):=by
 have ea : vp.a = some ⟨vp.b,0,none⟩:=hS.v.at_ hV;obtain ⟨i0,dn,dk,di,ch⟩:=info_parts Tryz.infoEI;obtain ⟨i9,c4,c3,cn,cz⟩:=info_parts Tryz.info9;obtain ⟨e5,e1⟩:=rI hd;obtain ⟨W1,W2,a,b,ar,a1,E,I,C1,C2,ha,hb,dv,el,S,J,et,bb⟩:=rP w d hC (cc:=cc) (p:=p) hLn (by omega) hS;rw [<- ha] at hca;rw [<- hb] at hr;clear hb;rw [ea] at ar S ⊢;obtain ⟨x0,x1,x2⟩:=S.out W1 (Below.refl _ _);obtain ⟨y0,y1,y2⟩:=S.out W2 I.out;rw [a1] at y0 y1 y2;have dd : IntKind.i64.wrap ((d : Int) + 1 - 1) = (d : Int):=wk (by omega);have d0 : ¬ ((d : Int) + 1) <= 0:=by omega
 have q3 : ¬ (a : Int) < 4:=by omega
 have q4 : ((a : Int) == 4) = false:=bn2 (by omega);have q6 : ¬ (a : Int) < 7:=by omega
 have q7 : ((a : Int) == 7) = false:=bn2 (by omega);have fi : (a : Int) < 10:=by omega
 have C3 : Calls Tryz.prog 38 #[.slice ca Ln cc,.int .i64 ((p + 1 + 1 : Nat) : Int),.agg #[.slice tp.a T.length tp.c,.slice (some ⟨vp.b,0,none⟩) V.length vp.c,.slice mp.a M.length mp.c],.int .i64 1] W2 (AF W2 1 (p + 1 + 1) (ba C Ln T M 1 (p + 1 + 1))):=by
  rw [<- ea];exact Do W2 (J.out W2 I.out).1 hLn (J.out W2 I.out).2 1 (by omega) W2 (p + 1 + 1) (Below.refl _ _) (by omega)
 have m3 : Int.tmod (b : Int) 5 = ((b % 5 : Nat) : Int):=bl b 5;obtain ⟨Z,bf⟩:=xe (b % 5);rw [<- bf] at m3 hr;have HR : Hid (r = ((F (dK Z :: V) (ba C Ln T M 1 (p + 1 + 1)).2).1 ++ [⟨6,0,e0,dK Z,[],(ba C Ln T M 1 (p + 1 + 1)).1⟩],(F (dK Z :: V) (ba C Ln T M 1 (p + 1 + 1)).2).2)):=hr;clear hr;have eT : Z < 5:=by omega
 have e8:=hQx hV;have fx : 0 < V.length:=hV;have c7:=hQx ih;clear bf ea;clear hC hS ha hV ih hca;go_enter Tryz.func65,Tryz.ntmps65;go_wp2_with fail;rw [<- ar];clear ar;refine C1.mono ?_;rintro e w' ⟨rfl,rfl⟩;go_wp2_with fail;refine C2.mono ?_;rintro e w' ⟨rfl,rfl⟩;clear C1 C2;go_wp2_with fail;rw [<- a1];clear a1 y0 y1 y2 x0 x1 x2;refine C3.mono ?_;rintro e w3 ⟨⟨ta,n,c,q,rfl,f0,bn,HG⟩,c1⟩;clear C3;have e6 : q <= p + 1 + 1 + 8:=bn;clear bn;have B : Hid (Bw W1 w3):=I.out.trans (c1.out.mono I.out.size);have C4:=j6 Z w3 (by omega);have O:=kj ⟨Z,by omega⟩;have HS : Hid ((dK Z).size = 1 /\ gn (dK Z) = true):=⟨O.2,O.1⟩;obtain ⟨s,hs⟩:=xe (dK Z);rw [<- hs] at C4 HS;have de : Hid (r = ((F (s :: V) (ba C Ln T M 1 (p + 1 + 1)).2).1 ++ [⟨6,0,e0,s,[],(ba C Ln T M 1 (p + 1 + 1)).1⟩],(F (s :: V) (ba C Ln T M 1 (p + 1 + 1)).2).2)):=by rw [hs];exact HR
 clear hs O;obtain ⟨y0,y1,y2⟩:=S.out w3 B.out;go_wp2_with fail;refine C4.mono ?_;rintro e f ⟨rfl,rfl⟩;clear C4;obtain ⟨W6,H⟩:=xe (f.alloc (.cells #[.slice tp.a T.length tp.c,.slice (some ⟨vp.b,0,none⟩) V.length vp.c,.slice mp.a M.length mp.c] 76));obtain ⟨X,D⟩:=xe (W6.alloc (.cells #[.string s] 9));have a5 : Hid (Bw f W6):=by rw [H];exact bel1 _ _
 have a8 : Hid (Bw W6 X):=by rw [D];exact bel1 _ _
 have Y : W6.heap.size = f.heap.size + 1:=by rw [H];simp
 have bp : X.heap.size = f.heap.size + 1 + 1:=by rw [D];simp [Y]
 have U : Hid (Bw W1 X):=B.out.trans ((a5.out.trans (a8.out.mono a5.out.size)).mono B.out.size);have z1:=(S.out X U.out).2.1
 have bs : Hid (X.ownsRow (f.heap.size + 1) 9 1 (.slice (some ⟨f.heap.size + 1,0,none⟩) 1 1) 1 (ii [s])):=by
  rw [D,<- Y];exact World.ownsRow_lit W6 #[.string s] 1 (nlr _) (by unfold maxLen;omega) (by rfl)
 have bo : Hid (X.rowIs f.heap.size 76 3 (v3 (.slice tp.a T.length tp.c) (.slice (some ⟨vp.b,0,none⟩) V.length vp.c) (.slice mp.a M.length mp.c))):=by
  have r : W6.rowIs f.heap.size 76 3 (v3 (.slice tp.a T.length tp.c) (.slice (some ⟨vp.b,0,none⟩) V.length vp.c) (.slice mp.a M.length mp.c)):=by rw [H];exact ej f _ _ _ _
  exact r.of_block (a8.out.block _ r.lt)
 have bx : Hid (∀ j u,(ii V)[j]? = some u -> X.cell? ((⟨vp.b,0,none⟩ : Addr).add j) = some u):=BZ (J.out X U.out).2.v;have ew : V.length <= 1000:=(J.out X U.out).2.lv.1;have HZ : Hid (W6.heap.size = f.heap.size + 1 /\ X.heap.size = f.heap.size + 1 + 1):=⟨Y,bp⟩;rw [D,H] at z1;rw [D,H] at bs bx bo U;clear H D Y bp;go_wp2_with (first | (at_builtin;refine wpList_append_lies _ rfl _ _ 52 rfl (f.heap.size + 1) 9 i9 _ 1 16 Tryz.underlying52 c4 c3 cn cz rfl (by omega) (.slice (some ⟨f.heap.size + 1,0,none⟩) 1 1) 1 (ii [s]) rfl bs.out ⟨vp.b,0,none⟩ V.length vp.c (ii V) rfl (by rw [qh];omega) bx.out (uJ V) (by omega) (by unfold maxLen;omega) (by omega) (by simp) (f.heap.size + 1 + 1) (by simp) ?_;intro W l w8 o A a2 ab;have r8:=bo.out.of_block (A.block _ (by simp only [World.size_alloc];omega) (by simp [Value.ownBlock]));have g0 : w8.cell? ⟨f.heap.size,0,none⟩ = some (.slice tp.a T.length tp.c):=r8.cell (i:=0) (by omega);have g1 : w8.cell? ⟨f.heap.size,1,none⟩ = some (.slice (some ⟨vp.b,0,none⟩) V.length vp.c):=r8.cell (i:=1) (by omega);have g2 : w8.cell? ⟨f.heap.size,2,none⟩ = some (.slice mp.a M.length mp.c):=r8.cell (i:=2) (by omega);have f1:=r8.frozen 1;clear r8))
 have ct : Hid (Bw W1 w8):=U.out.grown A (by simp;have:=B.out.size;omega) (fun k hk=>by
  have e : f.heap.size + 1 = k:=by simpa [Value.ownBlock] using hk
  have:=B.out.size;omega)
 obtain ⟨R,N⟩:=xe (w8.setCell ⟨f.heap.size,1,none⟩ (.slice (some ⟨W,0,none⟩) (1 + V.length) l))
 have y : Hid (Bw W1 R):=by
  rw [N];exact ct.out.setCell (p:=⟨f.heap.size,1,none⟩) B.out.size _
 have ah : Hid (Bw f R):=by
  rw [N];have b7 : Bw f ((f.alloc (.cells #[.slice tp.a T.length tp.c,.slice (some ⟨vp.b,0,none⟩) V.length vp.c,.slice mp.a M.length mp.c] 76)).alloc (.cells #[.string s] 9)):=(bel1 _ _).alloc (by simp) _
  exact (b7.grown A (by simp;omega) (fun k hk=>by
   have e : f.heap.size + 1 = k:=by simpa [Value.ownBlock] using hk
   omega)).setCell (p:=⟨f.heap.size,1,none⟩) (nlr _) _
 have a6 : W ≠ f.heap.size:=by
  rcases a2 with e | e
  ·have e : f.heap.size + 1 = W:=by simpa [Value.ownBlock] using e
   omega
  ·omega
 obtain ⟨g,an⟩:=aW (ns:=s :: V) (n:=1 + V.length) (by rw [List.length_cons];omega) o;have a4:=df o
 have cq : W = g:=by
  have e:=(an (by simp)).1;simpa using e
 have c0 : Hid (Sc R T (s :: V) M tp ⟨some ⟨W,0,none⟩,g,l⟩ mp):=by
  have z:=(J.out R y.out).2;have dl : aD (f.heap.size + 1) R (s :: V) ⟨some ⟨W,0,none⟩,g,l⟩:=an.of_block (fun _=>by rw [N];exact Below.heap_setCell _ _ _ _ (by show g ≠ f.heap.size;omega));refine ⟨z.t,dl.nsa,z.m,z.gt,fun x hx=>?_,z.gm,z.lt,⟨by rw [List.length_cons];omega,by rw [List.length_cons];show V.length + 1 <= l;omega⟩,z.lm⟩;rcases List.mem_cons.1 hx with h | h
  ·rw [h];exact HS.out.2
  ·exact z.gv x h
 have C5 : Calls Tryz.prog 65 #[.slice ca Ln cc,.int .i64 (q : Int),.agg #[.slice tp.a T.length tp.c,.slice (some ⟨W,0,none⟩) (1 + V.length) l,.slice mp.a M.length mp.c],.int .i64 (d : Int)] R (tE R (PE d) (XE d) q (F (s :: V) q)):=by
  have h:=c7.out R (s :: V) ⟨some ⟨W,0,none⟩,g,l⟩ q (J.out R y.out).1 c0.out (by simp) (by rw [List.length_cons];omega) (by omega);rw [show (s :: V).length = 1 + V.length by rw [List.length_cons];omega] at h;exact h
 clear a6 cq a4 an a2 ab o A;rw [<- N];clear N y0 y1 y2 z1 g0 g1 g2 f1;refine C5.mono ?_;rintro e L ⟨⟨ea,en,ec,q2,rfl,eO,e4,bv⟩,Q⟩;clear C5;obtain ⟨es,G,a7⟩:=bv.out;have cM : Hid (F (s :: V) q = (es.map Prod.fst,q2)):=a7;clear a7;have be:=G.own;have fl:=G.le;have c2 : Hid (GE R.heap.size w.heap.size L ea en ec (XE d) es):=G.mono (nlr _) (Nat.le_trans E.out.size y.out.size) (nlr _)
 have c8 : Hid (∃ K,RT w.heap.size L (.slice ta n c) K /\ (∀ x,x ∈ K -> ku x) /\ K.length <= 4 /\ ba C Ln T M 1 (p + 1 + 1) = (K.map Prod.fst,q)):=by
  obtain ⟨K,GG,ck⟩:=HG.out;have hl : n <= 4:=GG.le;have hn:=GG.len;exact ⟨K,(GG.rt.mono (Nat.le_trans E.out.size I.out.size)).below (ah.out.trans (Q.out.mono ah.out.size)),GG.sm,by omega,ck⟩
 have fz:=y.out.size;have d2:=Q.out.size;clear HG G bv;go_wp2_with (first | (at_builtin;refine wpList_append_lies _ rfl _ _ 35 rfl R.heap.size 65 i0 _ 6 96 Tryz.underlying35 dn dk di ch rfl (by omega) (.slice ea en ec) en (eisC es) rfl (be.alloc _) ⟨L.heap.size,0,none⟩ 1 1 [.int .i64 6,.int .i64 0,.string ⟨#[]⟩,.string s,.slice none 0 0,.slice ta n c] rfl rfl (World.news_of_block (cs:=#[.int .i64 6,.int .i64 0,.string ⟨#[]⟩,.string s,.slice none 0 0,.slice ta n c]) (t:=65) (fr:=(0,0)) (heap_alloc_new L _)) (by simp [Value.oneCell']) (by omega) (by unfold maxLen;omega) (by omega) (by simp only [World.size_alloc];omega) (L.heap.size + 1) (by simp) ?_;intro W l w7 o A a2 ab));go_ret2;obtain ⟨K,c9,bL,ev,c5⟩:=c8.out;have ez:=kB bL;have e7 : cE (⟨6,0,e0,s,[],K.map Prod.fst⟩ : EI) = e0.size + s.size + 0 + bQ (K.map Prod.fst):=rfl;have eq : e0.size = 0:=rfl;have P:=c2.out.push (x:=((⟨6,0,e0,s,[],K.map Prod.fst⟩ : EI),(⟨⟨none,0,0⟩,.slice ta n c,K⟩ : EPl))) (X':=XE (d + 1)) o A ⟨aD.nil _ _ _,c9,rfl⟩ ⟨nlr _,bL⟩ (by show XE d + 1 + cE (⟨6,0,e0,s,[],K.map Prod.fst⟩ : EI) <= _;have:=HS.out.1;have:=bb.out.2;omega);refine ⟨⟨some ⟨W,0,none⟩,en + 1,l,q2,rfl,by omega,by have:=bb.out.1;omega,_,P.mono (Nat.le_trans E.out.size y.out.size) (nlr _) (nlr _),by rw [List.map_append];exact Bs de.out c5 cM.out⟩,?_⟩;exact ae (E.out.trans ((y.out.trans (Q.out.mono y.out.size)).mono E.out.size)) A (fun j e=>Nat.le_trans (Nat.le_trans E.out.size y.out.size) (be.lt j e).1)
end Go.Proofs.YtihedobejcaapaaGreatDoor
