/-
  YbM YbN
-/
import Derived.Test.YtihedobejcaapaaGreatDoorC4
set_option maxHeartbeats 4000000
set_option maxRecDepth 100000
namespace Go.Proofs.YtihedobejcaapaaGreatDoor
open Go.RowKit
theorem oy {B Bi Bn m : Nat} {w w5 : World} {va : Option Addr} {n c X : Nat} {nv : Value} {es : List (EI × EPl)} {l : List Value} {o : Obj} (h : GE B Bi w va n c X es) (hn : w.ownsRow Bn 9 1 nv m l) (hg : (w.alloc o).grownBy w5 nv.ownBlock) (hs : ∀ x,x ∈ es -> (x.1.ns ≠ [] -> some x.2.np.b ≠ nv.ownBlock) /\ ∀ y,y ∈ x.2.zs -> y.1.ns ≠ [] -> some y.2.b ≠ nv.ownBlock) : GE B Bi w5 va n c X es:=by
 have d : Kp 9 w w5:=(bG _ w o).trans (bF (hn.alloc o) hg);refine ⟨az h.own d (by decide),h.len,fun x hx=>⟨fun hne=>?_,oo (h.ok x hx).ty hn hg (hs x hx).2,(h.ok x hx).is⟩,h.sm,h.cost⟩;obtain ⟨e,a,N,f,r,i,g⟩:=(h.ok x hx).nm hne;exact ⟨e,a,N,f,r.of_block ((hg.block _ (by have:=r.lt;simp;omega) ((hs x hx).1 hne)).trans (Below.heap_alloc _ _ _ r.lt)),i,g⟩
structure zX (w W1 wr : World) (X b k : Nat) (va : Option Addr) (n c : Nat) (na : Option Addr) (nc : Nat) (es : List (EI × EPl)) : Prop where
 ge : GE W1.heap.size w.heap.size wr va n c (k * X) es
 own : wr.ownsRow W1.heap.size 9 1 (.slice na k nc) k ((nmsG b k).map Value.string)
 sep : ∀ x,x ∈ es -> (x.1.ns ≠ [] -> some x.2.np.b ≠ (Value.slice na k nc).ownBlock) /\ ∀ y,y ∈ x.2.zs -> y.1.ns ≠ [] -> some y.2.b ≠ (Value.slice na k nc).ownBlock
 bel : Bw W1 wr
theorem zX.step {w W1 wr w2 w3 w5 : World} {X b k : Nat} {va : Option Addr} {n c : Nat} {na : Option Addr} {nc gg cap : Nat} {xs ys : List (EI × EPl)} {v3 : Option Addr} {n3 c3 : Nat} {o : Obj} (h : zX w W1 wr X b k va n c na nc xs)
  (B2 : Bw wr w2) (B3 : Bw w2 w3) (hy : GE wr.heap.size wr.heap.size w2 v3 n3 c3 X ys) {u : Option Addr} {m cc : Nat} (hr : GE w2.heap.size w.heap.size w3 u m cc (k * X + X) (xs ++ ys))
  (hown : w5.ownsRow W1.heap.size 9 1 (.slice (some ⟨gg,0,none⟩) (k + 1) cap) (k + 1) ((nmsG b k).map Value.string ++ [.string (fldN ((b / 4 + k * 3) % 7) k)])) (hg : (w3.alloc o).grownBy w5 (Value.slice na k nc).ownBlock) (hat : (Value.slice na k nc).ownBlock = some gg \/ gg = w3.heap.size + 1) :
  zX w W1 w5 X b (k + 1) u m cc (some ⟨gg,0,none⟩) cap (xs ++ ys):=by
 have g : Bw wr w3:=B2.trans (B3.mono B2.size);have a : w3.ownsRow W1.heap.size 9 1 (.slice na k nc) k ((nmsG b k).map Value.string):=az h.own (ax g) (by decide)
 have d : ∀ x,x ∈ xs ++ ys -> (x.1.ns ≠ [] -> some x.2.np.b ≠ (Value.slice na k nc).ownBlock) /\ ∀ y,y ∈ x.2.zs -> y.1.ns ≠ [] -> some y.2.b ≠ (Value.slice na k nc).ownBlock:=fun x hx=>by
  rcases List.mem_append.1 hx with z | z
  ·exact h.sep x z
  ·refine ⟨fun hne e=>?_,fun y hyy hne e=>?_⟩
   ·have p:=(h.own.lt _ e.symm).2
    have s:=((hy.ok x z).nm hne).2.1;omega
   ·have p:=(h.own.lt _ e.symm).2
    have s:=((hy.ok x z).ty.nm y hyy hne).2.1;omega
 have i : W1.heap.size <= w2.heap.size:=Nat.le_trans h.bel.size B2.size;have l:=oy hr a hg d;refine ⟨?_,?_,fun x hx=>?_,?_⟩
 ·rw [Nat.succ_mul]
  exact l.mono i (nlr _) (nlr _)
 ·rw [lW,List.map_append]
  exact hown
 ·rcases hat with e | e
  ·have:=d x hx
   rw [e] at this;exact this
  ·refine ⟨fun hne e2=>?_,fun y hyy hne e2=>?_⟩
   ·have q : x.2.np.b = gg:=Option.some.inj e2
    obtain ⟨_,_,N,f,r,_,_⟩:=(hr.ok x hx).nm hne;have:=r.lt;omega
   ·have q : y.2.b = gg:=Option.some.inj e2
    obtain ⟨_,_,N,f,r,_,_⟩:=(hr.ok x hx).ty.nm y hyy hne;have:=r.lt;omega
 ·have t : Bw W1 w3:=h.bel.trans (g.mono h.bel.size)
  exact ae t hg (fun j e=>(a.lt j e).1)
theorem xL (w : World) (d : Nat) {ca : Option Addr} {cb co Ln cc p : Nat} {C : Nat -> Nat} (hC : am w ca cb co Ln C) (hLn : Ln <= 1048576) (hd : d <= 3) {Nq : Nat} (hp : p + 2000 <= Nq) (hNq : Nq <= 1000000) {T V M : List ByteArray} {tp vp mp : NPl} (hS : Sc w T V M tp vp mp) (hV : 0 < V.length) (hVd : V.length + d + 1 <= 1000) {F : List ByteArray -> Nat -> List EI × Nat} (ih : Bh F d Nq ca cb co Ln cc C T M tp mp)
  (hca : 12 <= tk C Ln p 20 /\ tk C Ln p 20 < 14) {r : List EI × Nat} (hr : r = ((rp (fun _ q=>F V q) ([],p + 1 + 1) (tk C Ln (p + 1) 64 % 4)).1 ++ [⟨4,0,e0,e0,nmsG (tk C Ln (p + 1) 64) (tk C Ln (p + 1) 64 % 4),[]⟩],(rp (fun _ q=>F V q) ([],p + 1 + 1) (tk C Ln (p + 1) 64 % 4)).2)) :
  Calls Tryz.prog 65 #[.slice ca Ln cc,.int .i64 (p : Int),.agg #[.slice tp.a T.length tp.c,.slice vp.a V.length vp.c,.slice mp.a M.length mp.c],.int .i64 ((d : Int) + 1)] w (tE w (PE (d + 1)) (XE (d + 1)) p r):=by
 obtain ⟨i0,ct,cn,ck,bp⟩:=info_parts Tryz.infoEI;obtain ⟨i9,ch,ce,bx,b2⟩:=info_parts Tryz.info9;obtain ⟨es,eb⟩:=rI hd;obtain ⟨u,W2,a,b,a2,N,A,I,C1,C2,ha,hb,cz,di,X,bf,ab,a0⟩:=rP w d hC (cc:=cc) (p:=p) hLn (by omega) hS;rw [<- ha] at hca;rw [<- hb] at hr;clear hb;obtain ⟨x0,x1,x2⟩:=X.out u (Below.refl _ _);have bs : Hid (∀ W q,Bw u W -> q <= Nq -> Calls Tryz.prog 65 #[.slice ca Ln cc,.int .i64 (q : Int),.agg #[.slice tp.a T.length tp.c,.slice vp.a V.length vp.c,.slice mp.a M.length mp.c],.int .i64 (d : Int)] W (tE W (PE d) (XE d) q (F V q))):=fun W q hb hq=>ih W V vp q (bf.out W hb).1 (bf.out W hb).2 hV (by omega) hq;obtain ⟨y0,y1,y2⟩:=X.out W2 I.out;rw [N] at y0 y1 y2;have dd : IntKind.i64.wrap ((d : Int) + 1 - 1) = (d : Int):=wk (by omega);have d0 : ¬ ((d : Int) + 1) <= 0:=by omega
 have q3 : ¬ (a : Int) < 4:=by omega
 have q4 : ((a : Int) == 4) = false:=bn2 (by omega);have q6 : ¬ (a : Int) < 7:=by omega
 have q7 : ((a : Int) == 7) = false:=bn2 (by omega);have eQ : ¬ (a : Int) < 10:=by omega
 have el : ¬ (a : Int) < 12:=by omega
 have e4 : (a : Int) < 14:=by omega
 obtain ⟨W3,J⟩:=xe (W2.alloc (.cells #[] 9));have l : Hid (Bw W2 W3):=by rw [J];exact bel1 _ _
 have a1 : W2.heap.size = u.heap.size + 1:=by rw [N];simp
 have a6 : Hid (zX w u W3 (XE d) b 0 (some ⟨u.heap.size,0,none⟩) 0 0 (some ⟨u.heap.size + 1,0,none⟩) 0 []):=by
  rw [<- a1];refine ⟨(ab.out.below l.out).mono (nlr _) A.out.size (Nat.zero_le _),?_,fun _ h=>(List.not_mem_nil h).elim,I.out.trans (l.out.mono I.out.size)⟩;rw [J];exact aq (World.ownsRow_lit W2 #[] 0 (nlr _) (by unfold maxLen;omega) (by rfl)) I.out.size
 obtain ⟨n,hn⟩:=xe (b % 4);have e8 : n <= 3:=by omega
 have qn : Int.tmod (b : Int) 4 = (n : Int):=by rw [hn];exact bl b 4
 obtain ⟨Q,S⟩:=xe (b / 4);have e2 : Int.tdiv (b : Int) 4 = (Q : Int):=by rw [S];exact kw b 4
 have c5 : Q <= 16:=by omega
 have b9 : Hid (Q = b / 4):=S;rw [<- hn] at hr;have HR : Hid (r = ((rp (fun _ q=>F V q) ([],p + 1 + 1) n).1 ++ [⟨4,0,e0,e0,nmsG b n,[]⟩],(rp (fun _ q=>F V q) ([],p + 1 + 1) n).2)):=hr;clear hn S a1 hr;clear hC hS ha hV ih hca;go_enter Tryz.func65,Tryz.ntmps65;go_wp2_with fail;rw [<- a2];clear a2;refine C1.mono ?_;rintro e w' ⟨rfl,rfl⟩;go_wp2_with fail;refine C2.mono ?_;rintro e w' ⟨rfl,rfl⟩;clear C1 C2;clear y0 y1 y2;go_wp2_with fail;rw [<- N,<- J];clear N J x0 x1 x2
 go_loopw [1,13,18,19] (fun pp o ns i wr=>∃ (k q O Y B : Nat) (Z D : Option Addr),k <= n /\ i = .int .i64 k /\ pp = .int .i64 q /\ p + 2 <= q /\ q <= p + 2 + k * PE d /\ o = .slice Z O Y /\ ns = .slice D k B /\ Hid (∃ U,zX w u wr (XE d) b k Z O Y D B U /\ (U.map Prod.fst,q) = (rp (fun _ q=>F V q) ([],p + 1 + 1) k))) (fun _ _ _ i _=>n - (intOf i).toNat)
 case atStart=>exact ⟨0,p + 2,0,0,0,_,_,by omega,rfl,by rfl,by omega,by omega,rfl,rfl,_,a6.out,rfl⟩
 case round=>
  clear a6 ab I l;obtain ⟨k,q,O,Y,B,Z,D,hk,rfl,rfl,e6,d5,rfl,rfl,HG⟩:=hrel;obtain ⟨U,R,a4⟩:=HG.out;have a9 : Hid ((U.map Prod.fst,q) = (rp (fun _ q=>F V q) ([],p + 1 + 1) k)):=a4;clear a4;have m : Hid (Bw u wr):=R.bel;obtain ⟨y0,y1,y2⟩:=X.out wr m.out;have ez : k * PE d <= 3 * PE d:=Nat.mul_le_mul_right _ (by omega);have eg : k * XE d <= 3 * XE d:=Nat.mul_le_mul_right _ (by omega);by_cases ee : k < n
  ·have lk : (k : Int) < (n : Int):=by omega
   have z : Hid (zX w u wr (XE d) b k Z O Y D B U):=R;have C3:=bs.out wr q m.out (by omega);clear R HG;go_wp2_with fail;refine C3.mono ?_;rintro e w3 ⟨⟨v3,n3,c3,q3,rfl,dt,ef,a8⟩,l⟩;clear C3 y0 y1 y2;obtain ⟨ys,G,ao⟩:=a8.out;have b5 : Hid (F V q = (ys.map Prod.fst,q3)):=ao;clear ao;have b3 : Hid (GE wr.heap.size wr.heap.size w3 v3 n3 c3 (XE d) ys):=G;have d1 : Hid (Bw u w3):=m.out.trans (l.out.mono m.out.size);have C4:=BT w3 (z.out.ge.below l.out) (G.mono (nlr _) (Nat.le_trans A.out.size m.out.size) (nlr _)) (by omega);clear G a8;go_wp2_with fail;refine C4.mono ?_;rintro e w4 ⟨⟨v4,n4,c4,rfl,b7⟩,be⟩;clear C4;obtain ⟨f,hf⟩:=xe ((Q + k * 3) % 7);have d3 : IntKind.i64.wrap ((k : Int) * 3) = (k : Int) * 3:=wk (by omega);have ws : IntKind.i64.wrap ((Q : Int) + (k : Int) * 3) = (Q : Int) + (k : Int) * 3:=wk (by omega)
   have m7 : Int.tmod ((Q : Int) + (k : Int) * 3) 7 = (f : Int):=by
    have h:=bl (Q + k * 3) 7;rw [<- hf] at h;rw [<- h];congr 1 <;> omega
   have C5:=nD f k w4;have HF : Hid (fldN f k = fldN ((b / 4 + k * 3) % 7) k):=by rw [hf,b9.out];exact rfl
   have an : Hid (Bw wr w4):=l.out.trans (be.out.mono l.out.size);have K : w4.ownsRow u.heap.size 9 1 (.slice D k B) k ((nmsG b k).map Value.string):=az z.out.own (ax an.out) (by decide);have e3 : u.heap.size <= w4.heap.size:=Nat.le_trans m.out.size an.out.size;clear hf;go_wp2_with (first | (go_at_call 64;refine C5.mono ?_;rintro e w5 ⟨rfl,rfl⟩) | (at_builtin;refine wpList_append_lies _ rfl _ _ 52 rfl u.heap.size 9 i9 _ 1 16 Tryz.underlying52 ch ce bx b2 rfl (by omega) (.slice D k B) k ((nmsG b k).map Value.string) rfl (K.alloc _) ⟨w5.heap.size,0,none⟩ 1 1 [.string (fldN f k)] rfl rfl (World.news_of_block (cs:=#[.string (fldN f k)]) (t:=9) (fr:=(0,0)) (heap_alloc_new w5 _)) (by simp [Value.oneCell']) (by omega) (by unfold maxLen;omega) (by omega) (by simp only [World.size_alloc];omega) (w5.heap.size + 1) (by simp) ?_;intro gg E w6 v L bn a3));have hP : (k + 1) * PE d = k * PE d + PE d:=Nat.succ_mul _ _;have H:=v;rw [HF.out] at H;refine ⟨⟨k + 1,q3,n4,c4,E,v4,_,by omega,by go_num,rfl,by omega,by omega,rfl,rfl,_,z.out.step l.out be.out b3.out b7.out H L bn,by rw [List.map_append];exact dm a9.out b5.out⟩,by simp [intOf];omega⟩
  ·have cq : k = n:=by omega
   subst cq;have lk : ¬ (k : Int) < (k : Int):=by omega
   have z : Hid (zX w u wr (XE d) b k Z O Y D B U):=R;have K:=R.ge.own;have eT:=R.ge.le;have eR : u.heap.size <= wr.heap.size:=m.out.size;clear R HG y0 y1 y2;go_wp2_with (first | (at_builtin;refine wpList_append_lies _ rfl _ _ 35 rfl u.heap.size 65 i0 _ 6 96 Tryz.underlying35 ct cn ck bp rfl (by omega) (.slice Z O Y) O (eisC U) rfl (K.alloc _) ⟨wr.heap.size,0,none⟩ 1 1 [.int .i64 4,.int .i64 0,.string ⟨#[]⟩,.string ⟨#[]⟩,.slice D k B,.slice none 0 0] rfl rfl (World.news_of_block (cs:=#[.int .i64 4,.int .i64 0,.string ⟨#[]⟩,.string ⟨#[]⟩,.slice D k B,.slice none 0 0]) (t:=65) (fr:=(0,0)) (heap_alloc_new wr _)) (by simp [Value.oneCell']) (by omega) (by unfold maxLen;omega) (by omega) (by simp only [World.size_alloc];omega) (wr.heap.size + 1) (by simp) ?_;intro gg E w7 v L et a3));go_ret2;obtain ⟨g,bv⟩:=aW (ns:=nmsG b k) (bX b k).symm (by have h:=z.out.own;rwa [i8] at h);have b8:=df z.out.own
   have b0 : kx (nmsG b k) <= 12 * (nmsG b k).length:=jv (fun s hs=>by
    unfold nmsG at hs;obtain ⟨j,_,rfl⟩:=List.mem_map.1 hs;exact dr (j3 _ _).1)
   rw [bX] at b0
   have ev : cE (⟨4,0,e0,e0,nmsG b k,[]⟩ : EI) <= 100:=by
    show e0.size + e0.size + cN (nmsG b k) + bQ [] <= 100;have dl : e0.size = 0:=rfl;have ea : bQ [] = 0:=rfl;unfold cN;rw [bX];omega
   have P:=z.out.ge.push (x:=((⟨4,0,e0,e0,nmsG b k,[]⟩ : EI),(⟨⟨D,g,B⟩,.slice none 0 0,[]⟩ : EPl))) (X':=XE (d + 1)) (by rw [show cU ((⟨4,0,e0,e0,nmsG b k,[]⟩ : EI),(⟨⟨D,g,B⟩,.slice none 0 0,[]⟩ : EPl)) = [.int .i64 4,.int .i64 0,.string ⟨#[]⟩,.string ⟨#[]⟩,.slice D k B,.slice none 0 0] by unfold cU;rw [bX];rfl];exact v) L ⟨bv.mono A.out.size,⟨World.ownsRow_nil _ _ _ _,fun x hx=>by cases hx⟩,rfl⟩ ⟨by show (nmsG b k).length <= B;rw [bX];exact b8,fun y hy=>by cases hy⟩ (by show k * XE d + 1 + cE (⟨4,0,e0,e0,nmsG b k,[]⟩ : EI) <= _;have:=a0.out.2;omega);refine ⟨⟨some ⟨gg,0,none⟩,O + 1,E,q,rfl,by omega,by have:=a0.out.1;omega,_,P.mono A.out.size (nlr _) (nlr _),by rw [List.map_append];exact kZ HR.out a9.out⟩,?_⟩;exact ae (A.out.trans (m.out.mono A.out.size)) L (fun j e=>Nat.le_trans A.out.size (K.lt j e).1)
structure Bj (w W1 W3 wr : World) (X k : Nat) (va : Option Addr) (n c : Nat) (es : List (EI × EPl)) : Prop where
 ge : GE W1.heap.size w.heap.size wr va n c (k * X) es
 bel : Bw W3 wr
theorem Bj.step {w W1 W3 wr w2 w3 : World} {X k : Nat} {va : Option Addr} {n c : Nat} {xs ys : List (EI × EPl)} (h : Bj w W1 W3 wr X k va n c xs) (h1 : W1.heap.size <= W3.heap.size)
  (B2 : Bw wr w2) (B3 : Bw w2 w3) {u : Option Addr} {m cc : Nat} (hr : GE w2.heap.size w.heap.size w3 u m cc (k * X + X) (xs ++ ys)) :
  Bj w W1 W3 w3 X (k + 1) u m cc (xs ++ ys):=by
 have a : Bw wr w3:=B2.trans (B3.mono B2.size);have b : W1.heap.size <= w2.heap.size:=Nat.le_trans h1 (Nat.le_trans h.bel.size B2.size);refine ⟨?_,h.bel.trans (a.mono h.bel.size)⟩;rw [Nat.succ_mul];exact hr.mono b (nlr _) (nlr _)
theorem zP (w : World) (d : Nat) {ca : Option Addr} {cb co Ln cc p : Nat} {C : Nat -> Nat} (hC : am w ca cb co Ln C) (hLn : Ln <= 1048576) (hd : d <= 3) {Nq : Nat} (hp : p + 2000 <= Nq) (hNq : Nq <= 1000000) {T V M : List ByteArray} {tp vp mp : NPl} (hS : Sc w T V M tp vp mp) (hV : 0 < V.length) (hVd : V.length + d + 1 <= 1000) {F : List ByteArray -> Nat -> List EI × Nat} (ih : Bh F d Nq ca cb co Ln cc C T M tp mp)
  (hca : 14 <= tk C Ln p 20) {r : List EI × Nat} (hr : r = ((rp (fun _ q=>F V q) ([],p + 1 + 1) (if tk C Ln p 20 = 17 then 3 else 2)).1 ++ [bI (Df (tk C Ln p 20)) 0 e0 e0],(rp (fun _ q=>F V q) ([],p + 1 + 1) (if tk C Ln p 20 = 17 then 3 else 2)).2)) :
  Calls Tryz.prog 65 #[.slice ca Ln cc,.int .i64 (p : Int),.agg #[.slice tp.a T.length tp.c,.slice vp.a V.length vp.c,.slice mp.a M.length mp.c],.int .i64 ((d : Int) + 1)] w (tE w (PE (d + 1)) (XE (d + 1)) p r):=by
 obtain ⟨i0,cm,ck,b9,bL⟩:=info_parts Tryz.infoEI;obtain ⟨i9,ew,es,de,dv⟩:=info_parts Tryz.info9;obtain ⟨ea,dt⟩:=rI hd;obtain ⟨g,W2,a,b,a4,B,s,D,C1,C2,ha,hb,cp,c0,N,bp,U,ah⟩:=rP w d hC (cc:=cc) (p:=p) hLn (by omega) hS;rw [<- ha] at hca hr;clear hb;obtain ⟨x0,x1,x2⟩:=N.out g (Below.refl _ _);have b0 : Hid (∀ W q,Bw g W -> q <= Nq -> Calls Tryz.prog 65 #[.slice ca Ln cc,.int .i64 (q : Int),.agg #[.slice tp.a T.length tp.c,.slice vp.a V.length vp.c,.slice mp.a M.length mp.c],.int .i64 (d : Int)] W (tE W (PE d) (XE d) q (F V q))):=fun W q hb hq=>ih W V vp q (bp.out W hb).1 (bp.out W hb).2 hV (by omega) hq;obtain ⟨y0,X,y2⟩:=N.out W2 D.out;rw [B] at y0 X y2;have dd : IntKind.i64.wrap ((d : Int) + 1 - 1) = (d : Int):=wk (by omega);have d0 : ¬ ((d : Int) + 1) <= 0:=by omega
 have q3 : ¬ (a : Int) < 4:=by omega
 have q4 : ((a : Int) == 4) = false:=bn2 (by omega);have q6 : ¬ (a : Int) < 7:=by omega
 have q7 : ((a : Int) == 7) = false:=bn2 (by omega);have b8 : ¬ (a : Int) < 10:=by omega
 have b5 : ¬ (a : Int) < 12:=by omega
 have ch : ¬ (a : Int) < 14:=by omega
 obtain ⟨l,nn,ao⟩ : ∃ (l : Int) (nn : Nat),(a = 14 /\ l = 7 /\ nn = 2) \/ (a = 15 /\ l = 7 /\ nn = 2) \/ (a = 16 /\ l = 10 /\ nn = 2) \/ (a = 17 /\ l = 8 /\ nn = 3) \/ (a = 18 /\ l = 9 /\ nn = 2) \/ (a = 19 /\ l = 9 /\ nn = 2):=by
  have hx : a = 14 \/ a = 15 \/ a = 16 \/ a = 17 \/ a = 18 \/ a = 19:=by omega
  rcases hx with h | h | h | h | h | h
  ·exact ⟨7,2,.inl ⟨h,rfl,rfl⟩⟩
  ·exact ⟨7,2,.inr (.inl ⟨h,rfl,rfl⟩)⟩
  ·exact ⟨10,2,.inr (.inr (.inl ⟨h,rfl,rfl⟩))⟩
  ·exact ⟨8,3,.inr (.inr (.inr (.inl ⟨h,rfl,rfl⟩)))⟩
  ·exact ⟨9,2,.inr (.inr (.inr (.inr (.inl ⟨h,rfl,rfl⟩))))⟩
  ·exact ⟨9,2,.inr (.inr (.inr (.inr (.inr ⟨h,rfl,rfl⟩))))⟩
 have HR : Hid (r = ((rp (fun _ q=>F V q) ([],p + 1 + 1) nn).1 ++ [bI l 0 e0 e0],(rp (fun _ q=>F V q) ([],p + 1 + 1) nn).2)):=by
  show _ = _;rw [hr];rcases ao with ⟨h,Q,O⟩ | ⟨h,Q,O⟩ | ⟨h,Q,O⟩ | ⟨h,Q,O⟩ | ⟨h,Q,O⟩ | ⟨h,Q,O⟩ <;> (subst h;subst Q;subst O;rfl)
 clear hr;obtain ⟨E,y⟩:=xe (W2.alloc (.cells #[.int .i64 l,.int .i64 0,.string ⟨#[]⟩,.string ⟨#[]⟩,.slice none 0 0,.slice none 0 0] 65));have u : Hid (Bw W2 E):=by rw [y];exact bel1 _ _
 have ar : W2.heap.size = g.heap.size + 1:=by rw [B];simp
 have a6 : Hid (E.rowIs (g.heap.size + 1) 65 6 (v6 (.int .i64 l) (.int .i64 0) (.string ⟨#[]⟩) (.string ⟨#[]⟩) (.slice none 0 0) (.slice none 0 0))):=by rw [y,<- ar];exact ls W2 _ _ _ _ _ _ _
 have A : Hid (Bw g E):=D.out.trans (u.out.mono D.out.size);have bb : Hid (Bj w g E E (XE d) 0 (some ⟨g.heap.size,0,none⟩) 0 0 []):=⟨(U.out.below u.out).mono (nlr _) s.out.size (Nat.zero_le _),Below.refl _ _⟩;clear ar y0 X y2;clear hC hS ha hV ih hca q3 q4 q6 q7 b8 b5 ch;rcases ao with ⟨v,n,f⟩ | ⟨v,n,f⟩ | ⟨v,n,f⟩ | ⟨v,n,f⟩ | ⟨v,n,f⟩ | ⟨v,n,f⟩
 all_goals
  subst v;go_enter Tryz.func65,Tryz.ntmps65;go_wp2_with fail;rw [<- a4];clear a4;refine C1.mono ?_;rintro e w' ⟨rfl,rfl⟩;go_wp2_with fail;refine C2.mono ?_;rintro e w' ⟨rfl,rfl⟩;clear C1 C2;go_wp2_with fail;rw [<- B];rw [n] at y;rw [<- y];clear B y x0 x1 x2
  go_loopw [1,13,21] (fun pp o i wr=>∃ (k q H S : Nat) (va : Option Addr),k <= nn /\ i = .int .i64 k /\ pp = .int .i64 q /\ p + 2 <= q /\ q <= p + 2 + k * PE d /\ o = .slice va H S /\ Hid (∃ L,Bj w g E wr (XE d) k va H S L /\ (L.map Prod.fst,q) = (rp (fun _ q=>F V q) ([],p + 1 + 1) k))) (fun _ _ i _=>nn - (intOf i).toNat)
  case atStart=>exact ⟨0,p + 2,0,0,_,Nat.zero_le _,rfl,by rfl,by omega,by omega,rfl,_,bb.out,rfl⟩
  case round=>
   clear bb U D u;obtain ⟨k,q,H,S,va,hk,rfl,rfl,cn,b3,rfl,HG⟩:=hrel;obtain ⟨L,R,a5⟩:=HG.out;have bo : Hid ((L.map Prod.fst,q) = (rp (fun _ q=>F V q) ([],p + 1 + 1) k)):=a5;clear a5;have a2 : Hid (Bw E wr):=R.bel;have z : Hid (Bw g wr):=A.out.trans (a2.out.mono A.out.size);obtain ⟨y0,X,y2⟩:=N.out wr z.out;have eg : k * PE d <= 3 * PE d:=Nat.mul_le_mul_right _ (by omega);have d2 : k * XE d <= 3 * XE d:=Nat.mul_le_mul_right _ (by omega);have J : Hid (Bj w g E wr (XE d) k va H S L):=R;have a1 : (k : Int) < 2 ↔ k < 2:=by omega
   have a0 : (k : Int) < 3 ↔ k < 3:=by omega
   by_cases a8 : k < nn
   ·have m : (nn = 2 -> (k : Int) < 2) /\ (nn = 3 -> (k : Int) < 3):=by omega
    first | (have lk:=m.1 f) | (have lk:=m.2 f)
    have a9 : Hid (k + 1 <= nn /\ nn - (k + 1) < nn - k):=(by omega : k + 1 <= nn /\ nn - (k + 1) < nn - k);have C3:=b0.out wr q z.out (by omega);have d5 : Hid (q <= p + 2 + k * PE d /\ p + 2 <= q):=⟨b3,cn⟩;clear R HG m a1 a0 a8 hk;go_wp2_with fail;refine C3.mono ?_;rintro e w3 ⟨⟨v3,n3,c3,q3,rfl,c9,d1,bf⟩,u⟩;clear C3 y0 X y2;obtain ⟨ys,G,Y⟩:=bf.out;have b4 : Hid (F V q = (ys.map Prod.fst,q3)):=Y;clear Y;have C4:=BT w3 (J.out.ge.below u.out) (G.mono (nlr _) (Nat.le_trans s.out.size z.out.size) (nlr _)) (by omega);clear G bf;go_wp2_with fail;refine C4.mono ?_;rintro e w4 ⟨⟨v4,n4,c4,rfl,b6⟩,ce⟩;clear C4;go_wp2;have hP : (k + 1) * PE d = k * PE d + PE d:=Nat.succ_mul _ _;refine ⟨⟨k + 1,q3,n4,c4,v4,a9.out.1,by go_num,rfl,by omega,by omega,rfl,_,J.out.step A.out.size u.out ce.out b6.out,by rw [List.map_append];exact dm bo.out b4.out⟩,by have:=a9.out.2;simp [intOf];exact this⟩
   ·have m : (nn = 2 -> ¬ (k : Int) < 2) /\ (nn = 3 -> ¬ (k : Int) < 3):=by omega
    first | (have lk:=m.1 f) | (have lk:=m.2 f)
    have an:=R.ge.own;have ev:=R.ge.le;have et : g.heap.size <= wr.heap.size:=z.out.size;have K:=a6.out.of_block (a2.out.block _ a6.out.lt);have z0 : wr.cell? ⟨g.heap.size + 1,0,none⟩ = some (.int .i64 l):=K.cell (i:=0) (by omega);have z1 : wr.cell? ⟨g.heap.size + 1,1,none⟩ = some (.int .i64 0):=K.cell (i:=1) (by omega);have z2 : wr.cell? ⟨g.heap.size + 1,2,none⟩ = some (.string ⟨#[]⟩):=K.cell (i:=2) (by omega);have z3 : wr.cell? ⟨g.heap.size + 1,3,none⟩ = some (.string ⟨#[]⟩):=K.cell (i:=3) (by omega);have z4 : wr.cell? ⟨g.heap.size + 1,4,none⟩ = some (.slice none 0 0):=K.cell (i:=4) (by omega);have z5 : wr.cell? ⟨g.heap.size + 1,5,none⟩ = some (.slice none 0 0):=K.cell (i:=5) (by omega);have bs : k = nn:=by omega
    have b2 : Hid (r = ((L.map Prod.fst) ++ [bI l 0 e0 e0],q)):=kZ HR.out (by have h:=bo.out;rw [bs] at h;exact h);clear bs;clear R HG y0 X y2 K m a1 a0 a8 n f;go_wp2_with (first | (at_builtin;refine wpList_append_lies _ rfl _ _ 35 rfl g.heap.size 65 i0 _ 6 96 Tryz.underlying35 cm ck b9 bL rfl (by omega) (.slice va H S) H (eisC L) rfl (an.alloc _) ⟨wr.heap.size,0,none⟩ 1 1 [.int .i64 l,.int .i64 0,.string ⟨#[]⟩,.string ⟨#[]⟩,.slice none 0 0,.slice none 0 0] rfl rfl (World.news_of_block (cs:=#[.int .i64 l,.int .i64 0,.string ⟨#[]⟩,.string ⟨#[]⟩,.slice none 0 0,.slice none 0 0]) (t:=65) (fr:=(0,0)) (heap_alloc_new wr _)) (by simp [Value.oneCell']) (by omega) (by unfold maxLen;omega) (by omega) (by simp only [World.size_alloc];omega) (wr.heap.size + 1) (by simp) ?_;intro gg Z w7 I a3 eb ct));go_ret2;have ee : cE (⟨l,0,e0,e0,[],[]⟩ : EI) = e0.size + e0.size:=eG;have c5 : e0.size = 0:=rfl;have P:=J.out.ge.push (x:=((⟨l,0,e0,e0,[],[]⟩ : EI),im)) (X':=XE (d + 1)) I a3 (dj _) eI (by show k * XE d + 1 + cE (⟨l,0,e0,e0,[],[]⟩ : EI) <= _;have:=ah.out.2;omega);refine ⟨⟨some ⟨gg,0,none⟩,H + 1,Z,q,rfl,by omega,by have:=ah.out.1;omega,_,P.mono s.out.size (nlr _) (nlr _),by rw [List.map_append];exact b2.out⟩,?_⟩;exact ae (s.out.trans (z.out.mono s.out.size)) a3 (fun j e=>Nat.le_trans s.out.size (an.lt j e).1)
theorem Dn {ca : Option Addr} {cb co Ln cc : Nat} {C : Nat -> Nat} (hLn : Ln <= 1048576) {T M : List ByteArray} {tp mp : NPl} :
  ∀ d,d <= 4 -> Bh (em C Ln T M d) d (1000000 - 2000 * d) ca cb co Ln cc C T M tp mp:=by
 intro d
 induction d with
 | zero=>intro _ W V p q i j h n t;exact g_E_lit W 0 (PE_pos _) (XE_pos _) i hLn (by omega) j h (.inr (Int.le_refl _)) rfl
 | succ d ih=>
   intro u W V p q i j h n t;have k:=ih (by omega);obtain ⟨m,o⟩ : ∃ m,m = 1000000 - 2000 * d:=⟨_,rfl⟩;rw [<- o] at k;have g : q + 2000 <= m:=by omega
   have f : m <= 1000000:=by omega
   have a : V.length + d + 1 <= 1000:=by omega
   rw [show ((d + 1 : Nat) : Int) = (d : Int) + 1 by omega];have s : tk C Ln q 20 < 20:=cd (by omega);rcases Nat.lt_or_ge (tk C Ln q 20) 8 with l | l
   ·exact g_E_lit W _ (PE_pos _) (XE_pos _) i hLn (by omega) j h (.inl l) (r:=em C Ln T M (d + 1) V q) (by rw [em,if_pos l])
   rcases Nat.lt_or_ge (tk C Ln q 20) 10 with e | e
   ·exact xM W d i hLn (by omega) g f j h a k ⟨l,e⟩ (r:=em C Ln T M (d + 1) V q) (by rw [em,if_neg (by omega),if_pos e])
   rcases Nat.lt_or_ge (tk C Ln q 20) 12 with c | c
   ·exact xl W d i hLn (by omega) g f j h a k ⟨e,c⟩ (r:=em C Ln T M (d + 1) V q) (by rw [em,if_neg (by omega),if_neg (by omega),if_pos c])
   rcases Nat.lt_or_ge (tk C Ln q 20) 14 with b | b
   ·exact xL W d i hLn (by omega) g f j h a k ⟨c,b⟩ (r:=em C Ln T M (d + 1) V q) (by rw [em,if_neg (by omega),if_neg (by omega),if_neg (by omega),if_pos b])
   exact zP W d i hLn (by omega) g f j h a k b (r:=em C Ln T M (d + 1) V q) (by rw [em,if_neg (by omega),if_neg (by omega),if_neg (by omega),if_neg (by omega)])
end Go.Proofs.YtihedobejcaapaaGreatDoor
