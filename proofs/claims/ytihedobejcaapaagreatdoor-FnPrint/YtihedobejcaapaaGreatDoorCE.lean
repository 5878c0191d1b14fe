/-
  YbU
-/
import Derived.Test.YtihedobejcaapaaGreatDoorCB
set_option maxHeartbeats 4000000
set_option maxRecDepth 100000
namespace Go.Proofs.YtihedobejcaapaaGreatDoor
open Go.RowKit
theorem AC {α : Type} {s : List α × Nat} {x y : List α} {q : Nat} {r : List α × Nat} (hr : r = (s.1 ++ y,s.2)) (h : (x,q) = s) : r = (x ++ y,q):=by
 rw [hr,<- h]
theorem yr (w : World) (z : Int) (_hz1 : -10 <= z) (_hz2 : z <= 2) {P X : Nat} {ca : Option Addr} {cb co Ln cc p : Nat} {C : Nat -> Nat} (hC : am w ca cb co Ln C) (hLn : Ln <= 1048576) (hp : p <= 900000) {T V M : List ByteArray} {tp vp mp : NPl} (hS : Sc w T V M tp vp mp) {xs : List (TI × NPl)} {l : List TI} {ta : Option Addr} {tc e : Nat} (hT : fq w (.slice ta xs.length tc) xs) (hH : TH xs l) (he : e < xs.length)
  {P1 X1 : Nat} (hz : -3 < z) (hP : 1 + 3 * P1 <= P) (hX : 3 * X1 + 70 <= X) (hX1 : X1 <= 100000) (_hP1 : P1 <= 40000) (hca : tk C Ln p 16 ≠ 15) (hop : xs[e].1.op = 5) {Gf : List TI -> Nat -> Nat -> List EI × Nat} {r : List EI × Nat} (hr : r = ((rp (fun i q=>Gf l ((eo l e).getD i 0 - 1) q) ([],p + 1) (eo l e).length).1 ++ kt (tk C Ln p 16) xs[e].1.ns,(rp (fun i q=>Gf l ((eo l e).getD i 0 - 1) q) ([],p + 1) (eo l e).length).2)) (CI : CF Gf (z - 1) P1 X1 (p + 1 + 2 * P1) ca cb co Ln cc C T V M tp vp mp) :
  Calls Tryz.prog 39 #[.slice ca Ln cc,.int .i64 (p : Int),.agg #[.slice tp.a T.length tp.c,.slice vp.a V.length vp.c,.slice mp.a M.length mp.c],.slice ta xs.length tc,.int .i64 ((e : Int) + 1),.int .i64 z] w (j8 w P X p r):=by
 obtain ⟨i0,ch,b0,b3,b1⟩:=info_parts Tryz.infoEI;have it : Hid (M.length <= 1000):=hS.lm.1;have hF:=hH.len;have gv:=hQx hH;obtain ⟨W1,W2,a,g,nd,Q,op,ps,et,eT,a9,fs,C1,ha,hR,bp,b9,b5,y0,y1,y2,y3,a8,bf,eq,CP,a2,ec⟩:=io w hC (cc:=cc) hLn hp hS hT hH he;rw [<- ha] at hca hr
 have HR : Hid (r = ((rp (fun i q=>Gf l ((eo l e).getD i 0 - 1) q) ([],p + 1) nd).1 ++ kt a Q.1.ns,(rp (fun i q=>Gf l ((eo l e).getD i 0 - 1) q) ([],p + 1) nd).2)):=by
  rw [a8.out.2];have e1 : (eo l e).length = nd:=by rw [<- ec.out];exact a2.out.1
  rw [e1] at hr;exact hr
 clear hr;rw [<- bf] at hop;have hi : Hid (op = Q.1.op):=by rw [a8.out.2];exact bf
 have gM : IntKind.i64.wrap ((e : Int) + 1 - 1) = (e : Int):=wk (by omega);have hu : IntKind.i64.wrap (e : Int) = (e : Int):=wk (by omega);have hv : (e : Int) < (xs.length : Int):=by omega
 have hg : (0 : Int) <= (e : Int):=by omega
 have i5 : ((a : Int) == 15) = false:=bn2 (by omega);have wz : IntKind.i64.wrap (z - 1) = z - 1:=wk (by omega);have g5:=hQx CI;have fx : Hid (ta = some ⟨g,0,none⟩ /\ e < xs.length):=⟨b5,he⟩
 have e7 : Hid (nd = Q.1.ns.length):=by
  obtain ⟨f,f1,f2⟩:=hH.item he;show _ = _;rw [a2.out.2.1,f2];rw [<- a8.out.2] at f1;have hM:=hi.out;rcases fT_cases f1 with ⟨o,_⟩ | ⟨o,_⟩ | ⟨o,_⟩ | ⟨o,_⟩ | ⟨o,rfl⟩ | ⟨o,_⟩
  ·omega
  ·omega
  ·omega
  ·omega
  ·exact (bq _ _ _).2.1
  ·omega
 have d1:=hH.sm Q a8.out.1;have ao : Q.1.ns.length <= 3:=d1.len;have ce : Hid (∀ s,s ∈ Q.1.ns -> s.size <= 12):=d1.nms;have hY : nd <= 3:=by rw [e7.out];exact ao
 have f4 : op = 5:=hop;clear hca hop CI d1;subst f4;have fo:=b5;rw [b5];clear hC hS ha hT hH bf b5;go_enter Tryz.func39,Tryz.ntmps39;go_wp2_with fail;rw [<- et];clear et;refine C1.mono ?_;rintro e' w7 ⟨rfl,rfl⟩;clear C1;go_wp2_with fail;rw [<- eT];rw [fo] at CP;refine CP.mono ?_;rintro e' Y ⟨va,cp,rfl,A,BP⟩;have ds : Hid (Bw W2 Y):=BP;have hq : Hid (Y.ownsRow W2.heap.size 3 1 (.slice va nd cp) nd (eh ps)):=A;have bo : Hid (Bw W1 Y):=fs.out.trans (ds.out.mono fs.out.size);obtain ⟨W4,a4⟩:=xe (Y.alloc (.cells #[] 65));have b8 : Hid (Bw Y W4):=by rw [a4];exact bel1 _ _
 have fz : Hid (GE Y.heap.size 0 W4 (some ⟨Y.heap.size,0,none⟩) 0 0 0 []):=by rw [a4];exact eL Y
 have U : Hid (Bw W1 W4):=bo.out.trans (b8.out.mono bo.out.size);have bb : Hid (Bw W2 W4):=ds.out.trans (b8.out.mono ds.out.size);obtain ⟨t0,t3⟩:=eq.out W4 bb.out;obtain ⟨x0,x1,x2⟩:=bp.out W4 U.out;rw [a4] at t0 t3 x0 x1 x2;clear CP BP A eT y0 y1 y2 y3 gM hu hv hg
 have hh : Hid (∀ W,Bw Y W -> ∀ (k : Nat) (hk : k < ps.length),∃ S,va = some ⟨S,0,none⟩ /\ W.cell? ⟨S,k,none⟩ = some (.int .i64 (ps[k] : Int))):=fun W hb k hk=>by
  have ah:=a2.out.1;have h:=az hq.out (ax hb) (by decide);rw [<- ah] at h;obtain ⟨S,gc,ev,_⟩:=au h (by omega);simp only [Value.slice.injEq] at ev;obtain ⟨rfl,-,rfl⟩:=ev;exact ⟨S,rfl,aU h rfl hk⟩
 have e9 : Hid (rN w W4 W4 0 X1 0 (some ⟨Y.heap.size,0,none⟩) 0 0 []):=⟨fz.out.mono (Nat.le_trans a9.out.size bo.out.size) (nlr _) (Nat.zero_le _),Below.refl _ _⟩;go_wp2_with fail;rw [<- a4];clear a4 x0 x1 x2 t0 t3
 go_loopw [1,18,22] (fun pp o i wr=>∃ (k q H c1 : Nat) (O : Option Addr),k <= nd /\ i = .int .i64 k /\ pp = .int .i64 q /\ p + 1 <= q /\ q <= p + 1 + k * P1 /\ o = .slice O H c1 /\ Hid (∃ I,rN w W4 wr 0 X1 k O H c1 I /\ (I.map Prod.fst,q) = (rp (fun i q=>Gf l ((eo l e).getD i 0 - 1) q) ([],p + 1) k))) (fun _ _ i _=>nd - (intOf i).toNat)
 case atStart=>exact ⟨0,p + 1,0,0,_,Nat.zero_le _,rfl,by rfl,by omega,by omega,rfl,_,e9.out,rfl⟩
 case round=>
  clear e9 fz;obtain ⟨k,q,H,c1,O,hk,rfl,rfl,k3,ih,rfl,HG⟩:=hrel;obtain ⟨I,G0,eO⟩:=HG.out;have fn : Hid ((I.map Prod.fst,q) = (rp (fun i q=>Gf l ((eo l e).getD i 0 - 1) q) ([],p + 1) k)):=eO;clear eO;have di : Hid (Bw W4 wr):=G0.bel;have F : Hid (Bw W1 wr):=U.out.trans (di.out.mono U.out.size);have de : Hid (Bw Y wr):=b8.out.trans (di.out.mono b8.out.size);have gT : Hid (Bw W2 wr):=bb.out.trans (di.out.mono bb.out.size);obtain ⟨y0,y1,y2⟩:=bp.out wr F.out;have kb : k * P1 <= 3 * P1:=Nat.mul_le_mul_right _ (by omega);have i2 : k * X1 <= 3 * X1:=Nat.mul_le_mul_right _ (by omega);have i4 : (k + 1) * P1 = k * P1 + P1:=Nat.succ_mul _ _;have a0 : Hid (rN w W4 wr 0 X1 k O H c1 I):=G0;by_cases iv : k < nd
  ·have lk : (k : Int) < (nd : Int):=by omega
   have l0 : (0 : Int) <= (k : Int):=by omega
   have kk : k * P1 <= 2 * P1:=Nat.mul_le_mul_right _ (by omega);have d2 : k < ps.length:=by have:=a2.out.1;omega
   have g6:=a2.out.2.2 ps[k] (List.getElem_mem d2);obtain ⟨qk,bL⟩ : ∃ qk,ps[k] = qk + 1:=⟨ps[k] - 1,by omega⟩;rw [bL] at g6
   have hc : Hid ((eo l e).getD k 0 - 1 = qk):=by
    show _ = _;rw [<- ec.out,List.getD_eq_getElem?_getD,List.getElem?_eq_getElem d2];show ps[k] - 1 = qk;rw [bL];rfl
   have eg : Hid (∀ W,Bw Y W -> ∃ S,va = some ⟨S,0,none⟩ /\ W.cell? ⟨S,k,none⟩ = some (.int .i64 ((qk : Int) + 1))):=fun W hb=>by
    obtain ⟨S,e1,e2⟩:=hh.out W hb k d2;refine ⟨S,e1,?_⟩;rw [e2,bL];rfl
   obtain ⟨S,c5,c0⟩:=eg.out wr de.out;have g3 : Hid (va = some ⟨S,0,none⟩):=c5;have C6:=g5.out wr.drew xs l ta tc qk q ((b9.out wr F.out).1.below (Below.refl _ _).drew) ((b9.out wr F.out).2.1.below (Below.refl _ _).drew) ((b9.out wr F.out).2.2.below (Below.refl _ _).drew) gv.out (by have:=fx.out.2;omega) (by omega);rw [fx.out.1] at C6;have ff:=B0 C6
   have hf : Hid (∀ W,Bw W1 W -> Bw Y W -> W.cell? ⟨w.heap.size,0,none⟩ = some (.slice tp.a T.length tp.c) /\ W.cell? ⟨w.heap.size,1,none⟩ = some (.slice vp.a V.length vp.c) /\ W.cell? ⟨w.heap.size,2,none⟩ = some (.slice mp.a M.length mp.c) /\ W.cell? ⟨S,k,none⟩ = some (.int .i64 ((qk : Int) + 1))):=fun W h1 h2=>⟨(bp.out W h1).1,(bp.out W h1).2.1,(bp.out W h1).2.2,by
    obtain ⟨g2,e1,e2⟩:=eg.out W h2;have e3 : S = g2:=by have h:=g3.out.symm.trans e1;simpa using h
    rw [e3];exact e2⟩
   rw [c5];clear C6 G0 HG bL c5;go_wp2
   go_region_held3 (fun wq=>wq.cell? ⟨w.heap.size,0,none⟩ = some (.slice tp.a T.length tp.c) /\ wq.cell? ⟨w.heap.size,1,none⟩ = some (.slice vp.a V.length vp.c) /\ wq.cell? ⟨w.heap.size,2,none⟩ = some (.slice mp.a M.length mp.c) /\ wq.cell? ⟨S,k,none⟩ = some (.int .i64 ((qk : Int) + 1))) (go_keep) ((go_at_call 39;(with_reducible refine ff.out.mono ?_);rintro e5 w7 ⟨⟨v3,n3,c3,q3,rfl,h7,i1,fm⟩,c8⟩;obtain ⟨u0,u1,u2,u3⟩:=hf.out w7 (F.out.drew.trans (c8.out.mono F.out.size)) (de.out.drew.trans (c8.out.mono de.out.size))))
   all_goals
    have f5 : Hid (Bw wr w7):=(Below.refl _ _).drew.trans c8.out;obtain ⟨ys,G,ef⟩:=fm.out;have hj : Hid (Gf l ((eo l e).getD k 0 - 1) q = (ys.map Prod.fst,q3)):=by rw [hc.out];exact ef
    clear ef;have C4:=BT w7 (a0.out.ge.below f5.out) G (by omega);clear G fm ff y0 y1 y2 u0 u1 u2 u3 c0;go_wp2_with fail;refine C4.mono ?_;rintro e2 w8 ⟨⟨v4,n4,c4,rfl,hl⟩,hB⟩;clear C4;go_wp2;refine ⟨⟨k + 1,q3,n4,c4,v4,by omega,by go_num,rfl,by omega,by omega,rfl,_,a0.out.step (Nat.le_trans a9.out.size U.out.size) f5.out hB.out hl.out,by rw [List.map_append];exact dm fn.out hj.out⟩,by simp [intOf];omega⟩
  ·have hw : k = nd:=by omega
   subst hw;have lk : ¬ (k : Int) < (k : Int):=by omega
   obtain ⟨t0,t3⟩:=eq.out wr gT.out
   have C7 : Calls Tryz.prog 42 #[.slice Q.2.a Q.1.ns.length Q.2.c] wr fun e wq=>(∃ va c2,e = .returned (.slice va Q.1.ns.length c2) /\ Hid (wq.ownsRow wr.heap.size 9 1 (.slice va Q.1.ns.length c2) Q.1.ns.length (ii Q.1.ns))) /\ Hid (Bw wr wq):=by
    obtain ⟨B,R⟩:=(b9.out wr F.out).2.2.rt;exact tT wr (R.nm Q a8.out.1).nsa (by omega)
   clear G0 HG y0 y1 y2;go_wp2_with fail;refine C7.mono ?_;rintro e2 w9 ⟨⟨d,J,rfl,v⟩,b4⟩;clear C7 t0 t3;have E : Hid (GE w.heap.size 0 w9 O H c1 (0 + k * X1) I):=a0.out.ge.below b4.out;have ab : Hid (Bw w w9):=a9.out.trans ((F.out.trans (b4.out.mono F.out.size)).mono a9.out.size);obtain ⟨ns,ar⟩:=xe (Q.1.ns);have dk : Hid (r = (I.map Prod.fst ++ kt a ns,q)):=by rw [ar];exact AC HR.out fn.out
   rw [<- ar] at v ce ao;rw [<- ar];have ho : w.heap.size <= wr.heap.size:=Nat.le_trans a9.out.size F.out.size;have kK:=b4.out.size;have h3 : Hid (k = ns.length):=by rw [ar];exact e7
   clear ar;obtain ⟨nn,ck⟩:=xe (ns.length);rw [<- ck] at v ao;rw [<- ck];have m : Hid (nn = ns.length):=ck;clear ck;by_cases e6 : a = 14
   ·subst e6
    obtain ⟨g8,dv⟩:=aW m.out v.out;have C8:=jW w9 dv.nsa (va:=d) (n:=nn) (c:=J) (Nat.le_of_eq m.out) (fun h=>(dv (by rintro rfl;have:=m.out;simp at this;omega)).1) (by omega) ⟨#[109,111,114,101]⟩;obtain ⟨bt,d3⟩:=xe (bC (ns.take nn) ⟨#[109,111,114,101]⟩);have eV : Hid (bt = bC ns ⟨#[109,111,114,101]⟩):=by rw [d3,m.out,List.take_length];exact rfl
    rw [<- d3] at C8;clear d3 dv;go_wp2_with fail;refine C8.mono ?_;rintro e2 wA ⟨rfl,hm⟩;subst hm;clear C8;cases bt
    ·have a6 : Hid (r = (I.map Prod.fst ++ [bI 1 0 e0 e0,⟨4,0,e0,e0,ns ++ [⟨#[109,111,114,101]⟩],[]⟩],q)):=by
      show _ = _;rw [dk.out];unfold kt;rw [if_pos ⟨rfl,eV.out.symm⟩]
     have b7:=E.out.own;have ah:=E.out.le
     have ht : Hid (∀ x,x ∈ I ++ [((⟨1,0,e0,e0,[],[]⟩ : EI),im)] -> (x.1.ns ≠ [] -> some x.2.np.b ≠ (Value.slice d nn J).ownBlock) /\ ∀ y,y ∈ x.2.zs -> y.1.ns ≠ [] -> some y.2.b ≠ (Value.slice d nn J).ownBlock):=fun x hx=>by
      rcases List.mem_append.1 hx with h | h
      ·refine ⟨fun hne e1=>?_,fun y hy hne e1=>?_⟩
       ·have h1:=(v.out.lt _ e1.symm).1
        obtain ⟨_,_,N,f,r,_,_⟩:=(a0.out.ge.ok x h).nm hne;have:=r.lt;omega
       ·have h1:=(v.out.lt _ e1.symm).1
        obtain ⟨_,_,N,f,r,_,_⟩:=(a0.out.ge.ok x h).ty.nm y hy hne;have:=r.lt;omega
      ·rw [ms1 h]
       exact ⟨fun h=>(h rfl).elim,fun y hy=>(List.not_mem_nil hy).elim⟩
     go_upto_region 27 with (first | (at_builtin;refine wpList_append_lies _ rfl _ _ 35 rfl w.heap.size 65 i0 _ 6 96 Tryz.underlying35 ch b0 b3 b1 rfl (by omega) (.slice O H c1) H (eisC I) rfl (b7.alloc _) ⟨wA.heap.size,0,none⟩ 1 1 [.int .i64 1,.int .i64 0,.string ⟨#[]⟩,.string ⟨#[]⟩,.slice none 0 0,.slice none 0 0] rfl rfl (World.news_of_block (cs:=#[.int .i64 1,.int .i64 0,.string ⟨#[]⟩,.string ⟨#[]⟩,.slice none 0 0,.slice none 0 0]) (t:=65) (fr:=(0,0)) (heap_alloc_new wA _)) (by simp [Value.oneCell']) (by omega) (by unfold maxLen;omega) (by omega) (by simp only [World.size_alloc];omega) (wA.heap.size + 1) (by simp) ?_;intro dn a3 wB bs a5 f3 fi));have ep : cE (⟨1,0,e0,e0,[],[]⟩ : EI) = e0.size + e0.size:=eG;have bx : e0.size = 0:=rfl;have ee : Hid (GE w.heap.size 0 wB (some ⟨dn,0,none⟩) (H + 1) a3 (k * X1 + 1) (I ++ [((⟨1,0,e0,e0,[],[]⟩ : EI),im)])):=E.out.push (x:=((⟨1,0,e0,e0,[],[]⟩ : EI),im)) (X':=k * X1 + 1) bs a5 (dj _) eI (by show 0 + k * X1 + 1 + cE (⟨1,0,e0,e0,[],[]⟩ : EI) <= _;omega);have fl : Hid (Bw w wB):=ae ab.out a5 (fun j e=>(b7.lt j e).1);have dl : Hid (wB.ownsRow wr.heap.size 9 1 (.slice d nn J) nn (ii ns)):=az v.out ((bG _ wA _).trans (bF (b7.alloc _) a5)) (by decide);have OB:=dl.out;have kn : wA.heap.size <= wB.heap.size:=by have:=a5.size;simp only [World.size_alloc] at this;omega
     clear bs a5 f3 fi b7 E ep bx;obtain ⟨i9,g4,hd,gt,hA⟩:=info_parts Tryz.info9;go_upto_region 28 with (first | (at_builtin;refine wpList_append_lies _ rfl _ _ 52 rfl wr.heap.size 9 i9 _ 1 16 Tryz.underlying52 g4 hd gt hA rfl (by omega) (.slice d nn J) nn (ii ns) rfl (OB.alloc _) ⟨wB.heap.size,0,none⟩ 1 1 [.string ⟨#[109,111,114,101]⟩] rfl rfl (World.news_of_block (cs:=#[.string ⟨#[109,111,114,101]⟩]) (t:=9) (fr:=(0,0)) (heap_alloc_new wB _)) (by simp [Value.oneCell']) (by omega) (by unfold maxLen;omega) (by omega) (by simp only [World.size_alloc];omega) (wB.heap.size + 1) (by simp) ?_;intro Z D wC be c7 el eR));have fv : Hid (wC.ownsRow wr.heap.size 9 1 (.slice (some ⟨Z,0,none⟩) (nn + 1) D) (nn + 1) (ii (ns ++ [⟨#[109,111,114,101]⟩]))):=by rw [jd];exact be
     have dd : Hid (GE w.heap.size 0 wC (some ⟨dn,0,none⟩) (H + 1) a3 (k * X1 + 1) (I ++ [((⟨1,0,e0,e0,[],[]⟩ : EI),im)])):=oy ee.out dl.out c7 ht.out;have cn : Hid (Bw w wC):=ae fl.out c7 (fun j e=>Nat.le_trans ho (dl.out.lt j e).1);clear be c7 el eR OB ee fl ab b4 v ah;have ab:=cn;have A:=dd.out.own;have ah:=dd.out.le;have k1 : w.heap.size <= wC.heap.size:=cn.out.size
     have a7 : Hid (∀ s,s ∈ ns ++ [⟨#[109,111,114,101]⟩] -> s.size <= 12):=fun s hs=>by
      rcases List.mem_append.1 hs with h | h
      ·exact ce.out s h
      ·rw [ms1 h];decide
     have b2 : Hid (nn + 1 = (ns ++ [(⟨#[109,111,114,101]⟩ : ByteArray)]).length):=by rw [lap,m.out];exact rfl
     go_wp2_with (first | (at_builtin;refine wpList_append_lies _ rfl _ _ 35 rfl w.heap.size 65 i0 _ 6 96 Tryz.underlying35 ch b0 b3 b1 rfl (by omega) (.slice (some ⟨dn,0,none⟩) (H + 1) a3) (H + 1) (eisC (I ++ [((⟨1,0,e0,e0,[],[]⟩ : EI),im)])) rfl (A.alloc _) ⟨wC.heap.size,0,none⟩ 1 1 [.int .i64 4,.int .i64 0,.string ⟨#[]⟩,.string ⟨#[]⟩,.slice (some ⟨Z,0,none⟩) (nn + 1) D,.slice none 0 0] rfl rfl (World.news_of_block (cs:=#[.int .i64 4,.int .i64 0,.string ⟨#[]⟩,.string ⟨#[]⟩,.slice (some ⟨Z,0,none⟩) (nn + 1) D,.slice none 0 0]) (t:=65) (fr:=(0,0)) (heap_alloc_new wC _)) (by simp [Value.oneCell']) (by omega) (by unfold maxLen;omega) (by omega) (by simp only [World.size_alloc];omega) (wC.heap.size + 1) (by simp) ?_;intro gg K wZ u L e4 ct));go_ret2;obtain ⟨g9,a1⟩:=aW (ns:=ns ++ [(⟨#[109,111,114,101]⟩ : ByteArray)]) b2.out fv.out;have bn:=df fv.out;have ew : kx (ns ++ [(⟨#[109,111,114,101]⟩ : ByteArray)]) <= 12 * (ns ++ [(⟨#[109,111,114,101]⟩ : ByteArray)]).length:=jv a7.out
     have e8 : cE (⟨4,0,e0,e0,ns ++ [(⟨#[109,111,114,101]⟩ : ByteArray)],[]⟩ : EI) <= 60:=by
      show e0.size + e0.size + cN (ns ++ [(⟨#[109,111,114,101]⟩ : ByteArray)]) + bQ [] <= 60;have bx : e0.size = 0:=rfl;have ez : bQ [] = 0:=rfl;have f0 : (ns ++ [(⟨#[109,111,114,101]⟩ : ByteArray)]).length = (nn + 1):=b2.out.symm;unfold cN;omega
     have PU:=dd.out.push (x:=((⟨4,0,e0,e0,ns ++ [(⟨#[109,111,114,101]⟩ : ByteArray)],[]⟩ : EI),(⟨⟨(some ⟨Z,0,none⟩),g9,D⟩,.slice none 0 0,[]⟩ : EPl))) (X':=X) (by rw [show cU ((⟨4,0,e0,e0,ns ++ [(⟨#[109,111,114,101]⟩ : ByteArray)],[]⟩ : EI),(⟨⟨(some ⟨Z,0,none⟩),g9,D⟩,.slice none 0 0,[]⟩ : EPl)) = [.int .i64 4,.int .i64 0,.string ⟨#[]⟩,.string ⟨#[]⟩,.slice (some ⟨Z,0,none⟩) (nn + 1) D,.slice none 0 0] by unfold cU;rw [show (ns ++ [(⟨#[109,111,114,101]⟩ : ByteArray)]).length = (nn + 1) from b2.out.symm];rfl];exact u) L ⟨a1.mono (Nat.zero_le _),⟨World.ownsRow_nil _ _ _ _,fun x hx=>by cases hx⟩,rfl⟩ ⟨by show (ns ++ [(⟨#[109,111,114,101]⟩ : ByteArray)]).length <= D;rw [show (ns ++ [(⟨#[109,111,114,101]⟩ : ByteArray)]).length = (nn + 1) from b2.out.symm];exact bn,fun y hy=>by cases hy⟩ (by show k * X1 + 1 + 1 + cE (⟨4,0,e0,e0,ns ++ [(⟨#[109,111,114,101]⟩ : ByteArray)],[]⟩ : EI) <= _;omega);refine ⟨⟨some ⟨gg,0,none⟩,(H + 1) + 1,K,q,rfl,by omega,by omega,_,PU,by rw [List.map_append,List.map_append,List.append_assoc];exact a6.out⟩,?_⟩;exact ae ab.out L (fun j e=>(A.lt j e).1)
    ·have a6 : Hid (r = (I.map Prod.fst ++ [⟨4,0,e0,e0,ns,[]⟩],q)):=by
      show _ = _;rw [dk.out];unfold kt;rw [if_neg (fun h=>by have h2:=eV.out;rw [h.2] at h2;cases h2)]
     have A:=E.out.own;have ah:=E.out.le;have a7 : Hid (∀ s,s ∈ ns -> s.size <= 12):=ce;go_wp2_with (first | (at_builtin;refine wpList_append_lies _ rfl _ _ 35 rfl w.heap.size 65 i0 _ 6 96 Tryz.underlying35 ch b0 b3 b1 rfl (by omega) (.slice O H c1) H (eisC I) rfl (A.alloc _) ⟨wA.heap.size,0,none⟩ 1 1 [.int .i64 4,.int .i64 0,.string ⟨#[]⟩,.string ⟨#[]⟩,.slice d nn J,.slice none 0 0] rfl rfl (World.news_of_block (cs:=#[.int .i64 4,.int .i64 0,.string ⟨#[]⟩,.string ⟨#[]⟩,.slice d nn J,.slice none 0 0]) (t:=65) (fr:=(0,0)) (heap_alloc_new wA _)) (by simp [Value.oneCell']) (by omega) (by unfold maxLen;omega) (by omega) (by simp only [World.size_alloc];omega) (wA.heap.size + 1) (by simp) ?_;intro gg K wZ u L e4 ct));go_ret2;obtain ⟨g9,a1⟩:=aW (ns:=ns) m.out v.out;have bn:=df v.out;have ew : kx (ns) <= 12 * (ns).length:=jv a7.out
     have e8 : cE (⟨4,0,e0,e0,ns,[]⟩ : EI) <= 60:=by
      show e0.size + e0.size + cN (ns) + bQ [] <= 60;have bx : e0.size = 0:=rfl;have ez : bQ [] = 0:=rfl;have f0 : (ns).length = nn:=m.out.symm;unfold cN;omega
     have PU:=E.out.push (x:=((⟨4,0,e0,e0,ns,[]⟩ : EI),(⟨⟨d,g9,J⟩,.slice none 0 0,[]⟩ : EPl))) (X':=X) (by rw [show cU ((⟨4,0,e0,e0,ns,[]⟩ : EI),(⟨⟨d,g9,J⟩,.slice none 0 0,[]⟩ : EPl)) = [.int .i64 4,.int .i64 0,.string ⟨#[]⟩,.string ⟨#[]⟩,.slice d nn J,.slice none 0 0] by unfold cU;rw [show (ns).length = nn from m.out.symm];rfl];exact u) L ⟨a1.mono (Nat.zero_le _),⟨World.ownsRow_nil _ _ _ _,fun x hx=>by cases hx⟩,rfl⟩ ⟨by show (ns).length <= J;rw [show (ns).length = nn from m.out.symm];exact bn,fun y hy=>by cases hy⟩ (by show 0 + k * X1 + 1 + cE (⟨4,0,e0,e0,ns,[]⟩ : EI) <= _;omega);refine ⟨⟨some ⟨gg,0,none⟩,H + 1,K,q,rfl,by omega,by omega,_,PU,by rw [List.map_append];exact a6.out⟩,?_⟩;exact ae ab.out L (fun j e=>(A.lt j e).1)
   ·have iE : ((a : Int) == 14) = false:=bn2 (by omega)
    have a6 : Hid (r = (I.map Prod.fst ++ [⟨4,0,e0,e0,ns,[]⟩],q)):=by
     show _ = _;rw [dk.out];unfold kt;rw [if_neg (fun h=>e6 h.1)]
    have A:=E.out.own;have ah:=E.out.le;have a7 : Hid (∀ s,s ∈ ns -> s.size <= 12):=ce;go_wp2_with (first | (at_builtin;refine wpList_append_lies _ rfl _ _ 35 rfl w.heap.size 65 i0 _ 6 96 Tryz.underlying35 ch b0 b3 b1 rfl (by omega) (.slice O H c1) H (eisC I) rfl (A.alloc _) ⟨w9.heap.size,0,none⟩ 1 1 [.int .i64 4,.int .i64 0,.string ⟨#[]⟩,.string ⟨#[]⟩,.slice d nn J,.slice none 0 0] rfl rfl (World.news_of_block (cs:=#[.int .i64 4,.int .i64 0,.string ⟨#[]⟩,.string ⟨#[]⟩,.slice d nn J,.slice none 0 0]) (t:=65) (fr:=(0,0)) (heap_alloc_new w9 _)) (by simp [Value.oneCell']) (by omega) (by unfold maxLen;omega) (by omega) (by simp only [World.size_alloc];omega) (w9.heap.size + 1) (by simp) ?_;intro gg K wZ u L e4 ct));go_ret2;obtain ⟨g9,a1⟩:=aW (ns:=ns) m.out v.out;have bn:=df v.out;have ew : kx (ns) <= 12 * (ns).length:=jv a7.out
    have e8 : cE (⟨4,0,e0,e0,ns,[]⟩ : EI) <= 60:=by
     show e0.size + e0.size + cN (ns) + bQ [] <= 60;have bx : e0.size = 0:=rfl;have ez : bQ [] = 0:=rfl;have f0 : (ns).length = nn:=m.out.symm;unfold cN;omega
    have PU:=E.out.push (x:=((⟨4,0,e0,e0,ns,[]⟩ : EI),(⟨⟨d,g9,J⟩,.slice none 0 0,[]⟩ : EPl))) (X':=X) (by rw [show cU ((⟨4,0,e0,e0,ns,[]⟩ : EI),(⟨⟨d,g9,J⟩,.slice none 0 0,[]⟩ : EPl)) = [.int .i64 4,.int .i64 0,.string ⟨#[]⟩,.string ⟨#[]⟩,.slice d nn J,.slice none 0 0] by unfold cU;rw [show (ns).length = nn from m.out.symm];rfl];exact u) L ⟨a1.mono (Nat.zero_le _),⟨World.ownsRow_nil _ _ _ _,fun x hx=>by cases hx⟩,rfl⟩ ⟨by show (ns).length <= J;rw [show (ns).length = nn from m.out.symm];exact bn,fun y hy=>by cases hy⟩ (by show 0 + k * X1 + 1 + cE (⟨4,0,e0,e0,ns,[]⟩ : EI) <= _;omega);refine ⟨⟨some ⟨gg,0,none⟩,H + 1,K,q,rfl,by omega,by omega,_,PU,by rw [List.map_append];exact a6.out⟩,?_⟩;exact ae ab.out L (fun j e=>(A.lt j e).1)
end Go.Proofs.YtihedobejcaapaaGreatDoor
