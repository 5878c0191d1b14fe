/-
  SpSA
-/
import Derived.Test.YtihedobejcaapaaGreatDoorF1
import Derived.BigQuiet
import Derived.Deep.DeepCutAuto
set_option maxHeartbeats 40000000
set_option maxRecDepth 100000
namespace Go.Proofs.YtihedobejcaapaaGreatDoor
open Go.RowKit
theorem wJ (w : World) {ca : Option Addr} {cb co Ln cc p : Nat} {C : Nat -> Nat} (hC : am w ca cb co Ln C) (hLn : Ln <= 1048576) (hp : p <= 900000) {ma : Option Addr} {mc : Nat} {xs : List (DC × DPl)} (hM : fV w (.slice ma xs.length mc) xs) {ds : List DC} (hds : xs.map Prod.fst = ds) (hkd : ∀ d,d ∈ ds -> 1 <= d.kind /\ d.kind <= 3) (hcost : eX ds <= 700000) (hA : 0 <= tk C Ln p 14 /\ tk C Ln p 14 < 3) :
  Calls Tryz.prog 21 #[.slice ca Ln cc,.int .i64 (p : Int),.agg #[.slice ma xs.length mc]] w fun e w'=>(∃ (va : Option Addr) (m c : Nat),e = .returned (.agg #[.slice va m c]) /\ Hid (∃ ys,DO w.heap.size w' va m c ys /\ ys.map Prod.fst = gK C Ln p ds)) /\ Hid (Bw w w'):=by
 obtain ⟨i0,he,ge,gN,gr⟩:=info_parts Tryz.infoDC;have j2:=hM.len;obtain ⟨l,ce⟩:=xe ((w.alloc (.cells #[.slice ma xs.length mc] 25)).alloc (.cells #[.slice none 0 0] 25));have cq : Hid (Bw w l):=by rw [ce];exact eM _ _ _
 have HM : Hid (∀ W,Bw w W -> am W ca cb co Ln C /\ fV W (.slice ma xs.length mc) xs):=fun W hb=>⟨hC.below hb,hM.below hb⟩;have C1:=aO ca cb co Ln cc p 14 C l (HM.out l cq.out).1 hLn (by omega) (by omega);have C2:=aO ca cb co Ln cc (p + 1) xs.length C l (HM.out l cq.out).1 hLn (by omega) (by omega);obtain ⟨a,ha⟩:=xe (tk C Ln p 14);rw [<- ha] at hA;have g : Hid (0 <= a /\ a < 3):=hA;have i5 : a < 14:=by omega
 clear hA;obtain ⟨U,ch⟩:=xe (tk C Ln (p + 1) xs.length);rw [<- ha] at C1;rw [<- ch] at C2;have HA : Hid (a = tk C Ln p 14 /\ U = tk C Ln (p + 1) xs.length):=⟨ha,ch⟩;have R0 : l.rowIs w.heap.size 25 1 (fun _=>.slice ma xs.length mc):=by rw [ce];exact (aK w _ _).alloc _
 have R1 : l.rowIs (w.heap.size + 1) 25 1 (fun _=>.slice none 0 0):=by
  rw [ce];have h:=aK (w.alloc (.cells #[.slice ma xs.length mc] 25)) (.slice none 0 0) 25;simp only [World.size_alloc] at h;exact h
 have de : Hid (l.rowIs w.heap.size 25 1 (fun _=>.slice ma xs.length mc) /\ l.rowIs (w.heap.size + 1) 25 1 (fun _=>.slice none 0 0)):=⟨R0,R1⟩;have x0 : l.cell? ⟨w.heap.size,0,none⟩ = some (.slice ma xs.length mc):=R0.cell (i:=0) (by omega);obtain ⟨W3,c7⟩:=xe (l.alloc (.cells #[] 37));have g0 : Hid (Bw l W3):=by rw [c7];exact bel1 _ _
 have gs : Hid (DO l.heap.size W3 (some ⟨l.heap.size,0,none⟩) 0 0 []):=by
  refine ⟨?_,rfl,(fun x hx=>by cases hx),(fun x hx=>by cases hx)⟩;rw [c7];exact World.ownsRow_lit l #[] 0 (nlr _) (by unfold maxLen;omega) (by rfl)
 have bp : Hid (xs.map Prod.fst = ds /\ (∀ d,d ∈ ds -> 1 <= d.kind /\ d.kind <= 3)):=⟨hds,hkd⟩;have hF:=hQx hcost;clear hC hM hds hkd hcost ha ch R0 R1;go_enter Tryz.func21,Tryz.ntmps21;go_wp2_with fail;rw [<- ce];clear ce;refine C1.mono ?_;rintro e w5 ⟨rfl,rfl⟩;clear C1;go_wp2_with fail;refine C2.mono ?_;rintro e w6 ⟨rfl,rfl⟩;clear C2;go_wp2_with fail;rw [<- c7];clear c7 x0
 go_loopw [1,10,11] (fun pp o i wr=>∃ (k q c1 : Nat) (va : Option Addr),k <= xs.length /\ i = .int .i64 k /\ pp = .int .i64 (q : Int) /\ q <= p + 4 /\ (k <= U -> q = p + 1 + 1) /\ o = .slice va k c1 /\ Hid (∃ ys,DO l.heap.size wr va k c1 ys /\ ys.map Prod.fst = (gK C Ln p ds).take k /\ Bw l wr)) (fun _ _ i _=>xs.length - (intOf i).toNat)
 case atStart=>exact ⟨0,p + 1 + 1,0,_,Nat.zero_le _,rfl,rfl,by omega,fun _=>rfl,rfl,_,gs.out,rfl,g0.out⟩
 case round=>
  clear gs g0;obtain ⟨k,q,c1,va,hk,rfl,rfl,f6,ef,rfl,HG⟩:=hrel;obtain ⟨ys,D,gM,c5⟩:=HG.out;have cm : Hid (Bw l wr):=c5;have a9 : Hid (Bw w wr):=cq.out.trans (c5.mono cq.out.size);have x0 : wr.cell? ⟨w.heap.size,0,none⟩ = some (.slice ma xs.length mc):=(de.out.1.of_block (c5.block _ de.out.1.lt)).cell (i:=0) (by omega);have I : Hid (DO l.heap.size wr va k c1 ys /\ ys.map Prod.fst = (gK C Ln p ds).take k):=⟨D,gM⟩;clear D gM c5 HG;by_cases fs : k < xs.length
  ·have lk : (k : Int) < (xs.length : Int):=by omega
   obtain ⟨mg,R,P,V,S,g9,y0,y1,y2,y3,f3,bn⟩:=(HM.out wr a9.out).2.item fs;obtain ⟨x,hx⟩:=xe (xs[k]);rw [<- hx] at y0 y1 y2 y3 f3 bn;have HX : Hid (x = xs[k] /\ jJ wr x.1 x.2):=⟨hx,f3⟩;obtain ⟨K,hK⟩:=xe (x.1.kind);obtain ⟨NM,ff⟩:=xe (x.1.nm);obtain ⟨L,ee⟩:=xe (x.1.ty.length);obtain ⟨en,d0⟩:=xe (x.1.ex.length);rw [<- hK] at y0;rw [<- ff] at y1;rw [<- ee] at y2;rw [<- d0] at y3
   have bb : Hid (K = x.1.kind /\ NM = x.1.nm /\ L = x.1.ty.length /\ en = x.1.ex.length /\ x.2.tv = .slice R L P /\ x.2.ev = .slice V en S):=by
    refine ⟨hK,ff,ee,d0,?_,?_⟩
    ·rw [ee]
     simp only [dV,Value.agg.injEq] at bn;have h2:=congrArg (fun a=>a[2]?) bn;simpa only [List.getElem?_toArray,List.getElem?_cons_succ,List.getElem?_cons_zero,Option.some.injEq] using h2
    ·rw [d0]
     simp only [dV,Value.agg.injEq] at bn;have h2:=congrArg (fun a=>a[3]?) bn;simpa only [List.getElem?_toArray,List.getElem?_cons_succ,List.getElem?_cons_zero,Option.some.injEq] using h2
   rw [g9] at x0 ⊢;clear hx f3 bn hK ff ee d0 g9;obtain ⟨M,an⟩:=xe (wr.alloc (.cells #[.int .i64 K,.string NM,.slice R L P,.slice V en S] 37));have cz : Hid (Bw wr M):=by rw [an];exact bel1 _ _
   have J : Hid (M.rowIs wr.heap.size 37 4 (v4 (.int .i64 K) (.string NM) (.slice R L P) (.slice V en S))):=by rw [an];exact fK wr _ _ _ _ _
   have dl : Hid (k + 1 <= maxLen /\ (k + 1) * 72 <= 140737488355328):=by
    refine ⟨?_,?_⟩
    ·unfold maxLen;omega
    ·omega
   have eg : Hid (k + 1 <= xs.length /\ xs.length - (k + 1) < xs.length - k):=(by omega : k + 1 <= xs.length /\ xs.length - (k + 1) < xs.length - k)
   have fl : Hid (k < ds.length /\ ∀ h : k < ds.length,ds[k] = x.1):=by
    have hl : ds.length = xs.length:=by rw [<- bp.out.1,List.length_map]
    refine ⟨by omega,fun h=>?_⟩;have e : ds[k]? = some x.1:=by rw [<- bp.out.1,List.getElem?_map,List.getElem?_eq_getElem fs,HX.out.1];rfl
    rw [List.getElem?_eq_getElem h] at e;exact Option.some.inj e
   have hO : Hid (ds.length = xs.length):=by show _ = _;rw [<- bp.out.1,List.length_map]
   have g8 : Hid (∀ y,(if k = U then pC C Ln a (p + 1 + 1) x.1 else x.1) = y -> (gK C Ln p ds)[k]? = some y):=fun y hy=>by
    rw [mM fl.out.1,fl.out.2 fl.out.1,hO.out,<- HA.out.1,<- HA.out.2,hy]
   by_cases a4 : k = U
   ·have eb : ((k : Int) == (U : Int)) = true:=beq_iff_eq.2 (by omega)
    have hT : q = p + 1 + 1:=ef (by omega);subst hT;have cn : Hid (∀ q',q' <= p + 4 -> q' <= p + 4 /\ (k + 1 <= U -> q' = p + 1 + 1)):=fun q' h=>⟨h,fun h2=>by omega⟩;have f5 : Hid (∀ y,pC C Ln a (p + 1 + 1) x.1 = y -> (gK C Ln p ds)[k]? = some y):=fun y hy=>g8.out y (by rw [if_pos a4];exact hy);clear ef f6 a4
    have hg : x.2.zs.length <= 700000 /\ x.2.es.length <= 700000:=by
     have h1 : cD x.1 <= eX ds:=jl (by rw [<- bp.out.1,HX.out.1];exact List.mem_map_of_mem (List.getElem_mem fs));have h2:=hF.out;have h3 : x.2.zs.length = x.1.ty.length:=by rw [<- HX.out.2.isT,List.length_map]
     have h4 : x.2.es.length = x.1.ex.length:=by rw [<- HX.out.2.isE,List.length_map]
     have h5 : x.1.ty.length <= cD x.1:=by unfold cD bQ;omega
     have h6 : x.1.ex.length <= cD x.1:=by unfold cD;have:=gR x.1.ex;omega
     omega
    have Y : Hid (da 0 wr x.1 x.2 /\ ms x.2):=⟨HX.out.2.rdok,HX.out.2.capP⟩;obtain ⟨W5,dk⟩:=xe (M.alloc (.cells #[] 80));have bL : Hid (Bw M W5):=by rw [dk];exact bel1 _ _
    have a2 : Hid (Bw wr W5):=cz.out.trans (bL.out.mono cz.out.size);have gT : M.heap.size = wr.heap.size + 1:=by rw [an];simp
    have hN:=hQx gT;have lE : M.heap.size <= W5.heap.size:=bL.out.size;have C3:=kW W5 (B:=0) (v1:=.slice R L P) (v2:=.slice (some ⟨M.heap.size,0,none⟩) 0 0) (xs:=x.2.zs) (ys:=[]) (by have h:=Y.out.1.ty.below a2.out;rw [bb.out.2.2.2.2.1] at h;exact h) (by rw [dk];exact kr M (Nat.zero_le _)) (by show x.2.zs.length + 0 <= 1000000;omega);rw [List.append_nil] at C3;have z2 : M.cell? ⟨wr.heap.size,2,none⟩ = some (.slice R L P):=J.out.cell (i:=2) (by omega);rw [gT] at C3;have c8 : Hid (∀ W,Bw M W -> W.cell? ⟨wr.heap.size,3,none⟩ = some (.slice V en S)):=fun W hb=>(J.out.of_block (hb.block _ J.out.lt)).cell (i:=3) (by omega);go_upto_region 10 with fail;rw [<- an];clear an y0 y1 y2 y3 x0;go_wp2_with fail;rw [<- dk];clear dk z2;refine C3.mono ?_;rintro e w6 ⟨⟨t1,n1,u1,rfl,hP,hc⟩,e8⟩;clear C3;subst hP;have Z : Hid (Bw M w6):=bL.out.trans (e8.out.mono bL.out.size);have T : Hid (Bw wr w6):=a2.out.trans (e8.out.mono a2.out.size);have z3:=c8.out w6 Z.out;obtain ⟨W7,dn⟩:=xe (w6.alloc (.cells #[] 65));have bs : Hid (Bw w6 W7):=by rw [dn];exact bel1 _ _
    have e3 : Hid (Bw wr W7):=T.out.trans (bs.out.mono T.out.size);have C4:=jg W7 (v1:=.slice V en S) (v2:=.slice (some ⟨w6.heap.size,0,none⟩) 0 0) (xs:=x.2.es) (ys:=[]) (by have h:=Y.out.1.ex.below e3.out;rw [bb.out.2.2.2.2.2] at h;exact h) (by rw [dn];exact ⟨aq (World.ownsRow_lit w6 #[] 0 (nlr _) (by unfold maxLen;omega) (by rfl)) (Nat.zero_le _),fun x hx=>by cases hx⟩) (by show x.2.es.length + 0 <= 1000000;omega);rw [List.append_nil] at C4;go_wp2_with fail;rw [<- dn];clear dn z3;refine C4.mono ?_;rintro e w8 ⟨⟨e1,n2,f1,rfl,hV,gk⟩,g6⟩;clear C4;subst hV;have a3 : Hid (Bw w6 w8):=bs.out.trans (g6.out.mono bs.out.size);have ez : Hid (Bw M w8):=Z.out.trans (a3.out.mono Z.out.size);have cp : Hid (Bw wr w8):=T.out.trans (a3.out.mono T.out.size);obtain ⟨N,a1⟩:=xe (x.2.zs);obtain ⟨Q,ao⟩:=xe (x.2.es);have id : Hid (N.map Prod.fst = x.1.ty /\ Q.map Prod.fst = x.1.ex):=by rw [a1,ao];exact ⟨Y.out.1.isT,Y.out.1.isE⟩
    have dd : Hid (Bk wr Q):=fun W hb y hy=>by rw [ao] at hy;exact (Y.out.1.below hb).ex.ok y hy
    have hQ : Hid (∀ W,Bw wr W -> ∀ y,y ∈ N -> aD 0 W y.1.ns y.2):=fun W hb y hy=>by rw [a1] at hy;exact (Y.out.1.below hb).ty.nm y hy
    have n : Hid (St wr w8 K NM (.slice R L P) (.slice V en S) t1 u1 N e1 f1 Q):=by
     have k6:=hN.out;have k0:=Z.out.size;have li:=bs.out.size;refine ⟨cp.out,J.out.of_block (ez.out.block _ J.out.lt),?_,?_,hQ.out w8 cp.out,dd.out w8 cp.out,?_,?_⟩
     ·rw [a1];exact aq (az hc.out (ax a3.out) (by decide)) (by omega)
     ·rw [ao];exact aq gk.out.1 (by omega)
     ·rw [a1];exact Y.out.2.t
     ·rw [ao];exact Y.out.2.e
    rw [<- a1,<- ao];have j1 : N.length <= 700000 /\ Q.length <= 700000:=by rw [a1,ao];exact hg
    clear a1 ao hg hc gk a3 ez Z T e3 a2 bL e8 bs g6;have be : Hid (N.map Prod.fst = x.1.ty /\ Q.map Prod.fst = x.1.ex):=id;have b3 : ((a : Int) == 3) = false:=bn2 (by have:=g.out;omega);have b4 : ((a : Int) == 4) = false:=bn2 (by have:=g.out;omega);have b5 : ((a : Int) == 5) = false:=bn2 (by have:=g.out;omega);have b6 : ((a : Int) == 6) = false:=bn2 (by have:=g.out;omega);have b7 : ((a : Int) == 7) = false:=bn2 (by have:=g.out;omega);have b8 : ((a : Int) == 8) = false:=bn2 (by have:=g.out;omega);have b9 : ((a : Int) == 9) = false:=bn2 (by have:=g.out;omega);have ln : ((a : Int) == 10) = false:=bn2 (by have:=g.out;omega);have k4 : ((a : Int) == 11) = false:=bn2 (by have:=g.out;omega);have k5 : ((a : Int) == 12) = false:=bn2 (by have:=g.out;omega);have lm : ((a : Int) == 13) = false:=bn2 (by have:=g.out;omega);have hY:=g.out;have gc : a = 0 \/ a = 1 \/ a = 2:=by omega
    clear hY;rcases gc with h0 | h0 | h0
    case' inl=>
     have b0 : ((a : Int) == 0) = true:=beq_iff_eq.2 (by omega);have b1 : ((a : Int) == 1) = false:=bn2 (by omega);have b2 : ((a : Int) == 2) = false:=bn2 (by omega);have d5 : w8.cell? ⟨wr.heap.size,0,none⟩ = some (.int .i64 K):=n.out.row.cell (i:=0) (by omega);have g5 : w8.frozen? ⟨wr.heap.size,0,none⟩ = false:=n.out.row.frozen 0;have A : Hid (a = 0):=h0;clear h0;go_upto_if 84 with fail;obtain ⟨w9,u⟩:=xe (w8.setCell ⟨wr.heap.size,0,none⟩ (.int .i64 0));rw [<- u];obtain ⟨G,F⟩ : ∃ G : Int,G = 0:=⟨_,rfl⟩;obtain ⟨H,v⟩:=xe (NM);have O : Hid (St wr w9 G H (.slice R L P) (.slice V en S) t1 u1 N e1 f1 Q):=by rw [u,F,v];exact n.out.putK _
     have c9 : Hid (xh a x.1.kind = G /\ tH a x.1.nm = H):=by rw [F,v,A.out,bb.out.2.1];exact ⟨rfl,rfl⟩
     clear u d5 g5 v F;have ab : Hid (N.map Prod.fst = k8 a x.1.ty):=by rw [be.out.1,A.out];exact rfl
     have gd : N.length <= 700001:=by omega
     have a5 : Hid (Q.map Prod.fst = lf a x.1.ex):=by rw [be.out.2,A.out];exact rfl
     have eO:=dd;have gv : Q.length <= 700001:=by omega
     obtain ⟨t2,rfl⟩:=xe (t1);obtain ⟨u2,rfl⟩:=xe (u1);obtain ⟨b,rfl⟩:=xe (N);obtain ⟨e2,rfl⟩:=xe (e1);obtain ⟨f2,rfl⟩:=xe (f1);obtain ⟨f,rfl⟩:=xe (Q)
    case' inr.inl=>
     have b0 : ((a : Int) == 0) = false:=bn2 (by omega);have b1 : ((a : Int) == 1) = true:=beq_iff_eq.2 (by omega);have b2 : ((a : Int) == 2) = false:=bn2 (by omega);have d5 : w8.cell? ⟨wr.heap.size,0,none⟩ = some (.int .i64 K):=n.out.row.cell (i:=0) (by omega);have g5 : w8.frozen? ⟨wr.heap.size,0,none⟩ = false:=n.out.row.frozen 0;have A : Hid (a = 1):=h0;clear h0;go_upto_if 84 with fail;obtain ⟨w9,u⟩:=xe (w8.setCell ⟨wr.heap.size,0,none⟩ (.int .i64 4));rw [<- u];obtain ⟨G,F⟩ : ∃ G : Int,G = 4:=⟨_,rfl⟩;obtain ⟨H,v⟩:=xe (NM);have O : Hid (St wr w9 G H (.slice R L P) (.slice V en S) t1 u1 N e1 f1 Q):=by rw [u,F,v];exact n.out.putK _
     have c9 : Hid (xh a x.1.kind = G /\ tH a x.1.nm = H):=by rw [F,v,A.out,bb.out.2.1];exact ⟨rfl,rfl⟩
     clear u d5 g5 v F;have ab : Hid (N.map Prod.fst = k8 a x.1.ty):=by rw [be.out.1,A.out];exact rfl
     have gd : N.length <= 700001:=by omega
     have a5 : Hid (Q.map Prod.fst = lf a x.1.ex):=by rw [be.out.2,A.out];exact rfl
     have eO:=dd;have gv : Q.length <= 700001:=by omega
     obtain ⟨t2,rfl⟩:=xe (t1);obtain ⟨u2,rfl⟩:=xe (u1);obtain ⟨b,rfl⟩:=xe (N);obtain ⟨e2,rfl⟩:=xe (e1);obtain ⟨f2,rfl⟩:=xe (f1);obtain ⟨f,rfl⟩:=xe (Q)
    case' inr.inr=>
     have b0 : ((a : Int) == 0) = false:=bn2 (by omega);have b1 : ((a : Int) == 1) = false:=bn2 (by omega);have b2 : ((a : Int) == 2) = true:=beq_iff_eq.2 (by omega);have d5 : w8.cell? ⟨wr.heap.size,1,none⟩ = some (.string NM):=n.out.row.cell (i:=1) (by omega);have g5 : w8.frozen? ⟨wr.heap.size,1,none⟩ = false:=n.out.row.frozen 1;have A : Hid (a = 2):=h0;clear h0;go_upto_if 84 with fail;obtain ⟨w9,u⟩:=xe (w8.setCell ⟨wr.heap.size,1,none⟩ (.string ⟨#[118,97,108]⟩));rw [<- u];obtain ⟨H,v⟩ : ∃ H : ByteArray,H = ⟨#[118,97,108]⟩:=⟨_,rfl⟩;obtain ⟨G,F⟩:=xe (K);have O : Hid (St wr w9 G H (.slice R L P) (.slice V en S) t1 u1 N e1 f1 Q):=by rw [u,F,v];exact n.out.putN _
     have c9 : Hid (xh a x.1.kind = G /\ tH a x.1.nm = H):=by rw [F,v,A.out,bb.out.1];exact ⟨rfl,rfl⟩
     clear u d5 g5 v F;have ab : Hid (N.map Prod.fst = k8 a x.1.ty):=by rw [be.out.1,A.out];exact rfl
     have gd : N.length <= 700001:=by omega
     have a5 : Hid (Q.map Prod.fst = lf a x.1.ex):=by rw [be.out.2,A.out];exact rfl
     have eO:=dd;have gv : Q.length <= 700001:=by omega
     obtain ⟨t2,rfl⟩:=xe (t1);obtain ⟨u2,rfl⟩:=xe (u1);obtain ⟨b,rfl⟩:=xe (N);obtain ⟨e2,rfl⟩:=xe (e1);obtain ⟨f2,rfl⟩:=xe (f1);obtain ⟨f,rfl⟩:=xe (Q)
    all_goals as_aux_lemma=>
     have lx : b.length <= 700001:=by omega
     have lP : f.length <= 700001:=by omega
     have gg : Hid (Bw w w9):=a9.out.trans (O.out.bel.mono a9.out.size);have C5:=aO ca cb co Ln cc (p + 1 + 1) b.length C w9 (HM.out w9 gg.out).1 hLn (by omega) (by omega);obtain ⟨kT,dt⟩:=xe (tk C Ln (p + 1 + 1) b.length);have hu : Hid (kT = tk C Ln (p + 1 + 1) b.length /\ (0 < b.length -> kT < b.length)):=⟨dt,fun h=>by rw [dt];exact cd h⟩;rw [<- dt] at C5;clear dt
     have go : Hid ((b.length = 0 -> jX a (p + 1 + 1) x.1.ty = p + 1 + 1) /\ (¬ b.length = 0 -> jX a (p + 1 + 1) x.1.ty = p + 1 + 1 + 1)):=by
      have e : (k8 a x.1.ty).length = b.length:=by rw [<- ab.out,List.length_map]
      unfold jX;rw [e];exact ⟨fun h=>if_pos h,fun h=>if_neg h⟩
     go_cut [1] (fun pp wc=>∃ q2 : Nat,pp = .int .i64 (q2 : Int) /\ q2 <= p + 3 /\ Hid (q2 = jX a (p + 1 + 1) x.1.ty /\ ∃ r,r.length = b.length /\ r.map Prod.fst = setF (b.map Prod.fst) kT (lu a) /\ St wr wc G H (.slice R L P) (.slice V en S) t2 u2 r e2 f2 f))
     case first=>
      by_cases hz : b.length = 0
      ·have l0 : ¬ (0 : Int) < (b.length : Int):=by omega
       have E0 : Hid (p + 1 + 1 = jX a (p + 1 + 1) x.1.ty):=(go.out.1 hz).symm;have E1 : Hid (b.map Prod.fst = setF (b.map Prod.fst) kT (lu a)):=(fp (by rw [List.length_map];exact hz) _ _).symm;clear hz C5;go_wp2;go_meet;exact ⟨p + 1 + 1,rfl,by omega,E0.out,b,rfl,E1.out,O.out⟩
      have l0 : (0 : Int) < (b.length : Int):=by omega
      have E0 : Hid (p + 1 + 1 + 1 = jX a (p + 1 + 1) x.1.ty):=(go.out.2 hz).symm;have E1 : Hid (b.map Prod.fst = setF (b.map Prod.fst) kT (lu a)):=(hG _ _ (fun y=>by unfold lu;rw [if_neg (by have:=g.out;omega),if_neg (by have:=g.out;omega),if_neg (by have:=g.out;omega)])).symm;clear hz;go_wp2_with fail;refine C5.mono ?_;rintro e wX ⟨rfl,rfl⟩;go_wp2;go_meet;exact ⟨p + 1 + 1 + 1,rfl,by omega,E0.out,b,rfl,E1.out,O.out⟩
     case rest=>
      rename World=>eq;obtain ⟨q2,rfl,la,bo⟩:=hcut;obtain ⟨eQ,r,et,eT,ck⟩:=bo.out;have cM : Hid (St wr eq G H (.slice R L P) (.slice V en S) t2 u2 r e2 f2 f):=ck;have c8 : Hid (r.map Prod.fst = setF (b.map Prod.fst) kT (lu a) /\ q2 = jX a (p + 1 + 1) x.1.ty):=⟨eT,eQ⟩;have hR : Hid (r.length = b.length):=et;clear ck eT eQ bo et;have fx : Hid (Bw w eq):=a9.out.trans (cM.out.bel.mono a9.out.size);have C6:=aO ca cb co Ln cc q2 f.length C eq (HM.out eq fx.out).1 hLn (by omega) (by omega);obtain ⟨kE,ep⟩:=xe (tk C Ln q2 f.length);have hS : Hid (kE = tk C Ln q2 f.length /\ (0 < f.length -> kE < f.length)):=⟨ep,fun h=>by rw [ep];exact cd h⟩;rw [<- ep] at C6;clear ep;go_upto_if 127 with fail
      go_cut [1] (fun pp wc=>∃ q3 : Nat,pp = .int .i64 (q3 : Int) /\ q3 <= p + 4 /\ Hid (∃ s,s.length = f.length /\ s.map Prod.fst = setF (f.map Prod.fst) kE (jZ a) /\ St wr wc G H (.slice R L P) (.slice V en S) t2 u2 r e2 f2 s))
      case first=>
       by_cases hz : f.length = 0
       ·have l0 : ¬ (0 : Int) < (f.length : Int):=by omega
        have E1 : Hid (f.map Prod.fst = setF (f.map Prod.fst) kE (jZ a)):=(fp (by rw [List.length_map];exact hz) _ _).symm;clear hz C6;go_wp2;go_meet;exact ⟨q2,rfl,by omega,f,rfl,E1.out,cM.out⟩
       have l0 : (0 : Int) < (f.length : Int):=by omega
       have E1 : Hid (f.map Prod.fst = setF (f.map Prod.fst) kE (jZ a)):=(hG _ _ (fun y=>by unfold jZ;rw [if_neg (by have:=g.out;omega),if_neg (by have:=g.out;omega),if_neg (by have:=g.out;omega),if_neg (by have:=g.out;omega),if_neg (by have:=g.out;omega)])).symm;clear hz;go_wp2_with fail;refine C6.mono ?_;rintro e wX ⟨rfl,rfl⟩;go_wp2;go_meet;exact ⟨q2 + 1,rfl,by omega,f,rfl,E1.out,cM.out⟩
      case rest=>
       rename World=>a8;obtain ⟨q3,rfl,g1,bo⟩:=hcut;obtain ⟨s,ew,e4,ck⟩:=bo.out;have X : Hid (St wr a8 G H (.slice R L P) (.slice V en S) t2 u2 r e2 f2 s):=ck;have iT : Hid (s.map Prod.fst = setF (f.map Prod.fst) kE (jZ a)):=e4;have hw : Hid (s.length = f.length):=ew;clear ck e4 bo ew
       have hi : Hid (pC C Ln a (p + 1 + 1) x.1 = ⟨G,H,r.map Prod.fst,s.map Prod.fst⟩):=by
        have l1 : (k8 a x.1.ty).length = b.length:=by rw [<- ab.out,List.length_map]
        have l2 : (lf a x.1.ex).length = f.length:=by rw [<- a5.out,List.length_map]
        show _ = _;unfold pC;rw [l1,l2,<- hu.out.1,<- c8.out.2,<- hS.out.1,<- ab.out,<- a5.out,<- c8.out.1,<- iT.out,c9.out.1,c9.out.2]
       have d2 : a8.cell? ⟨wr.heap.size,2,none⟩ = some (.slice R L P):=X.out.row.cell (i:=2) (by omega);have g2 : a8.frozen? ⟨wr.heap.size,2,none⟩ = false:=X.out.row.frozen 2;have d3 : a8.cell? ⟨wr.heap.size,3,none⟩ = some (.slice V en S):=X.out.row.cell (i:=3) (by omega);have g3 : a8.frozen? ⟨wr.heap.size,3,none⟩ = false:=X.out.row.frozen 3;go_upto_region 46 with fail;obtain ⟨E,ct⟩:=xe ((a8.setCell ⟨wr.heap.size,2,none⟩ (.slice t2 b.length u2)).setCell ⟨wr.heap.size,3,none⟩ (.slice e2 f.length f2));rw [<- ct];have z : Hid (St wr E G H (.slice t2 b.length u2) (.slice e2 f.length f2) t2 u2 r e2 f2 s):=by rw [ct];exact (X.out.putT _).putE _
       clear ct d2 d3 g2 g3;have cx : Hid (DO l.heap.size E va k c1 ys):=I.out.1.below z.out.bel;have c0:=cx.out.own;have bx : Hid (Bw l E):=cm.out.trans (z.out.bel.mono cm.out.size);have fz : Hid (l.heap.size <= E.heap.size):=bx.out.size;have z0 : E.cell? ⟨wr.heap.size,0,none⟩ = some (.int .i64 G):=z.out.row.cell (i:=0) (by omega);have z1 : E.cell? ⟨wr.heap.size,1,none⟩ = some (.string H):=z.out.row.cell (i:=1) (by omega);have z2 : E.cell? ⟨wr.heap.size,2,none⟩ = some (.slice t2 b.length u2):=z.out.row.cell (i:=2) (by omega);have z3 : E.cell? ⟨wr.heap.size,3,none⟩ = some (.slice e2 f.length f2):=z.out.row.cell (i:=3) (by omega);go_wp2_with (first | (at_builtin;refine wpList_append_lies _ rfl _ _ 23 rfl l.heap.size 37 i0 _ 4 72 Tryz.underlying23 he ge gN gr rfl (by decide) (.slice va k c1) k (bj ys) rfl (c0.alloc _) ⟨E.heap.size,0,none⟩ 1 1 [.int .i64 G,.string H,(.slice t2 b.length u2),(.slice e2 f.length f2)] rfl rfl (World.news_of_block (cs:=#[.int .i64 G,.string H,(.slice t2 b.length u2),(.slice e2 f.length f2)]) (t:=37) (fr:=(0,0)) (heap_alloc_new E _)) (by simp [Value.oneCell']) (by decide) dl.out.1 dl.out.2 (by simp only [World.size_alloc];exact Nat.le_succ_of_le fz.out) (E.heap.size + 1) (by simp) ?_;intro gD fm w7 a0 bv hf g4));have e9:=z.out.rdok;rw [hR.out,hw.out] at e9;have fo:=cx.out.push (x:=((⟨G,H,r.map Prod.fst,s.map Prod.fst⟩ : DC),(⟨.slice t2 b.length u2,r,.slice e2 f.length f2,s⟩ : DPl))) a0 bv e9.1 e9.2;have f4 : Bw l w7:=ae bx.out bv (fun j e=>(c0.lt j e).1);refine ⟨⟨k + 1,q3,fm,some ⟨gD,0,none⟩,eg.out.1,by go_num,rfl,(cn.out q3 g1).1,(cn.out q3 g1).2,rfl,_,fo,?_,f4⟩,by have:=eg.out.2;simp [intOf];exact this⟩;rw [List.map_append,I.out.2];exact (gS (f5.out _ hi.out)).symm
   ·have eb : ((k : Int) == (U : Int)) = false:=bn2 (by omega)
    have cx : Hid (DO l.heap.size M va k c1 ys):=I.out.1.below cz.out;have c0:=cx.out.own;have bx : Hid (Bw l M):=cm.out.trans (cz.out.mono cm.out.size);have fz : Hid (l.heap.size <= M.heap.size):=bx.out.size;have z0:=J.out.cell (i:=0) (by omega);have z1:=J.out.cell (i:=1) (by omega);have z2:=J.out.cell (i:=2) (by omega);have z3:=J.out.cell (i:=3) (by omega);have cn : Hid (q <= p + 4 /\ (k + 1 <= U -> q = p + 1 + 1)):=⟨f6,fun h=>ef (by omega)⟩;have f5 : Hid ((gK C Ln p ds)[k]? = some x.1):=g8.out x.1 (if_neg a4);clear ef f6 a4;go_upto_region 46 with fail;rw [<- an];clear an y0 y1 y2 y3 x0;go_wp2_with (first | (at_builtin;refine wpList_append_lies _ rfl _ _ 23 rfl l.heap.size 37 i0 _ 4 72 Tryz.underlying23 he ge gN gr rfl (by decide) (.slice va k c1) k (bj ys) rfl (c0.alloc _) ⟨M.heap.size,0,none⟩ 1 1 [.int .i64 K,.string NM,(.slice R L P),(.slice V en S)] rfl rfl (World.news_of_block (cs:=#[.int .i64 K,.string NM,(.slice R L P),(.slice V en S)]) (t:=37) (fr:=(0,0)) (heap_alloc_new M _)) (by simp [Value.oneCell']) (by decide) dl.out.1 dl.out.2 (by simp only [World.size_alloc];exact Nat.le_succ_of_le fz.out) (M.heap.size + 1) (by simp) ?_;intro gD fm w7 a0 bv hf g4))
    have hX : Hid (fU x = [.int .i64 K,.string NM,.slice R L P,.slice V en S]):=by
     obtain ⟨e1,e2,_,_,e5,e6⟩:=bb.out;show _ = _;unfold fU;rw [e1,e2,e5,e6]
    have fo:=cx.out.push (x:=x) (by rw [hX.out];exact a0) bv (HX.out.2.rdok.below cz.out) HX.out.2.capP;have f4 : Bw l w7:=ae bx.out bv (fun j e=>(c0.lt j e).1);refine ⟨⟨k + 1,q,fm,some ⟨gD,0,none⟩,eg.out.1,by go_num,rfl,cn.out.1,cn.out.2,rfl,_,fo,?_,f4⟩,by have:=eg.out.2;simp [intOf];exact this⟩;rw [List.map_append,I.out.2];exact (gS f5.out).symm
  ·have lk : ¬ (k : Int) < (xs.length : Int):=by omega
   have iv : k = xs.length:=by omega
   subst iv
   have hv : Hid (ys.map Prod.fst = gK C Ln p ds):=by
    show _ = _;rw [I.out.2,List.take_of_length_le];unfold gK;rw [fb,<- bp.out.1,List.length_map];exact nlr _
   have RR:=de.out.2.of_block (cm.out.block _ de.out.2.lt);have r0:=RR.cell (i:=0) (by omega);have ly:=RR.frozen 0;have gm : Hid (wr.rowIs (w.heap.size + 1) 25 1 (fun _=>.slice none 0 0)):=RR;clear RR;go_wp2;refine bodyPost_ret (kX gm.out _ _ rfl) rfl ?_;have hk:=kL (i:=0) gm.out (.slice va xs.length c1);refine ⟨⟨va,xs.length,c1,rfl,ys,⟨aq (az I.out.1.own hk (by decide)) cq.out.size,I.out.1.len,fun y hy=>(I.out.1.ok y hy).kp hk (by decide) (by decide) (by decide),I.out.1.cap⟩,hv.out⟩,a9.out.setCell (p:=⟨w.heap.size + 1,0,none⟩) (Nat.le_succ _) _⟩
end Go.Proofs.YtihedobejcaapaaGreatDoor
