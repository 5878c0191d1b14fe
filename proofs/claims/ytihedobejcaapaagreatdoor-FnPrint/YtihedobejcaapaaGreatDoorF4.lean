/-
  SpSB
-/
import Derived.Test.YtihedobejcaapaaGreatDoorF1
import Derived.BigQuiet
import Derived.Deep.DeepCutAuto
set_option maxHeartbeats 40000000
set_option maxRecDepth 100000
namespace Go.Proofs.YtihedobejcaapaaGreatDoor
open Go.RowKit
theorem uX (w : World) {ca : Option Addr} {cb co Ln cc p : Nat} {C : Nat -> Nat} (hC : am w ca cb co Ln C) (hLn : Ln <= 1048576) (hp : p <= 900000) {ma : Option Addr} {mc : Nat} {xs : List (DC × DPl)} (hM : fV w (.slice ma xs.length mc) xs) {ds : List DC} (hds : xs.map Prod.fst = ds) (hkd : ∀ d,d ∈ ds -> 1 <= d.kind /\ d.kind <= 3) (hcost : eX ds <= 700000) (hA : 3 <= tk C Ln p 14 /\ tk C Ln p 14 < 6) :
  Calls Tryz.prog 21 #[.slice ca Ln cc,.int .i64 (p : Int),.agg #[.slice ma xs.length mc]] w fun e w'=>(∃ (va : Option Addr) (m c : Nat),e = .returned (.agg #[.slice va m c]) /\ Hid (∃ ys,DO w.heap.size w' va m c ys /\ ys.map Prod.fst = gK C Ln p ds)) /\ Hid (Bw w w'):=by
 obtain ⟨i0,hw,g1,hj,hd⟩:=info_parts Tryz.infoDC;have lE:=hM.len;obtain ⟨l,cx⟩:=xe ((w.alloc (.cells #[.slice ma xs.length mc] 25)).alloc (.cells #[.slice none 0 0] 25));have c5 : Hid (Bw w l):=by rw [cx];exact eM _ _ _
 have HM : Hid (∀ W,Bw w W -> am W ca cb co Ln C /\ fV W (.slice ma xs.length mc) xs):=fun W hb=>⟨hC.below hb,hM.below hb⟩;have C1:=aO ca cb co Ln cc p 14 C l (HM.out l c5.out).1 hLn (by omega) (by omega);have C2:=aO ca cb co Ln cc (p + 1) xs.length C l (HM.out l c5.out).1 hLn (by omega) (by omega);obtain ⟨a,ha⟩:=xe (tk C Ln p 14);rw [<- ha] at hA;have g : Hid (3 <= a /\ a < 6):=hA;have lx : a < 14:=by omega
 clear hA;obtain ⟨X,cz⟩:=xe (tk C Ln (p + 1) xs.length);rw [<- ha] at C1;rw [<- cz] at C2;have HA : Hid (a = tk C Ln p 14 /\ X = tk C Ln (p + 1) xs.length):=⟨ha,cz⟩;have R0 : l.rowIs w.heap.size 25 1 (fun _=>.slice ma xs.length mc):=by rw [cx];exact (aK w _ _).alloc _
 have R1 : l.rowIs (w.heap.size + 1) 25 1 (fun _=>.slice none 0 0):=by
  rw [cx];have h:=aK (w.alloc (.cells #[.slice ma xs.length mc] 25)) (.slice none 0 0) 25;simp only [World.size_alloc] at h;exact h
 have eg : Hid (l.rowIs w.heap.size 25 1 (fun _=>.slice ma xs.length mc) /\ l.rowIs (w.heap.size + 1) 25 1 (fun _=>.slice none 0 0)):=⟨R0,R1⟩;have x0 : l.cell? ⟨w.heap.size,0,none⟩ = some (.slice ma xs.length mc):=R0.cell (i:=0) (by omega);obtain ⟨W3,d1⟩:=xe (l.alloc (.cells #[] 37));have hn : Hid (Bw l W3):=by rw [d1];exact bel1 _ _
 have he : Hid (DO l.heap.size W3 (some ⟨l.heap.size,0,none⟩) 0 0 []):=by
  refine ⟨?_,rfl,(fun x hx=>by cases hx),(fun x hx=>by cases hx)⟩;rw [d1];exact World.ownsRow_lit l #[] 0 (nlr _) (by unfold maxLen;omega) (by rfl)
 have ar : Hid (xs.map Prod.fst = ds /\ (∀ d,d ∈ ds -> 1 <= d.kind /\ d.kind <= 3)):=⟨hds,hkd⟩;have h8:=hQx hcost;clear hC hM hds hkd hcost ha cz R0 R1;go_enter Tryz.func21,Tryz.ntmps21;go_wp2_with fail;rw [<- cx];clear cx;refine C1.mono ?_;rintro e w5 ⟨rfl,rfl⟩;clear C1;go_wp2_with fail;refine C2.mono ?_;rintro e w6 ⟨rfl,rfl⟩;clear C2;go_wp2_with fail;rw [<- d1];clear d1 x0
 go_loopw [1,10,11] (fun pp o i wr=>∃ (k q c1 : Nat) (va : Option Addr),k <= xs.length /\ i = .int .i64 k /\ pp = .int .i64 (q : Int) /\ q <= p + 4 /\ (k <= X -> q = p + 1 + 1) /\ o = .slice va k c1 /\ Hid (∃ ys,DO l.heap.size wr va k c1 ys /\ ys.map Prod.fst = (gK C Ln p ds).take k /\ Bw l wr)) (fun _ _ i _=>xs.length - (intOf i).toNat)
 case atStart=>exact ⟨0,p + 1 + 1,0,_,Nat.zero_le _,rfl,rfl,by omega,fun _=>rfl,rfl,_,he.out,rfl,hn.out⟩
 case round=>
  clear he hn;obtain ⟨k,q,c1,va,hk,rfl,rfl,gm,e3,rfl,HG⟩:=hrel;obtain ⟨ys,D,hi,d0⟩:=HG.out;have cM : Hid (Bw l wr):=d0;have bp : Hid (Bw w wr):=c5.out.trans (d0.mono c5.out.size);have x0 : wr.cell? ⟨w.heap.size,0,none⟩ = some (.slice ma xs.length mc):=(eg.out.1.of_block (d0.block _ eg.out.1.lt)).cell (i:=0) (by omega);have J : Hid (DO l.heap.size wr va k c1 ys /\ ys.map Prod.fst = (gK C Ln p ds).take k):=⟨D,hi⟩;clear D hi d0 HG;by_cases ew : k < xs.length
  ·have lk : (k : Int) < (xs.length : Int):=by omega
   obtain ⟨mg,T,R,Y,U,ht,y0,y1,y2,y3,ge,bx⟩:=(HM.out wr bp.out).2.item ew;obtain ⟨x,hx⟩:=xe (xs[k]);rw [<- hx] at y0 y1 y2 y3 ge bx;have HX : Hid (x = xs[k] /\ jJ wr x.1 x.2):=⟨hx,ge⟩;obtain ⟨K,hK⟩:=xe (x.1.kind);obtain ⟨NM,f4⟩:=xe (x.1.nm);obtain ⟨P,eV⟩:=xe (x.1.ty.length);obtain ⟨en,eT⟩:=xe (x.1.ex.length);rw [<- hK] at y0;rw [<- f4] at y1;rw [<- eV] at y2;rw [<- eT] at y3
   have I : Hid (K = x.1.kind /\ NM = x.1.nm /\ P = x.1.ty.length /\ en = x.1.ex.length /\ x.2.tv = .slice T P R /\ x.2.ev = .slice Y en U):=by
    refine ⟨hK,f4,eV,eT,?_,?_⟩
    ·rw [eV]
     simp only [dV,Value.agg.injEq] at bx;have h2:=congrArg (fun a=>a[2]?) bx;simpa only [List.getElem?_toArray,List.getElem?_cons_succ,List.getElem?_cons_zero,Option.some.injEq] using h2
    ·rw [eT]
     simp only [dV,Value.agg.injEq] at bx;have h2:=congrArg (fun a=>a[3]?) bx;simpa only [List.getElem?_toArray,List.getElem?_cons_succ,List.getElem?_cons_zero,Option.some.injEq] using h2
   rw [ht] at x0 ⊢;clear hx ge bx hK f4 eV eT ht;obtain ⟨Q,a0⟩:=xe (wr.alloc (.cells #[.int .i64 K,.string NM,.slice T P R,.slice Y en U] 37));have c9 : Hid (Bw wr Q):=by rw [a0];exact bel1 _ _
   have M : Hid (Q.rowIs wr.heap.size 37 4 (v4 (.int .i64 K) (.string NM) (.slice T P R) (.slice Y en U))):=by rw [a0];exact fK wr _ _ _ _ _
   have eq : Hid (k + 1 <= maxLen /\ (k + 1) * 72 <= 140737488355328):=by
    refine ⟨?_,?_⟩
    ·unfold maxLen;omega
    ·omega
   have e4 : Hid (k + 1 <= xs.length /\ xs.length - (k + 1) < xs.length - k):=(by omega : k + 1 <= xs.length /\ xs.length - (k + 1) < xs.length - k)
   have f5 : Hid (k < ds.length /\ ∀ h : k < ds.length,ds[k] = x.1):=by
    have hl : ds.length = xs.length:=by rw [<- ar.out.1,List.length_map]
    refine ⟨by omega,fun h=>?_⟩;have e : ds[k]? = some x.1:=by rw [<- ar.out.1,List.getElem?_map,List.getElem?_eq_getElem ew,HX.out.1];rfl
    rw [List.getElem?_eq_getElem h] at e;exact Option.some.inj e
   have i2 : Hid (ds.length = xs.length):=by show _ = _;rw [<- ar.out.1,List.length_map]
   have hs : Hid (∀ y,(if k = X then pC C Ln a (p + 1 + 1) x.1 else x.1) = y -> (gK C Ln p ds)[k]? = some y):=fun y hy=>by
    rw [mM f5.out.1,f5.out.2 f5.out.1,i2.out,<- HA.out.1,<- HA.out.2,hy]
   by_cases bb : k = X
   ·have eb : ((k : Int) == (X : Int)) = true:=beq_iff_eq.2 (by omega)
    have kb : q = p + 1 + 1:=e3 (by omega);subst kb;have c2 : Hid (∀ q',q' <= p + 4 -> q' <= p + 4 /\ (k + 1 <= X -> q' = p + 1 + 1)):=fun q' h=>⟨h,fun h2=>by omega⟩;have gk : Hid (∀ y,pC C Ln a (p + 1 + 1) x.1 = y -> (gK C Ln p ds)[k]? = some y):=fun y hy=>hs.out y (by rw [if_pos bb];exact hy);clear e3 gm bb
    have hD : x.2.zs.length <= 700000 /\ x.2.es.length <= 700000:=by
     have h1 : cD x.1 <= eX ds:=jl (by rw [<- ar.out.1,HX.out.1];exact List.mem_map_of_mem (List.getElem_mem ew));have h2:=h8.out;have h3 : x.2.zs.length = x.1.ty.length:=by rw [<- HX.out.2.isT,List.length_map]
     have h4 : x.2.es.length = x.1.ex.length:=by rw [<- HX.out.2.isE,List.length_map]
     have h5 : x.1.ty.length <= cD x.1:=by unfold cD bQ;omega
     have h6 : x.1.ex.length <= cD x.1:=by unfold cD;have:=gR x.1.ex;omega
     omega
    have ah : Hid (da 0 wr x.1 x.2 /\ ms x.2):=⟨HX.out.2.rdok,HX.out.2.capP⟩;obtain ⟨W5,ep⟩:=xe (Q.alloc (.cells #[] 80));have ct : Hid (Bw Q W5):=by rw [ep];exact bel1 _ _
    have a8 : Hid (Bw wr W5):=c9.out.trans (ct.out.mono c9.out.size);have hm : Q.heap.size = wr.heap.size + 1:=by rw [a0];simp
    have i1:=hQx hm;have nr : Q.heap.size <= W5.heap.size:=ct.out.size;have C3:=kW W5 (B:=0) (v1:=.slice T P R) (v2:=.slice (some ⟨Q.heap.size,0,none⟩) 0 0) (xs:=x.2.zs) (ys:=[]) (by have h:=ah.out.1.ty.below a8.out;rw [I.out.2.2.2.2.1] at h;exact h) (by rw [ep];exact kr Q (Nat.zero_le _)) (by show x.2.zs.length + 0 <= 1000000;omega);rw [List.append_nil] at C3;have z2 : Q.cell? ⟨wr.heap.size,2,none⟩ = some (.slice T P R):=M.out.cell (i:=2) (by omega);rw [hm] at C3;have ee : Hid (∀ W,Bw Q W -> W.cell? ⟨wr.heap.size,3,none⟩ = some (.slice Y en U)):=fun W hb=>(M.out.of_block (hb.block _ M.out.lt)).cell (i:=3) (by omega);go_upto_region 10 with fail;rw [<- a0];clear a0 y0 y1 y2 y3 x0;go_wp2_with fail;rw [<- ep];clear ep z2;refine C3.mono ?_;rintro e w6 ⟨⟨t1,n1,u1,rfl,i3,hv⟩,f0⟩;clear C3;subst i3;have an : Hid (Bw Q w6):=ct.out.trans (f0.out.mono ct.out.size);have V : Hid (Bw wr w6):=a8.out.trans (f0.out.mono a8.out.size);have z3:=ee.out w6 an.out;obtain ⟨W7,et⟩:=xe (w6.alloc (.cells #[] 65));have ch : Hid (Bw w6 W7):=by rw [et];exact bel1 _ _
    have fv : Hid (Bw wr W7):=V.out.trans (ch.out.mono V.out.size);have C4:=jg W7 (v1:=.slice Y en U) (v2:=.slice (some ⟨w6.heap.size,0,none⟩) 0 0) (xs:=x.2.es) (ys:=[]) (by have h:=ah.out.1.ex.below fv.out;rw [I.out.2.2.2.2.2] at h;exact h) (by rw [et];exact ⟨aq (World.ownsRow_lit w6 #[] 0 (nlr _) (by unfold maxLen;omega) (by rfl)) (Nat.zero_le _),fun x hx=>by cases hx⟩) (by show x.2.es.length + 0 <= 1000000;omega);rw [List.append_nil] at C4;go_wp2_with fail;rw [<- et];clear et z3;refine C4.mono ?_;rintro e S ⟨⟨e1,n2,f1,rfl,kc,g6⟩,hr⟩;clear C4;subst kc;have a9 : Hid (Bw w6 S):=ch.out.trans (hr.out.mono ch.out.size);have fi : Hid (Bw Q S):=an.out.trans (a9.out.mono an.out.size);have c3 : Hid (Bw wr S):=V.out.trans (a9.out.mono V.out.size);obtain ⟨N,a4⟩:=xe (x.2.zs);obtain ⟨O,a1⟩:=xe (x.2.es);have k6 : Hid (N.map Prod.fst = x.1.ty /\ O.map Prod.fst = x.1.ex):=by rw [a4,a1];exact ⟨ah.out.1.isT,ah.out.1.isE⟩
    have cm : Hid (Bk wr O):=fun W hb y hy=>by rw [a1] at hy;exact (ah.out.1.below hb).ex.ok y hy
    have i4 : Hid (∀ W,Bw wr W -> ∀ y,y ∈ N -> aD 0 W y.1.ns y.2):=fun W hb y hy=>by rw [a4] at hy;exact (ah.out.1.below hb).ty.nm y hy
    have n : Hid (St wr S K NM (.slice T P R) (.slice Y en U) t1 u1 N e1 f1 O):=by
     have m1:=i1.out;have mk:=an.out.size;have m6:=ch.out.size;refine ⟨c3.out,M.out.of_block (fi.out.block _ M.out.lt),?_,?_,i4.out S c3.out,cm.out S c3.out,?_,?_⟩
     ·rw [a4];exact aq (az hv.out (ax a9.out) (by decide)) (by omega)
     ·rw [a1];exact aq g6.out.1 (by omega)
     ·rw [a4];exact ah.out.2.t
     ·rw [a1];exact ah.out.2.e
    rw [<- a4,<- a1];have lz : N.length <= 700000 /\ O.length <= 700000:=by rw [a4,a1];exact hD
    clear a4 a1 hD hv g6 a9 fi an V fv a8 ct f0 ch hr;have bs : Hid (N.map Prod.fst = x.1.ty /\ O.map Prod.fst = x.1.ex):=k6;have b0 : ((a : Int) == 0) = false:=bn2 (by have:=g.out;omega);have b1 : ((a : Int) == 1) = false:=bn2 (by have:=g.out;omega);have b2 : ((a : Int) == 2) = false:=bn2 (by have:=g.out;omega);have b6 : ((a : Int) == 6) = false:=bn2 (by have:=g.out;omega);have b7 : ((a : Int) == 7) = false:=bn2 (by have:=g.out;omega);have b8 : ((a : Int) == 8) = false:=bn2 (by have:=g.out;omega);have b9 : ((a : Int) == 9) = false:=bn2 (by have:=g.out;omega);have nb : ((a : Int) == 10) = false:=bn2 (by have:=g.out;omega);have mq : ((a : Int) == 11) = false:=bn2 (by have:=g.out;omega);have m0 : ((a : Int) == 12) = false:=bn2 (by have:=g.out;omega);have na : ((a : Int) == 13) = false:=bn2 (by have:=g.out;omega);have kK:=g.out;have gN : a = 3 \/ a = 4 \/ a = 5:=by omega
    clear kK;rcases gN with h0 | h0 | h0
    case' inl=>
     have b3 : ((a : Int) == 3) = true:=beq_iff_eq.2 (by omega);have b4 : ((a : Int) == 4) = false:=bn2 (by omega);have b5 : ((a : Int) == 5) = false:=bn2 (by omega);obtain ⟨iT,kd,k2,k4,hV⟩:=info_parts Tryz.infoTI;have ck:=n.out.tO;have c0 : wr.heap.size + 1 <= S.heap.size:=by have h:=n.out.row.lt;omega
     have F : Hid (a = 3):=h0;clear h0;go_upto_if 84 with (first | (at_builtin;refine wpList_append_lies _ rfl _ _ 34 rfl (wr.heap.size + 1) 80 iT _ 4 64 Tryz.underlying34 kd k2 k4 hV rfl (by decide) (.slice t1 N.length u1) N.length (bg N) rfl (ck.alloc _) ⟨S.heap.size,0,none⟩ 1 1 [.int .i64 1,.string ⟨#[]⟩,.string ⟨#[]⟩,.slice none 0 0] rfl rfl (World.news_of_block (cs:=#[.int .i64 1,.string ⟨#[]⟩,.string ⟨#[]⟩,.slice none 0 0]) (t:=80) (fr:=(0,0)) (heap_alloc_new S _)) (by simp [Value.oneCell']) (by decide) (by unfold maxLen;omega) (by omega) (by simp only [World.size_alloc];omega) (S.heap.size + 1) (by simp) ?_;intro gT dd w9 A di ce de));obtain ⟨b,H⟩:=xe (N ++ [(cV 1,(⟨none,0,0⟩ : NPl))]);have c4 : N.length + 1 = b.length:=by rw [H,lap];rfl
     have s : Hid (St wr w9 K NM (.slice T P R) (.slice Y en U) (some ⟨gT,0,none⟩) dd b e1 f1 O):=by rw [H];exact n.out.pushT cm.out (x:=(cV 1,⟨none,0,0⟩)) (aD.nil _ _ _) (nlr _) A di
     have ao : Hid (b.map Prod.fst = k8 a x.1.ty):=by rw [H,List.map_append,bs.out.1,F.out];exact rfl
     obtain ⟨t2,a5⟩:=xe (some (⟨gT,0,none⟩ : Addr));rw [c4,<- a5];rw [<- a5] at s;clear ck c0 A di ce de H a5;have g0 : b.length <= 700001:=by omega
     have ni : 0 < b.length:=by omega
     clear c4;have ef : Hid (xh a x.1.kind = K /\ tH a x.1.nm = NM):=by rw [F.out,I.out.1,I.out.2.1];exact ⟨rfl,rfl⟩
     have be : Hid (O.map Prod.fst = lf a x.1.ex):=by rw [bs.out.2,F.out];exact rfl
     have fl:=cm;have hg : O.length <= 700001:=by omega
     obtain ⟨u2,rfl⟩:=xe (dd);obtain ⟨e2,rfl⟩:=xe (e1);obtain ⟨f2,rfl⟩:=xe (f1);obtain ⟨f,rfl⟩:=xe (O);obtain ⟨L,rfl⟩:=xe (K);obtain ⟨N1,rfl⟩:=xe (NM)
    case' inr.inl=>
     have b3 : ((a : Int) == 3) = false:=bn2 (by omega);have b4 : ((a : Int) == 4) = true:=beq_iff_eq.2 (by omega);have b5 : ((a : Int) == 5) = false:=bn2 (by omega);obtain ⟨iE,j1,lc,h7,j2⟩:=info_parts Tryz.infoEI;have ck:=n.out.eO;have c0 : wr.heap.size + 1 <= S.heap.size:=by have h:=n.out.row.lt;omega
     have F : Hid (a = 4):=h0;clear h0;go_upto_if 84 with (first | (at_builtin;refine wpList_append_lies _ rfl _ _ 35 rfl (wr.heap.size + 1) 65 iE _ 6 96 Tryz.underlying35 j1 lc h7 j2 rfl (by decide) (.slice e1 O.length f1) O.length (eisC O) rfl (ck.alloc _) ⟨S.heap.size,0,none⟩ 1 1 [.int .i64 9,.int .i64 0,.string ⟨#[]⟩,.string ⟨#[]⟩,.slice none 0 0,.slice none 0 0] rfl rfl (World.news_of_block (cs:=#[.int .i64 9,.int .i64 0,.string ⟨#[]⟩,.string ⟨#[]⟩,.slice none 0 0,.slice none 0 0]) (t:=65) (fr:=(0,0)) (heap_alloc_new S _)) (by simp [Value.oneCell']) (by decide) (by unfold maxLen;omega) (by omega) (by simp only [World.size_alloc];omega) (S.heap.size + 1) (by simp) ?_;intro gT dd w9 A di ce de));obtain ⟨f,H⟩:=xe (O ++ [((⟨9,0,e0,e0,[],[]⟩ : EI),im)]);have c4 : O.length + 1 = f.length:=by rw [H,lap];rfl
     have s : Hid (St wr w9 K NM (.slice T P R) (.slice Y en U) t1 u1 N (some ⟨gT,0,none⟩) dd f):=by rw [H];exact n.out.pushE (x:=((⟨9,0,e0,e0,[],[]⟩ : EI),im)) (dj _) ⟨nlr _,fun u hu=>by cases hu⟩ A di
     have be : Hid (f.map Prod.fst = lf a x.1.ex):=by rw [H,List.map_append,bs.out.2,F.out];exact rfl
     have fl : Hid (Bk wr f):=fun W hb y hy=>by
      rw [H] at hy;rcases List.mem_append.1 hy with z | z
      ·exact cm.out W hb y z
      ·rw [ms1 z];exact dj _
     obtain ⟨e2,a5⟩:=xe (some (⟨gT,0,none⟩ : Addr));rw [c4,<- a5];rw [<- a5] at s;clear ck c0 A di ce de H a5;have hg : f.length <= 700001:=by omega
     clear c4;have ef : Hid (xh a x.1.kind = K /\ tH a x.1.nm = NM):=by rw [F.out,I.out.1,I.out.2.1];exact ⟨rfl,rfl⟩
     have ao : Hid (N.map Prod.fst = k8 a x.1.ty):=by rw [bs.out.1,F.out];exact rfl
     have g0 : N.length <= 700001:=by omega
     obtain ⟨t2,rfl⟩:=xe (t1);obtain ⟨u2,rfl⟩:=xe (u1);obtain ⟨b,rfl⟩:=xe (N);obtain ⟨f2,rfl⟩:=xe (dd);obtain ⟨L,rfl⟩:=xe (K);obtain ⟨N1,rfl⟩:=xe (NM)
    case' inr.inr=>
     have b3 : ((a : Int) == 3) = false:=bn2 (by omega);have b4 : ((a : Int) == 4) = false:=bn2 (by omega);have b5 : ((a : Int) == 5) = true:=beq_iff_eq.2 (by omega);have d5 : S.cell? ⟨wr.heap.size,0,none⟩ = some (.int .i64 K):=n.out.row.cell (i:=0) (by omega);have g5 : S.frozen? ⟨wr.heap.size,0,none⟩ = false:=n.out.row.frozen 0
     have id : Hid (K = 1 \/ K = 2 \/ K = 3):=by
      have h:=ar.out.2 x.1 (by rw [<- ar.out.1,HX.out.1];exact List.mem_map_of_mem (List.getElem_mem ew));rw [<- I.out.1] at h;exact (by omega : K = 1 \/ K = 2 \/ K = 3)
     obtain ⟨L,go⟩ : ∃ L : Int,L = if K = 1 then (2 : Int) else if K = 2 then 3 else 1:=⟨_,rfl⟩
     obtain ⟨Z,hZ⟩:=xe (Int.tmod K 3);have tz : Int.tmod K 3 = Z:=hZ.symm
     have wz : IntKind.i64.wrap (Z + 1) = L:=by
      rw [go,IntKind.wrap_i64,hZ];rcases id.out with h | h | h <;> (rw [h];decide)
     have k9 : Hid (L = if K = 1 then (2 : Int) else if K = 2 then 3 else 1):=go;clear go hZ;have F : Hid (a = 5):=h0;clear h0;go_upto_if 84 with fail;obtain ⟨w9,f6⟩:=xe (S.setCell ⟨wr.heap.size,0,none⟩ (.int .i64 L));rw [<- f6];obtain ⟨N1,gc⟩:=xe (NM);have s : Hid (St wr w9 L N1 (.slice T P R) (.slice Y en U) t1 u1 N e1 f1 O):=by rw [f6,gc];exact n.out.putK _
     have ef : Hid (xh a x.1.kind = L /\ tH a x.1.nm = N1):=by rw [k9.out,gc,F.out,I.out.1,I.out.2.1];exact ⟨rfl,rfl⟩
     clear f6 d5 g5 gc;have ao : Hid (N.map Prod.fst = k8 a x.1.ty):=by rw [bs.out.1,F.out];exact rfl
     have g0 : N.length <= 700001:=by omega
     have be : Hid (O.map Prod.fst = lf a x.1.ex):=by rw [bs.out.2,F.out];exact rfl
     have fl:=cm;have hg : O.length <= 700001:=by omega
     obtain ⟨t2,rfl⟩:=xe (t1);obtain ⟨u2,rfl⟩:=xe (u1);obtain ⟨b,rfl⟩:=xe (N);obtain ⟨e2,rfl⟩:=xe (e1);obtain ⟨f2,rfl⟩:=xe (f1);obtain ⟨f,rfl⟩:=xe (O)
    all_goals as_aux_lemma=>
     have nd : b.length <= 700001:=by omega
     have nu : f.length <= 700001:=by omega
     have g4 : Hid (Bw w w9):=bp.out.trans (s.out.bel.mono bp.out.size);have C5:=aO ca cb co Ln cc (p + 1 + 1) b.length C w9 (HM.out w9 g4.out).1 hLn (by omega) (by omega);obtain ⟨kT,ez⟩:=xe (tk C Ln (p + 1 + 1) b.length);have hR : Hid (kT = tk C Ln (p + 1 + 1) b.length /\ (0 < b.length -> kT < b.length)):=⟨ez,fun h=>by rw [ez];exact cd h⟩;rw [<- ez] at C5;clear ez
     have g9 : Hid ((b.length = 0 -> jX a (p + 1 + 1) x.1.ty = p + 1 + 1) /\ (¬ b.length = 0 -> jX a (p + 1 + 1) x.1.ty = p + 1 + 1 + 1)):=by
      have e : (k8 a x.1.ty).length = b.length:=by rw [<- ao.out,List.length_map]
      unfold jX;rw [e];exact ⟨fun h=>if_pos h,fun h=>if_neg h⟩
     go_cut [1] (fun pp wc=>∃ q2 : Nat,pp = .int .i64 (q2 : Int) /\ q2 <= p + 3 /\ Hid (q2 = jX a (p + 1 + 1) x.1.ty /\ ∃ r,r.length = b.length /\ r.map Prod.fst = setF (b.map Prod.fst) kT (lu a) /\ St wr wc L N1 (.slice T P R) (.slice Y en U) t2 u2 r e2 f2 f))
     case first=>
      by_cases hz : b.length = 0
      ·first
       | exact absurd hz (by omega)
       | have l0 : ¬ (0 : Int) < (b.length : Int):=by omega
         have E0 : Hid (p + 1 + 1 = jX a (p + 1 + 1) x.1.ty):=(g9.out.1 hz).symm;have E1 : Hid (b.map Prod.fst = setF (b.map Prod.fst) kT (lu a)):=(fp (by rw [List.length_map];exact hz) _ _).symm;clear hz C5;go_wp2;go_meet;exact ⟨p + 1 + 1,rfl,by omega,E0.out,b,rfl,E1.out,s.out⟩
      have l0 : (0 : Int) < (b.length : Int):=by omega
      have E0 : Hid (p + 1 + 1 + 1 = jX a (p + 1 + 1) x.1.ty):=(g9.out.2 hz).symm;have E1 : Hid (b.map Prod.fst = setF (b.map Prod.fst) kT (lu a)):=(hG _ _ (fun y=>by unfold lu;rw [if_neg (by have:=g.out;omega),if_neg (by have:=g.out;omega),if_neg (by have:=g.out;omega)])).symm;clear hz;go_wp2_with fail;refine C5.mono ?_;rintro e wX ⟨rfl,rfl⟩;go_wp2;go_meet;exact ⟨p + 1 + 1 + 1,rfl,by omega,E0.out,b,rfl,E1.out,s.out⟩
     case rest=>
      rename World=>e8;obtain ⟨q2,rfl,m3,bL⟩:=hcut;obtain ⟨fm,r,e9,fo,cn⟩:=bL.out;have dk : Hid (St wr e8 L N1 (.slice T P R) (.slice Y en U) t2 u2 r e2 f2 f):=cn;have ee : Hid (r.map Prod.fst = setF (b.map Prod.fst) kT (lu a) /\ q2 = jX a (p + 1 + 1) x.1.ty):=⟨fo,fm⟩;have i5 : Hid (r.length = b.length):=e9;clear cn fo fm bL e9;have f9 : Hid (Bw w e8):=bp.out.trans (dk.out.bel.mono bp.out.size);have C6:=aO ca cb co Ln cc q2 f.length C e8 (HM.out e8 f9.out).1 hLn (by omega) (by omega);obtain ⟨kE,e7⟩:=xe (tk C Ln q2 f.length);have i9 : Hid (kE = tk C Ln q2 f.length /\ (0 < f.length -> kE < f.length)):=⟨e7,fun h=>by rw [e7];exact cd h⟩;rw [<- e7] at C6;clear e7;go_upto_if 127 with fail
      go_cut [1] (fun pp wc=>∃ q3 : Nat,pp = .int .i64 (q3 : Int) /\ q3 <= p + 4 /\ Hid (∃ v,v.length = f.length /\ v.map Prod.fst = setF (f.map Prod.fst) kE (jZ a) /\ St wr wc L N1 (.slice T P R) (.slice Y en U) t2 u2 r e2 f2 v))
      case first=>
       by_cases hz : f.length = 0
       ·have l0 : ¬ (0 : Int) < (f.length : Int):=by omega
        have E1 : Hid (f.map Prod.fst = setF (f.map Prod.fst) kE (jZ a)):=(fp (by rw [List.length_map];exact hz) _ _).symm;clear hz C6;go_wp2;go_meet;exact ⟨q2,rfl,by omega,f,rfl,E1.out,dk.out⟩
       have l0 : (0 : Int) < (f.length : Int):=by omega
       have E1 : Hid (f.map Prod.fst = setF (f.map Prod.fst) kE (jZ a)):=(hG _ _ (fun y=>by unfold jZ;rw [if_neg (by have:=g.out;omega),if_neg (by have:=g.out;omega),if_neg (by have:=g.out;omega),if_neg (by have:=g.out;omega),if_neg (by have:=g.out;omega)])).symm;clear hz;go_wp2_with fail;refine C6.mono ?_;rintro e wX ⟨rfl,rfl⟩;go_wp2;go_meet;exact ⟨q2 + 1,rfl,by omega,f,rfl,E1.out,dk.out⟩
      case rest=>
       rename World=>bo;obtain ⟨q3,rfl,ho,bL⟩:=hcut;obtain ⟨v,ff,fx,cn⟩:=bL.out;have ab : Hid (St wr bo L N1 (.slice T P R) (.slice Y en U) t2 u2 r e2 f2 v):=cn;have lm : Hid (v.map Prod.fst = setF (f.map Prod.fst) kE (jZ a)):=fx;have hT : Hid (v.length = f.length):=ff;clear cn fx bL ff
       have hF : Hid (pC C Ln a (p + 1 + 1) x.1 = ⟨L,N1,r.map Prod.fst,v.map Prod.fst⟩):=by
        have l1 : (k8 a x.1.ty).length = b.length:=by rw [<- ao.out,List.length_map]
        have l2 : (lf a x.1.ex).length = f.length:=by rw [<- be.out,List.length_map]
        show _ = _;unfold pC;rw [l1,l2,<- hR.out.1,<- ee.out.2,<- i9.out.1,<- ao.out,<- be.out,<- ee.out.1,<- lm.out,ef.out.1,ef.out.2]
       have d2 : bo.cell? ⟨wr.heap.size,2,none⟩ = some (.slice T P R):=ab.out.row.cell (i:=2) (by omega);have g2 : bo.frozen? ⟨wr.heap.size,2,none⟩ = false:=ab.out.row.frozen 2;have d3 : bo.cell? ⟨wr.heap.size,3,none⟩ = some (.slice Y en U):=ab.out.row.cell (i:=3) (by omega);have g3 : bo.frozen? ⟨wr.heap.size,3,none⟩ = false:=ab.out.row.frozen 3;go_upto_region 46 with fail;obtain ⟨G,c7⟩:=xe ((bo.setCell ⟨wr.heap.size,2,none⟩ (.slice t2 b.length u2)).setCell ⟨wr.heap.size,3,none⟩ (.slice e2 f.length f2));rw [<- c7];have E : Hid (St wr G L N1 (.slice t2 b.length u2) (.slice e2 f.length f2) t2 u2 r e2 f2 v):=by rw [c7];exact (ab.out.putT _).putE _
       clear c7 d2 d3 g2 g3;have c8 : Hid (DO l.heap.size G va k c1 ys):=J.out.1.below E.out.bel;have dl:=c8.out.own;have cq : Hid (Bw l G):=cM.out.trans (E.out.bel.mono cM.out.size);have gb : Hid (l.heap.size <= G.heap.size):=cq.out.size;have z0 : G.cell? ⟨wr.heap.size,0,none⟩ = some (.int .i64 L):=E.out.row.cell (i:=0) (by omega);have z1 : G.cell? ⟨wr.heap.size,1,none⟩ = some (.string N1):=E.out.row.cell (i:=1) (by omega);have z2 : G.cell? ⟨wr.heap.size,2,none⟩ = some (.slice t2 b.length u2):=E.out.row.cell (i:=2) (by omega);have z3 : G.cell? ⟨wr.heap.size,3,none⟩ = some (.slice e2 f.length f2):=E.out.row.cell (i:=3) (by omega);go_wp2_with (first | (at_builtin;refine wpList_append_lies _ rfl _ _ 23 rfl l.heap.size 37 i0 _ 4 72 Tryz.underlying23 hw g1 hj hd rfl (by decide) (.slice va k c1) k (bj ys) rfl (dl.alloc _) ⟨G.heap.size,0,none⟩ 1 1 [.int .i64 L,.string N1,(.slice t2 b.length u2),(.slice e2 f.length f2)] rfl rfl (World.news_of_block (cs:=#[.int .i64 L,.string N1,(.slice t2 b.length u2),(.slice e2 f.length f2)]) (t:=37) (fr:=(0,0)) (heap_alloc_new G _)) (by simp [Value.oneCell']) (by decide) eq.out.1 eq.out.2 (by simp only [World.size_alloc];exact Nat.le_succ_of_le gb.out) (G.heap.size + 1) (by simp) ?_;intro gD f7 w7 a3 cp hB hq));have f3:=E.out.rdok;rw [i5.out,hT.out] at f3;have f8:=c8.out.push (x:=((⟨L,N1,r.map Prod.fst,v.map Prod.fst⟩ : DC),(⟨.slice t2 b.length u2,r,.slice e2 f.length f2,v⟩ : DPl))) a3 cp f3.1 f3.2;have gg : Bw l w7:=ae cq.out cp (fun j e=>(dl.lt j e).1);refine ⟨⟨k + 1,q3,f7,some ⟨gD,0,none⟩,e4.out.1,by go_num,rfl,(c2.out q3 ho).1,(c2.out q3 ho).2,rfl,_,f8,?_,gg⟩,by have:=e4.out.2;simp [intOf];exact this⟩;rw [List.map_append,J.out.2];exact (gS (gk.out _ hF.out)).symm
   ·have eb : ((k : Int) == (X : Int)) = false:=bn2 (by omega)
    have c8 : Hid (DO l.heap.size Q va k c1 ys):=J.out.1.below c9.out;have dl:=c8.out.own;have cq : Hid (Bw l Q):=cM.out.trans (c9.out.mono cM.out.size);have gb : Hid (l.heap.size <= Q.heap.size):=cq.out.size;have z0:=M.out.cell (i:=0) (by omega);have z1:=M.out.cell (i:=1) (by omega);have z2:=M.out.cell (i:=2) (by omega);have z3:=M.out.cell (i:=3) (by omega);have c2 : Hid (q <= p + 4 /\ (k + 1 <= X -> q = p + 1 + 1)):=⟨gm,fun h=>e3 (by omega)⟩;have gk : Hid ((gK C Ln p ds)[k]? = some x.1):=hs.out x.1 (if_neg bb);clear e3 gm bb;go_upto_region 46 with fail;rw [<- a0];clear a0 y0 y1 y2 y3 x0;go_wp2_with (first | (at_builtin;refine wpList_append_lies _ rfl _ _ 23 rfl l.heap.size 37 i0 _ 4 72 Tryz.underlying23 hw g1 hj hd rfl (by decide) (.slice va k c1) k (bj ys) rfl (dl.alloc _) ⟨Q.heap.size,0,none⟩ 1 1 [.int .i64 K,.string NM,(.slice T P R),(.slice Y en U)] rfl rfl (World.news_of_block (cs:=#[.int .i64 K,.string NM,(.slice T P R),(.slice Y en U)]) (t:=37) (fr:=(0,0)) (heap_alloc_new Q _)) (by simp [Value.oneCell']) (by decide) eq.out.1 eq.out.2 (by simp only [World.size_alloc];exact Nat.le_succ_of_le gb.out) (Q.heap.size + 1) (by simp) ?_;intro gD f7 w7 a3 cp hB hq))
    have kn : Hid (fU x = [.int .i64 K,.string NM,.slice T P R,.slice Y en U]):=by
     obtain ⟨e1,e2,_,_,e5,e6⟩:=I.out;show _ = _;unfold fU;rw [e1,e2,e5,e6]
    have f8:=c8.out.push (x:=x) (by rw [kn.out];exact a3) cp (HX.out.2.rdok.below c9.out) HX.out.2.capP;have gg : Bw l w7:=ae cq.out cp (fun j e=>(dl.lt j e).1);refine ⟨⟨k + 1,q,f7,some ⟨gD,0,none⟩,e4.out.1,by go_num,rfl,c2.out.1,c2.out.2,rfl,_,f8,?_,gg⟩,by have:=e4.out.2;simp [intOf];exact this⟩;rw [List.map_append,J.out.2];exact (gS gk.out).symm
  ·have lk : ¬ (k : Int) < (xs.length : Int):=by omega
   have lj : k = xs.length:=by omega
   subst lj
   have hS : Hid (ys.map Prod.fst = gK C Ln p ds):=by
    show _ = _;rw [J.out.2,List.take_of_length_le];unfold gK;rw [fb,<- ar.out.1,List.length_map];exact nlr _
   have RR:=eg.out.2.of_block (cM.out.block _ eg.out.2.lt);have r0:=RR.cell (i:=0) (by omega);have ne:=RR.frozen 0;have g8 : Hid (wr.rowIs (w.heap.size + 1) 25 1 (fun _=>.slice none 0 0)):=RR;clear RR;go_wp2;refine bodyPost_ret (kX g8.out _ _ rfl) rfl ?_;have hk:=kL (i:=0) g8.out (.slice va xs.length c1);refine ⟨⟨va,xs.length,c1,rfl,ys,⟨aq (az J.out.1.own hk (by decide)) c5.out.size,J.out.1.len,fun y hy=>(J.out.1.ok y hy).kp hk (by decide) (by decide) (by decide),J.out.1.cap⟩,hS.out⟩,bp.out.setCell (p:=⟨w.heap.size + 1,0,none⟩) (Nat.le_succ _) _⟩
end Go.Proofs.YtihedobejcaapaaGreatDoor
