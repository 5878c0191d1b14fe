/-
  QbS
-/
import Derived.Test.YtcehppndpccldaaGreatDoorUC
set_option maxHeartbeats 4000000
set_option maxRecDepth 100000
namespace Go.Proofs.YtcehppndpccldaaGreatDoor
open Go.RowKit
theorem g_F_fun (w : World) (z : Int) (_hz1 : -10 <= z) (_hz2 : z <= 2) {P X : Nat} {ca : Option Addr} {cb co Ln cc p : Nat} {C : Nat -> Nat} (hC : BytesAt w ca cb co Ln C) (hLn : Ln <= 1048576) (hp : p <= 900000) {T V M : List ByteArray} {tp vp mp : NPl} (hS : Sc w T V M tp vp mp) {xs : List (TI × NPl)} {l : List TI} {ta : Option Addr} {tc e : Nat} (hT : TsA w (.slice ta xs.length tc) xs) (hH : TH xs l) (he : e < xs.length)
  {P1 X1 : Nat} (hz : -3 < z) (hP : 1 + P1 <= P) (hX : X1 + 840 <= X) (hX1 : X1 <= 100000) (_hP1 : P1 <= 40000) (hca : tk C Ln p 16 ≠ 15) (hop : xs[e].1.op = 6) (CI : CF (z - 1) P1 X1 (p + 1) ca cb co Ln cc C T V M tp vp mp) :
  Calls Tryz.prog 91 #[.slice ca Ln cc,.int .i64 (p : Int),.agg #[.slice tp.a T.length tp.c,.slice vp.a V.length vp.c,.slice mp.a M.length mp.c],.slice ta xs.length tc,.int .i64 ((e : Int) + 1),.int .i64 z] w (GnF w P X p):=by
 obtain ⟨i0,hi0,hi1,hi2,hi3⟩:=info_parts Tryz.infoEI
 have HLM : Hid (M.length <= 1000):=hS.lm.1
 have hx13:=hH.len
 have HTH : Hid (TH xs l):=hH
 obtain ⟨W1,W2,a,g,nd,xt,op,ps,hW1,hW2,HB1,HB2,C1,ha,ha16,HCX,HBS,eta,y0,y1,y2,y3,HXM,hope,HTX,CP,HPL⟩:=f_pre w hC (cc:=cc) hLn hp hS hT hH he
 rw [<- ha] at hca
 rw [<- hope] at hop
 have HOP : Hid (op = xt.1.op):=by rw [HXM.out.2];exact hope
 have we1 : IntKind.i64.wrap ((e : Int) + 1 - 1) = (e : Int):=wk (by omega)
 have we2 : IntKind.i64.wrap (e : Int) = (e : Int):=wk (by omega)
 have hel : (e : Int) < (xs.length : Int):=by omega
 have he0 : (0 : Int) <= (e : Int):=by omega
 have n15 : ((a : Int) == 15) = false:=bn2 (by omega)
 have wz : IntKind.i64.wrap (z - 1) = z - 1:=wk (by omega)
 have HCI : Hid (CF (z - 1) P1 X1 (p + 1) ca cb co Ln cc C T V M tp vp mp):=CI
 have m5 : Int.tmod (a : Int) 5 = ((a % 5 : Nat) : Int):=tmodN a 5
 obtain ⟨a5,ha5⟩:=xe (a % 5)
 rw [<- ha5] at m5
 have ha5l : a5 < 5:=by omega
 have HET : Hid (ta = some ⟨g,0,none⟩ /\ e < xs.length):=⟨eta,he⟩
 have hnd2 : nd = 2:=by
  obtain ⟨f,f1,f2⟩:=hH.item he
  rw [HPL.out.2.1,f2]
  rw [<- HXM.out.2] at f1
  have hopx:=HOP.out
  rcases fT_cases f1 with ⟨o,_⟩ | ⟨o,_⟩ | ⟨o,_⟩ | ⟨o,_⟩ | ⟨o,_⟩ | ⟨o,rfl⟩
  ·omega
  ·omega
  ·omega
  ·omega
  ·omega
  ·rfl
 obtain ⟨p0,p1,hps2⟩:=two_of (HPL.out.1.trans hnd2)
 have hm0:=HPL.out.2.2 p0 (by rw [hps2];simp)
 have hm1:=HPL.out.2.2 p1 (by rw [hps2];simp)
 have HPE : Hid (ps = [p0,p1] /\ nd = 2):=⟨hps2,hnd2⟩
 obtain ⟨q1,hq1e⟩ : ∃ q1,p1 = q1 + 1:=⟨p1 - 1,by omega⟩
 subst hq1e
 have hop2 : op = 6:=hop
 clear hca hop CI ha5 hnd2 hps2
 subst hop2
 have eta':=eta
 rw [eta]
 clear hC hS ha hT hH hope eta
 go_enter Tryz.func91,Tryz.ntmps91
 go_wp2_with fail
 rw [<- hW1]
 clear hW1
 refine C1.mono ?_
 rintro e' w7 ⟨rfl,rfl⟩
 clear C1
 go_wp2_with fail
 rw [<- hW2]
 rw [eta'] at CP
 refine CP.mono ?_
 rintro e' w3 ⟨va,cp,rfl,OWN,BP⟩
 have HB3 : Hid (Bw W2 w3):=BP
 have HPS : Hid (w3.ownsRow W2.heap.size 3 1 (.slice va nd cp) nd (inC ps)):=OWN
 have HB13 : Hid (Bw W1 w3):=HB2.out.trans (HB3.out.mono HB2.out.size)
 obtain ⟨W4,hW4⟩:=xe (w3.alloc (.cells #[] 70))
 have HB4 : Hid (Bw w3 W4):=by rw [hW4];exact bel1 _ _
 have HN4 : Hid (GE w3.heap.size 0 W4 (some ⟨w3.heap.size,0,none⟩) 0 0 0 []):=by rw [hW4];exact ge_nil w3
 have HB14 : Hid (Bw W1 W4):=HB13.out.trans (HB4.out.mono HB13.out.size)
 have HB24 : Hid (Bw W2 W4):=HB3.out.trans (HB4.out.mono HB3.out.size)
 obtain ⟨t0,t3⟩:=HTX.out W4 HB24.out
 obtain ⟨x0,x1,x2⟩:=HCX.out W4 HB14.out
 rw [hW4] at t0 t3 x0 x1 x2
 clear CP BP OWN hW2 y0 y1 y2 y3 we1 we2 hel he0
 obtain ⟨it,ht0,ht1,ht2,ht3⟩:=info_parts Tryz.infoTI
 have HPS2 : Hid (w3.ownsRow W2.heap.size 3 1 (.slice va 2 cp) 2 (inC [p0,q1 + 1])):=by
  have h:=HPS.out
  rw [HPE.out.2,HPE.out.1] at h
  exact h
 obtain ⟨go,gc,ev,_⟩:=own_blk HPS2.out (by omega)
 simp only [Value.slice.injEq] at ev
 obtain ⟨rfl,-,rfl⟩:=ev
 have HPC : Hid (∀ W,Bw w3 W -> W.cell? ⟨go,0,none⟩ = some (.int .i64 (p0 : Int)) /\ W.cell? ⟨go,1,none⟩ = some (.int .i64 ((q1 : Int) + 1))):=fun W hb=>by
  have h:=own_kp HPS2.out (below_kp hb) (by decide)
  exact ⟨own_int (es:=[p0,q1 + 1]) h rfl (j:=0) (by simp),own_int (es:=[p0,q1 + 1]) h rfl (j:=1) (by simp)⟩
 have C4:=d_letter a5 W4 (by omega)
 have hlet:=letr_all ⟨a5,by omega⟩
 have HS : Hid ((letr a5).size = 1):=hlet.2
 obtain ⟨sn,hsn⟩:=xe (letr a5)
 rw [<- hsn] at C4 HS
 rw [HPE.out.2]
 clear hsn hlet
 go_wp2_with fail
 rw [<- hW4]
 clear hW4 x0 x1 x2 t0 t3
 refine C4.mono ?_
 rintro e' w4 ⟨rfl,hw4⟩
 have hw5:=hw4.symm
 clear hw4
 subst hw5
 clear C4
 obtain ⟨W5,hW5⟩:=xe (W4.alloc (.cells #[] 99))
 have HB5 : Hid (Bw W4 W5):=by rw [hW5];exact bel1 _ _
 have HB15 : Hid (Bw W1 W5):=HB14.out.trans (HB5.out.mono HB14.out.size)
 have HB35 : Hid (Bw w3 W5):=HB4.out.trans (HB5.out.mono HB4.out.size)
 have ST : Hid (W5.ownsRow W4.heap.size 99 4 (.slice (some ⟨W4.heap.size,0,none⟩) 0 0) 0 (tisC [])):=by rw [hW5];exact World.ownsRow_lit W4 #[] 0 (nlr _) (by unfold maxLen;omega) (by rfl)
 have hpl : p0 <= xs.length:=by have:=HET.out.2;omega
 have C5:=v_tstart W5 (HBS.out W5 HB15.out).2.2 HTH.out.is (e:=p0) hpl (HTH.out.ar.mono (by rw [<- HTH.out.is,List.length_map];exact hpl)) (z:=(p0 : Int)) rfl
 have hst:=back_le (fun i=>(FT l i).needs.length) p0 1
 obtain ⟨st,hste⟩:=xe (back (fun i=>(FT l i).needs.length) p0 1)
 rw [<- hste] at C5 hst
 rw [HET.out.1] at C5
 obtain ⟨c0,c1⟩:=HPC.out W5 HB35.out
 rw [hW5] at c0 c1
 clear hste
 go_wp2_with fail
 rw [<- hW5]
 clear hW5 c0 c1
 refine C5.mono ?_
 rintro e' w6 ⟨rfl,b6⟩
 clear C5
 have HB6 : Hid (Bw W5 w6):=b6
 have HB36 : Hid (Bw w3 w6):=HB35.out.trans (b6.mono HB35.out.size)
 have HB16 : Hid (Bw W1 w6):=HB15.out.trans (b6.mono HB15.out.size)
 have HB46 : Hid (Bw W4 w6):=HB5.out.trans (b6.mono HB5.out.size)
 have ST6 : Hid (w6.ownsRow W4.heap.size 99 4 (.slice (some ⟨W4.heap.size,0,none⟩) 0 0) 0 (tisC ((xs.drop st).take 0))):=own_kp ST.out (below_kp b6) (by decide)
 clear b6 ST
 go_wp2_with fail
 go_loopw [20,21] (fun v i wr=>∃ k : Nat,st + k <= p0 /\ i = .int .i64 ((st : Int) + (k : Int)) /\ wr.ownsRow W4.heap.size 99 4 v k (tisC ((xs.drop st).take k)) /\ Hid (Bw W4 wr)) (fun _ i _=>p0 - (intOf i).toNat)
 case atStart=>exact ⟨0,by omega,by simp,ST6.out,HB46⟩
 case round=>
  clear ST6
  obtain ⟨k,hk,rfl,hO,HW⟩:=hrel
  obtain ⟨va,vc,rfl⟩:=own_form hO
  have hws:=HW.out.size
  have HW3 : Hid (Bw w3 wr):=HB4.out.trans (HW.out.mono HB4.out.size)
  have HW1 : Hid (Bw W1 wr):=HB14.out.trans (HW.out.mono HB14.out.size)
  obtain ⟨c0,c1⟩:=HPC.out wr HW3.out
  by_cases hlt : st + k < p0
  case pos=>
   have lk : (st : Int) + (k : Int) < (p0 : Int):=by omega
   have hkl : st + k < xs.length:=by omega
   obtain ⟨g2,eg,y0,y1,y2,y3,_⟩:=(HBS.out wr HW1.out).2.2.item hkl
   have eg2 : g = g2:=by have h:=HET.out.1.symm.trans eg;simpa using h
   subst eg2
   obtain ⟨x,hx⟩:=xe (xs[st + k])
   rw [<- hx] at y0 y1 y2 y3
   have HX : Hid ((xs.drop st).take (k + 1) = (xs.drop st).take k ++ [x]):=by
    show _ = _
    rw [List.take_add_one,List.getElem?_drop,List.getElem?_eq_getElem hkl,hx];rfl
   have lx : (st : Int) + (k : Int) < (xs.length : Int):=by omega
   have l0 : (0 : Int) <= (st : Int) + (k : Int):=by omega
   have tn : ((st : Int) + (k : Int)).toNat = st + k:=by omega
   have wkk : IntKind.i64.wrap ((st : Int) + (k : Int)) = (st : Int) + (k : Int):=wk (by omega)
   have wk1 : IntKind.i64.wrap ((st : Int) + (k : Int) + 1) = (st : Int) + (k : Int) + 1:=wk (by omega)
   clear hx eg
   go_wp2_with (first | (at_builtin;refine wpList_append_lies _ rfl _ _ 43 rfl W4.heap.size 99 it _ 4 64 Tryz.underlying43 ht0 ht1 ht2 ht3 rfl (by omega) (.slice va k vc) k (tisC ((xs.drop st).take k)) rfl (hO.alloc _) ⟨wr.heap.size,0,none⟩ 1 1 [Value.int .i64 x.1.op,Value.string x.1.md,Value.string x.1.nm,Value.slice x.2.a x.1.ns.length x.2.c] rfl rfl (World.news_of_block (cs:=#[Value.int .i64 x.1.op,Value.string x.1.md,Value.string x.1.nm,Value.slice x.2.a x.1.ns.length x.2.c]) (t:=99) (fr:=(0,0)) (heap_alloc_new wr _)) (by simp [Value.oneCell']) (by omega) (by unfold maxLen;omega) (by omega) (by simp only [World.size_alloc];omega) (wr.heap.size + 1) (by simp) ?_;intro gg cap3 w8 hown3 hg3 hat3 hlt3))
   have HN : Hid (Bw W4 w8):=below_grown HW.out hg3 (fun b e=>(hO.lt b e).1)
   refine ⟨⟨k + 1,by omega,?_,?_,HN⟩,?_⟩
   ·have : (st : Int) + (k : Int) + 1 = (st : Int) + ((k + 1 : Nat) : Int):=by omega
    first | rw [this] | (rw [wk1,this])
   ·rw [HX.out,tisC_snoc]
    exact hown3
   ·simp [intOf];omega
  have lk : ¬ (st : Int) + (k : Int) < (p0 : Int):=by omega
  have HAR : Hid (RT 0 wr (.slice va k vc) ((xs.drop st).take k) /\ (∀ y,y ∈ (xs.drop st).take k -> SmG y) /\ ((xs.drop st).take k).length <= 13):=by
   obtain ⟨B,R⟩:=(HBS.out wr HW1.out).2.2.rt
   have hm : ∀ y,y ∈ (xs.drop st).take k -> y ∈ xs:=fun y hy=>List.mem_of_mem_drop (List.mem_of_mem_take hy)
   have hlk : ((xs.drop st).take k).length = k:=by rw [List.length_take,List.length_drop];omega
   refine ⟨⟨?_,fun y hy=>(R.nm y (hm y hy)).mono (Nat.zero_le _)⟩,fun y hy=>HTH.out.sm y (hm y hy),by omega⟩
   rw [hlk]
   exact own_mono hO (Nat.zero_le _)
  obtain ⟨ys,hys⟩:=xe ((xs.drop st).take k)
  rw [<- hys] at HAR
  clear hys hO
  have hlx : q1 < xs.length:=by have:=HET.out.2;omega
  have C6:=HCI.out wr.drew xs l ta tc q1 (p + 1) ((HBS.out wr HW1.out).1.below (Below.refl _ _).drew) ((HBS.out wr HW1.out).2.1.below (Below.refl _ _).drew) ((HBS.out wr HW1.out).2.2.below (Below.refl _ _).drew) HTH.out hlx (nlr _)
  rw [HET.out.1,show ((p + 1 : Nat) : Int) = (p : Int) + 1 by omega] at C6
  have HC6:=hidF C6
  obtain ⟨x0,x1,x2⟩:=HCX.out wr HW1.out
  have HCC : Hid (∀ W,Bw W1 W -> Bw w3 W -> W.cell? ⟨w.heap.size,0,none⟩ = some (.slice tp.a T.length tp.c) /\ W.cell? ⟨w.heap.size,1,none⟩ = some (.slice vp.a V.length vp.c) /\ W.cell? ⟨w.heap.size,2,none⟩ = some (.slice mp.a M.length mp.c) /\ W.cell? ⟨go,1,none⟩ = some (.int .i64 ((q1 : Int) + 1))):=fun W h1 h2=>⟨(HCX.out W h1).1,(HCX.out W h1).2.1,(HCX.out W h1).2.2,(HPC.out W h2).2⟩
  clear C6
  go_wp2
  go_region_held3 (fun wq=>wq.cell? ⟨w.heap.size,0,none⟩ = some (.slice tp.a T.length tp.c) /\ wq.cell? ⟨w.heap.size,1,none⟩ = some (.slice vp.a V.length vp.c) /\ wq.cell? ⟨w.heap.size,2,none⟩ = some (.slice mp.a M.length mp.c) /\ wq.cell? ⟨go,1,none⟩ = some (.int .i64 ((q1 : Int) + 1))) (go_keep) ((go_at_call 91;(with_reducible refine HC6.out.mono ?_);rintro e5 w7 ⟨⟨v3,n3,c3,q3,rfl,hr1,hr2,HG3⟩,HB7⟩;obtain ⟨u0,u1,u2,u3⟩:=HCC.out w7 (HW1.out.drew.trans (HB7.out.mono HW1.out.size)) (HW3.out.drew.trans (HB7.out.mono HW3.out.size))))
  all_goals
   have HKW : Hid (Bw W1 w7):=HW1.out.drew.trans (HB7.out.mono HW1.out.size)
   have HBW : Hid (Bw wr w7):=(Below.refl _ _).drew.trans HB7.out
   obtain ⟨es,G⟩:=HG3.out
   have OWN:=G.own
   have hnl:=G.le
   have HGX : Hid (GE wr.heap.size 0 w7 v3 n3 c3 X1 es):=G
   have HRR : Hid (RT 0 w7 (.slice va k vc) ys):=HAR.out.1.below HBW.out
   have hsr : w.heap.size <= wr.heap.size:=Nat.le_trans HB1.out.size HW1.out.size
   have hs7:=HBW.out.size
   clear G HG3 HC6 x0 x1 x2 c0 c1 u0 u1 u2 u3
   go_wp2_with (first | (at_builtin;refine wpList_append_lies _ rfl _ _ 44 rfl wr.heap.size 70 i0 _ 6 96 Tryz.underlying44 hi0 hi1 hi2 hi3 rfl (by omega) (.slice v3 n3 c3) n3 (eisC es) rfl (OWN.alloc _) ⟨w7.heap.size,0,none⟩ 1 1 [.int .i64 6,.int .i64 0,.string ⟨#[]⟩,.string sn,.slice none 0 0,.slice va k vc] rfl rfl (World.news_of_block (cs:=#[.int .i64 6,.int .i64 0,.string ⟨#[]⟩,.string sn,.slice none 0 0,.slice va k vc]) (t:=70) (fr:=(0,0)) (heap_alloc_new w7 _)) (by simp [Value.oneCell']) (by omega) (by unfold maxLen;omega) (by omega) (by simp only [World.size_alloc];omega) (w7.heap.size + 1) (by simp) ?_;intro gg cap3 w9 hown3 hg3 hat hlt3))
   go_ret2
   have hct:=cTs_le HAR.out.2.1
   have hyl:=HAR.out.2.2
   have hcE : cE (⟨6,0,e0,sn,[],ys.map Prod.fst⟩ : EI) = e0.size + sn.size + 0 + cTs (ys.map Prod.fst):=rfl
   have e00 : e0.size = 0:=rfl
   have PU:=HGX.out.push (x:=((⟨6,0,e0,sn,[],ys.map Prod.fst⟩ : EI),(⟨⟨none,0,0⟩,.slice va k vc,ys⟩ : EPl))) (X':=X) hown3 hg3 ⟨NmOK.nil _ _ _,HRR.out,rfl⟩ ⟨nlr _,HAR.out.2.1⟩ (by show X1 + 1 + cE (⟨6,0,e0,sn,[],ys.map Prod.fst⟩ : EI) <= _;have:=HS.out;omega)
   refine ⟨⟨some ⟨gg,0,none⟩,n3 + 1,cap3,q3,rfl,by omega,by omega,_,PU.mono hsr (nlr _) (nlr _)⟩,?_⟩
   exact below_grown (HB1.out.trans (HKW.out.mono HB1.out.size)) hg3 (fun j e=>Nat.le_trans hsr (OWN.lt j e).1)
end Go.Proofs.YtcehppndpccldaaGreatDoor
