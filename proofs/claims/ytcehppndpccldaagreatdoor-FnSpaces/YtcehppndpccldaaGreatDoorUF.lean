/-
  QbU
-/
import Derived.Test.YtcehppndpccldaaGreatDoorUC
set_option maxHeartbeats 4000000
set_option maxRecDepth 100000
namespace Go.Proofs.YtcehppndpccldaaGreatDoor
open Go.RowKit
theorem g_F_rec (w : World) (z : Int) (_hz1 : -10 <= z) (_hz2 : z <= 2) {P X : Nat} {ca : Option Addr} {cb co Ln cc p : Nat} {C : Nat -> Nat} (hC : BytesAt w ca cb co Ln C) (hLn : Ln <= 1048576) (hp : p <= 900000) {T V M : List ByteArray} {tp vp mp : NPl} (hS : Sc w T V M tp vp mp) {xs : List (TI × NPl)} {l : List TI} {ta : Option Addr} {tc e : Nat} (hT : TsA w (.slice ta xs.length tc) xs) (hH : TH xs l) (he : e < xs.length)
  {P1 X1 : Nat} (hz : -3 < z) (hP : 1 + 3 * P1 <= P) (hX : 3 * X1 + 70 <= X) (hX1 : X1 <= 100000) (_hP1 : P1 <= 40000) (hca : tk C Ln p 16 ≠ 15) (hop : xs[e].1.op = 5) (CI : CF (z - 1) P1 X1 (p + 1 + 2 * P1) ca cb co Ln cc C T V M tp vp mp) :
  Calls Tryz.prog 91 #[.slice ca Ln cc,.int .i64 (p : Int),.agg #[.slice tp.a T.length tp.c,.slice vp.a V.length vp.c,.slice mp.a M.length mp.c],.slice ta xs.length tc,.int .i64 ((e : Int) + 1),.int .i64 z] w (GnF w P X p):=by
 obtain ⟨i0,hi0,hi1,hi2,hi3⟩:=info_parts Tryz.infoEI
 have HLM : Hid (M.length <= 1000):=hS.lm.1
 have hx13:=hH.len
 have HTH : Hid (TH xs l):=hH
 obtain ⟨W1,W2,a,g,nd,xt,op,ps,hW1,hW2,HB1,HB2,C1,ha,ha16,HCX,HBS,eta,y0,y1,y2,y3,HXM,hope,HTX,CP,HPL⟩:=f_pre w hC (cc:=cc) hLn hp hS hT hH he
 rw [<- ha] at hca
 rw [<- hope] at hop
 have HOP : Hid (op = xt.1.op):=by rw [HXM.out.2];exact hope
 have we1 : IntKind.i64.wrap ((e : Int) + 1 - 1) = (e : Int):=wk (by omega)
 have we2 : IntKind.i64.wrap (e : Int) = (e : Int):=wk (by omega)
 have hel : (e : Int) < (xs.length : Int):=by omega
 have he0 : (0 : Int) <= (e : Int):=by omega
 have n15 : ((a : Int) == 15) = false:=bn2 (by omega)
 have wz : IntKind.i64.wrap (z - 1) = z - 1:=wk (by omega)
 have HCI : Hid (CF (z - 1) P1 X1 (p + 1 + 2 * P1) ca cb co Ln cc C T V M tp vp mp):=CI
 have HET : Hid (ta = some ⟨g,0,none⟩ /\ e < xs.length):=⟨eta,he⟩
 have HND : Hid (nd = xt.1.ns.length):=by
  obtain ⟨f,f1,f2⟩:=hH.item he
  show _ = _
  rw [HPL.out.2.1,f2]
  rw [<- HXM.out.2] at f1
  have hopx:=HOP.out
  rcases fT_cases f1 with ⟨o,_⟩ | ⟨o,_⟩ | ⟨o,_⟩ | ⟨o,_⟩ | ⟨o,rfl⟩ | ⟨o,_⟩
  ·omega
  ·omega
  ·omega
  ·omega
  ·exact (brc_ok _ _ _).2.1
  ·omega
 have hsm:=hH.sm xt HXM.out.1
 have hnl3 : xt.1.ns.length <= 3:=hsm.len
 have HSM : Hid (∀ s,s ∈ xt.1.ns -> s.size <= 12):=hsm.nms
 have hnd3 : nd <= 3:=by rw [HND.out];exact hnl3
 have hop2 : op = 5:=hop
 clear hca hop CI hsm
 subst hop2
 have eta':=eta
 rw [eta]
 clear hC hS ha hT hH hope eta
 go_enter Tryz.func91,Tryz.ntmps91
 go_wp2_with fail
 rw [<- hW1]
 clear hW1
 refine C1.mono ?_
 rintro e' w7 ⟨rfl,rfl⟩
 clear C1
 go_wp2_with fail
 rw [<- hW2]
 rw [eta'] at CP
 refine CP.mono ?_
 rintro e' w3 ⟨va,cp,rfl,OWN,BP⟩
 have HB3 : Hid (Bw W2 w3):=BP
 have HPS : Hid (w3.ownsRow W2.heap.size 3 1 (.slice va nd cp) nd (inC ps)):=OWN
 have HB13 : Hid (Bw W1 w3):=HB2.out.trans (HB3.out.mono HB2.out.size)
 obtain ⟨W4,hW4⟩:=xe (w3.alloc (.cells #[] 70))
 have HB4 : Hid (Bw w3 W4):=by rw [hW4];exact bel1 _ _
 have HN4 : Hid (GE w3.heap.size 0 W4 (some ⟨w3.heap.size,0,none⟩) 0 0 0 []):=by rw [hW4];exact ge_nil w3
 have HB14 : Hid (Bw W1 W4):=HB13.out.trans (HB4.out.mono HB13.out.size)
 have HB24 : Hid (Bw W2 W4):=HB3.out.trans (HB4.out.mono HB3.out.size)
 obtain ⟨t0,t3⟩:=HTX.out W4 HB24.out
 obtain ⟨x0,x1,x2⟩:=HCX.out W4 HB14.out
 rw [hW4] at t0 t3 x0 x1 x2
 clear CP BP OWN hW2 y0 y1 y2 y3 we1 we2 hel he0
 have HPC : Hid (∀ W,Bw w3 W -> ∀ (k : Nat) (hk : k < ps.length),∃ go,va = some ⟨go,0,none⟩ /\ W.cell? ⟨go,k,none⟩ = some (.int .i64 (ps[k] : Int))):=fun W hb k hk=>by
  have hnl:=HPL.out.1
  have h:=own_kp HPS.out (below_kp hb) (by decide)
  rw [<- hnl] at h
  obtain ⟨go,gc,ev,_⟩:=own_blk h (by omega)
  simp only [Value.slice.injEq] at ev
  obtain ⟨rfl,-,rfl⟩:=ev
  exact ⟨go,rfl,own_int h rfl hk⟩
 have HG0 : Hid (OpF w W4 W4 0 X1 0 (some ⟨w3.heap.size,0,none⟩) 0 0 []):=⟨HN4.out.mono (Nat.le_trans HB1.out.size HB13.out.size) (nlr _) (Nat.zero_le _),Below.refl _ _⟩
 go_wp2_with fail
 rw [<- hW4]
 clear hW4 x0 x1 x2 t0 t3
 go_loopw [1,18,22] (fun pp o i wr=>∃ (k q n1 c1 : Nat) (va1 : Option Addr),k <= nd /\ i = .int .i64 k /\ pp = .int .i64 q /\ p + 1 <= q /\ q <= p + 1 + k * P1 /\ o = .slice va1 n1 c1 /\ Hid (∃ es,OpF w W4 wr 0 X1 k va1 n1 c1 es)) (fun _ _ i _=>nd - (intOf i).toNat)
 case atStart=>exact ⟨0,p + 1,0,0,_,Nat.zero_le _,rfl,by rfl,by omega,by omega,rfl,_,HG0.out⟩
 case round=>
  clear HG0 HN4
  obtain ⟨k,q,n1,c1,va1,hk,rfl,rfl,hq1,hq2,rfl,HG⟩:=hrel
  obtain ⟨es,G0⟩:=HG.out
  have HK0 : Hid (Bw W4 wr):=G0.bel
  have HKW : Hid (Bw W1 wr):=HB14.out.trans (HK0.out.mono HB14.out.size)
  have HK3 : Hid (Bw w3 wr):=HB4.out.trans (HK0.out.mono HB4.out.size)
  have HK2 : Hid (Bw W2 wr):=HB24.out.trans (HK0.out.mono HB24.out.size)
  obtain ⟨y0,y1,y2⟩:=HCX.out wr HKW.out
  have hkP : k * P1 <= 3 * P1:=Nat.mul_le_mul_right _ (by omega)
  have hkX : k * X1 <= 3 * X1:=Nat.mul_le_mul_right _ (by omega)
  have hP2 : (k + 1) * P1 = k * P1 + P1:=Nat.succ_mul _ _
  have HGX : Hid (OpF w W4 wr 0 X1 k va1 n1 c1 es):=G0
  by_cases hlt : k < nd
  ·have lk : (k : Int) < (nd : Int):=by omega
   have l0 : (0 : Int) <= (k : Int):=by omega
   have hk1 : k * P1 <= 2 * P1:=Nat.mul_le_mul_right _ (by omega)
   have hkp : k < ps.length:=by have:=HPL.out.1;omega
   have hmk:=HPL.out.2.2 ps[k] (List.getElem_mem hkp)
   obtain ⟨qk,hqk⟩ : ∃ qk,ps[k] = qk + 1:=⟨ps[k] - 1,by omega⟩
   rw [hqk] at hmk
   have HPK : Hid (∀ W,Bw w3 W -> ∃ go,va = some ⟨go,0,none⟩ /\ W.cell? ⟨go,k,none⟩ = some (.int .i64 ((qk : Int) + 1))):=fun W hb=>by
    obtain ⟨go,e1,e2⟩:=HPC.out W hb k hkp
    refine ⟨go,e1,?_⟩
    rw [e2,hqk];rfl
   obtain ⟨go,ego,c0⟩:=HPK.out wr HK3.out
   have HEG : Hid (va = some ⟨go,0,none⟩):=ego
   have C6:=HCI.out wr.drew xs l ta tc qk q ((HBS.out wr HKW.out).1.below (Below.refl _ _).drew) ((HBS.out wr HKW.out).2.1.below (Below.refl _ _).drew) ((HBS.out wr HKW.out).2.2.below (Below.refl _ _).drew) HTH.out (by have:=HET.out.2;omega) (by omega)
   rw [HET.out.1] at C6
   have HC6:=hidF C6
   have HCC : Hid (∀ W,Bw W1 W -> Bw w3 W -> W.cell? ⟨w.heap.size,0,none⟩ = some (.slice tp.a T.length tp.c) /\ W.cell? ⟨w.heap.size,1,none⟩ = some (.slice vp.a V.length vp.c) /\ W.cell? ⟨w.heap.size,2,none⟩ = some (.slice mp.a M.length mp.c) /\ W.cell? ⟨go,k,none⟩ = some (.int .i64 ((qk : Int) + 1))):=fun W h1 h2=>⟨(HCX.out W h1).1,(HCX.out W h1).2.1,(HCX.out W h1).2.2,by
    obtain ⟨g2,e1,e2⟩:=HPK.out W h2
    have e3 : go = g2:=by have h:=HEG.out.symm.trans e1;simpa using h
    rw [e3];exact e2⟩
   rw [ego]
   clear C6 G0 HG hqk ego
   go_wp2
   go_region_held3 (fun wq=>wq.cell? ⟨w.heap.size,0,none⟩ = some (.slice tp.a T.length tp.c) /\ wq.cell? ⟨w.heap.size,1,none⟩ = some (.slice vp.a V.length vp.c) /\ wq.cell? ⟨w.heap.size,2,none⟩ = some (.slice mp.a M.length mp.c) /\ wq.cell? ⟨go,k,none⟩ = some (.int .i64 ((qk : Int) + 1))) (go_keep) ((go_at_call 91;(with_reducible refine HC6.out.mono ?_);rintro e5 w7 ⟨⟨v3,n3,c3,q3,rfl,hr1,hr2,HG3⟩,HB7⟩;obtain ⟨u0,u1,u2,u3⟩:=HCC.out w7 (HKW.out.drew.trans (HB7.out.mono HKW.out.size)) (HK3.out.drew.trans (HB7.out.mono HK3.out.size))))
   all_goals
    have HBW : Hid (Bw wr w7):=(Below.refl _ _).drew.trans HB7.out
    obtain ⟨ys,G⟩:=HG3.out
    have C4:=j_E w7 (HGX.out.ge.below HBW.out) G (by omega)
    clear G HG3 HC6 y0 y1 y2 u0 u1 u2 u3 c0
    go_wp2_with fail
    refine C4.mono ?_
    rintro e2 w8 ⟨⟨v4,n4,c4,rfl,HR4⟩,HB8⟩
    clear C4
    go_wp2
    refine ⟨⟨k + 1,q3,n4,c4,v4,by omega,by go_num,rfl,by omega,by omega,rfl,_,HGX.out.step (Nat.le_trans HB1.out.size HB14.out.size) HBW.out HB8.out HR4.out⟩,by simp [intOf];omega⟩
  ·have hkn : k = nd:=by omega
   subst hkn
   have lk : ¬ (k : Int) < (k : Int):=by omega
   obtain ⟨t0,t3⟩:=HTX.out wr HK2.out
   have C7 : Calls Tryz.prog 92 #[.slice xt.2.a xt.1.ns.length xt.2.c] wr fun e wq=>(∃ va c2,e = .returned (.slice va xt.1.ns.length c2) /\ Hid (wq.ownsRow wr.heap.size 9 1 (.slice va xt.1.ns.length c2) xt.1.ns.length (sts xt.1.ns))) /\ Hid (Bw wr wq):=by
    obtain ⟨B,R⟩:=(HBS.out wr HKW.out).2.2.rt
    exact d_copy wr (R.nm xt HXM.out.1).nsa (by omega)
   clear G0 HG y0 y1 y2
   go_wp2_with fail
   refine C7.mono ?_
   rintro e2 w9 ⟨⟨va9,c9,rfl,HO9⟩,HB9⟩
   clear C7 t0 t3
   have HG9 : Hid (GE w.heap.size 0 w9 va1 n1 c1 (0 + k * X1) es):=HGX.out.ge.below HB9.out
   have HBZ : Hid (Bw w w9):=HB1.out.trans ((HKW.out.trans (HB9.out.mono HKW.out.size)).mono HB1.out.size)
   obtain ⟨ns,hns⟩:=xe (xt.1.ns)
   rw [<- hns] at HO9 HSM hnl3
   rw [<- hns]
   have hsr : w.heap.size <= wr.heap.size:=Nat.le_trans HB1.out.size HKW.out.size
   have hs9:=HB9.out.size
   have HNP : Hid (k = ns.length):=by rw [hns];exact HND
   clear hns
   obtain ⟨nn,hnn⟩:=xe (ns.length)
   rw [<- hnn] at HO9 hnl3
   rw [<- hnn]
   have HNN : Hid (nn = ns.length):=hnn
   clear hnn
   by_cases h14 : a = 14
   ·subst h14
    obtain ⟨g8,hn8⟩:=nm_of_own HNN.out HO9.out
    have C8:=v_twice w9 hn8.nsa (va:=va9) (n:=nn) (c:=c9) (Nat.le_of_eq HNN.out) (fun h=>(hn8 (by rintro rfl;have:=HNN.out;simp at this;omega)).1) (by omega) ⟨#[109,111,114,101]⟩
    obtain ⟨bt,hbt⟩:=xe (hasN (ns.take nn) ⟨#[109,111,114,101]⟩)
    rw [<- hbt] at C8
    clear hbt hn8
    go_wp2_with fail
    refine C8.mono ?_
    rintro e2 wA ⟨rfl,hwA⟩
    subst hwA
    clear C8
    cases bt
    ·have OW9:=HG9.out.own
     have hnl:=HG9.out.le
     have HSZ : Hid (∀ x,x ∈ es ++ [((⟨1,0,e0,e0,[],[]⟩ : EI),ep0)] -> (x.1.ns ≠ [] -> some x.2.np.b ≠ (Value.slice va9 nn c9).ownBlock) /\ ∀ y,y ∈ x.2.zs -> y.1.ns ≠ [] -> some y.2.b ≠ (Value.slice va9 nn c9).ownBlock):=fun x hx=>by
      rcases List.mem_append.1 hx with h | h
      ·refine ⟨fun hne e1=>?_,fun y hy hne e1=>?_⟩
       ·have h1:=(HO9.out.lt _ e1.symm).1
        obtain ⟨_,_,N,f,r,_,_⟩:=(HGX.out.ge.ok x h).nm hne
        have:=r.lt
        omega
       ·have h1:=(HO9.out.lt _ e1.symm).1
        obtain ⟨_,_,N,f,r,_,_⟩:=(HGX.out.ge.ok x h).ty.nm y hy hne
        have:=r.lt
        omega
      ·rw [ms1 h]
       exact ⟨fun h=>(h rfl).elim,fun y hy=>(List.not_mem_nil hy).elim⟩
     go_upto_region 27 with (first | (at_builtin;refine wpList_append_lies _ rfl _ _ 44 rfl w.heap.size 70 i0 _ 6 96 Tryz.underlying44 hi0 hi1 hi2 hi3 rfl (by omega) (.slice va1 n1 c1) n1 (eisC es) rfl (OW9.alloc _) ⟨wA.heap.size,0,none⟩ 1 1 [.int .i64 1,.int .i64 0,.string ⟨#[]⟩,.string ⟨#[]⟩,.slice none 0 0,.slice none 0 0] rfl rfl (World.news_of_block (cs:=#[.int .i64 1,.int .i64 0,.string ⟨#[]⟩,.string ⟨#[]⟩,.slice none 0 0,.slice none 0 0]) (t:=70) (fr:=(0,0)) (heap_alloc_new wA _)) (by simp [Value.oneCell']) (by omega) (by unfold maxLen;omega) (by omega) (by simp only [World.size_alloc];omega) (wA.heap.size + 1) (by simp) ?_;intro ggB capB wB hownB hgB hatB hltB))
     have hcE1 : cE (⟨1,0,e0,e0,[],[]⟩ : EI) = e0.size + e0.size:=cE_bare
     have e00 : e0.size = 0:=rfl
     have HGB : Hid (GE w.heap.size 0 wB (some ⟨ggB,0,none⟩) (n1 + 1) capB (k * X1 + 1) (es ++ [((⟨1,0,e0,e0,[],[]⟩ : EI),ep0)])):=HG9.out.push (x:=((⟨1,0,e0,e0,[],[]⟩ : EI),ep0)) (X':=k * X1 + 1) hownB hgB (ri_bare _) sm_bare (by show 0 + k * X1 + 1 + cE (⟨1,0,e0,e0,[],[]⟩ : EI) <= _;omega)
     have HBB : Hid (Bw w wB):=below_grown HBZ.out hgB (fun j e=>(OW9.lt j e).1)
     have HOB : Hid (wB.ownsRow wr.heap.size 9 1 (.slice va9 nn c9) nn (sts ns)):=own_kp HO9.out ((kp_alloc _ wA _).trans (grown_kp (OW9.alloc _) hgB)) (by decide)
     have OB:=HOB.out
     have hsB : wA.heap.size <= wB.heap.size:=by have:=hgB.size;simp only [World.size_alloc] at this;omega
     clear hownB hgB hatB hltB OW9 HG9 hcE1 e00
     obtain ⟨i9,hj0,hj1,hj2,hj3⟩:=info_parts Tryz.info9
     go_upto_region 28 with (first | (at_builtin;refine wpList_append_lies _ rfl _ _ 66 rfl wr.heap.size 9 i9 _ 1 16 Tryz.underlying66 hj0 hj1 hj2 hj3 rfl (by omega) (.slice va9 nn c9) nn (sts ns) rfl (OB.alloc _) ⟨wB.heap.size,0,none⟩ 1 1 [.string ⟨#[109,111,114,101]⟩] rfl rfl (World.news_of_block (cs:=#[.string ⟨#[109,111,114,101]⟩]) (t:=9) (fr:=(0,0)) (heap_alloc_new wB _)) (by simp [Value.oneCell']) (by omega) (by unfold maxLen;omega) (by omega) (by simp only [World.size_alloc];omega) (wB.heap.size + 1) (by simp) ?_;intro ggC capC wC hownC hgC hatC hltC))
     have HOC : Hid (wC.ownsRow wr.heap.size 9 1 (.slice (some ⟨ggC,0,none⟩) (nn + 1) capC) (nn + 1) (sts (ns ++ [⟨#[109,111,114,101]⟩]))):=by rw [sts_snoc];exact hownC
     have HGC : Hid (GE w.heap.size 0 wC (some ⟨ggB,0,none⟩) (n1 + 1) capB (k * X1 + 1) (es ++ [((⟨1,0,e0,e0,[],[]⟩ : EI),ep0)])):=ge_names HGB.out HOB.out hgC HSZ.out
     have HBZC : Hid (Bw w wC):=below_grown HBB.out hgC (fun j e=>Nat.le_trans hsr (HOB.out.lt j e).1)
     clear hownC hgC hatC hltC OB HGB HBB HBZ HB9 HO9 hnl
     have HBZ:=HBZC
     have OWN:=HGC.out.own
     have hnl:=HGC.out.le
     have hsc : w.heap.size <= wC.heap.size:=HBZC.out.size
     have HSN : Hid (∀ s,s ∈ ns ++ [⟨#[109,111,114,101]⟩] -> s.size <= 12):=fun s hs=>by
      rcases List.mem_append.1 hs with h | h
      ·exact HSM.out s h
      ·rw [ms1 h];decide
     have HLN : Hid (nn + 1 = (ns ++ [(⟨#[109,111,114,101]⟩ : ByteArray)]).length):=by rw [lap,HNN.out];exact rfl
     go_wp2_with (first | (at_builtin;refine wpList_append_lies _ rfl _ _ 44 rfl w.heap.size 70 i0 _ 6 96 Tryz.underlying44 hi0 hi1 hi2 hi3 rfl (by omega) (.slice (some ⟨ggB,0,none⟩) (n1 + 1) capB) (n1 + 1) (eisC (es ++ [((⟨1,0,e0,e0,[],[]⟩ : EI),ep0)])) rfl (OWN.alloc _) ⟨wC.heap.size,0,none⟩ 1 1 [.int .i64 4,.int .i64 0,.string ⟨#[]⟩,.string ⟨#[]⟩,.slice (some ⟨ggC,0,none⟩) (nn + 1) capC,.slice none 0 0] rfl rfl (World.news_of_block (cs:=#[.int .i64 4,.int .i64 0,.string ⟨#[]⟩,.string ⟨#[]⟩,.slice (some ⟨ggC,0,none⟩) (nn + 1) capC,.slice none 0 0]) (t:=70) (fr:=(0,0)) (heap_alloc_new wC _)) (by simp [Value.oneCell']) (by omega) (by unfold maxLen;omega) (by omega) (by simp only [World.size_alloc];omega) (wC.heap.size + 1) (by simp) ?_;intro gg cap3 wZ hown3 hg3 hat hlt3))
     go_ret2
     obtain ⟨g9,hnm⟩:=nm_of_own (ns:=ns ++ [(⟨#[109,111,114,101]⟩ : ByteArray)]) HLN.out HOC.out
     have hcp:=own_cap HOC.out
     have hsz : szs (ns ++ [(⟨#[109,111,114,101]⟩ : ByteArray)]) <= 12 * (ns ++ [(⟨#[109,111,114,101]⟩ : ByteArray)]).length:=szs_le HSN.out
     have hcE : cE (⟨4,0,e0,e0,ns ++ [(⟨#[109,111,114,101]⟩ : ByteArray)],[]⟩ : EI) <= 60:=by
      show e0.size + e0.size + cN (ns ++ [(⟨#[109,111,114,101]⟩ : ByteArray)]) + cTs [] <= 60
      have e00 : e0.size = 0:=rfl
      have e01 : cTs [] = 0:=rfl
      have e02 : (ns ++ [(⟨#[109,111,114,101]⟩ : ByteArray)]).length = (nn + 1):=HLN.out.symm
      unfold cN
      omega
     have PU:=HGC.out.push (x:=((⟨4,0,e0,e0,ns ++ [(⟨#[109,111,114,101]⟩ : ByteArray)],[]⟩ : EI),(⟨⟨(some ⟨ggC,0,none⟩),g9,capC⟩,.slice none 0 0,[]⟩ : EPl))) (X':=X) (by rw [show eiC ((⟨4,0,e0,e0,ns ++ [(⟨#[109,111,114,101]⟩ : ByteArray)],[]⟩ : EI),(⟨⟨(some ⟨ggC,0,none⟩),g9,capC⟩,.slice none 0 0,[]⟩ : EPl)) = [.int .i64 4,.int .i64 0,.string ⟨#[]⟩,.string ⟨#[]⟩,.slice (some ⟨ggC,0,none⟩) (nn + 1) capC,.slice none 0 0] by unfold eiC;rw [show (ns ++ [(⟨#[109,111,114,101]⟩ : ByteArray)]).length = (nn + 1) from HLN.out.symm];rfl];exact hown3) hg3 ⟨hnm.mono (Nat.zero_le _),⟨World.ownsRow_nil _ _ _ _,fun x hx=>by cases hx⟩,rfl⟩ ⟨by show (ns ++ [(⟨#[109,111,114,101]⟩ : ByteArray)]).length <= capC;rw [show (ns ++ [(⟨#[109,111,114,101]⟩ : ByteArray)]).length = (nn + 1) from HLN.out.symm];exact hcp,fun y hy=>by cases hy⟩ (by show k * X1 + 1 + 1 + cE (⟨4,0,e0,e0,ns ++ [(⟨#[109,111,114,101]⟩ : ByteArray)],[]⟩ : EI) <= _;omega)
     refine ⟨⟨some ⟨gg,0,none⟩,(n1 + 1) + 1,cap3,q,rfl,by omega,by omega,_,PU⟩,?_⟩
     exact below_grown HBZ.out hg3 (fun j e=>(OWN.lt j e).1)
    ·have OWN:=HG9.out.own
     have hnl:=HG9.out.le
     have HSN : Hid (∀ s,s ∈ ns -> s.size <= 12):=HSM
     go_wp2_with (first | (at_builtin;refine wpList_append_lies _ rfl _ _ 44 rfl w.heap.size 70 i0 _ 6 96 Tryz.underlying44 hi0 hi1 hi2 hi3 rfl (by omega) (.slice va1 n1 c1) n1 (eisC es) rfl (OWN.alloc _) ⟨wA.heap.size,0,none⟩ 1 1 [.int .i64 4,.int .i64 0,.string ⟨#[]⟩,.string ⟨#[]⟩,.slice va9 nn c9,.slice none 0 0] rfl rfl (World.news_of_block (cs:=#[.int .i64 4,.int .i64 0,.string ⟨#[]⟩,.string ⟨#[]⟩,.slice va9 nn c9,.slice none 0 0]) (t:=70) (fr:=(0,0)) (heap_alloc_new wA _)) (by simp [Value.oneCell']) (by omega) (by unfold maxLen;omega) (by omega) (by simp only [World.size_alloc];omega) (wA.heap.size + 1) (by simp) ?_;intro gg cap3 wZ hown3 hg3 hat hlt3))
     go_ret2
     obtain ⟨g9,hnm⟩:=nm_of_own (ns:=ns) HNN.out HO9.out
     have hcp:=own_cap HO9.out
     have hsz : szs (ns) <= 12 * (ns).length:=szs_le HSN.out
     have hcE : cE (⟨4,0,e0,e0,ns,[]⟩ : EI) <= 60:=by
      show e0.size + e0.size + cN (ns) + cTs [] <= 60
      have e00 : e0.size = 0:=rfl
      have e01 : cTs [] = 0:=rfl
      have e02 : (ns).length = nn:=HNN.out.symm
      unfold cN
      omega
     have PU:=HG9.out.push (x:=((⟨4,0,e0,e0,ns,[]⟩ : EI),(⟨⟨va9,g9,c9⟩,.slice none 0 0,[]⟩ : EPl))) (X':=X) (by rw [show eiC ((⟨4,0,e0,e0,ns,[]⟩ : EI),(⟨⟨va9,g9,c9⟩,.slice none 0 0,[]⟩ : EPl)) = [.int .i64 4,.int .i64 0,.string ⟨#[]⟩,.string ⟨#[]⟩,.slice va9 nn c9,.slice none 0 0] by unfold eiC;rw [show (ns).length = nn from HNN.out.symm];rfl];exact hown3) hg3 ⟨hnm.mono (Nat.zero_le _),⟨World.ownsRow_nil _ _ _ _,fun x hx=>by cases hx⟩,rfl⟩ ⟨by show (ns).length <= c9;rw [show (ns).length = nn from HNN.out.symm];exact hcp,fun y hy=>by cases hy⟩ (by show 0 + k * X1 + 1 + cE (⟨4,0,e0,e0,ns,[]⟩ : EI) <= _;omega)
     refine ⟨⟨some ⟨gg,0,none⟩,n1 + 1,cap3,q,rfl,by omega,by omega,_,PU⟩,?_⟩
     exact below_grown HBZ.out hg3 (fun j e=>(OWN.lt j e).1)
   ·have n14 : ((a : Int) == 14) = false:=bn2 (by omega)
    have OWN:=HG9.out.own
    have hnl:=HG9.out.le
    have HSN : Hid (∀ s,s ∈ ns -> s.size <= 12):=HSM
    go_wp2_with (first | (at_builtin;refine wpList_append_lies _ rfl _ _ 44 rfl w.heap.size 70 i0 _ 6 96 Tryz.underlying44 hi0 hi1 hi2 hi3 rfl (by omega) (.slice va1 n1 c1) n1 (eisC es) rfl (OWN.alloc _) ⟨w9.heap.size,0,none⟩ 1 1 [.int .i64 4,.int .i64 0,.string ⟨#[]⟩,.string ⟨#[]⟩,.slice va9 nn c9,.slice none 0 0] rfl rfl (World.news_of_block (cs:=#[.int .i64 4,.int .i64 0,.string ⟨#[]⟩,.string ⟨#[]⟩,.slice va9 nn c9,.slice none 0 0]) (t:=70) (fr:=(0,0)) (heap_alloc_new w9 _)) (by simp [Value.oneCell']) (by omega) (by unfold maxLen;omega) (by omega) (by simp only [World.size_alloc];omega) (w9.heap.size + 1) (by simp) ?_;intro gg cap3 wZ hown3 hg3 hat hlt3))
    go_ret2
    obtain ⟨g9,hnm⟩:=nm_of_own (ns:=ns) HNN.out HO9.out
    have hcp:=own_cap HO9.out
    have hsz : szs (ns) <= 12 * (ns).length:=szs_le HSN.out
    have hcE : cE (⟨4,0,e0,e0,ns,[]⟩ : EI) <= 60:=by
     show e0.size + e0.size + cN (ns) + cTs [] <= 60
     have e00 : e0.size = 0:=rfl
     have e01 : cTs [] = 0:=rfl
     have e02 : (ns).length = nn:=HNN.out.symm
     unfold cN
     omega
    have PU:=HG9.out.push (x:=((⟨4,0,e0,e0,ns,[]⟩ : EI),(⟨⟨va9,g9,c9⟩,.slice none 0 0,[]⟩ : EPl))) (X':=X) (by rw [show eiC ((⟨4,0,e0,e0,ns,[]⟩ : EI),(⟨⟨va9,g9,c9⟩,.slice none 0 0,[]⟩ : EPl)) = [.int .i64 4,.int .i64 0,.string ⟨#[]⟩,.string ⟨#[]⟩,.slice va9 nn c9,.slice none 0 0] by unfold eiC;rw [show (ns).length = nn from HNN.out.symm];rfl];exact hown3) hg3 ⟨hnm.mono (Nat.zero_le _),⟨World.ownsRow_nil _ _ _ _,fun x hx=>by cases hx⟩,rfl⟩ ⟨by show (ns).length <= c9;rw [show (ns).length = nn from HNN.out.symm];exact hcp,fun y hy=>by cases hy⟩ (by show 0 + k * X1 + 1 + cE (⟨4,0,e0,e0,ns,[]⟩ : EI) <= _;omega)
    refine ⟨⟨some ⟨gg,0,none⟩,n1 + 1,cap3,q,rfl,by omega,by omega,_,PU⟩,?_⟩
    exact below_grown HBZ.out hg3 (fun j e=>(OWN.lt j e).1)
end Go.Proofs.YtcehppndpccldaaGreatDoor
