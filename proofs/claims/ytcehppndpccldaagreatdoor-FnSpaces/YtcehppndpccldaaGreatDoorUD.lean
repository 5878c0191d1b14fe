/-
  QbR
-/
import Derived.Test.YtcehppndpccldaaGreatDoorUC
set_option maxHeartbeats 4000000
set_option maxRecDepth 100000
namespace Go.Proofs.YtcehppndpccldaaGreatDoor
open Go.RowKit
theorem g_F_if (w : World) (z : Int) (_hz1 : -10 <= z) (_hz2 : z <= 2) {P X : Nat} {ca : Option Addr} {cb co Ln cc p : Nat} {C : Nat -> Nat} (hC : BytesAt w ca cb co Ln C) (hLn : Ln <= 1048576) (hp : p <= 900000) {T V M : List ByteArray} {tp vp mp : NPl} (hS : Sc w T V M tp vp mp) {xs : List (TI × NPl)} {l : List TI} {ta : Option Addr} {tc e : Nat} (hT : TsA w (.slice ta xs.length tc) xs) (hH : TH xs l) (he : e < xs.length)
  {P1 X1 : Nat} (hz : 0 < z) (hP : 1 + 2 * P1 <= P) (hX : 2 + 2 * X1 <= X) (hX1 : X1 <= 100000) (_hP1 : P1 <= 40000) (hca : 10 <= tk C Ln p 16 /\ tk C Ln p 16 < 13) (hop : xs[e].1.op = 1 \/ xs[e].1.op = 3 \/ xs[e].1.op = 4) (CI : CF (z - 1) P1 X1 (p + 1 + P1) ca cb co Ln cc C T V M tp vp mp) :
  Calls Tryz.prog 91 #[.slice ca Ln cc,.int .i64 (p : Int),.agg #[.slice tp.a T.length tp.c,.slice vp.a V.length vp.c,.slice mp.a M.length mp.c],.slice ta xs.length tc,.int .i64 ((e : Int) + 1),.int .i64 z] w (GnF w P X p):=by
 obtain ⟨i0,hi0,hi1,hi2,hi3⟩:=info_parts Tryz.infoEI
 have HLM : Hid (M.length <= 1000):=hS.lm.1
 have hx13:=hH.len
 have HTH : Hid (TH xs l):=hH
 obtain ⟨W1,W2,a,g,nd,xt,op,ps,hW1,hW2,HB1,HB2,C1,ha,ha16,HCX,HBS,eta,y0,y1,y2,y3,HXM,hope,HTX,CP,HPL⟩:=f_pre w hC (cc:=cc) hLn hp hS hT hH he
 rw [<- ha] at hca
 rw [<- hope] at hop
 have HOP : Hid (op = xt.1.op):=by rw [HXM.out.2];exact hope
 have we1 : IntKind.i64.wrap ((e : Int) + 1 - 1) = (e : Int):=wk (by omega)
 have we2 : IntKind.i64.wrap (e : Int) = (e : Int):=wk (by omega)
 have hel : (e : Int) < (xs.length : Int):=by omega
 have he0 : (0 : Int) <= (e : Int):=by omega
 have n15 : ((a : Int) == 15) = false:=bn2 (by omega)
 have n5 : (5 : Int) <= (a : Int):=by omega
 have n10 : ¬ (a : Int) < 10:=by omega
 have m10 : (10 : Int) <= (a : Int):=by omega
 have n13 : (a : Int) < 13:=by omega
 have wz : IntKind.i64.wrap (z - 1) = z - 1:=wk (by omega)
 have HCI : Hid (CF (z - 1) P1 X1 (p + 1 + P1) ca cb co Ln cc C T V M tp vp mp):=CI
 have m2 : Int.tmod (a : Int) 2 = ((a % 2 : Nat) : Int):=tmodN a 2
 obtain ⟨b2,hb2⟩:=xe (a % 2)
 rw [<- hb2] at m2
 have HET : Hid (ta = some ⟨g,0,none⟩ /\ e < xs.length):=⟨eta,he⟩
 clear hca CI hb2
 rcases hop with hop2 | hop2 | hop2
 all_goals
  subst hop2
  have eta':=eta
  rw [eta]
  clear hC hS ha hT hH hope eta
  go_enter Tryz.func91,Tryz.ntmps91
  go_wp2_with fail
  rw [<- hW1]
  clear hW1
  refine C1.mono ?_
  rintro e' w7 ⟨rfl,rfl⟩
  clear C1
  go_wp2_with fail
  rw [<- hW2]
  rw [eta'] at CP
  refine CP.mono ?_
  rintro e' w3 ⟨va,cp,rfl,OWN,BP⟩
  have HB3 : Hid (Bw W2 w3):=BP
  have HPS : Hid (w3.ownsRow W2.heap.size 3 1 (.slice va nd cp) nd (inC ps)):=OWN
  have HB13 : Hid (Bw W1 w3):=HB2.out.trans (HB3.out.mono HB2.out.size)
  obtain ⟨W4,hW4⟩:=xe (w3.alloc (.cells #[] 70))
  have HB4 : Hid (Bw w3 W4):=by rw [hW4];exact bel1 _ _
  have HN4 : Hid (GE w3.heap.size 0 W4 (some ⟨w3.heap.size,0,none⟩) 0 0 0 []):=by rw [hW4];exact ge_nil w3
  have HB14 : Hid (Bw W1 W4):=HB13.out.trans (HB4.out.mono HB13.out.size)
  have HB24 : Hid (Bw W2 W4):=HB3.out.trans (HB4.out.mono HB3.out.size)
  obtain ⟨t0,t3⟩:=HTX.out W4 HB24.out
  obtain ⟨x0,x1,x2⟩:=HCX.out W4 HB14.out
  rw [hW4] at t0 t3 x0 x1 x2
  clear CP BP OWN hW2 y0 y1 y2 y3 we1 we2 hel he0
  have OW4:=HN4.out.own
  have hs34:=HB4.out.size
  have HB5 : Hid (∀ (o : Obj) (w5 : World),(W4.alloc o).grownBy w5 (some w3.heap.size) -> Bw w3 w5):=fun o w5 h=>below_grown HB4.out h (fun j e=>by have:=Option.some.inj e;omega)
  go_upto_region 43 with fail
  rw [<- hW4]
  clear hW4 x0 x1 x2 t0 t3
  go_wp2_with (first | (at_builtin;refine wpList_append_lies _ rfl _ _ 44 rfl w3.heap.size 70 i0 _ 6 96 Tryz.underlying44 hi0 hi1 hi2 hi3 rfl (by omega) (.slice (some ⟨w3.heap.size,0,none⟩) 0 0) 0 (eisC []) rfl (OW4.alloc _) ⟨W4.heap.size,0,none⟩ 1 1 [.int .i64 2,.int .i64 (b2 : Int),.string ⟨#[]⟩,.string ⟨#[]⟩,.slice none 0 0,.slice none 0 0] rfl rfl (World.news_of_block (cs:=#[.int .i64 2,.int .i64 (b2 : Int),.string ⟨#[]⟩,.string ⟨#[]⟩,.slice none 0 0,.slice none 0 0]) (t:=70) (fr:=(0,0)) (heap_alloc_new W4 _)) (by simp [Value.oneCell']) (by omega) (by unfold maxLen;omega) (by omega) (by simp only [World.size_alloc];omega) (W4.heap.size + 1) (by simp) ?_;intro gg cap3 w5 hown3 hg3 hat hlt3))
  have HK5 : Hid (Bw w3 w5):=HB5.out _ _ hg3
  have HB15 : Hid (Bw W1 w5):=HB13.out.trans (HK5.out.mono HB13.out.size)
  have hcE : cE (⟨2,b2,e0,e0,[],[]⟩ : EI) = e0.size + e0.size:=cE_bare
  have e00 : e0.size = 0:=rfl
  have PU:=HN4.out.push (x:=((⟨2,b2,e0,e0,[],[]⟩ : EI),ep0)) (X':=1) hown3 hg3 (ri_bare _) sm_bare (by show 0 + 1 + cE (⟨2,b2,e0,e0,[],[]⟩ : EI) <= _;omega)
  have HG0 : Hid (OpF w w5 w5 1 X1 0 (some ⟨gg,0,none⟩) 1 cap3 [((⟨2,b2,e0,e0,[],[]⟩ : EI),ep0)]):=⟨PU.mono (Nat.le_trans HB1.out.size HB13.out.size) (nlr _) (by omega),Below.refl _ _⟩
  clear OW4 hown3 hg3 hat hlt3 PU HB5 hcE e00
  go_loopw [1,18,27] (fun pp o i wr=>∃ (k q n1 c1 : Nat) (va : Option Addr),k <= 2 /\ i = .int .i64 k /\ pp = .int .i64 q /\ p + 1 <= q /\ q <= p + 1 + k * P1 /\ o = .slice va n1 c1 /\ Hid (∃ xs,OpF w w5 wr 1 X1 k va n1 c1 xs)) (fun _ _ i _=>2 - (intOf i).toNat)
  case atStart=>exact ⟨0,p + 1,1,_,_,by omega,rfl,by rfl,by omega,by omega,rfl,_,HG0.out⟩
  case round=>
   clear HG0 HN4
   obtain ⟨k,q,n1,c1,va,hk,rfl,rfl,hq1,hq2,rfl,HG⟩:=hrel
   obtain ⟨es,G0⟩:=HG.out
   have HK0 : Hid (Bw w5 wr):=G0.bel
   have HKW : Hid (Bw W1 wr):=HB15.out.trans (HK0.out.mono HB15.out.size)
   obtain ⟨y0,y1,y2⟩:=HCX.out wr HKW.out
   have hkP : k * P1 <= 2 * P1:=Nat.mul_le_mul_right _ (by omega)
   have hkX : k * X1 <= 2 * X1:=Nat.mul_le_mul_right _ (by omega)
   have hP2 : (k + 1) * P1 = k * P1 + P1:=Nat.succ_mul _ _
   by_cases hlt : k < 2
   ·have lk : (k : Int) < 2:=by omega
    have hk1 : k * P1 <= 1 * P1:=Nat.mul_le_mul_right _ (by omega)
    have HGX : Hid (OpF w w5 wr 1 X1 k va n1 c1 es):=G0
    have C3:=HCI.out wr xs l ta tc e q (HBS.out wr HKW.out).1 (HBS.out wr HKW.out).2.1 (HBS.out wr HKW.out).2.2 HTH.out HET.out.2 (by omega)
    rw [HET.out.1] at C3
    clear G0 HG
    go_wp2_with fail
    refine C3.mono ?_
    rintro e2 w6 ⟨⟨v3,n3,c3,q3,rfl,hr1,hr2,HG3⟩,HB6⟩
    clear C3 y0 y1 y2
    obtain ⟨ys,G⟩:=HG3.out
    have C4:=j_E w6 (HGX.out.ge.below HB6.out) G (by omega)
    clear G HG3
    go_wp2_with fail
    refine C4.mono ?_
    rintro e2 w7 ⟨⟨v4,n4,c4,rfl,HR4⟩,HB7⟩
    clear C4
    go_wp2
    refine ⟨⟨k + 1,q3,n4,c4,v4,by omega,by go_num,rfl,by omega,by omega,rfl,_,HGX.out.step (Nat.le_trans HB1.out.size HB15.out.size) HB6.out HB7.out HR4.out⟩,by simp [intOf];omega⟩
   ·have hkn : k = 2:=by omega
    subst hkn
    have HGX : Hid (OpF w w5 wr 1 X1 2 va n1 c1 es):=G0
    have OWN:=G0.ge.own
    have hnl:=G0.ge.le
    have hsr : w.heap.size <= wr.heap.size:=Nat.le_trans HB1.out.size HKW.out.size
    clear G0 HG y0 y1 y2
    go_wp2_with (first | (at_builtin;refine wpList_append_lies _ rfl _ _ 44 rfl w.heap.size 70 i0 _ 6 96 Tryz.underlying44 hi0 hi1 hi2 hi3 rfl (by omega) (.slice va n1 c1) n1 (eisC es) rfl (OWN.alloc _) ⟨wr.heap.size,0,none⟩ 1 1 [.int .i64 8,.int .i64 0,.string ⟨#[]⟩,.string ⟨#[]⟩,.slice none 0 0,.slice none 0 0] rfl rfl (World.news_of_block (cs:=#[.int .i64 8,.int .i64 0,.string ⟨#[]⟩,.string ⟨#[]⟩,.slice none 0 0,.slice none 0 0]) (t:=70) (fr:=(0,0)) (heap_alloc_new wr _)) (by simp [Value.oneCell']) (by omega) (by unfold maxLen;omega) (by omega) (by simp only [World.size_alloc];omega) (wr.heap.size + 1) (by simp) ?_;intro gg cap3 w7 hown3 hg3 hat hlt3))
    go_ret2
    have hcE : cE (⟨8,0,e0,e0,[],[]⟩ : EI) = e0.size + e0.size:=cE_bare
    have e00 : e0.size = 0:=rfl
    have PU:=HGX.out.ge.push (x:=((⟨8,0,e0,e0,[],[]⟩ : EI),ep0)) (X':=X) hown3 hg3 (ri_bare _) sm_bare (by show 1 + 2 * X1 + 1 + cE (⟨8,0,e0,e0,[],[]⟩ : EI) <= _;omega)
    refine ⟨⟨some ⟨gg,0,none⟩,n1 + 1,cap3,q,rfl,by omega,by omega,_,PU⟩,?_⟩
    exact below_grown (HB1.out.trans (HKW.out.mono HB1.out.size)) hg3 (fun j e=>(OWN.lt j e).1)
end Go.Proofs.YtcehppndpccldaaGreatDoor
