/-
  QbQ QbT
-/
import Derived.Test.YtcehppndpccldaaGreatDoorU6
set_option maxHeartbeats 4000000
set_option maxRecDepth 100000
namespace Go.Proofs.YtcehppndpccldaaGreatDoor
open Go.RowKit
structure OpF (w W5 wr : World) (K X k : Nat) (va : Option Addr) (n c : Nat) (es : List (EI × EPl)) : Prop where
 ge : GE w.heap.size 0 wr va n c (K + k * X) es
 bel : Bw W5 wr
theorem OpF.step {w W5 wr w2 w3 : World} {K X k : Nat} {va : Option Addr} {n c : Nat} {xs ys : List (EI × EPl)} (h : OpF w W5 wr K X k va n c xs) (h1 : w.heap.size <= W5.heap.size)
  (B2 : Bw wr w2) (B3 : Bw w2 w3) {u : Option Addr} {m cc : Nat} (hr : GE w2.heap.size 0 w3 u m cc (K + k * X + X) (xs ++ ys)) :
  OpF w W5 w3 K X (k + 1) u m cc (xs ++ ys):=by
 have b23 : Bw wr w3:=B2.trans (B3.mono B2.size)
 have hs : w.heap.size <= w2.heap.size:=Nat.le_trans h1 (Nat.le_trans h.bel.size B2.size)
 refine ⟨?_,h.bel.trans (b23.mono h.bel.size)⟩
 rw [Nat.succ_mul,<- Nat.add_assoc]
 exact hr.mono hs (nlr _) (nlr _)
theorem smG_int : ∀ x,x ∈ [((⟨1,⟨#[]⟩,⟨#[]⟩,[]⟩ : TI),(⟨none,0,0⟩ : NPl))] -> SmG x:=fun x hx=>by
 rw [ms1 hx]
 exact sm_lit 1 (by decide) (by decide)
theorem g_F_two (w : World) (z : Int) (_hz1 : -10 <= z) (_hz2 : z <= 2) {P X : Nat} {ca : Option Addr} {cb co Ln cc p : Nat} {C : Nat -> Nat} (hC : BytesAt w ca cb co Ln C) (hLn : Ln <= 1048576) (hp : p <= 900000) {T V M : List ByteArray} {tp vp mp : NPl} (hS : Sc w T V M tp vp mp) {xs : List (TI × NPl)} {l : List TI} {ta : Option Addr} {tc e : Nat} (hT : TsA w (.slice ta xs.length tc) xs) (hH : TH xs l) (he : e < xs.length)
  (hP : 7 <= P) (hX : 51 <= X) (hca : tk C Ln p 16 < 10) (hop : (xs[e].1.op = 2 /\ tk C Ln p 16 < 8) \/ (xs[e].1.op = 1 /\ 5 <= tk C Ln p 16 /\ 0 < z)) (CI : CF1 (z - 2) 3 25 (p + 10) ca cb co Ln cc C T V M tp vp mp) :
  Calls Tryz.prog 91 #[.slice ca Ln cc,.int .i64 (p : Int),.agg #[.slice tp.a T.length tp.c,.slice vp.a V.length vp.c,.slice mp.a M.length mp.c],.slice ta xs.length tc,.int .i64 ((e : Int) + 1),.int .i64 z] w (GnF w P X p):=by
 obtain ⟨i0,hi0,hi1,hi2,hi3⟩:=info_parts Tryz.infoEI
 have HLM : Hid (M.length <= 1000):=hS.lm.1
 have hx13:=hH.len
 have HTH : Hid (TH xs l):=hH
 obtain ⟨W1,W2,a,g,nd,xt,op,ps,hW1,hW2,HB1,HB2,C1,ha,ha16,HCX,HBS,eta,y0,y1,y2,y3,HXM,hope,HTX,CP,HPL⟩:=f_pre w hC (cc:=cc) hLn hp hS hT hH he
 rw [<- ha] at hca
 rw [<- hope] at hop
 have HOP : Hid (op = xt.1.op):=by rw [HXM.out.2];exact hope
 have we1 : IntKind.i64.wrap ((e : Int) + 1 - 1) = (e : Int):=wk (by omega)
 have we2 : IntKind.i64.wrap (e : Int) = (e : Int):=wk (by omega)
 have hel : (e : Int) < (xs.length : Int):=by omega
 have he0 : (0 : Int) <= (e : Int):=by omega
 have n15 : ((a : Int) == 15) = false:=bn2 (by omega)
 rw [<- ha] at hop
 have n10 : (a : Int) < 10:=by omega
 have wz : IntKind.i64.wrap (z - 2) = z - 2:=wk (by omega)
 have HCI : Hid (CF1 (z - 2) 3 25 (p + 10) ca cb co Ln cc C T V M tp vp mp):=CI
 have hop' : (op = 2 /\ (a : Int) < 8) \/ (op = 1 /\ (5 : Int) <= (a : Int) /\ 0 < z):=by omega
 clear hca hop CI
 rcases hop' with ⟨hop2,n8⟩ | ⟨hop2,n5,nz⟩
 all_goals
  subst hop2
  have eta':=eta
  rw [eta]
  clear hC hS ha hT hH hope eta
  go_enter Tryz.func91,Tryz.ntmps91
  go_wp2_with fail
  rw [<- hW1]
  clear hW1
  refine C1.mono ?_
  rintro e' w7 ⟨rfl,rfl⟩
  clear C1
  go_wp2_with fail
  rw [<- hW2]
  rw [eta'] at CP
  refine CP.mono ?_
  rintro e' w3 ⟨va,cp,rfl,OWN,BP⟩
  have HB3 : Hid (Bw W2 w3):=BP
  have HPS : Hid (w3.ownsRow W2.heap.size 3 1 (.slice va nd cp) nd (inC ps)):=OWN
  have HB13 : Hid (Bw W1 w3):=HB2.out.trans (HB3.out.mono HB2.out.size)
  obtain ⟨W4,hW4⟩:=xe (w3.alloc (.cells #[] 70))
  have HB4 : Hid (Bw w3 W4):=by rw [hW4];exact bel1 _ _
  have HN4 : Hid (GE w3.heap.size 0 W4 (some ⟨w3.heap.size,0,none⟩) 0 0 0 []):=by rw [hW4];exact ge_nil w3
  have HB14 : Hid (Bw W1 W4):=HB13.out.trans (HB4.out.mono HB13.out.size)
  have HB24 : Hid (Bw W2 W4):=HB3.out.trans (HB4.out.mono HB3.out.size)
  obtain ⟨t0,t3⟩:=HTX.out W4 HB24.out
  obtain ⟨x0,x1,x2⟩:=HCX.out W4 HB14.out
  rw [hW4] at t0 t3 x0 x1 x2
  clear CP BP OWN hW2 y0 y1 y2 y3 we1 we2 hel he0
  obtain ⟨W5,hW5⟩:=xe (W4.alloc (.cells #[.int .i64 1,.string ⟨#[]⟩,.string ⟨#[]⟩,.slice none 0 0] 99))
  have HB5 : Hid (Bw W4 W5):=by rw [hW5];exact bel1 _ _
  have HRT : Hid (RT 0 W5 (.slice (some ⟨W4.heap.size,0,none⟩) 1 1) [((⟨1,⟨#[]⟩,⟨#[]⟩,[]⟩ : TI),(⟨none,0,0⟩ : NPl))]):=by rw [hW5];exact rt_lit W4 (Nat.zero_le _) 1 ⟨#[]⟩ ⟨#[]⟩
  have HB15 : Hid (Bw W1 W5):=HB14.out.trans (HB5.out.mono HB14.out.size)
  have HG0 : Hid (OpF w W5 W5 0 25 0 (some ⟨w3.heap.size,0,none⟩) 0 0 []):=⟨(HN4.out.below HB5.out).mono (Nat.le_trans HB1.out.size HB13.out.size) (nlr _) (Nat.zero_le _),Below.refl _ _⟩
  have hs4 : W4.heap.size = w3.heap.size + 1:=by rw [hW4];simp
  rw [hs4] at HRT
  have HT5:=HTX.out W5 (HB24.out.trans (HB5.out.mono HB24.out.size))
  have t5:=HT5.1
  rw [hW5,hW4] at t5
  clear hs4 HT5
  go_wp2_with fail
  rw [<- hW4,<- hW5]
  clear hW4 hW5 x0 x1 x2 t0 t3 t5
  go_loopw [1,18,26] (fun pp o i wr=>∃ (k q n1 c1 : Nat) (va : Option Addr),k <= 2 /\ i = .int .i64 k /\ pp = .int .i64 q /\ p + 1 <= q /\ q <= p + 1 + k * 3 /\ o = .slice va n1 c1 /\ Hid (∃ xs,OpF w W5 wr 0 25 k va n1 c1 xs)) (fun _ _ i _=>2 - (intOf i).toNat)
  case atStart=>exact ⟨0,p + 1,0,0,_,by omega,rfl,by rfl,by omega,by omega,rfl,_,HG0.out⟩
  case round=>
   clear HG0 HN4
   obtain ⟨k,q,n1,c1,va,hk,rfl,rfl,hq1,hq2,rfl,HG⟩:=hrel
   obtain ⟨es,G0⟩:=HG.out
   have HK0 : Hid (Bw W5 wr):=G0.bel
   have HKW : Hid (Bw W1 wr):=HB15.out.trans (HK0.out.mono HB15.out.size)
   obtain ⟨y0,y1,y2⟩:=HCX.out wr HKW.out
   by_cases hlt : k < 2
   ·have lk : (k : Int) < 2:=by omega
    have HGX : Hid (OpF w W5 wr 0 25 k va n1 c1 es):=G0
    have C3 : Calls Tryz.prog 91 #[.slice ca Ln cc,.int .i64 (q : Int),.agg #[.slice tp.a T.length tp.c,.slice vp.a V.length vp.c,.slice mp.a M.length mp.c],.slice (some ⟨w3.heap.size + 1,0,none⟩) 1 1,.int .i64 1,.int .i64 (z - 2)] wr (GnF wr 3 25 q):=HCI.out wr [((⟨1,⟨#[]⟩,⟨#[]⟩,[]⟩ : TI),(⟨none,0,0⟩ : NPl))] _ (some ⟨w3.heap.size + 1,0,none⟩) 1 0 q (HBS.out wr HKW.out).1 (HBS.out wr HKW.out).2.1 (TsA.of_rt (HRT.out.below HK0.out) smG_int (by decide)) (TH.of_ok ok_int.1 smG_int (by decide)) (by decide) rfl (by omega)
    clear G0 HG
    go_wp2_with fail
    refine C3.mono ?_
    rintro e2 w5 ⟨⟨v3,n3,c3,q3,rfl,hr1,hr2,HG3⟩,HB5⟩
    clear C3 y0 y1 y2
    obtain ⟨ys,G⟩:=HG3.out
    have C4:=j_E w5 (HGX.out.ge.below HB5.out) G (by omega)
    clear G HG3
    go_wp2_with fail
    refine C4.mono ?_
    rintro e2 w6 ⟨⟨v4,n4,c4,rfl,HR4⟩,HB6⟩
    clear C4
    go_wp2
    refine ⟨⟨k + 1,q3,n4,c4,v4,by omega,by go_num,rfl,by omega,by omega,rfl,_,HGX.out.step (Nat.le_trans HB1.out.size HB15.out.size) HB5.out HB6.out HR4.out⟩,by simp [intOf];omega⟩
   ·have hkn : k = 2:=by omega
    subst hkn
    have HGX : Hid (OpF w W5 wr 0 25 2 va n1 c1 es):=G0
    have OWN:=G0.ge.own
    have hnl:=G0.ge.le
    have hsr : w.heap.size <= wr.heap.size:=Nat.le_trans HB1.out.size HKW.out.size
    clear G0 HG y0 y1 y2
    go_wp2_with (first | (at_builtin;refine wpList_append_lies _ rfl _ _ 44 rfl w.heap.size 70 i0 _ 6 96 Tryz.underlying44 hi0 hi1 hi2 hi3 rfl (by omega) (.slice va n1 c1) n1 (eisC es) rfl (OWN.alloc _) ⟨wr.heap.size,0,none⟩ 1 1 [.int .i64 10,.int .i64 0,.string ⟨#[]⟩,.string ⟨#[]⟩,.slice none 0 0,.slice none 0 0] rfl rfl (World.news_of_block (cs:=#[.int .i64 10,.int .i64 0,.string ⟨#[]⟩,.string ⟨#[]⟩,.slice none 0 0,.slice none 0 0]) (t:=70) (fr:=(0,0)) (heap_alloc_new wr _)) (by simp [Value.oneCell']) (by omega) (by unfold maxLen;omega) (by omega) (by simp only [World.size_alloc];omega) (wr.heap.size + 1) (by simp) ?_;intro gg cap3 w7 hown3 hg3 hat hlt3) | (at_builtin;refine wpList_append_lies _ rfl _ _ 44 rfl w.heap.size 70 i0 _ 6 96 Tryz.underlying44 hi0 hi1 hi2 hi3 rfl (by omega) (.slice va n1 c1) n1 (eisC es) rfl (OWN.alloc _) ⟨wr.heap.size,0,none⟩ 1 1 [.int .i64 9,.int .i64 0,.string ⟨#[]⟩,.string ⟨#[]⟩,.slice none 0 0,.slice none 0 0] rfl rfl (World.news_of_block (cs:=#[.int .i64 9,.int .i64 0,.string ⟨#[]⟩,.string ⟨#[]⟩,.slice none 0 0,.slice none 0 0]) (t:=70) (fr:=(0,0)) (heap_alloc_new wr _)) (by simp [Value.oneCell']) (by omega) (by unfold maxLen;omega) (by omega) (by simp only [World.size_alloc];omega) (wr.heap.size + 1) (by simp) ?_;intro gg cap3 w7 hown3 hg3 hat hlt3))
    go_ret2
    have hcE : ∀ o : Int,cE (⟨o,0,e0,e0,[],[]⟩ : EI) = e0.size + e0.size:=fun _=>cE_bare
    have e00 : e0.size = 0:=rfl
    have PU:=HGX.out.ge.push (x:=((⟨_,0,e0,e0,[],[]⟩ : EI),ep0)) (X':=X) hown3 hg3 (ri_bare _) sm_bare (by show 0 + 2 * 25 + 1 + cE (⟨_,0,e0,e0,[],[]⟩ : EI) <= _;rw [hcE];omega)
    refine ⟨⟨some ⟨gg,0,none⟩,n1 + 1,cap3,q,rfl,by omega,by omega,_,PU⟩,?_⟩
    exact below_grown (HB1.out.trans (HKW.out.mono HB1.out.size)) hg3 (fun j e=>(OWN.lt j e).1)
theorem d_copy (w : World) {p : NPl} {ns : List ByteArray} (h : NsA w p ns) {c : Nat} (hl : ns.length <= 1000) :
  Calls Tryz.prog 92 #[.slice p.a ns.length c] w fun e w'=>(∃ va c2,e = .returned (.slice va ns.length c2) /\ Hid (w'.ownsRow w.heap.size 9 1 (.slice va ns.length c2) ns.length (sts ns))) /\ Hid (Bw w w'):=by
 obtain ⟨i9,hi9,hy0,hy1,hy2⟩:=info_parts Tryz.info9
 have HC : Hid (∀ W,Bw w W -> ∀ k,k < ns.length -> p.a = some ⟨p.b,0,none⟩ /\ W.cell? ⟨p.b,k,none⟩ = some (.string (ns.getD k e0))):=fun W hb k hk=>⟨h.at_ (by omega),(h.below hb).cell k hk⟩
 have ST : Hid ((w.alloc (.cells #[] 9)).ownsRow w.heap.size 9 1 (.slice (some ⟨w.heap.size,0,none⟩) 0 0) 0 (sts (ns.take 0))):=World.ownsRow_lit w #[] 0 (nlr _) (by unfold maxLen;omega) (by rfl)
 clear h
 go_enter Tryz.func92,Tryz.ntmps92
 go_wp2
 go_loopw [3,4] (fun v i wr=>∃ k : Nat,k <= ns.length /\ i = .int .i64 k /\ wr.ownsRow w.heap.size 9 1 v k (sts (ns.take k)) /\ Hid (Bw w wr)) (fun _ i _=>ns.length - (intOf i).toNat)
 case atStart=>exact ⟨0,Nat.zero_le _,rfl,ST.out,bel1 _ _⟩
 case round=>
  clear ST
  obtain ⟨k,hk,rfl,hO,HW⟩:=hrel
  obtain ⟨va,vc,rfl⟩:=own_form hO
  have hws:=HW.out.size
  by_cases hlt : k < ns.length
  case pos=>
   obtain ⟨ea,y0⟩:=HC.out wr HW.out k hlt
   obtain ⟨x,hx⟩:=xe (ns.getD k e0)
   have HX : Hid (ns.take (k + 1) = ns.take k ++ [x]):=by
    show _ = _
    rw [List.take_add_one,List.getElem?_eq_getElem hlt,hx,List.getD_eq_getElem?_getD,List.getElem?_eq_getElem hlt];rfl
   rw [<- hx] at y0
   rw [ea]
   clear hx ea
   go_wp2_with (first | (at_builtin;refine wpList_append_lies _ rfl _ _ 66 rfl w.heap.size 9 i9 _ 1 16 Tryz.underlying66 hi9 hy0 hy1 hy2 rfl (by omega) (.slice va k vc) k (sts (ns.take k)) rfl (hO.alloc _) ⟨wr.heap.size,0,none⟩ 1 1 [.string x] rfl rfl (World.news_of_block (cs:=#[.string x]) (t:=9) (fr:=(0,0)) (heap_alloc_new wr _)) (by simp [Value.oneCell']) (by omega) (by unfold maxLen;omega) (by omega) (by simp only [World.size_alloc];omega) (wr.heap.size + 1) (by simp) ?_;intro gg cap3 w5 hown3 hg3 hat3 hlt3))
   have HN : Hid (Bw w w5):=below_grown HW.out hg3 (fun b e=>(hO.lt b e).1)
   refine ⟨⟨k + 1,by omega,by go_num,?_,HN⟩,by simp [intOf];omega⟩
   rw [HX.out,sts_snoc]
   exact hown3
  have hkn : k = ns.length:=by omega
  subst hkn
  rw [List.take_length] at hO
  have HF : Hid (wr.ownsRow w.heap.size 9 1 (.slice va ns.length vc) ns.length (sts ns)):=hO
  clear hO
  go_wp2
  go_ret
  exact ⟨⟨_,_,rfl,HF⟩,HW⟩
end Go.Proofs.YtcehppndpccldaaGreatDoor
