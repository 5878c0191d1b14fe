/-
  QbO
-/
import Derived.Test.YtcehppndpccldaaGreatDoorU4
set_option maxHeartbeats 4000000
set_option maxRecDepth 100000
namespace Go.Proofs.YtcehppndpccldaaGreatDoor
open Go.RowKit
theorem hidF {p : Prop} (h : p) : Hid p:=h
structure TH (xs : List (TI × NPl)) (l : List TI) : Prop where
 is : xs.map Prod.fst = l
 ar : ArT l l.length
 vk : Vk (fun i=>(FT l i).needs.length) l.length
 sm : ∀ x,x ∈ xs -> SmG x
 len : xs.length <= 13
theorem ArT.mono {l : List TI} {j k : Nat} (h : ArT l k) (hj : j <= k) : ArT l j:=fun i hi=>h i (Nat.lt_of_lt_of_le hi hj)
theorem TH.of_ok {xs : List (TI × NPl)} (h : okT (xs.map Prod.fst) = true) (sm : ∀ x,x ∈ xs -> SmG x) (len : xs.length <= 13) : TH xs (xs.map Prod.fst):=by
 obtain ⟨k1,_,k3⟩:=vld_en (a:=fun i=>(FT (xs.map Prod.fst) i).needs.length) (fun j n _ hj=>aT_F hj) (ok_vld h)
 exact ⟨rfl,k3,k1,sm,len⟩
theorem TH.item {xs : List (TI × NPl)} {l : List TI} (h : TH xs l) {k : Nat} (hk : k < xs.length) : ∃ f,fT xs[k].1 = some f /\ FT l k = f:=by
 have h1:=h.ar k (by rw [<- h.is,List.length_map];exact hk)
 rw [aT_at h.is hk] at h1
 cases hf : fT xs[k].1 with
 | none=>rw [hf] at h1;cases h1
 | some f=>
   refine ⟨f,rfl,?_⟩
   unfold FT
   rw [<- h.is,List.getElem?_map,List.getElem?_eq_getElem hk]
   show (fT xs[k].1).getD fm0 = f
   rw [hf];rfl
theorem TsA.of_rt {B : Nat} {w : World} {v : Value} {xs : List (TI × NPl)} (h : RT B w v xs) (sm : ∀ x,x ∈ xs -> SmG x) (hl : xs.length <= 1000) : TsA w v xs:=by
 refine ⟨⟨B,h⟩,fun x hx=>(sm x hx).cap,fun x hx=>?_,by omega⟩
 have s:=sm x hx
 refine ⟨by have:=s.len;omega,fun k hk=>?_,by have:=s.md;omega,by have:=s.nm;omega⟩
 have:=s.nms (x.1.ns.getD k e0) (by rw [List.getD_eq_getElem?_getD,List.getElem?_eq_getElem hk];exact List.getElem_mem hk)
 omega
def GnF (w : World) (P X p : Nat) (e : Ending) (w' : World) : Prop:=(∃ (va : Option Addr) (n c q : Nat),e = .returned (.tuple #[.slice va n c,.int .i64 (q : Int)]) /\ p <= q /\ q <= p + P /\ Hid (∃ es,GE w.heap.size 0 w' va n c X es)) /\ Hid (Bw w w')
def CF (z : Int) (P X N : Nat) (ca : Option Addr) (cb co Ln cc : Nat) (C : Nat -> Nat) (T V M : List ByteArray) (tp vp mp : NPl) : Prop:=∀ (W : World) (xs : List (TI × NPl)) (l : List TI) (ta : Option Addr) (tc e q : Nat),BytesAt W ca cb co Ln C -> Sc W T V M tp vp mp -> TsA W (.slice ta xs.length tc) xs -> TH xs l -> e < xs.length -> q <= N -> Calls Tryz.prog 91 #[.slice ca Ln cc,.int .i64 (q : Int),.agg #[.slice tp.a T.length tp.c,.slice vp.a V.length vp.c,.slice mp.a M.length mp.c],.slice ta xs.length tc,.int .i64 ((e : Int) + 1),.int .i64 z] W (GnF W P X q)
def CF1 (z : Int) (P X N : Nat) (ca : Option Addr) (cb co Ln cc : Nat) (C : Nat -> Nat) (T V M : List ByteArray) (tp vp mp : NPl) : Prop:=∀ (W : World) (xs : List (TI × NPl)) (l : List TI) (ta : Option Addr) (tc e q : Nat),BytesAt W ca cb co Ln C -> Sc W T V M tp vp mp -> TsA W (.slice ta xs.length tc) xs -> TH xs l -> (he : e < xs.length) -> xs[e].1.op = 1 -> q <= N -> Calls Tryz.prog 91 #[.slice ca Ln cc,.int .i64 (q : Int),.agg #[.slice tp.a T.length tp.c,.slice vp.a V.length vp.c,.slice mp.a M.length mp.c],.slice ta xs.length tc,.int .i64 ((e : Int) + 1),.int .i64 z] W (GnF W P X q)
theorem f_pre (w : World) {ca : Option Addr} {cb co Ln cc p : Nat} {C : Nat -> Nat} (hC : BytesAt w ca cb co Ln C) (hLn : Ln <= 1048576) (hp : p <= 900000) {T V M : List ByteArray} {tp vp mp : NPl} (hS : Sc w T V M tp vp mp) {xs : List (TI × NPl)} {l : List TI} {ta : Option Addr} {tc e : Nat} (hT : TsA w (.slice ta xs.length tc) xs) (hH : TH xs l) (he : e < xs.length) :
  ∃ (W1 W2 : World) (a g nd : Nat) (xt : TI × NPl) (op : Int) (ps : List Nat),W1 = w.alloc (.cells #[.slice tp.a T.length tp.c,.slice vp.a V.length vp.c,.slice mp.a M.length mp.c] 111) /\ W2 = W1.alloc (.cells #[.int .i64 op,.string xt.1.md,.string xt.1.nm,.slice xt.2.a xt.1.ns.length xt.2.c] 99) /\ Hid (Bw w W1) /\ Hid (Bw W1 W2) /\ (Calls Tryz.prog 42 #[.slice ca Ln cc,.int .i64 (p : Int),.int .i64 16] W1 fun e w'=>e = .returned (.tuple #[.int .i64 (a : Int),.int .i64 ((p + 1 : Nat) : Int)]) /\ W1 = w') /\ a = tk C Ln p 16 /\ a < 16 /\
    Hid (∀ W,Bw W1 W -> W.cell? ⟨w.heap.size,0,none⟩ = some (.slice tp.a T.length tp.c) /\ W.cell? ⟨w.heap.size,1,none⟩ = some (.slice vp.a V.length vp.c) /\ W.cell? ⟨w.heap.size,2,none⟩ = some (.slice mp.a M.length mp.c)) /\ Hid (∀ W,Bw W1 W -> BytesAt W ca cb co Ln C /\ Sc W T V M tp vp mp /\ TsA W (.slice ta xs.length tc) xs) /\ ta = some ⟨g,0,none⟩ /\ W1.cell? ⟨g,e * 4,none⟩ = some (.int .i64 op) /\ W1.cell? ⟨g,e * 4 + 1,none⟩ = some (.string xt.1.md) /\ W1.cell? ⟨g,e * 4 + 2,none⟩ = some (.string xt.1.nm) /\ W1.cell? ⟨g,e * 4 + 3,none⟩ = some (.slice xt.2.a xt.1.ns.length xt.2.c) /\ Hid (xt ∈ xs /\ xt = xs[e]) /\ op = xs[e].1.op /\
    Hid (∀ W,Bw W2 W -> W.cell? ⟨W1.heap.size,0,none⟩ = some (.int .i64 op) /\ W.cell? ⟨W1.heap.size,3,none⟩ = some (.slice xt.2.a xt.1.ns.length xt.2.c)) /\ (Calls Tryz.prog 101 #[.slice ta xs.length tc,.int .i64 ((e : Int) + 1)] W2 fun r w'=>∃ va cp,r = .returned (.slice va nd cp) /\ w'.ownsRow W2.heap.size 3 1 (.slice va nd cp) nd (inC ps) /\ Bw W2 w') /\ Hid (ps.length = nd /\ nd = (FT l e).needs.length /\ ∀ q,q ∈ ps -> 0 < q /\ q <= e):=by
 obtain ⟨W1,hW1⟩:=xe (w.alloc (.cells #[.slice tp.a T.length tp.c,.slice vp.a V.length vp.c,.slice mp.a M.length mp.c] 111))
 have B1 : Bw w W1:=by rw [hW1];exact bel1 _ _
 have C1:=d_take ca cb co Ln cc p 16 C W1 (hC.below B1) hLn (by omega) (by omega)
 have HX : W1.rowIs w.heap.size 111 3 (v3 (.slice tp.a T.length tp.c) (.slice vp.a V.length vp.c) (.slice mp.a M.length mp.c)):=by rw [hW1];exact row3 w _ _ _ _
 obtain ⟨g,eta,y0,y1,y2,y3,ti⟩:=(hT.below B1).item he
 obtain ⟨W2,hW2⟩:=xe (W1.alloc (.cells #[.int .i64 xs[e].1.op,.string xs[e].1.md,.string xs[e].1.nm,.slice xs[e].2.a xs[e].1.ns.length xs[e].2.c] 99))
 have B2 : Bw W1 W2:=by rw [hW2];exact bel1 _ _
 have HRX : W2.rowIs W1.heap.size 99 4 (v4 (.int .i64 xs[e].1.op) (.string xs[e].1.md) (.string xs[e].1.nm) (.slice xs[e].2.a xs[e].1.ns.length xs[e].2.c)):=by rw [hW2];exact row4 W1 _ _ _ _ _
 have HBS : ∀ W,Bw W1 W -> BytesAt W ca cb co Ln C /\ Sc W T V M tp vp mp /\ TsA W (.slice ta xs.length tc) xs:=fun W hb=>by
  have h:=B1.trans (hb.mono B1.size)
  exact ⟨hC.below h,hS.below h,hT.below h⟩
 have CP:=v_tparts W2 (HBS W2 B2).2.2 hH.is he (hH.ar.mono (by rw [<- hH.is,List.length_map];omega)) (z:=(e : Int) + 1) (by omega)
 refine ⟨W1,W2,_,g,_,xs[e],_,_,hW1,hW2,B1,B2,C1,rfl,tk_lt (by omega),fun W hb=>?_,HBS,eta,y0,y1,y2,y3,⟨List.getElem_mem he,rfl⟩,rfl,fun W hb=>?_,CP,?_⟩
 ·have r:=HX.of_block (hb.block _ HX.lt)
  exact ⟨r.cell (i:=0) (by omega),r.cell (i:=1) (by omega),r.cell (i:=2) (by omega)⟩
 ·have r:=HRX.of_block (hb.block _ HRX.lt)
  exact ⟨r.cell (i:=0) (by omega),r.cell (i:=3) (by omega)⟩
 ·refine ⟨pts_len _ _ _,rfl,fun q hq=>?_⟩
  have hv : Vk (fun i=>(FT l i).needs.length) (e + 1):=hH.vk.mono (by rw [<- hH.is,List.length_map];omega)
  have h1:=hv e (Nat.lt_succ_self _)
  exact pts_mem (hv.mono (Nat.le_succ _)) h1 hq
theorem ge_four (w : World) {Bi X : Nat} (num : Int) (hX : 25 <= X) : GE w.heap.size Bi (w.alloc (.cells #[.int .i64 3,.int .i64 0,.string ⟨#[]⟩,.string ⟨#[113]⟩,.slice none 0 0,.slice none 0 0,.int .i64 1,.int .i64 num,.string ⟨#[]⟩,.string ⟨#[]⟩,.slice none 0 0,.slice none 0 0,.int .i64 7,.int .i64 0,.string ⟨#[]⟩,.string ⟨#[]⟩,.slice none 0 0,.slice none 0 0,.int .i64 5,.int .i64 0,.string ⟨#[]⟩,.string ⟨#[120]⟩,.slice none 0 0,.slice none 0 0] 70)) (some ⟨w.heap.size,0,none⟩) 4 4 X [(⟨3,0,⟨#[]⟩,⟨#[113]⟩,[],[]⟩,ep0),(⟨1,num,⟨#[]⟩,⟨#[]⟩,[],[]⟩,ep0),(⟨7,0,⟨#[]⟩,⟨#[]⟩,[],[]⟩,ep0),(⟨5,0,⟨#[]⟩,⟨#[120]⟩,[],[]⟩,ep0)]:=by
 refine ⟨World.ownsRow_lit w #[.int .i64 3,.int .i64 0,.string ⟨#[]⟩,.string ⟨#[113]⟩,.slice none 0 0,.slice none 0 0,.int .i64 1,.int .i64 num,.string ⟨#[]⟩,.string ⟨#[]⟩,.slice none 0 0,.slice none 0 0,.int .i64 7,.int .i64 0,.string ⟨#[]⟩,.string ⟨#[]⟩,.slice none 0 0,.slice none 0 0,.int .i64 5,.int .i64 0,.string ⟨#[]⟩,.string ⟨#[120]⟩,.slice none 0 0,.slice none 0 0] 4 (nlr _) (by unfold maxLen;omega) (by rfl),rfl,fun x hx=>?_,fun x hx=>?_,?_⟩
 ·simp only [List.mem_cons,List.not_mem_nil,or_false] at hx
  rcases hx with rfl | rfl | rfl | rfl <;> exact ri_bare _
 ·simp only [List.mem_cons,List.not_mem_nil,or_false] at hx
  rcases hx with rfl | rfl | rfl | rfl <;> exact sm_bare
 ·refine Nat.le_trans (Nat.le_of_eq (m:=6) ?_) (by omega)
  rfl
theorem g_F_15 (w : World) (z : Int) (_hz1 : -10 <= z) (_hz2 : z <= 2) {P X : Nat} {ca : Option Addr} {cb co Ln cc p : Nat} {C : Nat -> Nat} (hC : BytesAt w ca cb co Ln C) (hLn : Ln <= 1048576) (hp : p <= 900000) {T V M : List ByteArray} {tp vp mp : NPl} (hS : Sc w T V M tp vp mp) {xs : List (TI × NPl)} {l : List TI} {ta : Option Addr} {tc e : Nat} (hT : TsA w (.slice ta xs.length tc) xs) (hH : TH xs l) (he : e < xs.length)
  {P0 X0 : Nat} (hP0 : P0 + 1 <= P) (hX0 : X0 <= X) (hca : tk C Ln p 16 = 15) 
  (CE : ∀ (W : World) (q : Nat),Bw w W -> q <= p + 1 -> Calls Tryz.prog 119 #[.slice ca Ln cc,.int .i64 (q : Int),.agg #[.slice tp.a T.length tp.c,.slice vp.a V.length vp.c,.slice mp.a M.length mp.c],.int .i64 z] W (GnE W P0 X0 q)) :
  Calls Tryz.prog 91 #[.slice ca Ln cc,.int .i64 (p : Int),.agg #[.slice tp.a T.length tp.c,.slice vp.a V.length vp.c,.slice mp.a M.length mp.c],.slice ta xs.length tc,.int .i64 ((e : Int) + 1),.int .i64 z] w (GnF w P X p):=by
 obtain ⟨i0,hi0,hi1,hi2,hi3⟩:=info_parts Tryz.infoEI
 have HLM : Hid (M.length <= 1000):=hS.lm.1
 have hx13:=hH.len
 have HTH : Hid (TH xs l):=hH
 obtain ⟨W1,W2,a,g,nd,xt,op,ps,hW1,hW2,HB1,HB2,C1,ha,ha16,HCX,HBS,eta,y0,y1,y2,y3,HXM,hope,HTX,CP,HPL⟩:=f_pre w hC (cc:=cc) hLn hp hS hT hH he
 rw [<- ha] at hca
 have HOP : Hid (op = xt.1.op):=by rw [HXM.out.2];exact hope
 have we1 : IntKind.i64.wrap ((e : Int) + 1 - 1) = (e : Int):=wk (by omega)
 have we2 : IntKind.i64.wrap (e : Int) = (e : Int):=wk (by omega)
 have hel : (e : Int) < (xs.length : Int):=by omega
 have he0 : (0 : Int) <= (e : Int):=by omega
 have CE2:=CE W2 (p + 1) (HB1.out.trans (HB2.out.mono HB1.out.size)) (nlr _)
 obtain ⟨x0,x1,x2⟩:=HCX.out W2 HB2.out
 rw [hW2] at x0 x1 x2
 have hea : a = 15:=hca
 clear CE hca
 subst hea
 clear CP HPL
 rw [eta]
 clear hC hS ha hT hH hope eta
 go_enter Tryz.func91,Tryz.ntmps91
 go_wp2_with fail
 rw [<- hW1]
 clear hW1
 refine C1.mono ?_
 rintro e' w7 ⟨rfl,rfl⟩
 clear C1
 go_wp2_with fail
 rw [<- hW2]
 refine CE2.mono ?_
 rintro e' w3 ⟨⟨va,n,c,q,rfl,hq1,hq2,HG⟩,HB3⟩
 clear CE2 x0 x1 x2
 go_wp2
 go_ret2
 obtain ⟨es,G⟩:=HG.out
 have h12:=Nat.le_trans HB1.out.size HB2.out.size
 exact ⟨⟨va,n,c,q,rfl,by omega,by omega,es,G.mono h12 (Nat.zero_le _) hX0⟩,HB1.out.trans ((HB2.out.trans (HB3.out.mono HB2.out.size)).mono HB1.out.size)⟩
theorem g_F_bool (w : World) (z : Int) (_hz1 : -10 <= z) (_hz2 : z <= 2) {P X : Nat} {ca : Option Addr} {cb co Ln cc p : Nat} {C : Nat -> Nat} (hC : BytesAt w ca cb co Ln C) (hLn : Ln <= 1048576) (hp : p <= 900000) {T V M : List ByteArray} {tp vp mp : NPl} (hS : Sc w T V M tp vp mp) {xs : List (TI × NPl)} {l : List TI} {ta : Option Addr} {tc e : Nat} (hT : TsA w (.slice ta xs.length tc) xs) (hH : TH xs l) (he : e < xs.length)
  (hP : 1 <= P) (hX : 25 <= X) (hca : 8 <= tk C Ln p 16 /\ tk C Ln p 16 ≠ 15) (hop : xs[e].1.op = 2) :
  Calls Tryz.prog 91 #[.slice ca Ln cc,.int .i64 (p : Int),.agg #[.slice tp.a T.length tp.c,.slice vp.a V.length vp.c,.slice mp.a M.length mp.c],.slice ta xs.length tc,.int .i64 ((e : Int) + 1),.int .i64 z] w (GnF w P X p):=by
 obtain ⟨i0,hi0,hi1,hi2,hi3⟩:=info_parts Tryz.infoEI
 have HLM : Hid (M.length <= 1000):=hS.lm.1
 have hx13:=hH.len
 have HTH : Hid (TH xs l):=hH
 obtain ⟨W1,W2,a,g,nd,xt,op,ps,hW1,hW2,HB1,HB2,C1,ha,ha16,HCX,HBS,eta,y0,y1,y2,y3,HXM,hope,HTX,CP,HPL⟩:=f_pre w hC (cc:=cc) hLn hp hS hT hH he
 rw [<- ha] at hca
 rw [<- hope] at hop
 have HOP : Hid (op = xt.1.op):=by rw [HXM.out.2];exact hope
 have we1 : IntKind.i64.wrap ((e : Int) + 1 - 1) = (e : Int):=wk (by omega)
 have we2 : IntKind.i64.wrap (e : Int) = (e : Int):=wk (by omega)
 have hel : (e : Int) < (xs.length : Int):=by omega
 have he0 : (0 : Int) <= (e : Int):=by omega
 have n15 : ((a : Int) == 15) = false:=bn2 (by omega)
 have n8 : ¬ (a : Int) < 8:=by omega
 have m2 : Int.tmod (a : Int) 2 = ((a % 2 : Nat) : Int):=tmodN a 2
 obtain ⟨b2,hb2⟩:=xe (a % 2)
 rw [<- hb2] at m2
 have hop2 : op = 2:=hop
 clear hca hop hb2
 subst hop2
 have eta':=eta
 rw [eta]
 clear hC hS ha hT hH hope eta
 go_enter Tryz.func91,Tryz.ntmps91
 go_wp2_with fail
 rw [<- hW1]
 clear hW1
 refine C1.mono ?_
 rintro e' w7 ⟨rfl,rfl⟩
 clear C1
 go_wp2_with fail
 rw [<- hW2]
 rw [eta'] at CP
 refine CP.mono ?_
 rintro e' w3 ⟨va,cp,rfl,OWN,BP⟩
 have HB3 : Hid (Bw W2 w3):=BP
 have HPS : Hid (w3.ownsRow W2.heap.size 3 1 (.slice va nd cp) nd (inC ps)):=OWN
 have HB13 : Hid (Bw W1 w3):=HB2.out.trans (HB3.out.mono HB2.out.size)
 obtain ⟨W4,hW4⟩:=xe (w3.alloc (.cells #[] 70))
 have HB4 : Hid (Bw w3 W4):=by rw [hW4];exact bel1 _ _
 have HN4 : Hid (GE w3.heap.size 0 W4 (some ⟨w3.heap.size,0,none⟩) 0 0 0 []):=by rw [hW4];exact ge_nil w3
 have HB14 : Hid (Bw W1 W4):=HB13.out.trans (HB4.out.mono HB13.out.size)
 have HB24 : Hid (Bw W2 W4):=HB3.out.trans (HB4.out.mono HB3.out.size)
 obtain ⟨t0,t3⟩:=HTX.out W4 HB24.out
 obtain ⟨x0,x1,x2⟩:=HCX.out W4 HB14.out
 rw [hW4] at t0 t3 x0 x1 x2
 clear CP BP OWN hW2 y0 y1 y2 y3 we1 we2 hel he0
 have HEND : Hid (∀ (op num : Int) (md nm : ByteArray) (V : World),V = W4.alloc (.cells #[.int .i64 op,.int .i64 num,.string md,.string nm,.slice none 0 0,.slice none 0 0] 70) \/ V = (W4.alloc (.cells #[.int .i64 op,.int .i64 num,.string md,.string nm,.slice none 0 0,.slice none 0 0] 70)).drew -> md.size <= 12 -> nm.size <= 12 -> GnF w P X p (.returned (.tuple #[.slice (some ⟨w3.heap.size + 1,0,none⟩) 1 1,.int .i64 ((p + 1 : Nat) : Int)])) V):=fun op num md nm V hV h1 h2=>by
  have hs4 : W4.heap.size = w3.heap.size + 1:=by rw [hW4];simp
  rw [<- hs4]
  have hs : w.heap.size <= W4.heap.size:=Nat.le_trans HB1.out.size HB14.out.size
  have G:=(ge_lit W4 (Bi:=0) (X:=X) op num (md:=md) (nm:=nm) (by omega)).mono hs (nlr _) (nlr _)
  have hbw:=(HB1.out.trans (HB14.out.mono HB1.out.size)).alloc hs (.cells #[.int .i64 op,.int .i64 num,.string md,.string nm,.slice none 0 0,.slice none 0 0] 70)
  rcases hV with rfl | rfl
  ·exact ⟨⟨_,_,_,p + 1,rfl,by omega,by omega,_,G⟩,hbw⟩
  ·exact ⟨⟨_,_,_,p + 1,rfl,by omega,by omega,_,G.drew⟩,hbw.drew⟩
 go_wp2_with fail
 rw [<- hW4]
 go_ret2
 exact HEND.out 2 b2 ⟨#[]⟩ ⟨#[]⟩ _ (.inl rfl) (by decide) (by decide)
theorem g_F_int (w : World) (z : Int) (_hz1 : -10 <= z) (_hz2 : z <= 2) {P X : Nat} {ca : Option Addr} {cb co Ln cc p : Nat} {C : Nat -> Nat} (hC : BytesAt w ca cb co Ln C) (hLn : Ln <= 1048576) (hp : p <= 900000) {T V M : List ByteArray} {tp vp mp : NPl} (hS : Sc w T V M tp vp mp) {xs : List (TI × NPl)} {l : List TI} {ta : Option Addr} {tc e : Nat} (hT : TsA w (.slice ta xs.length tc) xs) (hH : TH xs l) (he : e < xs.length)
  (hP : 1 <= P) (hX : 25 <= X) (hca : tk C Ln p 16 < 8) (hop : xs[e].1.op = 1 /\ (z <= 0 \/ tk C Ln p 16 < 5)) :
  Calls Tryz.prog 91 #[.slice ca Ln cc,.int .i64 (p : Int),.agg #[.slice tp.a T.length tp.c,.slice vp.a V.length vp.c,.slice mp.a M.length mp.c],.slice ta xs.length tc,.int .i64 ((e : Int) + 1),.int .i64 z] w (GnF w P X p):=by
 obtain ⟨i0,hi0,hi1,hi2,hi3⟩:=info_parts Tryz.infoEI
 have HLM : Hid (M.length <= 1000):=hS.lm.1
 have hx13:=hH.len
 have HTH : Hid (TH xs l):=hH
 obtain ⟨W1,W2,a,g,nd,xt,op,ps,hW1,hW2,HB1,HB2,C1,ha,ha16,HCX,HBS,eta,y0,y1,y2,y3,HXM,hope,HTX,CP,HPL⟩:=f_pre w hC (cc:=cc) hLn hp hS hT hH he
 rw [<- ha] at hca
 rw [<- hope] at hop
 have HOP : Hid (op = xt.1.op):=by rw [HXM.out.2];exact hope
 have we1 : IntKind.i64.wrap ((e : Int) + 1 - 1) = (e : Int):=wk (by omega)
 have we2 : IntKind.i64.wrap (e : Int) = (e : Int):=wk (by omega)
 have hel : (e : Int) < (xs.length : Int):=by omega
 have he0 : (0 : Int) <= (e : Int):=by omega
 rw [<- ha] at hop
 have n15 : ((a : Int) == 15) = false:=bn2 (by omega)
 have n8 : (a : Int) < 8:=by omega
 have n10 : ¬ (10 : Int) <= (a : Int):=by omega
 have hop2 : op = 1:=hop.1
 have hza:=hop.2
 clear hca hop
 subst hop2
 have eta':=eta
 rw [eta]
 clear hC hS ha hT hH hope eta
 go_enter Tryz.func91,Tryz.ntmps91
 go_wp2_with fail
 rw [<- hW1]
 clear hW1
 refine C1.mono ?_
 rintro e' w7 ⟨rfl,rfl⟩
 clear C1
 go_wp2_with fail
 rw [<- hW2]
 rw [eta'] at CP
 refine CP.mono ?_
 rintro e' w3 ⟨va,cp,rfl,OWN,BP⟩
 have HB3 : Hid (Bw W2 w3):=BP
 have HPS : Hid (w3.ownsRow W2.heap.size 3 1 (.slice va nd cp) nd (inC ps)):=OWN
 have HB13 : Hid (Bw W1 w3):=HB2.out.trans (HB3.out.mono HB2.out.size)
 obtain ⟨W4,hW4⟩:=xe (w3.alloc (.cells #[] 70))
 have HB4 : Hid (Bw w3 W4):=by rw [hW4];exact bel1 _ _
 have HN4 : Hid (GE w3.heap.size 0 W4 (some ⟨w3.heap.size,0,none⟩) 0 0 0 []):=by rw [hW4];exact ge_nil w3
 have HB14 : Hid (Bw W1 W4):=HB13.out.trans (HB4.out.mono HB13.out.size)
 have HB24 : Hid (Bw W2 W4):=HB3.out.trans (HB4.out.mono HB3.out.size)
 obtain ⟨t0,t3⟩:=HTX.out W4 HB24.out
 obtain ⟨x0,x1,x2⟩:=HCX.out W4 HB14.out
 rw [hW4] at t0 t3 x0 x1 x2
 clear CP BP OWN hW2 y0 y1 y2 y3 we1 we2 hel he0
 have HEND : Hid (∀ (op num : Int) (md nm : ByteArray) (V : World),V = W4.alloc (.cells #[.int .i64 op,.int .i64 num,.string md,.string nm,.slice none 0 0,.slice none 0 0] 70) \/ V = (W4.alloc (.cells #[.int .i64 op,.int .i64 num,.string md,.string nm,.slice none 0 0,.slice none 0 0] 70)).drew -> md.size <= 12 -> nm.size <= 12 -> GnF w P X p (.returned (.tuple #[.slice (some ⟨w3.heap.size + 1,0,none⟩) 1 1,.int .i64 ((p + 1 : Nat) : Int)])) V):=fun op num md nm V hV h1 h2=>by
  have hs4 : W4.heap.size = w3.heap.size + 1:=by rw [hW4];simp
  rw [<- hs4]
  have hs : w.heap.size <= W4.heap.size:=Nat.le_trans HB1.out.size HB14.out.size
  have G:=(ge_lit W4 (Bi:=0) (X:=X) op num (md:=md) (nm:=nm) (by omega)).mono hs (nlr _) (nlr _)
  have hbw:=(HB1.out.trans (HB14.out.mono HB1.out.size)).alloc hs (.cells #[.int .i64 op,.int .i64 num,.string md,.string nm,.slice none 0 0,.slice none 0 0] 70)
  rcases hV with rfl | rfl
  ·exact ⟨⟨_,_,_,p + 1,rfl,by omega,by omega,_,G⟩,hbw⟩
  ·exact ⟨⟨_,_,_,p + 1,rfl,by omega,by omega,_,G.drew⟩,hbw.drew⟩
 by_cases cz : (0 : Int) < z
 ·have c5 : ¬ (5 : Int) <= (a : Int):=by omega
  clear hza
  go_wp2_with fail
  rw [<- hW4]
  go_ret2
  exact HEND.out 1 a ⟨#[]⟩ ⟨#[]⟩ _ (.inl rfl) (by decide) (by decide)
 ·clear hza
  go_wp2_with fail
  rw [<- hW4]
  go_ret2
  exact HEND.out 1 a ⟨#[]⟩ ⟨#[]⟩ _ (.inl rfl) (by decide) (by decide)
end Go.Proofs.YtcehppndpccldaaGreatDoor
