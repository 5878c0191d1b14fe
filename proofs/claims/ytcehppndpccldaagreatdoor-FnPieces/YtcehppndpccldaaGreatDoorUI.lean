/-
  QdB
-/
import Derived.Test.YtcehppndpccldaaGreatDoorUG
import Derived.Test.YtcehppndpccldaaGreatDoorUH
import Derived.BigQuiet
set_option maxHeartbeats 4000000
set_option maxRecDepth 100000
namespace Go.Proofs.YtcehppndpccldaaGreatDoor
open Go.RowKit
def GnM (w : World) (p : Nat) (e : Ending) (w' : World) : Prop:=(∃ (va : Option Addr) (m c q : Nat),e = .returned (.tuple #[.agg #[.slice va m c],.int .i64 (q : Int)]) /\ p <= q /\ q <= p + 200000 /\ Hid (∃ xs,DsA w' (.slice va m c) xs /\ m = xs.length /\ okM (xs.map Prod.fst) = true)) /\ Hid (Bw w w')
def N0 : Nat -> List ByteArray:=fun i=>if i = 1 then [⟨#[113]⟩] else []
def P0 (b : Nat) : Nat -> NPl:=fun i=>if i = 1 then ⟨some ⟨b,0,none⟩,b,1⟩ else ⟨none,0,0⟩
theorem rd_bare (w : World) {k : Int} {nm : ByteArray} : RdOK 0 w ⟨k,nm,[],[]⟩ dp0:=⟨⟨World.ownsRow_nil _ _ _ _,fun x hx=>by cases hx⟩,rfl,⟨World.ownsRow_nil _ _ _ _,fun x hx=>by cases hx⟩,rfl⟩
theorem sm_imp {k : Int} {nm : ByteArray} (h : nm.size <= 12) : SmDc (⟨k,nm,[],[]⟩,dp0):=⟨(fun y hy=>by cases hy),(fun y hy=>by cases hy),Nat.zero_le _,by show nm.size + cTs [] + cEs [] <= 104000;have : cTs [] = 0:=rfl;have : cEs [] = 0:=rfl;omega⟩
def Imp (xs : List (DC × DPl)) : Prop:=∀ x,x ∈ xs -> ∃ k s,x = ((⟨k,s,[],[]⟩ : DC),dp0)
theorem Imp.ok {xs : List (DC × DPl)} (h : Imp xs) (w : World) : ∀ x,x ∈ xs -> RdOK 0 w x.1 x.2:=fun x hx=>by
 obtain ⟨k,s,rfl⟩:=h x hx
 exact rd_bare w
theorem DL.imp {B Bn m sb i : Nat} {w w4 : World} {va : Option Addr} {n c K : Nat} {xs : List (DC × DPl)} {o : Obj} {nv u : Value} {l : List Value} {f : Nat -> Value} (h : DL B w va n c K xs) (hi : Imp xs) (hn : w.ownsRow Bn 9 1 nv m l) (hg : (w.alloc o).grownBy w4 nv.ownBlock) (hb : w.rowIs sb 111 3 f) : DL B (w4.setCell ⟨sb,i,none⟩ u) va n c K xs:=by
 have hk : Kp 9 w w4:=(kp_alloc _ w o).trans (grown_kp (hn.alloc o) hg)
 have o4:=own_kp h.own hk (by decide)
 have b4:=rowIs_kp hb hk (by decide)
 refine ⟨own_block o4 (fun k hk2=>Below.heap_setCell _ _ _ _ ?_),h.len,hi.ok _,h.sm,h.cost⟩
 have:=own_box o4 b4 (by decide)
 intro e
 exact this (by rw [<- hk2,e])
theorem step_call_is {P : Program} {ops : Array Oper} {o : Oper} {a : Act} {w : World} {K : Act -> World -> Prop} {Q : Exit -> Act -> World -> Prop} {E : Prop} (hgd : o.guard = none) (f : FuncId) {xa : Array Operand} {xt : Array TypeId} (_ho : o.op = .call { callee:=.value (.func f),args:=xa,argTypes:=xt }) (vs : Array Value) (hx : (execOp a.eval o).run P w = .ok (.enter f vs) w) (v : Value) (hc : Calls P f vs w fun e w'=>e = .returned v /\ w' = w) (h : K (a.put o.dst v) w) : if Region.wanted o (yielded ops a.tmps) = true then Oper.wp P o a w K Q else E:=by
 have hw : Region.wanted o (yielded ops a.tmps) = true:=by simp [Region.wanted,hgd]
 rw [if_pos hw]
 unfold Oper.wp
 rw [hx,Oper.upon_enter]
 refine hc.mono ?_
 rintro e w' ⟨rfl,rfl⟩
 exact h
theorem td_ok {w : World} {B : Nat} {ta : Option Addr} {tn tc : Nat} {ys : List (TI × NPl)} {s : ByteArray} (hr : RT B w (.slice ta tn tc) ys) (sm : ∀ y,y ∈ ys -> SmG y) (hl : ys.length <= 14) (hs : s.size <= 12) :
  RdOK 0 w (⟨2,s,ys.map Prod.fst,[]⟩ : DC) (⟨.slice ta tn tc,ys,.slice none 0 0,[]⟩ : DPl) /\ SmDc ((⟨2,s,ys.map Prod.fst,[]⟩ : DC),(⟨.slice ta tn tc,ys,.slice none 0 0,[]⟩ : DPl)) /\ cD (⟨2,s,ys.map Prod.fst,[]⟩ : DC) <= 950:=by
 have hc : cD (⟨2,s,ys.map Prod.fst,[]⟩ : DC) <= 950:=by
  show s.size + cTs (ys.map Prod.fst) + cEs [] <= 950
  have h1:=cTs_le sm
  have h2 : cEs [] = 0:=rfl
  omega
 exact ⟨⟨hr.mono (Nat.zero_le _),rfl,⟨World.ownsRow_nil _ _ _ _,(fun x hx=>by cases hx)⟩,rfl⟩,⟨sm,(fun x hx=>by cases hx),hl,Nat.le_trans hc (by decide)⟩,hc⟩
theorem vd_ok {w : World} {B B2 : Nat} {ta ea : Option Addr} {tn tc en ec X : Nat} {ys : List (TI × NPl)} {es : List (EI × EPl)} {s : ByteArray} (hr : RT B w (.slice ta tn tc) ys) (sm : ∀ y,y ∈ ys -> SmG y) (hl : ys.length <= 13) (hs : s.size <= 12) (he : GE B2 0 w ea en ec X es) (hX : X <= 102025) :
  RdOK 0 w (⟨3,s,ys.map Prod.fst,es.map Prod.fst⟩ : DC) (⟨.slice ta tn tc,ys,.slice ea en ec,es⟩ : DPl) /\ SmDc ((⟨3,s,ys.map Prod.fst,es.map Prod.fst⟩ : DC),(⟨.slice ta tn tc,ys,.slice ea en ec,es⟩ : DPl)) /\ cD (⟨3,s,ys.map Prod.fst,es.map Prod.fst⟩ : DC) <= 104000:=by
 have hc : cD (⟨3,s,ys.map Prod.fst,es.map Prod.fst⟩ : DC) <= 104000:=by
  show s.size + cTs (ys.map Prod.fst) + cEs (es.map Prod.fst) <= 104000
  have h1:=cTs_le sm
  have h2:=he.cost
  omega
 exact ⟨⟨hr.mono (Nat.zero_le _),rfl,he.re,rfl⟩,⟨sm,he.sm,by show ys.length <= 14;omega,hc⟩,hc⟩
theorem dcsC_take : ∀ (st : List (DC × DPl)) (j : Nat),(dcsC st).take (j * 4) = dcsC (st.take j)
 | [],j=>by simp [dcsC]
 | x :: st,0=>by simp [dcsC]
 | x :: st,j + 1=>by
   show (dcC x ++ dcsC st).take ((j + 1) * 4) = dcC x ++ dcsC (st.take j)
   rw [<- dcsC_take st j,List.take_append,dcC_len,show (j + 1) * 4 - 4 = j * 4 by omega,List.take_of_length_le (by rw [dcC_len];omega)]
theorem DL.cut {B : Nat} {w : World} {va : Option Addr} {n c K : Nat} {xs : List (DC × DPl)} (h : DL B w va (n + 1) c K xs) : DL B w va n c K (xs.take n):=by
 have hl:=h.len
 refine ⟨⟨?_,?_⟩,by rw [List.length_take];omega,fun x hx=>h.ok x (List.mem_of_mem_take hx),fun x hx=>h.sm x (List.mem_of_mem_take hx),?_⟩
 ·show (dcsC (xs.take n)).length = n * 4
  unfold dcsC
  rw [flat_len dcC 4 dcC_len,List.length_take]
  congr 1
  omega
 ·rcases h.own.2 with ⟨h1,h0⟩ | ⟨g,cap,cur,h1,h2,h3,h4,h5,h6,h7⟩
  ·omega
  ·right
   cases h1
   refine ⟨g,c,cur,rfl,h2,h3,by omega,h5,h6,?_⟩
   rw [<- dcsC_take,<- h7,List.take_take,Nat.min_eq_left (by omega)]
 ·refine Nat.le_trans ?_ h.cost
  have e : xs.map Prod.fst = (xs.take n).map Prod.fst ++ (xs.drop n).map Prod.fst:=by rw [<- List.map_append,List.take_append_drop]
  rw [e,cDs_app]
  omega
theorem DL.kp {t : TypeId} {B : Nat} {w w' : World} {va : Option Addr} {n c K : Nat} {xs : List (DC × DPl)} (h : DL B w va n c K xs) (hk : Kp t w w') (h0 : 46 ≠ t) (h1 : 70 ≠ t) (h2 : 99 ≠ t) (h3 : 9 ≠ t) : DL B w' va n c K xs:=⟨own_kp h.own hk h0,h.len,fun x hx=>(h.ok x hx).kp hk h1 h2 h3,h.sm,h.cost⟩
theorem kp_setD {t : TypeId} {w : World} {b n i : Nat} {f : Nat -> Value} (h : w.rowIs b t n f) (v : Value) : Kp t w (w.setCell ⟨b,i,none⟩ v):=fun k c t' fr hk hne=>by
 refine Below.heap_setCell _ _ _ _ (fun e=>?_)
 obtain ⟨c2,h2,_⟩:=h
 have e : k = b:=e
 rw [e,h2] at hk
 simp only [Option.some.injEq,Obj.cells.injEq] at hk
 exact hne hk.2.1.symm
theorem DL.dsa {B : Nat} {w : World} {va : Option Addr} {n c K : Nat} {xs : List (DC × DPl)} (h : DL B w va n c K xs) (hK : K <= 1048576) : DsA w (.slice va n c) xs:=by
 refine ⟨⟨B,?_⟩,fun x hx=>DcA.of_dr (h.ok x hx) (h.sm x hx),Nat.le_trans h.cost hK⟩
 have:=h.own
 rw [h.len] at this ⊢
 exact this
structure DM (w wr : World) (mb : Nat) (va : Option Addr) (j c K : Nat) (xs : List (DC × DPl)) : Prop where
 hmb : w.heap.size < mb
 bel : Bw w wr
 res : wr.rowIs w.heap.size 24 1 (fun _=>.slice none 0 0)
 mod : wr.rowIs mb 24 1 (fun _=>.slice va j c)
 dl : DL w.heap.size wr va j c K xs
theorem DM.below {w wr w' : World} {mb : Nat} {va : Option Addr} {j c K : Nat} {xs : List (DC × DPl)} (h : DM w wr mb va j c K xs) (hb : Bw wr w') : DM w w' mb va j c K xs:=
 ⟨h.hmb,h.bel.trans (hb.mono h.bel.size),h.res.of_block (hb.block _ h.res.lt),h.mod.of_block (hb.block _ h.mod.lt),h.dl.below hb⟩
theorem DM.step {w wr : World} {mb : Nat} {va : Option Addr} {j c K : Nat} {xs : List (DC × DPl)} (h : DM w wr mb va (j + 1) c K xs) : DM w (wr.setCell ⟨mb,0,none⟩ (.slice va j c)) mb va j c K (xs.take j):=by
 have hm:=h.hmb
 refine ⟨hm,h.bel.setCell (p:=⟨mb,0,none⟩) (by show w.heap.size <= mb;omega) _,h.res.of_block (Below.heap_setCell _ _ _ _ (by show w.heap.size ≠ mb;omega)),?_,h.dl.cut.kp (kp_setD h.mod _) (by decide) (by decide) (by decide) (by decide)⟩
 refine (h.mod.set 0 (.slice va j c)).congr (fun k hk=>?_)
 have : k = 0:=by omega
 rw [if_pos this]
def mlen (w : World) (b : Nat) : Nat:=match w.cell? ⟨b,0,none⟩ with
 | some (.slice _ n _)=>n
 | _=>0
theorem DM.mlen {w wr : World} {mb : Nat} {va : Option Addr} {j c K : Nat} {xs : List (DC × DPl)} (h : DM w wr mb va j c K xs) : mlen wr mb = j:=by
 unfold Go.Proofs.YtcehppndpccldaaGreatDoor.mlen
 rw [h.mod.cell (i:=0) (by omega)]
theorem slice_botD (va : Option Addr) (m vc j : Nat) (hj : j <= vc) (W : World) : (Instr.slice 22 (.slice va m vc) none (some (.int .i64 (j : Int))) none).run Tryz.prog W = .ok (.slice va j vc) W:=by
 have h : (j : Int) <= (vc : Int):=by omega
 simp [go_sem,Tryz.underlying22,h]
theorem mod_ret {W : World} {X : Nat} {f : Nat -> Value} (R : W.rowIs X 24 1 f) (a v : Value) (tmps : Array Value) (h8 : tmps[8]?.getD undef = .pointer (some ⟨X,0,none⟩)) (h9 : tmps[9]?.getD undef = v) :
  (results Tryz.f59 tmps).run Tryz.prog (W.setCell ⟨X,0,none⟩ a) = .ok (.tuple #[.agg #[a],v]) (W.setCell ⟨X,0,none⟩ a):=by
 have r:=R.set 0 a
 obtain ⟨V,hV⟩:=xe (W.setCell ⟨X,0,none⟩ a)
 rw [<- hV] at r ⊢
 clear hV R
 have c0 : V.cell? ⟨X,0,none⟩ = some a:=r.cell (i:=0) (by omega)
 unfold results
 rw [show Tryz.f59.results = #[.cell 8 24,.tmp 9] from rfl]
 simp [go_sem,h8,h9,c0]
theorem okM_nil : okM [] = true:=rfl
theorem own_c1 {w : World} {sb : Nat} {N : Nat -> List ByteArray} {P : Nat -> NPl} {w0 : World} (h : DS w0 w sb N P) {i : Nat} (hi : i < 3) : w.cell? ⟨sb,i,none⟩ = some (.slice (P i).a (N i).length (P i).c) /\ w.frozen? ⟨sb,i,none⟩ = false /\ sb < w.heap.size /\ some sb ≠ (Value.slice (P i).a (N i).length (P i).c).ownBlock:=
 ⟨h.box.cell hi,h.box.frozen i,h.box.lt,fun e=>own_box (h.own i hi) h.box (by decide) e.symm⟩
theorem d_module (w : World) {ca : Option Addr} {cb co Ln cc p : Nat} {C : Nat -> Nat} (hC : BytesAt w ca cb co Ln C) (hLn : Ln <= 1048576) (hp : p <= 100000) {Q : List ByteArray} {mq : NPl} {mc : Nat} (hM : NsA w mq Q) (gM : ∀ s,s ∈ Q -> gn s = true) (hM0 : 0 < Q.length) (hM1 : Q.length <= 100) {n : Nat} (hn1 : 1 <= n) (hn10 : n <= 10) :
  Calls Tryz.prog 59 #[.slice ca Ln cc,.int .i64 (p : Int),.slice mq.a Q.length mc,.int .i64 (n : Int)] w (GnM w p):=by
 obtain ⟨i0,hi0,hi1,hi2,hi3⟩:=info_parts Tryz.infoDC
 obtain ⟨i9,hj0,hj1,hj2,hj3⟩:=info_parts Tryz.info9
 obtain ⟨W4,hW4⟩:=xe ((((w.alloc (.cells #[.slice none 0 0] 24)).alloc (.cells #[] 46)).alloc (.cells #[.string ⟨#[113]⟩] 9)).alloc (.cells #[.slice none 0 0,.slice (some ⟨w.heap.size + 1 + 1,0,none⟩) 1 1,.slice none 0 0] 111))
 obtain ⟨sb,hsb⟩:=xe (w.heap.size + 1 + 1 + 1)
 have HS4 : Hid (DS w W4 sb N0 (P0 (w.heap.size + 1 + 1))):=by
  have ho : ∀ i,i < 3 -> W4.ownsRow w.heap.size 9 1 (.slice (P0 (w.heap.size + 1 + 1) i).a (N0 i).length (P0 (w.heap.size + 1 + 1) i).c) (N0 i).length (sts (N0 i)):=fun i hi=>by
   match i,hi with
   | 0,_=>exact World.ownsRow_nil _ _ _ _
   | 2,_=>exact World.ownsRow_nil _ _ _ _
   | 1,_=>
     rw [hW4]
     refine World.ownsRow.alloc ?_ _
     have h:=World.ownsRow_lit (e:=9) (size:=1) ((w.alloc (.cells #[.slice none 0 0] 24)).alloc (.cells #[] 46)) #[.string ⟨#[113]⟩] 1 (nlr _) (by unfold maxLen;omega) (by rfl)
     simp only [World.size_alloc] at h
     exact own_mono h (by omega)
  refine ⟨by omega,?_,?_,?_,ho,fun i j b hi hj hij hb=>?_,fun i hi s hs=>?_,fun i hi=>?_⟩
  ·rw [hW4];exact ((bel2 _ _ _).alloc (by simp;omega) _).alloc (by simp;omega) _
  ·rw [hW4];exact (((row1 w (.slice none 0 0) 24).alloc _).alloc _).alloc _
  ·rw [hW4,hsb]
   have h:=row3 (((w.alloc (.cells #[.slice none 0 0] 24)).alloc (.cells #[] 46)).alloc (.cells #[.string ⟨#[113]⟩] 9)) (.slice none 0 0) (.slice (some ⟨w.heap.size + 1 + 1,0,none⟩) 1 1) (.slice none 0 0) 111
   simp only [World.size_alloc] at h
   refine h.congr (fun i hi=>?_)
   match i,hi with
   | 0,_=>rfl
   | 1,_=>rfl
   | 2,_=>rfl
  ·match i,j,hi,hj with
   | 0,_,_,_=>cases hb
   | 2,_,_,_=>cases hb
   | 1,0,_,_=>exact fun e=>by cases e
   | 1,2,_,_=>exact fun e=>by cases e
   | 1,1,_,_=>exact absurd rfl hij
  ·match i,hi with
   | 0,_=>cases hs
   | 2,_=>cases hs
   | 1,_=>rw [ms1 hs];decide
  ·match i,hi with
   | 0,_=>exact Nat.zero_le _
   | 2,_=>exact Nat.zero_le _
   | 1,_=>show 1 <= 100;omega
 have HD4 : Hid (DL w.heap.size W4 (some ⟨w.heap.size + 1,0,none⟩) 0 0 0 []):=by
  refine ⟨?_,rfl,(fun x hx=>by cases hx),(fun x hx=>by cases hx),nlr _⟩
  rw [hW4]
  have h:=World.ownsRow_lit (e:=46) (size:=4) (w.alloc (.cells #[.slice none 0 0] 24)) #[] 0 (nlr _) (by unfold maxLen;omega) (by rfl)
  simp only [World.size_alloc] at h
  exact own_mono ((h.alloc _).alloc _) (by omega)
 have HBS : Hid (∀ W,Bw w W -> BytesAt W ca cb co Ln C /\ NsA W mq Q):=fun W hb=>⟨hC.below hb,hM.below hb⟩
 have HGQ : Hid (∀ s,s ∈ Q -> gn s = true):=gM
 have C1:=d_take ca cb co Ln cc p 4 C W4 (HBS.out W4 HS4.out.bel).1 hLn (by omega) (by omega)
 obtain ⟨k4,hk4⟩:=xe (tk C Ln p 4)
 have hk44 : k4 < 4:=by rw [hk4];exact tk_lt (by omega)
 rw [<- hk4] at C1
 have eQ : mq.a = some ⟨mq.b,0,none⟩:=hM.at_ hM0
 rw [eQ]
 have lQ0 : (0 : Int) < (Q.length : Int):=by omega
 clear hC hM gM hk4 eQ
 go_enter Tryz.func59,Tryz.ntmps59
 go_wp2_with fail
 rw [<- hW4,<- hsb]
 clear hW4 hsb
 refine C1.mono ?_
 rintro e w1 ⟨rfl,rfl⟩
 clear C1
 go_wp2_with fail
 go_loopw [1,13,15] (fun pp o i wr=>∃ (j q n1 c1 : Nat) (va : Option Addr),j <= k4 /\ i = .int .i64 j /\ pp = .int .i64 (q : Int) /\ p + 1 <= q /\ q <= p + 1 + j /\ o = .slice va n1 c1 /\ n1 <= j /\ Hid (∃ N P xs,DS w wr sb N P /\ N 0 = [] /\ N 1 = [⟨#[113]⟩] /\ (N 2).length <= j /\ DL w.heap.size wr va n1 c1 (1000 * j) xs /\ Imp xs)) (fun _ _ i _=>k4 - (intOf i).toNat)
 case atStart=>exact ⟨0,p + 1,0,0,_,Nat.zero_le _,rfl,rfl,by omega,by omega,rfl,Nat.zero_le _,_,_,_,HS4.out,rfl,rfl,Nat.zero_le _,HD4.out,fun x hx=>by cases hx⟩
 case round=>
  clear HS4 HD4
  obtain ⟨j,q,n1,c1,va,hj,rfl,rfl,hq1,hq2,rfl,hn1j,HG⟩:=hrel
  by_cases hlt : j < k4
  ·have lj : (j : Int) < (k4 : Int):=by omega
   obtain ⟨N,P,xs,S,hN0,hN1,hN2,D,hI⟩:=HG.out
   have HSS : Hid (DS w wr sb N P /\ N 0 = [] /\ N 1 = [⟨#[113]⟩] /\ DL w.heap.size wr va n1 c1 (1000 * j) xs /\ Imp xs):=⟨S,hN0,hN1,D,hI⟩
   have HBW:=HBS.out wr S.bel
   have C2:=d_take ca cb co Ln cc q Q.length C wr HBW.1 hLn (by omega) (by omega)
   obtain ⟨a,ha⟩:=xe (tk C Ln q Q.length)
   have haQ : a < Q.length:=by rw [ha];exact tk_lt hM0
   rw [<- ha] at C2
   have yq:=HBW.2.cell a haQ
   have hgn:=HGQ.out (Q.getD a e0) (by rw [List.getD_eq_getElem?_getD,List.getElem?_eq_getElem haQ];exact List.getElem_mem haQ)
   obtain ⟨s,hs⟩:=xe (Q.getD a e0)
   rw [<- hs] at yq hgn
   have HSQ : Hid (s = Q.getD a e0):=hs
   have HGN : Hid (gn s = true):=hgn
   obtain ⟨c2,f2,hsl,n1'⟩:=own_c1 S (i:=2) (by omega)
   have OWN:=S.own 2 (by omega)
   obtain ⟨pa,hpa⟩:=xe ((P 2).a)
   obtain ⟨pc,hpc⟩:=xe ((P 2).c)
   obtain ⟨NL,hNL⟩:=xe (N 2)
   obtain ⟨nl,hnl⟩:=xe (NL.length)
   rw [<- hpa,<- hpc,<- hNL,<- hnl] at c2 n1' OWN
   rw [<- hNL,<- hnl] at hN2
   have HEQ : Hid (pa = (P 2).a /\ pc = (P 2).c /\ NL = N 2 /\ nl = NL.length):=⟨hpa,hpc,hNL,hnl⟩
   have hnl3 : nl <= 100:=by omega
   obtain ⟨g2,hn2⟩:=nm_of_own hnl OWN
   have C3:=v_twice wr hn2.nsa (va:=pa) (n:=nl) (c:=pc) (Nat.le_of_eq hnl) (fun h=>(hn2 (by rintro rfl;simp at hnl;omega)).1) (by omega) s
   obtain ⟨bt,hbt⟩:=xe (hasN (NL.take nl) s)
   rw [<- hbt] at C3
   have HC3 : Hid (∀ j,Calls Tryz.prog 88 #[.slice pa nl pc,.string s] (wr.drewN j) fun e w'=>e = .returned (.bool bt) /\ ∃ k,w' = (wr.drewN j).drewN k):=fun j=>by
    have h:=v_twice (wr.drewN j) (hn2.below (below_drewN' _ _)).nsa (va:=pa) (n:=nl) (c:=pc) (Nat.le_of_eq hnl) (fun h=>(hn2 (by rintro rfl;simp at hnl;omega)).1) (by omega) s
    rw [<- hbt] at h
    exact h.mono fun _ _ h=>⟨h.1,0,h.2⟩
   have laQ : (a : Int) < (Q.length : Int):=by omega
   have la0 : (0 : Int) <= (a : Int):=by omega
   clear C3 hn2 hbt hpa hpc hNL hnl hs ha hgn HBW S D hI hN0 hN1 OWN
   go_wp2_with fail
   refine C2.mono ?_
   rintro e w5 ⟨rfl,rfl⟩
   clear C2
   go_wp2_with fail
   by_cases hsk : bt = true /\ ¬ k4 = 3
   ·have b3 : ((k4 : Int) == 3) = false:=bn2 (by omega)
    have hbt:=hsk.1
    clear hsk
    subst hbt
    go_quiet (first | (go_at_call 88;first | (with_reducible exact Calls.quiet_of (HC3.out _)) | (with_reducible exact quiet_two (HC3.out _))))
    obtain ⟨w6,hw6⟩:=xe (wr.drewN nq)
    rw [<- hw6]
    have HB6 : Hid (Bw wr w6):=by rw [hw6];exact below_drewN' _ _
    clear hw6 c2 f2 yq n1' hsl HC3
    go_wp2
    refine ⟨⟨j + 1,q + 1,n1,c1,va,by omega,by go_num,rfl,by omega,by omega,rfl,by omega,N,P,xs,HSS.out.1.below HB6.out,HSS.out.2.1,HSS.out.2.2.1,?_,(HSS.out.2.2.2.1.below HB6.out).mono (by omega),HSS.out.2.2.2.2⟩,by simp [intOf];omega⟩
    rw [<- HEQ.out.2.2.1,<- HEQ.out.2.2.2]
    omega
   ·cases bt
    all_goals
     try (have b3 : ((k4 : Int) == 3) = true:=beq_iff_eq.2 (by simp at hsk;omega))
     clear hsk
     go_quiet (first | (go_at_call 88;first | (with_reducible exact Calls.quiet_of (HC3.out _)) | (with_reducible exact quiet_two (HC3.out _))))
     obtain ⟨w6,hw6⟩:=xe (wr.drewN nq)
     rw [<- hw6]
     have HB6 : Hid (Bw wr w6):=by rw [hw6];exact below_drewN' _ _
     clear hw6 c2 f2 yq n1' hsl HC3
     have HS6 : Hid (DS w w6 sb N P):=HSS.out.1.below HB6.out
     have HD6 : Hid (DL w.heap.size w6 va n1 c1 (1000 * j) xs):=HSS.out.2.2.2.1.below HB6.out
     have yq:=(HBS.out w6 HS6.out.bel).2.cell a haQ
     rw [<- HSQ.out] at yq
     have OWD:=HD6.out.own
     have hsz6:=HS6.out.bel.size
     go_upto_region 11 with (first | (at_builtin;refine wpList_append_lies _ rfl _ _ 22 rfl w.heap.size 46 i0 _ 4 72 Tryz.underlying22 hi0 hi1 hi2 hi3 rfl (by omega) (.slice va n1 c1) n1 (dcsC xs) rfl (OWD.alloc _) ⟨w6.heap.size,0,none⟩ 1 1 [.int .i64 1,.string s,.slice none 0 0,.slice none 0 0] rfl rfl (World.news_of_block (cs:=#[.int .i64 1,.string s,.slice none 0 0,.slice none 0 0]) (t:=46) (fr:=(0,0)) (heap_alloc_new w6 _)) (by simp [Value.oneCell']) (by omega) (by unfold maxLen;omega) (by omega) (by simp only [World.size_alloc];omega) (w6.heap.size + 1) (by simp) ?_;intro gD cD3 w7 hownD hgD hatD hltD))
     have HX : Hid (dcC ((⟨1,s,[],[]⟩ : DC),dp0) = [.int .i64 1,.string s,.slice none 0 0,.slice none 0 0]):=rfl
     have HD7 : Hid (DL w.heap.size w7 (some ⟨gD,0,none⟩) (n1 + 1) cD3 (1000 * (j + 1)) (xs ++ [((⟨1,s,[],[]⟩ : DC),dp0)])):=HD6.out.push (x:=((⟨1,s,[],[]⟩ : DC),dp0)) (by rw [HX.out];exact hownD) hgD (rd_bare _) (sm_imp (gn_12 HGN.out)) (by show 1000 * j + 1 + (s.size + cTs [] + cEs []) <= _;have:=gn_12 HGN.out;have : cTs [] = 0:=rfl;have : cEs [] = 0:=rfl;omega)
     have HS7 : Hid (DS w w7 sb N P):=HS6.out.decl HD6.out hgD
     have HI7 : Hid (Imp (xs ++ [((⟨1,s,[],[]⟩ : DC),dp0)])):=fun x hx=>by
      rcases List.mem_append.1 hx with z | z
      ·exact HSS.out.2.2.2.2 x z
      ·exact ⟨1,s,ms1 z⟩
     clear hownD hgD hatD hltD OWD yq HX
     have yq:=(HBS.out w7 HS7.out.bel).2.cell a haQ
     rw [<- HSQ.out] at yq
     obtain ⟨c2,f2,hsl,n1'⟩:=own_c1 HS7.out (i:=2) (by omega)
     have OWN:=HS7.out.own 2 (by omega)
     rw [<- HEQ.out.1,<- HEQ.out.2.1,<- HEQ.out.2.2.1,<- HEQ.out.2.2.2] at c2 n1' OWN
     have c2' : ((w7.alloc (.cells #[.string s] 9)).drew).cell? ⟨sb,2,none⟩ = some (.slice pa nl pc):=(World.cell?_of_block (a:=⟨sb,2,none⟩) (Below.heap_alloc w7 _ _ hsl)).trans c2
     have f2' : ((w7.alloc (.cells #[.string s] 9)).drew).frozen? ⟨sb,2,none⟩ = false:=(World.frozen?_of_block (a:=⟨sb,2,none⟩) (Below.heap_alloc w7 _ _ hsl)).trans f2
     have hbb : (nl + 1) * 16 <= 140737488355328:=by omega
     have hml2 : nl + 1 <= maxLen:=by unfold maxLen;omega
     have hsz7:=HS7.out.bel.size
     go_region_law (refine step_append_lies _ (by rfl) _ _ _ (by rfl) w.heap.size 9 i9 _ 1 16 Tryz.underlying66 hj0 hj1 hj2 hj3 rfl (by omega) (.slice pa nl pc) nl (sts NL) (by rfl) ((OWN.alloc _).drew) ⟨w7.heap.size,0,none⟩ 1 1 [.string s] (by rfl) (by rfl) (World.news_of_block (cs:=#[.string s]) (t:=9) (fr:=(0,0)) (heap_alloc_new w7 _)) (by simp [Value.oneCell']) (by omega) hml2 hbb (by simp;omega) (w7.heap.size + 1) (by simp) ?_;intro gg cap3 w4 hown4 hg4 hat hlt4;have e1 : w4.cell? ⟨sb,2,none⟩ = some (.slice pa nl pc):=(hg4.cell_far ⟨sb,2,none⟩ (by simp;omega) n1').trans c2';have e2 : w4.frozen? ⟨sb,2,none⟩ = false:=(hg4.frozen_far ⟨sb,2,none⟩ (by simp;omega) n1').trans f2')
     all_goals
      have hg5 : (w7.alloc (.cells #[.string s] 9)).grownBy w4 (Value.slice pa nl pc).ownBlock:=⟨hg4.os,hg4.tape,hg4.output,hg4.size,hg4.block⟩
      have FIN : Hid (DS w (w4.setCell ⟨sb,2,none⟩ (.slice (some ⟨gg,0,none⟩) (nl + 1) cap3)) sb (upd N 2 (N 2 ++ [s])) (upd P 2 ⟨some ⟨gg,0,none⟩,gg,cap3⟩)):=by
       obtain ⟨e1,e2,e3,e4⟩:=HEQ.out
       rw [e1,e2,e4,e3] at hg5 hat
       rw [e4,e3] at hown4
       rw [e4,e3]
       exact HS7.out.grow (by omega) HGN.out (by rw [<- e3,<- e4];omega) hown4 hg5 hat
      have FID : Hid (DL w.heap.size (w4.setCell ⟨sb,2,none⟩ (.slice (some ⟨gg,0,none⟩) (nl + 1) cap3)) (some ⟨gD,0,none⟩) (n1 + 1) cD3 (1000 * (j + 1)) (xs ++ [((⟨1,s,[],[]⟩ : DC),dp0)])):=HD7.out.imp HI7.out OWN hg5 HS7.out.box
      clear hg5 hown4 hg4 hat e1 e2 c2 f2 c2' f2' OWN yq
      go_wp2
      refine ⟨⟨j + 1,q + 1,n1 + 1,cD3,some ⟨gD,0,none⟩,by omega,by go_num,rfl,by omega,by omega,rfl,by omega,upd N 2 (N 2 ++ [s]),upd P 2 ⟨some ⟨gg,0,none⟩,gg,cap3⟩,_,FIN.out,?_,?_,?_,FID.out,HI7.out⟩,by simp [intOf];omega⟩
      ·rw [upd_ne _ _ (by omega)];exact HSS.out.2.1
      ·rw [upd_ne _ _ (by omega)];exact HSS.out.2.2.1
      ·rw [upd_eq,lap,<- HEQ.out.2.2.1,<- HEQ.out.2.2.2]
       show nl + 1 <= j + 1
       omega
  ·have lj : ¬ (j : Int) < (k4 : Int):=by omega
   have hjk : j = k4:=by omega
   obtain ⟨N,P,xs,S,hN0,hN1,hN2,D,hI⟩:=HG.out
   have HG1 : Hid (∃ N P,DS w wr sb N P /\ ((N 0).length = 0 /\ (N 1).length = 1 /\ (N 2).length <= 3) /\ DL w.heap.size wr va n1 c1 4000 xs /\ Imp xs):=⟨N,P,S,⟨by rw [hN0];rfl,by rw [hN1];rfl,by omega⟩,D.mono (by omega),hI⟩
   have m3 : Int.tdiv (n : Int) 3 = ((n / 3 : Nat) : Int):=tdivN n 3
   obtain ⟨n3,hn3⟩:=xe (n / 3)
   rw [<- hn3] at m3
   have hn3a : n3 <= 3 /\ n3 < n:=by omega
   have HN6 : Hid (n - (1 + n3) <= 6):=(by omega : n - (1 + n3) <= 6)
   have w3 : IntKind.i64.wrap (1 + (n3 : Int)) = 1 + (n3 : Int):=wk (by omega)
   have hq3 : p + 1 <= q /\ q <= p + 1 + 3:=by omega
   have hn13 : n1 <= 3:=by omega
   clear S D hI hN0 hN1 hN2 HG hn3 hjk hn1j hq1 hq2
   have HG:=HG1
   clear HG1
   go_wp2
   go_loopw [17] (fun i wr=>∃ t : Nat,t <= (1 + n3) /\ i = .int .i64 t /\ Hid (∃ N P,DS w wr sb N P /\ ((N 0).length = t /\ (N 1).length = 1 /\ (N 2).length <= 3) /\ DL w.heap.size wr va n1 c1 4000 xs /\ Imp xs)) (fun i _=>(1 + n3) - (intOf i).toNat)
   case atStart=>exact ⟨0,Nat.zero_le _,rfl,HG⟩
   case round=>
    rename World=>wr
    clear HG
    obtain ⟨t,ht,rfl,HG⟩:=hrel
    by_cases hlt : t < (1 + n3)
    ·have lt' : (t : Int) < 1 + (n3 : Int):=by omega
     obtain ⟨N,P,S,hN,D,hI⟩:=HG.out
     have HSS : Hid (DS w wr sb N P /\ (((N 0).length = t /\ (N 1).length = 1 /\ (N 2).length <= 3)) /\ DL w.heap.size wr va n1 c1 4000 xs /\ Imp xs):=⟨S,hN,D,hI⟩
     obtain ⟨c2,f2,hsl,n1'⟩:=own_c1 S (i:=0) (by omega)
     have OWN:=S.own 0 (by omega)
     have hlen : (N 0).length <= 50:=by omega
     obtain ⟨pa,hpa⟩:=xe ((P 0).a)
     obtain ⟨pc,hpc⟩:=xe ((P 0).c)
     obtain ⟨NL,hNL⟩:=xe (N 0)
     obtain ⟨nl,hnl⟩:=xe (NL.length)
     rw [<- hpa,<- hpc,<- hNL,<- hnl] at c2 n1' OWN
     rw [<- hNL,<- hnl] at hlen
     have HEQ : Hid (pa = (P 0).a /\ pc = (P 0).c /\ NL = N 0 /\ nl = NL.length):=⟨hpa,hpc,hNL,hnl⟩
     obtain ⟨s,hs⟩:=xe (dclN t false)
     have CD : Hid (∀ W,Calls Tryz.prog 89 #[.int .i64 (t : Int),.bool false] W fun e w'=>e = .returned (.string s) /\ w' = W):=fun W=>by rw [hs];exact d_dclN t false W
     have HGN : Hid (gn s = true):=by rw [hs];exact (dclN_ok t false).1
     have c2' : ((wr.alloc (.cells #[.string s] 9)).drew).cell? ⟨sb,0,none⟩ = some (.slice pa nl pc):=(World.cell?_of_block (a:=⟨sb,0,none⟩) (Below.heap_alloc wr _ _ hsl)).trans c2
     have f2' : ((wr.alloc (.cells #[.string s] 9)).drew).frozen? ⟨sb,0,none⟩ = false:=(World.frozen?_of_block (a:=⟨sb,0,none⟩) (Below.heap_alloc wr _ _ hsl)).trans f2
     have hbb : (nl + 1) * 16 <= 140737488355328:=by omega
     have hml2 : nl + 1 <= maxLen:=by unfold maxLen;omega
     have hszr:=S.bel.size
     clear hpa hpc hNL hnl hs S D hI hN HG
     go_wp2
     go_region_law (first | (refine step_call_is (by rfl) 89 (by rfl) #[.int .i64 (t : Int),.bool false] (by kernel_rfl) (.string s) (CD.out _) ?_) | (refine step_append_lies _ (by rfl) _ _ _ (by rfl) w.heap.size 9 i9 _ 1 16 Tryz.underlying66 hj0 hj1 hj2 hj3 rfl (by omega) (.slice pa nl pc) nl (sts NL) (by rfl) ((OWN.alloc _).drew) ⟨wr.heap.size,0,none⟩ 1 1 [.string s] (by rfl) (by rfl) (World.news_of_block (cs:=#[.string s]) (t:=9) (fr:=(0,0)) (heap_alloc_new wr _)) (by simp [Value.oneCell']) (by omega) hml2 hbb (by simp;omega) (wr.heap.size + 1) (by simp) ?_;intro gg cap3 w4 hown4 hg4 hat hlt4;have e1 : w4.cell? ⟨sb,0,none⟩ = some (.slice pa nl pc):=(hg4.cell_far ⟨sb,0,none⟩ (by simp;omega) n1').trans c2';have e2 : w4.frozen? ⟨sb,0,none⟩ = false:=(hg4.frozen_far ⟨sb,0,none⟩ (by simp;omega) n1').trans f2'))
     all_goals
      have hg5 : (wr.alloc (.cells #[.string s] 9)).grownBy w4 (Value.slice pa nl pc).ownBlock:=⟨hg4.os,hg4.tape,hg4.output,hg4.size,hg4.block⟩
      have FIN : Hid (DS w (w4.setCell ⟨sb,0,none⟩ (.slice (some ⟨gg,0,none⟩) (nl + 1) cap3)) sb (upd N 0 (N 0 ++ [s])) (upd P 0 ⟨some ⟨gg,0,none⟩,gg,cap3⟩)):=by
       obtain ⟨e1,e2,e3,e4⟩:=HEQ.out
       rw [e1,e2,e4,e3] at hg5 hat
       rw [e4,e3] at hown4
       rw [e4,e3]
       exact HSS.out.1.grow (by omega) HGN.out (by rw [<- e3,<- e4];omega) hown4 hg5 hat
      have FID : Hid (DL w.heap.size (w4.setCell ⟨sb,0,none⟩ (.slice (some ⟨gg,0,none⟩) (nl + 1) cap3)) va n1 c1 4000 xs):=HSS.out.2.2.1.imp HSS.out.2.2.2 OWN hg5 HSS.out.1.box
      clear hg5 hown4 hg4 hat e1 e2 c2 f2 c2' f2' OWN
      go_wp2
      refine ⟨⟨t + 1,by omega,by go_num,upd N 0 (N 0 ++ [s]),upd P 0 ⟨some ⟨gg,0,none⟩,gg,cap3⟩,FIN.out,?_,FID.out,HSS.out.2.2.2⟩,by simp [intOf];omega⟩
      obtain ⟨h0,h1,h2⟩:=HSS.out.2.1
      refine ⟨?_,?_,?_⟩
      ·rw [upd_eq,lap,h0];rfl
      ·rw [upd_ne _ _ (by omega)];exact h1
      ·rw [upd_ne _ _ (by omega)];exact h2
    ·have lt' : ¬ (t : Int) < 1 + (n3 : Int):=by omega
     have htl : t = 1 + n3:=by omega
     subst htl
     obtain ⟨nv,hnv⟩:=xe (n - (1 + n3))
     have hnv1 : 1 + n3 + nv = n:=by omega
     have wv : IntKind.i64.wrap ((n : Int) - (1 + (n3 : Int))) = (nv : Int):=wk (by omega)
     clear hnv
     go_wp2
     go_loopw [18] (fun i wr=>∃ t : Nat,t <= nv /\ i = .int .i64 t /\ Hid (∃ N P,DS w wr sb N P /\ ((N 0).length = 1 + n3 /\ (N 1).length = 1 + t /\ (N 2).length <= 3) /\ DL w.heap.size wr va n1 c1 4000 xs /\ Imp xs)) (fun i _=>nv - (intOf i).toNat)
     case atStart=>exact ⟨0,Nat.zero_le _,rfl,HG⟩
     case round=>
      rename World=>wr
      clear HG
      obtain ⟨t,ht,rfl,HG⟩:=hrel
      by_cases hlt : t < nv
      ·have lt' : (t : Int) < (nv : Int):=by omega
       obtain ⟨N,P,S,hN,D,hI⟩:=HG.out
       have HSS : Hid (DS w wr sb N P /\ (((N 0).length = 1 + n3 /\ (N 1).length = 1 + t /\ (N 2).length <= 3)) /\ DL w.heap.size wr va n1 c1 4000 xs /\ Imp xs):=⟨S,hN,D,hI⟩
       obtain ⟨c2,f2,hsl,n1'⟩:=own_c1 S (i:=1) (by omega)
       have OWN:=S.own 1 (by omega)
       have hlen : (N 1).length <= 50:=by omega
       obtain ⟨pa,hpa⟩:=xe ((P 1).a)
       obtain ⟨pc,hpc⟩:=xe ((P 1).c)
       obtain ⟨NL,hNL⟩:=xe (N 1)
       obtain ⟨nl,hnl⟩:=xe (NL.length)
       rw [<- hpa,<- hpc,<- hNL,<- hnl] at c2 n1' OWN
       rw [<- hNL,<- hnl] at hlen
       have HEQ : Hid (pa = (P 1).a /\ pc = (P 1).c /\ NL = N 1 /\ nl = NL.length):=⟨hpa,hpc,hNL,hnl⟩
       obtain ⟨s,hs⟩:=xe (dclN t true)
       have CD : Hid (∀ W,Calls Tryz.prog 89 #[.int .i64 (t : Int),.bool true] W fun e w'=>e = .returned (.string s) /\ w' = W):=fun W=>by rw [hs];exact d_dclN t true W
       have HGN : Hid (gn s = true):=by rw [hs];exact (dclN_ok t true).1
       have c2' : ((wr.alloc (.cells #[.string s] 9)).drew).cell? ⟨sb,1,none⟩ = some (.slice pa nl pc):=(World.cell?_of_block (a:=⟨sb,1,none⟩) (Below.heap_alloc wr _ _ hsl)).trans c2
       have f2' : ((wr.alloc (.cells #[.string s] 9)).drew).frozen? ⟨sb,1,none⟩ = false:=(World.frozen?_of_block (a:=⟨sb,1,none⟩) (Below.heap_alloc wr _ _ hsl)).trans f2
       have hbb : (nl + 1) * 16 <= 140737488355328:=by omega
       have hml2 : nl + 1 <= maxLen:=by unfold maxLen;omega
       have hszr:=S.bel.size
       clear hpa hpc hNL hnl hs S D hI hN HG
       go_wp2
       go_region_law (first | (refine step_call_is (by rfl) 89 (by rfl) #[.int .i64 (t : Int),.bool true] (by kernel_rfl) (.string s) (CD.out _) ?_) | (refine step_append_lies _ (by rfl) _ _ _ (by rfl) w.heap.size 9 i9 _ 1 16 Tryz.underlying66 hj0 hj1 hj2 hj3 rfl (by omega) (.slice pa nl pc) nl (sts NL) (by rfl) ((OWN.alloc _).drew) ⟨wr.heap.size,0,none⟩ 1 1 [.string s] (by rfl) (by rfl) (World.news_of_block (cs:=#[.string s]) (t:=9) (fr:=(0,0)) (heap_alloc_new wr _)) (by simp [Value.oneCell']) (by omega) hml2 hbb (by simp;omega) (wr.heap.size + 1) (by simp) ?_;intro gg cap3 w4 hown4 hg4 hat hlt4;have e1 : w4.cell? ⟨sb,1,none⟩ = some (.slice pa nl pc):=(hg4.cell_far ⟨sb,1,none⟩ (by simp;omega) n1').trans c2';have e2 : w4.frozen? ⟨sb,1,none⟩ = false:=(hg4.frozen_far ⟨sb,1,none⟩ (by simp;omega) n1').trans f2'))
       all_goals
        have hg5 : (wr.alloc (.cells #[.string s] 9)).grownBy w4 (Value.slice pa nl pc).ownBlock:=⟨hg4.os,hg4.tape,hg4.output,hg4.size,hg4.block⟩
        have FIN : Hid (DS w (w4.setCell ⟨sb,1,none⟩ (.slice (some ⟨gg,0,none⟩) (nl + 1) cap3)) sb (upd N 1 (N 1 ++ [s])) (upd P 1 ⟨some ⟨gg,0,none⟩,gg,cap3⟩)):=by
         obtain ⟨e1,e2,e3,e4⟩:=HEQ.out
         rw [e1,e2,e4,e3] at hg5 hat
         rw [e4,e3] at hown4
         rw [e4,e3]
         exact HSS.out.1.grow (by omega) HGN.out (by rw [<- e3,<- e4];omega) hown4 hg5 hat
        have FID : Hid (DL w.heap.size (w4.setCell ⟨sb,1,none⟩ (.slice (some ⟨gg,0,none⟩) (nl + 1) cap3)) va n1 c1 4000 xs):=HSS.out.2.2.1.imp HSS.out.2.2.2 OWN hg5 HSS.out.1.box
        clear hg5 hown4 hg4 hat e1 e2 c2 f2 c2' f2' OWN
        go_wp2
        refine ⟨⟨t + 1,by omega,by go_num,upd N 1 (N 1 ++ [s]),upd P 1 ⟨some ⟨gg,0,none⟩,gg,cap3⟩,FIN.out,?_,FID.out,HSS.out.2.2.2⟩,by simp [intOf];omega⟩
        obtain ⟨h0,h1,h2⟩:=HSS.out.2.1
        refine ⟨?_,?_,?_⟩
        ·rw [upd_ne _ _ (by omega)];exact h0
        ·rw [upd_eq,lap,h1];show 1 + t + 1 = 1 + (t + 1);omega
        ·rw [upd_ne _ _ (by omega)];exact h2
      ·have lt' : ¬ (t : Int) < (nv : Int):=by omega
       have htl : t = nv:=by omega
       subst htl
       obtain ⟨N,P,S,hN,D,hI⟩:=HG.out
       have HSC : Hid (∀ W,DS w W sb N P -> ∃ tp vp mp : NPl,Sc W (N 0) (N 1) (N 2) tp vp mp /\ tp.a = (P 0).a /\ tp.c = (P 0).c /\ vp.a = (P 1).a /\ vp.c = (P 1).c /\ mp.a = (P 2).a /\ mp.c = (P 2).c):=fun W S=>by
        obtain ⟨g0,m0⟩:=nm_of_own rfl (S.own 0 (by omega))
        obtain ⟨g1,m1⟩:=nm_of_own rfl (S.own 1 (by omega))
        obtain ⟨g2,m2⟩:=nm_of_own rfl (S.own 2 (by omega))
        have l0:=S.len 0 (by omega)
        have l1:=S.len 1 (by omega)
        have l2:=S.len 2 (by omega)
        exact ⟨_,_,_,⟨m0.nsa,m1.nsa,m2.nsa,S.good 0 (by omega),S.good 1 (by omega),S.good 2 (by omega),⟨by omega,own_cap (S.own 0 (by omega))⟩,⟨by omega,own_cap (S.own 1 (by omega))⟩,⟨by omega,own_cap (S.own 2 (by omega))⟩⟩,rfl,rfl,rfl,rfl,rfl,rfl⟩
       have hV0 : 0 < (N 1).length /\ (N 1).length + 4 <= 1000:=by omega
       have HSW : Hid (DS w wr sb N P /\ DL w.heap.size wr va n1 c1 4000 xs /\ Imp xs):=⟨S,D,hI⟩
       have C6:=d_take ca cb co Ln cc q 16 C wr (HBS.out wr S.bel).1 hLn (by omega) (by omega)
       obtain ⟨a16,ha16⟩:=xe (tk C Ln q 16)
       rw [<- ha16] at C6
       clear ha16 S D hI hN HG
       go_wp2_with fail
       refine C6.mono ?_
       rintro e w5 ⟨rfl,rfl⟩
       clear C6
       go_upto_if 117 with fail
       go_cut [13] (fun o wc=>∃ (va : Option Addr) (n1 c1 : Nat),o = .slice va n1 c1 /\ n1 <= 4 /\ Hid (∃ xs,DS w wc sb N P /\ DL w.heap.size wc va n1 c1 5000 xs))
       case first=>
        by_cases h0 : (0 : Int) < (a16 : Int)
        ·obtain ⟨WT,hWT⟩:=xe ((wr.alloc (.cells #[.int .i64 3,.string ⟨#[]⟩,.string ⟨#[]⟩,.slice none 0 0] 99)).alloc (.cells #[.int .i64 1,.int .i64 (a16 : Int),.string ⟨#[]⟩,.string ⟨#[]⟩,.slice none 0 0,.slice none 0 0] 70))
         have HBT : Hid (Bw wr WT):=by rw [hWT];exact bel2 _ _ _
         have HST : Hid (DS w WT sb N P):=HSW.out.1.below HBT.out
         have HDT : Hid (DL w.heap.size WT va n1 c1 4000 xs):=HSW.out.2.1.below HBT.out
         have hst : WT.heap.size = wr.heap.size + 1 + 1:=by rw [hWT];simp
         have HZT : Hid (WT.heap.size = wr.heap.size + 1 + 1):=hst
         have HRT : Hid (RT 0 WT (.slice (some ⟨wr.heap.size,0,none⟩) 1 1) [((⟨3,⟨#[]⟩,⟨#[]⟩,[]⟩ : TI),(⟨none,0,0⟩ : NPl))]):=by
          rw [hWT]
          exact (rt_lit wr (Nat.zero_le _) 3 ⟨#[]⟩ ⟨#[]⟩).below (bel1 _ _)
         have HRE : Hid (GE 0 0 WT (some ⟨wr.heap.size + 1,0,none⟩) 1 1 25 [((⟨1,(a16 : Int),⟨#[]⟩,⟨#[]⟩,[],[]⟩ : EI),ep0)]):=by
          rw [hWT]
          have h:=ge_lit (wr.alloc (.cells #[.int .i64 3,.string ⟨#[]⟩,.string ⟨#[]⟩,.slice none 0 0] 99)) (Bi:=0) (X:=25) 1 (a16 : Int) (md:=⟨#[]⟩) (nm:=⟨#[]⟩) (by decide)
          simp only [World.size_alloc] at h
          exact h.mono (Nat.zero_le _) (nlr _) (nlr _)
         have HNW : Hid (∀ j u,([.int .i64 3,.string ⟨#[113]⟩,.slice (some ⟨wr.heap.size,0,none⟩) 1 1,.slice (some ⟨wr.heap.size + 1,0,none⟩) 1 1] : List Value)[j]? = some u -> (WT.alloc (.cells #[.int .i64 3,.string ⟨#[113]⟩,.slice (some ⟨wr.heap.size,0,none⟩) 1 1,.slice (some ⟨wr.heap.size + 1,0,none⟩) 1 1] 46)).cell? ((⟨wr.heap.size + 1 + 1,0,none⟩ : Addr).add j) = some u):=by
          have h:=World.news_of_block (cs:=#[.int .i64 3,.string ⟨#[113]⟩,.slice (some ⟨wr.heap.size,0,none⟩) 1 1,.slice (some ⟨wr.heap.size + 1,0,none⟩) 1 1]) (t:=46) (fr:=(0,0)) (heap_alloc_new WT (.cells #[.int .i64 3,.string ⟨#[113]⟩,.slice (some ⟨wr.heap.size,0,none⟩) 1 1,.slice (some ⟨wr.heap.size + 1,0,none⟩) 1 1] 46))
          rw [hst] at h
          exact h
         have OWD : (WT.alloc (.cells #[.int .i64 3,.string ⟨#[113]⟩,.slice (some ⟨wr.heap.size,0,none⟩) 1 1,.slice (some ⟨wr.heap.size + 1,0,none⟩) 1 1] 46)).ownsRow w.heap.size 46 4 (.slice va n1 c1) n1 (dcsC xs):=HDT.out.own.alloc _
         have hszW:=HST.out.bel.size
         rw [hWT] at OWD HNW
         have hsw:=HSW.out.1.bel.size
         clear hst
         go_wp2_with (first | (at_builtin;refine wpList_append_lies _ rfl _ _ 22 rfl w.heap.size 46 i0 _ 4 72 Tryz.underlying22 hi0 hi1 hi2 hi3 rfl (by omega) (.slice va n1 c1) n1 (dcsC xs) rfl OWD ⟨wr.heap.size + 1 + 1,0,none⟩ 1 1 [.int .i64 3,.string ⟨#[113]⟩,.slice (some ⟨wr.heap.size,0,none⟩) 1 1,.slice (some ⟨wr.heap.size + 1,0,none⟩) 1 1] rfl rfl HNW.out (by simp [Value.oneCell']) (by omega) (by unfold maxLen;omega) (by omega) (by simp only [World.size_alloc];omega) (wr.heap.size + 1 + 1 + 1) (by simp) ?_;intro gD cD3 w7 hownD hgD hatD hltD))
         go_meet
         rw [<- hWT] at hgD
         have HX : Hid (dcC ((⟨3,⟨#[113]⟩,[⟨3,⟨#[]⟩,⟨#[]⟩,[]⟩],[⟨1,(a16 : Int),⟨#[]⟩,⟨#[]⟩,[],[]⟩]⟩ : DC),(⟨.slice (some ⟨wr.heap.size,0,none⟩) 1 1,[((⟨3,⟨#[]⟩,⟨#[]⟩,[]⟩ : TI),(⟨none,0,0⟩ : NPl))],.slice (some ⟨wr.heap.size + 1,0,none⟩) 1 1,[((⟨1,(a16 : Int),⟨#[]⟩,⟨#[]⟩,[],[]⟩ : EI),ep0)]⟩ : DPl)) = [.int .i64 3,.string ⟨#[113]⟩,.slice (some ⟨wr.heap.size,0,none⟩) 1 1,.slice (some ⟨wr.heap.size + 1,0,none⟩) 1 1]):=rfl
         refine ⟨_,_,_,rfl,by omega,_,HST.out.decl HDT.out hgD,HDT.out.push (x:=((⟨3,⟨#[113]⟩,[⟨3,⟨#[]⟩,⟨#[]⟩,[]⟩],[⟨1,(a16 : Int),⟨#[]⟩,⟨#[]⟩,[],[]⟩]⟩ : DC),(⟨.slice (some ⟨wr.heap.size,0,none⟩) 1 1,[((⟨3,⟨#[]⟩,⟨#[]⟩,[]⟩ : TI),(⟨none,0,0⟩ : NPl))],.slice (some ⟨wr.heap.size + 1,0,none⟩) 1 1,[((⟨1,(a16 : Int),⟨#[]⟩,⟨#[]⟩,[],[]⟩ : EI),ep0)]⟩ : DPl))) (by rw [HX.out];exact hownD) hgD ⟨HRT.out,rfl,⟨HRE.out.own,HRE.out.ok⟩,rfl⟩ ⟨fun y hy=>?_,HRE.out.sm,by show (1 : Nat) <= 14;omega,by show (3 : Nat) <= 104000;omega⟩ (by show 4000 + 1 + 3 <= 5000;omega)⟩
         rw [ms1 hy]
         exact sm_lit 3 (by decide) (by decide)
        ·go_wp2_with fail
         go_meet
         exact ⟨_,_,_,rfl,by omega,xs,HSW.out.1,HSW.out.2.1.mono (by omega)⟩
       case rest=>
        obtain ⟨va2,n2,c2,rfl,hn2,HG⟩:=hcut
        clear HSW
        go_wp2
        go_loopw [1,13,19] (fun pp o i wr=>∃ (i4 q n2 c2 : Nat) (va2 : Option Addr),i4 <= n /\ i = .int .i64 i4 /\ pp = .int .i64 (q : Int) /\ p + 1 <= q /\ q <= p + 5 + i4 * 9800 /\ o = .slice va2 n2 c2 /\ n2 <= 4 + i4 /\ Hid (∃ xs,DS w wr sb N P /\ DL w.heap.size wr va2 n2 c2 (5000 + 1000 * i4 + 104001 * (i4 - (1 + n3))) xs)) (fun _ _ i _=>n - (intOf i).toNat)
        case atStart=>
         obtain ⟨xs2,S2,D2⟩:=HG.out
         exact ⟨0,q + 1,n2,c2,va2,Nat.zero_le _,rfl,rfl,by omega,by omega,rfl,by omega,xs2,S2,D2.mono (by omega)⟩
        case round=>
         rename World=>wr
         clear HG
         have hq3':=hq3
         clear hq3
         obtain ⟨i,q,n2,c2,va2,hin,rfl,rfl,hq1,hq2,rfl,hn2i,HG⟩:=hrel
         by_cases hlt : i < n
         ·have li : (i : Int) < (n : Int):=by omega
          obtain ⟨xs,S,D⟩:=HG.out
          have HSD : Hid (DS w wr sb N P /\ DL w.heap.size wr va2 n2 c2 (5000 + 1000 * i + 104001 * (i - (1 + n3))) xs):=⟨S,D⟩
          have hqL : q + 1 + 500 * 2 <= 1000000 /\ q <= 1073741824:=by
           have hi98 : i * 9800 <= 10 * 9800:=Nat.mul_le_mul_right _ (by omega)
           omega
          have HAP : Hid (n2 + 1 <= maxLen /\ (n2 + 1) * 72 <= 140737488355328):=by
           refine ⟨?_,?_⟩
           ·unfold maxLen;omega
           ·omega
          have HKT : Hid (∀ c,c <= 950 -> i < 1 + n3 -> 5000 + 1000 * i + 104001 * (i - (1 + n3)) + 1 + c <= 5000 + 1000 * (i + 1) + 104001 * (i + 1 - (1 + n3))):=fun c hc hi=>by omega
          have HKV : Hid (∀ c,c <= 104000 -> ¬ i < 1 + n3 -> 5000 + 1000 * i + 104001 * (i - (1 + n3)) + 1 + c <= 5000 + 1000 * (i + 1) + 104001 * (i + 1 - (1 + n3))):=fun c hc hi=>by omega
          have HRL : Hid (i + 1 <= n /\ n2 + 1 <= 4 + (i + 1) /\ n - (i + 1) < n - i /\ p + 1 <= q /\ q <= p + 5 + i * 9800 /\ q <= 400000):=by
           have hi98 : i * 9800 <= 10 * 9800:=Nat.mul_le_mul_right _ (by omega)
           exact ⟨by omega,by omega,by omega,by omega,by omega,by omega⟩
          have hi10 : i <= 10:=by omega
          clear hq1 hq2 hn2i hq3' hn2 hin hlt hn13
          have C7:=d_take ca cb co Ln cc q 32 C wr (HBS.out wr S.bel).1 hLn hqL.2 (by decide)
          obtain ⟨b,hb⟩:=xe (tk C Ln q 32)
          have hb32 : b < 32:=by rw [hb];exact tk_lt (by omega)
          rw [<- hb] at C7
          obtain ⟨tp,vp,mp,hsc,t1,t2,t3,t4,t5,t6⟩:=HSC.out wr S
          have C8:=g_T wr (HBS.out wr S.bel).1 (cc:=cc) hLn hsc 2 (by decide) wr (q + 1) (Below.refl _ _) hqL.1
          rw [t1,t2,t3,t4,t5,t6] at C8
          have x0:=(own_c1 S (i:=0) (by omega)).1
          have x1:=(own_c1 S (i:=1) (by omega)).1
          have x2:=(own_c1 S (i:=2) (by omega)).1
          clear S D HG hb hsc t1 t2 t3 t4 t5 t6
          go_wp2_with fail
          refine C7.mono ?_
          rintro e w5 ⟨rfl,rfl⟩
          clear C7
          go_wp2_with fail
          refine C8.mono ?_
          rintro e w6 ⟨⟨ta,tn,tc,q2,rfl,hr1,hr2,HG6⟩,HB6⟩
          clear C8 x0 x1 x2
          have HQ2 : Hid (p + 1 <= q2 /\ q2 <= p + 5 + i * 9800 + 27 /\ q2 <= 500000):=by
           have hpp : PP 2 = 26:=rfl
           rw [hpp] at hr2
           obtain ⟨_,_,_,h4,h5,h6⟩:=HRL.out
           exact ⟨by omega,by omega,by omega⟩
          clear hr1 hr2 hqL
          obtain ⟨ys,G6⟩:=HG6.out
          have hyl : tn <= 13:=G6.le
          have hyn:=G6.len
          have hyp:=G6.pos
          have HYS6 : Hid (RT wr.heap.size w6 (.slice ta tn tc) ys /\ okT (ys.map Prod.fst) = true /\ (∀ y,y ∈ ys -> SmG y)):=⟨G6.rt,G6.ok,G6.sm⟩
          obtain ⟨e1,he1⟩ : ∃ e1,tn = e1 + 1:=⟨tn - 1,by omega⟩
          have OWT:=G6.rt.own
          rw [<- hyn] at OWT
          obtain ⟨tg,tgc,ev,htg,_⟩:=own_blk OWT (by omega)
          simp only [Value.slice.injEq] at ev
          obtain ⟨rfl,-,rfl⟩:=ev
          have hel : e1 < ys.length:=by omega
          have y0 : w6.cell? ⟨tg,e1 * 4,none⟩ = some (.int .i64 ys[e1].1.op):=own_at (f:=tiC) tiC_len G6.rt.own (j:=e1) (r:=0) rfl hel (by omega) rfl
          obtain ⟨o,ho⟩:=xe (ys[e1].1.op)
          rw [<- ho] at y0
          have HYN : Hid (tn = ys.length /\ tn = e1 + 1):=⟨hyn,he1⟩
          have wt1 : IntKind.i64.wrap ((tn : Int) - 1) = (e1 : Int):=wk (by omega)
          have lt1 : (e1 : Int) < (tn : Int):=by omega
          have lt0 : (0 : Int) <= (e1 : Int):=by omega
          clear G6 HG6 ho OWT hyn hyp he1 hel
          have HS6 : Hid (DS w w6 sb N P):=HSD.out.1.below HB6.out
          have HD6 : Hid (DL w.heap.size w6 va2 n2 c2 (5000 + 1000 * i + 104001 * (i - (1 + n3))) xs):=HSD.out.2.below HB6.out
          have hs6:=HS6.out.bel.size
          by_cases hty : (i : Int) < 1 + (n3 : Int)
          ·have HIN : Hid (i < 1 + n3):=(by omega : i < 1 + n3)
           have HQR : Hid (q2 <= p + 5 + (i + 1) * 9800):=by
            show _ <= _
            rw [Nat.succ_mul]
            have:=HQ2.out.2.1
            omega
           have CD : Hid (∀ W,Calls Tryz.prog 89 #[.int .i64 (i : Int),.bool false] W fun e w'=>e = .returned (.string (dclN i false)) /\ w' = W):=fun W=>d_dclN i false W
           have HSN0 : Hid ((dclN i false).size <= 12):=gn_12 (dclN_ok i false).1
           obtain ⟨sn,hsn⟩:=xe (dclN i false)
           rw [<- hsn] at CD HSN0
           clear hsn
           go_upto_region 31 with fail
           go_cut [163] (fun v wx=>∃ cb : Bool,v = .bool cb /\ w6 = wx)
           case first=>
            by_cases h31 : b = 31
            ·have b31 : ((b : Int) == 31) = true:=beq_iff_eq.2 (by omega)
             clear h31
             go_wp2
             go_meet
             exact ⟨_,rfl,rfl⟩
            ·have b31 : ((b : Int) == 31) = false:=bn2 (by omega)
             by_cases h4 : o = 4
             ·have o4 : (o == 4) = true:=beq_iff_eq.2 h4
              clear h4 h31
              by_cases b16 : (b : Int) < 16
              ·go_wp2
               go_meet
               exact ⟨_,rfl,rfl⟩
              ·go_wp2
               go_meet
               exact ⟨_,rfl,rfl⟩
             ·have o4 : (o == 4) = false:=bn2 h4
              clear h4 h31
              go_wp2
              go_meet
              exact ⟨_,rfl,rfl⟩
           case rest=>
            obtain ⟨cb,rfl,rfl⟩:=hcut
            clear y0
            go_upto_if 163 with fail
            go_cut [20] (fun v wx=>∃ (ta2 : Option Addr) (tn2 tc2 : Nat),v = .slice ta2 tn2 tc2 /\ Hid (Bw wr wx /\ ∃ ys,RT wr.heap.size wx (.slice ta2 tn2 tc2) ys /\ (∀ y,y ∈ ys -> SmG y) /\ ys.length <= 14 /\ tn2 = ys.length))
            case first=>
             cases cb
             ·go_wp2
              go_meet
              exact ⟨_,_,_,rfl,HB6.out,ys,HYS6.out.1,HYS6.out.2.2,by have:=HYN.out;omega,HYN.out.1⟩
             ·obtain ⟨iT,hT0,hT1,hT2,hT3⟩:=info_parts Tryz.infoTI
              obtain ⟨WN,hWN⟩:=xe (w6.alloc (.cells #[.string ⟨#[120]⟩] 9))
              have HBN : Hid (Bw w6 WN):=by rw [hWN];exact bel1 _ _
              have hsN : WN.heap.size = w6.heap.size + 1:=by rw [hWN];simp
              have HRN : Hid (RT wr.heap.size WN (.slice (some ⟨tg,0,none⟩) tn tc) ys):=HYS6.out.1.below HBN.out
              have HNN : Hid (NmOK wr.heap.size WN [⟨#[120]⟩] ⟨some ⟨w6.heap.size,0,none⟩,w6.heap.size,1⟩):=by
               rw [hWN]
               have h:=World.ownsRow_lit (e:=9) (size:=1) w6 #[.string ⟨#[120]⟩] 1 (nlr _) (by unfold maxLen;omega) (by rfl)
               obtain ⟨g,hg⟩:=nm_of_own (ns:=[⟨#[120]⟩]) (n:=1) rfl h
               have eg:=(hg (by simp)).1
               simp only [Option.some.injEq,Addr.mk.injEq] at eg
               rw [<- eg.1] at hg
               exact hg.mono HB6.out.size
              have HNW : Hid (∀ j u,([.int .i64 5,.string ⟨#[]⟩,.string ⟨#[]⟩,.slice (some ⟨w6.heap.size,0,none⟩) 1 1] : List Value)[j]? = some u -> (WN.alloc (.cells #[.int .i64 5,.string ⟨#[]⟩,.string ⟨#[]⟩,.slice (some ⟨w6.heap.size,0,none⟩) 1 1] 99)).cell? ((⟨w6.heap.size + 1,0,none⟩ : Addr).add j) = some u):=by
               have h:=World.news_of_block (cs:=#[.int .i64 5,.string ⟨#[]⟩,.string ⟨#[]⟩,.slice (some ⟨w6.heap.size,0,none⟩) 1 1]) (t:=99) (fr:=(0,0)) (heap_alloc_new WN (.cells #[.int .i64 5,.string ⟨#[]⟩,.string ⟨#[]⟩,.slice (some ⟨w6.heap.size,0,none⟩) 1 1] 99))
               rw [hsN] at h
               exact h
              have OWY : (WN.alloc (.cells #[.int .i64 5,.string ⟨#[]⟩,.string ⟨#[]⟩,.slice (some ⟨w6.heap.size,0,none⟩) 1 1] 99)).ownsRow wr.heap.size 99 4 (.slice (some ⟨tg,0,none⟩) tn tc) tn (tisC ys):=by
               have h:=HRN.out.own.alloc (.cells #[.int .i64 5,.string ⟨#[]⟩,.string ⟨#[]⟩,.slice (some ⟨w6.heap.size,0,none⟩) 1 1] 99)
               rw [<- HYN.out.1] at h
               exact h
              have hsW:=HB6.out.size
              rw [hWN] at OWY HNW
              go_wp2_with (first | (at_builtin;refine wpList_append_lies _ rfl _ _ 43 rfl wr.heap.size 99 iT _ 4 64 Tryz.underlying43 hT0 hT1 hT2 hT3 rfl (by omega) (.slice (some ⟨tg,0,none⟩) tn tc) tn (tisC ys) rfl OWY ⟨w6.heap.size + 1,0,none⟩ 1 1 [.int .i64 5,.string ⟨#[]⟩,.string ⟨#[]⟩,.slice (some ⟨w6.heap.size,0,none⟩) 1 1] rfl rfl HNW.out (by simp [Value.oneCell']) (by omega) (by unfold maxLen;omega) (by omega) (by simp only [World.size_alloc];omega) (w6.heap.size + 1 + 1) (by simp) ?_;intro gT cT3 wT hownT hgT hatT hltT))
              go_meet
              rw [<- hWN] at hgT
              have HXT : Hid (tiC ((⟨5,e0,e0,[⟨#[120]⟩]⟩ : TI),(⟨some ⟨w6.heap.size,0,none⟩,w6.heap.size,1⟩ : NPl)) = [.int .i64 5,.string ⟨#[]⟩,.string ⟨#[]⟩,.slice (some ⟨w6.heap.size,0,none⟩) 1 1]):=rfl
              have hyn:=HYN.out.1
              subst hyn
              have PT:=HRN.out.push (x:=((⟨5,e0,e0,[⟨#[120]⟩]⟩ : TI),(⟨some ⟨w6.heap.size,0,none⟩,w6.heap.size,1⟩ : NPl))) (by rw [HXT.out];exact hownT) hgT HNN.out
              refine ⟨_,_,_,rfl,?_,_,PT,fun y hy=>?_,by rw [lap];show _ + 1 <= 14;omega,by rw [lap];rfl⟩
              ·exact below_grown (HB6.out.trans (HBN.out.mono HB6.out.size)) hgT (fun j e=>(HYS6.out.1.own.lt j e).1)
              ·rcases List.mem_append.1 hy with h | h
               ·exact HYS6.out.2.2 y h
               ·rw [ms1 h]
                exact ⟨nlr _,by show (1 : Nat) <= 3;omega,by show (0 : Nat) <= 12;omega,by show (0 : Nat) <= 12;omega,fun s hs=>by rw [ms1 hs];decide⟩
            case rest=>
             obtain ⟨ta,tn2,tc2,rfl,HC2⟩:=hcut
             obtain ⟨ys2,hY1,hY2,hY3,hY4⟩:=HC2.out.2
             have HYS : Hid (RT wr.heap.size wc (.slice ta tn2 tc2) ys2 /\ (∀ y,y ∈ ys2 -> SmG y) /\ ys2.length <= 14):=⟨hY1,hY2,hY3⟩
             have HSC2 : Hid (DS w wc sb N P):=HSD.out.1.below HC2.out.1
             have HDC2 : Hid (DL w.heap.size wc va2 n2 c2 (5000 + 1000 * i + 104001 * (i - (1 + n3))) xs):=HSD.out.2.below HC2.out.1
             have OWD:=HDC2.out.own
             have hszc:=HSC2.out.bel.size
             clear HC2 hY1 hY2 hY3 hY4 HYS6 HB6 HS6 HD6 HYN
             by_cases h30 : b = 30
             ·have b30 : ((b : Int) == 30) = true:=beq_iff_eq.2 (by omega)
              have HSN : Hid ((⟨#[116]⟩ : ByteArray).size <= 12):=(by decide : (⟨#[116]⟩ : ByteArray).size <= 12)
              clear h30
              go_wp2_with fail
              refine (CD.out _).mono ?_
              rintro e w5 ⟨rfl,hw5⟩
              have hw6:=hw5.symm
              clear hw5
              subst hw6
              go_wp2_with (first | (at_builtin;refine wpList_append_lies _ rfl _ _ 22 rfl w.heap.size 46 i0 _ 4 72 Tryz.underlying22 hi0 hi1 hi2 hi3 rfl (by decide) (.slice va2 n2 c2) n2 (dcsC xs) rfl (OWD.alloc _) ⟨wc.heap.size,0,none⟩ 1 1 [.int .i64 2,.string ⟨#[116]⟩,.slice ta tn2 tc2,.slice none 0 0] rfl rfl (World.news_of_block (cs:=#[.int .i64 2,.string ⟨#[116]⟩,.slice ta tn2 tc2,.slice none 0 0]) (t:=46) (fr:=(0,0)) (heap_alloc_new wc _)) (by simp [Value.oneCell']) (by decide) HAP.out.1 HAP.out.2 (by rw [World.size_alloc];exact Nat.le_succ_of_le hszc) (wc.heap.size + 1) (by simp) ?_;intro gD cD3 w7 hownD hgD hatD hltD))
              have HX : Hid (dcC ((⟨2,⟨#[116]⟩,ys2.map Prod.fst,[]⟩ : DC),(⟨.slice ta tn2 tc2,ys2,.slice none 0 0,[]⟩ : DPl)) = [.int .i64 2,.string ⟨#[116]⟩,.slice ta tn2 tc2,.slice none 0 0]):=rfl
              obtain ⟨hd1,hd2,hd3⟩:=td_ok (s:=⟨#[116]⟩) HYS.out.1 HYS.out.2.1 HYS.out.2.2 HSN.out
              refine ⟨⟨i + 1,q2,n2 + 1,cD3,some ⟨gD,0,none⟩,HRL.out.1,by go_num,rfl,HQ2.out.1,HQR.out,rfl,HRL.out.2.1,_,HSC2.out.decl HDC2.out hgD,HDC2.out.push (x:=((⟨2,⟨#[116]⟩,ys2.map Prod.fst,[]⟩ : DC),(⟨.slice ta tn2 tc2,ys2,.slice none 0 0,[]⟩ : DPl))) (by rw [HX.out];exact hownD) hgD hd1 hd2 (HKT.out _ hd3 HIN.out)⟩,by have:=HRL.out.2.2.1;simp [intOf];exact this⟩
             ·have b30 : ((b : Int) == 30) = false:=bn2 (by omega)
              have HSN : Hid (sn.size <= 12):=HSN0
              clear h30
              go_wp2_with fail
              refine (CD.out _).mono ?_
              rintro e w5 ⟨rfl,hw5⟩
              have hw6:=hw5.symm
              clear hw5
              subst hw6
              go_wp2_with (first | (at_builtin;refine wpList_append_lies _ rfl _ _ 22 rfl w.heap.size 46 i0 _ 4 72 Tryz.underlying22 hi0 hi1 hi2 hi3 rfl (by decide) (.slice va2 n2 c2) n2 (dcsC xs) rfl (OWD.alloc _) ⟨wc.heap.size,0,none⟩ 1 1 [.int .i64 2,.string sn,.slice ta tn2 tc2,.slice none 0 0] rfl rfl (World.news_of_block (cs:=#[.int .i64 2,.string sn,.slice ta tn2 tc2,.slice none 0 0]) (t:=46) (fr:=(0,0)) (heap_alloc_new wc _)) (by simp [Value.oneCell']) (by decide) HAP.out.1 HAP.out.2 (by rw [World.size_alloc];exact Nat.le_succ_of_le hszc) (wc.heap.size + 1) (by simp) ?_;intro gD cD3 w7 hownD hgD hatD hltD))
              have HX : Hid (dcC ((⟨2,sn,ys2.map Prod.fst,[]⟩ : DC),(⟨.slice ta tn2 tc2,ys2,.slice none 0 0,[]⟩ : DPl)) = [.int .i64 2,.string sn,.slice ta tn2 tc2,.slice none 0 0]):=rfl
              obtain ⟨hd1,hd2,hd3⟩:=td_ok (s:=sn) HYS.out.1 HYS.out.2.1 HYS.out.2.2 HSN.out
              refine ⟨⟨i + 1,q2,n2 + 1,cD3,some ⟨gD,0,none⟩,HRL.out.1,by go_num,rfl,HQ2.out.1,HQR.out,rfl,HRL.out.2.1,_,HSC2.out.decl HDC2.out hgD,HDC2.out.push (x:=((⟨2,sn,ys2.map Prod.fst,[]⟩ : DC),(⟨.slice ta tn2 tc2,ys2,.slice none 0 0,[]⟩ : DPl))) (by rw [HX.out];exact hownD) hgD hd1 hd2 (HKT.out _ hd3 HIN.out)⟩,by have:=HRL.out.2.2.1;simp [intOf];exact this⟩
          ·have HIN : Hid (¬ i < 1 + n3):=(by omega : ¬ i < 1 + n3)
           obtain ⟨iv,hiv⟩:=xe (i - (1 + n3))
           have wiv : IntKind.i64.wrap ((i : Int) - (1 + (n3 : Int))) = (iv : Int):=wk (by omega)
           have CD : Hid (∀ W,Calls Tryz.prog 89 #[.int .i64 (iv : Int),.bool true] W fun e w'=>e = .returned (.string (dclN iv true)) /\ w' = W):=fun W=>d_dclN iv true W
           have HSN0 : Hid ((dclN iv true).size <= 12):=gn_12 (dclN_ok iv true).1
           obtain ⟨sn,hsn⟩:=xe (dclN iv true)
           rw [<- hsn] at CD HSN0
           have HC9 : Hid (Calls Tryz.prog 91 #[.slice ca Ln cc,.int .i64 (q2 : Int),.agg #[.slice (P 0).a (N 0).length (P 0).c,.slice (P 1).a (N 1).length (P 1).c,.slice (P 2).a (N 2).length (P 2).c],.slice (some ⟨tg,0,none⟩) tn tc,.int .i64 (tn : Int),.int .i64 2] w6 (GnF w6 (PF 5) (XF 5) q2)):=by
            obtain ⟨tp,vp,mp,hsc,t1,t2,t3,t4,t5,t6⟩:=HSC.out w6 HS6.out
            have R:=HYS6.out.1
            rw [HYN.out.1] at R
            have hyl : ys.length <= 13:=by have:=HYN.out.1;omega
            have h:=g_F (ca:=ca) (cb:=cb) (co:=co) (cc:=cc) (C:=C) hLn (T:=N 0) (V:=N 1) (M:=N 2) (tp:=tp) (vp:=vp) (mp:=mp) hV0.1 hV0.2 5 (nlr _) w6 ys _ (some ⟨tg,0,none⟩) tc e1 q2 (HBS.out w6 HS6.out.bel).1 hsc (TsA.of_rt R HYS6.out.2.2 (by omega)) (TH.of_ok HYS6.out.2.1 HYS6.out.2.2 hyl) (by have:=HYN.out;omega) (by have:=HQ2.out.2.2;omega)
            rw [t1,t2,t3,t4,t5,t6,<- HYN.out.1,show ((e1 : Int) + 1) = (tn : Int) by have:=HYN.out.2;omega,show ((5 : Nat) : Int) - 3 = 2 by rfl] at h
            exact h
           have x0:=(own_c1 HS6.out (i:=0) (by omega)).1
           have x1:=(own_c1 HS6.out (i:=1) (by omega)).1
           have x2:=(own_c1 HS6.out (i:=2) (by omega)).1
           clear hsn hiv y0 wt1 lt1 lt0
           by_cases h30 : b = 30
           ·have b30 : ((b : Int) == 30) = true:=beq_iff_eq.2 (by omega)
            have HSN : Hid ((⟨#[102]⟩ : ByteArray).size <= 12):=(by decide : (⟨#[102]⟩ : ByteArray).size <= 12)
            clear h30
            go_wp2_with fail
            refine (CD.out _).mono ?_
            rintro e w5 ⟨rfl,hw5⟩
            have hw7:=hw5.symm
            clear hw5
            subst hw7
            go_wp2_with fail
            refine HC9.out.mono ?_
            rintro e w8 ⟨⟨ea,en,ec,q3,rfl,hr1,hr2,HG8⟩,HB8⟩
            obtain ⟨es,G8⟩:=HG8.out
            have HS8 : Hid (DS w w8 sb N P):=HS6.out.below HB8.out
            have HD8 : Hid (DL w.heap.size w8 va2 n2 c2 (5000 + 1000 * i + 104001 * (i - (1 + n3))) xs):=HD6.out.below HB8.out
            have OWD:=HD8.out.own
            have hszc:=HS8.out.bel.size
            have HYL : Hid (ys.length <= 13):=(by have:=HYN.out.1;omega : ys.length <= 13)
            have hdd:=vd_ok (s:=⟨#[102]⟩) (HYS6.out.1.below HB8.out) HYS6.out.2.2 HYL.out HSN.out G8 (by decide)
            have HQ3 : Hid (p + 1 <= q3 /\ q3 <= p + 5 + (i + 1) * 9800):=by
             have hpf : PF 5 = 9690:=rfl
             rw [hpf] at hr2
             obtain ⟨h1,h2,h3⟩:=HQ2.out
             rw [Nat.succ_mul]
             exact ⟨by omega,by omega⟩
            clear HG8 G8 hr1 hr2 x0 x1 x2 HC9 CD
            go_wp2_with (first | (at_builtin;refine wpList_append_lies _ rfl _ _ 22 rfl w.heap.size 46 i0 _ 4 72 Tryz.underlying22 hi0 hi1 hi2 hi3 rfl (by decide) (.slice va2 n2 c2) n2 (dcsC xs) rfl (OWD.alloc _) ⟨w8.heap.size,0,none⟩ 1 1 [.int .i64 3,.string ⟨#[102]⟩,.slice (some ⟨tg,0,none⟩) tn tc,.slice ea en ec] rfl rfl (World.news_of_block (cs:=#[.int .i64 3,.string ⟨#[102]⟩,.slice (some ⟨tg,0,none⟩) tn tc,.slice ea en ec]) (t:=46) (fr:=(0,0)) (heap_alloc_new w8 _)) (by simp [Value.oneCell']) (by decide) HAP.out.1 HAP.out.2 (by rw [World.size_alloc];exact Nat.le_succ_of_le hszc) (w8.heap.size + 1) (by simp) ?_;intro gD cD3 w9 hownD hgD hatD hltD))
            obtain ⟨hd1,hd2,hd3⟩:=hdd
            have HX : Hid (dcC ((⟨3,⟨#[102]⟩,ys.map Prod.fst,es.map Prod.fst⟩ : DC),(⟨.slice (some ⟨tg,0,none⟩) tn tc,ys,.slice ea en ec,es⟩ : DPl)) = [.int .i64 3,.string ⟨#[102]⟩,.slice (some ⟨tg,0,none⟩) tn tc,.slice ea en ec]):=rfl
            refine ⟨⟨i + 1,q3,n2 + 1,cD3,some ⟨gD,0,none⟩,HRL.out.1,by go_num,rfl,HQ3.out.1,HQ3.out.2,rfl,HRL.out.2.1,_,HS8.out.decl HD8.out hgD,HD8.out.push (x:=((⟨3,⟨#[102]⟩,ys.map Prod.fst,es.map Prod.fst⟩ : DC),(⟨.slice (some ⟨tg,0,none⟩) tn tc,ys,.slice ea en ec,es⟩ : DPl))) (by rw [HX.out];exact hownD) hgD hd1 hd2 (HKV.out _ hd3 HIN.out)⟩,by have:=HRL.out.2.2.1;simp [intOf];exact this⟩
           ·have b30 : ((b : Int) == 30) = false:=bn2 (by omega)
            have HSN : Hid (sn.size <= 12):=HSN0
            clear h30
            go_wp2_with fail
            refine (CD.out _).mono ?_
            rintro e w5 ⟨rfl,hw5⟩
            have hw7:=hw5.symm
            clear hw5
            subst hw7
            go_wp2_with fail
            refine HC9.out.mono ?_
            rintro e w8 ⟨⟨ea,en,ec,q3,rfl,hr1,hr2,HG8⟩,HB8⟩
            obtain ⟨es,G8⟩:=HG8.out
            have HS8 : Hid (DS w w8 sb N P):=HS6.out.below HB8.out
            have HD8 : Hid (DL w.heap.size w8 va2 n2 c2 (5000 + 1000 * i + 104001 * (i - (1 + n3))) xs):=HD6.out.below HB8.out
            have OWD:=HD8.out.own
            have hszc:=HS8.out.bel.size
            have HYL : Hid (ys.length <= 13):=(by have:=HYN.out.1;omega : ys.length <= 13)
            have hdd:=vd_ok (s:=sn) (HYS6.out.1.below HB8.out) HYS6.out.2.2 HYL.out HSN.out G8 (by decide)
            have HQ3 : Hid (p + 1 <= q3 /\ q3 <= p + 5 + (i + 1) * 9800):=by
             have hpf : PF 5 = 9690:=rfl
             rw [hpf] at hr2
             obtain ⟨h1,h2,h3⟩:=HQ2.out
             rw [Nat.succ_mul]
             exact ⟨by omega,by omega⟩
            clear HG8 G8 hr1 hr2 x0 x1 x2 HC9 CD
            go_wp2_with (first | (at_builtin;refine wpList_append_lies _ rfl _ _ 22 rfl w.heap.size 46 i0 _ 4 72 Tryz.underlying22 hi0 hi1 hi2 hi3 rfl (by decide) (.slice va2 n2 c2) n2 (dcsC xs) rfl (OWD.alloc _) ⟨w8.heap.size,0,none⟩ 1 1 [.int .i64 3,.string sn,.slice (some ⟨tg,0,none⟩) tn tc,.slice ea en ec] rfl rfl (World.news_of_block (cs:=#[.int .i64 3,.string sn,.slice (some ⟨tg,0,none⟩) tn tc,.slice ea en ec]) (t:=46) (fr:=(0,0)) (heap_alloc_new w8 _)) (by simp [Value.oneCell']) (by decide) HAP.out.1 HAP.out.2 (by rw [World.size_alloc];exact Nat.le_succ_of_le hszc) (w8.heap.size + 1) (by simp) ?_;intro gD cD3 w9 hownD hgD hatD hltD))
            obtain ⟨hd1,hd2,hd3⟩:=hdd
            have HX : Hid (dcC ((⟨3,sn,ys.map Prod.fst,es.map Prod.fst⟩ : DC),(⟨.slice (some ⟨tg,0,none⟩) tn tc,ys,.slice ea en ec,es⟩ : DPl)) = [.int .i64 3,.string sn,.slice (some ⟨tg,0,none⟩) tn tc,.slice ea en ec]):=rfl
            refine ⟨⟨i + 1,q3,n2 + 1,cD3,some ⟨gD,0,none⟩,HRL.out.1,by go_num,rfl,HQ3.out.1,HQ3.out.2,rfl,HRL.out.2.1,_,HS8.out.decl HD8.out hgD,HD8.out.push (x:=((⟨3,sn,ys.map Prod.fst,es.map Prod.fst⟩ : DC),(⟨.slice (some ⟨tg,0,none⟩) tn tc,ys,.slice ea en ec,es⟩ : DPl))) (by rw [HX.out];exact hownD) hgD hd1 hd2 (HKV.out _ hd3 HIN.out)⟩,by have:=HRL.out.2.2.1;simp [intOf];exact this⟩
         ·have li : ¬ (i : Int) < (n : Int):=by omega
          have hni : i = n:=by omega
          subst hni
          obtain ⟨xs,S,D⟩:=HG.out
          obtain ⟨K,hK⟩ : ∃ K,K = 5000 + 1000 * i + 104001 * (i - (1 + n3)):=⟨_,rfl⟩
          rw [<- hK] at D
          have HK : Hid (K <= 1048576):=by
           have:=HN6.out
           show K <= 1048576
           omega
          have hqF : p <= q /\ q <= p + 200000:=by
           have hi98 : i * 9800 <= 10 * 9800:=Nat.mul_le_mul_right _ (by omega)
           omega
          obtain ⟨WM,hWM⟩:=xe (wr.alloc (.cells #[.slice va2 n2 c2] 24))
          have HBM : Hid (Bw wr WM):=by rw [hWM];exact bel1 _ _
          have HM0 : Hid (DM w WM wr.heap.size va2 n2 c2 K xs):=by
           have hb:=HBM.out
           refine ⟨by have:=S.res.lt;omega,S.bel.trans (hb.mono S.bel.size),S.res.of_block (hb.block _ S.res.lt),?_,D.below hb⟩
           rw [hWM]
           exact row1 _ _ _
          clear S D HG hK hq1 hq2 hn2i hq3' hn2 hin hlt
          go_wp2_with fail
          rw [<- hWM]
          clear hWM
          obtain ⟨mb,hmb⟩:=xe (wr.heap.size)
          rw [<- hmb] at HM0
          rw [<- hmb]
          clear hmb HBM
          go_loopw [] (fun wr=>∃ j : Nat,Hid (∃ xs,DM w wr mb va2 j c2 K xs)) (fun wr=>mlen wr mb)
          case atStart=>exact ⟨n2,xs,HM0.out⟩
          case round=>
           rename World=>wr
           clear HM0
           obtain ⟨j,HM⟩:=hrel
           obtain ⟨xs,M⟩:=HM.out
           have hcp:=own_cap M.dl.own
           have HMX : Hid (DM w wr mb va2 j c2 K xs):=M
           have C5:=v_valid wr (M.dl.dsa HK.out) rfl
           have z0:=M.mod.cell (i:=0) (by omega)
           have hjl : j <= 9223372036854775807:=by
            rcases M.dl.own.2 with ⟨e,z⟩ | ⟨g,cap,cur,e,_,_,h5,h6,_⟩
            ·omega
            ·simp only [Value.slice.injEq] at e;unfold maxLen at h6;omega
           obtain ⟨bo,hbo⟩:=xe (okM (xs.map Prod.fst))
           rw [<- hbo] at C5
           have HBO : Hid (bo = okM (xs.map Prod.fst)):=hbo
           clear HM M hbo
           go_wp2_with fail
           refine C5.mono ?_
           rintro e w5 ⟨rfl,hb5⟩
           have HM5 : Hid (DM w w5 mb va2 j c2 K xs):=HMX.out.below hb5
           clear C5 hb5 z0
           have z0:=HM5.out.mod.cell (i:=0) (by omega)
           have f0:=HM5.out.mod.frozen 0
           cases bo
           ·have hj0 : j ≠ 0:=by
             rintro rfl
             have h1:=HMX.out.dl.len
             have h2:=List.eq_nil_of_length_eq_zero h1.symm
             have h3:=HBO.out
             rw [h2] at h3
             exact absurd h3 (by rw [List.map_nil,okM_nil];decide)
            obtain ⟨j2,hj2⟩ : ∃ j2,j = j2 + 1:=⟨j - 1,by omega⟩
            subst hj2
            have lj0 : (0 : Int) < ((j2 + 1 : Nat) : Int):=by omega
            have wj : IntKind.i64.wrap (((j2 + 1 : Nat) : Int) - 1) = (j2 : Int):=wk (by omega)
            have lj0' : (0 : Int) < (j2 : Int) + 1:=by omega
            have wj' : IntKind.i64.wrap ((j2 : Int) + 1 - 1) = (j2 : Int):=wk (by omega)
            have sbt:=slice_botD va2 (j2 + 1) c2 j2 (by omega)
            go_wp2
            refine ⟨⟨j2,_,HM5.out.step⟩,?_⟩
            rw [HM5.out.step.mlen,HMX.out.mlen]
            exact Nat.lt_succ_self _
           ·clear hcp
            have r0:=HM5.out.res.cell (i:=0) (by omega)
            have fr0:=HM5.out.res.frozen 0
            go_wp2
            refine bodyPost_ret (mod_ret HM5.out.res _ _ _ rfl rfl) rfl ?_
            refine ⟨⟨va2,j,c2,q,rfl,hqF.1,hqF.2,xs,?_,HM5.out.dl.len,HBO.out.symm⟩,HM5.out.bel.setCell (p:=⟨w.heap.size,0,none⟩) (nlr _) _⟩
            exact (HM5.out.dl.kp (kp_setD HM5.out.res _) (by decide) (by decide) (by decide) (by decide)).dsa HK.out
end Go.Proofs.YtcehppndpccldaaGreatDoor
