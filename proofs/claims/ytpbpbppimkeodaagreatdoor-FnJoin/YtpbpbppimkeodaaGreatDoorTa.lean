/-
  JpA
-/
import Derived.Test.YtpbpbppimkeodaaGreatDoorSz
import Derived.Deep.DeepCutAuto
set_option maxRecDepth 100000
namespace Go.Proofs.YtpbpbppimkeodaaGreatDoor
open Go.RowKit Go.Maps
def qsPart (H : Nat -> ND) (q0 : Qn) (k j : Nat) : List Qn:=addAll (qsTill H q0 k) ((mixQ (H (qAt H q0 k).a) (H (qAt H q0 k).b) (qAt H q0 k).up).take j)
theorem qsPart_zero (H : Nat -> ND) (q0 : Qn) (k : Nat) : qsPart H q0 k 0 = qsTill H q0 k:=by unfold qsPart;rw [List.take_zero];rfl
theorem qsPart_end (H : Nat -> ND) (q0 : Qn) (k : Nat) : qsPart H q0 k (mixQ (H (qAt H q0 k).a) (H (qAt H q0 k).b) (qAt H q0 k).up).length = qsTill H q0 (k + 1):=by unfold qsPart;rw [List.take_length];rfl
theorem qsPart_succ {H : Nat -> ND} {q0 : Qn} {k j : Nat} (h : j < (mixQ (H (qAt H q0 k).a) (H (qAt H q0 k).b) (qAt H q0 k).up).length) (d : Kq) : qsPart H q0 k (j + 1) = addQ (qsPart H q0 k j) ((mixQ (H (qAt H q0 k).a) (H (qAt H q0 k).b) (qAt H q0 k).up).getD j d):=by
 unfold qsPart
 rw [List.take_add_one,List.getElem?_eq_getElem h]
 rw [List.getD_eq_getElem?_getD,List.getElem?_eq_getElem h]
 exact addAll_snoc _ _ _
theorem plQ_in {L : List Qn} {q : Qn} (h : q ∈ L) : plQ L q = (L.idxOf q : Int):=by unfold plQ;rw [if_pos h]
theorem plQ_out {L : List Qn} {q : Qn} (h : ¬ q ∈ L) : plQ L q = -1:=by unfold plQ;rw [if_neg h]
theorem kcells_snoc (L : List Qn) (q : Qn) : kcells ((L ++ [q]).map Kq.qn) = kcells (L.map Kq.qn) ++ [.int .i64 (q.a : Int),.int .i64 (q.b : Int),.bool q.up]:=by
 unfold kcells
 rw [List.map_append,List.flatMap_append]
 rfl
theorem grown_more {w2 wx wy wz : World} {x : Option Nat} {v v' : Value} {o : Obj} {gg H : Nat} (h : w2.grownBy wx x) (hb : Below wx.heap.size wx wy) (hv : v.ownBlock = x \/ ∀ k,v.ownBlock = some k -> w2.heap.size <= k) (hg : (wy.alloc o).grownBy wz v.ownBlock) (hv' : v'.ownBlock = some gg) (hat : v.ownBlock = some gg \/ gg = H) (hH : wy.heap.size <= H) :
  w2.grownBy wz x /\ (v'.ownBlock = x \/ ∀ k,v'.ownBlock = some k -> w2.heap.size <= k):=by
 have s1:=h.size
 have s2:=hb.size
 have s3:=hg.size
 simp only [World.size_alloc] at s3
 refine ⟨⟨hg.os.trans (hb.os.trans h.os),hg.tape.trans (hb.tape.trans h.tape),hg.output.trans (hb.output.trans h.output),by omega,fun j hj hn=>?_⟩,?_⟩
 ·refine (hg.block j (by simp;omega) (fun e=>?_)).trans ((Below.heap_alloc _ _ _ (by omega)).trans ((hb.block j (by omega)).trans (h.block j hj hn)))
  rcases hv with q | q
  ·exact hn (by rw [<- q];exact e)
  ·have:=q j e.symm;omega
 ·rcases hat with q | q
  ·rcases hv with z | z
   ·exact Or.inl (by rw [hv',<- q,z])
   ·exact Or.inr (fun k e=>by rw [hv'] at e;have e2 : gg = k:=by simpa using e
                              subst e2;exact z gg q)
  ·exact Or.inr (fun k e=>by rw [hv'] at e;have e2 : gg = k:=by simpa using e
                             omega)
theorem grown_below {w0 w2 wx : World} {x : Option Nat} {B : Nat} (h : w2.grownBy wx x) (hb : Below B w0 w2) (hx : ∀ k,x = some k -> B <= k) (hs : B <= w2.heap.size) : Below B w0 wx:=by
 have s1:=h.size
 exact ⟨h.os.trans hb.os,h.tape.trans hb.tape,h.output.trans hb.output,by have:=hb.size;omega,fun j hj=>(h.block j (by omega) (fun e=>by have:=hx j e.symm;omega)).trans (hb.block j hj)⟩
theorem BlAt.grown {w2 wx : World} {x : Option Nat} {ka : Option Addr} {kg n : Nat} {K : Nat -> Kq} (h : BlAt w2 ka kg n K) (hg : w2.grownBy wx x) (hx : 0 < n -> some kg ≠ x) : BlAt wx ka kg n K:=
 ⟨h.at_,fun i hi j hj=>by
  have h1:=h.c i hi j hj
  have h2 : ∃ v,(kcell (K i))[j]? = some v:=by
   have : (kcell (K i)).length = 3:=by cases K i <;> rfl
   exact ⟨_,List.getElem?_eq_getElem (by omega)⟩
  obtain ⟨v,hv⟩:=h2
  rw [hv] at h1 ⊢
  exact (World.cell?_of_block (hg.block kg (blt h1) (hx (by omega)))).trans h1,h.len⟩
theorem mcanon_below {W w9 w' : World} {N R : Nat} {G : Nat -> ND} {ns : Nat -> Nat} {e : Ending} (h : MCanonPost W N R G ns e w9) (hb : Below w9.heap.size w9 w') : MCanonPost W N R G ns e w':=by
 obtain ⟨cm,r,h1,h2,oa,b',cap,q,la,lb,lc,h3,h4,h5,h6⟩:=h
 exact ⟨cm,r,h1,h2,oa,b',cap,q,la,lb,lc,h3,h4.below hb,h5.below hb,h6.trans (hb.mono h6.size)⟩
theorem lq_start (X : Nat) (wr : World) (hX : X < wr.heap.size) (q : Nat -> NP) (f : Nat -> ND) : Lq X wr (wr.alloc (.cells #[] 48)) (.slice (some ⟨wr.heap.size,0,none⟩) 0 0) q (upN f 0):=by
 refine ⟨World.ownsRow_lit wr #[] 0 (Nat.le_refl _) (by unfold maxLen;omega) (by rfl),bel1 _ _,⟨by simp;omega,fun e=>?_⟩,fun i hi=>absurd hi (Nat.not_lt_zero _)⟩
 have e2 : X = wr.heap.size:=by simpa [Value.ownBlock] using e
 omega
theorem getD_lt {L : List Qn} {q0 : Qn} {i : Nat} (h : i < L.length) : L.getD i q0 ∈ L:=by
 rw [List.getD_eq_getElem?_getD,List.getElem?_eq_getElem h]
 exact List.getElem_mem _
theorem take_snocK {ks : List Kq} {j : Nat} (h : j < ks.length) (f : Kq -> Int) : (ks.take (j + 1)).map f = (ks.take j).map f ++ [f (ks.getD j (.ty 0))]:=by
 rw [List.take_add_one,List.getElem?_eq_getElem h,List.getD_eq_getElem?_getD,List.getElem?_eq_getElem h,List.map_append]
 rfl
theorem any_nodes (w5 : World) (X : Nat) (hX : X < w5.heap.size) (u : Value) : NodesAt ((w5.alloc (.cells #[.int .i64 0,.slice none 0 0,.slice none 0 0] 48)).setCell ⟨X,0,none⟩ u) (some ⟨w5.heap.size,0,none⟩) w5.heap.size 0 1 (fun _=>np0) (fun _=>mkN 0):=by
 have R:=(row3 w5 (.int .i64 0) (.slice none 0 0) (.slice none 0 0) 48).setOther (a:=⟨X,0,none⟩) (by show w5.heap.size ≠ X;omega) u
 refine ⟨fun _=>rfl,fun i hi=>?_,fun i hi=>?_,fun i hi=>?_,fun i hi=>node_mk _ 0,by omega⟩
 ·have e : i = 0:=by omega
  subst e;exact R.cell (i:=0) (by omega)
 ·have e : i = 0:=by omega
  subst e;exact R.cell (i:=1) (by omega)
 ·have e : i = 0:=by omega
  subst e;exact R.cell (i:=2) (by omega)
set_option maxHeartbeats 16000000 in
theorem m_mix {N b0 o : Nat} {p : Nat -> NP} {G : Nat -> ND} (ao : Option Addr) (gc a b : Nat) (up : Bool) (w : World) (hv : vgr N G = true) (h2 : ∀ i,i < N -> (G i).nn + (G i).nk <= 1048576) (ha : a < N) (hb : b < N) (hG : NodesAt w ao b0 o N p G) :
  Calls Tryz.prog 38 #[.agg #[.slice ao N gc],.int .i64 (a : Int),.int .i64 (b : Int),.bool up] w (MMixPost w N G a b up):=by
 have hns : ∀ i,i < 2 -> ns2 a b i < N:=fun i _=>by unfold ns2;split <;> assumption
 obtain ⟨W3,hW3⟩ : ∃ W3,W3 = ((w.alloc (.cells #[.slice ao N gc] 29)).alloc (.cells #[.slice none 0 0] 29)).alloc (.cells #[.int .i64 (a : Int),.int .i64 (b : Int)] 3):=⟨_,rfl⟩
 have B3 : Below w.heap.size w W3:=by rw [hW3];exact bel3 _ _ _ _
 have z3 : Hid (W3.heap.size = w.heap.size + 3):=by show _ = _;rw [hW3];simp
 have RS : W3.rowIs (w.heap.size + 1) 29 1 (fun _=>.slice none 0 0):=by
  have:=(row1 (w.alloc (.cells #[.slice ao N gc] 29)) (.slice none 0 0) 29).alloc (.cells #[.int .i64 (a : Int),.int .i64 (b : Int)] 3)
  rw [World.size_alloc] at this
  rw [hW3];exact this
 have I3 : IntsAt W3 (some ⟨w.heap.size + 1 + 1,0,none⟩) (w.heap.size + 1 + 1) 0 2 (fun i=>(ns2 a b i : Int)):=by
  have:=(two_ints ((w.alloc (.cells #[.slice ao N gc] 29)).alloc (.cells #[.slice none 0 0] 29)) (a : Int) (b : Int)).congr (D':=fun i=>(ns2 a b i : Int)) (fun i hi=>by
   match i,hi with
   | 0,_=>rfl
   | 1,_=>rfl)
  simp only [World.size_alloc] at this
  rw [hW3];exact this
 have HC1 : Hid (Calls Tryz.prog 30 #[.agg #[.slice ao N gc],.slice (some ⟨w.heap.size + 1 + 1,0,none⟩) 2 2] W3 (MCanonPost W3 N 2 G (ns2 a b))):=by
  have hN:=vgr_len hv
  exact m_canon ao _ gc 2 2 _ 0 (ns2 a b) W3 (kids_of hv) (by omega) (by omega) (fun i hi=>by have:=h2 i hi;omega) (fun i hi=>by have:=h2 i hi;omega) hns (hG.below B3) I3
 have HRS : Hid (W3.rowIs (w.heap.size + 1) 29 1 (fun _=>.slice none 0 0)):=RS
 have HHV : Hid (vgr N G = true /\ (∀ i,i < N -> (G i).nn + (G i).nk <= 1048576) /\ ∀ i,i < 2 -> ns2 a b i < N):=⟨hv,h2,hns⟩
 clear hG I3 RS hv h2 ha hb hns
 go_enter Tryz.func38,Tryz.ntmps38
 go_wp2_with fail
 rw [<- hW3]
 clear hW3
 refine HC1.out.mono ?_
 rintro e w1 ⟨cm,r,hcm,hr,oa,b',cap,p',la,lb,lc,rfl,N1,i1,B1⟩
 obtain ⟨gH,sH⟩:=goodH_mN HHV.out.1 HHV.out.2.2 HHV.out.2.1 hcm hr
 have hst : ∀ i,i < 2 -> numOf cm (allTill G cm (N + 1) (ns2 a b) [] 2) (ns2 a b i) < (allTill G cm (N + 1) (ns2 a b) [] 2).length:=fun i hi=>
  numOf_lt ((allTill_full (G:=G) (cl:=cm) (kids_of HHV.out.1) (f:=N + 1) (ns:=ns2 a b) (m:=2) HHV.out.2.2 (by omega) 2 (Nat.le_refl _)).2.1 i hi)
 have hq0:=hst 0 (by omega)
 have hq1:=hst 1 (by omega)
 rw [show ns2 a b 0 = a from rfl] at hq0
 rw [show ns2 a b 1 = b from rfl] at hq1
 have ela:=i1.at_ (by omega)
 subst ela
 have l0 : w1.cell? ⟨lb,0,none⟩ = some (.int .i64 (numOf cm (allTill G cm (N + 1) (ns2 a b) [] 2) a : Int)):=i1.cell 0 (by omega)
 have l1 : w1.cell? ⟨lb,1,none⟩ = some (.int .i64 (numOf cm (allTill G cm (N + 1) (ns2 a b) [] 2) b : Int)):=i1.cell 1 (by omega)
 have HPOST : Hid (∀ e w',Below w.heap.size w w' -> ((∃ k,OverQ (mN G cm (allTill G cm (N + 1) (ns2 a b) [] 2) r) ⟨numOf cm (allTill G cm (N + 1) (ns2 a b) [] 2) a,numOf cm (allTill G cm (N + 1) (ns2 a b) [] 2) b,up⟩ k /\
    ∃ nb,e = .returned (.tuple #[.agg #[.slice (some ⟨nb,0,none⟩) 1 1],.int .i64 0]) /\ NodesAt w' (some ⟨nb,0,none⟩) nb 0 1 (fun _=>np0) (fun _=>mkN 0)) \/
   (∃ k,FullQ (mN G cm (allTill G cm (N + 1) (ns2 a b) [] 2) r) ⟨numOf cm (allTill G cm (N + 1) (ns2 a b) [] 2) a,numOf cm (allTill G cm (N + 1) (ns2 a b) [] 2) b,up⟩ k /\ ∃ (W : World) (v1 v2 : Nat) (oa : Option Addr) (cap : Nat) (la : Option Addr) (lc : Nat),
      MCanonPost W ((allTill G cm (N + 1) (ns2 a b) [] 2).length + k) 1 (mixG (allTill G cm (N + 1) (ns2 a b) [] 2).length (mN G cm (allTill G cm (N + 1) (ns2 a b) [] 2) r) (qsTill (mN G cm (allTill G cm (N + 1) (ns2 a b) [] 2) r) ⟨numOf cm (allTill G cm (N + 1) (ns2 a b) [] 2) a,numOf cm (allTill G cm (N + 1) (ns2 a b) [] 2) b,up⟩ k) ⟨numOf cm (allTill G cm (N + 1) (ns2 a b) [] 2) a,numOf cm (allTill G cm (N + 1) (ns2 a b) [] 2) b,up⟩) (fun _=>(allTill G cm (N + 1) (ns2 a b) [] 2).length) (.returned (.tuple #[.agg #[.slice oa v1 cap],.slice la 1 lc])) w' /\ (∃ lb,la = some ⟨lb,0,none⟩ /\ w'.cell? ⟨lb,0,none⟩ = some (.int .i64 (v2 : Int))) /\ e = .returned (.tuple #[.agg #[.slice oa v1 cap],.int .i64 (v2 : Int)]))) -> MMixPost w N G a b up e w'):=fun e w' hB h=>by
  refine ⟨cm,r,hcm,hr,hB,?_⟩
  rcases h with h | ⟨k,hk,W,v1,v2,oa,cap,la,lc,⟨c2,r2,h1,h2,oa',b',cap',q',la',lb',lc',e1,n9,i9,_⟩,⟨lb2,hl2,hc2⟩,he⟩
  ·exact Or.inl h
  ·refine Or.inr ⟨k,hk,_,_,rfl,rfl,c2,r2,h1,h2,oa,b',cap,q',?_,?_⟩
   ·simp only [Ending.returned.injEq,Value.tuple.injEq,Array.mk.injEq,List.cons.injEq,Value.agg.injEq,Value.slice.injEq,and_true] at e1
    obtain ⟨⟨e2,e3,e4⟩,e5,e6⟩:=e1
    have ez:=i9.at_ (by omega)
    have cz:=i9.cell 0 (by omega)
    rw [hl2] at e5
    rw [ez] at e5
    simp only [Option.some.injEq,Addr.mk.injEq,and_true] at e5
    rw [e5] at hc2
    rw [Nat.zero_add] at cz
    rw [hc2] at cz
    simp only [Option.some.injEq,Value.int.injEq,true_and] at cz
    rw [he,e3,cz]
   ·simp only [Ending.returned.injEq,Value.tuple.injEq,Array.mk.injEq,List.cons.injEq,Value.agg.injEq,Value.slice.injEq,and_true] at e1
    obtain ⟨⟨e2,e3,e4⟩,e5,e6⟩:=e1
    rw [e2]
    exact n9
 obtain ⟨n,hn⟩ : ∃ n,n = (allTill G cm (N + 1) (ns2 a b) [] 2).length:=⟨_,rfl⟩
 obtain ⟨H,hH⟩ : ∃ H,H = mN G cm (allTill G cm (N + 1) (ns2 a b) [] 2) r:=⟨_,rfl⟩
 obtain ⟨r0,hr0⟩ : ∃ n,n = numOf cm (allTill G cm (N + 1) (ns2 a b) [] 2) a:=⟨_,rfl⟩
 obtain ⟨r1,hr1⟩ : ∃ n,n = numOf cm (allTill G cm (N + 1) (ns2 a b) [] 2) b:=⟨_,rfl⟩
 rw [<- hn,<- hH] at gH sH N1
 rw [<- hn,<- hr0] at hq0
 rw [<- hn,<- hr1] at hq1
 rw [<- hr0] at l0
 rw [<- hr1] at l1
 rw [<- hn,<- hH,<- hr0,<- hr1] at HPOST
 rw [<- hn]
 clear hn hH hr0 hr1 hst hcm hr i1 HHV HC1
 have HGH : Hid (GoodH n H):=gH
 have HSH : Hid (∀ t,t < n -> shp (H t) = true):=sH
 have hn4:=gH.n
 have hs1:=B1.size
 have hz3:=z3.out
 have HB1 : Hid (Below w.heap.size w w1):=B3.trans (B1.mono B3.size)
 have HRS1 : Hid (w1.rowIs (w.heap.size + 1) 29 1 (fun _=>.slice none 0 0)):=HRS.out.of_block (B1.block _ (by omega))
 have eoa:=N1.at_ (by omega)
 subst eoa
 have HN1 : Hid (∀ W,Below w1.heap.size w1 W -> NodesAt W (some ⟨b',0,none⟩) b' 0 n p' H):=fun W hW=>N1.below hW
 have HSQ : Hid (∀ t,t < n -> ShQ (H t)):=fun t ht=>⟨fun j hj=>(gH.kids t ht j hj).1,gH.nk4 ht,gH.nk3 ht,by have:=gH.nn ht;omega⟩
 have HIN : Hid (∀ k,(qAt H ⟨r0,r1,up⟩ k).a < n /\ (qAt H ⟨r0,r1,up⟩ k).b < n):=fun k=>qAt_in gH ⟨hq0,hq1⟩ k
 have HML : Hid (∀ k,(mixQ (H (qAt H ⟨r0,r1,up⟩ k).a) (H (qAt H ⟨r0,r1,up⟩ k).b) (qAt H ⟨r0,r1,up⟩ k).up).length <= 1048576):=fun k=>mixQ_len gH (HIN.out k).1 (HIN.out k).2 _
 have HPB : Hid (∀ i,i < n -> (0 < (H i).nn -> (p' i).b1 < w1.heap.size) /\ (0 < (H i).nk -> (p' i).b2 < w1.heap.size)):=fun i hi=>⟨fun z=>blt ((N1.node i hi).names.cell 0 z),fun z=>blt ((N1.node i hi).kids.cell 0 z)⟩
 have HNZ : Hid (∀ x y u s,x < n -> y < n -> s ∈ mixN (H x) (H y) u -> s.size <= 9223372036854775807):=fun x y u s hx hy hs=>by
  rcases mixN_mem hs with ⟨i,hi,e⟩ | ⟨i,hi,e⟩
  ·rw [e];exact (N1.node _ hx).names.size i hi
  ·rw [e];exact (N1.node _ hy).names.size i hi
 clear N1 B1 B3 HRS z3 gH sH
 have lbl : lb < w1.heap.size:=blt l0
 obtain ⟨WA,hWA⟩ : ∃ WA,WA = w1.alloc (.cells #[.slice (some ⟨b',0,none⟩) n cap] 29):=⟨_,rfl⟩
 have BA : Below w1.heap.size w1 WA:=by rw [hWA];exact bel1 _ _
 have zA : Hid (WA.heap.size = w1.heap.size + 1):=by show _ = _;rw [hWA];simp
 have y0 : WA.cell? ⟨lb,0,none⟩ = some (.int .i64 (r0 : Int)):=(BA.cell (p:=⟨lb,0,none⟩) lbl).trans l0
 have y1 : WA.cell? ⟨lb,1,none⟩ = some (.int .i64 (r1 : Int)):=(BA.cell (p:=⟨lb,1,none⟩) lbl).trans l1
 have RH : WA.rowIs w1.heap.size 29 1 (fun _=>.slice (some ⟨b',0,none⟩) n cap):=by rw [hWA];exact row1 _ _ _
 have HHC : Hid (∀ W,Below WA.heap.size WA W -> W.cell? ⟨w1.heap.size,0,none⟩ = some (.slice (some ⟨b',0,none⟩) n cap) /\ NodesAt W (some ⟨b',0,none⟩) b' 0 n p' H /\ Below w.heap.size w W /\ W.rowIs (w.heap.size + 1) 29 1 (fun _=>.slice none 0 0)):=fun W hW=>by
  have b1 : Below w1.heap.size w1 W:=BA.trans (hW.mono BA.size)
  exact ⟨(RH.of_block (hW.block _ RH.lt)).cell (i:=0) (by omega),HN1.out W b1,HB1.out.trans (b1.mono HB1.out.size),HRS1.out.of_block (b1.block _ HRS1.out.lt)⟩
 have HST : Hid (∀ t,((WA.drewN t).alloc (.cells #[.int .i64 (r0 : Int),.int .i64 (r1 : Int),.bool up] 81)).ownsRow WA.heap.size 81 3 (.slice (some ⟨WA.heap.size,0,none⟩) 1 1) 1 (kcells ((qsTill H ⟨r0,r1,up⟩ 0).map Kq.qn)) /\ Below WA.heap.size WA ((WA.drewN t).alloc (.cells #[.int .i64 (r0 : Int),.int .i64 (r1 : Int),.bool up] 81))):=fun t=>
  ⟨World.ownsRow_lit (WA.drewN t) #[.int .i64 (r0 : Int),.int .i64 (r1 : Int),.bool up] 1 (Nat.le_refl _) (by unfold maxLen;omega) (by rfl),(below_drewN' _ _).alloc (Nat.le_refl _) _⟩
 clear l0 l1 RH BA HN1
 obtain ⟨i8,ht0,ht1,ht2,ht3⟩:=info_parts Tryz.info81
 obtain ⟨i4,hj0,hj1,hj2,hj3⟩:=info_parts Tryz.info48
 obtain ⟨i3,hk0,hk1,hk2,hk3⟩:=info_parts Tryz.info3
 go_wp2
 rw [<- hWA]
 clear hWA
 go_cut [12] (fun s12 wc=>s12 = .slice (some ⟨WA.heap.size,0,none⟩) 1 1 /\ Hid (wc.ownsRow WA.heap.size 81 3 (.slice (some ⟨WA.heap.size,0,none⟩) 1 1) 1 (kcells ((qsTill H ⟨r0,r1,up⟩ 0).map Kq.qn))) /\ Hid (Below WA.heap.size WA wc))
 case first=>
  go_region_held3 (fun w'=>w'.cell? ⟨lb,0,none⟩ = some (.int .i64 (r0 : Int)) /\ w'.cell? ⟨lb,1,none⟩ = some (.int .i64 (r1 : Int))) (go_keep) (fail)
  all_goals
   go_wp2
   go_meet
   case rel=>exact ⟨rfl,by first | exact (HST.out 1).1 | exact (HST.out 0).1 | exact (HST.out _).1,by first | exact (HST.out 1).2 | exact (HST.out 0).2 | exact (HST.out _).2⟩
 case rest=>
  obtain ⟨rfl,HO0,HBC⟩:=hcut
  clear y0 y1 HST
  obtain ⟨q0,hq⟩ : ∃ q : Qn,q = ⟨r0,r1,up⟩:=⟨_,rfl⟩
  rw [<- hq] at HPOST HIN HML HO0
  have hqq : q0.a < n /\ q0.b < n:=by rw [hq];exact ⟨hq0,hq1⟩
  clear hq
  have HI0 : Hid ((∀ i,i < 0 -> i < (qsTill H q0 i).length) /\ ∀ i,i <= 0 -> (qsTill H q0 i).length <= 1000):=⟨fun i hi=>absurd hi (Nat.not_lt_zero _),fun i hi=>by
   have e : i = 0:=by omega
   subst e
   show 1 <= 1000
   omega⟩
  go_wp2
  go_loopw [12,13] (fun s12 s13 wr=>∃ (k ln : Nat) (aa : Option Addr) (ac : Nat),s12 = .slice aa ln ac /\ s13 = .int .i64 k /\ k <= 1000 /\ Hid (ln = (qsTill H q0 k).length) /\ ln <= 1000 /\ Hid (wr.ownsRow WA.heap.size 81 3 (.slice aa ln ac) ln (kcells ((qsTill H q0 k).map Kq.qn))) /\ Hid (Below WA.heap.size WA wr) /\ Hid ((∀ i,i < k -> i < (qsTill H q0 i).length) /\ ∀ i,i <= k -> (qsTill H q0 i).length <= 1000)) (fun _ s13 _=>1001 - (intOf s13).toNat)
  case atStart=>exact ⟨0,1,_,_,rfl,rfl,by omega,rfl,by omega,HO0,HBC,HI0⟩
  case round=>
   obtain ⟨k,ln,aa,ac,rfl,rfl,hk,HLN,hln,HO,HB,HI⟩:=hrel
   clear HO0 HBC HI0
   have hws:=HB.out.size
   have hzA:=zA.out
   by_cases hlt : k < ln
   case neg=>
    have HFQ : Hid (FullQ H q0 k):=⟨HI.out.2,HI.out.1,by rw [<- HLN.out];exact hlt⟩
    have hkl : ln = k:=by rw [HLN.out,HFQ.out.len]
    subst hkl
    have lkk : ¬ (ln : Int) < (ln : Int):=by omega
    obtain ⟨hc,NH,_,_⟩:=HHC.out wr HB.out
    have hw1 : w1.heap.size < wr.heap.size:=blt hc
    obtain ⟨Lk,hLk⟩ : ∃ L,L = qsTill H q0 ln:=⟨_,rfl⟩
    have HLK : Hid (Lk = qsTill H q0 ln):=hLk
    have HLL : Hid (Lk.length = ln):=by show _ = _;rw [hLk];exact HFQ.out.len
    have HOL : Hid (wr.ownsRow WA.heap.size 81 3 (.slice aa ln ac) ln (kcells (Lk.map Kq.qn))):=by rw [hLk];exact HO.out
    have HQI : Hid (∀ i,(Lk.getD i q0).a < n /\ (Lk.getD i q0).b < n):=fun i=>by rw [hLk];exact getD_in (qs_in HGH.out hqq ln) hqq i
    have HCL : Hid (ClosedQ H Lk):=by rw [hLk];exact HFQ.out.closed
    have HGM : Hid (GoodM (n + ln) (mixG n H Lk q0)):=by
     have:=goodM HGH.out HSH.out (L:=Lk) (q0:=q0) (by rw [hLk];exact qs_in HGH.out hqq ln) hqq HCL.out
     rw [HLL.out] at this
     exact this
    have HS0:=lq_start w1.heap.size wr hw1 p' H
    have HST0 : Hid (Lq w1.heap.size wr (wr.alloc (.cells #[] 48)) (.slice (some ⟨wr.heap.size,0,none⟩) 0 0) p' (upN H 0)):=HS0
    have hnn : 0 < n:=by omega
    clear hLk HI HO HS0 NH
    go_wp2
    go_loopw [19,20] (fun s19 s20 wx=>∃ (i : Nat) (na : Option Addr) (nc : Nat) (q : Nat -> NP),s19 = .slice na i nc /\ s20 = .int .i64 i /\ i <= n /\ Hid (Lq w1.heap.size wr wx (.slice na i nc) q (upN H i))) (fun _ s20 _=>n - (intOf s20).toNat)
    case atStart=>exact ⟨0,_,_,p',rfl,rfl,Nat.zero_le _,HST0⟩
    case round=>
     rename World=>wx
     obtain ⟨i,na,nc,q,rfl,rfl,hi,HQL⟩:=hrel
     clear HST0
     have hxs:=HQL.out.below.size
     have HBX : Hid (Below WA.heap.size WA wx):=HB.out.trans (HQL.out.below.mono HB.out.size)
     obtain ⟨hcx,NX,_,_⟩:=HHC.out wx HBX.out
     by_cases hil : i < n
     case pos=>
      have li : (i : Int) < (n : Int):=by omega
      have c0:=NX.c0 i hil
      have c1:=NX.c1 i hil
      have c2:=NX.c2 i hil
      rw [Nat.zero_add] at c0 c1 c2
      have HND : Hid (NodeAt wx (p' i) (H i)):=NX.node i hil
      have O : wx.ownsRow wr.heap.size 48 3 (.slice na i nc) i (ncells q (gd (upN H i)) i):=by have:=HQL.out.own;rw [upN_len] at this;exact this
      have HOW : Hid (wx.ownsRow wr.heap.size 48 3 (.slice na i nc) i (ncells q (gd (upN H i)) i)):=O
      have hob:=HQL.out.own
      clear NX O hob
      go_wp2_with (first
       | (at_builtin;go_loud (refine wpList_append_lies _ rfl _ _ 27 rfl wr.heap.size 48 i4 _ 3 56 Tryz.underlying27 hj0 hj1 hj2 hj3 rfl (by omega) (.slice na i nc) i (ncells q (gd (upN H i)) i) rfl (by exact HOW.out.alloc _) ⟨wx.heap.size,0,none⟩ 1 1 [.int .i64 (H i).kind,.slice (p' i).a1 (H i).nn (p' i).c1,.slice (p' i).a2 (H i).nk (p' i).c2] rfl rfl (World.news_of_block (cs:=#[.int .i64 (H i).kind,.slice (p' i).a1 (H i).nn (p' i).c1,.slice (p' i).a2 (H i).nk (p' i).c2]) (t:=48) (fr:=(0,0)) (heap_alloc_new wx _)) (by simp [Value.oneCell']) (by omega) (by unfold maxLen;omega) (by omega) (by first | omega | (simp;omega)) (wx.heap.size + 1) (by first | rfl | simp) ?_);intro gg cap3 w3 hown3 hg3 hat3 hlt3))
      have HQ3 : Hid (Lq w1.heap.size wr w3 (.slice (some ⟨gg,0,none⟩) (i + 1) cap3) (fun t=>if t = i then p' i else q t) (upN H (i + 1))):=by
       have hown4 : w3.ownsRow wr.heap.size 48 3 (.slice (some ⟨gg,0,none⟩) (i + 1) cap3) (i + 1) (ncells q (gd (upN H i)) (upN H i).length ++ [.int .i64 (H i).kind,.slice (p' i).a1 (H i).nn (p' i).c1,.slice (p' i).a2 (H i).nk (p' i).c2]):=by rw [upN_len];exact hown3
       rw [upN_succ]
       have far : ∀ j,j < w1.heap.size -> j < wx.heap.size /\ some j ≠ (Value.slice na i nc).ownBlock /\ j ≠ w1.heap.size:=fun j hj=>⟨by omega,fun e=>by have:=(HOW.out.lt j e.symm).1;omega,by omega⟩
       exact lq_step HQL.out (upN_len H i) (Below.refl _ _) (p' i) (H i) HND.out (fun z=>far _ ((HPB.out i hil).1 z)) (fun z=>far _ ((HPB.out i hil).2 z)) hown4 hg3 hat3
      clear hown3 hg3 hat3 HOW HND
      go_wp2
      go_roundw
      case rel=>exact ⟨i + 1,_,_,_,rfl,by go_num,by omega,HQ3⟩
      case measure=>simp [intOf];omega
     case neg=>
      have hin : i = n:=by omega
      subst hin
      have li : ¬ (i : Int) < (i : Int):=by omega
      have HQ0 : Hid (Lq w1.heap.size wr wx (.slice na i nc) q (upN (mixG i H Lk q0) i)):=by
       have e : upN (mixG i H Lk q0) i = upN H i:=by
        unfold upN
        exact List.map_congr_left (fun t ht=>mixG_lt (List.mem_range.1 ht))
       rw [e];exact HQL.out
      clear NX HQL hcx HBX
      go_wp2
      go_loopw [19,21] (fun s19 s21 wx=>∃ (j m : Nat) (na : Option Addr) (nc : Nat) (q : Nat -> NP),s19 = .slice na m nc /\ s21 = .int .i64 j /\ Hid (m = i + j) /\ m <= 5000 /\ j <= ln /\ Hid (Lq w1.heap.size wr wx (.slice na m nc) q (upN (mixG i H Lk q0) m))) (fun _ s21 _=>ln - (intOf s21).toNat)
      case atStart=>exact ⟨0,i,_,_,q,rfl,rfl,rfl,by omega,Nat.zero_le _,HQ0⟩
      case round=>
       rename World=>wz
       obtain ⟨j,m,na,nc,q,rfl,rfl,HMJ,hm5,hjl,HQL⟩:=hrel
       clear HQ0
       have hxs:=HQL.out.below.size
       have HBX : Hid (Below WA.heap.size WA wz):=HB.out.trans (HQL.out.below.mono HB.out.size)
       by_cases hjk : j < ln
       case pos=>
        have lj : (j : Int) < (ln : Int):=by omega
        obtain ⟨hcx,NX,_,_⟩:=HHC.out wz HBX.out
        have OX : wz.ownsRow WA.heap.size 81 3 (.slice aa ln ac) ln (kcells (Lk.map Kq.qn)):=own_block HOL.out (fun t e=>HQL.out.below.block t (HOL.out.lt t e.symm).2)
        obtain ⟨g,BQ,hg⟩:=own_bq OX HLL.out q0
        have eaa:=BQ.at_ (by omega)
        subst eaa
        obtain ⟨c0,c1,c2⟩:=BQ.qn hjk rfl
        obtain ⟨hqa,hqb⟩:=HQI.out j
        have hml:=mixQ_len HGH.out hqa hqb (Lk.getD j q0).up
        have hgl:=hg (by omega)
        have HCM : Hid (∀ t,Calls Tryz.prog 60 #[.agg #[.slice (some ⟨b',0,none⟩) i cap],.agg #[.int .i64 ((Lk.getD j q0).a : Int),.int .i64 ((Lk.getD j q0).b : Int),.bool (Lk.getD j q0).up]] (wz.drewN t) fun e w2=>∃ (kd : Int) (xa : Option Addr) (l1 xc xg : Nat) (ka : Option Addr) (l2 kc kg : Nat),e = .returned (.tuple #[.int .i64 kd,.slice xa l1 xc,.slice ka l2 kc]) /\ (w2.cell? ⟨w1.heap.size,0,none⟩ = some (.slice (some ⟨b',0,none⟩) i cap) /\ w2.cell? ⟨g,j * 3,none⟩ = some (.int .i64 ((Lk.getD j q0).a : Int)) /\ w2.cell? ⟨g,j * 3 + 1,none⟩ = some (.int .i64 ((Lk.getD j q0).b : Int)) /\ w2.cell? ⟨g,j * 3 + 2,none⟩ = some (.bool (Lk.getD j q0).up)) /\
          Hid (kd = mixK (H (Lk.getD j q0).a) (H (Lk.getD j q0).b) /\ l1 = (mixN (H (Lk.getD j q0).a) (H (Lk.getD j q0).b) (Lk.getD j q0).up).length /\ l2 = (mixQ (H (Lk.getD j q0).a) (H (Lk.getD j q0).b) (Lk.getD j q0).up).length) /\ Hid (StrsAt w2 xa xg 0 l1 (fun i=>(mixN (H (Lk.getD j q0).a) (H (Lk.getD j q0).b) (Lk.getD j q0).up).getD i ByteArray.empty) /\ (0 < l1 -> wz.heap.size <= xg /\ xg < w2.heap.size)) /\ Hid (BlAt w2 ka kg l2 (fun i=>(mixQ (H (Lk.getD j q0).a) (H (Lk.getD j q0).b) (Lk.getD j q0).up).getD i (.ty 0))) /\ Hid (Below wz.heap.size wz w2)):=fun t=>by
         have bt : Below wz.heap.size wz (wz.drewN t):=below_drewN' _ _
         refine (m_mixed (some ⟨b',0,none⟩) cap (Lk.getD j q0) (wz.drewN t) (NX.below bt) hqa hqb (HSQ.out _ hqa) (HSQ.out _ hqb)).mono ?_
         rintro e w2 ⟨xa,xc,ka,kc,rfl,o1,o2,b2⟩
         have b2' : Below wz.heap.size wz w2:=bt.trans b2
         obtain ⟨kg,BK,_⟩:=own_bl o2 rfl (.ty 0)
         obtain ⟨xg,SX,hxg⟩:=own_strs o1 (fun s hs=>HNZ.out _ _ _ s hqa hqb hs)
         exact ⟨_,xa,_,xc,xg,ka,_,kc,kg,rfl,⟨(b2'.cell (p:=⟨w1.heap.size,0,none⟩) (blt hcx)).trans hcx,(b2'.cell (p:=⟨g,j * 3,none⟩) hgl.2.1).trans c0,(b2'.cell (p:=⟨g,j * 3 + 1,none⟩) hgl.2.1).trans c1,(b2'.cell (p:=⟨g,j * 3 + 2,none⟩) hgl.2.1).trans c2⟩,⟨rfl,rfl,rfl⟩,⟨SX,fun z=>⟨(hxg z).1,(hxg z).2.1⟩⟩,BK,b2'⟩
        have HMG : Hid (mixG i H Lk q0 m = mixD i H Lk (Lk.getD j q0)):=by
         show _ = _
         rw [HMJ.out,mixG_ge (by omega),show i + j - i = j from by omega]
        have HQM : Hid (Lk.getD j q0 ∈ Lk):=getD_lt (by rw [HLL.out];exact hjk)
        obtain ⟨qk,hqk⟩ : ∃ z,z = Lk.getD j q0:=⟨_,rfl⟩
        rw [<- hqk] at HCM c0 c1 c2 hqa hqb hml HMG HQM
        clear hqk BQ NX OX
        go_wp2
        go_cut [22,23,24] (fun s22 s23 s24 w2=>∃ (kd : Int) (xa : Option Addr) (l1 xc xg : Nat) (ka : Option Addr) (l2 kc kg : Nat),s22 = .int .i64 kd /\ s23 = .slice xa l1 xc /\ s24 = .slice ka l2 kc /\ Hid (kd = mixK (H qk.a) (H qk.b) /\ l1 = (mixN (H qk.a) (H qk.b) qk.up).length /\ l2 = (mixQ (H qk.a) (H qk.b) qk.up).length) /\ l2 <= 1048576 /\ Hid (StrsAt w2 xa xg 0 l1 (fun i=>(mixN (H qk.a) (H qk.b) qk.up).getD i ByteArray.empty) /\ (0 < l1 -> wz.heap.size <= xg /\ xg < w2.heap.size)) /\ Hid (BlAt w2 ka kg l2 (fun i=>(mixQ (H qk.a) (H qk.b) qk.up).getD i (.ty 0))) /\ Hid (Below wz.heap.size wz w2))
        case first=>
         go_region_held3 (fun w'=>w'.cell? ⟨w1.heap.size,0,none⟩ = some (.slice (some ⟨b',0,none⟩) i cap) /\ w'.cell? ⟨g,j * 3,none⟩ = some (.int .i64 (qk.a : Int)) /\ w'.cell? ⟨g,j * 3 + 1,none⟩ = some (.int .i64 (qk.b : Int)) /\ w'.cell? ⟨g,j * 3 + 2,none⟩ = some (.bool qk.up)) (go_keep)
          (first
           | (go_at_call 60;refine (HCM.out _).mono ?_;rintro e w2 ⟨kd,xa,l1,xc,xg,ka,l2,kc,kg,rfl,⟨s0,s1,s2,s3⟩,HL2,HSX,HBK,HB2⟩))
         all_goals
          go_wp2
          go_meet
          case rel=>exact ⟨kd,xa,l1,xc,xg,ka,l2,kc,kg,rfl,rfl,rfl,HL2,by rw [HL2.out.2.2];exact hml,HSX,HBK,HB2⟩
        case rest=>
         rename World=>w2
         obtain ⟨kd,xa,l1,xc,xg,ka,l2,kc,kg,rfl,rfl,rfl,HL2,hl2,HSX,HBK,HB2⟩:=hcut
         clear HCM c0 c1 c2 hcx
         have hs2:=HB2.out.size
         have HT0 : Hid ((w2.alloc (.cells #[] 3)).ownsRow w2.heap.size 3 1 (.slice (some ⟨w2.heap.size,0,none⟩) 0 0) 0 (zcells (((mixQ (H qk.a) (H qk.b) qk.up).take 0).map fun k'=>(numK i Lk k' : Int)))):=World.ownsRow_lit w2 #[] 0 (Nat.le_refl _) (by unfold maxLen;omega) (by rfl)
         have HB20 : Hid (Below w2.heap.size w2 (w2.alloc (.cells #[] 3))):=bel1 _ _
         go_wp2
         go_loopw [25,26] (fun s25 s26 wk=>∃ (t : Nat) (ta : Option Addr) (tc : Nat),s25 = .slice ta t tc /\ s26 = .int .i64 t /\ t <= l2 /\ Hid (wk.ownsRow w2.heap.size 3 1 (.slice ta t tc) t (zcells (((mixQ (H qk.a) (H qk.b) qk.up).take t).map fun k'=>(numK i Lk k' : Int)))) /\ Hid (Below w2.heap.size w2 wk)) (fun _ s26 _=>l2 - (intOf s26).toNat)
         case atStart=>exact ⟨0,_,_,rfl,rfl,Nat.zero_le _,HT0,HB20⟩
         case round=>
          rename World=>wk
          obtain ⟨t,ta,tc,rfl,rfl,htl,HTO,HBK2⟩:=hrel
          clear HT0 HB20
          have hks:=HBK2.out.size
          by_cases htt : t < l2
          case pos=>
           have lt' : (t : Int) < (l2 : Int):=by omega
           have BK:=HBK.out.below HBK2.out
           have eka:=BK.at_ (by omega)
           subst eka
           have HTS : Hid (((mixQ (H qk.a) (H qk.b) qk.up).take (t + 1)).map (fun k'=>(numK i Lk k' : Int)) = ((mixQ (H qk.a) (H qk.b) qk.up).take t).map (fun k'=>(numK i Lk k' : Int)) ++ [(numK i Lk ((mixQ (H qk.a) (H qk.b) qk.up).getD t (.ty 0)) : Int)]):=take_snocK (by have:=HL2.out.2.2;omega) _
           cases hkt : (mixQ (H qk.a) (H qk.b) qk.up).getD t (.ty 0) with
           | ty x=>
             obtain ⟨d0,d1,d2⟩:=BK.ty htt hkt
             have HTS2 : Hid (zcells (((mixQ (H qk.a) (H qk.b) qk.up).take (t + 1)).map (fun k'=>(numK i Lk k' : Int))) = zcells (((mixQ (H qk.a) (H qk.b) qk.up).take t).map fun k'=>(numK i Lk k' : Int)) ++ [.int .i64 (x : Int)]):=by
              have:=HTS.out
              rw [hkt] at this
              show _ = _
              rw [this];unfold zcells;rw [List.map_append];rfl
             clear BK hkt HTS
             go_wp2_with (first
              | (at_builtin;go_loud (refine wpList_append_lies _ rfl _ _ 25 rfl w2.heap.size 3 i3 _ 1 8 Tryz.underlying25 hk0 hk1 hk2 hk3 rfl (by omega) (.slice ta t tc) t (zcells (((mixQ (H qk.a) (H qk.b) qk.up).take t).map fun k'=>(numK i Lk k' : Int))) rfl (by exact HTO.out.alloc _) ⟨wk.heap.size,0,none⟩ 1 1 [.int .i64 (x : Int)] rfl rfl (by exact cell_one_new _ _ _) (by simp [Value.oneCell']) (by omega) (by unfold maxLen;omega) (by omega) (by first | omega | (simp;omega)) (wk.heap.size + 1) (by first | rfl | simp) ?_);intro gg cap3 w3 hown3 hg3 hat3 hlt3))
             have HT3 : Hid (w3.ownsRow w2.heap.size 3 1 (.slice (some ⟨gg,0,none⟩) (t + 1) cap3) (t + 1) (zcells (((mixQ (H qk.a) (H qk.b) qk.up).take (t + 1)).map fun k'=>(numK i Lk k' : Int)))):=by rw [HTS2.out];exact hown3
             have HB3 : Hid (Below w2.heap.size w2 w3):=below_grown HBK2.out hks hg3 (fun x e=>(HTO.out.lt x e).1)
             clear hown3 hg3 hat3 HTS2
             go_wp2
             go_roundw
             case rel=>exact ⟨t + 1,_,_,rfl,by go_num,by omega,HT3,HB3⟩
             case measure=>simp [intOf];omega
           | qn qq=>
             obtain ⟨d0,d1,d2⟩:=BK.qn htt hkt
             have HIN2 : Hid (qq ∈ Lk):=HCL.out qk HQM.out qq (by
              rw [<- hkt]
              have hx : t < (mixQ (H qk.a) (H qk.b) qk.up).length:=by have:=HL2.out.2.2;omega
              rw [List.getD_eq_getElem?_getD,List.getElem?_eq_getElem hx]
              exact List.getElem_mem _)
             have HTS2 : Hid (zcells (((mixQ (H qk.a) (H qk.b) qk.up).take (t + 1)).map (fun k'=>(numK i Lk k' : Int))) = zcells (((mixQ (H qk.a) (H qk.b) qk.up).take t).map fun k'=>(numK i Lk k' : Int)) ++ [.int .i64 ((i : Int) + (Lk.idxOf qq : Int))]):=by
              have:=HTS.out
              rw [hkt] at this
              show _ = _
              rw [this];unfold zcells;rw [List.map_append]
              congr 1
             have HOK : Hid (wk.ownsRow WA.heap.size 81 3 (.slice (some ⟨g,0,none⟩) ln ac) ln (kcells (Lk.map Kq.qn))):=own_block HOL.out (fun x e=>(HBK2.out.block x (by have:=(HOL.out.lt x e.symm).2;omega)).trans ((HB2.out.block x (by have:=(HOL.out.lt x e.symm).2;omega)).trans (HQL.out.below.block x (HOL.out.lt x e.symm).2)))
             obtain ⟨g2,BL,_⟩:=own_bq HOK.out HLL.out qq
             have HCB : Hid (Calls Tryz.prog 61 #[.slice (some ⟨g,0,none⟩) ln ac,.agg #[.int .i64 (qq.a : Int),.int .i64 (qq.b : Int),.bool qq.up]] wk fun e w'=>e = .returned (.int .i64 (plQ Lk qq)) /\ Below wk.heap.size wk w'):=m_blend _ g2 ln ac Lk qq wk BL HLL.out
             have HIX : Hid (plQ Lk qq = (Lk.idxOf qq : Int)):=plQ_in HIN2.out
             have hix : Lk.idxOf qq < ln:=by have:=List.idxOf_lt_length_of_mem HIN2.out;rw [HLL.out] at this;exact this
             have nb : ¬ (qq.b : Int) < 0:=by omega
             clear BK BL hkt HTS HOK
             go_wp2_with fail
             refine HCB.out.mono ?_
             rintro e wy ⟨rfl,by1⟩
             rw [HIX.out]
             obtain ⟨tt,htq⟩ : ∃ tt,tt = Lk.idxOf qq:=⟨_,rfl⟩
             rw [<- htq] at HTS2 hix
             rw [<- htq]
             clear htq HIX HCB
             have hys:=by1.size
             have HOY : Hid (wy.ownsRow w2.heap.size 3 1 (.slice ta t tc) t (zcells (((mixQ (H qk.a) (H qk.b) qk.up).take t).map fun k'=>(numK i Lk k' : Int)))):=own_block HTO.out (fun x e=>by1.block x (HTO.out.lt x e.symm).2)
             have HBY : Hid (Below w2.heap.size w2 wy):=HBK2.out.trans (by1.mono hks)
             clear by1 d0 d1 d2
             go_wp2_with (first
              | (at_builtin;go_loud (refine wpList_append_lies _ rfl _ _ 25 rfl w2.heap.size 3 i3 _ 1 8 Tryz.underlying25 hk0 hk1 hk2 hk3 rfl (by omega) (.slice ta t tc) t (zcells (((mixQ (H qk.a) (H qk.b) qk.up).take t).map fun k'=>(numK i Lk k' : Int))) rfl (by exact HOY.out.alloc _) ⟨wy.heap.size,0,none⟩ 1 1 [.int .i64 ((i : Int) + (tt : Int))] rfl rfl (by exact cell_one_new _ _ _) (by simp [Value.oneCell']) (by omega) (by unfold maxLen;omega) (by omega) (by first | omega | (simp;omega)) (wy.heap.size + 1) (by first | rfl | simp) ?_);intro gg cap3 w3 hown3 hg3 hat3 hlt3))
             have HT3 : Hid (w3.ownsRow w2.heap.size 3 1 (.slice (some ⟨gg,0,none⟩) (t + 1) cap3) (t + 1) (zcells (((mixQ (H qk.a) (H qk.b) qk.up).take (t + 1)).map fun k'=>(numK i Lk k' : Int)))):=by rw [HTS2.out];exact hown3
             have HB3 : Hid (Below w2.heap.size w2 w3):=below_grown HBY.out (by omega) hg3 (fun x e=>(HOY.out.lt x e).1)
             clear hown3 hg3 hat3 HTS2 HOY
             go_wp2
             go_roundw
             case rel=>exact ⟨t + 1,_,_,rfl,by go_num,by omega,HT3,HB3⟩
             case measure=>simp [intOf];omega
          case neg=>
           have htt2 : t = l2:=by omega
           subst htt2
           have lt' : ¬ (t : Int) < (t : Int):=by omega
           have HWK : Hid (Below wz.heap.size wz wk):=HB2.out.trans (HBK2.out.mono HB2.out.size)
           have hwks:=HWK.out.size
           obtain ⟨d,hd⟩ : ∃ d,d = mixG i H Lk q0 m:=⟨_,rfl⟩
           have HD : Hid (d = mixG i H Lk q0 m):=hd
           have hd2 : d = mixD i H Lk qk:=hd.trans HMG.out
           obtain ⟨tg,IT,htg⟩:=own_zs HTO.out
           have HDN : Hid (d.kind = kd /\ d.nn = l1 /\ d.nk = t):=by
            obtain ⟨z1,z2,z3⟩:=HL2.out
            rw [hd2]
            exact ⟨z1.symm,z2.symm,z3.symm⟩
           have HNP : Hid (NodeAt wk ⟨xa,xg,0,xc,ta,tg,0,tc⟩ d):=by
            obtain ⟨z1,z2,z3⟩:=HL2.out
            refine ⟨?_,?_⟩
            ·have h9:=(HSX.out.1).below HBK2.out
             rw [HDN.out.2.1]
             exact h9.congr (fun x hx=>by rw [hd2];rfl)
            ·rw [HDN.out.2.2]
             refine IT.congr (fun x hx=>?_)
             rw [hd2]
             show _ = ((((mixQ (H qk.a) (H qk.b) qk.up).map (numK i Lk)).getD x 0 : Nat) : Int)
             rw [z3,List.take_length]
             have hx2 : x < (mixQ (H qk.a) (H qk.b) qk.up).length:=by omega
             rw [List.getD_eq_getElem?_getD,List.getD_eq_getElem?_getD,List.getElem?_map,List.getElem?_map,List.getElem?_eq_getElem hx2]
             rfl
           have HF1 : Hid (0 < d.nn -> xg < wk.heap.size /\ some xg ≠ (Value.slice na m nc).ownBlock /\ xg ≠ w1.heap.size):=fun z=>by
            rw [HDN.out.2.1] at z
            have h9:=HSX.out.2 z
            exact ⟨by omega,fun e=>by have h8:=HQL.out.own;rw [upN_len] at h8;have:=(h8.lt xg e.symm).2;omega,by omega⟩
           have HF2 : Hid (0 < d.nk -> tg < wk.heap.size /\ some tg ≠ (Value.slice na m nc).ownBlock /\ tg ≠ w1.heap.size):=fun z=>by
            rw [HDN.out.2.2] at z
            have h9:=htg z
            exact ⟨h9.2.1,fun e=>by have h8:=HQL.out.own;rw [upN_len] at h8;have:=(h8.lt tg e.symm).2;omega,by omega⟩
           have HOW : Hid (wk.ownsRow wr.heap.size 48 3 (.slice na m nc) m (ncells q (gd (upN (mixG i H Lk q0) m)) m)):=by
            have h8:=HQL.out.own
            rw [upN_len] at h8
            exact own_block h8 (fun x e=>HWK.out.block x (h8.lt x e.symm).2)
           clear hd hd2 IT htg HTO
           go_wp2_with (first
            | (at_builtin;go_loud (refine wpList_append_lies _ rfl _ _ 27 rfl wr.heap.size 48 i4 _ 3 56 Tryz.underlying27 hj0 hj1 hj2 hj3 rfl (by omega) (.slice na m nc) m (ncells q (gd (upN (mixG i H Lk q0) m)) m) rfl (by exact HOW.out.alloc _) ⟨wk.heap.size,0,none⟩ 1 1 [.int .i64 kd,.slice xa l1 xc,.slice ta t tc] rfl rfl (World.news_of_block (cs:=#[.int .i64 kd,.slice xa l1 xc,.slice ta t tc]) (t:=48) (fr:=(0,0)) (heap_alloc_new wk _)) (by simp [Value.oneCell']) (by omega) (by unfold maxLen;omega) (by omega) (by first | omega | (simp;omega)) (wk.heap.size + 1) (by first | rfl | simp) ?_);intro gg cap3 w3 hown3 hg3 hat3 hlt3))
           have HQ3 : Hid (Lq w1.heap.size wr w3 (.slice (some ⟨gg,0,none⟩) (m + 1) cap3) (fun x=>if x = m then ⟨xa,xg,0,xc,ta,tg,0,tc⟩ else q x) (upN (mixG i H Lk q0) (m + 1))):=by
            have hown4 : w3.ownsRow wr.heap.size 48 3 (.slice (some ⟨gg,0,none⟩) (m + 1) cap3) (m + 1) (ncells q (gd (upN (mixG i H Lk q0) m)) (upN (mixG i H Lk q0) m).length ++ [.int .i64 d.kind,.slice xa d.nn xc,.slice ta d.nk tc]):=by rw [upN_len,HDN.out.1,HDN.out.2.1,HDN.out.2.2];exact hown3
            rw [upN_succ,<- HD.out]
            exact lq_step HQL.out (upN_len _ m) HWK.out ⟨xa,xg,0,xc,ta,tg,0,tc⟩ d HNP.out HF1.out HF2.out hown4 hg3 hat3
           have HMJ2 : Hid (m + 1 = i + (j + 1)):=by have:=HMJ.out;show _ = _;omega
           have hm6 : m + 1 <= 5000:=by have:=HMJ.out;omega
           clear hown3 hg3 hat3 HOW HNP HF1 HF2 HDN
           go_wp2
           go_roundw
           case rel=>exact ⟨j + 1,m + 1,_,_,_,rfl,by go_num,HMJ2,hm6,by omega,HQ3⟩
           case measure=>simp [intOf];omega
       case neg=>
        have hjn : j = ln:=by omega
        subst hjn
        have lj : ¬ (j : Int) < (j : Int):=by omega
        obtain ⟨bq,NZ,_⟩:=lq_nodes HQL.out (upN_len _ m) (by omega)
        have NZ2 : NodesAt wz na bq 0 m q (mixG i H Lk q0):=NZ.congr (fun x hx=>gd_upN _ hx)
        obtain ⟨W9,hW9⟩ : ∃ W9,W9 = wz.alloc (.cells #[.int .i64 (i : Int)] 3):=⟨_,rfl⟩
        have B9 : Below wz.heap.size wz W9:=by rw [hW9];exact bel1 _ _
        have HC9 : Hid (Calls Tryz.prog 30 #[.agg #[.slice na m nc],.slice (some ⟨wz.heap.size,0,none⟩) 1 1] W9 (MCanonPost W9 m 1 (mixG i H Lk q0) (fun _=>i))):=by
         have gm:=HGM.out
         rw [<- HMJ.out] at gm
         have I9 : IntsAt W9 (some ⟨wz.heap.size,0,none⟩) wz.heap.size 0 1 (fun _=>(i : Int)):=by
          have:=(one_ints wz (i : Int)).congr (D':=fun _=>(i : Int)) (fun x hx=>by
           have e : x = 0:=by omega
           subst e;rfl)
          rw [hW9];exact this
         exact m_canon na _ nc 1 1 _ 0 (fun _=>i) W9 gm.kids (by omega) (by omega) (fun x hx=>(gm.names x hx).1) gm.nk (fun x _=>by have:=HMJ.out;have:=HFQ.out.pos;omega) (NZ2.below B9) I9
        obtain ⟨_,_,bwz,RZ⟩:=HHC.out wz HBX.out
        have HB9 : Hid (Below w.heap.size w W9):=bwz.trans (B9.mono bwz.size)
        have HR9 : Hid (W9.rowIs (w.heap.size + 1) 29 1 (fun _=>.slice none 0 0)):=RZ.of_block (B9.block _ RZ.lt)
        have HFQ2 : Hid (FullQ H q0 j):=HFQ.out
        clear NZ NZ2 B9 bwz RZ
        go_wp2_with fail
        rw [<- hW9]
        clear hW9
        refine HC9.out.mono ?_
        intro e w9 hP
        have HP9 : Hid (MCanonPost W9 m 1 (mixG i H Lk q0) (fun _=>i) e w9):=hP
        obtain ⟨c2,r2,_,_,oz,bz,capz,qz,lz,lbz,lcz,rfl,_,iz,Bz⟩:=hP
        have elz:=iz.at_ (by omega)
        subst elz
        have d0 : w9.cell? ⟨lbz,0,none⟩ = _:=iz.cell 0 (by omega)
        obtain ⟨zz,hzz⟩ : ∃ zz,zz = numOf c2 (allTill (mixG i H Lk q0) c2 (m + 1) (fun _=>i) [] 1) i:=⟨_,rfl⟩
        rw [<- hzz] at d0
        obtain ⟨ll,hll⟩ : ∃ ll,ll = (allTill (mixG i H Lk q0) c2 (m + 1) (fun _=>i) [] 1).length:=⟨_,rfl⟩
        rw [<- hll] at HP9
        rw [<- hll]
        have hs9:=Bz.size
        have R9:=HR9.out.of_block (Bz.block _ HR9.out.lt)
        have hR9:=HR9.out.lt
        have lbz9 : lbz < w9.heap.size:=blt d0
        have hn1 : w9.heap.size ≠ w.heap.size + 1:=by omega
        have hn2 : lbz ≠ w.heap.size + 1:=box_cell R9 d0 (by simp)
        have HFIN : Hid (∀ t,MMixPost w N G a b up (.returned (.tuple #[.agg #[.slice oz ll capz],.int .i64 (zz : Int)])) (((w9.alloc (.cells #[.slice oz ll capz] 29)).drewN t).setCell ⟨w.heap.size + 1,0,none⟩ (.slice oz ll capz))):=fun t=>by
         have bA : Below w9.heap.size w9 ((w9.alloc (.cells #[.slice oz ll capz] 29)).drewN t):=below_drewN (bel1 _ _) _
         have RA : ((w9.alloc (.cells #[.slice oz ll capz] 29)).drewN t).rowIs (w.heap.size + 1) 29 1 (fun _=>.slice none 0 0):=R9.of_block (bA.block _ R9.lt)
         have mp:=mcanon_below HP9.out bA
         have bF : Below w.heap.size w ((w9.alloc (.cells #[.slice oz ll capz] 29)).drewN t):=(HB9.out.trans (Bz.mono HB9.out.size)).trans (bA.mono (by have:=HB9.out.size;omega))
         refine HPOST.out _ _ (bF.setCell (by show w.heap.size <= w.heap.size + 1;omega) _) (Or.inr ⟨j,HFQ2.out,w,ll,zz,oz,capz,some ⟨lbz,0,none⟩,lcz,?_,⟨lbz,rfl,?_⟩,rfl⟩)
         ·rw [<- HLK.out,<- HMJ.out]
          exact mcanon_set mp HB9.out RA (by omega) _
         ·exact (World.cell?_of_block (Below.heap_setCell _ _ _ _ hn2)).trans ((bA.cell (p:=⟨lbz,0,none⟩) lbz9).trans d0)
        have e0 : (w9.alloc (.cells #[.slice oz ll capz] 29)).cell? ⟨w9.heap.size,0,none⟩ = some (.slice oz ll capz):=(row1 _ _ _).cell (i:=0) (by omega)
        have e1 : (w9.alloc (.cells #[.slice oz ll capz] 29)).cell? ⟨lbz,0,none⟩ = some (.int .i64 (zz : Int)):=(World.cell?_of_block (Below.heap_alloc _ _ _ lbz9)).trans d0
        have g0 : ∀ t,((w9.alloc (.cells #[.slice oz ll capz] 29)).drewN t).cell? ⟨w.heap.size + 1,0,none⟩ = some (.slice none 0 0):=fun t=>(R9.alloc _).cell (i:=0) (by omega)
        have g1 : ∀ t,((w9.alloc (.cells #[.slice oz ll capz] 29)).drewN t).frozen? ⟨w.heap.size + 1,0,none⟩ = false:=fun t=>(R9.alloc _).frozen 0
        obtain ⟨WX,hWX⟩ : ∃ WX,WX = w9.alloc (.cells #[.slice oz ll capz] 29):=⟨_,rfl⟩
        rw [<- hWX] at g0 g1 e0 e1 HFIN
        have x0 : WX.cell? ⟨w.heap.size + 1,0,none⟩ = some (.slice none 0 0):=g0 0
        have x1 : WX.drew.cell? ⟨w.heap.size + 1,0,none⟩ = some (.slice none 0 0):=g0 1
        have v0 : WX.frozen? ⟨w.heap.size + 1,0,none⟩ = false:=g1 0
        have v1 : WX.drew.frozen? ⟨w.heap.size + 1,0,none⟩ = false:=g1 1
        have HS2 : Hid ((WX.drew.setCell ⟨w.heap.size + 1,0,none⟩ (.slice oz ll capz)).cell? ⟨w9.heap.size,0,none⟩ = some (.slice oz ll capz)):=(World.cell?_of_block (w:=WX.drew) (Below.heap_setCell WX.drew ⟨w.heap.size + 1,0,none⟩ (.slice oz ll capz) w9.heap.size hn1)).trans e0
        have HS3 : Hid ((WX.drew.setCell ⟨w.heap.size + 1,0,none⟩ (.slice oz ll capz)).cell? ⟨lbz,0,none⟩ = some (.int .i64 (zz : Int))):=(World.cell?_of_block (w:=WX.drew) (Below.heap_setCell WX.drew ⟨w.heap.size + 1,0,none⟩ (.slice oz ll capz) lbz hn2)).trans e1
        have HS0 : Hid ((WX.setCell ⟨w.heap.size + 1,0,none⟩ (.slice oz ll capz)).drew.cell? ⟨w9.heap.size,0,none⟩ = some (.slice oz ll capz)):=(World.cell?_of_block (w:=WX) (Below.heap_setCell WX ⟨w.heap.size + 1,0,none⟩ (.slice oz ll capz) w9.heap.size hn1)).trans e0
        have HS1 : Hid ((WX.setCell ⟨w.heap.size + 1,0,none⟩ (.slice oz ll capz)).drew.cell? ⟨lbz,0,none⟩ = some (.int .i64 (zz : Int))):=(World.cell?_of_block (w:=WX) (Below.heap_setCell WX ⟨w.heap.size + 1,0,none⟩ (.slice oz ll capz) lbz hn2)).trans e1
        clear iz Bz R9 hR9 d0 g0 g1 hzz hll lbz9
        go_wp2
        rw [<- hWX]
        clear hWX
        go_region_held3 (fun w'=>w'.cell? ⟨w9.heap.size,0,none⟩ = some (.slice oz ll capz) /\ w'.cell? ⟨lbz,0,none⟩ = some (.int .i64 (zz : Int))) (first | (exact ⟨HS2.out,HS3.out⟩) | (exact ⟨HS0.out,HS1.out⟩) | go_keep) (fail)
        all_goals
         go_wp2
         exact bodyPost_ret (v:=.tuple #[.agg #[.slice oz ll capz],.int .i64 (zz : Int)]) (by simp [results,Tryz.results38,go_sem,x0]) rfl (by first | exact HFIN.out 1 | exact HFIN.out 0 | exact HFIN.out _)
   have HQK : Hid ((qsTill H q0 k).getD k q0 = qAt H q0 k):=rfl
   obtain ⟨g,BQ,hg⟩:=own_bq HO.out HLN.out.symm q0
   have eaa:=BQ.at_ (by omega)
   subst eaa
   obtain ⟨c0,c1,c2⟩:=BQ.qn hlt rfl
   rw [HQK.out] at c0 c1 c2
   obtain ⟨hqa,hqb⟩:=HIN.out k
   obtain ⟨hc,NH,_,_⟩:=HHC.out wr HB.out
   have lk : (k : Int) < (ln : Int):=by omega
   have hml:=HML.out k
   have hgl:=hg (by omega)
   have HCM : Hid (∀ t,Calls Tryz.prog 60 #[.agg #[.slice (some ⟨b',0,none⟩) n cap],.agg #[.int .i64 ((qAt H q0 k).a : Int),.int .i64 ((qAt H q0 k).b : Int),.bool (qAt H q0 k).up]] (wr.drewN t) fun e w2=>∃ (kd : Int) (na : Option Addr) (l1 nc : Nat) (ka : Option Addr) (l2 kc kg : Nat),e = .returned (.tuple #[.int .i64 kd,.slice na l1 nc,.slice ka l2 kc]) /\ (w2.cell? ⟨w1.heap.size,0,none⟩ = some (.slice (some ⟨b',0,none⟩) n cap) /\ w2.cell? ⟨g,k * 3,none⟩ = some (.int .i64 ((qAt H q0 k).a : Int)) /\ w2.cell? ⟨g,k * 3 + 1,none⟩ = some (.int .i64 ((qAt H q0 k).b : Int)) /\ w2.cell? ⟨g,k * 3 + 2,none⟩ = some (.bool (qAt H q0 k).up)) /\
     Hid (l2 = (mixQ (H (qAt H q0 k).a) (H (qAt H q0 k).b) (qAt H q0 k).up).length) /\ Hid (BlAt w2 ka kg l2 (fun i=>(mixQ (H (qAt H q0 k).a) (H (qAt H q0 k).b) (qAt H q0 k).up).getD i (.ty 0)) /\ (0 < l2 -> wr.heap.size <= kg)) /\ Hid (Below wr.heap.size wr w2)):=fun t=>by
    have bt : Below wr.heap.size wr (wr.drewN t):=below_drewN' _ _
    refine (m_mixed (some ⟨b',0,none⟩) cap (qAt H q0 k) (wr.drewN t) (NH.below bt) hqa hqb (HSQ.out _ hqa) (HSQ.out _ hqb)).mono ?_
    rintro e w2 ⟨na,nc,ka,kc,rfl,o1,o2,b2⟩
    have b2' : Below wr.heap.size wr w2:=bt.trans b2
    obtain ⟨kg,BK,hkg⟩:=own_bl o2 rfl (.ty 0)
    exact ⟨_,na,_,nc,ka,_,kc,kg,rfl,⟨(b2'.cell (p:=⟨w1.heap.size,0,none⟩) (blt hc)).trans hc,(b2'.cell (p:=⟨g,k * 3,none⟩) hgl.2.1).trans c0,(b2'.cell (p:=⟨g,k * 3 + 1,none⟩) hgl.2.1).trans c1,(b2'.cell (p:=⟨g,k * 3 + 2,none⟩) hgl.2.1).trans c2⟩,rfl,⟨BK,fun z=>(hkg z).1⟩,b2'⟩
   obtain ⟨qk,hqk⟩ : ∃ z,z = qAt H q0 k:=⟨_,rfl⟩
   have HQE : Hid (qk = qAt H q0 k):=hqk
   rw [<- hqk] at HCM c0 c1 c2 hqa hqb hml
   clear hqk HQK BQ NH
   go_wp2
   go_cut [16] (fun s16 w2=>∃ (ka : Option Addr) (l2 kc kg : Nat),s16 = .slice ka l2 kc /\ Hid (l2 = (mixQ (H qk.a) (H qk.b) qk.up).length) /\ l2 <= 1048576 /\ Hid (BlAt w2 ka kg l2 (fun i=>(mixQ (H qk.a) (H qk.b) qk.up).getD i (.ty 0)) /\ (0 < l2 -> wr.heap.size <= kg)) /\ Hid (Below wr.heap.size wr w2))
   case first=>
    go_region_held3 (fun w'=>w'.cell? ⟨w1.heap.size,0,none⟩ = some (.slice (some ⟨b',0,none⟩) n cap) /\ w'.cell? ⟨g,k * 3,none⟩ = some (.int .i64 (qk.a : Int)) /\ w'.cell? ⟨g,k * 3 + 1,none⟩ = some (.int .i64 (qk.b : Int)) /\ w'.cell? ⟨g,k * 3 + 2,none⟩ = some (.bool qk.up)) (go_keep)
     (first
      | (go_at_call 60;refine (HCM.out _).mono ?_;rintro e w2 ⟨kd,na,l1,nc,ka,l2,kc,kg,rfl,⟨s0,s1,s2,s3⟩,HL2,HBK,HB2⟩))
    all_goals
     go_wp2
     go_meet
     case rel=>exact ⟨ka,l2,kc,kg,rfl,HL2,by rw [HL2.out];exact hml,HBK,HB2⟩
   case rest=>
    rename World=>w2
    obtain ⟨ka,l2,kc,kg,rfl,HL2,hl2,HBK,HB2⟩:=hcut
    clear HCM c0 c1 c2 hc
    have hs2:=HB2.out.size
    have HO2 : Hid (w2.ownsRow WA.heap.size 81 3 (.slice (some ⟨g,0,none⟩) ln ac) ln (kcells ((qsPart H q0 k 0).map Kq.qn))):=by
     rw [qsPart_zero]
     exact own_block HO.out (fun j e=>HB2.out.block j (HO.out.lt j e.symm).2)
    have HLN2 : Hid (ln = (qsPart H q0 k 0).length):=by show _ = _;rw [qsPart_zero];exact HLN.out
    have HGR0 : Hid (w2.grownBy w2 (Value.slice (some ⟨g,0,none⟩) ln ac).ownBlock /\ ((Value.slice (some ⟨g,0,none⟩) ln ac).ownBlock = (Value.slice (some ⟨g,0,none⟩) ln ac).ownBlock \/ ∀ k,(Value.slice (some ⟨g,0,none⟩) ln ac).ownBlock = some k -> w2.heap.size <= k)):=⟨⟨rfl,rfl,rfl,Nat.le_refl _,fun _ _ _=>rfl⟩,Or.inl rfl⟩
    have HGA : Hid (∀ j,(Value.slice (some ⟨g,0,none⟩) ln ac).ownBlock = some j -> WA.heap.size <= j):=fun j e=>(HO.out.lt j e).1
    have HBA2 : Hid (Below WA.heap.size WA w2):=HB.out.trans (HB2.out.mono HB.out.size)
    go_wp2
    go_loopw [12,17] (fun s12 s17 wx=>∃ (j l : Nat) (aa : Option Addr) (ac' : Nat),s12 = .slice aa l ac' /\ s17 = .int .i64 j /\ j <= l2 /\ Hid (l = (qsPart H q0 k j).length) /\ l <= ln + j /\ Hid (wx.ownsRow WA.heap.size 81 3 (.slice aa l ac') l (kcells ((qsPart H q0 k j).map Kq.qn))) /\ Hid (w2.grownBy wx (Value.slice (some ⟨g,0,none⟩) ln ac).ownBlock /\ ((Value.slice aa l ac').ownBlock = (Value.slice (some ⟨g,0,none⟩) ln ac).ownBlock \/ ∀ k,(Value.slice aa l ac').ownBlock = some k -> w2.heap.size <= k))) (fun _ s17 _=>l2 - (intOf s17).toNat)
    case atStart=>exact ⟨0,ln,_,_,rfl,rfl,Nat.zero_le _,HLN2,by omega,HO2,HGR0.out.1,Or.inl rfl⟩
    case round=>
     rename World=>wx
     obtain ⟨j,l,aa,ac',rfl,rfl,hj,HLX,hlx,HOX,HGR⟩:=hrel
     clear HO2 HLN2 HGR0
     have HBX : Hid (Below WA.heap.size WA wx):=grown_below HGR.out.1 HBA2.out HGA.out (by have:=HB.out.size;omega)
     have hxs:=HBX.out.size
     by_cases hjl : j < l2
     case neg=>
      have HEND : Hid (qsPart H q0 k j = qsTill H q0 (k + 1)):=by
       have e : j = (mixQ (H (qAt H q0 k).a) (H (qAt H q0 k).b) (qAt H q0 k).up).length:=by have:=HL2.out;rw [HQE.out] at this;omega
       show _ = _
       rw [e];exact qsPart_end H q0 k
      have lj : ¬ (j : Int) < (l2 : Int):=by omega
      have HI2 : Hid ((∀ i,i < k + 1 -> i < (qsTill H q0 i).length) /\ ∀ i,i < k + 1 -> (qsTill H q0 i).length <= 1000):=⟨fun i hi=>by
       by_cases e : i = k
       ·subst e;rw [<- HLN.out];exact hlt
       ·exact HI.out.1 i (by omega),fun i hi=>HI.out.2 i (by omega)⟩
      by_cases hov : 1000 < l
      ·have lov : (1000 : Int) < (l : Int):=by omega
       obtain ⟨_,_,bw,RX⟩:=HHC.out wx HBX.out
       have hxl:=RX.lt
       have HF : Hid (MMixPost w N G a b up (.returned (.tuple #[.agg #[.slice (some ⟨wx.heap.size,0,none⟩) 1 1],.int .i64 0])) ((wx.alloc (.cells #[.int .i64 0,.slice none 0 0,.slice none 0 0] 48)).setCell ⟨w.heap.size + 1,0,none⟩ (.slice (some ⟨wx.heap.size,0,none⟩) 1 1))):=
        HPOST.out _ _ ((bw.alloc bw.size _).setCell (by show w.heap.size <= w.heap.size + 1;omega) _) (Or.inl ⟨k + 1,⟨HI2.out.2,HI2.out.1,by rw [<- HEND.out,<- HLX.out];exact hov⟩,wx.heap.size,rfl,any_nodes wx (w.heap.size + 1) hxl _⟩)
       have g0:=(RX.alloc (.cells #[.int .i64 0,.slice none 0 0,.slice none 0 0] 48)).cell (i:=0) (by omega)
       have g1:=(RX.alloc (.cells #[.int .i64 0,.slice none 0 0,.slice none 0 0] 48)).frozen 0
       clear RX bw hxl
       go_wp2
       exact bodyPost_ret (v:=.tuple #[.agg #[.slice (some ⟨wx.heap.size,0,none⟩) 1 1],.int .i64 0]) (by simp [results,Tryz.results38,go_sem,g0]) rfl HF.out
      ·have lov : ¬ (1000 : Int) < (l : Int):=by omega
       have HLX2 : Hid (l = (qsTill H q0 (k + 1)).length):=by show _ = _;rw [<- HEND.out];exact HLX.out
       have HOX2 : Hid (wx.ownsRow WA.heap.size 81 3 (.slice aa l ac') l (kcells ((qsTill H q0 (k + 1)).map Kq.qn))):=by rw [<- HEND.out];exact HOX.out
       have HI3 : Hid ((∀ i,i < k + 1 -> i < (qsTill H q0 i).length) /\ ∀ i,i <= k + 1 -> (qsTill H q0 i).length <= 1000):=⟨HI2.out.1,fun i hi=>by
        by_cases e : i = k + 1
        ·rw [e,<- HLX2.out];omega
        ·exact HI2.out.2 i (by omega)⟩
       clear HO HGR HOX HBK
       go_wp2
       go_roundw
       case rel=>exact ⟨k + 1,l,aa,ac',rfl,by go_num,by omega,HLX2,by omega,HOX2,HBX,HI3⟩
       case measure=>simp [intOf];omega
     have lj : (j : Int) < (l2 : Int):=by omega
     have BK : BlAt wx ka kg l2 (fun i=>(mixQ (H qk.a) (H qk.b) qk.up).getD i (.ty 0)):=HBK.out.1.grown HGR.out.1 (fun z e=>by
      have:=HBK.out.2 z
      have e2 : kg = g:=by simpa [Value.ownBlock] using e
      omega)
     have eka:=BK.at_ (by omega)
     subst eka
     have HSC : Hid (qsPart H q0 k (j + 1) = addQ (qsPart H q0 k j) ((mixQ (H qk.a) (H qk.b) qk.up).getD j (.ty 0))):=by
      show _ = _
      rw [HQE.out]
      exact qsPart_succ (by have:=HL2.out;rw [HQE.out] at this;omega) _
     cases hkj : (mixQ (H qk.a) (H qk.b) qk.up).getD j (.ty 0) with
     | ty x=>
       obtain ⟨d0,d1,d2⟩:=BK.ty hjl hkj
       have HSC2 : Hid (qsPart H q0 k (j + 1) = qsPart H q0 k j):=by have:=HSC.out;rw [hkj] at this;exact this
       clear BK hkj HSC
       go_wp2
       go_roundw
       case rel=>exact ⟨j + 1,l,aa,ac',rfl,by go_num,by omega,by rw [HSC2.out];exact HLX,by omega,by rw [HSC2.out];exact HOX,HGR⟩
       case measure=>simp [intOf];omega
     | qn q=>
       obtain ⟨d0,d1,d2⟩:=BK.qn hjl hkj
       have HSC2 : Hid (qsPart H q0 k (j + 1) = addQ (qsPart H q0 k j) (.qn q)):=by have:=HSC.out;rw [hkj] at this;exact this
       obtain ⟨L,hL⟩ : ∃ L,L = qsPart H q0 k j:=⟨_,rfl⟩
       rw [<- hL] at HSC2 HLX HOX
       have HLE : Hid (L = qsPart H q0 k j):=hL
       clear hL HSC hkj
       obtain ⟨g2,BL,_⟩:=own_bq HOX.out HLX.out.symm q
       have HCB : Hid (Calls Tryz.prog 61 #[.slice aa l ac',.agg #[.int .i64 (q.a : Int),.int .i64 (q.b : Int),.bool q.up]] wx fun e w'=>e = .returned (.int .i64 (plQ L q)) /\ Below wx.heap.size wx w'):=m_blend aa g2 l ac' L q wx BL HLX.out.symm
       have nb : ¬ (q.b : Int) < 0:=by omega
       have nb2 : (0 : Int) <= (q.b : Int):=by omega
       have kgl : kg < wx.heap.size:=blt d0
       clear BK BL
       go_wp2_with fail
       refine HCB.out.mono ?_
       rintro e wy ⟨rfl,by1⟩
       have e0:=(by1.cell (p:=⟨kg,j * 3,none⟩) kgl).trans d0
       have e1:=(by1.cell (p:=⟨kg,j * 3 + 1,none⟩) kgl).trans d1
       have e2:=(by1.cell (p:=⟨kg,j * 3 + 2,none⟩) kgl).trans d2
       have HOY : Hid (wy.ownsRow WA.heap.size 81 3 (.slice aa l ac') l (kcells (L.map Kq.qn))):=own_block HOX.out (fun j e=>by1.block j (HOX.out.lt j e.symm).2)
       have HGY : Hid (w2.grownBy wy (Value.slice (some ⟨g,0,none⟩) ln ac).ownBlock /\ ((Value.slice aa l ac').ownBlock = (Value.slice (some ⟨g,0,none⟩) ln ac).ownBlock \/ ∀ k,(Value.slice aa l ac').ownBlock = some k -> w2.heap.size <= k)):=⟨⟨by1.os.trans HGR.out.1.os,by1.tape.trans HGR.out.1.tape,by1.output.trans HGR.out.1.output,by have:=HGR.out.1.size;have:=by1.size;omega,fun i hi hn=>(by1.block i (by have:=HGR.out.1.size;omega)).trans (HGR.out.1.block i hi hn)⟩,HGR.out.2⟩
       have HBY : Hid (Below wx.heap.size wx wy):=by1
       have hys:=by1.size
       clear d0 d1 d2 by1
       by_cases hm : q ∈ L
       ·rw [plQ_in hm]
        have HSC3 : Hid (qsPart H q0 k (j + 1) = L):=by have h9:=HSC2.out;rw [h9];show (if q ∈ L then L else L ++ [q]) = L;rw [if_pos hm]
        obtain ⟨t,ht⟩ : ∃ t,t = L.idxOf q:=⟨_,rfl⟩
        rw [<- ht]
        have nt : ¬ (t : Int) < 0:=by omega
        clear ht hm HSC2
        go_wp2
        go_roundw
        case rel=>exact ⟨j + 1,l,aa,ac',rfl,by go_num,by omega,by rw [HSC3.out];exact HLX,by omega,by rw [HSC3.out];exact HOY,HGY⟩
        case measure=>simp [intOf];omega
       ·rw [plQ_out hm]
        have HSC3 : Hid (qsPart H q0 k (j + 1) = L ++ [q]):=by have h9:=HSC2.out;rw [h9];show (if q ∈ L then L else L ++ [q]) = _;rw [if_neg hm]
        clear hm HSC2
        go_wp2_with (first
         | (at_builtin;go_loud (refine wpList_append_lies _ rfl _ _ 82 rfl WA.heap.size 81 i8 _ 3 24 Tryz.underlying82 ht0 ht1 ht2 ht3 rfl (by omega) (.slice aa l ac') l (kcells (L.map Kq.qn)) rfl (by exact HOY.out.alloc _) ⟨wy.heap.size,0,none⟩ 1 1 [.int .i64 (q.a : Int),.int .i64 (q.b : Int),.bool q.up] rfl rfl (World.news_of_block (cs:=#[.int .i64 (q.a : Int),.int .i64 (q.b : Int),.bool q.up]) (t:=81) (fr:=(0,0)) (heap_alloc_new wy _)) (by simp [Value.oneCell']) (by omega) (by unfold maxLen;omega) (by omega) (by first | omega | (simp;omega)) (wy.heap.size + 1) (by first | rfl | simp) ?_);intro gg cap8 w8 hown8 hg8 hat8 hlt8))
        have HG8:=grown_more HGR.out.1 HBY.out HGR.out.2 hg8 (v':=.slice (some ⟨gg,0,none⟩) (l + 1) cap8) rfl hat8 (Nat.le_succ _)
        have HG9 : Hid _:=HG8
        have HO8 : Hid (w8.ownsRow WA.heap.size 81 3 (.slice (some ⟨gg,0,none⟩) (l + 1) cap8) (l + 1) (kcells ((L ++ [q]).map Kq.qn))):=by rw [kcells_snoc];exact hown8
        have HL8 : Hid (l + 1 = (L ++ [q]).length):=by show _ = _;rw [List.length_append,<- HLX.out];rfl
        clear HG8 hown8 hg8 hat8 HOY HGY
        go_wp2
        go_roundw
        case rel=>exact ⟨j + 1,l + 1,_,_,rfl,by go_num,by omega,by rw [HSC3.out];exact HL8,by omega,by rw [HSC3.out];exact HO8,HG9⟩
        case measure=>simp [intOf];omega
end Go.Proofs.YtpbpbppimkeodaaGreatDoor
