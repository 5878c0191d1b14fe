/-
  PgT
-/
import Derived.Test.YtcehppndpccldaaGreatDoorX2
set_option maxHeartbeats 8000000
set_option maxRecDepth 100000
namespace Go.Proofs.YtcehppndpccldaaGreatDoor
open Go.RowKit
structure XW (w W : World) : Prop where
 below : Bw w W
 box : W.rowIs w.heap.size 77 2 (v2 (.slice none 0 0) (.int .i64 0))
theorem XW.on {w W W1 : World} (h : XW w W) (hb : Bw W W1) : XW w W1:=⟨h.below.trans (hb.mono h.below.size),h.box.of_block (hb.block _ h.box.lt)⟩
theorem XW.start (w : World) : XW w (bxE w):=⟨bel1 _ _,row2 w _ _ _⟩
structure XB (w : World) (L : Nat) (va : Option Addr) (n c j : Nat) (zs : List (EI × EPl)) (W : World) : Prop where
 row : W.rowIs L 77 2 (v2 (.slice va n c) (.int .i64 (j : Int)))
 lb : w.heap.size < L
 items : RE (w.heap.size + 1) W (.slice va n c) zs
theorem XB.on {w W W1 : World} {L n c j : Nat} {va : Option Addr} {zs : List (EI × EPl)} (h : XB w L va n c j zs W) (hb : Bw W W1) : XB w L va n c j zs W1:=⟨h.row.of_block (hb.block _ h.row.lt),h.lb,h.items.below hb⟩
theorem XB.new {w W : World} (h : XW w W) {n c j : Nat} {va : Option Addr} {zs : List (EI × EPl)} (hr : RE (w.heap.size + 1) W (.slice va n c) zs) : XB w W.heap.size va n c j zs (W.alloc (.cells #[.slice va n c,.int .i64 (j : Int)] 77)):=⟨row2 W _ _ _,h.box.lt,hr.below (bel1 _ _)⟩
theorem mx_fun {tb o c : Nat} {ao : Option Addr} {ts : List TK} {f : Nat} (IH : MEC tb o ts f) (w : World) (h : MS w tb o ao ts) {i : Nat} (hf : ts.length - i < f + 1) (hs : isT ts i sFun = true) :
  Calls Tryz.prog 50 #[.slice ao ts.length c,.int .i64 (i : Int)] w (MER w (exP false ts (f + 1) i)):=by
 obtain ⟨i0,hi0,hz0,hz1,hz2⟩:=info_parts Tryz.infoEI
 have hi:=isT_lt hs
 have hln:=h.tk.len
 have HR0 : Hid (exP false ts (f + 1) i = funP false ts (exP false ts f) (i + 1)):=by
  show _ = _
  rw [exP,if_pos hs]
 have e:=h.at_ (by omega)
 subst e
 have HMW : Hid (∀ W,Bw w W -> MS W tb o (some ⟨tb,o,none⟩) ts):=fun W hb=>h.below hb
 have HMS : Hid (MS (bxE w) tb o (some ⟨tb,o,none⟩) ts):=h.below (bel1 _ _)
 have HX0 : Hid (XW w (bxE w)):=XW.start w
 have HIH : Hid (MEC tb o ts f):=IH
 have HF : Hid (ts.length - i < f + 1):=hf
 have HFE : Hid (Far ts.length (exP false ts f)):=ex_far f
 have HFT : Hid (Far ts.length (tyP false ts (ts.length + 1))):=ty_far _
 have wi1 : IntKind.i64.wrap ((i : Int) + 1) = (i : Int) + 1:=wk (by omega)
 have wi2 : IntKind.i64.wrap ((i : Int) + 2) = (i : Int) + 2:=wk (by omega)
 have wi3 : IntKind.i64.wrap ((i : Int) + 3) = (i : Int) + 3:=wk (by omega)
 have wi4 : IntKind.i64.wrap ((i : Int) + 4) = (i : Int) + 4:=wk (by omega)
 have HTB : Hid (tb < w.heap.size):=blt (h.tk.c1 i hi)
 clear h IH hf
 go_enter Tryz.func50,Tryz.ntmps50
 go_wp2_with fail
 refine (m_isb HMS.out (i:=i) (rfl) (l:=sFun) hs rfl (by decide)).mono ?_
 rintro e w' ⟨rfl,rfl⟩
 cases a1 : isT ts (i + 1) sLeft
 case false=>
  have HNO : Hid (exP false ts (f + 1) i = none):=by show _ = _;rw [HR0.out];unfold funP;rw [a1];rfl
  go_wp2_with fail
  refine (m_isb HMS.out (i:=i + 1) (by omega) (l:=sLeft) a1 rfl (by decide)).mono ?_
  rintro e w' ⟨rfl,rfl⟩
  go_wp2_with fail
  refine (m_noExpr _).mono ?_
  rintro e wN ⟨⟨vaN,nN,cN,rfl⟩,hbN⟩
  have XN:=HX0.out.on hbN.out
  have HXN : Hid (XW w wN):=XN
  have d0:=XN.box.cell (i:=0) (by omega)
  have d1:=XN.box.cell (i:=1) (by omega)
  have z0:=XN.box.frozen 0
  have z1:=XN.box.frozen 1
  clear XN hbN
  go_wp2
  have RX:=(HXN.out.box.set 0 (.slice vaN nN cN)).set 1 (.int .i64 (-1))
  refine bodyPost_ret (ret_ex (k:=4) rfl (RX.cell (i:=0) (by omega)) (RX.cell (i:=1) (by omega)) _ rfl) rfl ?_
  rw [HNO.out]
  exact ⟨below_box HXN.out.below _ _,vaN,nN,cN,rfl⟩
 go_wp2_with fail
 refine (m_isb HMS.out (i:=i + 1) (by omega) (l:=sLeft) a1 rfl (by decide)).mono ?_
 rintro e w' ⟨rfl,rfl⟩
 cases a2 : isC ts (i + 1 + 1) 1
 case false=>
  have HNO : Hid (exP false ts (f + 1) i = none):=by show _ = _;rw [HR0.out];unfold funP;rw [a1,a2];rfl
  go_wp2_with fail
  refine (m_isN HMS.out (i:=i + 1 + 1) (by omega) a2).mono ?_
  rintro e w' ⟨rfl,rfl⟩
  go_wp2_with fail
  refine (m_noExpr _).mono ?_
  rintro e wN ⟨⟨vaN,nN,cN,rfl⟩,hbN⟩
  have XN:=HX0.out.on hbN.out
  have HXN : Hid (XW w wN):=XN
  have d0:=XN.box.cell (i:=0) (by omega)
  have d1:=XN.box.cell (i:=1) (by omega)
  have z0:=XN.box.frozen 0
  have z1:=XN.box.frozen 1
  clear XN hbN
  go_wp2
  have RX:=(HXN.out.box.set 0 (.slice vaN nN cN)).set 1 (.int .i64 (-1))
  refine bodyPost_ret (ret_ex (k:=4) rfl (RX.cell (i:=0) (by omega)) (RX.cell (i:=1) (by omega)) _ rfl) rfl ?_
  rw [HNO.out]
  exact ⟨below_box HXN.out.below _ _,vaN,nN,cN,rfl⟩
 go_wp2_with fail
 refine (m_isN HMS.out (i:=i + 1 + 1) (by omega) a2).mono ?_
 rintro e w' ⟨rfl,rfl⟩
 have hq:=isC_lt a2
 cases a3 : isT ts (i + 1 + 2) sColon
 case false=>
  have HNO : Hid (exP false ts (f + 1) i = none):=by show _ = _;rw [HR0.out];unfold funP;rw [a1,a2,a3];rfl
  go_wp2_with fail
  refine (m_isb HMS.out (i:=i + 1 + 2) (by omega) (l:=sColon) a3 rfl (by decide)).mono ?_
  rintro e w' ⟨rfl,rfl⟩
  go_wp2_with fail
  refine (m_noExpr _).mono ?_
  rintro e wN ⟨⟨vaN,nN,cN,rfl⟩,hbN⟩
  have XN:=HX0.out.on hbN.out
  have HXN : Hid (XW w wN):=XN
  have d0:=XN.box.cell (i:=0) (by omega)
  have d1:=XN.box.cell (i:=1) (by omega)
  have z0:=XN.box.frozen 0
  have z1:=XN.box.frozen 1
  clear XN hbN
  go_wp2
  have RX:=(HXN.out.box.set 0 (.slice vaN nN cN)).set 1 (.int .i64 (-1))
  refine bodyPost_ret (ret_ex (k:=4) rfl (RX.cell (i:=0) (by omega)) (RX.cell (i:=1) (by omega)) _ rfl) rfl ?_
  rw [HNO.out]
  exact ⟨below_box HXN.out.below _ _,vaN,nN,cN,rfl⟩
 go_wp2_with fail
 refine (m_isb HMS.out (i:=i + 1 + 2) (by omega) (l:=sColon) a3 rfl (by decide)).mono ?_
 rintro e w' ⟨rfl,rfl⟩
 have HR1 : Hid (exP false ts (f + 1) i = match tyP false ts (ts.length + 1) (i + 1 + 3) with
  | none=>none
  | some (t,j)=>if isT ts j sRight then (match exP false ts f (j + 1) with | none=>none | some (b,k)=>some (b ++ [⟨6,0,e0,tx ts (i + 1 + 1),[],t⟩],k)) else none):=by
  show _ = _
  rw [HR0.out]
  unfold funP
  rw [a1,a2,a3,if_pos (show (true && true && true) = true from rfl)]
  cases tyP false ts (ts.length + 1) (i + 1 + 3) with
  | none=>rfl
  | some z=>rfl
 have hi3:=isT_lt a3
 have CT : Hid (Calls Tryz.prog 49 #[.slice (some ⟨tb,o,none⟩) ts.length c,.int .i64 ((i : Int) + 4)] (bxE w) (MTR (bxE w) (tyP false ts (ts.length + 1) (i + 1 + 3)))):=m_type _ _ _ _ _ _ HMS.out (by omega) (by omega) (by omega)
 clear a1 a3
 go_wp2_with fail
 refine CT.out.mono ?_
 rintro e w2 ⟨hb2,hr2⟩
 have HX2 : Hid (XW w w2):=HX0.out.on hb2
 cases ht : tyP false ts (ts.length + 1) (i + 1 + 3) with
 | none=>
   rw [ht] at hr2
   obtain ⟨va,n,c',rfl⟩:=hr2
   have HNO : Hid (exP false ts (f + 1) i = none):=by show _ = _;rw [HR1.out,ht]
   have HX3 : Hid (XW w (w2.alloc (.cells #[.slice va n c',.int .i64 (-1)] 74))):=HX2.out.on (bel1 _ _)
   clear ht hb2
   go_wp2_with fail
   refine (m_noExpr _).mono ?_
   rintro e wN ⟨⟨vaN,nN,cN,rfl⟩,hbN⟩
   have XN:=HX3.out.on hbN.out
   have HXN : Hid (XW w wN):=XN
   have d0:=XN.box.cell (i:=0) (by omega)
   have d1:=XN.box.cell (i:=1) (by omega)
   have z0:=XN.box.frozen 0
   have z1:=XN.box.frozen 1
   clear XN hbN
   go_wp2
   have RX:=(HXN.out.box.set 0 (.slice vaN nN cN)).set 1 (.int .i64 (-1))
   refine bodyPost_ret (ret_ex (k:=4) rfl (RX.cell (i:=0) (by omega)) (RX.cell (i:=1) (by omega)) _ rfl) rfl ?_
   rw [HNO.out]
   exact ⟨below_box HXN.out.below _ _,vaN,nN,cN,rfl⟩
 | some z=>
   obtain ⟨tl,j⟩:=z
   rw [ht] at hr2
   obtain ⟨tva,tn,tc,k,us,rfl,rfl,hrt,hus⟩:=hr2
   obtain ⟨far1,far2,far3⟩:=HFT.out _ _ _ ht
   have hj0 : ¬ (j : Int) < 0:=by omega
   have HX3 : Hid (XW w (w2.alloc (.cells #[.slice tva tn tc,.int .i64 (j : Int)] 74))):=HX2.out.on (bel1 _ _)
   have HM3 : Hid (MS (w2.alloc (.cells #[.slice tva tn tc,.int .i64 (j : Int)] 74)) tb o (some ⟨tb,o,none⟩) ts):=HMW.out _ HX3.out.below
   have HRT : Hid (RT (w.heap.size + 1) w2 (.slice tva tn tc) us):=hrt.mono (by simp)
   have HUS : Hid (us.map Prod.fst = tl):=hus
   cases ar : isT ts j sRight with
   | false=>
     have HNO : Hid (exP false ts (f + 1) i = none):=by show _ = _;rw [HR1.out,ht];show (if isT ts j sRight = true then _ else none) = _;rw [ar];rfl
     clear ht hb2 hrt hus
     go_wp2_with fail
     refine (m_isb HM3.out (i:=j) (rfl) (l:=sRight) ar rfl (by decide)).mono ?_
     rintro e w' ⟨rfl,rfl⟩
     go_wp2_with fail
     refine (m_noExpr _).mono ?_
     rintro e wN ⟨⟨vaN,nN,cN,rfl⟩,hbN⟩
     have XN:=HX3.out.on hbN.out
     have HXN : Hid (XW w wN):=XN
     have d0:=XN.box.cell (i:=0) (by omega)
     have d1:=XN.box.cell (i:=1) (by omega)
     have z0:=XN.box.frozen 0
     have z1:=XN.box.frozen 1
     clear XN hbN
     go_wp2
     have RX:=(HXN.out.box.set 0 (.slice vaN nN cN)).set 1 (.int .i64 (-1))
     refine bodyPost_ret (ret_ex (k:=4) rfl (RX.cell (i:=0) (by omega)) (RX.cell (i:=1) (by omega)) _ rfl) rfl ?_
     rw [HNO.out]
     exact ⟨below_box HXN.out.below _ _,vaN,nN,cN,rfl⟩
   | true=>
     have hjr:=isT_lt ar
     have HR2 : Hid (exP false ts (f + 1) i = match exP false ts f (j + 1) with | none=>none | some (b,k)=>some (b ++ [⟨6,0,e0,tx ts (i + 1 + 1),[],tl⟩],k)):=by show _ = _;rw [HR1.out,ht];show (if isT ts j sRight = true then _ else none) = _;rw [ar,if_pos rfl]
     have CE : Hid (Calls Tryz.prog 50 #[.slice (some ⟨tb,o,none⟩) ts.length c,.int .i64 ((j : Int) + 1)] (w2.alloc (.cells #[.slice tva tn tc,.int .i64 (j : Int)] 74)) (MER (w2.alloc (.cells #[.slice tva tn tc,.int .i64 (j : Int)] 74)) (exP false ts f (j + 1)))):=HIH.out _ _ _ _ _ HM3.out (by omega) (by have:=HF.out;omega) (by omega)
     clear ht hb2 hrt hus
     go_wp2_with fail
     refine (m_isb HM3.out (i:=j) (rfl) (l:=sRight) ar rfl (by decide)).mono ?_
     rintro e w' ⟨rfl,rfl⟩
     go_wp2_with fail
     refine CE.out.mono ?_
     rintro e w4 ⟨hb4,hr4⟩
     have HX4 : Hid (XW w w4):=HX3.out.on hb4
     have HT4 : Hid (RT (w.heap.size + 1) w4 (.slice tva tn tc) us):=(HRT.out.below (bel1 _ _)).below hb4
     have TB:=(row2 w2 (.slice tva tn tc) (.int .i64 (j : Int)) 74).of_block (hb4.block _ (by simp))
     have t0 : w4.cell? ⟨w2.heap.size,0,none⟩ = some (.slice tva tn tc):=TB.cell (i:=0) (by omega)
     cases he : exP false ts f (j + 1) with
     | none=>
       rw [he] at hr4
       obtain ⟨va',n',c'',rfl⟩:=hr4
       have HNO : Hid (exP false ts (f + 1) i = none):=by show _ = _;rw [HR2.out,he]
       clear he hb4 TB
       have R7:=HX4.out.box.alloc (.cells #[Value.slice va' n' c'',.int .i64 (-1)] 77)
       have x0':=R7.cell (i:=0) (by omega)
       have x1':=R7.cell (i:=1) (by omega)
       have y0':=R7.frozen 0
       have y1':=R7.frozen 1
       have R8:=(HX4.out.box.set 0 (Value.slice va' n' c'')).alloc (.cells #[Value.slice va' n' c'',.int .i64 (-1)] 77)
       have x0'':=R8.cell (i:=0) (by omega)
       have x1'':=R8.cell (i:=1) (by omega)
       have y0'':=R8.frozen 0
       have y1'':=R8.frozen 1
       have R9:=((HX4.out.box.set 0 (Value.slice va' n' c'')).set 1 (.int .i64 (-1))).alloc (.cells #[Value.slice va' n' c'',.int .i64 (-1)] 77)
       have xlt6:=HX4.out.box.lt
       clear R7 R8
       go_wp2
       refine bodyPost_ret (ret_ex (k:=4) rfl (R9.cell (i:=0) (by omega)) (R9.cell (i:=1) (by omega)) _ rfl) rfl ?_
       rw [HNO.out]
       exact ⟨(below_box HX4.out.below _ _).alloc (below_box HX4.out.below _ _).size _,va',n',c'',rfl⟩
     | some z=>
       obtain ⟨l2,k⟩:=z
       rw [he] at hr4
       obtain ⟨va',n',c'',k',ys,rfl,rfl,hre,hys⟩:=hr4
       obtain ⟨far4,far5,far6⟩:=HFE.out _ _ _ he
       have en:=own_len hre.own
       have hyl : ys.length = l2.length:=by rw [<- hys,List.length_map]
       obtain ⟨N,hN⟩:=xe (ys.length)
       have hNb : N <= 2000:=by omega
       rw [<- hN] at en
       have en:=en.symm
       subst en
       have HN : Hid (N = ys.length):=hN
       have hk0 : ¬ (k : Int) < 0:=by omega
       obtain ⟨tt,htt⟩:=xe (tx ts (i + 1 + 1))
       have HYES : Hid (exP false ts (f + 1) i = some (l2 ++ [⟨6,0,e0,tt,[],tl⟩],k)):=by show _ = _;rw [HR2.out,he,htt]
       have HYS : Hid (ys.map Prod.fst = l2):=hys
       have HM4:=HMW.out _ HX4.out.below
       have ct:=HM4.tk.c1 (i + 1 + 1) hq
       rw [<- tx_at hq,<- htt] at ct
       have ct : w4.cell? ⟨tb,o + ((i : Int) + 2).toNat * 3 + 1,none⟩ = some (.string tt):=by rw [show ((i : Int) + 2).toNat = i + 1 + 1 by omega];exact ct
       have hq1 : (i : Int) + 2 < (ts.length : Int):=by omega
       have hq0 : (0 : Int) <= (i : Int) + 2:=by omega
       have hws4:=HX4.out.below.size
       have hxl4:=HX4.out.box.lt
       have hwl4 : w2.heap.size + 1 <= w4.heap.size:=by have:=hb4.size;simp at this;omega
       have HE4 : Hid (RE (w.heap.size + 1) w4 (.slice va' N c'') ys):=hre.mono (by simp;have:=HX2.out.box.lt;omega)
       obtain ⟨W,hW⟩:=xe (w4.alloc (.cells #[.slice va' N c'',.int .i64 (k : Int)] 77))
       have BW : Bw w4 W:=by rw [hW];exact bel1 _ _
       have hWs : W.heap.size = w4.heap.size + 1:=by rw [hW];simp
       have hWs1 : w4.heap.size + 1 <= W.heap.size:=by omega
       have BR : W.rowIs w4.heap.size 77 2 (v2 (.slice va' N c'') (.int .i64 (k : Int))):=by rw [hW];exact row2 w4 _ _ _
       have HBR : Hid (W.rowIs w4.heap.size 77 2 (v2 (.slice va' N c'') (.int .i64 (k : Int)))):=BR
       have HXW : Hid (XW w W):=HX4.out.on BW
       have HOW : Hid (W.ownsRow (w.heap.size + 1) 70 6 (.slice va' N c'') N (eisC ys)):=by have:=(HE4.out.below BW).own;rw [<- hN] at this;exact this
       have HEW : Hid (RE (w.heap.size + 1) W (.slice va' N c'') ys):=HE4.out.below BW
       have HTW : Hid (RT (w.heap.size + 1) W (.slice tva tn tc) us):=HT4.out.below BW
       have s0 : W.cell? ⟨w4.heap.size,0,none⟩ = some (.slice va' N c''):=BR.cell (i:=0) (by omega)
       have s1 : W.cell? ⟨w2.heap.size,0,none⟩ = some (.slice tva tn tc):=(BW.cell (p:=⟨w2.heap.size,0,none⟩) (blt t0)).trans t0
       have s2 : W.cell? ⟨tb,o + ((i : Int) + 2).toNat * 3 + 1,none⟩ = some (.string tt):=(BW.cell (p:=⟨tb,o + ((i : Int) + 2).toNat * 3 + 1,none⟩) (blt ct)).trans ct
       have HK : Hid (∀ W9 : World,(∀ b,(Value.slice va' N c'').ownBlock ≠ some b -> b < W.heap.size -> W9.heap[b]? = W.heap[b]?) -> W9.cell? ⟨w4.heap.size,0,none⟩ = some (.slice va' N c'') /\ W9.cell? ⟨w2.heap.size,0,none⟩ = some (.slice tva tn tc) /\ W9.cell? ⟨tb,o + ((i : Int) + 2).toNat * 3 + 1,none⟩ = some (.string tt) /\ W9.rowIs w4.heap.size 77 2 (v2 (.slice va' N c'') (.int .i64 (k : Int)))):=fun W9 hk=>by
        have q0 : (Value.slice va' N c'').ownBlock ≠ some w4.heap.size:=fun e=>own_box HOW.out HBR.out (by decide) e
        have q1 : (Value.slice va' N c'').ownBlock ≠ some w2.heap.size:=fun e=>own_box HOW.out ((TB).of_block (BW.block _ TB.lt)) (by decide) e
        have q2 : (Value.slice va' N c'').ownBlock ≠ some tb:=fun e=>by
         have z:=(HOW.out.lt _ e).1
         have:=HTB.out
         omega
        have k0:=hk _ q0 (by omega)
        have k1:=hk _ q1 (by omega)
        have k2:=hk _ q2 (by have:=blt s2;exact this)
        exact ⟨(World.cell?_of_block k0).trans s0,(World.cell?_of_block k1).trans s1,(World.cell?_of_block k2).trans s2,HBR.out.of_block k0⟩
       clear he hb4 hre hys hyl hN htt ct t0 TB BR HM4 hWs
       go_wp2_with fail
       rw [<- hW]
       clear hW
       go_region_held3 (fun w'=>w'.cell? ⟨w4.heap.size,0,none⟩ = some (.slice va' N c'') /\ w'.cell? ⟨w2.heap.size,0,none⟩ = some (.slice tva tn tc) /\ w'.cell? ⟨tb,o + ((i : Int) + 2).toNat * 3 + 1,none⟩ = some (.string tt)) (go_keep) ((refine step_append_lies _ (by rfl) _ _ _ (by rfl) (w.heap.size + 1) 70 i0 _ 6 96 Tryz.underlying44 hi0 hz0 hz1 hz2 rfl (by omega) (.slice va' N c'') N (eisC ys) (by rfl) ((HOW.out.alloc _).drew) ⟨W.heap.size,0,none⟩ 1 1 [.int .i64 6,.int .i64 0,.string ⟨#[]⟩,.string tt,.slice none 0 0,.slice tva tn tc] (by rfl) (by rfl) (World.news_of_block (cs:=#[.int .i64 6,.int .i64 0,.string ⟨#[]⟩,.string tt,.slice none 0 0,.slice tva tn tc]) (t:=70) (fr:=(0,0)) (heap_alloc_new W _)) (by simp [Value.oneCell']) (by omega) (by unfold maxLen;omega) (by omega) (by simp;omega) (W.heap.size + 1) (by simp) ?_;intro gg cap3 w9 hown3 hg3 hat3 hlt3;obtain ⟨f0,f1,f2,F9⟩:=HK.out w9 (fun b hb hl=>(hg3.block b (by simp;omega) (fun e=>hb e.symm)).trans ((bel1 W _).block b hl))))
       have hg:=grown_undrew hg3
       have NX:=HEW.out.push (x:=((⟨6,0,e0,tt,[],tl⟩ : EI),(⟨⟨none,0,0⟩,.slice tva tn tc,us⟩ : EPl))) (by rw [<- HN.out];exact hown3) hg ⟨NmOK.nil _ _ _,HTW.out,HUS.out⟩
       rw [<- HN.out] at NX
       have HNX : Hid (RE (w.heap.size + 1) w9 (.slice (some ⟨gg,0,none⟩) (N + 1) cap3) (ys ++ [((⟨6,0,e0,tt,[],tl⟩ : EI),(⟨⟨none,0,0⟩,.slice tva tn tc,us⟩ : EPl))])):=NX
       have B9:=below_grown HXW.out.below hg (fun b e=>by have:=(HOW.out.lt b e).1;omega)
       have X9 : w9.rowIs w.heap.size 77 2 (v2 (.slice none 0 0) (.int .i64 0)):=(HXW.out.box.alloc _).of_block (hg3.block _ (by simp;omega) (fun e=>by have:=(HOW.out.lt _ e.symm).1;omega))
       have HX9 : Hid (XW w w9):=⟨B9,X9⟩
       have d0:=X9.cell (i:=0) (by omega)
       have d1:=X9.cell (i:=1) (by omega)
       have z0:=X9.frozen 0
       have z1:=X9.frozen 1
       have k1 : w9.cell? ⟨w4.heap.size,1,none⟩ = some (.int .i64 (k : Int)):=F9.cell (i:=1) (by omega)
       have hne1 : w.heap.size ≠ w4.heap.size:=by omega
       clear hown3 hg3 hg NX B9 X9 F9 HK
       go_wp2
       obtain ⟨W1,W2⟩:=box_ex HX9.out.below HX9.out.box (.slice (some ⟨gg,0,none⟩) (N + 1) cap3) (.int .i64 (k : Int))
       have RX:=(HX9.out.box.set 0 (.slice (some ⟨gg,0,none⟩) (N + 1) cap3)).set 1 (.int .i64 (k : Int))
       refine bodyPost_ret (ret_ex (k:=4) rfl (RX.cell (i:=0) (by omega)) (RX.cell (i:=1) (by omega)) _ rfl) rfl ?_
       rw [HYES.out]
       exact ⟨W1,some ⟨gg,0,none⟩,N + 1,cap3,(k : Int),_,rfl,rfl,(W2 _ _ _ HNX.out).mono (by omega),by rw [List.map_append,HYS.out];rfl⟩
end Go.Proofs.YtcehppndpccldaaGreatDoor
