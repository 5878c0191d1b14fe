/-
  JrL
-/
import Derived.Test.YtpbpbppimkeodaaGreatDoorTp
import Derived.Deep.RegionHeld3
import Derived.Deep.DeepCutAuto
import Derived.BigQuiet
set_option maxRecDepth 100000
namespace Go.Proofs.YtpbpbppimkeodaaGreatDoor
open Go.RowKit Go.Maps
set_option maxHeartbeats 32000000 in
theorem l_FnJoin (ca : Option Addr) (cb co L cc : Nat) (C : Nat -> Nat) (w : World) (h : BytesAt w ca cb co L C) :
  Calls Tryz.prog 6 #[.slice ca L cc] w fun e w'=>e = .returned (.bool true) /\ Below w.heap.size w w':=by
 by_cases hL : L <= 1048576
 case neg=>
  have qL : (1048576 : Int) < (L : Int):=by omega
  have hl:=h.len
  clear h hL
  go_enter Tryz.func6,Tryz.ntmps6
  go_wp2
  go_ret
  exact ⟨rfl,Below.refl _ _⟩
 have qL : ¬ (1048576 : Int) < (L : Int):=by omega
 obtain ⟨N,G,a,b,T⟩:=draw_join C L hL
 have HW : Hid (BytesAt w ca cb co L C):=h
 have HT : Hid (JoinOk C L N G a b):=T
 have hN100:=T.small
 have H2 : Hid (∀ i,i < N -> (gd G i).nn + (gd G i).nk <= 1048576):=fun i hi=>by have:=T.few i hi;omega
 have HF : Hid (∀ i,i < N -> (gd G i).nn <= 1048576 /\ (gd G i).nk <= 1048576):=fun i hi=>by have:=T.few i hi;omega
 clear h T
 go_enter Tryz.func6,Tryz.ntmps6
 go_wp2_with fail
 refine (HT.out.calls ca cb co cc w HW.out).mono ?_
 rintro e w1 ⟨oa,cap,gb,q,rfl,hN1,hb1⟩
 obtain ⟨W2,hW2⟩ : ∃ W2,W2 = w1.alloc (.cells #[.slice oa N cap] 29):=⟨_,rfl⟩
 have B2 : Below w1.heap.size w1 W2:=by rw [hW2];exact bel1 _ _
 have z2 : w1.heap.size < W2.heap.size:=by rw [hW2];simp
 have c2 : W2.cell? ⟨w1.heap.size,0,none⟩ = some (.slice oa N cap):=by rw [hW2];exact (row1 _ _ _).cell (i:=0) (by omega)
 have BW2 : Below w.heap.size w W2:=hb1.trans (B2.mono hb1.size)
 have hN2:=hN1.below B2
 go_wp2_with fail
 rw [<- hW2]
 clear hW2 hN1
 refine (HT.out.calls ca cb co cc W2 (HW.out.below BW2)).mono ?_
 rintro e w3 ⟨oa',cap',gb',q',rfl,hN3,hb3⟩
 obtain ⟨W4,hW4⟩ : ∃ W4,W4 = w3.alloc (.cells #[.slice oa' N cap'] 29):=⟨_,rfl⟩
 have B4 : Below w3.heap.size w3 W4:=by rw [hW4];exact bel1 _ _
 have z4 : w3.heap.size < W4.heap.size:=by rw [hW4];simp
 have c4 : W4.cell? ⟨w3.heap.size,0,none⟩ = some (.slice oa' N cap'):=by rw [hW4];exact (row1 _ _ _).cell (i:=0) (by omega)
 have BW4' : Below W2.heap.size W2 W4:=hb3.trans (B4.mono hb3.size)
 have BW4 : Below w.heap.size w W4:=BW2.trans (BW4'.mono BW2.size)
 have hM4:=hN3.below B4
 have hN4:=hN2.below BW4'
 have c24 : W4.cell? ⟨w1.heap.size,0,none⟩ = some (.slice oa N cap):=(BW4'.cell (p:=⟨w1.heap.size,0,none⟩) z2).trans c2
 have z24 : w1.heap.size < W4.heap.size:=blt c24
 go_wp2_with fail
 rw [<- hW4]
 clear hW4 hN3 hN2 c2 hb1 hb3 B2 B4 BW4'
 refine (g10 oa' gb' 0 N cap' q' (gd G) W4 hM4).mono ?_
 rintro e W5 ⟨rfl,hb5⟩
 have BW5 : Below w.heap.size w W5:=BW4.trans (hb5.mono BW4.size)
 have HG1 : Hid (∀ w',Below W5.heap.size W5 w' -> NodesAt w' oa gb 0 N q (gd G)):=fun w' hb=>(hN4.below hb5).below hb
 have HG2 : Hid (∀ w',Below W5.heap.size W5 w' -> NodesAt w' oa' gb' 0 N q' (gd G)):=fun w' hb=>(hM4.below hb5).below hb
 have c1 : W5.cell? ⟨w1.heap.size,0,none⟩ = some (.slice oa N cap):=(hb5.cell (p:=⟨w1.heap.size,0,none⟩) z24).trans c24
 have c3 : W5.cell? ⟨w3.heap.size,0,none⟩ = some (.slice oa' N cap'):=(hb5.cell (p:=⟨w3.heap.size,0,none⟩) z4).trans c4
 have y1 : w1.heap.size < W5.heap.size:=blt c1
 have y3 : w3.heap.size < W5.heap.size:=blt c3
 clear hb5 hN4 hM4 c24 c4 BW4 BW2 z2 z4 z24
 cases hv : vgr N (gd G)
 case false=>
  clear hv
  go_wp2
  go_ret
  exact ⟨rfl,BW5⟩
 have HV : Hid (vgr N (gd G) = true):=hv
 clear hv
 by_cases ha0 : a < 0
 case pos=>
  go_wp2
  go_ret
  exact ⟨rfl,BW5⟩
 by_cases hb0 : b < 0
 case pos=>
  go_wp2
  go_ret
  exact ⟨rfl,BW5⟩
 by_cases ha1 : (N : Int) <= a
 case pos=>
  go_wp2
  go_ret
  exact ⟨rfl,BW5⟩
 by_cases hb1 : (N : Int) <= b
 case pos=>
  go_wp2
  go_ret
  exact ⟨rfl,BW5⟩
 clear HT
 obtain ⟨a,rfl⟩ : ∃ x : Nat,a = x:=⟨a.toNat,by omega⟩
 obtain ⟨b,rfl⟩ : ∃ x : Nat,b = x:=⟨b.toNat,by omega⟩
 have la : a < N:=by omega
 have lb : b < N:=by omega
 have hok : okJ N (gd G) (a : Int) (b : Int):=⟨HV.out,by omega,by omega⟩
 obtain ⟨n1,d1,M1,A1⟩:=is_join H2.out hok (HG2.out W5 (Below.refl _ _))
 obtain ⟨n2,d2,M2,A2⟩:=is_meet H2.out hok (HG2.out W5 (Below.refl _ _))
 rw [Int.toNat_natCast,Int.toNat_natCast] at A1 A2
 have HM1 : Hid (MixIs N (gd G) (a : Int) (b : Int) false n1 d1 0):=M1
 have HM2 : Hid (MixIs N (gd G) (a : Int) (b : Int) true n2 d2 0):=M2
 have HA1 : Hid (Asks N (gd G) a b true n1 d1):=A1
 have HA2 : Hid (Asks N (gd G) a b false n2 d2):=A2
 have p1:=A1.pos
 have p2:=A2.pos
 have f1:=A1.few
 have f2:=A2.few
 have q1 : ((n1 : Int) == 0) = false:=beq_eq_false_iff_ne.2 (by omega)
 have q2 : ((n2 : Int) == 0) = false:=beq_eq_false_iff_ne.2 (by omega)
 have q15 : ¬ (1500 : Int) < (N : Int) + (n2 : Int):=by omega
 clear hok M1 M2 A1 A2
 have HF5 : Hid _:=fun (W : World) (h : Below W5.heap.size W5 W)=>And.intro (HG1.out W h) (And.intro (HG2.out W h) (And.intro ((h.cell (p:=⟨w1.heap.size,0,none⟩) y1).trans c1) (And.intro ((h.cell (p:=⟨w3.heap.size,0,none⟩) y3).trans c3) True.intro)))
 have b3:=c1
 have b6:=c3
 clear HG1 HG2 c1 c3 y1 y3
 go_wp2_with fail
 refine (p_join HM1.out oa gb 0 cap q W5 (HF5.out _ (Below.refl _ _)).1).mono ?_
 rintro e w6 ⟨uo,ub,uc,uq,rfl,hU,_,_,hb⟩
 have eu:=hU.at_ p1
 subst eu
 have HF6 : Hid _:=fun (W : World) (h : Below w6.heap.size w6 W)=>And.intro (hU.below h) (HF5.out W (hb.trans (h.mono hb.size)))
 have BW6:=BW5.trans (hb.mono BW5.size)
 clear HF5 BW5
 clear hb hU
 clear b3 b6
 have b3:=(HF6.out (w6.alloc (.cells #[.slice (some ⟨ub,0,none⟩) n1 uc] 29)) (bel1 _ _)).2.2.2.1
 have b9 : (w6.alloc (.cells #[.slice (some ⟨ub,0,none⟩) n1 uc] 29)).cell? ⟨w6.heap.size,0,none⟩ = some (.slice (some ⟨ub,0,none⟩) n1 uc):=(row1 _ _ _).cell (i:=0) (by omega)
 go_wp2_with fail
 obtain ⟨W7,hW⟩ : ∃ W,W = w6.alloc (.cells #[.slice (some ⟨ub,0,none⟩) n1 uc] 29):=⟨_,rfl⟩
 have hbx : Below w6.heap.size w6 W7:=by rw [hW];exact bel1 _ _
 rw [<- hW] at b3 b9 ⊢
 clear hW
 have HF7 : Hid _:=fun (W : World) (h : Below W7.heap.size W7 W)=>And.intro ((h.cell (p:=⟨w6.heap.size,0,none⟩) (blt b9)).trans b9) (HF6.out W (hbx.trans (h.mono hbx.size)))
 have BW7:=BW6.trans (hbx.mono BW6.size)
 clear HF6 BW6
 clear hbx
 refine (p_meet HM2.out oa gb 0 cap q W7 (HF7.out _ (Below.refl _ _)).2.2.1).mono ?_
 rintro e w8 ⟨vo,vb,vc,vq,rfl,hU,_,_,hb⟩
 have eu:=hU.at_ p2
 subst eu
 have HF8 : Hid _:=fun (W : World) (h : Below w8.heap.size w8 W)=>And.intro (hU.below h) (HF7.out W (hb.trans (h.mono hb.size)))
 have BW8:=BW7.trans (hb.mono BW7.size)
 clear HF7 BW7
 clear hb hU
 clear b3 b9
 have b6:=(HF8.out (w8.alloc (.cells #[.slice (some ⟨vb,0,none⟩) n2 vc] 29)) (bel1 _ _)).2.2.2.2.2.2.1
 have b9:=(HF8.out (w8.alloc (.cells #[.slice (some ⟨vb,0,none⟩) n2 vc] 29)) (bel1 _ _)).2.1
 have b11 : (w8.alloc (.cells #[.slice (some ⟨vb,0,none⟩) n2 vc] 29)).cell? ⟨w8.heap.size,0,none⟩ = some (.slice (some ⟨vb,0,none⟩) n2 vc):=(row1 _ _ _).cell (i:=0) (by omega)
 go_wp2_with fail
 obtain ⟨W9,hW⟩ : ∃ W,W = w8.alloc (.cells #[.slice (some ⟨vb,0,none⟩) n2 vc] 29):=⟨_,rfl⟩
 have hbx : Below w8.heap.size w8 W9:=by rw [hW];exact bel1 _ _
 rw [<- hW] at b6 b9 b11 ⊢
 clear hW
 have HF9 : Hid _:=fun (W : World) (h : Below W9.heap.size W9 W)=>And.intro ((h.cell (p:=⟨w8.heap.size,0,none⟩) (blt b11)).trans b11) (HF8.out W (hbx.trans (h.mono hbx.size)))
 have BW9:=BW8.trans (hbx.mono BW8.size)
 clear HF8 BW8
 clear hbx
 refine (sj_is oa' cap' (a : Int) (b : Int) W9 H2.out (HF9.out _ (Below.refl _ _)).2.2.2.2.2.1 HM1.out p1).mono ?_
 rintro e w10 ⟨sb,sc,rfl,hk,hb⟩
 have HF10 : Hid _:=fun (W : World) (h : Below w10.heap.size w10 W)=>And.intro ((h.cell (p:=⟨sb,0,none⟩) (blt hk)).trans hk) (HF9.out W (hb.trans (h.mono hb.size)))
 have BW10:=BW9.trans (hb.mono BW9.size)
 clear HF9 BW9
 clear hb hk
 clear b6 b9 b11
 have b6:=(HF10.out (w10.alloc (.cells #[.slice (some ⟨sb,0,none⟩) n1 sc] 29)) (bel1 _ _)).2.2.2.2.2.2.2.2.1
 have b13 : (w10.alloc (.cells #[.slice (some ⟨sb,0,none⟩) n1 sc] 29)).cell? ⟨w10.heap.size,0,none⟩ = some (.slice (some ⟨sb,0,none⟩) n1 sc):=(row1 _ _ _).cell (i:=0) (by omega)
 go_wp2_with fail
 obtain ⟨W11,hW⟩ : ∃ W,W = w10.alloc (.cells #[.slice (some ⟨sb,0,none⟩) n1 sc] 29):=⟨_,rfl⟩
 have hbx : Below w10.heap.size w10 W11:=by rw [hW];exact bel1 _ _
 rw [<- hW] at b6 b13 ⊢
 clear hW
 have HF11 : Hid _:=fun (W : World) (h : Below W11.heap.size W11 W)=>And.intro ((h.cell (p:=⟨w10.heap.size,0,none⟩) (blt b13)).trans b13) (HF10.out W (hbx.trans (h.mono hbx.size)))
 have BW11:=BW10.trans (hbx.mono BW10.size)
 clear HF10 BW10
 clear hbx
 refine (sm_is oa' cap' (a : Int) (b : Int) W11 H2.out (HF11.out _ (Below.refl _ _)).2.2.2.2.2.2.2.1 HM2.out p2).mono ?_
 rintro e w12 ⟨tb,tc,rfl,hk,hb⟩
 have HF12 : Hid _:=fun (W : World) (h : Below w12.heap.size w12 W)=>And.intro ((h.cell (p:=⟨tb,0,none⟩) (blt hk)).trans hk) (HF11.out W (hb.trans (h.mono hb.size)))
 have BW12:=BW11.trans (hb.mono BW11.size)
 clear HF11 BW11
 clear hb hk
 clear b6 b13
 have b9:=(HF12.out (w12.alloc (.cells #[.slice (some ⟨tb,0,none⟩) n2 tc] 29)) (bel1 _ _)).2.2.2.2.2.1
 have b11:=(HF12.out (w12.alloc (.cells #[.slice (some ⟨tb,0,none⟩) n2 tc] 29)) (bel1 _ _)).2.2.2.1
 have b13:=(HF12.out (w12.alloc (.cells #[.slice (some ⟨tb,0,none⟩) n2 tc] 29)) (bel1 _ _)).2.1
 have ks:=(HF12.out (w12.alloc (.cells #[.slice (some ⟨tb,0,none⟩) n2 tc] 29)) (bel1 _ _)).2.2.1
 have kt:=(HF12.out (w12.alloc (.cells #[.slice (some ⟨tb,0,none⟩) n2 tc] 29)) (bel1 _ _)).1
 have b15 : (w12.alloc (.cells #[.slice (some ⟨tb,0,none⟩) n2 tc] 29)).cell? ⟨w12.heap.size,0,none⟩ = some (.slice (some ⟨tb,0,none⟩) n2 tc):=(row1 _ _ _).cell (i:=0) (by omega)
 have ku:=((HF12.out (w12.alloc (.cells #[.slice (some ⟨tb,0,none⟩) n2 tc] 29)) (bel1 _ _)).2.2.2.2.2.2.1).c0 0 p1
 have kv:=((HF12.out (w12.alloc (.cells #[.slice (some ⟨tb,0,none⟩) n2 tc] 29)) (bel1 _ _)).2.2.2.2.1).c0 0 p2
 simp only [Nat.zero_mul,Nat.add_zero] at ku kv
 obtain ⟨k1,hk1⟩ : ∃ k,k = (d1 0).kind:=⟨_,rfl⟩
 obtain ⟨k2,hk2⟩ : ∃ k,k = (d2 0).kind:=⟨_,rfl⟩
 rw [<- hk1] at ku ks
 rw [<- hk2] at kv kt
 clear hk1 hk2
 have qk1 : (k1 == k1) = true:=by simp
 have qk2 : (k2 == k2) = true:=by simp
 have e1 : decide (n1 <= 0) = false:=decide_eq_false (by omega)
 have e2 : decide (n2 <= 0) = false:=decide_eq_false (by omega)
 have e3 : (0 : Int) < (n1 : Int):=by omega
 have e4 : (0 : Int) < (n2 : Int):=by omega
 go_wp2
 obtain ⟨W13,hW⟩ : ∃ W,W = w12.alloc (.cells #[.slice (some ⟨tb,0,none⟩) n2 tc] 29):=⟨_,rfl⟩
 have hbx : Below w12.heap.size w12 W13:=by rw [hW];exact bel1 _ _
 rw [<- hW] at b9 b11 b13 b15 ks kt ku kv ⊢
 clear hW
 have HF13 : Hid _:=fun (W : World) (h : Below W13.heap.size W13 W)=>And.intro ((h.cell (p:=⟨w12.heap.size,0,none⟩) (blt b15)).trans b15) (HF12.out W (hbx.trans (h.mono hbx.size)))
 have BW13:=BW12.trans (hbx.mono BW12.size)
 clear HF12 BW12
 go_cut [158] (fun s158 wc=>s158 = .bool false /\ Below W13.heap.size W13 wc)
 case first=>
  go_quiet (fail)
  go_wp2
  go_meet
  case rel=>exact ⟨by first | rfl | simp,by first | exact Below.refl _ _ | exact (Below.refl _ _).drew | exact below_drewN (Below.refl _ _) _⟩
 case rest=>
 clear ku kv ks kt e1 e2 e3 e4 qk1 qk2 hbx b9 b11 b13 b15
 obtain ⟨rfl,hbc⟩:=hcut
 obtain ⟨w14,hw14⟩ : ∃ x,x = wc:=⟨_,rfl⟩
 rw [<- hw14] at hbc ⊢
 clear hw14
 have HF14 : Hid _:=fun (W : World) (h : Below w14.heap.size w14 W)=>HF13.out W (hbc.trans (h.mono hbc.size))
 have BW14:=BW13.trans (hbc.mono BW13.size)
 clear HF13 BW13
 clear hbc
 have HK1 : Hid (∀ i,i < n1 -> (d1 i).nk <= 1048576 /\ ∀ j,j < (d1 i).nk -> 0 <= (d1 i).kd j /\ (d1 i).kd j <= 1048576):=fun i hi=>⟨(HA1.out.nn i hi).2,fun j hj=>by have:=HA1.out.kids i hi j hj;omega⟩
 have HK2 : Hid (∀ i,i < n2 -> (d2 i).nk <= 1048576 /\ ∀ j,j < (d2 i).nk -> 0 <= (d2 i).kd j /\ (d2 i).kd j <= 1048576):=fun i hi=>⟨(HA2.out.nn i hi).2,fun j hj=>by have:=HA2.out.kids i hi j hj;omega⟩
 have HB1 : Hid (BothOk N n1 (bothG N (gd G) d1) a b true false):=both_ok HV.out hN100 HF.out la lb HA1.out (fun h=>by cases h)
 have HB2 : Hid (BothOk N n2 (bothG N (gd G) d2) a b false false):=both_ok HV.out hN100 HF.out la lb HA2.out (fun h=>by cases h)
 have b6:=(HF14.out _ (Below.refl _ _)).2.2.2.2.2.2.2.2.2.2.2.1
 have b9:=(HF14.out _ (Below.refl _ _)).2.2.2.2.2.2.1
 go_wp2_with fail
 refine (l_both oa' (some ⟨ub,0,none⟩) cap' uc w14 (by omega) (by omega) HK1.out (HF14.out _ (Below.refl _ _)).2.2.2.2.2.2.2.2.2.1 (HF14.out _ (Below.refl _ _)).2.2.2.2.2.2.2.1).mono ?_
 rintro e w15 ⟨xo,xb,xc,xq,rfl,hX,hb⟩
 have HF15 : Hid _:=fun (W : World) (h : Below w15.heap.size w15 W)=>And.intro (hX.below h) (HF14.out W (hb.trans (h.mono hb.size)))
 have BW15:=BW14.trans (hb.mono BW14.size)
 clear HF14 BW14
 clear hb hX
 clear b6 b9
 have b17 : (w15.alloc (.cells #[.slice xo (N + n1) xc] 29)).cell? ⟨w15.heap.size,0,none⟩ = some (.slice xo (N + n1) xc):=(row1 _ _ _).cell (i:=0) (by omega)
 go_wp2_with fail
 obtain ⟨W16,hW⟩ : ∃ W,W = w15.alloc (.cells #[.slice xo (N + n1) xc] 29):=⟨_,rfl⟩
 have hbx : Below w15.heap.size w15 W16:=by rw [hW];exact bel1 _ _
 rw [<- hW] at b17 ⊢
 clear hW
 have HF16 : Hid _:=fun (W : World) (h : Below W16.heap.size W16 W)=>And.intro ((h.cell (p:=⟨w15.heap.size,0,none⟩) (blt b17)).trans b17) (HF15.out W (hbx.trans (h.mono hbx.size)))
 have BW16:=BW15.trans (hbx.mono BW15.size)
 clear HF15 BW15
 clear hbx
 refine (sub_yes xo xb 0 xc xq a N W16 (HF16.out _ (Below.refl _ _)).2.1 HB1.out.few HB1.out.valid (by omega) (by omega) (HB1.out.join rfl).1).mono ?_
 rintro e w17 ⟨rfl,hb⟩
 have HF17 : Hid _:=fun (W : World) (h : Below w17.heap.size w17 W)=>HF16.out W (hb.trans (h.mono hb.size))
 have BW17:=BW16.trans (hb.mono BW16.size)
 clear HF16 BW16
 clear hb
 clear b17
 have b17:=(HF17.out _ (Below.refl _ _)).1
 go_wp2_with fail
 refine (sub_yes xo xb 0 xc xq b N w17 (HF17.out _ (Below.refl _ _)).2.1 HB1.out.few HB1.out.valid (by omega) (by omega) (HB1.out.join rfl).2).mono ?_
 rintro e w18 ⟨rfl,hb⟩
 have HF18 : Hid _:=fun (W : World) (h : Below w18.heap.size w18 W)=>HF17.out W (hb.trans (h.mono hb.size))
 have BW18:=BW17.trans (hb.mono BW17.size)
 clear HF17 BW17
 clear hb
 clear b17
 have b6:=(HF18.out _ (Below.refl _ _)).2.2.2.2.2.2.2.2.2.2.2.2.2.1
 go_wp2_with fail
 refine (sm5 oa' gb' 0 N cap' q' (gd G) (a : Int) (b : Int) w18 (HF18.out _ (Below.refl _ _)).2.2.2.2.2.2.2.2.2.2.2.1).mono ?_
 rintro e w19 ⟨r,rfl,hr,hb⟩
 have HF19 : Hid _:=fun (W : World) (h : Below w19.heap.size w19 W)=>HF18.out W (hb.trans (h.mono hb.size))
 have BW19:=BW18.trans (hb.mono BW18.size)
 clear HF18 BW18
 clear hb
 cases r
 case false=>
  clear hr
  as_aux_lemma=>
   clear b6
   have b6:=(HF19.out _ (Below.refl _ _)).2.2.2.2.2.2.2.2.2.2.2.2.2.1
   have b11:=(HF19.out _ (Below.refl _ _)).2.2.2.2.2.2.1
   have b13:=(HF19.out _ (Below.refl _ _)).2.2.2.2.1
   go_wp2_with fail
   refine (l_both oa' (some ⟨vb,0,none⟩) cap' vc w19 (by omega) (by omega) HK2.out (HF19.out _ (Below.refl _ _)).2.2.2.2.2.2.2.2.2.2.2.1 (HF19.out _ (Below.refl _ _)).2.2.2.2.2.2.2.1).mono ?_
   rintro e w25 ⟨yo,yb,yc,yq,rfl,hX,hb⟩
   have HF25 : Hid _:=fun (W : World) (h : Below w25.heap.size w25 W)=>And.intro (hX.below h) (HF19.out W (hb.trans (h.mono hb.size)))
   have BW25:=BW19.trans (hb.mono BW19.size)
   clear HF19 BW19
   clear hb hX
   clear b6 b11 b13
   have b19 : (w25.alloc (.cells #[.slice yo (N + n2) yc] 29)).cell? ⟨w25.heap.size,0,none⟩ = some (.slice yo (N + n2) yc):=(row1 _ _ _).cell (i:=0) (by omega)
   go_wp2_with fail
   obtain ⟨W26,hW⟩ : ∃ W,W = w25.alloc (.cells #[.slice yo (N + n2) yc] 29):=⟨_,rfl⟩
   have hbx : Below w25.heap.size w25 W26:=by rw [hW];exact bel1 _ _
   rw [<- hW] at b19 ⊢
   clear hW
   have HF26 : Hid _:=fun (W : World) (h : Below W26.heap.size W26 W)=>And.intro ((h.cell (p:=⟨w25.heap.size,0,none⟩) (blt b19)).trans b19) (HF25.out W (hbx.trans (h.mono hbx.size)))
   have BW26:=BW25.trans (hbx.mono BW25.size)
   clear HF25 BW25
   clear hbx
   refine (sub_yes yo yb 0 yc yq N a W26 (HF26.out _ (Below.refl _ _)).2.1 HB2.out.few HB2.out.valid (by omega) (by omega) (HB2.out.meet rfl).1).mono ?_
   rintro e w27 ⟨rfl,hb⟩
   have HF27 : Hid _:=fun (W : World) (h : Below w27.heap.size w27 W)=>HF26.out W (hb.trans (h.mono hb.size))
   have BW27:=BW26.trans (hb.mono BW26.size)
   clear HF26 BW26
   clear hb
   clear b19
   have b19:=(HF27.out _ (Below.refl _ _)).1
   go_wp2_with fail
   refine (sub_yes yo yb 0 yc yq N b w27 (HF27.out _ (Below.refl _ _)).2.1 HB2.out.few HB2.out.valid (by omega) (by omega) (HB2.out.meet rfl).2).mono ?_
   rintro e w28 ⟨rfl,hb⟩
   have BF:=BW27.trans (hb.mono BW27.size)
   clear hb
   go_wp2
   go_ret
   exact ⟨rfl,BF⟩
 by_cases hn1 : 1 < n1
 case neg=>
  have qn1 : ¬ (1 : Int) < (n1 : Int):=by omega
  clear hr hn1
  as_aux_lemma=>
   clear b6
   have b6:=(HF19.out _ (Below.refl _ _)).2.2.2.2.2.2.2.2.2.2.2.2.2.1
   have b11:=(HF19.out _ (Below.refl _ _)).2.2.2.2.2.2.1
   have b13:=(HF19.out _ (Below.refl _ _)).2.2.2.2.1
   go_wp2_with fail
   refine (l_both oa' (some ⟨vb,0,none⟩) cap' vc w19 (by omega) (by omega) HK2.out (HF19.out _ (Below.refl _ _)).2.2.2.2.2.2.2.2.2.2.2.1 (HF19.out _ (Below.refl _ _)).2.2.2.2.2.2.2.1).mono ?_
   rintro e w25 ⟨yo,yb,yc,yq,rfl,hX,hb⟩
   have HF25 : Hid _:=fun (W : World) (h : Below w25.heap.size w25 W)=>And.intro (hX.below h) (HF19.out W (hb.trans (h.mono hb.size)))
   have BW25:=BW19.trans (hb.mono BW19.size)
   clear HF19 BW19
   clear hb hX
   clear b6 b11 b13
   have b19 : (w25.alloc (.cells #[.slice yo (N + n2) yc] 29)).cell? ⟨w25.heap.size,0,none⟩ = some (.slice yo (N + n2) yc):=(row1 _ _ _).cell (i:=0) (by omega)
   go_wp2_with fail
   obtain ⟨W26,hW⟩ : ∃ W,W = w25.alloc (.cells #[.slice yo (N + n2) yc] 29):=⟨_,rfl⟩
   have hbx : Below w25.heap.size w25 W26:=by rw [hW];exact bel1 _ _
   rw [<- hW] at b19 ⊢
   clear hW
   have HF26 : Hid _:=fun (W : World) (h : Below W26.heap.size W26 W)=>And.intro ((h.cell (p:=⟨w25.heap.size,0,none⟩) (blt b19)).trans b19) (HF25.out W (hbx.trans (h.mono hbx.size)))
   have BW26:=BW25.trans (hbx.mono BW25.size)
   clear HF25 BW25
   clear hbx
   refine (sub_yes yo yb 0 yc yq N a W26 (HF26.out _ (Below.refl _ _)).2.1 HB2.out.few HB2.out.valid (by omega) (by omega) (HB2.out.meet rfl).1).mono ?_
   rintro e w27 ⟨rfl,hb⟩
   have HF27 : Hid _:=fun (W : World) (h : Below w27.heap.size w27 W)=>HF26.out W (hb.trans (h.mono hb.size))
   have BW27:=BW26.trans (hb.mono BW26.size)
   clear HF26 BW26
   clear hb
   clear b19
   have b19:=(HF27.out _ (Below.refl _ _)).1
   go_wp2_with fail
   refine (sub_yes yo yb 0 yc yq N b w27 (HF27.out _ (Below.refl _ _)).2.1 HB2.out.few HB2.out.valid (by omega) (by omega) (HB2.out.meet rfl).2).mono ?_
   rintro e w28 ⟨rfl,hb⟩
   have BF:=BW27.trans (hb.mono BW27.size)
   clear hb
   go_wp2
   go_ret
   exact ⟨rfl,BF⟩
 have qn1 : (1 : Int) < (n1 : Int):=by omega
 have HSM : Hid (Same (N + n1) (bothG N (gd G) d1) a N):=HA1.out.same (by simpa using (hr.1 rfl).same) hn1
 clear hr
 clear b6
 have b17:=(HF19.out _ (Below.refl _ _)).1
 have b13:=(HF19.out _ (Below.refl _ _)).2.2.2.2.1
 go_wp2_with fail
 refine (same_yes xo xb 0 xc xq a N w19 (HF19.out _ (Below.refl _ _)).2.1 HB1.out.few HB1.out.valid (by omega) (by omega) HSM.out).mono ?_
 rintro e w20 ⟨rfl,hb⟩
 have HF20 : Hid _:=fun (W : World) (h : Below w20.heap.size w20 W)=>HF19.out W (hb.trans (h.mono hb.size))
 have BW20:=BW19.trans (hb.mono BW19.size)
 clear HF19 BW19
 clear hb
 clear b17 b13
 have b6:=(HF20.out _ (Below.refl _ _)).2.2.2.2.2.2.2.2.2.2.2.2.2.1
 have b11:=(HF20.out _ (Below.refl _ _)).2.2.2.2.2.2.1
 have b13:=(HF20.out _ (Below.refl _ _)).2.2.2.2.1
 go_wp2_with fail
 refine (l_both oa' (some ⟨vb,0,none⟩) cap' vc w20 (by omega) (by omega) HK2.out (HF20.out _ (Below.refl _ _)).2.2.2.2.2.2.2.2.2.2.2.1 (HF20.out _ (Below.refl _ _)).2.2.2.2.2.2.2.1).mono ?_
 rintro e w25 ⟨yo,yb,yc,yq,rfl,hX,hb⟩
 have HF25 : Hid _:=fun (W : World) (h : Below w25.heap.size w25 W)=>And.intro (hX.below h) (HF20.out W (hb.trans (h.mono hb.size)))
 have BW25:=BW20.trans (hb.mono BW20.size)
 clear HF20 BW20
 clear hb hX
 clear b6 b11 b13
 have b19 : (w25.alloc (.cells #[.slice yo (N + n2) yc] 29)).cell? ⟨w25.heap.size,0,none⟩ = some (.slice yo (N + n2) yc):=(row1 _ _ _).cell (i:=0) (by omega)
 go_wp2_with fail
 obtain ⟨W26,hW⟩ : ∃ W,W = w25.alloc (.cells #[.slice yo (N + n2) yc] 29):=⟨_,rfl⟩
 have hbx : Below w25.heap.size w25 W26:=by rw [hW];exact bel1 _ _
 rw [<- hW] at b19 ⊢
 clear hW
 have HF26 : Hid _:=fun (W : World) (h : Below W26.heap.size W26 W)=>And.intro ((h.cell (p:=⟨w25.heap.size,0,none⟩) (blt b19)).trans b19) (HF25.out W (hbx.trans (h.mono hbx.size)))
 have BW26:=BW25.trans (hbx.mono BW25.size)
 clear HF25 BW25
 clear hbx
 refine (sub_yes yo yb 0 yc yq N a W26 (HF26.out _ (Below.refl _ _)).2.1 HB2.out.few HB2.out.valid (by omega) (by omega) (HB2.out.meet rfl).1).mono ?_
 rintro e w27 ⟨rfl,hb⟩
 have HF27 : Hid _:=fun (W : World) (h : Below w27.heap.size w27 W)=>HF26.out W (hb.trans (h.mono hb.size))
 have BW27:=BW26.trans (hb.mono BW26.size)
 clear HF26 BW26
 clear hb
 clear b19
 have b19:=(HF27.out _ (Below.refl _ _)).1
 go_wp2_with fail
 refine (sub_yes yo yb 0 yc yq N b w27 (HF27.out _ (Below.refl _ _)).2.1 HB2.out.few HB2.out.valid (by omega) (by omega) (HB2.out.meet rfl).2).mono ?_
 rintro e w28 ⟨rfl,hb⟩
 have BF:=BW27.trans (hb.mono BW27.size)
 clear hb
 go_wp2
 go_ret
 exact ⟨rfl,BF⟩
end Go.Proofs.YtpbpbppimkeodaaGreatDoor
