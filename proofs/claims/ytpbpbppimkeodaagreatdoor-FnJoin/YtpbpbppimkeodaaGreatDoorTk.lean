/-
  DrD
-/
import Derived.Test.YtpbpbppimkeodaaGreatDoorSs
set_option maxRecDepth 100000
namespace Go.Proofs.YtpbpbppimkeodaaGreatDoor
open Go.RowKit Go.Maps
set_option maxHeartbeats 16000000 in
theorem d_graph (ca : Option Addr) (cb co L cc p n : Nat) (C : Nat -> Nat) (w : World) (h : BytesAt w ca cb co L C) (hL : L <= 1048576) (hp : p <= 1000) (hn : n <= 24) :
  Calls Tryz.prog 90 #[.slice ca L cc,.int .i64 (p : Int),.int .i64 (n : Int)] w fun e w'=>GraphPost w n (drawN C L n p n).1 (drawN C L n p n).2 e w':=by
 have HC : Hid (∀ w',Below w.heap.size w w' -> BytesAt w' ca cb co L C):=fun w' hb=>h.below hb
 clear h
 obtain ⟨W0,hW0⟩ : ∃ W0,W0 = w.alloc (.cells #[.slice none 0 0] 29):=⟨_,rfl⟩
 have B0 : Below w.heap.size w W0:=by rw [hW0];exact bel1 _ _
 have z0 : W0.heap.size = w.heap.size + 1:=by rw [hW0];simp
 have r0 : W0.rowIs w.heap.size 29 1 (fun _=>.slice none 0 0):=by rw [hW0];exact row1 _ _ _
 have SA : Hid (Lq w.heap.size W0 (W0.alloc (.cells #[] 48)) (.slice (some ⟨W0.heap.size,0,none⟩) 0 0) (fun _=>np0) []):=⟨World.ownsRow_lit W0 #[] 0 (Nat.le_refl _) (by unfold maxLen;omega) (by rfl),bel1 _ _,⟨by simp;omega,fun e=>by have : w.heap.size = W0.heap.size:=(by simpa [Value.ownBlock] using e);omega⟩,fun i hi=>absurd hi (Nat.not_lt_zero _)⟩
 obtain ⟨i0,hi0,hz0,hz1,hz2⟩:=info_parts Tryz.info48
 go_enter Tryz.func90,Tryz.ntmps90
 go_wp2
 go_loopw [1,12,13] (fun s1 v s13 wr=>∃ (i : Nat) (q : Nat -> NP),i <= n /\ s13 = .int .i64 i /\ s1 = .int .i64 ((drawN C L n p i).2 : Int) /\ Lq w.heap.size W0 wr v q (drawN C L n p i).1) (fun _ _ s13 _=>n - (intOf s13).toNat)
 case atStart=>
  subst hW0
  have SA':=SA.out
  simp only [World.size_alloc] at SA'
  exact ⟨0,fun _=>np0,Nat.zero_le _,rfl,rfl,SA'⟩
 case round=>
  obtain ⟨i,q,hi,rfl,rfl,hQ⟩:=hrel
  clear SA
  have hlen:=drawN_len C L n p i
  by_cases hlt : i < n
  case neg=>
   have hin : i = n:=by omega
   subst hin
   have ho:=hQ.own
   rw [hlen] at ho
   obtain ⟨oa,cap,rfl⟩:=own_form ho
   have RR:=r0.of_block (hQ.below.block w.heap.size (by omega))
   have k0:=RR.cell (i:=0) (by omega)
   have k1:=RR.frozen 0
   have FIN : Hid (∃ b,NodesAt (wr.setCell ⟨w.heap.size,0,none⟩ (.slice oa i cap)) oa b 0 i q (gd (drawN C L i p i).1)):=lq_out hQ hlen (by omega) 0 _
   have BF : Hid (Below w.heap.size w (wr.setCell ⟨w.heap.size,0,none⟩ (.slice oa i cap))):=(B0.trans (hQ.below.mono B0.size)).setCell (Nat.le_refl _) _
   clear hQ ho RR
   go_wp2
   obtain ⟨b,FIN⟩:=FIN.out
   exact bodyPost_ret (v:=.tuple #[.agg #[.slice oa i cap],.int .i64 ((drawN C L i p i).2 : Int)]) (by simp [results,Tryz.results90,go_sem,k0]) rfl ⟨oa,cap,b,q,rfl,FIN,BF.out⟩
  obtain ⟨hF,hP1,hP2⟩:=drawN_few (C:=C) (L:=L) (p:=p) (n:=n) (by omega) i
  have HN1 : Hid ((drawN C L n p (i + 1)).1 = (drawN C L n p i).1 ++ [(nextN C L n i (drawN C L n p i).2 (drawN C L n p i).1).1]):=by show (drawN C L n p (i + 1)).1 = _;rfl
  have HN2 : Hid ((drawN C L n p (i + 1)).2 = (drawN C L n p i).2 + (nextN C L n i (drawN C L n p i).2 (drawN C L n p i).1).2):=by show (drawN C L n p (i + 1)).2 = _;rfl
  obtain ⟨G,hG⟩ : ∃ G,G = (drawN C L n p i).1:=⟨_,rfl⟩
  obtain ⟨P,hP⟩ : ∃ P,P = (drawN C L n p i).2:=⟨_,rfl⟩
  rw [<- hG] at hF HN1 HN2 hQ hlen
  rw [<- hP] at hP1 hP2 HN1 HN2 ⊢
  clear hG hP
  have OWN:=hQ.own
  rw [hlen] at OWN
  obtain ⟨oa,cap,rfl⟩:=own_form OWN
  rw [<- hlen] at OWN
  have HQ : Hid (Lq w.heap.size W0 wr (.slice oa i cap) q G):=hQ
  have HLEN : Hid (G.length = i):=hlen
  have HFW : Hid (∀ j,j < G.length -> Few 3 (gd G j)):=hF
  have hbs : W0.heap.size <= wr.heap.size:=hQ.below.size
  have BW : Below w.heap.size w wr:=B0.trans (hQ.below.mono B0.size)
  have OWN : wr.ownsRow W0.heap.size 48 3 (.slice oa i cap) i (ncells q (gd G) G.length):=by have:=hQ.own;rw [hlen] at this ⊢;exact this
  clear hQ hF hlen
  have hA : tk C L P 16 < 16:=tk_lt (by omega)
  go_wp2_with fail
  refine (d_take ca cb co L cc P 16 C wr (HC.out wr BW) hL (by omega) (by omega)).mono ?_
  rintro e w1 ⟨rfl,rfl⟩
  obtain ⟨a,ha⟩ : ∃ a,a = tk C L P 16:=⟨_,rfl⟩
  rw [<- ha] at hA ⊢
  have HA : Hid (tk C L P 16 = a):=ha.symm
  clear ha
  by_cases h2 : a < 2
  case pos=>
   have q2 : (a : Int) < 2:=by omega
   go_wp2_with (first | (at_builtin;refine wpList_append_lies _ rfl _ _ 27 rfl W0.heap.size 48 i0 _ 3 56 Tryz.underlying27 hi0 hz0 hz1 hz2 rfl (by omega) (.slice oa i cap) i (ncells q (gd G) G.length) rfl (OWN.alloc _) ⟨wr.heap.size,0,none⟩ 1 1 [.int .i64 1,.slice none 0 0,.slice none 0 0] rfl rfl (World.news_of_block (cs:=#[.int .i64 1,.slice none 0 0,.slice none 0 0]) (t:=48) (fr:=(0,0)) (heap_alloc_new wr _)) (by simp [Value.oneCell']) (by omega) (by unfold maxLen;omega) (by omega) (by simp;omega) (wr.heap.size + 1) (by simp) ?_;intro gg cap5 w5 hown5 hg5 hat5 hlt5))
   have HX : Hid (nextN C L n i P G = (mkN 1,1)):=by
    show nextN C L n i P G = _
    unfold nextN
    rw [HA.out,if_pos h2]
   have FIN : Hid (Lq w.heap.size W0 w5 (.slice (some ⟨gg,0,none⟩) (i + 1) cap5) (fun k=>if k = i then np0 else q k) (drawN C L n p (i + 1)).1 /\ (drawN C L n p (i + 1)).2 = P + 1):=by
    refine ⟨?_,by rw [HN2.out,HX.out]⟩
    rw [HN1.out,HX.out]
    exact lq_step HQ.out HLEN.out (Below.refl _ _) np0 (mkN 1) (node_mk _ _) (fun z=>absurd z (Nat.lt_irrefl _)) (fun z=>absurd z (Nat.lt_irrefl _)) hown5 hg5 hat5
   clear hown5 hg5 hat5 OWN
   go_wp2
   go_roundw
   case rel=>exact ⟨i + 1,_,by omega,by go_num,by rw [FIN.out.2] <;> first | rfl | go_num,FIN.out.1⟩
   case measure=>simp [intOf];omega
  by_cases h3 : a = 2
  case pos=>
   have q2 : ¬ (a : Int) < 2:=by omega
   have q3 : ((a : Int) == 2) = true:=by rw [beq_iff_eq];omega
   go_wp2_with (first | (at_builtin;refine wpList_append_lies _ rfl _ _ 27 rfl W0.heap.size 48 i0 _ 3 56 Tryz.underlying27 hi0 hz0 hz1 hz2 rfl (by omega) (.slice oa i cap) i (ncells q (gd G) G.length) rfl (OWN.alloc _) ⟨wr.heap.size,0,none⟩ 1 1 [.int .i64 2,.slice none 0 0,.slice none 0 0] rfl rfl (World.news_of_block (cs:=#[.int .i64 2,.slice none 0 0,.slice none 0 0]) (t:=48) (fr:=(0,0)) (heap_alloc_new wr _)) (by simp [Value.oneCell']) (by omega) (by unfold maxLen;omega) (by omega) (by simp;omega) (wr.heap.size + 1) (by simp) ?_;intro gg cap5 w5 hown5 hg5 hat5 hlt5))
   have HX : Hid (nextN C L n i P G = (mkN 2,1)):=by
    show nextN C L n i P G = _
    unfold nextN
    rw [HA.out,if_neg h2,if_pos h3]
   have FIN : Hid (Lq w.heap.size W0 w5 (.slice (some ⟨gg,0,none⟩) (i + 1) cap5) (fun k=>if k = i then np0 else q k) (drawN C L n p (i + 1)).1 /\ (drawN C L n p (i + 1)).2 = P + 1):=by
    refine ⟨?_,by rw [HN2.out,HX.out]⟩
    rw [HN1.out,HX.out]
    exact lq_step HQ.out HLEN.out (Below.refl _ _) np0 (mkN 2) (node_mk _ _) (fun z=>absurd z (Nat.lt_irrefl _)) (fun z=>absurd z (Nat.lt_irrefl _)) hown5 hg5 hat5
   clear hown5 hg5 hat5 OWN
   go_wp2
   go_roundw
   case rel=>exact ⟨i + 1,_,by omega,by go_num,by rw [FIN.out.2] <;> first | rfl | go_num,FIN.out.1⟩
   case measure=>simp [intOf];omega
  by_cases h4 : a = 3
  case pos=>
   have q2 : ¬ (a : Int) < 2:=by omega
   have q3 : ((a : Int) == 2) = false:=beq_eq_false_iff_ne.2 (by omega)
   have q4 : ((a : Int) == 3) = true:=by rw [beq_iff_eq];omega
   go_wp2_with (first | (at_builtin;refine wpList_append_lies _ rfl _ _ 27 rfl W0.heap.size 48 i0 _ 3 56 Tryz.underlying27 hi0 hz0 hz1 hz2 rfl (by omega) (.slice oa i cap) i (ncells q (gd G) G.length) rfl (OWN.alloc _) ⟨wr.heap.size,0,none⟩ 1 1 [.int .i64 0,.slice none 0 0,.slice none 0 0] rfl rfl (World.news_of_block (cs:=#[.int .i64 0,.slice none 0 0,.slice none 0 0]) (t:=48) (fr:=(0,0)) (heap_alloc_new wr _)) (by simp [Value.oneCell']) (by omega) (by unfold maxLen;omega) (by omega) (by simp;omega) (wr.heap.size + 1) (by simp) ?_;intro gg cap5 w5 hown5 hg5 hat5 hlt5))
   have HX : Hid (nextN C L n i P G = (mkN 0,1)):=by
    show nextN C L n i P G = _
    unfold nextN
    rw [HA.out,if_neg h2,if_neg h3,if_pos h4]
   have FIN : Hid (Lq w.heap.size W0 w5 (.slice (some ⟨gg,0,none⟩) (i + 1) cap5) (fun k=>if k = i then np0 else q k) (drawN C L n p (i + 1)).1 /\ (drawN C L n p (i + 1)).2 = P + 1):=by
    refine ⟨?_,by rw [HN2.out,HX.out]⟩
    rw [HN1.out,HX.out]
    exact lq_step HQ.out HLEN.out (Below.refl _ _) np0 (mkN 0) (node_mk _ _) (fun z=>absurd z (Nat.lt_irrefl _)) (fun z=>absurd z (Nat.lt_irrefl _)) hown5 hg5 hat5
   clear hown5 hg5 hat5 OWN
   go_wp2
   go_roundw
   case rel=>exact ⟨i + 1,_,by omega,by go_num,by rw [FIN.out.2] <;> first | rfl | go_num,FIN.out.1⟩
   case measure=>simp [intOf];omega
  have q2 : ¬ (a : Int) < 2:=by omega
  have q3 : ((a : Int) == 2) = false:=beq_eq_false_iff_ne.2 (by omega)
  have q4 : ((a : Int) == 3) = false:=beq_eq_false_iff_ne.2 (by omega)
  by_cases h5 : a < 7 /\ 0 < i
  case pos=>
   have q5 : (a : Int) < 7:=by omega
   have q7 : (0 : Int) < (i : Int):=by omega
   go_wp2_with fail
   refine (d_take ca cb co L cc (P + 1) i C wr (HC.out wr BW) hL (by omega) (by omega)).mono ?_
   rintro e w1 ⟨rfl,rfl⟩
   obtain ⟨b,hb⟩ : ∃ b,b = tk C L (P + 1) i:=⟨_,rfl⟩
   have lb:=tk_le C L (P + 1) i
   rw [<- hb] at lb ⊢
   have Hb : Hid (tk C L (P + 1) i = b):=hb.symm
   clear hb
   have lb' : b < i:=by rw [<- Hb.out];exact tk_lt h5.2
   obtain ⟨gb,NN,NB⟩:=lq_nodes HQ.out HLEN.out (by omega)
   obtain ⟨nb1,nb2,nb3,nb4⟩:=NB (by omega)
   have eo:=NN.at_ (by omega)
   subst eo
   have g0:=NN.c0 b lb'
   have g1:=NN.c1 b lb'
   have g2:=NN.c2 b lb'
   simp only [Nat.zero_add] at g0 g1 g2
   have NB0 : Hid (NodeAt wr (q b) (gd G b)):=NN.node b lb'
   have FB:=HFW.out b (by rw [HLEN.out];exact lb')
   clear NN NB
   obtain ⟨x,hx⟩ : ∃ x,x = gd G b:=⟨_,rfl⟩
   obtain ⟨pb,hpb⟩ : ∃ x,x = q b:=⟨_,rfl⟩
   rw [<- hx] at g0 g1 g2 NB0 FB
   rw [<- hpb] at g1 g2 NB0
   have HX0 : Hid (gd G b = x):=hx.symm
   clear hx hpb
   obtain ⟨K,hK⟩ : ∃ K,K = x.nk:=⟨_,rfl⟩
   have HKX : Hid (x.nk = K):=hK.symm
   have fn1:=FB.nn
   have fn2:=FB.nk
   rw [<- hK] at g2 fn2
   clear hK
   have NK0 : Hid (IntsAt wr pb.a2 pb.b2 pb.o2 K x.kd):=by have:=NB0.out.kids;rw [HKX.out] at this;exact this
   obtain ⟨W1,hW1⟩ : ∃ W1,W1 = wr.alloc (.cells #[.int .i64 x.kind,.slice pb.a1 x.nn pb.c1,.slice pb.a2 K pb.c2] 48):=⟨_,rfl⟩
   have RO:=row3 wr (.int .i64 x.kind) (.slice pb.a1 x.nn pb.c1) (.slice pb.a2 K pb.c2) 48
   have BO : Below wr.heap.size wr W1:=by rw [hW1];exact bel1 _ _
   have z1 : W1.heap.size = wr.heap.size + 1:=by rw [hW1];simp
   rw [<- hW1] at RO
   have t0 : W1.cell? ⟨wr.heap.size,0,none⟩ = some (.int .i64 x.kind):=RO.cell (i:=0) (by omega)
   have t1 : W1.cell? ⟨wr.heap.size,1,none⟩ = some (.slice pb.a1 x.nn pb.c1):=RO.cell (i:=1) (by omega)
   have t2 : W1.cell? ⟨wr.heap.size,2,none⟩ = some (.slice pb.a2 K pb.c2):=RO.cell (i:=2) (by omega)
   clear RO
   have SK : Hid ((W1.alloc (.cells #[] 3)).ownsRow W1.heap.size 3 1 (.slice (some ⟨W1.heap.size,0,none⟩) 0 0) 0 (zcells (upZ x.kd 0))):=World.ownsRow_lit W1 #[] 0 (Nat.le_refl _) (by unfold maxLen;omega) (by rfl)
   obtain ⟨i1,hj0,hj1,hj2,hj3⟩:=info_parts Tryz.info3
   have li : (b : Int) < (i : Int):=by omega
   go_wp2
   rw [<- hW1]
   go_loopw [15,16] (fun v j wx=>∃ k : Nat,k <= K /\ j = .int .i64 k /\ wx.ownsRow W1.heap.size 3 1 v k (zcells (upZ x.kd k)) /\ Below W1.heap.size W1 wx) (fun _ j _=>K - (intOf j).toNat)
   case atStart=>exact ⟨0,Nat.zero_le _,rfl,by have:=SK.out;rw [z1] at this ⊢;exact this,bel1 _ _⟩
   case round=>
    rename World=>wx
    obtain ⟨k,hk,rfl,hO,hbx⟩:=hrel
    obtain ⟨ka,kc,rfl⟩:=own_form hO
    clear SK g0 g1 g2
    have c2 : wx.cell? ⟨wr.heap.size,2,none⟩ = some (.slice pb.a2 K pb.c2):=(hbx.cell (p:=⟨wr.heap.size,2,none⟩) (by show wr.heap.size < W1.heap.size;omega)).trans t2
    have BX : Below wr.heap.size wr wx:=BO.trans (hbx.mono BO.size)
    have hbxs:=hbx.size
    by_cases hkl : k < K
    case pos=>
     have NK:=NK0.out.below BX
     have e2:=NK.at_ (by omega)
     rw [e2] at c2
     have ck:=NK.cell k hkl
     clear NK e2
     go_wp2_with (first | (at_builtin;refine wpList_append_lies _ rfl _ _ 25 rfl W1.heap.size 3 i1 _ 1 8 Tryz.underlying25 hj0 hj1 hj2 hj3 rfl (by omega) (.slice ka k kc) k (zcells (upZ x.kd k)) rfl (hO.alloc _) ⟨wx.heap.size,0,none⟩ 1 1 [.int .i64 (x.kd k)] rfl rfl (cell_one_new _ _ _) (by simp [Value.oneCell']) (by omega) (by unfold maxLen;omega) (by omega) (by simp;omega) (wx.heap.size + 1) (by simp) ?_;intro gg cap3 w6 hown6 hg6 hat6 hlt6))
     have HN : Hid (w6.ownsRow W1.heap.size 3 1 (.slice (some ⟨gg,0,none⟩) (k + 1) cap3) (k + 1) (zcells (upZ x.kd (k + 1))) /\ Below W1.heap.size W1 w6):=
      ⟨by rw [upZ_succ];unfold zcells;rw [List.map_append];exact hown6,below_grown hbx hbxs hg6 (fun j hj=>(hO.lt j hj).1)⟩
     clear hown6 hg6 hat6 hO hbx BX
     go_wp2
     go_roundw
     case rel=>exact ⟨k + 1,by omega,by go_num,HN.out.1,HN.out.2⟩
     case measure=>simp [intOf];omega
    have hkK : k = K:=by omega
    rw [hkK] at hO ⊢
    clear hkK hkl hk
    have BWX : Below w.heap.size w wx:=BW.trans (BX.mono BW.size)
    go_wp2_with fail
    refine (d_take ca cb co L cc (P + 2) 3 C wx (HC.out wx BWX) hL (by omega) (by omega)).mono ?_
    rintro e w1 ⟨rfl,rfl⟩
    obtain ⟨m,hm⟩ : ∃ m,m = tk C L (P + 2) 3:=⟨_,rfl⟩
    have lm:=tk_le C L (P + 2) 3
    rw [<- hm] at lm ⊢
    have Hm : Hid (tk C L (P + 2) 3 = m):=hm.symm
    clear hm
    by_cases hm : m = 0
    case neg=>
     have qm : ((m : Int) == 0) = false:=beq_eq_false_iff_ne.2 (by omega)
     have HOY:=And.intro hO hbx
     have BY:=BX
     have HNM : Hid (StrsAt wx pb.a1 pb.b1 pb.o1 x.nn x.nm):=NB0.out.names.below BY
     have hsy:=HOY.2.size
     have hzy : wr.heap.size < wx.heap.size:=by omega
     have x0 : wx.cell? ⟨wr.heap.size,0,none⟩ = some (.int .i64 x.kind):=(HOY.2.cell (p:=⟨wr.heap.size,0,none⟩) (by show wr.heap.size < W1.heap.size;omega)).trans t0
     have x1 : wx.cell? ⟨wr.heap.size,1,none⟩ = some (.slice pb.a1 x.nn pb.c1):=(HOY.2.cell (p:=⟨wr.heap.size,1,none⟩) (by show wr.heap.size < W1.heap.size;omega)).trans t1
     go_wp2_with fail
     go_region_held3 (fun w'=>w'.cell? ⟨wr.heap.size,0,none⟩ = some (.int .i64 x.kind) /\ w'.cell? ⟨wr.heap.size,1,none⟩ = some (.slice pb.a1 x.nn pb.c1)) (go_keep)
      (first
       | (go_at_call 52;refine (d_names pb.a1 pb.b1 pb.o1 x.nn pb.c1 x.nm _ (by exact HNM.out.later (fun _=>rfl)) (by omega)).mono ?_;rintro e w3 ⟨oa3,cap3,rfl,hown3,hb3⟩;have y0:=(hb3.cell (p:=⟨wr.heap.size,0,none⟩) (by simp;omega)).trans x0;have y1:=(hb3.cell (p:=⟨wr.heap.size,1,none⟩) (by simp;omega)).trans x1;have C3 : Below wx.heap.size wx w3:=⟨hb3.os,hb3.tape,hb3.output,hb3.size,hb3.block⟩;have B3 : Below wr.heap.size wr w3:=BY.trans (C3.mono BY.size);have hz3 : wx.heap.size <= w3.heap.size:=C3.size;have OWN3 : w3.ownsRow W0.heap.size 48 3 (.slice (some ⟨gb,0,none⟩) i cap) i (ncells q (gd G) G.length):=own_block OWN (fun j e=>B3.block j (OWN.lt j e.symm).2))
       | (refine step_append_lies _ (by rfl) _ _ _ (by rfl) W0.heap.size 48 i0 _ 3 56 Tryz.underlying27 hi0 hz0 hz1 hz2 rfl (by omega) (.slice (some ⟨gb,0,none⟩) i cap) i (ncells q (gd G) G.length) (by rfl) (by exact OWN3.alloc _) ⟨w3.heap.size,0,none⟩ 1 1 [.int .i64 x.kind,.slice oa3 x.nn cap3,.slice ka K kc] (by rfl) (by rfl) (World.news_of_block (cs:=#[.int .i64 x.kind,.slice oa3 x.nn cap3,.slice ka K kc]) (t:=48) (fr:=(0,0)) (heap_alloc_new w3 _)) (by simp [Value.oneCell']) (by omega) (by unfold maxLen;omega) (by omega) (by simp;omega) (w3.heap.size + 1) (by simp) ?_;intro gg cap5 w5 hown5 hg5 hat5 hlt5;have bx : w5.heap[wr.heap.size]? = w3.heap[wr.heap.size]?:=(hg5.block _ (by simp;omega) (fun e=>by have:=(OWN.lt _ e.symm).2;omega)).trans (Below.heap_alloc _ _ _ (by omega));have x0':=(World.cell?_of_block (a:=⟨wr.heap.size,0,none⟩) bx).trans y0;have x1':=(World.cell?_of_block (a:=⟨wr.heap.size,1,none⟩) bx).trans y1))
     all_goals
      obtain ⟨g3,I3,IB3⟩:=own_strs hown3 (fun s hs=>by
       obtain ⟨k,hk,rfl⟩:=List.mem_map.1 hs
       exact Nat.le_trans (FB.size k (List.mem_range.1 hk)) (by omega))
      obtain ⟨gk,IK,IBK⟩:=own_zs HOY.1
      have NA : Hid (NodeAt w3 ⟨oa3,g3,0,cap3,ka,gk,0,kc⟩ (x)):=⟨I3.congr (fun j hj=>upS_get _ hj),by
       show IntsAt _ _ _ _ x.nk _
       rw [HKX.out]
       exact (IK.congr (fun j hj=>upZ_get _ hj)).later (fun z=>C3.block gk (IBK z).2.1)⟩
      have H1 : Hid (0 < x.nn -> g3 < w3.heap.size /\ some g3 ≠ (Value.slice (some ⟨gb,0,none⟩) i cap).ownBlock /\ g3 ≠ w.heap.size):=fun z=>by
       obtain ⟨u1,u2,_⟩:=IB3 z
       have u1' : wx.heap.size <= g3:=u1
       exact ⟨u2,own_ne OWN (by omega),by omega⟩
      have H2 : Hid (0 < x.nk -> gk < w3.heap.size /\ some gk ≠ (Value.slice (some ⟨gb,0,none⟩) i cap).ownBlock /\ gk ≠ w.heap.size):=fun z=>by
       rw [HKX.out] at z
       obtain ⟨u1,u2,_⟩:=IBK z
       exact ⟨by omega,own_ne OWN (by omega),by omega⟩
      have HO5 : Hid (w5.ownsRow W0.heap.size 48 3 (.slice (some ⟨gg,0,none⟩) (i + 1) cap5) (i + 1) (ncells q (gd G) G.length ++ [.int .i64 x.kind,.slice oa3 x.nn cap3,.slice ka x.nk kc])):=by
       rw [HKX.out];exact hown5
      have HX : Hid (nextN C L n i P G = (x,3)):=by
       show nextN C L n i P G = _
       unfold nextN
       rw [HA.out,if_neg h2,if_neg h3,if_neg h4,if_pos h5,Hb.out,HX0.out,Hm.out,HKX.out,if_neg (fun z=>hm z.1)]
      have FIN : Hid (Lq w.heap.size W0 w5 (.slice (some ⟨gg,0,none⟩) (i + 1) cap5) (fun k=>if k = i then ⟨oa3,g3,0,cap3,ka,gk,0,kc⟩ else q k) (drawN C L n p (i + 1)).1 /\ (drawN C L n p (i + 1)).2 = P + 3):=by
       refine ⟨?_,by rw [HN2.out,HX.out]⟩
       rw [HN1.out,HX.out]
       exact lq_step HQ.out HLEN.out B3 ⟨oa3,g3,0,cap3,ka,gk,0,kc⟩ (x) NA.out H1.out H2.out HO5.out ⟨hg5.os,hg5.tape,hg5.output,hg5.size,hg5.block⟩ hat5
      clear hown5 hg5 hat5 OWN hown3 hb3 I3 IB3 IK IBK OWN3
      go_wp2
      go_roundw
      case rel=>exact ⟨i + 1,_,by omega,by go_num,by rw [FIN.out.2] <;> first | rfl | go_num,FIN.out.1⟩
      case measure=>simp [intOf];omega
    case pos=>
     have qm : ((m : Int) == 0) = true:=by rw [beq_iff_eq];omega
     by_cases hk0 : 0 < K
     case neg=>
      have qn : ¬ (0 : Int) < (K : Int):=by omega
      have HOY:=And.intro hO hbx
      have BY:=BX
      have HNM : Hid (StrsAt wx pb.a1 pb.b1 pb.o1 x.nn x.nm):=NB0.out.names.below BY
      have hsy:=HOY.2.size
      have hzy : wr.heap.size < wx.heap.size:=by omega
      have x0 : wx.cell? ⟨wr.heap.size,0,none⟩ = some (.int .i64 x.kind):=(HOY.2.cell (p:=⟨wr.heap.size,0,none⟩) (by show wr.heap.size < W1.heap.size;omega)).trans t0
      have x1 : wx.cell? ⟨wr.heap.size,1,none⟩ = some (.slice pb.a1 x.nn pb.c1):=(HOY.2.cell (p:=⟨wr.heap.size,1,none⟩) (by show wr.heap.size < W1.heap.size;omega)).trans t1
      go_wp2_with fail
      go_region_held3 (fun w'=>w'.cell? ⟨wr.heap.size,0,none⟩ = some (.int .i64 x.kind) /\ w'.cell? ⟨wr.heap.size,1,none⟩ = some (.slice pb.a1 x.nn pb.c1)) (go_keep)
       (first
        | (go_at_call 52;refine (d_names pb.a1 pb.b1 pb.o1 x.nn pb.c1 x.nm _ (by exact HNM.out.later (fun _=>rfl)) (by omega)).mono ?_;rintro e w3 ⟨oa3,cap3,rfl,hown3,hb3⟩;have y0:=(hb3.cell (p:=⟨wr.heap.size,0,none⟩) (by simp;omega)).trans x0;have y1:=(hb3.cell (p:=⟨wr.heap.size,1,none⟩) (by simp;omega)).trans x1;have C3 : Below wx.heap.size wx w3:=⟨hb3.os,hb3.tape,hb3.output,hb3.size,hb3.block⟩;have B3 : Below wr.heap.size wr w3:=BY.trans (C3.mono BY.size);have hz3 : wx.heap.size <= w3.heap.size:=C3.size;have OWN3 : w3.ownsRow W0.heap.size 48 3 (.slice (some ⟨gb,0,none⟩) i cap) i (ncells q (gd G) G.length):=own_block OWN (fun j e=>B3.block j (OWN.lt j e.symm).2))
        | (refine step_append_lies _ (by rfl) _ _ _ (by rfl) W0.heap.size 48 i0 _ 3 56 Tryz.underlying27 hi0 hz0 hz1 hz2 rfl (by omega) (.slice (some ⟨gb,0,none⟩) i cap) i (ncells q (gd G) G.length) (by rfl) (by exact OWN3.alloc _) ⟨w3.heap.size,0,none⟩ 1 1 [.int .i64 x.kind,.slice oa3 x.nn cap3,.slice ka K kc] (by rfl) (by rfl) (World.news_of_block (cs:=#[.int .i64 x.kind,.slice oa3 x.nn cap3,.slice ka K kc]) (t:=48) (fr:=(0,0)) (heap_alloc_new w3 _)) (by simp [Value.oneCell']) (by omega) (by unfold maxLen;omega) (by omega) (by simp;omega) (w3.heap.size + 1) (by simp) ?_;intro gg cap5 w5 hown5 hg5 hat5 hlt5;have bx : w5.heap[wr.heap.size]? = w3.heap[wr.heap.size]?:=(hg5.block _ (by simp;omega) (fun e=>by have:=(OWN.lt _ e.symm).2;omega)).trans (Below.heap_alloc _ _ _ (by omega));have x0':=(World.cell?_of_block (a:=⟨wr.heap.size,0,none⟩) bx).trans y0;have x1':=(World.cell?_of_block (a:=⟨wr.heap.size,1,none⟩) bx).trans y1))
      all_goals
       obtain ⟨g3,I3,IB3⟩:=own_strs hown3 (fun s hs=>by
        obtain ⟨k,hk,rfl⟩:=List.mem_map.1 hs
        exact Nat.le_trans (FB.size k (List.mem_range.1 hk)) (by omega))
       obtain ⟨gk,IK,IBK⟩:=own_zs HOY.1
       have NA : Hid (NodeAt w3 ⟨oa3,g3,0,cap3,ka,gk,0,kc⟩ (x)):=⟨I3.congr (fun j hj=>upS_get _ hj),by
        show IntsAt _ _ _ _ x.nk _
        rw [HKX.out]
        exact (IK.congr (fun j hj=>upZ_get _ hj)).later (fun z=>C3.block gk (IBK z).2.1)⟩
       have H1 : Hid (0 < x.nn -> g3 < w3.heap.size /\ some g3 ≠ (Value.slice (some ⟨gb,0,none⟩) i cap).ownBlock /\ g3 ≠ w.heap.size):=fun z=>by
        obtain ⟨u1,u2,_⟩:=IB3 z
        have u1' : wx.heap.size <= g3:=u1
        exact ⟨u2,own_ne OWN (by omega),by omega⟩
       have H2 : Hid (0 < x.nk -> gk < w3.heap.size /\ some gk ≠ (Value.slice (some ⟨gb,0,none⟩) i cap).ownBlock /\ gk ≠ w.heap.size):=fun z=>by
        rw [HKX.out] at z
        obtain ⟨u1,u2,_⟩:=IBK z
        exact ⟨by omega,own_ne OWN (by omega),by omega⟩
       have HO5 : Hid (w5.ownsRow W0.heap.size 48 3 (.slice (some ⟨gg,0,none⟩) (i + 1) cap5) (i + 1) (ncells q (gd G) G.length ++ [.int .i64 x.kind,.slice oa3 x.nn cap3,.slice ka x.nk kc])):=by
        rw [HKX.out];exact hown5
       have HX : Hid (nextN C L n i P G = (x,3)):=by
        show nextN C L n i P G = _
        unfold nextN
        rw [HA.out,if_neg h2,if_neg h3,if_neg h4,if_pos h5,Hb.out,HX0.out,Hm.out,HKX.out,if_neg (fun z=>hk0 z.2)]
       have FIN : Hid (Lq w.heap.size W0 w5 (.slice (some ⟨gg,0,none⟩) (i + 1) cap5) (fun k=>if k = i then ⟨oa3,g3,0,cap3,ka,gk,0,kc⟩ else q k) (drawN C L n p (i + 1)).1 /\ (drawN C L n p (i + 1)).2 = P + 3):=by
        refine ⟨?_,by rw [HN2.out,HX.out]⟩
        rw [HN1.out,HX.out]
        exact lq_step HQ.out HLEN.out B3 ⟨oa3,g3,0,cap3,ka,gk,0,kc⟩ (x) NA.out H1.out H2.out HO5.out ⟨hg5.os,hg5.tape,hg5.output,hg5.size,hg5.block⟩ hat5
       clear hown5 hg5 hat5 OWN hown3 hb3 I3 IB3 IK IBK OWN3
       go_wp2
       go_roundw
       case rel=>exact ⟨i + 1,_,by omega,by go_num,by rw [FIN.out.2] <;> first | rfl | go_num,FIN.out.1⟩
       case measure=>simp [intOf];omega
     case pos=>
      have qn : (0 : Int) < (K : Int):=by omega
      go_wp2_with fail
      refine (d_take ca cb co L cc (P + 3) n C wx (HC.out wx BWX) hL (by omega) (by omega)).mono ?_
      rintro e w1 ⟨rfl,rfl⟩
      obtain ⟨v,hv⟩ : ∃ v,v = tk C L (P + 3) n:=⟨_,rfl⟩
      have lv:=tk_le C L (P + 3) n
      rw [<- hv] at lv ⊢
      have Hv : Hid (tk C L (P + 3) n = v):=hv.symm
      clear hv
      obtain ⟨gz,GZ,_⟩:=own_at hO
      obtain ⟨ez,z2,z3,_⟩:=GZ hk0
      subst ez
      obtain ⟨r,hr⟩ : ∃ r,K = r + 1:=⟨K - 1,by omega⟩
      have cz : wx.cell? ⟨gz,r,none⟩ = some (.int .i64 (x.kd r)):=by
       rw [hO.cellAt r (by omega)]
       simp [zcells,upZ,hr]
      have fz:=hO.frozenAt r
      have ST0:=hO.stored r (.int .i64 (v : Int))
      have ei : (K : Int) - 1 = (r : Int):=by omega
      have lr : (r : Int) < (K : Int):=by omega
      have HRR : Hid (K = r + 1):=hr
      clear hr
      obtain ⟨wy,hwy⟩ : ∃ wy,wy = wx.setCell ⟨gz,r,none⟩ (.int .i64 (v : Int)):=⟨_,rfl⟩
      rw [<- hwy] at ST0
      have HOY : wy.ownsRow W1.heap.size 3 1 (.slice (some ⟨gz,0,none⟩) K kc) K (zcells ((upZ x.kd K).set r (v : Int))) /\ Below W1.heap.size W1 wy:=by
       refine ⟨by have:=ST0.1;simpa [zcells] using this,?_⟩
       rw [hwy];exact hbx.setCell (by show W1.heap.size <= gz;exact z2) _
      have BY : Below wr.heap.size wr wy:=BO.trans (HOY.2.mono BO.size)
      clear ST0
      have HNM : Hid (StrsAt wy pb.a1 pb.b1 pb.o1 x.nn x.nm):=NB0.out.names.below BY
      have hsy:=HOY.2.size
      have hzy : wr.heap.size < wy.heap.size:=by omega
      have x0 : wy.cell? ⟨wr.heap.size,0,none⟩ = some (.int .i64 x.kind):=(HOY.2.cell (p:=⟨wr.heap.size,0,none⟩) (by show wr.heap.size < W1.heap.size;omega)).trans t0
      have x1 : wy.cell? ⟨wr.heap.size,1,none⟩ = some (.slice pb.a1 x.nn pb.c1):=(HOY.2.cell (p:=⟨wr.heap.size,1,none⟩) (by show wr.heap.size < W1.heap.size;omega)).trans t1
      go_wp2_with fail
      rw [<- hwy]
      clear cz fz hwy hO hbx BX
      go_region_held3 (fun w'=>w'.cell? ⟨wr.heap.size,0,none⟩ = some (.int .i64 x.kind) /\ w'.cell? ⟨wr.heap.size,1,none⟩ = some (.slice pb.a1 x.nn pb.c1)) (go_keep)
       (first
        | (go_at_call 52;refine (d_names pb.a1 pb.b1 pb.o1 x.nn pb.c1 x.nm _ (by exact HNM.out.later (fun _=>rfl)) (by omega)).mono ?_;rintro e w3 ⟨oa3,cap3,rfl,hown3,hb3⟩;have y0:=(hb3.cell (p:=⟨wr.heap.size,0,none⟩) (by simp;omega)).trans x0;have y1:=(hb3.cell (p:=⟨wr.heap.size,1,none⟩) (by simp;omega)).trans x1;have C3 : Below wy.heap.size wy w3:=⟨hb3.os,hb3.tape,hb3.output,hb3.size,hb3.block⟩;have B3 : Below wr.heap.size wr w3:=BY.trans (C3.mono BY.size);have hz3 : wy.heap.size <= w3.heap.size:=C3.size;have OWN3 : w3.ownsRow W0.heap.size 48 3 (.slice (some ⟨gb,0,none⟩) i cap) i (ncells q (gd G) G.length):=own_block OWN (fun j e=>B3.block j (OWN.lt j e.symm).2))
        | (refine step_append_lies _ (by rfl) _ _ _ (by rfl) W0.heap.size 48 i0 _ 3 56 Tryz.underlying27 hi0 hz0 hz1 hz2 rfl (by omega) (.slice (some ⟨gb,0,none⟩) i cap) i (ncells q (gd G) G.length) (by rfl) (by exact OWN3.alloc _) ⟨w3.heap.size,0,none⟩ 1 1 [.int .i64 x.kind,.slice oa3 x.nn cap3,.slice (some ⟨gz,0,none⟩) K kc] (by rfl) (by rfl) (World.news_of_block (cs:=#[.int .i64 x.kind,.slice oa3 x.nn cap3,.slice (some ⟨gz,0,none⟩) K kc]) (t:=48) (fr:=(0,0)) (heap_alloc_new w3 _)) (by simp [Value.oneCell']) (by omega) (by unfold maxLen;omega) (by omega) (by simp;omega) (w3.heap.size + 1) (by simp) ?_;intro gg cap5 w5 hown5 hg5 hat5 hlt5;have bx : w5.heap[wr.heap.size]? = w3.heap[wr.heap.size]?:=(hg5.block _ (by simp;omega) (fun e=>by have:=(OWN.lt _ e.symm).2;omega)).trans (Below.heap_alloc _ _ _ (by omega));have x0':=(World.cell?_of_block (a:=⟨wr.heap.size,0,none⟩) bx).trans y0;have x1':=(World.cell?_of_block (a:=⟨wr.heap.size,1,none⟩) bx).trans y1))
      all_goals
       obtain ⟨g3,I3,IB3⟩:=own_strs hown3 (fun s hs=>by
        obtain ⟨k,hk,rfl⟩:=List.mem_map.1 hs
        exact Nat.le_trans (FB.size k (List.mem_range.1 hk)) (by omega))
       obtain ⟨gk,IK,IBK⟩:=own_zs HOY.1
       have NA : Hid (NodeAt w3 ⟨oa3,g3,0,cap3,(some ⟨gz,0,none⟩),gk,0,kc⟩ (⟨x.kind,x.nn,x.nm,x.nk,copyK x (v : Int)⟩)):=⟨I3.congr (fun j hj=>upS_get _ hj),by
        show IntsAt _ _ _ _ x.nk _
        rw [HKX.out]
        exact (IK.congr (fun j hj=>copy_set x HKX.out HRR.out hj)).later (fun z=>C3.block gk (IBK z).2.1)⟩
       have H1 : Hid (0 < x.nn -> g3 < w3.heap.size /\ some g3 ≠ (Value.slice (some ⟨gb,0,none⟩) i cap).ownBlock /\ g3 ≠ w.heap.size):=fun z=>by
        obtain ⟨u1,u2,_⟩:=IB3 z
        have u1' : wy.heap.size <= g3:=u1
        exact ⟨u2,own_ne OWN (by omega),by omega⟩
       have H2 : Hid (0 < x.nk -> gk < w3.heap.size /\ some gk ≠ (Value.slice (some ⟨gb,0,none⟩) i cap).ownBlock /\ gk ≠ w.heap.size):=fun z=>by
        rw [HKX.out] at z
        obtain ⟨u1,u2,_⟩:=IBK z
        exact ⟨by omega,own_ne OWN (by omega),by omega⟩
       have HO5 : Hid (w5.ownsRow W0.heap.size 48 3 (.slice (some ⟨gg,0,none⟩) (i + 1) cap5) (i + 1) (ncells q (gd G) G.length ++ [.int .i64 x.kind,.slice oa3 x.nn cap3,.slice (some ⟨gz,0,none⟩) x.nk kc])):=by
        rw [HKX.out];exact hown5
       have HX : Hid (nextN C L n i P G = (⟨x.kind,x.nn,x.nm,x.nk,copyK x (v : Int)⟩,4)):=by
        show nextN C L n i P G = _
        unfold nextN
        rw [HA.out,if_neg h2,if_neg h3,if_neg h4,if_pos h5,Hb.out,HX0.out,Hm.out,HKX.out,if_pos ⟨hm,hk0⟩,Hv.out]
       have FIN : Hid (Lq w.heap.size W0 w5 (.slice (some ⟨gg,0,none⟩) (i + 1) cap5) (fun k=>if k = i then ⟨oa3,g3,0,cap3,(some ⟨gz,0,none⟩),gk,0,kc⟩ else q k) (drawN C L n p (i + 1)).1 /\ (drawN C L n p (i + 1)).2 = P + 4):=by
        refine ⟨?_,by rw [HN2.out,HX.out]⟩
        rw [HN1.out,HX.out]
        exact lq_step HQ.out HLEN.out B3 ⟨oa3,g3,0,cap3,(some ⟨gz,0,none⟩),gk,0,kc⟩ (⟨x.kind,x.nn,x.nm,x.nk,copyK x (v : Int)⟩) NA.out H1.out H2.out HO5.out ⟨hg5.os,hg5.tape,hg5.output,hg5.size,hg5.block⟩ hat5
       clear hown5 hg5 hat5 OWN hown3 hb3 I3 IB3 IK IBK OWN3
       go_wp2
       go_roundw
       case rel=>exact ⟨i + 1,_,by omega,by go_num,by rw [FIN.out.2] <;> first | rfl | go_num,FIN.out.1⟩
       case measure=>simp [intOf];omega
  by_cases h6 : a < 10
  case pos=>
   have q6 : (a : Int) < 10:=by omega
   by_cases h7 : a < 7
   case pos=>
    have q5 : (a : Int) < 7:=by omega
    have q7 : ¬ (0 : Int) < (i : Int):=by omega
    go_wp2_with fail
    refine (d_take ca cb co L cc (P + 1) n C wr (HC.out wr BW) hL (by omega) (by omega)).mono ?_
    rintro e w1 ⟨rfl,rfl⟩
    obtain ⟨b,hb⟩ : ∃ b,b = tk C L (P + 1) n:=⟨_,rfl⟩
    have lb:=tk_le C L (P + 1) n
    rw [<- hb] at lb ⊢
    have Hb : Hid (tk C L (P + 1) n = b):=hb.symm
    clear hb
    go_wp2_with fail
    refine (d_take ca cb co L cc (P + 2) n C wr (HC.out wr BW) hL (by omega) (by omega)).mono ?_
    rintro e w1 ⟨rfl,rfl⟩
    obtain ⟨k,hk⟩ : ∃ k,k = tk C L (P + 2) n:=⟨_,rfl⟩
    have lk:=tk_le C L (P + 2) n
    rw [<- hk] at lk ⊢
    have Hk : Hid (tk C L (P + 2) n = k):=hk.symm
    clear hk
    go_wp2_with (first | (at_builtin;refine wpList_append_lies _ rfl _ _ 27 rfl W0.heap.size 48 i0 _ 3 56 Tryz.underlying27 hi0 hz0 hz1 hz2 rfl (by omega) (.slice oa i cap) i (ncells q (gd G) G.length) rfl ((OWN.alloc _).alloc _) ⟨wr.heap.size + 1,0,none⟩ 1 1 [.int .i64 4,.slice none 0 0,.slice (some ⟨wr.heap.size,0,none⟩) 2 2] rfl rfl (World.news_of_block (cs:=#[.int .i64 4,.slice none 0 0,.slice (some ⟨wr.heap.size,0,none⟩) 2 2]) (t:=48) (fr:=(0,0)) (by have:=heap_alloc_new (wr.alloc (.cells #[.int .i64 (b : Int),.int .i64 (k : Int)] 3)) (.cells #[.int .i64 4,.slice none 0 0,.slice (some ⟨wr.heap.size,0,none⟩) 2 2] 48);simpa using this)) (by simp [Value.oneCell']) (by omega) (by unfold maxLen;omega) (by omega) (by simp;omega) (wr.heap.size + 1 + 1) (by simp) ?_;intro gg cap5 w5 hown5 hg5 hat5 hlt5))
    have R2:=row2 wr (.int .i64 (b : Int)) (.int .i64 (k : Int)) 3
    have NE:=own_ne OWN (Nat.le_refl _)
    have NA : Hid (NodeAt (wr.alloc (.cells #[.int .i64 (b : Int),.int .i64 (k : Int)] 3)) ⟨none,0,0,0,some ⟨wr.heap.size,0,none⟩,wr.heap.size,0,2⟩ (nodeL 4 [] [(b : Int),(k : Int)])):=
     ⟨none_strs _ _ _ _ _,⟨fun _=>rfl,fun j hj=>by
      rw [Nat.zero_add]
      refine (R2.cell (i:=j) hj).trans ?_
      match j,hj with
      | 0,_=>rfl
      | 1,_=>rfl,by show 2 <= _;omega⟩⟩
    have HX : Hid (nextN C L n i P G = (nodeL 4 [] [(b : Int),(k : Int)],3)):=by
     show nextN C L n i P G = _
     unfold nextN
     rw [HA.out,if_neg h2,if_neg h3,if_neg h4,if_neg h5,if_pos h6]
     rw [Hb.out,Hk.out]
    have FIN : Hid (Lq w.heap.size W0 w5 (.slice (some ⟨gg,0,none⟩) (i + 1) cap5) (fun k=>if k = i then ⟨none,0,0,0,some ⟨wr.heap.size,0,none⟩,wr.heap.size,0,2⟩ else q k) (drawN C L n p (i + 1)).1 /\ (drawN C L n p (i + 1)).2 = P + 3):=by
     refine ⟨?_,by rw [HN2.out,HX.out]⟩
     rw [HN1.out,HX.out]
     exact lq_step HQ.out HLEN.out (bel1 _ _) ⟨none,0,0,0,some ⟨wr.heap.size,0,none⟩,wr.heap.size,0,2⟩ (nodeL 4 [] [(b : Int),(k : Int)]) NA.out (fun z=>absurd z (Nat.lt_irrefl _)) (fun _=>⟨by simp,NE,by show wr.heap.size ≠ w.heap.size;omega⟩) hown5 hg5 (by simpa using hat5)
    clear hown5 hg5 hat5 OWN
    go_wp2
    go_roundw
    case rel=>exact ⟨i + 1,_,by omega,by go_num,by rw [FIN.out.2] <;> first | rfl | go_num,FIN.out.1⟩
    case measure=>simp [intOf];omega
   case neg=>
    have q5 : ¬ (a : Int) < 7:=by omega
    go_wp2_with fail
    refine (d_take ca cb co L cc (P + 1) n C wr (HC.out wr BW) hL (by omega) (by omega)).mono ?_
    rintro e w1 ⟨rfl,rfl⟩
    obtain ⟨b,hb⟩ : ∃ b,b = tk C L (P + 1) n:=⟨_,rfl⟩
    have lb:=tk_le C L (P + 1) n
    rw [<- hb] at lb ⊢
    have Hb : Hid (tk C L (P + 1) n = b):=hb.symm
    clear hb
    go_wp2_with fail
    refine (d_take ca cb co L cc (P + 2) n C wr (HC.out wr BW) hL (by omega) (by omega)).mono ?_
    rintro e w1 ⟨rfl,rfl⟩
    obtain ⟨k,hk⟩ : ∃ k,k = tk C L (P + 2) n:=⟨_,rfl⟩
    have lk:=tk_le C L (P + 2) n
    rw [<- hk] at lk ⊢
    have Hk : Hid (tk C L (P + 2) n = k):=hk.symm
    clear hk
    go_wp2_with (first | (at_builtin;refine wpList_append_lies _ rfl _ _ 27 rfl W0.heap.size 48 i0 _ 3 56 Tryz.underlying27 hi0 hz0 hz1 hz2 rfl (by omega) (.slice oa i cap) i (ncells q (gd G) G.length) rfl ((OWN.alloc _).alloc _) ⟨wr.heap.size + 1,0,none⟩ 1 1 [.int .i64 4,.slice none 0 0,.slice (some ⟨wr.heap.size,0,none⟩) 2 2] rfl rfl (World.news_of_block (cs:=#[.int .i64 4,.slice none 0 0,.slice (some ⟨wr.heap.size,0,none⟩) 2 2]) (t:=48) (fr:=(0,0)) (by have:=heap_alloc_new (wr.alloc (.cells #[.int .i64 (b : Int),.int .i64 (k : Int)] 3)) (.cells #[.int .i64 4,.slice none 0 0,.slice (some ⟨wr.heap.size,0,none⟩) 2 2] 48);simpa using this)) (by simp [Value.oneCell']) (by omega) (by unfold maxLen;omega) (by omega) (by simp;omega) (wr.heap.size + 1 + 1) (by simp) ?_;intro gg cap5 w5 hown5 hg5 hat5 hlt5))
    have R2:=row2 wr (.int .i64 (b : Int)) (.int .i64 (k : Int)) 3
    have NE:=own_ne OWN (Nat.le_refl _)
    have NA : Hid (NodeAt (wr.alloc (.cells #[.int .i64 (b : Int),.int .i64 (k : Int)] 3)) ⟨none,0,0,0,some ⟨wr.heap.size,0,none⟩,wr.heap.size,0,2⟩ (nodeL 4 [] [(b : Int),(k : Int)])):=
     ⟨none_strs _ _ _ _ _,⟨fun _=>rfl,fun j hj=>by
      rw [Nat.zero_add]
      refine (R2.cell (i:=j) hj).trans ?_
      match j,hj with
      | 0,_=>rfl
      | 1,_=>rfl,by show 2 <= _;omega⟩⟩
    have HX : Hid (nextN C L n i P G = (nodeL 4 [] [(b : Int),(k : Int)],3)):=by
     show nextN C L n i P G = _
     unfold nextN
     rw [HA.out,if_neg h2,if_neg h3,if_neg h4,if_neg h5,if_pos h6]
     rw [Hb.out,Hk.out]
    have FIN : Hid (Lq w.heap.size W0 w5 (.slice (some ⟨gg,0,none⟩) (i + 1) cap5) (fun k=>if k = i then ⟨none,0,0,0,some ⟨wr.heap.size,0,none⟩,wr.heap.size,0,2⟩ else q k) (drawN C L n p (i + 1)).1 /\ (drawN C L n p (i + 1)).2 = P + 3):=by
     refine ⟨?_,by rw [HN2.out,HX.out]⟩
     rw [HN1.out,HX.out]
     exact lq_step HQ.out HLEN.out (bel1 _ _) ⟨none,0,0,0,some ⟨wr.heap.size,0,none⟩,wr.heap.size,0,2⟩ (nodeL 4 [] [(b : Int),(k : Int)]) NA.out (fun z=>absurd z (Nat.lt_irrefl _)) (fun _=>⟨by simp,NE,by show wr.heap.size ≠ w.heap.size;omega⟩) hown5 hg5 (by simpa using hat5)
    clear hown5 hg5 hat5 OWN
    go_wp2
    go_roundw
    case rel=>exact ⟨i + 1,_,by omega,by go_num,by rw [FIN.out.2] <;> first | rfl | go_num,FIN.out.1⟩
    case measure=>simp [intOf];omega
  have q5 : ¬ (a : Int) < 7:=by omega
  have q6 : ¬ (a : Int) < 10:=by omega
  have SR:=rec_start wr
  obtain ⟨i1,hj0,hj1,hj2,hj3⟩:=info_parts Tryz.info3
  obtain ⟨i2,hk0,hk1,hk2,hk3⟩:=info_parts Tryz.info9
  go_wp2_with fail
  refine (d_take ca cb co L cc (P + 1) 3 C _ (HC.out _ (BW.trans ((bel2 wr _ _).mono BW.size))) hL (by omega) (by omega)).mono ?_
  rintro e w1 ⟨rfl,rfl⟩
  obtain ⟨m,hm⟩ : ∃ m,m = tk C L (P + 1) 3:=⟨_,rfl⟩
  have lm:=tk_le C L (P + 1) 3
  rw [<- hm] at lm ⊢
  have Hm : Hid (tk C L (P + 1) 3 = m):=hm.symm
  clear hm
  have lm' : m < 3:=by rw [<- Hm.out];exact tk_lt (by omega)
  go_wp2
  go_loopw [1,17,18,19] (fun s1 v1 v2 s19 wx=>∃ j : Nat,j <= m + 1 /\ s19 = .int .i64 j /\ s1 = .int .i64 ((P + 2 + 2 * j : Nat) : Int) /\ RecAt wr wx v1 v2 (recTo C L n (P + 2) j).1 (recTo C L n (P + 2) j).2) (fun _ _ _ s19 _=>m + 1 - (intOf s19).toNat)
  case atStart=>exact ⟨0,Nat.zero_le _,rfl,by first | rfl | go_num,SR⟩
  case round=>
   rename World=>wx
   obtain ⟨j,hj,rfl,rfl,hR⟩:=hrel
   clear SR
   obtain ⟨rf1,rf2,rf3,rf4,rf5⟩:=recTo_few C L n (P + 2) (by omega) j
   have HSZ : Hid (∀ s,s ∈ (recTo C L n (P + 2) j).1 -> s.size <= 12):=rf5
   have BX : Below w.heap.size w wx:=BW.trans (hR.below.mono BW.size)
   have HR1 : Hid (recTo C L n (P + 2) (j + 1) = if 0 < tk C L (P + 2 + 2 * j) 3 then ((recTo C L n (P + 2) j).1 ++ [ltr j],(recTo C L n (P + 2) j).2 ++ [(tk C L (P + 2 + 2 * j + 1) n : Int)]) else recTo C L n (P + 2) j):=by show recTo C L n (P + 2) (j + 1) = _;rfl
   have HEQ : Hid (j = m + 1 -> nextN C L n i P G = (nodeL 3 (recTo C L n (P + 2) j).1 (recTo C L n (P + 2) j).2,2 + 2 * j)):=fun e=>by
    unfold nextN
    rw [HA.out,if_neg h2,if_neg h3,if_neg h4,if_neg h5,if_neg h6,Hm.out,<- e]
   obtain ⟨R,hRe⟩ : ∃ R,R = recTo C L n (P + 2) j:=⟨_,rfl⟩
   rw [<- hRe] at hR rf1 rf2 rf3 HSZ HR1 HEQ
   clear rf4 rf5 hRe
   obtain ⟨ns,ks⟩:=R
   have HRA : Hid (RecAt wr wx _ _ ns ks):=hR
   have O1:=hR.o1
   have O2:=hR.o2
   have hbx:=hR.below.size
   obtain ⟨m1,hm1⟩ : ∃ m1,m1 = ns.length:=⟨_,rfl⟩
   obtain ⟨m2,hm2⟩ : ∃ m2,m2 = ks.length:=⟨_,rfl⟩
   have rf1' : m1 <= 4:=by have : ns.length <= j:=rf1;omega
   have rf2' : m2 <= 4:=by have : ks.length <= j:=rf2;omega
   have HM1 : Hid (ns.length = m1):=hm1.symm
   have HM2 : Hid (ks.length = m2):=hm2.symm
   simp only [<- hm1] at O1
   simp only [<- hm2] at O2
   clear hm1 hm2 rf1 rf2 rf3 hR
   obtain ⟨a1,c1,rfl⟩:=own_form O1
   obtain ⟨a2,c2,rfl⟩:=own_form O2
   by_cases hjm : j <= m
   case pos=>
    have qj : (j : Int) <= (m : Int):=by omega
    go_wp2_with fail
    refine (d_take ca cb co L cc (P + 2 + 2 * j) 3 C wx (HC.out wx BX) hL (by omega) (by omega)).mono ?_
    rintro e w1 ⟨rfl,rfl⟩
    obtain ⟨b,hb⟩ : ∃ b,b = tk C L (P + 2 + 2 * j) 3:=⟨_,rfl⟩
    have lb:=tk_le C L (P + 2 + 2 * j) 3
    rw [<- hb] at lb ⊢
    have Hb : Hid (tk C L (P + 2 + 2 * j) 3 = b):=hb.symm
    clear hb
    go_wp2_with fail
    refine (d_take ca cb co L cc (P + 2 + 2 * j + 1) n C wx (HC.out wx BX) hL (by omega) (by omega)).mono ?_
    rintro e w1 ⟨rfl,rfl⟩
    obtain ⟨k,hk⟩ : ∃ k,k = tk C L (P + 2 + 2 * j + 1) n:=⟨_,rfl⟩
    have lk:=tk_le C L (P + 2 + 2 * j + 1) n
    rw [<- hk] at lk ⊢
    have Hk : Hid (tk C L (P + 2 + 2 * j + 1) n = k):=hk.symm
    clear hk
    by_cases hb0 : 0 < b
    case neg=>
     have qb : ¬ (0 : Int) < (b : Int):=by omega
     have FR : Hid (RecAt wr wx (.slice a1 m1 c1) (.slice a2 m2 c2) (recTo C L n (P + 2) (j + 1)).1 (recTo C L n (P + 2) (j + 1)).2):=by
      rw [HR1.out,Hb.out,if_neg hb0];exact HRA.out
     clear O1 O2
     go_wp2
     go_roundw
     case rel=>exact ⟨j + 1,by omega,by go_num,by first | rfl | go_num,FR.out⟩
     case measure=>simp [intOf];omega
    case pos=>
     have qb : (0 : Int) < (b : Int):=by omega
     go_wp2_with fail
     refine (d_letter j wx (by omega)).mono ?_
     rintro e w1 ⟨rfl,rfl⟩
     go_wp2_with
      (first
      | (at_builtin;refine wpList_append_lies _ rfl _ _ 46 rfl wr.heap.size 9 i2 _ 1 16 Tryz.underlying46 hk0 hk1 hk2 hk3 rfl (by omega) (.slice a1 m1 c1) m1 (tcells ns) rfl (O1.alloc _) ⟨wx.heap.size,0,none⟩ 1 1 [.string (ltr j)] rfl rfl (cell_one_new _ _ _) (by simp [Value.oneCell']) (by omega) (by unfold maxLen;omega) (by omega) (by simp;omega) (wx.heap.size + 1) (by simp) ?_;intro g6 cap6 w6 hown6 hg6 hat6 hlt6;have O2' : w6.ownsRow wr.heap.size 3 1 (.slice a2 m2 c2) m2 (zcells ks):=(by have:=rec_mid HRA.out hg6;rw [HM2.out] at this;exact this);have hz6:=hg6.size)
      | (at_builtin;refine wpList_append_lies _ rfl _ _ 25 rfl wr.heap.size 3 i1 _ 1 8 Tryz.underlying25 hj0 hj1 hj2 hj3 rfl (by omega) (.slice a2 m2 c2) m2 (zcells ks) rfl (O2'.alloc _) ⟨w6.heap.size,0,none⟩ 1 1 [.int .i64 (k : Int)] rfl rfl (cell_one_new _ _ _) (by simp [Value.oneCell']) (by omega) (by unfold maxLen;omega) (by omega) (by simp at hz6 ⊢;omega) (w6.heap.size + 1) (by simp) ?_;intro g7 cap7 w7 hown7 hg7 hat7 hlt7))
     have FR : Hid (RecAt wr w7 (.slice (some ⟨g6,0,none⟩) (m1 + 1) cap6) (.slice (some ⟨g7,0,none⟩) (m2 + 1) cap7) (recTo C L n (P + 2) (j + 1)).1 (recTo C L n (P + 2) (j + 1)).2):=by
      rw [HR1.out,Hb.out,if_pos hb0,Hk.out]
      exact rec_push HRA.out HM1.out HM2.out hg6 hat6 hown6 hg7 hat7 hown7
     clear O1 O2 O2' hown6 hg6 hat6 hown7 hg7 hat7
     go_wp2
     go_roundw
     case rel=>exact ⟨j + 1,by omega,by go_num,by first | rfl | go_num,FR.out⟩
     case measure=>simp [intOf];omega
   have hjm' : j = m + 1:=by omega
   have qj : ¬ (j : Int) <= (m : Int):=by omega
   have OWNX : wx.ownsRow W0.heap.size 48 3 (.slice oa i cap) i (ncells q (gd G) G.length):=own_block OWN (fun t e=>HRA.out.below.block t (OWN.lt t e.symm).2)
   go_wp2_with (first | (at_builtin;refine wpList_append_lies _ rfl _ _ 27 rfl W0.heap.size 48 i0 _ 3 56 Tryz.underlying27 hi0 hz0 hz1 hz2 rfl (by omega) (.slice oa i cap) i (ncells q (gd G) G.length) rfl (OWNX.alloc _) ⟨wx.heap.size,0,none⟩ 1 1 [.int .i64 3,.slice a1 m1 c1,.slice a2 m2 c2] rfl rfl (World.news_of_block (cs:=#[.int .i64 3,.slice a1 m1 c1,.slice a2 m2 c2]) (t:=48) (fr:=(0,0)) (heap_alloc_new wx _)) (by simp [Value.oneCell']) (by omega) (by unfold maxLen;omega) (by omega) (by simp;omega) (wx.heap.size + 1) (by simp) ?_;intro gg cap5 w5 hown5 hg5 hat5 hlt5))
   obtain ⟨g1,I1,IB1⟩:=own_strs O1 (fun s hs=>Nat.le_trans (HSZ.out s hs) (by omega))
   obtain ⟨g2,I2,IB2⟩:=own_zs O2
   have NA : Hid (NodeAt wx ⟨a1,g1,0,c1,a2,g2,0,c2⟩ (nodeL 3 ns ks)):=⟨by show StrsAt _ _ _ _ ns.length _;rw [HM1.out];exact I1,by show IntsAt _ _ _ _ ks.length _;rw [HM2.out];exact I2⟩
   have H1 : Hid (0 < ns.length -> g1 < wx.heap.size /\ some g1 ≠ (Value.slice oa i cap).ownBlock /\ g1 ≠ w.heap.size):=fun z=>by
    rw [HM1.out] at z
    obtain ⟨u1,u2,_⟩:=IB1 z
    exact ⟨u2,own_ne OWN u1,by omega⟩
   have H2 : Hid (0 < ks.length -> g2 < wx.heap.size /\ some g2 ≠ (Value.slice oa i cap).ownBlock /\ g2 ≠ w.heap.size):=fun z=>by
    rw [HM2.out] at z
    obtain ⟨u1,u2,_⟩:=IB2 z
    exact ⟨u2,own_ne OWN u1,by omega⟩
   have HX : Hid (nextN C L n i P G = (nodeL 3 ns ks,2 + 2 * j)):=HEQ.out hjm'
   have FIN : Hid (Lq w.heap.size W0 w5 (.slice (some ⟨gg,0,none⟩) (i + 1) cap5) (fun k=>if k = i then ⟨a1,g1,0,c1,a2,g2,0,c2⟩ else q k) (drawN C L n p (i + 1)).1 /\ (drawN C L n p (i + 1)).2 = P + (2 + 2 * j)):=by
    refine ⟨?_,by rw [HN2.out,HX.out]⟩
    rw [HN1.out,HX.out]
    refine lq_step HQ.out HLEN.out HRA.out.below ⟨a1,g1,0,c1,a2,g2,0,c2⟩ (nodeL 3 ns ks) NA.out H1.out H2.out ?_ hg5 hat5
    show w5.ownsRow _ _ _ _ _ (_ ++ [.int .i64 3,.slice a1 ns.length c1,.slice a2 ks.length c2])
    rw [HM1.out,HM2.out]
    exact hown5
   clear hown5 hg5 hat5 OWN OWNX O1 O2 I1 I2 IB1 IB2
   go_wp2
   go_roundw
   case rel=>exact ⟨i + 1,_,by omega,by go_num,by rw [FIN.out.2] <;> first | rfl | go_num,FIN.out.1⟩
   case measure=>simp [intOf];omega
end Go.Proofs.YtpbpbppimkeodaaGreatDoor
