/-
  DrE
-/
import Derived.Test.YtpbpbppimkeodaaGreatDoorSs
set_option maxRecDepth 100000
namespace Go.Proofs.YtpbpbppimkeodaaGreatDoor
open Go.RowKit Go.Maps
set_option maxHeartbeats 16000000 in
theorem d_spoil (ca : Option Addr) (cb co L cc p gb gc n : Nat) (go : Option Addr) (C : Nat -> Nat) (G : List ND) (pq : Nat -> NP) (w : World) (h : BytesAt w ca cb co L C) (hg : NodesAt w go gb 0 n pq (gd G)) (hlen : G.length = n) (hF : ∀ j,j < n -> Few 3 (gd G j)) (hL : L <= 1048576) (hp : p <= 10000) (hn : n <= 24) :
  Calls Tryz.prog 92 #[.slice ca L cc,.int .i64 (p : Int),.agg #[.slice go n gc]] w fun e w'=>GraphPost1 w n (spoilL C L p G) e w':=by
 have HC : Hid (∀ w',Below w.heap.size w w' -> BytesAt w' ca cb co L C):=fun w' hb=>h.below hb
 have HG : Hid (∀ w',Below w.heap.size w w' -> NodesAt w' go gb 0 n pq (gd G)):=fun w' hb=>hg.below hb
 have HF : Hid (∀ j,j < n -> Few 3 (gd G j)):=hF
 have HLG : Hid (G.length = n):=hlen
 have AG:=hg.at_
 clear h hg hF hlen
 obtain ⟨W0,hW0⟩ : ∃ W0,W0 = (w.alloc (.cells #[.slice go n gc] 29)).alloc (.cells #[.slice none 0 0] 29):=⟨_,rfl⟩
 have B0 : Below w.heap.size w W0:=by rw [hW0];exact bel2 _ _ _
 have z0 : W0.heap.size = w.heap.size + 2:=by rw [hW0];simp
 have r0 : W0.rowIs (w.heap.size + 1) 29 1 (fun _=>.slice none 0 0):=by
  rw [hW0]
  have:=row1 (w.alloc (.cells #[.slice go n gc] 29)) (.slice none 0 0) 29
  simpa using this
 have rg : W0.rowIs w.heap.size 29 1 (fun _=>.slice go n gc):=by rw [hW0];exact (row1 _ _ _).alloc _
 have cg0 : W0.cell? ⟨w.heap.size,0,none⟩ = some (.slice go n gc):=rg.cell (i:=0) (by omega)
 have SA : Hid (Lq (w.heap.size + 1) W0 (W0.alloc (.cells #[] 48)) (.slice (some ⟨W0.heap.size,0,none⟩) 0 0) (fun _=>np0) []):=⟨World.ownsRow_lit W0 #[] 0 (Nat.le_refl _) (by unfold maxLen;omega) (by rfl),bel1 _ _,⟨by simp;omega,fun e=>by have : w.heap.size + 1 = W0.heap.size:=(by simpa [Value.ownBlock] using e);omega⟩,fun i hi=>absurd hi (Nat.not_lt_zero _)⟩
 obtain ⟨i0,hi0,hz0,hz1,hz2⟩:=info_parts Tryz.info48
 obtain ⟨i1,hj0,hj1,hj2,hj3⟩:=info_parts Tryz.info3
 have hA:=tk_lt (C:=C) (L:=L) (p:=p) (n:=7) (by omega)
 go_enter Tryz.func92,Tryz.ntmps92
 go_wp2_with fail
 rw [<- hW0]
 clear hW0
 refine (d_take ca cb co L cc p 7 C W0 (HC.out W0 B0) hL (by omega) (by omega)).mono ?_
 rintro e w1 ⟨rfl,rfl⟩
 obtain ⟨a,ha⟩ : ∃ a,a = tk C L p 7:=⟨_,rfl⟩
 rw [<- ha] at hA ⊢
 have HA : Hid (tk C L p 7 = a):=ha.symm
 clear ha
 go_wp2_with fail
 refine (d_take ca cb co L cc (p + 1) n C W0 (HC.out W0 B0) hL (by omega) (by omega)).mono ?_
 rintro e w1 ⟨rfl,rfl⟩
 obtain ⟨t,ht⟩ : ∃ t,t = tk C L (p + 1) n:=⟨_,rfl⟩
 have lt:=tk_le C L (p + 1) n
 rw [<- ht] at lt ⊢
 have HT : Hid (tk C L (p + 1) n = t):=ht.symm
 clear ht
 go_wp2
 go_loopw [9,10] (fun v s10 wr=>∃ (i : Nat) (q : Nat -> NP),i <= n /\ s10 = .int .i64 i /\ Lq (w.heap.size + 1) W0 wr v q (upN (spoilF C L p G) i)) (fun _ s10 _=>n - (intOf s10).toNat)
 case atStart=>
  have SA':=SA.out
  rw [z0] at SA'
  exact ⟨0,fun _=>np0,Nat.zero_le _,rfl,SA'⟩
 case round=>
  obtain ⟨i,q,hi,rfl,hQ⟩:=hrel
  clear SA
  have hlen:=upN_len (spoilF C L p G) i
  have cg : wr.cell? ⟨w.heap.size,0,none⟩ = some (.slice go n gc):=(hQ.below.cell (p:=⟨w.heap.size,0,none⟩) (by show w.heap.size < W0.heap.size;omega)).trans cg0
  by_cases hlt : i < n
  case neg=>
   have hin : i = n:=by omega
   subst hin
   have ho:=hQ.own
   rw [hlen] at ho
   obtain ⟨oa,cap,rfl⟩:=own_form ho
   have RR:=r0.of_block (hQ.below.block (w.heap.size + 1) (by omega))
   have k0:=RR.cell (i:=0) (by omega)
   have k1:=RR.frozen 0
   have FIN : Hid (∃ b,NodesAt (wr.setCell ⟨w.heap.size + 1,0,none⟩ (.slice oa i cap)) oa b 0 i q (gd (spoilL C L p G))):=by
    have:=lq_out hQ hlen (by omega) 0 (.slice oa i cap)
    unfold spoilL
    rw [HLG.out]
    exact this
   have BF : Hid (Below w.heap.size w (wr.setCell ⟨w.heap.size + 1,0,none⟩ (.slice oa i cap))):=(B0.trans (hQ.below.mono B0.size)).setCell (by show w.heap.size <= w.heap.size + 1;omega) _
   clear hQ ho RR
   go_wp2
   obtain ⟨b,FIN⟩:=FIN.out
   exact bodyPost_ret (v:=.agg #[.slice oa i cap]) (by simp [results,Tryz.results92,go_sem,k0]) rfl ⟨oa,cap,b,q,rfl,FIN,BF.out⟩
  have HN1 : Hid (upN (spoilF C L p G) (i + 1) = upN (spoilF C L p G) i ++ [if i = t then spoilD n a (gd G i) else gd G i]):=by
   show upN (spoilF C L p G) (i + 1) = _
   rw [upN_succ]
   unfold spoilF
   rw [HLG.out,HT.out,HA.out]
  obtain ⟨Z,hZ⟩ : ∃ Z,Z = upN (spoilF C L p G) i:=⟨_,rfl⟩
  rw [<- hZ] at HN1 hQ hlen
  clear hZ
  have OWN:=hQ.own
  rw [hlen] at OWN
  obtain ⟨oa,cap,rfl⟩:=own_form OWN
  rw [<- hlen] at OWN
  have HQ : Hid (Lq (w.heap.size + 1) W0 wr (.slice oa i cap) q Z):=hQ
  have HLEN : Hid (Z.length = i):=hlen
  have hbs : W0.heap.size <= wr.heap.size:=hQ.below.size
  have BW : Below w.heap.size w wr:=B0.trans (hQ.below.mono B0.size)
  have OWN : wr.ownsRow W0.heap.size 48 3 (.slice oa i cap) i (ncells q (gd Z) Z.length):=by have:=hQ.own;rw [hlen] at this ⊢;exact this
  clear hQ hlen
  have eg:=AG (by omega)
  subst eg
  have NG:=HG.out wr BW
  have g0:=NG.c0 i hlt
  have g1:=NG.c1 i hlt
  have g2:=NG.c2 i hlt
  simp only [Nat.zero_add] at g0 g1 g2
  have NB0 : Hid (NodeAt wr (pq i) (gd G i)):=NG.node i hlt
  have FB:=HF.out i hlt
  have HLT : Hid ((0 < (gd G i).nn -> (pq i).b1 < w.heap.size) /\ (0 < (gd G i).nk -> (pq i).b2 < w.heap.size)):=by
   have:=(HG.out w (Below.refl _ _)).node i hlt
   exact ⟨fun z=>blt (this.names.cell 0 z),fun z=>blt (this.kids.cell 0 z)⟩
  clear NG
  obtain ⟨x,hx⟩ : ∃ x,x = gd G i:=⟨_,rfl⟩
  obtain ⟨pb,hpb⟩ : ∃ x,x = pq i:=⟨_,rfl⟩
  rw [<- hx] at g0 g1 g2 NB0 FB HN1 HLT
  rw [<- hpb] at g1 g2 NB0 HLT
  clear hx hpb
  have fk:=FB.kind
  have fn1:=FB.nn
  have fn2:=FB.nk
  obtain ⟨W1,hW1⟩ : ∃ W1,W1 = wr.alloc (.cells #[.int .i64 x.kind,.slice pb.a1 x.nn pb.c1,.slice pb.a2 x.nk pb.c2] 48):=⟨_,rfl⟩
  have RO:=row3 wr (.int .i64 x.kind) (.slice pb.a1 x.nn pb.c1) (.slice pb.a2 x.nk pb.c2) 48
  have BO : Below wr.heap.size wr W1:=by rw [hW1];exact bel1 _ _
  have z1 : W1.heap.size = wr.heap.size + 1:=by rw [hW1];simp
  rw [<- hW1] at RO
  have t0 : W1.cell? ⟨wr.heap.size,0,none⟩ = some (.int .i64 x.kind):=RO.cell (i:=0) (by omega)
  have t1 : W1.cell? ⟨wr.heap.size,1,none⟩ = some (.slice pb.a1 x.nn pb.c1):=RO.cell (i:=1) (by omega)
  have t2 : W1.cell? ⟨wr.heap.size,2,none⟩ = some (.slice pb.a2 x.nk pb.c2):=RO.cell (i:=2) (by omega)
  have u0:=RO.frozen 0
  have u1:=RO.frozen 1
  have u2:=RO.frozen 2
  have cg1 : W1.cell? ⟨w.heap.size,0,none⟩ = some (.slice (some ⟨gb,0,none⟩) n gc):=(BO.cell (p:=⟨w.heap.size,0,none⟩) (by show w.heap.size < wr.heap.size;omega)).trans cg
  have cgA : ∀ o,(wr.alloc o).cell? ⟨w.heap.size,0,none⟩ = some (.slice (some ⟨gb,0,none⟩) n gc):=fun o=>((bel1 wr o).cell (p:=⟨w.heap.size,0,none⟩) (by show w.heap.size < wr.heap.size;omega)).trans cg
  have li : (i : Int) < (n : Int):=by omega
  have hne0 : ¬ (w.heap.size = wr.heap.size):=by omega
  have hne1 : ¬ (wr.heap.size = w.heap.size):=by omega
  have HNA : Hid (∀ w',Below wr.heap.size wr w' -> NodeAt w' pb x):=fun w' hb=>NB0.out.below hb
  have HS1 : Hid (0 < x.nn -> pb.b1 < wr.heap.size /\ some pb.b1 ≠ (Value.slice oa i cap).ownBlock /\ pb.b1 ≠ w.heap.size + 1):=fun z=>⟨by have:=HLT.out.1 z;omega,fun e=>by have:=(OWN.lt _ e.symm).1;have:=HLT.out.1 z;omega,by have:=HLT.out.1 z;omega⟩
  have HS2 : Hid (0 < x.nk -> pb.b2 < wr.heap.size /\ some pb.b2 ≠ (Value.slice oa i cap).ownBlock /\ pb.b2 ≠ w.heap.size + 1):=fun z=>⟨by have:=HLT.out.2 z;omega,fun e=>by have:=(OWN.lt _ e.symm).1;have:=HLT.out.2 z;omega,by have:=HLT.out.2 z;omega⟩
  have ROB : Hid (W1.rowIs wr.heap.size 48 3 (v3 (.int .i64 x.kind) (.slice pb.a1 x.nn pb.c1) (.slice pb.a2 x.nk pb.c2))):=RO
  clear RO
  by_cases hit : i = t
  case neg=>
   have qt : ((i : Int) == (t : Int)) = false:=beq_eq_false_iff_ne.2 (by omega)
   have BZ : Below wr.heap.size wr W1:=BO
   have OWNZ : (W1).ownsRow W0.heap.size 48 3 (.slice oa i cap) i (ncells q (gd Z) Z.length):=own_block OWN (fun j e=>BZ.block j (OWN.lt j e.symm).2)
   have NA : Hid (NodeAt W1 pb (x)):=HNA.out _ BO
   go_wp2_with (first | (at_builtin;rw [<- hW1];refine wpList_append_lies _ rfl _ _ 27 rfl W0.heap.size 48 i0 _ 3 56 Tryz.underlying27 hi0 hz0 hz1 hz2 rfl (by omega) (.slice oa i cap) i (ncells q (gd Z) Z.length) rfl (OWNZ.alloc _) ⟨wr.heap.size + 1,0,none⟩ 1 1 [.int .i64 x.kind,.slice pb.a1 x.nn pb.c1,.slice pb.a2 x.nk pb.c2] rfl rfl (World.news_of_block (cs:=#[.int .i64 x.kind,.slice pb.a1 x.nn pb.c1,.slice pb.a2 x.nk pb.c2]) (t:=48) (fr:=(0,0)) (by have:=heap_alloc_new W1 (.cells #[.int .i64 x.kind,.slice pb.a1 x.nn pb.c1,.slice pb.a2 x.nk pb.c2] 48);first | simpa using this | simpa [z1] using this)) (by simp [Value.oneCell']) (by omega) (by unfold maxLen;omega) (by omega) (by simp;omega) (wr.heap.size + 1 + 1) (by first | (simp;done) | (simp [z1];done)) ?_;intro gg cap5 w5 hown5 hg5 hat5 hlt5))
   have FIN : Hid (Lq (w.heap.size + 1) W0 w5 (.slice (some ⟨gg,0,none⟩) (i + 1) cap5) (fun k=>if k = i then pb else q k) (upN (spoilF C L p G) (i + 1))):=by
    rw [HN1.out,if_neg hit]
    exact lq_step HQ.out HLEN.out BZ pb (x) NA.out (fun z=>⟨by have:=(HS1.out z).1;simp;omega,(HS1.out z).2⟩) (fun z=>⟨by have:=(HS2.out z).1;simp;omega,(HS2.out z).2⟩) hown5 hg5 (by first | simpa using hat5 | simpa [z1] using hat5)
   clear hown5 hg5 hat5 OWN OWNZ NA
   go_wp2
   go_roundw
   case rel=>first | exact ⟨i + 1,(fun k=>if k = i then pb else q k),by omega,by go_num,FIN.out⟩ | exact ⟨i + 1,by omega,by go_num,(fun k=>if k = i then pb else q k),FIN.out⟩
   case measure=>simp [intOf];omega
  have qt : ((i : Int) == (t : Int)) = true:=by rw [beq_iff_eq];omega
  have HIT : Hid (i = t):=hit
  clear hit
  match a,hA with
  | 0,_=>
    have BZ : Below wr.heap.size wr (wr.alloc (.cells #[(.int .i64 5),.slice pb.a1 x.nn pb.c1,.slice pb.a2 x.nk pb.c2] 48)):=bel1 _ _
    have OWNZ : ((wr.alloc (.cells #[(.int .i64 5),.slice pb.a1 x.nn pb.c1,.slice pb.a2 x.nk pb.c2] 48))).ownsRow W0.heap.size 48 3 (.slice oa i cap) i (ncells q (gd Z) Z.length):=own_block OWN (fun j e=>BZ.block j (OWN.lt j e.symm).2)
    have NA : Hid (NodeAt (wr.alloc (.cells #[(.int .i64 5),.slice pb.a1 x.nn pb.c1,.slice pb.a2 x.nk pb.c2] 48)) pb (⟨5,x.nn,x.nm,x.nk,x.kd⟩)):=⟨(HNA.out _ (bel1 _ _)).names,(HNA.out _ (bel1 _ _)).kids⟩
    go_wp2_with (first | (at_builtin;refine wpList_append_lies _ rfl _ _ 27 rfl W0.heap.size 48 i0 _ 3 56 Tryz.underlying27 hi0 hz0 hz1 hz2 rfl (by omega) (.slice oa i cap) i (ncells q (gd Z) Z.length) rfl (OWNZ.alloc _) ⟨wr.heap.size + 1,0,none⟩ 1 1 [.int .i64 5,.slice pb.a1 x.nn pb.c1,.slice pb.a2 x.nk pb.c2] rfl rfl (World.news_of_block (cs:=#[.int .i64 5,.slice pb.a1 x.nn pb.c1,.slice pb.a2 x.nk pb.c2]) (t:=48) (fr:=(0,0)) (by have:=heap_alloc_new (wr.alloc (.cells #[(.int .i64 5),.slice pb.a1 x.nn pb.c1,.slice pb.a2 x.nk pb.c2] 48)) (.cells #[.int .i64 5,.slice pb.a1 x.nn pb.c1,.slice pb.a2 x.nk pb.c2] 48);first | simpa using this | simpa [z1] using this)) (by simp [Value.oneCell']) (by omega) (by unfold maxLen;omega) (by omega) (by simp;omega) (wr.heap.size + 1 + 1) (by first | (simp;done) | (simp [z1];done)) ?_;intro gg cap5 w5 hown5 hg5 hat5 hlt5))
    have FIN : Hid (Lq (w.heap.size + 1) W0 w5 (.slice (some ⟨gg,0,none⟩) (i + 1) cap5) (fun k=>if k = i then pb else q k) (upN (spoilF C L p G) (i + 1))):=by
     rw [HN1.out,if_pos HIT.out,show spoilD n 0 x = ⟨5,x.nn,x.nm,x.nk,x.kd⟩ from rfl]
     exact lq_step HQ.out HLEN.out BZ pb (⟨5,x.nn,x.nm,x.nk,x.kd⟩) NA.out (fun z=>⟨by have:=(HS1.out z).1;simp;omega,(HS1.out z).2⟩) (fun z=>⟨by have:=(HS2.out z).1;simp;omega,(HS2.out z).2⟩) hown5 hg5 (by first | simpa using hat5 | simpa [z1] using hat5)
    clear hown5 hg5 hat5 OWN OWNZ NA
    go_wp2
    go_roundw
    case rel=>first | exact ⟨i + 1,(fun k=>if k = i then pb else q k),by omega,by go_num,FIN.out⟩ | exact ⟨i + 1,by omega,by go_num,(fun k=>if k = i then pb else q k),FIN.out⟩
    case measure=>simp [intOf];omega
  | 1,_=>
    by_cases hk0 : 0 < x.nk
    case pos=>
     have e2:=(HNA.out _ BO).kids.at_ hk0
     rw [e2] at t2 hW1
     obtain ⟨WL,hWL⟩ : ∃ WL,WL = W1.alloc (.cells #[.int .i64 (n : Int)] 3):=⟨_,rfl⟩
     have zL : WL.heap.size = wr.heap.size + 1 + 1:=by rw [hWL];simp [z1]
     have OL : WL.ownsRow (wr.heap.size + 1) 3 1 (.slice (some ⟨wr.heap.size + 1,0,none⟩) 1 1) 1 [.int .i64 (n : Int)]:=by
      have:=World.ownsRow_lit (base:=wr.heap.size + 1) (e:=3) (size:=1) W1 #[.int .i64 (n : Int)] 1 (by omega) (by unfold maxLen;omega) (by rfl)
      rw [z1] at this;rw [hWL];exact this
     have BL : Below wr.heap.size wr WL:=by rw [hWL];exact BO.alloc BO.size _
     have HNEWS : ∀ j u,(zcells (upZ x.kd x.nk))[j]? = some u -> WL.cell? ((⟨pb.b2,pb.o2,none⟩ : Addr).add j) = some u:=fun j u hu=>by
      have hj : j < x.nk:=by
       have:=(List.getElem?_eq_some_iff.1 hu).1
       simpa [zcells,upZ] using this
      have ck:=(HNA.out _ BL).kids.cell j hj
      have : u = .int .i64 (x.kd j):=by
       simp [zcells,upZ,hj] at hu;exact hu.symm
      rw [this]
      rw [Go.WideShapes.add_plain];exact ck
     have RL : WL.rowIs wr.heap.size 48 3 (v3 (.int .i64 x.kind) (.slice pb.a1 x.nn pb.c1) (.slice (some ⟨pb.b2,pb.o2,none⟩) x.nk pb.c2)):=by
      rw [hWL];have:=ROB.out;rw [e2] at this;exact this.alloc _
     go_wp2_with
      (first
      | (at_builtin;rw [<- hW1,<- hWL];refine wpList_append_lies _ rfl _ _ 25 rfl (wr.heap.size + 1) 3 i1 _ 1 8 Tryz.underlying25 hj0 hj1 hj2 hj3 rfl (by omega) (.slice (some ⟨wr.heap.size + 1,0,none⟩) 1 1) 1 [.int .i64 (n : Int)] rfl OL ⟨pb.b2,pb.o2,none⟩ x.nk pb.c2 (zcells (upZ x.kd x.nk)) rfl (by simp [zcells,upZ]) HNEWS (by intro u hu;simp [zcells] at hu;obtain ⟨z,_,rfl⟩:=hu;rfl) hk0 (by unfold maxLen;omega) (by omega) (by omega) WL.heap.size rfl ?_;intro g6 cap6 w6 hown6 hg6 hat6 hlt6;have b6 : w6.heap[wr.heap.size]? = WL.heap[wr.heap.size]?:=hg6.block _ (by omega) (by simp [Value.ownBlock]);have R6:=RL.of_block b6;have y0 : w6.cell? ⟨wr.heap.size,0,none⟩ = some (.int .i64 x.kind):=R6.cell (i:=0) (by omega);have y1 : w6.cell? ⟨wr.heap.size,1,none⟩ = some (.slice pb.a1 x.nn pb.c1):=R6.cell (i:=1) (by omega);have y2 : w6.cell? ⟨wr.heap.size,2,none⟩ = some (.slice (some ⟨pb.b2,pb.o2,none⟩) x.nk pb.c2):=R6.cell (i:=2) (by omega);have v2':=R6.frozen 2;have B6 : Below wr.heap.size wr w6:=⟨hg6.os.trans BL.os,hg6.tape.trans BL.tape,hg6.output.trans BL.output,Nat.le_trans BL.size hg6.size,fun j hj=>(hg6.block j (by omega) (fun e=>by have : j = wr.heap.size + 1:=(by simpa [Value.ownBlock] using e);omega)).trans (BL.block j hj)⟩;have BZ : Below wr.heap.size wr (w6.setCell ⟨wr.heap.size,2,none⟩ (.slice (some ⟨g6,0,none⟩) (1 + x.nk) cap6)):=B6.setCell (Nat.le_refl _) _;have OWNZ : (w6.setCell ⟨wr.heap.size,2,none⟩ (.slice (some ⟨g6,0,none⟩) (1 + x.nk) cap6)).ownsRow W0.heap.size 48 3 (.slice oa i cap) i (ncells q (gd Z) Z.length):=own_block OWN (fun j e=>BZ.block j (OWN.lt j e.symm).2);have hz6 : wr.heap.size + 1 + 1 <= w6.heap.size:=(by have:=hg6.size;omega))
      | (at_builtin;refine wpList_append_lies _ rfl _ _ 27 rfl W0.heap.size 48 i0 _ 3 56 Tryz.underlying27 hi0 hz0 hz1 hz2 rfl (by omega) (.slice oa i cap) i (ncells q (gd Z) Z.length) rfl (OWNZ.alloc _) ⟨w6.heap.size,0,none⟩ 1 1 [.int .i64 x.kind,.slice pb.a1 x.nn pb.c1,.slice (some ⟨g6,0,none⟩) (1 + x.nk) cap6] rfl rfl (World.news_of_block (cs:=#[.int .i64 x.kind,.slice pb.a1 x.nn pb.c1,.slice (some ⟨g6,0,none⟩) (1 + x.nk) cap6]) (t:=48) (fr:=(0,0)) (by have:=heap_alloc_new (w6.setCell ⟨wr.heap.size,2,none⟩ (.slice (some ⟨g6,0,none⟩) (1 + x.nk) cap6)) (.cells #[.int .i64 x.kind,.slice pb.a1 x.nn pb.c1,.slice (some ⟨g6,0,none⟩) (1 + x.nk) cap6] 48);first | simpa using this | simpa using this)) (by simp [Value.oneCell']) (by omega) (by unfold maxLen;omega) (by omega) (by simp;omega) (w6.heap.size + 1) (by first | (simp;done) | (simp [z1];done)) ?_;intro gg cap5 w5 hown5 hg5 hat5 hlt5))
     have FIN : Hid (∃ p',Lq (w.heap.size + 1) W0 w5 (.slice (some ⟨gg,0,none⟩) (i + 1) cap5) (fun k=>if k = i then p' else q k) (upN (spoilF C L p G) (i + 1))):=by
      have hO : w6.ownsRow (wr.heap.size + 1) 3 1 (.slice (some ⟨g6,0,none⟩) (1 + x.nk) cap6) (1 + x.nk) (zcells ((n : Int) :: upZ x.kd x.nk)):=by simpa [zcells] using hown6
      obtain ⟨gk,IK,IBK⟩:=own_zs hO
      obtain ⟨k1,k2,_⟩:=IBK (by omega)
      refine ⟨⟨pb.a1,pb.b1,pb.o1,pb.c1,some ⟨g6,0,none⟩,gk,0,cap6⟩,?_⟩
      rw [HN1.out,if_pos HIT.out,show spoilD n 1 x = ⟨x.kind,x.nn,x.nm,1 + x.nk,fun j=>((n : Int) :: upZ x.kd x.nk).getD j 0⟩ from rfl]
      refine lq_step HQ.out HLEN.out BZ ⟨pb.a1,pb.b1,pb.o1,pb.c1,some ⟨g6,0,none⟩,gk,0,cap6⟩ ⟨x.kind,x.nn,x.nm,1 + x.nk,fun j=>((n : Int) :: upZ x.kd x.nk).getD j 0⟩ ⟨(HNA.out _ BZ).names,IK.later (fun _=>Below.heap_setCell _ _ _ _ (by show gk ≠ wr.heap.size;omega))⟩ ?_ ?_ hown5 hg5 (by simpa using hat5)
      ·exact fun z=>⟨by have:=(HS1.out z).1;simp;omega,(HS1.out z).2⟩
      ·exact fun _=>⟨by simp;exact k2,own_ne OWN (by show wr.heap.size <= gk;omega),by show gk ≠ w.heap.size + 1;omega⟩
     clear hown5 hg5 hat5 OWN OWNZ hown6 hg6 hat6 OL R6 RL
     go_wp2
     obtain ⟨p',FIN⟩:=FIN.out
     go_roundw
     case rel=>first | exact ⟨i + 1,(fun k=>if k = i then p' else q k),by omega,by go_num,FIN⟩ | exact ⟨i + 1,by omega,by go_num,(fun k=>if k = i then p' else q k),FIN⟩
     case measure=>simp [intOf];omega
    case neg=>
     have HK0 : Hid (x.nk = 0):=by show x.nk = 0;omega
     clear hk0
     have HSRC : ∀ W : World,Src Tryz.prog i1.size 25 (.slice pb.a2 x.nk pb.c2) 0 [] W:=fun W=>by rw [HK0.out];exact src_zero Tryz.underlying25 _ _
     have BZ : Below wr.heap.size wr ((wr.alloc (.cells #[.int .i64 x.kind,.slice pb.a1 x.nn pb.c1,.slice (some ⟨wr.heap.size + 1,0,none⟩) 1 1] 48)).alloc (.cells #[.int .i64 (n : Int)] 3)):=bel2 _ _ _
     have OWNZ : ((wr.alloc (.cells #[.int .i64 x.kind,.slice pb.a1 x.nn pb.c1,.slice (some ⟨wr.heap.size + 1,0,none⟩) 1 1] 48)).alloc (.cells #[.int .i64 (n : Int)] 3)).ownsRow W0.heap.size 48 3 (.slice oa i cap) i (ncells q (gd Z) Z.length):=own_block OWN (fun j e=>BZ.block j (OWN.lt j e.symm).2)
     go_wp2_with
      (first
      | (at_builtin;refine wpList_append_zero _ rfl _ _ 25 rfl i1 Tryz.underlying25 hj0 (some ⟨wr.heap.size + 1,0,none⟩) 1 1 (Nat.le_refl _) (.slice pb.a2 x.nk pb.c2) rfl rfl (HSRC _) ?_)
      | (at_builtin;refine wpList_append_lies _ rfl _ _ 27 rfl W0.heap.size 48 i0 _ 3 56 Tryz.underlying27 hi0 hz0 hz1 hz2 rfl (by omega) (.slice oa i cap) i (ncells q (gd Z) Z.length) rfl (OWNZ.alloc _) ⟨wr.heap.size + 1 + 1,0,none⟩ 1 1 [.int .i64 x.kind,.slice pb.a1 x.nn pb.c1,.slice (some ⟨wr.heap.size + 1,0,none⟩) 1 1] rfl rfl (World.news_of_block (cs:=#[.int .i64 x.kind,.slice pb.a1 x.nn pb.c1,.slice (some ⟨wr.heap.size + 1,0,none⟩) 1 1]) (t:=48) (fr:=(0,0)) (by have:=heap_alloc_new ((wr.alloc (.cells #[.int .i64 x.kind,.slice pb.a1 x.nn pb.c1,.slice (some ⟨wr.heap.size + 1,0,none⟩) 1 1] 48)).alloc (.cells #[.int .i64 (n : Int)] 3)) (.cells #[.int .i64 x.kind,.slice pb.a1 x.nn pb.c1,.slice (some ⟨wr.heap.size + 1,0,none⟩) 1 1] 48);first | simpa using this | simpa [z1] using this)) (by simp [Value.oneCell']) (by omega) (by unfold maxLen;omega) (by omega) (by simp;omega) (wr.heap.size + 1 + 1 + 1) (by first | (simp;done) | (simp [z1];done)) ?_;intro gg cap5 w5 hown5 hg5 hat5 hlt5))
     have FIN : Hid (∃ p',Lq (w.heap.size + 1) W0 w5 (.slice (some ⟨gg,0,none⟩) (i + 1) cap5) (fun k=>if k = i then p' else q k) (upN (spoilF C L p G) (i + 1))):=by
      have e2:=one_ints (wr.alloc (.cells #[.int .i64 x.kind,.slice pb.a1 x.nn pb.c1,.slice (some ⟨wr.heap.size + 1,0,none⟩) 1 1] 48)) (n : Int)
      simp only [World.size_alloc] at e2
      have ed : (⟨x.kind,x.nn,x.nm,1 + x.nk,fun j=>((n : Int) :: upZ x.kd x.nk).getD j 0⟩ : ND) = ⟨x.kind,x.nn,x.nm,1,fun j=>[(n : Int)].getD j 0⟩:=by rw [HK0.out];rfl
      refine ⟨⟨pb.a1,pb.b1,pb.o1,pb.c1,some ⟨wr.heap.size + 1,0,none⟩,wr.heap.size + 1,0,1⟩,?_⟩
      rw [HN1.out,if_pos HIT.out,show spoilD n 1 x = ⟨x.kind,x.nn,x.nm,1 + x.nk,fun j=>((n : Int) :: upZ x.kd x.nk).getD j 0⟩ from rfl,ed]
      refine lq_step HQ.out HLEN.out BZ ⟨pb.a1,pb.b1,pb.o1,pb.c1,some ⟨wr.heap.size + 1,0,none⟩,wr.heap.size + 1,0,1⟩ ⟨x.kind,x.nn,x.nm,1,fun j=>[(n : Int)].getD j 0⟩ ⟨(HNA.out _ BZ).names,e2⟩ ?_ ?_ hown5 hg5 (by first | simpa using hat5 | simpa [z1] using hat5)
      ·exact fun z=>⟨by have:=(HS1.out z).1;simp;omega,(HS1.out z).2⟩
      ·exact fun _=>⟨by simp,own_ne OWN (by show wr.heap.size <= wr.heap.size + 1;omega),by show wr.heap.size + 1 ≠ w.heap.size + 1;omega⟩
     clear hown5 hg5 hat5 OWN OWNZ
     go_wp2
     obtain ⟨p',FIN⟩:=FIN.out
     go_roundw
     case rel=>first | exact ⟨i + 1,(fun k=>if k = i then p' else q k),by omega,by go_num,FIN⟩ | exact ⟨i + 1,by omega,by go_num,(fun k=>if k = i then p' else q k),FIN⟩
     case measure=>simp [intOf];omega
  | 2,_=>
    have BZ : Below wr.heap.size wr (wr.alloc (.cells #[(.int .i64 (x.kind - 1)),.slice pb.a1 x.nn pb.c1,.slice pb.a2 x.nk pb.c2] 48)):=bel1 _ _
    have OWNZ : ((wr.alloc (.cells #[(.int .i64 (x.kind - 1)),.slice pb.a1 x.nn pb.c1,.slice pb.a2 x.nk pb.c2] 48))).ownsRow W0.heap.size 48 3 (.slice oa i cap) i (ncells q (gd Z) Z.length):=own_block OWN (fun j e=>BZ.block j (OWN.lt j e.symm).2)
    have NA : Hid (NodeAt (wr.alloc (.cells #[(.int .i64 (x.kind - 1)),.slice pb.a1 x.nn pb.c1,.slice pb.a2 x.nk pb.c2] 48)) pb (⟨x.kind - 1,x.nn,x.nm,x.nk,x.kd⟩)):=⟨(HNA.out _ (bel1 _ _)).names,(HNA.out _ (bel1 _ _)).kids⟩
    go_wp2_with (first | (at_builtin;refine wpList_append_lies _ rfl _ _ 27 rfl W0.heap.size 48 i0 _ 3 56 Tryz.underlying27 hi0 hz0 hz1 hz2 rfl (by omega) (.slice oa i cap) i (ncells q (gd Z) Z.length) rfl (OWNZ.alloc _) ⟨wr.heap.size + 1,0,none⟩ 1 1 [.int .i64 (x.kind - 1),.slice pb.a1 x.nn pb.c1,.slice pb.a2 x.nk pb.c2] rfl rfl (World.news_of_block (cs:=#[.int .i64 (x.kind - 1),.slice pb.a1 x.nn pb.c1,.slice pb.a2 x.nk pb.c2]) (t:=48) (fr:=(0,0)) (by have:=heap_alloc_new (wr.alloc (.cells #[(.int .i64 (x.kind - 1)),.slice pb.a1 x.nn pb.c1,.slice pb.a2 x.nk pb.c2] 48)) (.cells #[.int .i64 (x.kind - 1),.slice pb.a1 x.nn pb.c1,.slice pb.a2 x.nk pb.c2] 48);first | simpa using this | simpa [z1] using this)) (by simp [Value.oneCell']) (by omega) (by unfold maxLen;omega) (by omega) (by simp;omega) (wr.heap.size + 1 + 1) (by first | (simp;done) | (simp [z1];done)) ?_;intro gg cap5 w5 hown5 hg5 hat5 hlt5))
    have FIN : Hid (Lq (w.heap.size + 1) W0 w5 (.slice (some ⟨gg,0,none⟩) (i + 1) cap5) (fun k=>if k = i then pb else q k) (upN (spoilF C L p G) (i + 1))):=by
     rw [HN1.out,if_pos HIT.out,show spoilD n 2 x = ⟨x.kind - 1,x.nn,x.nm,x.nk,x.kd⟩ from rfl]
     exact lq_step HQ.out HLEN.out BZ pb (⟨x.kind - 1,x.nn,x.nm,x.nk,x.kd⟩) NA.out (fun z=>⟨by have:=(HS1.out z).1;simp;omega,(HS1.out z).2⟩) (fun z=>⟨by have:=(HS2.out z).1;simp;omega,(HS2.out z).2⟩) hown5 hg5 (by first | simpa using hat5 | simpa [z1] using hat5)
    clear hown5 hg5 hat5 OWN OWNZ NA
    go_wp2
    go_roundw
    case rel=>first | exact ⟨i + 1,(fun k=>if k = i then pb else q k),by omega,by go_num,FIN.out⟩ | exact ⟨i + 1,by omega,by go_num,(fun k=>if k = i then pb else q k),FIN.out⟩
    case measure=>simp [intOf];omega
  | 3,_=>
    have BZ : Below wr.heap.size wr (((wr.alloc (.cells #[.int .i64 3,.slice (some ⟨wr.heap.size + 1,0,none⟩) 2 2,.slice (some ⟨wr.heap.size + 1 + 1,0,none⟩) 2 2] 48)).alloc (.cells #[.string sB,.string sA] 9)).alloc (.cells #[.int .i64 0,.int .i64 0] 3)):=bel3 _ _ _ _
    have OWNZ : ((((wr.alloc (.cells #[.int .i64 3,.slice (some ⟨wr.heap.size + 1,0,none⟩) 2 2,.slice (some ⟨wr.heap.size + 1 + 1,0,none⟩) 2 2] 48)).alloc (.cells #[.string sB,.string sA] 9)).alloc (.cells #[.int .i64 0,.int .i64 0] 3))).ownsRow W0.heap.size 48 3 (.slice oa i cap) i (ncells q (gd Z) Z.length):=own_block OWN (fun j e=>BZ.block j (OWN.lt j e.symm).2)
    have NA : Hid (NodeAt (((wr.alloc (.cells #[.int .i64 3,.slice (some ⟨wr.heap.size + 1,0,none⟩) 2 2,.slice (some ⟨wr.heap.size + 1 + 1,0,none⟩) 2 2] 48)).alloc (.cells #[.string sB,.string sA] 9)).alloc (.cells #[.int .i64 0,.int .i64 0] 3)) ⟨some ⟨wr.heap.size + 1,0,none⟩,wr.heap.size + 1,0,2,some ⟨wr.heap.size + 1 + 1,0,none⟩,wr.heap.size + 1 + 1,0,2⟩ (nodeL 3 [sB,sA] [0,0])):=by
     have e1:=two_strs (wr.alloc (.cells #[.int .i64 3,.slice (some ⟨wr.heap.size + 1,0,none⟩) 2 2,.slice (some ⟨wr.heap.size + 1 + 1,0,none⟩) 2 2] 48)) sB sA (by decide) (by decide)
     have e2:=two_ints ((wr.alloc (.cells #[.int .i64 3,.slice (some ⟨wr.heap.size + 1,0,none⟩) 2 2,.slice (some ⟨wr.heap.size + 1 + 1,0,none⟩) 2 2] 48)).alloc (.cells #[.string sB,.string sA] 9)) (0) (0)
     simp only [World.size_alloc] at e1 e2
     exact ⟨e1.below (by have:=bel1 ((wr.alloc (.cells #[.int .i64 3,.slice (some ⟨wr.heap.size + 1,0,none⟩) 2 2,.slice (some ⟨wr.heap.size + 1 + 1,0,none⟩) 2 2] 48)).alloc (.cells #[.string sB,.string sA] 9)) (.cells #[.int .i64 0,.int .i64 0] 3);simpa using this),e2⟩
    go_wp2_with (first | (at_builtin;refine wpList_append_lies _ rfl _ _ 27 rfl W0.heap.size 48 i0 _ 3 56 Tryz.underlying27 hi0 hz0 hz1 hz2 rfl (by omega) (.slice oa i cap) i (ncells q (gd Z) Z.length) rfl (OWNZ.alloc _) ⟨wr.heap.size + 1 + 1 + 1,0,none⟩ 1 1 [.int .i64 3,.slice (some ⟨wr.heap.size + 1,0,none⟩) 2 2,.slice (some ⟨wr.heap.size + 1 + 1,0,none⟩) 2 2] rfl rfl (World.news_of_block (cs:=#[.int .i64 3,.slice (some ⟨wr.heap.size + 1,0,none⟩) 2 2,.slice (some ⟨wr.heap.size + 1 + 1,0,none⟩) 2 2]) (t:=48) (fr:=(0,0)) (by have:=heap_alloc_new (((wr.alloc (.cells #[.int .i64 3,.slice (some ⟨wr.heap.size + 1,0,none⟩) 2 2,.slice (some ⟨wr.heap.size + 1 + 1,0,none⟩) 2 2] 48)).alloc (.cells #[.string sB,.string sA] 9)).alloc (.cells #[.int .i64 0,.int .i64 0] 3)) (.cells #[.int .i64 3,.slice (some ⟨wr.heap.size + 1,0,none⟩) 2 2,.slice (some ⟨wr.heap.size + 1 + 1,0,none⟩) 2 2] 48);first | simpa using this | simpa [z1] using this)) (by simp [Value.oneCell']) (by omega) (by unfold maxLen;omega) (by omega) (by simp;omega) (wr.heap.size + 1 + 1 + 1 + 1) (by first | (simp;done) | (simp [z1];done)) ?_;intro gg cap5 w5 hown5 hg5 hat5 hlt5))
    have FIN : Hid (Lq (w.heap.size + 1) W0 w5 (.slice (some ⟨gg,0,none⟩) (i + 1) cap5) (fun k=>if k = i then ⟨some ⟨wr.heap.size + 1,0,none⟩,wr.heap.size + 1,0,2,some ⟨wr.heap.size + 1 + 1,0,none⟩,wr.heap.size + 1 + 1,0,2⟩ else q k) (upN (spoilF C L p G) (i + 1))):=by
     rw [HN1.out,if_pos HIT.out,show spoilD n 3 x = nodeL 3 [sB,sA] [0,0] from rfl]
     exact lq_step HQ.out HLEN.out BZ ⟨some ⟨wr.heap.size + 1,0,none⟩,wr.heap.size + 1,0,2,some ⟨wr.heap.size + 1 + 1,0,none⟩,wr.heap.size + 1 + 1,0,2⟩ (nodeL 3 [sB,sA] [0,0]) NA.out (fun _=>⟨by first | (simp;done) | (simp;omega),own_ne OWN (x:=wr.heap.size + 1) (by omega),by show wr.heap.size + 1 ≠ w.heap.size + 1;omega⟩) (fun _=>⟨by simp,own_ne OWN (x:=wr.heap.size + 1 + 1) (by omega),by show wr.heap.size + 1 + 1 ≠ w.heap.size + 1;omega⟩) hown5 hg5 (by first | simpa using hat5 | simpa [z1] using hat5)
    clear hown5 hg5 hat5 OWN OWNZ NA
    go_wp2
    go_roundw
    case rel=>first | exact ⟨i + 1,(fun k=>if k = i then ⟨some ⟨wr.heap.size + 1,0,none⟩,wr.heap.size + 1,0,2,some ⟨wr.heap.size + 1 + 1,0,none⟩,wr.heap.size + 1 + 1,0,2⟩ else q k),by omega,by go_num,FIN.out⟩ | exact ⟨i + 1,by omega,by go_num,(fun k=>if k = i then ⟨some ⟨wr.heap.size + 1,0,none⟩,wr.heap.size + 1,0,2,some ⟨wr.heap.size + 1 + 1,0,none⟩,wr.heap.size + 1 + 1,0,2⟩ else q k),FIN.out⟩
    case measure=>simp [intOf];omega
  | 4,_=>
    have BZ : Below wr.heap.size wr (((wr.alloc (.cells #[.int .i64 3,.slice (some ⟨wr.heap.size + 1,0,none⟩) 2 2,.slice (some ⟨wr.heap.size + 1 + 1,0,none⟩) 2 2] 48)).alloc (.cells #[.string sA,.string sA] 9)).alloc (.cells #[.int .i64 0,.int .i64 0] 3)):=bel3 _ _ _ _
    have OWNZ : ((((wr.alloc (.cells #[.int .i64 3,.slice (some ⟨wr.heap.size + 1,0,none⟩) 2 2,.slice (some ⟨wr.heap.size + 1 + 1,0,none⟩) 2 2] 48)).alloc (.cells #[.string sA,.string sA] 9)).alloc (.cells #[.int .i64 0,.int .i64 0] 3))).ownsRow W0.heap.size 48 3 (.slice oa i cap) i (ncells q (gd Z) Z.length):=own_block OWN (fun j e=>BZ.block j (OWN.lt j e.symm).2)
    have NA : Hid (NodeAt (((wr.alloc (.cells #[.int .i64 3,.slice (some ⟨wr.heap.size + 1,0,none⟩) 2 2,.slice (some ⟨wr.heap.size + 1 + 1,0,none⟩) 2 2] 48)).alloc (.cells #[.string sA,.string sA] 9)).alloc (.cells #[.int .i64 0,.int .i64 0] 3)) ⟨some ⟨wr.heap.size + 1,0,none⟩,wr.heap.size + 1,0,2,some ⟨wr.heap.size + 1 + 1,0,none⟩,wr.heap.size + 1 + 1,0,2⟩ (nodeL 3 [sA,sA] [0,0])):=by
     have e1:=two_strs (wr.alloc (.cells #[.int .i64 3,.slice (some ⟨wr.heap.size + 1,0,none⟩) 2 2,.slice (some ⟨wr.heap.size + 1 + 1,0,none⟩) 2 2] 48)) sA sA (by decide) (by decide)
     have e2:=two_ints ((wr.alloc (.cells #[.int .i64 3,.slice (some ⟨wr.heap.size + 1,0,none⟩) 2 2,.slice (some ⟨wr.heap.size + 1 + 1,0,none⟩) 2 2] 48)).alloc (.cells #[.string sA,.string sA] 9)) (0) (0)
     simp only [World.size_alloc] at e1 e2
     exact ⟨e1.below (by have:=bel1 ((wr.alloc (.cells #[.int .i64 3,.slice (some ⟨wr.heap.size + 1,0,none⟩) 2 2,.slice (some ⟨wr.heap.size + 1 + 1,0,none⟩) 2 2] 48)).alloc (.cells #[.string sA,.string sA] 9)) (.cells #[.int .i64 0,.int .i64 0] 3);simpa using this),e2⟩
    go_wp2_with (first | (at_builtin;refine wpList_append_lies _ rfl _ _ 27 rfl W0.heap.size 48 i0 _ 3 56 Tryz.underlying27 hi0 hz0 hz1 hz2 rfl (by omega) (.slice oa i cap) i (ncells q (gd Z) Z.length) rfl (OWNZ.alloc _) ⟨wr.heap.size + 1 + 1 + 1,0,none⟩ 1 1 [.int .i64 3,.slice (some ⟨wr.heap.size + 1,0,none⟩) 2 2,.slice (some ⟨wr.heap.size + 1 + 1,0,none⟩) 2 2] rfl rfl (World.news_of_block (cs:=#[.int .i64 3,.slice (some ⟨wr.heap.size + 1,0,none⟩) 2 2,.slice (some ⟨wr.heap.size + 1 + 1,0,none⟩) 2 2]) (t:=48) (fr:=(0,0)) (by have:=heap_alloc_new (((wr.alloc (.cells #[.int .i64 3,.slice (some ⟨wr.heap.size + 1,0,none⟩) 2 2,.slice (some ⟨wr.heap.size + 1 + 1,0,none⟩) 2 2] 48)).alloc (.cells #[.string sA,.string sA] 9)).alloc (.cells #[.int .i64 0,.int .i64 0] 3)) (.cells #[.int .i64 3,.slice (some ⟨wr.heap.size + 1,0,none⟩) 2 2,.slice (some ⟨wr.heap.size + 1 + 1,0,none⟩) 2 2] 48);first | simpa using this | simpa [z1] using this)) (by simp [Value.oneCell']) (by omega) (by unfold maxLen;omega) (by omega) (by simp;omega) (wr.heap.size + 1 + 1 + 1 + 1) (by first | (simp;done) | (simp [z1];done)) ?_;intro gg cap5 w5 hown5 hg5 hat5 hlt5))
    have FIN : Hid (Lq (w.heap.size + 1) W0 w5 (.slice (some ⟨gg,0,none⟩) (i + 1) cap5) (fun k=>if k = i then ⟨some ⟨wr.heap.size + 1,0,none⟩,wr.heap.size + 1,0,2,some ⟨wr.heap.size + 1 + 1,0,none⟩,wr.heap.size + 1 + 1,0,2⟩ else q k) (upN (spoilF C L p G) (i + 1))):=by
     rw [HN1.out,if_pos HIT.out,show spoilD n 4 x = nodeL 3 [sA,sA] [0,0] from rfl]
     exact lq_step HQ.out HLEN.out BZ ⟨some ⟨wr.heap.size + 1,0,none⟩,wr.heap.size + 1,0,2,some ⟨wr.heap.size + 1 + 1,0,none⟩,wr.heap.size + 1 + 1,0,2⟩ (nodeL 3 [sA,sA] [0,0]) NA.out (fun _=>⟨by first | (simp;done) | (simp;omega),own_ne OWN (x:=wr.heap.size + 1) (by omega),by show wr.heap.size + 1 ≠ w.heap.size + 1;omega⟩) (fun _=>⟨by simp,own_ne OWN (x:=wr.heap.size + 1 + 1) (by omega),by show wr.heap.size + 1 + 1 ≠ w.heap.size + 1;omega⟩) hown5 hg5 (by first | simpa using hat5 | simpa [z1] using hat5)
    clear hown5 hg5 hat5 OWN OWNZ NA
    go_wp2
    go_roundw
    case rel=>first | exact ⟨i + 1,(fun k=>if k = i then ⟨some ⟨wr.heap.size + 1,0,none⟩,wr.heap.size + 1,0,2,some ⟨wr.heap.size + 1 + 1,0,none⟩,wr.heap.size + 1 + 1,0,2⟩ else q k),by omega,by go_num,FIN.out⟩ | exact ⟨i + 1,by omega,by go_num,(fun k=>if k = i then ⟨some ⟨wr.heap.size + 1,0,none⟩,wr.heap.size + 1,0,2,some ⟨wr.heap.size + 1 + 1,0,none⟩,wr.heap.size + 1 + 1,0,2⟩ else q k),FIN.out⟩
    case measure=>simp [intOf];omega
  | 5,_=>
    have BZ : Below wr.heap.size wr (((wr.alloc (.cells #[.int .i64 3,.slice (some ⟨wr.heap.size + 1,0,none⟩) 1 1,.slice (some ⟨wr.heap.size + 1 + 1,0,none⟩) 1 1] 48)).alloc (.cells #[.string sIf] 9)).alloc (.cells #[.int .i64 0] 3)):=bel3 _ _ _ _
    have OWNZ : ((((wr.alloc (.cells #[.int .i64 3,.slice (some ⟨wr.heap.size + 1,0,none⟩) 1 1,.slice (some ⟨wr.heap.size + 1 + 1,0,none⟩) 1 1] 48)).alloc (.cells #[.string sIf] 9)).alloc (.cells #[.int .i64 0] 3))).ownsRow W0.heap.size 48 3 (.slice oa i cap) i (ncells q (gd Z) Z.length):=own_block OWN (fun j e=>BZ.block j (OWN.lt j e.symm).2)
    have NA : Hid (NodeAt (((wr.alloc (.cells #[.int .i64 3,.slice (some ⟨wr.heap.size + 1,0,none⟩) 1 1,.slice (some ⟨wr.heap.size + 1 + 1,0,none⟩) 1 1] 48)).alloc (.cells #[.string sIf] 9)).alloc (.cells #[.int .i64 0] 3)) ⟨some ⟨wr.heap.size + 1,0,none⟩,wr.heap.size + 1,0,1,some ⟨wr.heap.size + 1 + 1,0,none⟩,wr.heap.size + 1 + 1,0,1⟩ (nodeL 3 [sIf] [0])):=by
     have e1:=one_strs (wr.alloc (.cells #[.int .i64 3,.slice (some ⟨wr.heap.size + 1,0,none⟩) 1 1,.slice (some ⟨wr.heap.size + 1 + 1,0,none⟩) 1 1] 48)) sIf (by decide)
     have e2:=one_ints ((wr.alloc (.cells #[.int .i64 3,.slice (some ⟨wr.heap.size + 1,0,none⟩) 1 1,.slice (some ⟨wr.heap.size + 1 + 1,0,none⟩) 1 1] 48)).alloc (.cells #[.string sIf] 9)) (0)
     simp only [World.size_alloc] at e1 e2
     exact ⟨e1.below (by have:=bel1 ((wr.alloc (.cells #[.int .i64 3,.slice (some ⟨wr.heap.size + 1,0,none⟩) 1 1,.slice (some ⟨wr.heap.size + 1 + 1,0,none⟩) 1 1] 48)).alloc (.cells #[.string sIf] 9)) (.cells #[.int .i64 0] 3);simpa using this),e2⟩
    go_wp2_with (first | (at_builtin;refine wpList_append_lies _ rfl _ _ 27 rfl W0.heap.size 48 i0 _ 3 56 Tryz.underlying27 hi0 hz0 hz1 hz2 rfl (by omega) (.slice oa i cap) i (ncells q (gd Z) Z.length) rfl (OWNZ.alloc _) ⟨wr.heap.size + 1 + 1 + 1,0,none⟩ 1 1 [.int .i64 3,.slice (some ⟨wr.heap.size + 1,0,none⟩) 1 1,.slice (some ⟨wr.heap.size + 1 + 1,0,none⟩) 1 1] rfl rfl (World.news_of_block (cs:=#[.int .i64 3,.slice (some ⟨wr.heap.size + 1,0,none⟩) 1 1,.slice (some ⟨wr.heap.size + 1 + 1,0,none⟩) 1 1]) (t:=48) (fr:=(0,0)) (by have:=heap_alloc_new (((wr.alloc (.cells #[.int .i64 3,.slice (some ⟨wr.heap.size + 1,0,none⟩) 1 1,.slice (some ⟨wr.heap.size + 1 + 1,0,none⟩) 1 1] 48)).alloc (.cells #[.string sIf] 9)).alloc (.cells #[.int .i64 0] 3)) (.cells #[.int .i64 3,.slice (some ⟨wr.heap.size + 1,0,none⟩) 1 1,.slice (some ⟨wr.heap.size + 1 + 1,0,none⟩) 1 1] 48);first | simpa using this | simpa [z1] using this)) (by simp [Value.oneCell']) (by omega) (by unfold maxLen;omega) (by omega) (by simp;omega) (wr.heap.size + 1 + 1 + 1 + 1) (by first | (simp;done) | (simp [z1];done)) ?_;intro gg cap5 w5 hown5 hg5 hat5 hlt5))
    have FIN : Hid (Lq (w.heap.size + 1) W0 w5 (.slice (some ⟨gg,0,none⟩) (i + 1) cap5) (fun k=>if k = i then ⟨some ⟨wr.heap.size + 1,0,none⟩,wr.heap.size + 1,0,1,some ⟨wr.heap.size + 1 + 1,0,none⟩,wr.heap.size + 1 + 1,0,1⟩ else q k) (upN (spoilF C L p G) (i + 1))):=by
     rw [HN1.out,if_pos HIT.out,show spoilD n 5 x = nodeL 3 [sIf] [0] from rfl]
     exact lq_step HQ.out HLEN.out BZ ⟨some ⟨wr.heap.size + 1,0,none⟩,wr.heap.size + 1,0,1,some ⟨wr.heap.size + 1 + 1,0,none⟩,wr.heap.size + 1 + 1,0,1⟩ (nodeL 3 [sIf] [0]) NA.out (fun _=>⟨by first | (simp;done) | (simp;omega),own_ne OWN (x:=wr.heap.size + 1) (by omega),by show wr.heap.size + 1 ≠ w.heap.size + 1;omega⟩) (fun _=>⟨by simp,own_ne OWN (x:=wr.heap.size + 1 + 1) (by omega),by show wr.heap.size + 1 + 1 ≠ w.heap.size + 1;omega⟩) hown5 hg5 (by first | simpa using hat5 | simpa [z1] using hat5)
    clear hown5 hg5 hat5 OWN OWNZ NA
    go_wp2
    go_roundw
    case rel=>first | exact ⟨i + 1,(fun k=>if k = i then ⟨some ⟨wr.heap.size + 1,0,none⟩,wr.heap.size + 1,0,1,some ⟨wr.heap.size + 1 + 1,0,none⟩,wr.heap.size + 1 + 1,0,1⟩ else q k),by omega,by go_num,FIN.out⟩ | exact ⟨i + 1,by omega,by go_num,(fun k=>if k = i then ⟨some ⟨wr.heap.size + 1,0,none⟩,wr.heap.size + 1,0,1,some ⟨wr.heap.size + 1 + 1,0,none⟩,wr.heap.size + 1 + 1,0,1⟩ else q k),FIN.out⟩
    case measure=>simp [intOf];omega
  | 6,_=>
    have BZ : Below wr.heap.size wr ((wr.alloc (.cells #[.int .i64 4,.slice none 0 0,.slice (some ⟨wr.heap.size + 1,0,none⟩) 2 2] 48)).alloc (.cells #[.int .i64 0,.int .i64 (-1)] 3)):=bel2 _ _ _
    have OWNZ : (((wr.alloc (.cells #[.int .i64 4,.slice none 0 0,.slice (some ⟨wr.heap.size + 1,0,none⟩) 2 2] 48)).alloc (.cells #[.int .i64 0,.int .i64 (-1)] 3))).ownsRow W0.heap.size 48 3 (.slice oa i cap) i (ncells q (gd Z) Z.length):=own_block OWN (fun j e=>BZ.block j (OWN.lt j e.symm).2)
    have NA : Hid (NodeAt ((wr.alloc (.cells #[.int .i64 4,.slice none 0 0,.slice (some ⟨wr.heap.size + 1,0,none⟩) 2 2] 48)).alloc (.cells #[.int .i64 0,.int .i64 (-1)] 3)) ⟨none,0,0,0,some ⟨wr.heap.size + 1,0,none⟩,wr.heap.size + 1,0,2⟩ (nodeL 4 [] [0,(-1)])):=by
     have e2:=two_ints (wr.alloc (.cells #[.int .i64 4,.slice none 0 0,.slice (some ⟨wr.heap.size + 1,0,none⟩) 2 2] 48)) (0) ((-1))
     simp only [World.size_alloc] at e2
     exact ⟨none_strs _ _ _ _ _,e2⟩
    go_wp2_with (first | (at_builtin;refine wpList_append_lies _ rfl _ _ 27 rfl W0.heap.size 48 i0 _ 3 56 Tryz.underlying27 hi0 hz0 hz1 hz2 rfl (by omega) (.slice oa i cap) i (ncells q (gd Z) Z.length) rfl (OWNZ.alloc _) ⟨wr.heap.size + 1 + 1,0,none⟩ 1 1 [.int .i64 4,.slice none 0 0,.slice (some ⟨wr.heap.size + 1,0,none⟩) 2 2] rfl rfl (World.news_of_block (cs:=#[.int .i64 4,.slice none 0 0,.slice (some ⟨wr.heap.size + 1,0,none⟩) 2 2]) (t:=48) (fr:=(0,0)) (by have:=heap_alloc_new ((wr.alloc (.cells #[.int .i64 4,.slice none 0 0,.slice (some ⟨wr.heap.size + 1,0,none⟩) 2 2] 48)).alloc (.cells #[.int .i64 0,.int .i64 (-1)] 3)) (.cells #[.int .i64 4,.slice none 0 0,.slice (some ⟨wr.heap.size + 1,0,none⟩) 2 2] 48);first | simpa using this | simpa [z1] using this)) (by simp [Value.oneCell']) (by omega) (by unfold maxLen;omega) (by omega) (by simp;omega) (wr.heap.size + 1 + 1 + 1) (by first | (simp;done) | (simp [z1];done)) ?_;intro gg cap5 w5 hown5 hg5 hat5 hlt5))
    have FIN : Hid (Lq (w.heap.size + 1) W0 w5 (.slice (some ⟨gg,0,none⟩) (i + 1) cap5) (fun k=>if k = i then ⟨none,0,0,0,some ⟨wr.heap.size + 1,0,none⟩,wr.heap.size + 1,0,2⟩ else q k) (upN (spoilF C L p G) (i + 1))):=by
     rw [HN1.out,if_pos HIT.out,show spoilD n 6 x = nodeL 4 [] [0,(-1)] from rfl]
     exact lq_step HQ.out HLEN.out BZ ⟨none,0,0,0,some ⟨wr.heap.size + 1,0,none⟩,wr.heap.size + 1,0,2⟩ (nodeL 4 [] [0,(-1)]) NA.out (fun z=>absurd z (Nat.lt_irrefl _)) (fun _=>⟨by simp,own_ne OWN (x:=wr.heap.size + 1) (by omega),by show wr.heap.size + 1 ≠ w.heap.size + 1;omega⟩) hown5 hg5 (by first | simpa using hat5 | simpa [z1] using hat5)
    clear hown5 hg5 hat5 OWN OWNZ NA
    go_wp2
    go_roundw
    case rel=>first | exact ⟨i + 1,(fun k=>if k = i then ⟨none,0,0,0,some ⟨wr.heap.size + 1,0,none⟩,wr.heap.size + 1,0,2⟩ else q k),by omega,by go_num,FIN.out⟩ | exact ⟨i + 1,by omega,by go_num,(fun k=>if k = i then ⟨none,0,0,0,some ⟨wr.heap.size + 1,0,none⟩,wr.heap.size + 1,0,2⟩ else q k),FIN.out⟩
    case measure=>simp [intOf];omega
end Go.Proofs.YtpbpbppimkeodaaGreatDoor
