/-
  DrG
-/
import Derived.Test.YtpbpbppimkeodaaGreatDoorSs
import Derived.Test.YtpbpbppimkeodaaGreatDoorTg
set_option maxRecDepth 100000
namespace Go.Proofs.YtpbpbppimkeodaaGreatDoor
open Go.RowKit Go.Maps
def dblK (C : Nat -> Nat) (L P n : Nat) (x : ND) (j : Nat) : Int:=if tk C L (P + j) 3 = 0 then x.kd j else x.kd j + (n : Int)
def dblD (C : Nat -> Nat) (L P n t i : Nat) (x : ND) : ND:=if i = t /\ 0 < x.nn then ⟨x.kind,x.nn - 1,x.nm,x.nk - 1,dblK C L P n x⟩ else ⟨x.kind,x.nn,x.nm,x.nk,dblK C L P n x⟩
def dpos (G : List ND) (p : Nat) : Nat -> Nat
 | 0=>p
 | i + 1=>dpos G p i + (gd G i).nk
def dblF (C : Nat -> Nat) (L p : Nat) (G : List ND) (i : Nat) : ND:=dblD C L (dpos G (p + 1) i) G.length (tk C L p (2 * G.length + 1)) i (gd G i)
def dblL (C : Nat -> Nat) (L p : Nat) (G : List ND) : List ND:=upN (gd G) G.length ++ upN (dblF C L p G) G.length
theorem dpos_le {G : List ND} {p n : Nat} (h : ∀ j,j < n -> (gd G j).nk <= 4) : ∀ i,i <= n -> dpos G p i <= p + 4 * i
 | 0,_=>Nat.le_refl _
 | i + 1,hi=>by
   have:=dpos_le (p:=p) h i (by omega)
   have:=h i (by omega)
   show dpos G p i + (gd G i).nk <= _
   omega
theorem StrsAt.short {w : World} {ao : Option Addr} {b o n m : Nat} {S : Nat -> ByteArray} (h : StrsAt w ao b o n S) (hm : m <= n) : StrsAt w ao b o m S:=⟨fun q=>h.at_ (by omega),fun i hi=>h.cell i (by omega),fun i hi=>h.size i (by omega),Nat.le_trans hm h.len⟩
theorem IntsAt.short {w : World} {ao : Option Addr} {b o n m : Nat} {S : Nat -> Int} (h : IntsAt w ao b o n S) (hm : m <= n) : IntsAt w ao b o m S:=⟨fun q=>h.at_ (by omega),fun i hi=>h.cell i (by omega),Nat.le_trans hm h.len⟩
theorem own_room {w : World} {base : Nat} {e : TypeId} {size : Nat} {oa : Option Addr} {n cap : Nat} {xs : List Value} (h : w.ownsRow base e size (.slice oa n cap) n xs) : n <= cap:=by
 rcases h.2 with ⟨hv,_⟩ | ⟨g,cap',cur,hv,_,_,hc,_⟩
 ·simp at hv;omega
 ·simp at hv;omega
theorem rec_len {d : ND} (h : shp d = true) (hn : 0 < d.nn) : d.nk = d.nn:=by
 have P:=plain_of h
 by_cases h3 : d.kind = 3
 ·rw [P.kids,if_pos h3]
 ·have:=P.bare h3;omega
set_option maxHeartbeats 16000000 in
theorem d_double (ca : Option Addr) (cb co L cc p gb gc n : Nat) (go : Option Addr) (C : Nat -> Nat) (G : List ND) (pq : Nat -> NP) (w : World) (h : BytesAt w ca cb co L C) (hg : NodesAt w go gb 0 n pq (gd G)) (hlen : G.length = n) (hv : vgr n (gd G) = true) (hF : ∀ j,j < n -> (gd G j).nn <= 4 /\ (gd G j).nk <= 4) (hL : L <= 1048576) (hp : p <= 10000) (hn : n <= 24) :
  Calls Tryz.prog 64 #[.slice ca L cc,.int .i64 (p : Int),.agg #[.slice go n gc]] w fun e w'=>GraphPost w (n + n) (dblL C L p G) (dpos G (p + 1) n) e w':=by
 have HC : Hid (∀ w',Below w.heap.size w w' -> BytesAt w' ca cb co L C):=fun w' hb=>h.below hb
 have HG : Hid (∀ w',Below w.heap.size w w' -> NodesAt w' go gb 0 n pq (gd G)):=fun w' hb=>hg.below hb
 have HF : Hid (∀ j,j < n -> (gd G j).nn <= 4 /\ (gd G j).nk <= 4):=hF
 have HKI : Hid (Kids n (gd G)):=kids_of hv
 have HRL : Hid (∀ j,j < n -> 0 < (gd G j).nn -> (gd G j).nk = (gd G j).nn):=fun j hj hz=>rec_len (shp_of hv hj) hz
 have HLG : Hid (G.length = n):=hlen
 have AG:=hg.at_
 have HSN : Hid (∀ j,j < n -> ∀ t,t < (gd G j).nn -> ((gd G j).nm t).size <= 9223372036854775807):=fun j hj t ht=>(hg.node j hj).names.size t ht
 have HDP : Hid (∀ i,i <= n -> dpos G (p + 1) i <= p + 1 + 4 * i):=dpos_le (fun j hj=>(hF j hj).2)
 clear h hg hF hlen hv
 obtain ⟨W0,hW0⟩ : ∃ W0,W0 = (w.alloc (.cells #[.slice go n gc] 29)).alloc (.cells #[.slice none 0 0] 29):=⟨_,rfl⟩
 have B0 : Below w.heap.size w W0:=by rw [hW0];exact bel2 _ _ _
 have z0 : W0.heap.size = w.heap.size + 2:=by rw [hW0];simp
 have r0 : W0.rowIs (w.heap.size + 1) 29 1 (fun _=>.slice none 0 0):=by
  rw [hW0]
  have:=row1 (w.alloc (.cells #[.slice go n gc] 29)) (.slice none 0 0) 29
  simpa using this
 have rg : W0.rowIs w.heap.size 29 1 (fun _=>.slice go n gc):=by rw [hW0];exact (row1 _ _ _).alloc _
 have cg0 : W0.cell? ⟨w.heap.size,0,none⟩ = some (.slice go n gc):=rg.cell (i:=0) (by omega)
 have SA : Hid (Lq (w.heap.size + 1) W0 (W0.alloc (.cells #[] 48)) (.slice (some ⟨W0.heap.size,0,none⟩) 0 0) (fun _=>np0) []):=⟨World.ownsRow_lit W0 #[] 0 (Nat.le_refl _) (by unfold maxLen;omega) (by rfl),bel1 _ _,⟨by simp;omega,fun e=>by have : w.heap.size + 1 = W0.heap.size:=(by simpa [Value.ownBlock] using e);omega⟩,fun i hi=>absurd hi (Nat.not_lt_zero _)⟩
 obtain ⟨i0,hi0,hz0,hz1,hz2⟩:=info_parts Tryz.info48
 obtain ⟨i1,hj0,hj1,hj2,hj3⟩:=info_parts Tryz.info3
 go_enter Tryz.func64,Tryz.ntmps64
 go_wp2_with fail
 rw [<- hW0]
 clear hW0
 refine (d_take ca cb co L cc p (2 * n + 1) C W0 (HC.out W0 B0) hL (by omega) (by omega)).mono ?_
 rintro e w1 ⟨rfl,rfl⟩
 obtain ⟨t,ht⟩ : ∃ t,t = tk C L p (2 * n + 1):=⟨_,rfl⟩
 have ltt:=tk_le C L p (2 * n + 1)
 rw [<- ht] at ltt ⊢
 have HT : Hid (tk C L p (2 * n + 1) = t):=ht.symm
 clear ht
 have HNODE : Hid (∀ i,i < n -> (0 < (gd G i).nn -> (pq i).b1 < w.heap.size) /\ (0 < (gd G i).nk -> (pq i).b2 < w.heap.size)):=fun i hlt=>by
  have:=(HG.out w (Below.refl _ _)).node i hlt
  exact ⟨fun z=>blt (this.names.cell 0 z),fun z=>blt (this.kids.cell 0 z)⟩
 go_wp2
 go_loopw [11,12] (fun v s12 wr=>∃ (i : Nat) (q : Nat -> NP),i <= n /\ s12 = .int .i64 i /\ Lq (w.heap.size + 1) W0 wr v q (upN (gd G) i)) (fun _ s12 _=>n - (intOf s12).toNat)
 case atStart=>
  have SA':=SA.out
  rw [z0] at SA'
  exact ⟨0,fun _=>np0,Nat.zero_le _,rfl,SA'⟩
 case round=>
  obtain ⟨i,q,hi,rfl,hQ⟩:=hrel
  clear SA
  have hlen:=upN_len (gd G) i
  have cg : wr.cell? ⟨w.heap.size,0,none⟩ = some (.slice go n gc):=(hQ.below.cell (p:=⟨w.heap.size,0,none⟩) (by show w.heap.size < W0.heap.size;omega)).trans cg0
  by_cases hlt : i < n
  case pos=>
   have HN1 : Hid (upN (gd G) (i + 1) = upN (gd G) i ++ [gd G i]):=upN_succ _ _
   obtain ⟨Z,hZ⟩ : ∃ Z,Z = upN (gd G) i:=⟨_,rfl⟩
   rw [<- hZ] at HN1 hQ hlen
   clear hZ
   have OWN:=hQ.own
   rw [hlen] at OWN
   obtain ⟨oa,cap,rfl⟩:=own_form OWN
   have HQ : Hid (Lq (w.heap.size + 1) W0 wr (.slice oa i cap) q Z):=hQ
   have HLEN : Hid (Z.length = i):=hlen
   have hbs : W0.heap.size <= wr.heap.size:=hQ.below.size
   have BW : Below w.heap.size w wr:=B0.trans (hQ.below.mono B0.size)
   have OWN : wr.ownsRow W0.heap.size 48 3 (.slice oa i cap) i (ncells q (gd Z) Z.length):=by have:=hQ.own;rw [hlen] at this ⊢;exact this
   clear hQ hlen
   have eg:=AG (by omega)
   subst eg
   have NG:=HG.out wr BW
   have g0:=NG.c0 i hlt
   have g1:=NG.c1 i hlt
   have g2:=NG.c2 i hlt
   simp only [Nat.zero_add] at g0 g1 g2
   have NB0 : Hid (NodeAt wr (pq i) (gd G i)):=NG.node i hlt
   clear NG
   have li : (i : Int) < (n : Int):=by omega
   have H1 : Hid (0 < (gd G i).nn -> (pq i).b1 < wr.heap.size /\ some (pq i).b1 ≠ (Value.slice oa i cap).ownBlock /\ (pq i).b1 ≠ w.heap.size + 1):=fun z=>⟨by have:=(HNODE.out i hlt).1 z;omega,fun e=>by have:=(OWN.lt _ e.symm).1;have:=(HNODE.out i hlt).1 z;omega,by have:=(HNODE.out i hlt).1 z;omega⟩
   have H2 : Hid (0 < (gd G i).nk -> (pq i).b2 < wr.heap.size /\ some (pq i).b2 ≠ (Value.slice oa i cap).ownBlock /\ (pq i).b2 ≠ w.heap.size + 1):=fun z=>⟨by have:=(HNODE.out i hlt).2 z;omega,fun e=>by have:=(OWN.lt _ e.symm).1;have:=(HNODE.out i hlt).2 z;omega,by have:=(HNODE.out i hlt).2 z;omega⟩
   go_wp2_with (first | (at_builtin;refine wpList_append_lies _ rfl _ _ 27 rfl W0.heap.size 48 i0 _ 3 56 Tryz.underlying27 hi0 hz0 hz1 hz2 rfl (by omega) (.slice oa i cap) (i) (ncells q (gd Z) Z.length) rfl (OWN.alloc _) ⟨wr.heap.size,0,none⟩ 1 1 [.int .i64 (gd G i).kind,.slice (pq i).a1 (gd G i).nn (pq i).c1,.slice (pq i).a2 (gd G i).nk (pq i).c2] rfl rfl (World.news_of_block (cs:=#[.int .i64 (gd G i).kind,.slice (pq i).a1 (gd G i).nn (pq i).c1,.slice (pq i).a2 (gd G i).nk (pq i).c2]) (t:=48) (fr:=(0,0)) (by have:=heap_alloc_new wr (.cells #[.int .i64 (gd G i).kind,.slice (pq i).a1 (gd G i).nn (pq i).c1,.slice (pq i).a2 (gd G i).nk (pq i).c2] 48);simpa using this)) (by simp [Value.oneCell']) (by omega) (by unfold maxLen;omega) (by omega) (by simp;omega) (wr.heap.size + 1) (by simp) ?_;intro gg cap5 w5 hown5 hg5 hat5 hlt5))
   have FIN : Hid (Lq (w.heap.size + 1) W0 w5 (.slice (some ⟨gg,0,none⟩) (i + 1) cap5) (fun k=>if k = i then pq i else q k) (upN (gd G) (i + 1))):=by
    rw [HN1.out]
    exact lq_step HQ.out HLEN.out (Below.refl _ _) (pq i) (gd G i) NB0.out H1.out H2.out hown5 hg5 hat5
   clear hown5 hg5 hat5 OWN
   go_wp2
   go_roundw
   case rel=>exact ⟨i + 1,_,by omega,by go_num,FIN.out⟩
   case measure=>simp [intOf];omega
  have hin : i = n:=by omega
  subst hin
  have e0 : upN (gd G) i = upN (gd G) i ++ upN (dblF C L p G) 0:=by simp [upN]
  have hQ':=hQ
  rw [e0] at hQ'
  have S2 : Hid _:=hQ'
  clear e0 hQ'
  clear hQ hlen hlt hi cg
  go_wp2
  go_loopw [1,11,13] (fun s1 v s13 wr=>∃ (k : Nat) (q : Nat -> NP),k <= i /\ s13 = .int .i64 k /\ s1 = .int .i64 (dpos G (p + 1) k : Int) /\ Lq (w.heap.size + 1) W0 wr v q (upN (gd G) i ++ upN (dblF C L p G) k)) (fun _ _ s13 _=>i - (intOf s13).toNat)
  case atStart=>first | exact ⟨0,q,Nat.zero_le _,rfl,rfl,S2.out⟩ | exact ⟨0,Nat.zero_le _,rfl,rfl,q,S2.out⟩
  case round=>
   rename World=>wr
   obtain ⟨k,q,hk,rfl,rfl,hQ⟩:=hrel
   clear S2
   have hlen : (upN (gd G) i ++ upN (dblF C L p G) k).length = i + k:=by rw [List.length_append,upN_len,upN_len]
   have cg : wr.cell? ⟨w.heap.size,0,none⟩ = some (.slice go i gc):=(hQ.below.cell (p:=⟨w.heap.size,0,none⟩) (by show w.heap.size < W0.heap.size;omega)).trans cg0
   by_cases hlt : k < i
   case neg=>
    have hin : k = i:=by omega
    subst hin
    have ho:=hQ.own
    rw [hlen] at ho
    obtain ⟨oa,cap,rfl⟩:=own_form ho
    have RR:=r0.of_block (hQ.below.block (w.heap.size + 1) (by omega))
    have k0:=RR.cell (i:=0) (by omega)
    have k1:=RR.frozen 0
    have FIN : Hid (∃ b,NodesAt (wr.setCell ⟨w.heap.size + 1,0,none⟩ (.slice oa (k + k) cap)) oa b 0 (k + k) q (gd (dblL C L p G))):=by
     have:=lq_out hQ hlen (by omega) 0 (.slice oa (k + k) cap)
     unfold dblL
     rw [HLG.out]
     exact this
    have BF : Hid (Below w.heap.size w (wr.setCell ⟨w.heap.size + 1,0,none⟩ (.slice oa (k + k) cap))):=(B0.trans (hQ.below.mono B0.size)).setCell (by show w.heap.size <= w.heap.size + 1;omega) _
    clear hQ ho RR
    go_wp2
    obtain ⟨b,FIN⟩:=FIN.out
    exact bodyPost_ret (v:=.tuple #[.agg #[.slice oa (k + k) cap],.int .i64 (dpos G (p + 1) k : Int)]) (by simp [results,Tryz.results64,go_sem,k0]) rfl ⟨oa,cap,b,q,rfl,FIN,BF.out⟩
   have HN1 : Hid (upN (gd G) i ++ upN (dblF C L p G) (k + 1) = (upN (gd G) i ++ upN (dblF C L p G) k) ++ [dblD C L (dpos G (p + 1) k) i t k (gd G k)]):=by
    show upN (gd G) i ++ upN (dblF C L p G) (k + 1) = _
    rw [upN_succ,List.append_assoc]
    unfold dblF
    rw [HLG.out,HT.out]
   have HD1 : Hid (dpos G (p + 1) (k + 1) = dpos G (p + 1) k + (gd G k).nk):=by show dpos G (p + 1) (k + 1) = _;rfl
   have hP0:=HDP.out k (by omega)
   obtain ⟨P,hP⟩ : ∃ P,P = dpos G (p + 1) k:=⟨_,rfl⟩
   rw [<- hP] at HN1 HD1 hP0 ⊢
   clear hP
   obtain ⟨Z,hZ⟩ : ∃ Z,Z = upN (gd G) i ++ upN (dblF C L p G) k:=⟨_,rfl⟩
   rw [<- hZ] at HN1 hQ hlen
   clear hZ
   have OWN:=hQ.own
   rw [hlen] at OWN
   obtain ⟨oa,cap,rfl⟩:=own_form OWN
   have HQ : Hid (Lq (w.heap.size + 1) W0 wr (.slice oa (i + k) cap) q Z):=hQ
   have HLEN : Hid (Z.length = i + k):=hlen
   have hbs : W0.heap.size <= wr.heap.size:=hQ.below.size
   have BW : Below w.heap.size w wr:=B0.trans (hQ.below.mono B0.size)
   have OWN : wr.ownsRow W0.heap.size 48 3 (.slice oa (i + k) cap) (i + k) (ncells q (gd Z) Z.length):=by have:=hQ.own;rw [hlen] at this ⊢;exact this
   clear hQ hlen
   have eg:=AG (by omega)
   subst eg
   have NG:=HG.out wr BW
   have g0:=NG.c0 k hlt
   have g1:=NG.c1 k hlt
   have g2:=NG.c2 k hlt
   simp only [Nat.zero_add] at g0 g1 g2
   have NB0 : Hid (NodeAt wr (pq k) (gd G k)):=NG.node k hlt
   have FB:=HF.out k hlt
   have HKD : Hid (∀ j,j < (gd G k).nk -> 0 <= (gd G k).kd j /\ (gd G k).kd j < i):=HKI.out k hlt
   have HRX : Hid (0 < (gd G k).nn -> (gd G k).nk = (gd G k).nn):=HRL.out k hlt
   have HSZ : Hid (∀ t,t < (gd G k).nn -> ((gd G k).nm t).size <= 9223372036854775807):=HSN.out k hlt
   clear NG
   obtain ⟨x,hx⟩ : ∃ x,x = gd G k:=⟨_,rfl⟩
   obtain ⟨pb,hpb⟩ : ∃ x,x = pq k:=⟨_,rfl⟩
   rw [<- hx] at g0 g1 g2 NB0 FB HN1 HD1 HKD HRX HSZ
   rw [<- hpb] at g1 g2 NB0
   clear hx hpb
   obtain ⟨K,hK⟩ : ∃ K,K = x.nk:=⟨_,rfl⟩
   obtain ⟨M,hM⟩ : ∃ K,K = x.nn:=⟨_,rfl⟩
   have HKX : Hid (x.nk = K):=hK.symm
   have HMX : Hid (x.nn = M):=hM.symm
   have fn1:=FB.1
   have fn2:=FB.2
   rw [<- hK] at g2 fn2 HD1 HKD HRX
   rw [<- hM] at g1 fn1 HRX HSZ
   clear hK hM FB
   have HNM : Hid (∀ w',Below wr.heap.size wr w' -> StrsAt w' pb.a1 pb.b1 pb.o1 M x.nm):=fun w' hb=>by have:=(NB0.out.below hb).names;rw [HMX.out] at this;exact this
   have HNK : Hid (∀ w',Below wr.heap.size wr w' -> IntsAt w' pb.a2 pb.b2 pb.o2 K x.kd):=fun w' hb=>by have:=(NB0.out.below hb).kids;rw [HKX.out] at this;exact this
   obtain ⟨W1,hW1⟩ : ∃ W1,W1 = wr.alloc (.cells #[.int .i64 x.kind,.slice pb.a1 M pb.c1,.slice pb.a2 K pb.c2] 48):=⟨_,rfl⟩
   have RO:=row3 wr (.int .i64 x.kind) (.slice pb.a1 M pb.c1) (.slice pb.a2 K pb.c2) 48
   have BO : Below wr.heap.size wr W1:=by rw [hW1];exact bel1 _ _
   have z1 : W1.heap.size = wr.heap.size + 1:=by rw [hW1];simp
   rw [<- hW1] at RO
   have t0 : W1.cell? ⟨wr.heap.size,0,none⟩ = some (.int .i64 x.kind):=RO.cell (i:=0) (by omega)
   have t2 : W1.cell? ⟨wr.heap.size,2,none⟩ = some (.slice pb.a2 K pb.c2):=RO.cell (i:=2) (by omega)
   clear RO
   have li : (k : Int) < (i : Int):=by omega
   go_wp2_with fail
   rw [<- hW1]
   clear hW1 g0 g1 g2
   refine (d_names pb.a1 pb.b1 pb.o1 M pb.c1 x.nm W1 (HNM.out _ BO) (by omega)).mono ?_
   rintro e w3 ⟨oa3,cap3,rfl,hown3,hb3⟩
   have B3 : Below wr.heap.size wr w3:=BO.trans (hb3.mono BO.size)
   have hz3:=hb3.size
   have y0 : w3.cell? ⟨wr.heap.size,0,none⟩ = some (.int .i64 x.kind):=(hb3.cell (p:=⟨wr.heap.size,0,none⟩) (by show wr.heap.size < W1.heap.size;omega)).trans t0
   have y2 : w3.cell? ⟨wr.heap.size,2,none⟩ = some (.slice pb.a2 K pb.c2):=(hb3.cell (p:=⟨wr.heap.size,2,none⟩) (by show wr.heap.size < W1.heap.size;omega)).trans t2
   have hcap:=own_room hown3
   have HO3 : Hid (w3.ownsRow W1.heap.size 9 1 (.slice oa3 M cap3) M (tcells (upS x.nm M))):=hown3
   have SK : Hid ((w3.alloc (.cells #[] 3)).ownsRow w3.heap.size 3 1 (.slice (some ⟨w3.heap.size,0,none⟩) 0 0) 0 (zcells (upZ (dblK C L P i x) 0))):=World.ownsRow_lit w3 #[] 0 (Nat.le_refl _) (by unfold maxLen;omega) (by rfl)
   clear hown3 hb3 t0 t2 BO cg
   go_wp2
   go_loopw [1,16,17] (fun s1 v s17 wx=>∃ j : Nat,j <= K /\ s17 = .int .i64 j /\ s1 = .int .i64 ((P + j : Nat) : Int) /\ wx.ownsRow w3.heap.size 3 1 v j (zcells (upZ (dblK C L P i x) j)) /\ Below w3.heap.size w3 wx) (fun _ _ s17 _=>K - (intOf s17).toNat)
   case atStart=>exact ⟨0,Nat.zero_le _,rfl,rfl,SK.out,bel1 _ _⟩
   case round=>
    rename World=>wx
    obtain ⟨j,hj,rfl,rfl,hO,hbx⟩:=hrel
    clear SK
    obtain ⟨ka,kc,rfl⟩:=own_form hO
    have hbxs:=hbx.size
    have BX : Below wr.heap.size wr wx:=B3.trans (hbx.mono B3.size)
    have BWX : Below w.heap.size w wx:=BW.trans (BX.mono BW.size)
    have x0 : wx.cell? ⟨wr.heap.size,0,none⟩ = some (.int .i64 x.kind):=(hbx.cell (p:=⟨wr.heap.size,0,none⟩) (blt y0)).trans y0
    have x2 : wx.cell? ⟨wr.heap.size,2,none⟩ = some (.slice pb.a2 K pb.c2):=(hbx.cell (p:=⟨wr.heap.size,2,none⟩) (blt y2)).trans y2
    by_cases hjl : j < K
    case pos=>
     have NK:=HNK.out wx BX
     have e2:=NK.at_ (by omega)
     rw [e2] at x2
     have ck:=NK.cell j hjl
     have hkd:=HKD.out j hjl
     clear NK e2
     have lj : (j : Int) < (K : Int):=by omega
     go_wp2_with fail
     refine (d_take ca cb co L cc (P + j) 3 C wx (HC.out wx BWX) hL (by omega) (by omega)).mono ?_
     rintro e w1 ⟨rfl,rfl⟩
     obtain ⟨b,hb⟩ : ∃ b,b = tk C L (P + j) 3:=⟨_,rfl⟩
     have HBT : Hid (tk C L (P + j) 3 = b):=hb.symm
     rw [<- hb]
     clear hb
     by_cases hb0 : b = 0
     case pos=>
      have qb : ((b : Int) == 0) = true:=by rw [beq_iff_eq];omega
      have HKJ : Hid (dblK C L P i x j = x.kd j):=by show dblK C L P i x j = _;unfold dblK;rw [HBT.out,if_pos hb0]
      clear hb0
      go_wp2_with (first | (at_builtin;refine wpList_append_lies _ rfl _ _ 25 rfl w3.heap.size 3 i1 _ 1 8 Tryz.underlying25 hj0 hj1 hj2 hj3 rfl (by omega) (.slice ka j kc) j (zcells (upZ (dblK C L P i x) j)) rfl (hO.alloc _) ⟨wx.heap.size,0,none⟩ 1 1 [.int .i64 (x.kd j)] rfl rfl (cell_one_new _ _ _) (by simp [Value.oneCell']) (by omega) (by unfold maxLen;omega) (by omega) (by simp;omega) (wx.heap.size + 1) (by simp) ?_;intro gg cap6 w6 hown6 hg6 hat6 hlt6))
      have HN : Hid (w6.ownsRow w3.heap.size 3 1 (.slice (some ⟨gg,0,none⟩) (j + 1) cap6) (j + 1) (zcells (upZ (dblK C L P i x) (j + 1))) /\ Below w3.heap.size w3 w6):=
       ⟨by rw [upZ_succ,HKJ.out];unfold zcells;rw [List.map_append];exact hown6,below_grown hbx hbxs hg6 (fun j hj=>(hO.lt j hj).1)⟩
      clear hown6 hg6 hat6 hO hbx BX
      go_wp2
      go_roundw
      case rel=>exact ⟨j + 1,by omega,by go_num,by first | rfl | go_num,HN.out.1,HN.out.2⟩
      case measure=>simp [intOf];omega
     case neg=>
      have qb : ((b : Int) == 0) = false:=beq_eq_false_iff_ne.2 (by omega)
      have HKJ : Hid (dblK C L P i x j = x.kd j + (i : Int)):=by show dblK C L P i x j = _;unfold dblK;rw [HBT.out,if_neg hb0]
      clear hb0
      go_wp2_with (first | (at_builtin;refine wpList_append_lies _ rfl _ _ 25 rfl w3.heap.size 3 i1 _ 1 8 Tryz.underlying25 hj0 hj1 hj2 hj3 rfl (by omega) (.slice ka j kc) j (zcells (upZ (dblK C L P i x) j)) rfl (hO.alloc _) ⟨wx.heap.size,0,none⟩ 1 1 [.int .i64 (x.kd j + (i : Int))] rfl rfl (cell_one_new _ _ _) (by simp [Value.oneCell']) (by omega) (by unfold maxLen;omega) (by omega) (by simp;omega) (wx.heap.size + 1) (by simp) ?_;intro gg cap6 w6 hown6 hg6 hat6 hlt6))
      have HN : Hid (w6.ownsRow w3.heap.size 3 1 (.slice (some ⟨gg,0,none⟩) (j + 1) cap6) (j + 1) (zcells (upZ (dblK C L P i x) (j + 1))) /\ Below w3.heap.size w3 w6):=
       ⟨by rw [upZ_succ,HKJ.out];unfold zcells;rw [List.map_append];exact hown6,below_grown hbx hbxs hg6 (fun j hj=>(hO.lt j hj).1)⟩
      clear hown6 hg6 hat6 hO hbx BX
      go_wp2
      go_roundw
      case rel=>exact ⟨j + 1,by omega,by go_num,by first | rfl | go_num,HN.out.1,HN.out.2⟩
      case measure=>simp [intOf];omega
    have hjK : j = K:=by omega
    rw [hjK] at hO ⊢
    clear hjK hjl hj
    have hcapk:=own_room hO
    have OWNX : wx.ownsRow W0.heap.size 48 3 (.slice oa (i + k) cap) (i + k) (ncells q (gd Z) Z.length):=own_block OWN (fun t e=>BX.block t (OWN.lt t e.symm).2)
    have HKIDS : Hid (∃ gk,IntsAt wx ka gk 0 K (dblK C L P i x) /\ (0 < K -> gk < wx.heap.size /\ some gk ≠ (Value.slice oa (i + k) cap).ownBlock /\ gk ≠ w.heap.size + 1)):=by
     obtain ⟨gk,IK,IBK⟩:=own_zs hO
     refine ⟨gk,IK.congr (fun j hj=>upZ_get _ hj),fun z=>?_⟩
     obtain ⟨u1,u2,_⟩:=IBK z
     exact ⟨u2,own_ne OWN (by omega),by omega⟩
    have HNAMES : Hid (∃ gn,StrsAt wx oa3 gn 0 M x.nm /\ (0 < M -> gn < wx.heap.size /\ some gn ≠ (Value.slice oa (i + k) cap).ownBlock /\ gn ≠ w.heap.size + 1)):=by
     obtain ⟨gn,IN,IBN⟩:=own_strs HO3.out (fun s hs=>by
      obtain ⟨t,ht,rfl⟩:=List.mem_map.1 hs
      exact HSZ.out t (List.mem_range.1 ht))
     refine ⟨gn,(IN.congr (fun j hj=>upS_get _ hj)).below hbx,fun z=>?_⟩
     obtain ⟨u1,u2,_⟩:=IBN z
     exact ⟨by omega,own_ne OWN (by omega),by omega⟩
    by_cases hkt : k = t
    case neg=>
     have qk : ((k : Int) == (t : Int)) = false:=beq_eq_false_iff_ne.2 (by omega)
     obtain ⟨gk,IK,IBK⟩:=HKIDS.out
     obtain ⟨gn,IN,IBN⟩:=HNAMES.out
     have NA : Hid (NodeAt wx ⟨oa3,gn,0,cap3,ka,gk,0,kc⟩ (⟨x.kind,x.nn,x.nm,x.nk,dblK C L P i x⟩)):=⟨by show StrsAt _ _ _ _ x.nn _;rw [HMX.out];exact IN,by show IntsAt _ _ _ _ x.nk _;rw [HKX.out];exact IK⟩
     have H1 : Hid (0 < (⟨x.kind,x.nn,x.nm,x.nk,dblK C L P i x⟩ : ND).nn -> gn < wx.heap.size /\ some gn ≠ (Value.slice oa (i + k) cap).ownBlock /\ gn ≠ w.heap.size + 1):=fun z=>IBN (by have z : 0 < x.nn:=z;rw [HMX.out] at z;exact z)
     have H2 : Hid (0 < (⟨x.kind,x.nn,x.nm,x.nk,dblK C L P i x⟩ : ND).nk -> gk < wx.heap.size /\ some gk ≠ (Value.slice oa (i + k) cap).ownBlock /\ gk ≠ w.heap.size + 1):=fun z=>IBK (by have z : 0 < x.nk:=z;rw [HKX.out] at z;exact z)
     clear IK IBK IN IBN
     go_wp2_with (first | (at_builtin;refine wpList_append_lies _ rfl _ _ 27 rfl W0.heap.size 48 i0 _ 3 56 Tryz.underlying27 hi0 hz0 hz1 hz2 rfl (by omega) (.slice oa (i + k) cap) ((i + k)) (ncells q (gd Z) Z.length) rfl (OWNX.alloc _) ⟨wx.heap.size,0,none⟩ 1 1 [.int .i64 x.kind,.slice oa3 M cap3,.slice ka K kc] rfl rfl (World.news_of_block (cs:=#[.int .i64 x.kind,.slice oa3 M cap3,.slice ka K kc]) (t:=48) (fr:=(0,0)) (by have:=heap_alloc_new wx (.cells #[.int .i64 x.kind,.slice oa3 M cap3,.slice ka K kc] 48);simpa using this)) (by simp [Value.oneCell']) (by omega) (by unfold maxLen;omega) (by omega) (by simp;omega) (wx.heap.size + 1) (by simp) ?_;intro gg cap5 w5 hown5 hg5 hat5 hlt5))
     have FIN : Hid (Lq (w.heap.size + 1) W0 w5 (.slice (some ⟨gg,0,none⟩) (i + k + 1) cap5) (fun z=>if z = i + k then ⟨oa3,gn,0,cap3,ka,gk,0,kc⟩ else q z) (upN (gd G) i ++ upN (dblF C L p G) (k + 1))):=by
      rw [HN1.out,show dblD C L P i t k x = ⟨x.kind,x.nn,x.nm,x.nk,dblK C L P i x⟩ from (by unfold dblD;rw [if_neg (fun z=>hkt z.1)])]
      refine lq_step HQ.out HLEN.out BX ⟨oa3,gn,0,cap3,ka,gk,0,kc⟩ (⟨x.kind,x.nn,x.nm,x.nk,dblK C L P i x⟩) NA.out H1.out H2.out ?_ hg5 hat5
      show w5.ownsRow _ _ _ _ _ (_ ++ [.int .i64 x.kind,.slice oa3 (⟨x.kind,x.nn,x.nm,x.nk,dblK C L P i x⟩ : ND).nn cap3,.slice ka (⟨x.kind,x.nn,x.nm,x.nk,dblK C L P i x⟩ : ND).nk kc])
      rw [show (⟨x.kind,x.nn,x.nm,x.nk,dblK C L P i x⟩ : ND).nn = M from HMX.out,show (⟨x.kind,x.nn,x.nm,x.nk,dblK C L P i x⟩ : ND).nk = K from HKX.out]
      exact hown5
     have FP : Hid (dpos G (p + 1) (k + 1) = P + K):=HD1.out
     clear hown5 hg5 hat5 OWN OWNX hO hbx HKIDS HNAMES
     go_wp2
     go_roundw
     case rel=>first | exact ⟨k + 1,(fun z=>if z = i + k then ⟨oa3,gn,0,cap3,ka,gk,0,kc⟩ else q z),by omega,by go_num,(by rw [FP.out] <;> first | rfl | go_num),FIN.out⟩ | exact ⟨k + 1,by omega,by go_num,(by rw [FP.out] <;> first | rfl | go_num),(fun z=>if z = i + k then ⟨oa3,gn,0,cap3,ka,gk,0,kc⟩ else q z),FIN.out⟩
     case measure=>simp [intOf];omega
    have qk : ((k : Int) == (t : Int)) = true:=by rw [beq_iff_eq];omega
    have HKT : Hid (k = t):=hkt
    clear hkt
    by_cases hM0 : 0 < M
    case neg=>
     have qm : ¬ (0 : Int) < (M : Int):=by omega
     have HM0 : Hid (¬ 0 < M):=hM0
     clear hM0
     obtain ⟨gk,IK,IBK⟩:=HKIDS.out
     obtain ⟨gn,IN,IBN⟩:=HNAMES.out
     have NA : Hid (NodeAt wx ⟨oa3,gn,0,cap3,ka,gk,0,kc⟩ (⟨x.kind,x.nn,x.nm,x.nk,dblK C L P i x⟩)):=⟨by show StrsAt _ _ _ _ x.nn _;rw [HMX.out];exact IN,by show IntsAt _ _ _ _ x.nk _;rw [HKX.out];exact IK⟩
     have H1 : Hid (0 < (⟨x.kind,x.nn,x.nm,x.nk,dblK C L P i x⟩ : ND).nn -> gn < wx.heap.size /\ some gn ≠ (Value.slice oa (i + k) cap).ownBlock /\ gn ≠ w.heap.size + 1):=fun z=>IBN (by have z : 0 < x.nn:=z;rw [HMX.out] at z;exact z)
     have H2 : Hid (0 < (⟨x.kind,x.nn,x.nm,x.nk,dblK C L P i x⟩ : ND).nk -> gk < wx.heap.size /\ some gk ≠ (Value.slice oa (i + k) cap).ownBlock /\ gk ≠ w.heap.size + 1):=fun z=>IBK (by have z : 0 < x.nk:=z;rw [HKX.out] at z;exact z)
     clear IK IBK IN IBN
     go_wp2_with (first | (at_builtin;refine wpList_append_lies _ rfl _ _ 27 rfl W0.heap.size 48 i0 _ 3 56 Tryz.underlying27 hi0 hz0 hz1 hz2 rfl (by omega) (.slice oa (i + k) cap) ((i + k)) (ncells q (gd Z) Z.length) rfl (OWNX.alloc _) ⟨wx.heap.size,0,none⟩ 1 1 [.int .i64 x.kind,.slice oa3 M cap3,.slice ka K kc] rfl rfl (World.news_of_block (cs:=#[.int .i64 x.kind,.slice oa3 M cap3,.slice ka K kc]) (t:=48) (fr:=(0,0)) (by have:=heap_alloc_new wx (.cells #[.int .i64 x.kind,.slice oa3 M cap3,.slice ka K kc] 48);simpa using this)) (by simp [Value.oneCell']) (by omega) (by unfold maxLen;omega) (by omega) (by simp;omega) (wx.heap.size + 1) (by simp) ?_;intro gg cap5 w5 hown5 hg5 hat5 hlt5))
     have FIN : Hid (Lq (w.heap.size + 1) W0 w5 (.slice (some ⟨gg,0,none⟩) (i + k + 1) cap5) (fun z=>if z = i + k then ⟨oa3,gn,0,cap3,ka,gk,0,kc⟩ else q z) (upN (gd G) i ++ upN (dblF C L p G) (k + 1))):=by
      rw [HN1.out,show dblD C L P i t k x = ⟨x.kind,x.nn,x.nm,x.nk,dblK C L P i x⟩ from (by unfold dblD;rw [if_neg (fun z=>HM0.out (by have:=z.2;rw [HMX.out] at this;exact this))])]
      refine lq_step HQ.out HLEN.out BX ⟨oa3,gn,0,cap3,ka,gk,0,kc⟩ (⟨x.kind,x.nn,x.nm,x.nk,dblK C L P i x⟩) NA.out H1.out H2.out ?_ hg5 hat5
      show w5.ownsRow _ _ _ _ _ (_ ++ [.int .i64 x.kind,.slice oa3 (⟨x.kind,x.nn,x.nm,x.nk,dblK C L P i x⟩ : ND).nn cap3,.slice ka (⟨x.kind,x.nn,x.nm,x.nk,dblK C L P i x⟩ : ND).nk kc])
      rw [show (⟨x.kind,x.nn,x.nm,x.nk,dblK C L P i x⟩ : ND).nn = M from HMX.out,show (⟨x.kind,x.nn,x.nm,x.nk,dblK C L P i x⟩ : ND).nk = K from HKX.out]
      exact hown5
     have FP : Hid (dpos G (p + 1) (k + 1) = P + K):=HD1.out
     clear hown5 hg5 hat5 OWN OWNX hO hbx HKIDS HNAMES
     go_wp2
     go_roundw
     case rel=>first | exact ⟨k + 1,(fun z=>if z = i + k then ⟨oa3,gn,0,cap3,ka,gk,0,kc⟩ else q z),by omega,by go_num,(by rw [FP.out] <;> first | rfl | go_num),FIN.out⟩ | exact ⟨k + 1,by omega,by go_num,(by rw [FP.out] <;> first | rfl | go_num),(fun z=>if z = i + k then ⟨oa3,gn,0,cap3,ka,gk,0,kc⟩ else q z),FIN.out⟩
     case measure=>simp [intOf];omega
    have qm : (0 : Int) < (M : Int):=by omega
    have HKM : Hid (K = M):=HRX.out hM0
    have eKM:=HKM.out
    obtain ⟨r,hr⟩ : ∃ r,M = r + 1:=⟨M - 1,by omega⟩
    have ei : (M : Int) - 1 = (r : Int):=by omega
    have ei2 : (K : Int) - 1 = (r : Int):=by omega
    have l1 : r <= cap3:=by omega
    have l2 : r <= kc:=by omega
    have HRR : Hid (M = r + 1 /\ K = r + 1 /\ 0 < M):=⟨hr,by omega,hM0⟩
    have fr : r <= 4:=by omega
    clear hr hM0 eKM
    obtain ⟨gk,IK,IBK⟩:=HKIDS.out
    obtain ⟨gn,IN,IBN⟩:=HNAMES.out
    have NA : Hid (NodeAt wx ⟨oa3,gn,0,cap3,ka,gk,0,kc⟩ (⟨x.kind,x.nn - 1,x.nm,x.nk - 1,dblK C L P i x⟩)):=⟨by show StrsAt _ _ _ _ (x.nn - 1) _;exact IN.short (by rw [HMX.out];omega),by show IntsAt _ _ _ _ (x.nk - 1) _;exact IK.short (by rw [HKX.out];omega)⟩
    have H1 : Hid (0 < (⟨x.kind,x.nn - 1,x.nm,x.nk - 1,dblK C L P i x⟩ : ND).nn -> gn < wx.heap.size /\ some gn ≠ (Value.slice oa (i + k) cap).ownBlock /\ gn ≠ w.heap.size + 1):=fun _=>IBN HRR.out.2.2
    have H2 : Hid (0 < (⟨x.kind,x.nn - 1,x.nm,x.nk - 1,dblK C L P i x⟩ : ND).nk -> gk < wx.heap.size /\ some gk ≠ (Value.slice oa (i + k) cap).ownBlock /\ gk ≠ w.heap.size + 1):=fun _=>IBK (by have:=HRR.out;omega)
    clear IK IBK IN IBN
    go_wp2_with (first | (at_builtin;refine wpList_append_lies _ rfl _ _ 27 rfl W0.heap.size 48 i0 _ 3 56 Tryz.underlying27 hi0 hz0 hz1 hz2 rfl (by omega) (.slice oa (i + k) cap) ((i + k)) (ncells q (gd Z) Z.length) rfl (OWNX.alloc _) ⟨wx.heap.size,0,none⟩ 1 1 [.int .i64 x.kind,.slice oa3 r cap3,.slice ka r kc] rfl rfl (World.news_of_block (cs:=#[.int .i64 x.kind,.slice oa3 r cap3,.slice ka r kc]) (t:=48) (fr:=(0,0)) (by have:=heap_alloc_new wx (.cells #[.int .i64 x.kind,.slice oa3 r cap3,.slice ka r kc] 48);simpa using this)) (by simp [Value.oneCell']) (by omega) (by unfold maxLen;omega) (by omega) (by simp;omega) (wx.heap.size + 1) (by simp) ?_;intro gg cap5 w5 hown5 hg5 hat5 hlt5))
    have FIN : Hid (Lq (w.heap.size + 1) W0 w5 (.slice (some ⟨gg,0,none⟩) (i + k + 1) cap5) (fun z=>if z = i + k then ⟨oa3,gn,0,cap3,ka,gk,0,kc⟩ else q z) (upN (gd G) i ++ upN (dblF C L p G) (k + 1))):=by
     rw [HN1.out,show dblD C L P i t k x = ⟨x.kind,x.nn - 1,x.nm,x.nk - 1,dblK C L P i x⟩ from (by unfold dblD;rw [if_pos ⟨HKT.out,by rw [HMX.out];exact HRR.out.2.2⟩])]
     refine lq_step HQ.out HLEN.out BX ⟨oa3,gn,0,cap3,ka,gk,0,kc⟩ (⟨x.kind,x.nn - 1,x.nm,x.nk - 1,dblK C L P i x⟩) NA.out H1.out H2.out ?_ hg5 hat5
     show w5.ownsRow _ _ _ _ _ (_ ++ [.int .i64 x.kind,.slice oa3 (⟨x.kind,x.nn - 1,x.nm,x.nk - 1,dblK C L P i x⟩ : ND).nn cap3,.slice ka (⟨x.kind,x.nn - 1,x.nm,x.nk - 1,dblK C L P i x⟩ : ND).nk kc])
     rw [show (⟨x.kind,x.nn - 1,x.nm,x.nk - 1,dblK C L P i x⟩ : ND).nn = r from (by show x.nn - 1 = r;rw [HMX.out];have:=HRR.out;omega),show (⟨x.kind,x.nn - 1,x.nm,x.nk - 1,dblK C L P i x⟩ : ND).nk = r from (by show x.nk - 1 = r;rw [HKX.out];have:=HRR.out;omega)]
     exact hown5
    have FP : Hid (dpos G (p + 1) (k + 1) = P + K):=HD1.out
    clear hown5 hg5 hat5 OWN OWNX hO hbx HKIDS HNAMES
    go_wp2
    go_roundw
    case rel=>first | exact ⟨k + 1,(fun z=>if z = i + k then ⟨oa3,gn,0,cap3,ka,gk,0,kc⟩ else q z),by omega,by go_num,(by rw [FP.out] <;> first | rfl | go_num),FIN.out⟩ | exact ⟨k + 1,by omega,by go_num,(by rw [FP.out] <;> first | rfl | go_num),(fun z=>if z = i + k then ⟨oa3,gn,0,cap3,ka,gk,0,kc⟩ else q z),FIN.out⟩
    case measure=>simp [intOf];omega
end Go.Proofs.YtpbpbppimkeodaaGreatDoor
