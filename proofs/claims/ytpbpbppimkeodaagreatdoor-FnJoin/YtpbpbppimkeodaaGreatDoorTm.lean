/-
  DrH DrF
-/
import Derived.Test.YtpbpbppimkeodaaGreatDoorTk
import Derived.Test.YtpbpbppimkeodaaGreatDoorTl
import Derived.Test.YtpbpbppimkeodaaGreatDoorSs
set_option maxRecDepth 100000
namespace Go.Proofs.YtpbpbppimkeodaaGreatDoor
open Go.RowKit Go.Maps
theorem box_cell {w : World} {X : Nat} {t : TypeId} {v : Value} {b o : Nat} {u : Value} (h : w.rowIs X t 1 (fun _=>v)) (hc : w.cell? ⟨b,o,none⟩ = some u) (hne : u ≠ v) : b ≠ X:=fun e=>by
 subst e
 obtain ⟨c,h1,h2,h3⟩:=h
 have h0:=h3 0 (by omega)
 simp [World.cell?,h1] at hc
 obtain ⟨hlt,hv⟩:=Array.getElem?_eq_some_iff.1 hc
 have : o = 0:=by omega
 subst this
 rw [h0] at hc
 exact hne (Option.some.inj hc).symm
theorem nodes_box {w : World} {X : Nat} {t : TypeId} {ao bo : Option Addr} {b o n k c : Nat} {p : Nat -> NP} {G : Nat -> ND} (h : NodesAt w ao b o n p G) (hX : w.rowIs X t 1 (fun _=>.slice bo k c)) (u : Value) : NodesAt (w.setCell ⟨X,0,none⟩ u) ao b o n p G:=by
 have hb : ∀ j,j ≠ X -> (w.setCell ⟨X,0,none⟩ u).heap[j]? = w.heap[j]?:=fun j hj=>Below.heap_setCell _ _ _ _ hj
 have bn : 0 < n -> b ≠ X:=fun z=>box_cell hX (h.c0 0 z) (by simp)
 refine ⟨h.at_,fun i hi=>?_,fun i hi=>?_,fun i hi=>?_,fun i hi=>?_,h.len⟩
 ·exact (World.cell?_of_block (hb _ (bn (by omega)))).trans (h.c0 i hi)
 ·exact (World.cell?_of_block (hb _ (bn (by omega)))).trans (h.c1 i hi)
 ·exact (World.cell?_of_block (hb _ (bn (by omega)))).trans (h.c2 i hi)
 ·have N:=h.node i hi
  exact N.later (fun z=>hb _ (box_cell hX (N.names.cell 0 z) (by simp))) (fun z=>hb _ (box_cell hX (N.kids.cell 0 z) (by simp)))
theorem spoil_few {N a : Nat} {x : ND} (h : Few 3 x) : (spoilD N a x).nn <= 4 /\ (spoilD N a x).nk <= 4:=by
 have h1:=h.nn
 have h2:=h.nk
 unfold spoilD
 split
 ·exact ⟨by show x.nn <= 4;omega,by show x.nk <= 4;omega⟩
 split
 ·exact ⟨by show x.nn <= 4;omega,by show 1 + x.nk <= 4;omega⟩
 split
 ·exact ⟨by show x.nn <= 4;omega,by show x.nk <= 4;omega⟩
 split
 ·exact ⟨by show 2 <= 4;omega,by show 2 <= 4;omega⟩
 split
 ·exact ⟨by show 2 <= 4;omega,by show 2 <= 4;omega⟩
 split
 ·exact ⟨by show 1 <= 4;omega,by show 1 <= 4;omega⟩
 ·exact ⟨by show 0 <= 4;omega,by show 2 <= 4;omega⟩
structure AnyOk (C : Nat -> Nat) (L p : Nat) (G : List ND) (q : Nat) : Prop where
 len : G.length = cntL L
 few : ∀ j,j < G.length -> (gd G j).nn <= 4 /\ (gd G j).nk <= 4
 place : q <= p + 200
 calls : ∀ (ca : Option Addr) (cb co cc : Nat) (w : World),BytesAt w ca cb co L C -> Calls Tryz.prog 63 #[.slice ca L cc,.int .i64 (p : Int)] w fun e w'=>GraphPost w (cntL L) G q e w'
set_option maxHeartbeats 8000000 in
theorem any_graph (C : Nat -> Nat) (L p : Nat) (hL : L <= 1048576) (hp : p <= 100) : ∃ G q,AnyOk C L p G q:=by
 have hc:=cntL_le L
 obtain ⟨f1,f2,f3⟩:=drawN_few (C:=C) (L:=L) (n:=cntL L) (p:=p + 1) (by omega) (cntL L)
 have f0:=drawN_len C L (cntL L) (p + 1) (cntL L)
 obtain ⟨n,hn⟩ : ∃ n,n = cntL L:=⟨_,rfl⟩
 rw [<- hn] at hc f1 f2 f3 f0
 obtain ⟨D,hD⟩ : ∃ D,D = drawN C L n (p + 1) n:=⟨_,rfl⟩
 rw [<- hD] at f1 f2 f3 f0
 obtain ⟨G,Q⟩:=D
 have hG1 : (drawN C L n (p + 1) n).1 = G:=by rw [<- hD]
 have hG2 : (drawN C L n (p + 1) n).2 = Q:=by rw [<- hD]
 clear hD
 have f0' : G.length = n:=f0
 have f1' : ∀ j,j < n -> Few 3 (gd G j):=fun j hj=>f1 j (by show j < G.length;omega)
 have f3' : Q <= p + 1 + 8 * n:=f3
 clear f0 f1 f2 f3
 obtain ⟨a,ha⟩ : ∃ a,a = tk C L p 32:=⟨_,rfl⟩
 have HA : Hid (tk C L p 32 = a):=ha.symm
 have HN : Hid (n = cntL L):=hn
 have HG : Hid ((drawN C L n (p + 1) n).1 = G /\ (drawN C L n (p + 1) n).2 = Q):=⟨hG1,hG2⟩
 have HF : Hid (∀ j,j < n -> Few 3 (gd G j)):=f1'
 have HL0 : Hid (G.length = n):=f0'
 clear ha hn hG1 hG2 f1' f0'
 have la : a < 32:=by rw [<- HA.out];exact tk_lt (by omega)
 by_cases h28 : 28 <= a
 case neg=>
  refine ⟨G,Q,by rw [HL0.out,HN.out],fun j hj=>?_,by omega,fun ca cb co cc w h=>?_⟩
  ·have F:=HF.out j (by have:=HL0.out;omega)
   exact ⟨Nat.le_trans F.nn (by omega),Nat.le_trans F.nk (by omega)⟩
  rw [<- HN.out]
  have HC : Hid (∀ w',Below w.heap.size w w' -> BytesAt w' ca cb co L C):=fun w' hb=>h.below hb
  clear h
  obtain ⟨W0,hW0⟩ : ∃ W0,W0 = w.alloc (.cells #[.slice none 0 0] 29):=⟨_,rfl⟩
  have B0 : Below w.heap.size w W0:=by rw [hW0];exact bel1 _ _
  have z0' : w.heap.size < W0.heap.size:=by rw [hW0];simp
  have r0 : W0.rowIs w.heap.size 29 1 (fun _=>.slice none 0 0):=by rw [hW0];exact row1 _ _ _
  have q28 : ¬ (28 : Int) <= (a : Int):=by omega
  go_enter Tryz.func63,Tryz.ntmps63
  go_wp2_with fail
  rw [<- hW0]
  clear hW0
  refine (d_take ca cb co L cc p 32 C W0 (HC.out W0 B0) hL (by omega) (by omega)).mono ?_
  rintro e w1 ⟨rfl,rfl⟩
  rw [HA.out]
  go_wp2_with fail
  refine (d_count ca L cc W0 hL).mono ?_
  rintro e w1 ⟨rfl,rfl⟩
  rw [<- HN.out]
  go_wp2_with fail
  refine (d_graph ca cb co L cc (p + 1) n C W0 (HC.out W0 B0) hL (by omega) (by omega)).mono ?_
  rw [HG.out.1,HG.out.2]
  rintro e w2 ⟨oa,cap,b,q,rfl,hN,hb2⟩
  have RR:=r0.of_block (hb2.block _ z0')
  have R2:=RR.alloc (.cells #[.slice oa n cap] 29)
  have k0:=R2.cell (i:=0) (by omega)
  have k1:=R2.frozen 0
  have NF : Hid (NodesAt ((w2.alloc (.cells #[.slice oa n cap] 29)).setCell ⟨w.heap.size,0,none⟩ (.slice oa n cap)) oa b 0 n q (gd G)):=nodes_box (hN.below (bel1 _ _)) R2 _
  have BF : Hid (Below w.heap.size w ((w2.alloc (.cells #[.slice oa n cap] 29)).setCell ⟨w.heap.size,0,none⟩ (.slice oa n cap))):=((B0.trans (hb2.mono B0.size)).alloc (by have:=hb2.size;omega) _).setCell (Nat.le_refl _) _
  clear hN hb2 RR R2
  go_wp2
  exact bodyPost_ret (v:=.tuple #[.agg #[.slice oa n cap],.int .i64 (Q : Int)]) (by simp [results,Tryz.results63,go_sem,k0]) rfl ⟨oa,cap,b,q,rfl,NF.out,BF.out⟩
 case pos=>
  refine ⟨spoilL C L Q G,Q + 2,by unfold spoilL;rw [upN_len,HL0.out,HN.out],fun j hj=>?_,by omega,fun ca cb co cc w h=>?_⟩
  ·unfold spoilL at hj ⊢
   rw [upN_len] at hj
   rw [gd_upN _ hj]
   have F:=HF.out j (by have:=HL0.out;omega)
   unfold spoilF
   split
   ·exact spoil_few F
   ·exact ⟨Nat.le_trans F.nn (by omega),Nat.le_trans F.nk (by omega)⟩
  rw [<- HN.out]
  have HC : Hid (∀ w',Below w.heap.size w w' -> BytesAt w' ca cb co L C):=fun w' hb=>h.below hb
  clear h
  obtain ⟨W0,hW0⟩ : ∃ W0,W0 = w.alloc (.cells #[.slice none 0 0] 29):=⟨_,rfl⟩
  have B0 : Below w.heap.size w W0:=by rw [hW0];exact bel1 _ _
  have z0' : w.heap.size < W0.heap.size:=by rw [hW0];simp
  have r0 : W0.rowIs w.heap.size 29 1 (fun _=>.slice none 0 0):=by rw [hW0];exact row1 _ _ _
  have q28 : (28 : Int) <= (a : Int):=by omega
  go_enter Tryz.func63,Tryz.ntmps63
  go_wp2_with fail
  rw [<- hW0]
  clear hW0
  refine (d_take ca cb co L cc p 32 C W0 (HC.out W0 B0) hL (by omega) (by omega)).mono ?_
  rintro e w1 ⟨rfl,rfl⟩
  rw [HA.out]
  go_wp2_with fail
  refine (d_count ca L cc W0 hL).mono ?_
  rintro e w1 ⟨rfl,rfl⟩
  rw [<- HN.out]
  go_wp2_with fail
  refine (d_graph ca cb co L cc (p + 1) n C W0 (HC.out W0 B0) hL (by omega) (by omega)).mono ?_
  rw [HG.out.1,HG.out.2]
  rintro e w2 ⟨oa,cap,b,q,rfl,hN,hb2⟩
  have B2 : Below w.heap.size w w2:=B0.trans (hb2.mono B0.size)
  obtain ⟨W3,hW3⟩ : ∃ W3,W3 = w2.alloc (.cells #[.slice oa n cap] 29):=⟨_,rfl⟩
  have B3 : Below w2.heap.size w2 W3:=by rw [hW3];exact bel1 _ _
  have RR:=(r0.of_block (hb2.block _ z0')).of_block (B3.block _ (by have:=hb2.size;omega))
  have BW3 : Below w.heap.size w W3:=B2.trans (B3.mono B2.size)
  go_wp2_with fail
  rw [<- hW3]
  clear hW3
  refine (d_spoil ca cb co L cc Q b cap n oa C G q W3 (HC.out W3 BW3) (hN.below B3) HL0.out HF.out hL (by omega) (by omega)).mono ?_
  rintro e w4 ⟨oa4,cap4,b4,q4,rfl,hN4,hb4⟩
  have R4:=RR.of_block (hb4.block _ RR.lt)
  have k0:=R4.cell (i:=0) (by omega)
  have k1:=R4.frozen 0
  have NF : Hid (NodesAt (w4.setCell ⟨w.heap.size,0,none⟩ (.slice oa4 n cap4)) oa4 b4 0 n q4 (gd (spoilL C L Q G))):=nodes_box hN4 R4 _
  have BF : Hid (Below w.heap.size w (w4.setCell ⟨w.heap.size,0,none⟩ (.slice oa4 n cap4))):=(BW3.trans (hb4.mono BW3.size)).setCell (Nat.le_refl _) _
  clear hN hb2 RR R4 hN4 hb4 B3
  go_wp2
  exact bodyPost_ret (v:=.tuple #[.agg #[.slice oa4 n cap4],.int .i64 ((Q : Int) + 2)]) (by simp [results,Tryz.results63,go_sem,k0]) rfl ⟨oa4,cap4,b4,q4,rfl,NF.out,BF.out⟩
abbrev sN : ByteArray:=⟨#[110]⟩
def ringF (f n : Nat) (s : ByteArray) (i : Nat) : ND:=if i = n - 1 then nodeL 3 [sN,s] [(f : Int),(f : Int)] else nodeL 3 [sN] [((f + (i + 1) % n : Nat) : Int)]
structure Lr (w1 wr : World) (v : Value) (q : Nat -> NP) (L : List ND) : Prop where
 own : wr.ownsRow w1.heap.size 48 3 v L.length (ncells q (gd L) L.length)
 below : Below w1.heap.size w1 wr
 node : ∀ i,i < L.length -> NodeAt wr (q i) (gd L i) /\ (0 < (gd L i).nn -> (q i).b1 < wr.heap.size /\ some (q i).b1 ≠ v.ownBlock) /\ (0 < (gd L i).nk -> (q i).b2 < wr.heap.size /\ some (q i).b2 ≠ v.ownBlock)
theorem Lq.lr {X : Nat} {w1 wr : World} {v : Value} {q : Nat -> NP} {L : List ND} (h : Lq X w1 wr v q L) : Lr w1 wr v q L:=
 ⟨h.own,h.below,fun i hi=>⟨(h.node i hi).1,fun z=>⟨((h.node i hi).2.1 z).1,((h.node i hi).2.1 z).2.1⟩,fun z=>⟨((h.node i hi).2.2 z).1,((h.node i hi).2.2 z).2.1⟩⟩⟩
theorem Lr.lq {w1 w w' : World} {v : Value} {q : Nat -> NP} {L : List ND} (h : Lr w1 w v q L) (hb : Below w.heap.size w w') {X : Nat} (h1 : w.heap.size <= X) (h2 : X < w'.heap.size) : Lq X w1 w' v q L:=by
 have hs:=hb.size
 refine ⟨own_block h.own (fun j e=>hb.block j (h.own.lt j e.symm).2),h.below.trans (hb.mono h.below.size),⟨h2,own_ne h.own h1⟩,fun i hi=>?_⟩
 obtain ⟨n0,n1,n2⟩:=h.node i hi
 exact ⟨n0.below hb,fun z=>⟨by have:=(n1 z).1;omega,(n1 z).2,by have:=(n1 z).1;omega⟩,fun z=>⟨by have:=(n2 z).1;omega,(n2 z).2,by have:=(n2 z).1;omega⟩⟩
theorem lq_set' {X Y : Nat} {w1 wr : World} {v : Value} {q : Nat -> NP} {L : List ND} (h : Lq X w1 wr v q L) (h' : Lq Y w1 wr v q L) (hX : w1.heap.size <= X) (o : Nat) (u : Value) : Lq Y w1 (wr.setCell ⟨X,o,none⟩ u) v q L:=by
 have:=lq_set h hX o u
 refine ⟨this.own,this.below,⟨by simp;exact h'.box.1,h'.box.2⟩,fun i hi=>⟨(this.node i hi).1,fun z=>⟨((this.node i hi).2.1 z).1,((h'.node i hi).2.1 z).2⟩,fun z=>⟨((this.node i hi).2.2 z).1,((h'.node i hi).2.2 z).2⟩⟩⟩
def RingPost (w1 : World) (L : List ND) (e : Ending) (w' : World) : Prop:=
 ∃ (v : Value) (q : Nat -> NP),e = .returned (.agg #[v]) /\ Lr w1 w' v q L
set_option maxHeartbeats 16000000 in
theorem d_ring (w1 : World) (v0 : Value) (q0 : Nat -> NP) (Z : List ND) (f n : Nat) (s : ByteArray) (w : World) (h : Lr w1 w v0 q0 Z) (hf : Z.length = f) (hf2 : f <= 2000) (hn : 0 < n) (hn2 : n <= 2000) (hs : s.size <= 12) :
  Calls Tryz.prog 41 #[.agg #[v0],.int .i64 (n : Int),.string s] w fun e w'=>RingPost w1 (Z ++ upN (ringF f n s) n) e w':=by
 have H0:=h.own
 rw [hf] at H0
 obtain ⟨oa0,cap0,rfl⟩:=own_form H0
 clear H0
 have HZ : Hid (Z.length = f):=hf
 have HS : Hid (s.size <= 12):=hs
 have hw1:=h.below.size
 have B2:=bel2 w (.cells #[.slice oa0 f cap0] 29) (.cells #[.slice none 0 0] 29)
 have Q1:=h.lq B2 (X:=w.heap.size) (Nat.le_refl _) (by simp;omega)
 have Q2:=h.lq B2 (X:=w.heap.size + 1) (by omega) (by simp)
 have RB:=(row1 w (.slice oa0 f cap0) 29).alloc (.cells #[.slice none 0 0] 29)
 have RC : ((w.alloc (.cells #[.slice oa0 f cap0] 29)).alloc (.cells #[.slice none 0 0] 29)).rowIs (w.heap.size + 1) 29 1 (fun _=>.slice none 0 0):=by
  have:=row1 (w.alloc (.cells #[.slice oa0 f cap0] 29)) (.slice none 0 0) 29
  simpa using this
 have ST : Hid (Lq w.heap.size w1 ((w.alloc (.cells #[.slice oa0 f cap0] 29)).alloc (.cells #[.slice none 0 0] 29)) (.slice oa0 f cap0) q0 (Z ++ upN (ringF f n s) 0) /\ Lq (w.heap.size + 1) w1 ((w.alloc (.cells #[.slice oa0 f cap0] 29)).alloc (.cells #[.slice none 0 0] 29)) (.slice oa0 f cap0) q0 (Z ++ upN (ringF f n s) 0)):=by
  have e : Z ++ upN (ringF f n s) 0 = Z:=by simp [upN]
  rw [e];exact ⟨Q1,Q2⟩
 clear h Q1 Q2 hf hs B2
 obtain ⟨i0,hi0,hz0,hz1,hz2⟩:=info_parts Tryz.info48
 have hnn : ¬ (n : Int) = 0:=by omega
 go_enter Tryz.func41,Tryz.ntmps41
 go_wp2
 go_loopw [8] (fun s8 wr=>∃ (i : Nat) (q : Nat -> NP) (v : Value),i <= n /\ s8 = .int .i64 i /\ Lq w.heap.size w1 wr v q (Z ++ upN (ringF f n s) i) /\ Lq (w.heap.size + 1) w1 wr v q (Z ++ upN (ringF f n s) i) /\ wr.rowIs w.heap.size 29 1 (fun _=>v) /\ wr.rowIs (w.heap.size + 1) 29 1 (fun _=>.slice none 0 0)) (fun s8 _=>n - (intOf s8).toNat)
 case atStart=>exact ⟨0,q0,_,Nat.zero_le _,rfl,ST.out.1,ST.out.2,RB,RC⟩
 case round=>
  obtain ⟨i,q,v,hi,rfl,hQ1,hQ2,hRB,hRC⟩:=hrel
  clear ST RB RC
  have hlen : (Z ++ upN (ringF f n s) i).length = f + i:=by rw [List.length_append,upN_len,HZ.out]
  have OWN:=hQ1.own
  rw [hlen] at OWN
  obtain ⟨oa,cap,rfl⟩:=own_form OWN
  have cB:=hRB.cell (i:=0) (by omega)
  have fB:=hRB.frozen 0
  by_cases hlt : i < n
  case neg=>
   have hin : i = n:=by omega
   subst hin
   have k0:=hRC.cell (i:=0) (by omega)
   have k1:=hRC.frozen 0
   have FIN : Hid (Lr w1 (wr.setCell ⟨w.heap.size + 1,0,none⟩ (.slice oa (f + i) cap)) (.slice oa (f + i) cap) q (Z ++ upN (ringF f i s) i)):=(lq_set hQ2 (by omega) 0 _).lr
   clear hQ1 hQ2 OWN hRB hRC
   go_wp2
   exact bodyPost_ret (v:=.agg #[.slice oa (f + i) cap]) (by simp [results,Tryz.results41,go_sem,k0]) rfl ⟨.slice oa (f + i) cap,q,rfl,FIN.out⟩
  have HN1 : Hid (Z ++ upN (ringF f n s) (i + 1) = (Z ++ upN (ringF f n s) i) ++ [ringF f n s i]):=by
   show Z ++ upN (ringF f n s) (i + 1) = _
   rw [upN_succ,List.append_assoc]
  obtain ⟨Y,hY⟩ : ∃ Y,Y = Z ++ upN (ringF f n s) i:=⟨_,rfl⟩
  rw [<- hY] at HN1 hQ1 hQ2 hlen OWN
  clear hY
  have HQ1 : Hid (Lq w.heap.size w1 wr (.slice oa (f + i) cap) q Y):=hQ1
  have HQ2 : Hid (Lq (w.heap.size + 1) w1 wr (.slice oa (f + i) cap) q Y):=hQ2
  have HLEN : Hid (Y.length = f + i):=hlen
  have HRB : Hid (wr.rowIs w.heap.size 29 1 (fun _=>.slice oa (f + i) cap)):=hRB
  have HRC : Hid (wr.rowIs (w.heap.size + 1) 29 1 (fun _=>.slice none 0 0)):=hRC
  have hbs : w1.heap.size <= wr.heap.size:=hQ1.below.size
  have hx1:=hQ1.box.1
  have hx2:=hQ2.box.1
  have HX1 : Hid (some w.heap.size ≠ (Value.slice oa (f + i) cap).ownBlock):=hQ1.box.2
  have HX2 : Hid (some (w.heap.size + 1) ≠ (Value.slice oa (f + i) cap).ownBlock):=hQ2.box.2
  have OWN : wr.ownsRow w1.heap.size 48 3 (.slice oa (f + i) cap) (f + i) (ncells q (gd Y) Y.length):=by have:=hQ1.own;rw [hlen] at this ⊢;exact this
  clear hQ1 hQ2 hlen hRB hRC
  obtain ⟨m,hm⟩ : ∃ m,m = (i + 1) % n:=⟨_,rfl⟩
  have tm : Int.tmod ((i : Int) + 1) (n : Int) = (m : Int):=by rw [hm,<- tmodN];rfl
  have lm : m < n:=by rw [hm];exact Nat.mod_lt _ hn
  have HM : Hid ((i + 1) % n = m):=hm.symm
  clear hm
  have cA3 : ∀ o1 o2 o3,(((wr.alloc o1).alloc o2).alloc o3).cell? ⟨w.heap.size,0,none⟩ = some (.slice oa (f + i) cap):=fun o1 o2 o3=>((bel3 wr o1 o2 o3).cell (p:=⟨w.heap.size,0,none⟩) hx1).trans cB
  have cA5 : ∀ o1 o2 o3 o4 o5,(((((wr.alloc o1).alloc o2).alloc o3).alloc o4).alloc o5).cell? ⟨w.heap.size,0,none⟩ = some (.slice oa (f + i) cap):=fun o1 o2 o3 o4 o5=>((((bel3 wr o1 o2 o3).alloc (by simp;omega) o4).alloc (by simp;omega) o5).cell (p:=⟨w.heap.size,0,none⟩) hx1).trans cB
  have hne0 : ¬ (w.heap.size = wr.heap.size):=by omega
  have hne1 : ¬ (w.heap.size = wr.heap.size + 1):=by omega
  have hne2 : ¬ (w.heap.size = wr.heap.size + 1 + 1):=by omega
  by_cases hla : i = n - 1
  case neg=>
   have ql : ((i : Int) == (n : Int) - 1) = false:=beq_eq_false_iff_ne.2 (by omega)
   have BZ : Below wr.heap.size wr (((wr.alloc (.cells #[.string sN] 9)).alloc (.cells #[.int .i64 ((f : Int) + (m : Int))] 3)).alloc (.cells #[.int .i64 3,.slice (some ⟨wr.heap.size,0,none⟩) 1 1,.slice (some ⟨wr.heap.size + 1,0,none⟩) 1 1] 48)):=bel3 _ _ _ _
   have OWNZ : ((((wr.alloc (.cells #[.string sN] 9)).alloc (.cells #[.int .i64 ((f : Int) + (m : Int))] 3)).alloc (.cells #[.int .i64 3,.slice (some ⟨wr.heap.size,0,none⟩) 1 1,.slice (some ⟨wr.heap.size + 1,0,none⟩) 1 1] 48))).ownsRow w1.heap.size 48 3 (.slice oa (f + i) cap) (f + i) (ncells q (gd Y) Y.length):=own_block OWN (fun j e=>BZ.block j (OWN.lt j e.symm).2)
   have NA : Hid (NodeAt (((wr.alloc (.cells #[.string sN] 9)).alloc (.cells #[.int .i64 ((f : Int) + (m : Int))] 3)).alloc (.cells #[.int .i64 3,.slice (some ⟨wr.heap.size,0,none⟩) 1 1,.slice (some ⟨wr.heap.size + 1,0,none⟩) 1 1] 48)) ⟨some ⟨wr.heap.size,0,none⟩,wr.heap.size,0,1,some ⟨wr.heap.size + 1,0,none⟩,wr.heap.size + 1,0,1⟩ (nodeL 3 [sN] [(f : Int) + (m : Int)])):=by
    have e1:=one_strs wr sN (by decide)
    have e2:=one_ints (wr.alloc (.cells #[.string sN] 9)) ((f : Int) + (m : Int))
    simp only [World.size_alloc] at e2
    exact ⟨(e1.below (by have:=bel2 (wr.alloc (.cells #[.string sN] 9)) (.cells #[.int .i64 ((f : Int) + (m : Int))] 3) (.cells #[.int .i64 3,.slice (some ⟨wr.heap.size,0,none⟩) 1 1,.slice (some ⟨wr.heap.size + 1,0,none⟩) 1 1] 48);simpa using this)),e2.below (by have:=bel1 ((wr.alloc (.cells #[.string sN] 9)).alloc (.cells #[.int .i64 ((f : Int) + (m : Int))] 3)) (.cells #[.int .i64 3,.slice (some ⟨wr.heap.size,0,none⟩) 1 1,.slice (some ⟨wr.heap.size + 1,0,none⟩) 1 1] 48);simpa using this)⟩
   have H1 : Hid (wr.heap.size < ((((wr.alloc (.cells #[.string sN] 9)).alloc (.cells #[.int .i64 ((f : Int) + (m : Int))] 3)).alloc (.cells #[.int .i64 3,.slice (some ⟨wr.heap.size,0,none⟩) 1 1,.slice (some ⟨wr.heap.size + 1,0,none⟩) 1 1] 48))).heap.size /\ some wr.heap.size ≠ (Value.slice oa (f + i) cap).ownBlock):=⟨by simp;omega,own_ne OWN (by omega)⟩
   have H2 : Hid (wr.heap.size + 1 < ((((wr.alloc (.cells #[.string sN] 9)).alloc (.cells #[.int .i64 ((f : Int) + (m : Int))] 3)).alloc (.cells #[.int .i64 3,.slice (some ⟨wr.heap.size,0,none⟩) 1 1,.slice (some ⟨wr.heap.size + 1,0,none⟩) 1 1] 48))).heap.size /\ some (wr.heap.size + 1) ≠ (Value.slice oa (f + i) cap).ownBlock):=⟨by simp,own_ne OWN (by omega)⟩
   go_wp2_with (first | (at_builtin;refine wpList_append_lies _ rfl _ _ 27 rfl w1.heap.size 48 i0 _ 3 56 Tryz.underlying27 hi0 hz0 hz1 hz2 rfl (by omega) (.slice oa (f + i) cap) (f + i) (ncells q (gd Y) Y.length) rfl (OWNZ.alloc _) ⟨wr.heap.size + 1 + 1 + 1,0,none⟩ 1 1 [.int .i64 3,.slice (some ⟨wr.heap.size,0,none⟩) 1 1,.slice (some ⟨wr.heap.size + 1,0,none⟩) 1 1] rfl rfl (World.news_of_block (cs:=#[.int .i64 3,.slice (some ⟨wr.heap.size,0,none⟩) 1 1,.slice (some ⟨wr.heap.size + 1,0,none⟩) 1 1]) (t:=48) (fr:=(0,0)) (by have:=heap_alloc_new (((wr.alloc (.cells #[.string sN] 9)).alloc (.cells #[.int .i64 ((f : Int) + (m : Int))] 3)).alloc (.cells #[.int .i64 3,.slice (some ⟨wr.heap.size,0,none⟩) 1 1,.slice (some ⟨wr.heap.size + 1,0,none⟩) 1 1] 48)) (.cells #[.int .i64 3,.slice (some ⟨wr.heap.size,0,none⟩) 1 1,.slice (some ⟨wr.heap.size + 1,0,none⟩) 1 1] 48);simpa using this)) (by simp [Value.oneCell']) (by omega) (by unfold maxLen;omega) (by omega) (by simp;omega) (wr.heap.size + 1 + 1 + 1 + 1) (by simp) ?_;intro gg cap5 w5 hown5 hg5 hat5 hlt5;have b5 : ∀ j,j < wr.heap.size -> some j ≠ (Value.slice oa (f + i) cap).ownBlock -> w5.heap[j]? = wr.heap[j]?:=(fun j hj hne=>(hg5.block j (by simp;omega) hne).trans ((Below.heap_alloc _ _ _ (by simp;omega)).trans (BZ.block j hj)));have R5:=HRB.out.of_block (b5 _ hx1 HX1.out);have d0:=R5.cell (i:=0) (by omega);have d1:=R5.frozen 0))
   have FIN : Hid (Lq w.heap.size w1 (w5.setCell ⟨w.heap.size,0,none⟩ (.slice (some ⟨gg,0,none⟩) (f + i + 1) cap5)) (.slice (some ⟨gg,0,none⟩) (f + i + 1) cap5) (fun k=>if k = f + i then ⟨some ⟨wr.heap.size,0,none⟩,wr.heap.size,0,1,some ⟨wr.heap.size + 1,0,none⟩,wr.heap.size + 1,0,1⟩ else q k) (Z ++ upN (ringF f n s) (i + 1)) /\ Lq (w.heap.size + 1) w1 (w5.setCell ⟨w.heap.size,0,none⟩ (.slice (some ⟨gg,0,none⟩) (f + i + 1) cap5)) (.slice (some ⟨gg,0,none⟩) (f + i + 1) cap5) (fun k=>if k = f + i then ⟨some ⟨wr.heap.size,0,none⟩,wr.heap.size,0,1,some ⟨wr.heap.size + 1,0,none⟩,wr.heap.size + 1,0,1⟩ else q k) (Z ++ upN (ringF f n s) (i + 1))):=by
    rw [HN1.out,show ringF f n s i = nodeL 3 [sN] [(f : Int) + (m : Int)] from (by unfold ringF;rw [if_neg hla,HM.out];congr 1)]
    have s1:=lq_step HQ1.out HLEN.out BZ ⟨some ⟨wr.heap.size,0,none⟩,wr.heap.size,0,1,some ⟨wr.heap.size + 1,0,none⟩,wr.heap.size + 1,0,1⟩ (nodeL 3 [sN] [(f : Int) + (m : Int)]) NA.out (fun z=>⟨((fun _=>H1.out) z).1,((fun _=>H1.out) z).2,by show wr.heap.size ≠ w.heap.size;omega⟩) (fun z=>⟨((fun _=>H2.out) z).1,((fun _=>H2.out) z).2,by show wr.heap.size + 1 ≠ w.heap.size;omega⟩) hown5 hg5 (by simpa using hat5)
    have s2:=lq_step HQ2.out HLEN.out BZ ⟨some ⟨wr.heap.size,0,none⟩,wr.heap.size,0,1,some ⟨wr.heap.size + 1,0,none⟩,wr.heap.size + 1,0,1⟩ (nodeL 3 [sN] [(f : Int) + (m : Int)]) NA.out (fun z=>⟨((fun _=>H1.out) z).1,((fun _=>H1.out) z).2,by show wr.heap.size ≠ w.heap.size + 1;omega⟩) (fun z=>⟨((fun _=>H2.out) z).1,((fun _=>H2.out) z).2,by show wr.heap.size + 1 ≠ w.heap.size + 1;omega⟩) hown5 hg5 (by simpa using hat5)
    exact ⟨lq_set s1 hw1 0 _,lq_set' s1 s2 hw1 0 _⟩
   have FR : Hid ((w5.setCell ⟨w.heap.size,0,none⟩ (.slice (some ⟨gg,0,none⟩) (f + i + 1) cap5)).rowIs w.heap.size 29 1 (fun _=>.slice (some ⟨gg,0,none⟩) (f + i + 1) cap5) /\ (w5.setCell ⟨w.heap.size,0,none⟩ (.slice (some ⟨gg,0,none⟩) (f + i + 1) cap5)).rowIs (w.heap.size + 1) 29 1 (fun _=>.slice none 0 0)):=by
    refine ⟨(R5.set 0 _).congr (fun j hj=>?_),(HRC.out.of_block (b5 _ hx2 HX2.out)).setOther (by show w.heap.size + 1 ≠ w.heap.size;omega) _⟩
    match j,hj with
    | 0,_=>rfl
   clear hown5 hg5 hat5 OWN OWNZ NA R5
   go_wp2
   go_roundw
   case rel=>first | exact ⟨i + 1,(fun k=>if k = f + i then ⟨some ⟨wr.heap.size,0,none⟩,wr.heap.size,0,1,some ⟨wr.heap.size + 1,0,none⟩,wr.heap.size + 1,0,1⟩ else q k),_,by omega,by go_num,FIN.out.1,FIN.out.2,FR.out.1,FR.out.2⟩ | exact ⟨i + 1,by omega,by go_num,(fun k=>if k = f + i then ⟨some ⟨wr.heap.size,0,none⟩,wr.heap.size,0,1,some ⟨wr.heap.size + 1,0,none⟩,wr.heap.size + 1,0,1⟩ else q k),_,FIN.out.1,FIN.out.2,FR.out.1,FR.out.2⟩
   case measure=>simp [intOf];omega
  have ql : ((i : Int) == (n : Int) - 1) = true:=by rw [beq_iff_eq];omega
  have HLA : Hid (i = n - 1):=hla
  clear hla
  have BZ : Below wr.heap.size wr (((((wr.alloc (.cells #[.string sN] 9)).alloc (.cells #[.int .i64 ((f : Int) + (m : Int))] 3)).alloc (.cells #[.int .i64 3,.slice (some ⟨wr.heap.size + 1 + 1 + 1,0,none⟩) 2 2,.slice (some ⟨wr.heap.size + 1 + 1 + 1 + 1,0,none⟩) 2 2] 48)).alloc (.cells #[.string sN,.string s] 9)).alloc (.cells #[.int .i64 (f : Int),.int .i64 (f : Int)] 3)):=((bel3 wr _ _ _).alloc (by simp;omega) _).alloc (by simp;omega) _
  have OWNZ : ((((((wr.alloc (.cells #[.string sN] 9)).alloc (.cells #[.int .i64 ((f : Int) + (m : Int))] 3)).alloc (.cells #[.int .i64 3,.slice (some ⟨wr.heap.size + 1 + 1 + 1,0,none⟩) 2 2,.slice (some ⟨wr.heap.size + 1 + 1 + 1 + 1,0,none⟩) 2 2] 48)).alloc (.cells #[.string sN,.string s] 9)).alloc (.cells #[.int .i64 (f : Int),.int .i64 (f : Int)] 3))).ownsRow w1.heap.size 48 3 (.slice oa (f + i) cap) (f + i) (ncells q (gd Y) Y.length):=own_block OWN (fun j e=>BZ.block j (OWN.lt j e.symm).2)
  have NA : Hid (NodeAt (((((wr.alloc (.cells #[.string sN] 9)).alloc (.cells #[.int .i64 ((f : Int) + (m : Int))] 3)).alloc (.cells #[.int .i64 3,.slice (some ⟨wr.heap.size + 1 + 1 + 1,0,none⟩) 2 2,.slice (some ⟨wr.heap.size + 1 + 1 + 1 + 1,0,none⟩) 2 2] 48)).alloc (.cells #[.string sN,.string s] 9)).alloc (.cells #[.int .i64 (f : Int),.int .i64 (f : Int)] 3)) ⟨some ⟨wr.heap.size + 1 + 1 + 1,0,none⟩,wr.heap.size + 1 + 1 + 1,0,2,some ⟨wr.heap.size + 1 + 1 + 1 + 1,0,none⟩,wr.heap.size + 1 + 1 + 1 + 1,0,2⟩ (nodeL 3 [sN,s] [(f : Int),(f : Int)])):=by
   have e1:=two_strs (((wr.alloc (.cells #[.string sN] 9)).alloc (.cells #[.int .i64 ((f : Int) + (m : Int))] 3)).alloc (.cells #[.int .i64 3,.slice (some ⟨wr.heap.size + 1 + 1 + 1,0,none⟩) 2 2,.slice (some ⟨wr.heap.size + 1 + 1 + 1 + 1,0,none⟩) 2 2] 48)) sN s (by decide) HS.out
   have e2:=two_ints ((((wr.alloc (.cells #[.string sN] 9)).alloc (.cells #[.int .i64 ((f : Int) + (m : Int))] 3)).alloc (.cells #[.int .i64 3,.slice (some ⟨wr.heap.size + 1 + 1 + 1,0,none⟩) 2 2,.slice (some ⟨wr.heap.size + 1 + 1 + 1 + 1,0,none⟩) 2 2] 48)).alloc (.cells #[.string sN,.string s] 9)) (f : Int) (f : Int)
   simp only [World.size_alloc] at e1 e2
   exact ⟨e1.below (by have:=bel1 ((((wr.alloc (.cells #[.string sN] 9)).alloc (.cells #[.int .i64 ((f : Int) + (m : Int))] 3)).alloc (.cells #[.int .i64 3,.slice (some ⟨wr.heap.size + 1 + 1 + 1,0,none⟩) 2 2,.slice (some ⟨wr.heap.size + 1 + 1 + 1 + 1,0,none⟩) 2 2] 48)).alloc (.cells #[.string sN,.string s] 9)) (.cells #[.int .i64 (f : Int),.int .i64 (f : Int)] 3);simpa using this),e2⟩
  have H1 : Hid (wr.heap.size + 1 + 1 + 1 < ((((((wr.alloc (.cells #[.string sN] 9)).alloc (.cells #[.int .i64 ((f : Int) + (m : Int))] 3)).alloc (.cells #[.int .i64 3,.slice (some ⟨wr.heap.size + 1 + 1 + 1,0,none⟩) 2 2,.slice (some ⟨wr.heap.size + 1 + 1 + 1 + 1,0,none⟩) 2 2] 48)).alloc (.cells #[.string sN,.string s] 9)).alloc (.cells #[.int .i64 (f : Int),.int .i64 (f : Int)] 3))).heap.size /\ some (wr.heap.size + 1 + 1 + 1) ≠ (Value.slice oa (f + i) cap).ownBlock):=⟨by simp,own_ne OWN (by omega)⟩
  have H2 : Hid (wr.heap.size + 1 + 1 + 1 + 1 < ((((((wr.alloc (.cells #[.string sN] 9)).alloc (.cells #[.int .i64 ((f : Int) + (m : Int))] 3)).alloc (.cells #[.int .i64 3,.slice (some ⟨wr.heap.size + 1 + 1 + 1,0,none⟩) 2 2,.slice (some ⟨wr.heap.size + 1 + 1 + 1 + 1,0,none⟩) 2 2] 48)).alloc (.cells #[.string sN,.string s] 9)).alloc (.cells #[.int .i64 (f : Int),.int .i64 (f : Int)] 3))).heap.size /\ some (wr.heap.size + 1 + 1 + 1 + 1) ≠ (Value.slice oa (f + i) cap).ownBlock):=⟨by simp,own_ne OWN (by omega)⟩
  go_wp2_with (first | (at_builtin;refine wpList_append_lies _ rfl _ _ 27 rfl w1.heap.size 48 i0 _ 3 56 Tryz.underlying27 hi0 hz0 hz1 hz2 rfl (by omega) (.slice oa (f + i) cap) (f + i) (ncells q (gd Y) Y.length) rfl (OWNZ.alloc _) ⟨wr.heap.size + 1 + 1 + 1 + 1 + 1,0,none⟩ 1 1 [.int .i64 3,.slice (some ⟨wr.heap.size + 1 + 1 + 1,0,none⟩) 2 2,.slice (some ⟨wr.heap.size + 1 + 1 + 1 + 1,0,none⟩) 2 2] rfl rfl (World.news_of_block (cs:=#[.int .i64 3,.slice (some ⟨wr.heap.size + 1 + 1 + 1,0,none⟩) 2 2,.slice (some ⟨wr.heap.size + 1 + 1 + 1 + 1,0,none⟩) 2 2]) (t:=48) (fr:=(0,0)) (by have:=heap_alloc_new (((((wr.alloc (.cells #[.string sN] 9)).alloc (.cells #[.int .i64 ((f : Int) + (m : Int))] 3)).alloc (.cells #[.int .i64 3,.slice (some ⟨wr.heap.size + 1 + 1 + 1,0,none⟩) 2 2,.slice (some ⟨wr.heap.size + 1 + 1 + 1 + 1,0,none⟩) 2 2] 48)).alloc (.cells #[.string sN,.string s] 9)).alloc (.cells #[.int .i64 (f : Int),.int .i64 (f : Int)] 3)) (.cells #[.int .i64 3,.slice (some ⟨wr.heap.size + 1 + 1 + 1,0,none⟩) 2 2,.slice (some ⟨wr.heap.size + 1 + 1 + 1 + 1,0,none⟩) 2 2] 48);simpa using this)) (by simp [Value.oneCell']) (by omega) (by unfold maxLen;omega) (by omega) (by simp;omega) (wr.heap.size + 1 + 1 + 1 + 1 + 1 + 1) (by simp) ?_;intro gg cap5 w5 hown5 hg5 hat5 hlt5;have b5 : ∀ j,j < wr.heap.size -> some j ≠ (Value.slice oa (f + i) cap).ownBlock -> w5.heap[j]? = wr.heap[j]?:=(fun j hj hne=>(hg5.block j (by simp;omega) hne).trans ((Below.heap_alloc _ _ _ (by simp;omega)).trans (BZ.block j hj)));have R5:=HRB.out.of_block (b5 _ hx1 HX1.out);have d0:=R5.cell (i:=0) (by omega);have d1:=R5.frozen 0))
  have FIN : Hid (Lq w.heap.size w1 (w5.setCell ⟨w.heap.size,0,none⟩ (.slice (some ⟨gg,0,none⟩) (f + i + 1) cap5)) (.slice (some ⟨gg,0,none⟩) (f + i + 1) cap5) (fun k=>if k = f + i then ⟨some ⟨wr.heap.size + 1 + 1 + 1,0,none⟩,wr.heap.size + 1 + 1 + 1,0,2,some ⟨wr.heap.size + 1 + 1 + 1 + 1,0,none⟩,wr.heap.size + 1 + 1 + 1 + 1,0,2⟩ else q k) (Z ++ upN (ringF f n s) (i + 1)) /\ Lq (w.heap.size + 1) w1 (w5.setCell ⟨w.heap.size,0,none⟩ (.slice (some ⟨gg,0,none⟩) (f + i + 1) cap5)) (.slice (some ⟨gg,0,none⟩) (f + i + 1) cap5) (fun k=>if k = f + i then ⟨some ⟨wr.heap.size + 1 + 1 + 1,0,none⟩,wr.heap.size + 1 + 1 + 1,0,2,some ⟨wr.heap.size + 1 + 1 + 1 + 1,0,none⟩,wr.heap.size + 1 + 1 + 1 + 1,0,2⟩ else q k) (Z ++ upN (ringF f n s) (i + 1))):=by
   rw [HN1.out,show ringF f n s i = nodeL 3 [sN,s] [(f : Int),(f : Int)] from (by unfold ringF;rw [if_pos HLA.out])]
   have s1:=lq_step HQ1.out HLEN.out BZ ⟨some ⟨wr.heap.size + 1 + 1 + 1,0,none⟩,wr.heap.size + 1 + 1 + 1,0,2,some ⟨wr.heap.size + 1 + 1 + 1 + 1,0,none⟩,wr.heap.size + 1 + 1 + 1 + 1,0,2⟩ (nodeL 3 [sN,s] [(f : Int),(f : Int)]) NA.out (fun z=>⟨((fun _=>H1.out) z).1,((fun _=>H1.out) z).2,by show wr.heap.size + 1 + 1 + 1 ≠ w.heap.size;omega⟩) (fun z=>⟨((fun _=>H2.out) z).1,((fun _=>H2.out) z).2,by show wr.heap.size + 1 + 1 + 1 + 1 ≠ w.heap.size;omega⟩) hown5 hg5 (by simpa using hat5)
   have s2:=lq_step HQ2.out HLEN.out BZ ⟨some ⟨wr.heap.size + 1 + 1 + 1,0,none⟩,wr.heap.size + 1 + 1 + 1,0,2,some ⟨wr.heap.size + 1 + 1 + 1 + 1,0,none⟩,wr.heap.size + 1 + 1 + 1 + 1,0,2⟩ (nodeL 3 [sN,s] [(f : Int),(f : Int)]) NA.out (fun z=>⟨((fun _=>H1.out) z).1,((fun _=>H1.out) z).2,by show wr.heap.size + 1 + 1 + 1 ≠ w.heap.size + 1;omega⟩) (fun z=>⟨((fun _=>H2.out) z).1,((fun _=>H2.out) z).2,by show wr.heap.size + 1 + 1 + 1 + 1 ≠ w.heap.size + 1;omega⟩) hown5 hg5 (by simpa using hat5)
   exact ⟨lq_set s1 hw1 0 _,lq_set' s1 s2 hw1 0 _⟩
  have FR : Hid ((w5.setCell ⟨w.heap.size,0,none⟩ (.slice (some ⟨gg,0,none⟩) (f + i + 1) cap5)).rowIs w.heap.size 29 1 (fun _=>.slice (some ⟨gg,0,none⟩) (f + i + 1) cap5) /\ (w5.setCell ⟨w.heap.size,0,none⟩ (.slice (some ⟨gg,0,none⟩) (f + i + 1) cap5)).rowIs (w.heap.size + 1) 29 1 (fun _=>.slice none 0 0)):=by
   refine ⟨(R5.set 0 _).congr (fun j hj=>?_),(HRC.out.of_block (b5 _ hx2 HX2.out)).setOther (by show w.heap.size + 1 ≠ w.heap.size;omega) _⟩
   match j,hj with
   | 0,_=>rfl
  clear hown5 hg5 hat5 OWN OWNZ NA R5
  go_wp2
  go_roundw
  case rel=>first | exact ⟨i + 1,(fun k=>if k = f + i then ⟨some ⟨wr.heap.size + 1 + 1 + 1,0,none⟩,wr.heap.size + 1 + 1 + 1,0,2,some ⟨wr.heap.size + 1 + 1 + 1 + 1,0,none⟩,wr.heap.size + 1 + 1 + 1 + 1,0,2⟩ else q k),_,by omega,by go_num,FIN.out.1,FIN.out.2,FR.out.1,FR.out.2⟩ | exact ⟨i + 1,by omega,by go_num,(fun k=>if k = f + i then ⟨some ⟨wr.heap.size + 1 + 1 + 1,0,none⟩,wr.heap.size + 1 + 1 + 1,0,2,some ⟨wr.heap.size + 1 + 1 + 1 + 1,0,none⟩,wr.heap.size + 1 + 1 + 1 + 1,0,2⟩ else q k),_,FIN.out.1,FIN.out.2,FR.out.1,FR.out.2⟩
  case measure=>simp [intOf];omega
end Go.Proofs.YtpbpbppimkeodaaGreatDoor
