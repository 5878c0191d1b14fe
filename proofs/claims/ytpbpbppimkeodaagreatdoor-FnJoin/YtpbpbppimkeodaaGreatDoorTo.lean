/-
  JrI
-/
import Derived.Test.YtpbpbppimkeodaaGreatDoorTm
import Derived.Test.YtpbpbppimkeodaaGreatDoorTn
import Derived.Test.YtpbpbppimkeodaaGreatDoorSp
import Derived.BigQuiet
set_option maxRecDepth 100000
namespace Go.Proofs.YtpbpbppimkeodaaGreatDoor
open Go.RowKit Go.Maps
theorem cntL_pos (L : Nat) : 0 < cntL L:=by unfold cntL;split <;> omega
def TwoPost (w : World) (N : Nat) (G : List ND) (a b : Int) (e : Ending) (w' : World) : Prop:=
 ∃ (oa : Option Addr) (cap g : Nat) (q : Nat -> NP),e = .returned (.tuple #[.agg #[.slice oa N cap],.int .i64 a,.int .i64 b]) /\ NodesAt w' oa g 0 N q (gd G) /\ Below w.heap.size w w'
structure TwoOk (C : Nat -> Nat) (L N : Nat) (G : List ND) (a b : Int) : Prop where
 len : G.length = N
 small : N <= 100
 few : ∀ j,j < N -> (gd G j).nn <= 4 /\ (gd G j).nk <= 4
 calls : ∀ (ca : Option Addr) (cb co cc : Nat) (w : World),BytesAt w ca cb co L C -> Calls Tryz.prog 42 #[.slice ca L cc] w fun e w'=>TwoPost w N G a b e w'
def aTo (D : List ND) (n a : Nat) : Nat -> Nat
 | 0=>a
 | i + 1=>if 3 <= (gd D ((aTo D n a i + i) % n)).kind then (aTo D n a i + i) % n else aTo D n a i
theorem aTo_lt {D : List ND} {n a : Nat} (h : a < n) : ∀ i,aTo D n a i < n
 | 0=>h
 | i + 1=>by
   unfold aTo
   split
   ·exact Nat.mod_lt _ (by omega)
   ·exact aTo_lt h i
theorem gd_left {A B : List ND} {i : Nat} (h : i < A.length) : gd (A ++ B) i = gd A i:=by unfold gd;simp [List.getD,List.getElem?_append_left h]
theorem gd_right {A B : List ND} {i : Nat} (h : A.length <= i) : gd (A ++ B) i = gd B (i - A.length):=by unfold gd;simp [List.getD,List.getElem?_append_right h]
theorem dbl_len {C : Nat -> Nat} {L p n : Nat} {G : List ND} (h : G.length = n) : (dblL C L p G).length = n + n:=by unfold dblL;rw [List.length_append,upN_len,upN_len,h]
theorem dbl_few {C : Nat -> Nat} {L p n : Nat} {G : List ND} (h : G.length = n) (hf : ∀ j,j < n -> (gd G j).nn <= 4 /\ (gd G j).nk <= 4) : ∀ j,j < n + n -> (gd (dblL C L p G) j).nn <= 4 /\ (gd (dblL C L p G) j).nk <= 4:=fun j hj=>by
 unfold dblL
 rw [h]
 by_cases c : j < n
 ·rw [gd_left (by rw [upN_len];exact c),gd_upN _ c];exact hf j c
 ·rw [gd_right (by rw [upN_len];omega),upN_len,gd_upN _ (by omega)]
  have F:=hf (j - n) (by omega)
  unfold dblF dblD
  split
  ·exact ⟨by show (gd G (j - n)).nn - 1 <= 4;omega,by show (gd G (j - n)).nk - 1 <= 4;omega⟩
  ·exact F
abbrev sO : ByteArray:=⟨#[111]⟩
abbrev sP : ByteArray:=⟨#[112]⟩
theorem ring_few (f n : Nat) (s : ByteArray) (i : Nat) : (ringF f n s i).nn <= 4 /\ (ringF f n s i).nk <= 4:=by
 unfold ringF
 split
 ·exact ⟨by show 2 <= 4;omega,by show 2 <= 4;omega⟩
 ·exact ⟨by show 1 <= 4;omega,by show 1 <= 4;omega⟩
theorem lr_start (w : World) : Lr w w (.slice none 0 0) (fun _=>np0) []:=⟨World.ownsRow_nil _ _ _ _,Below.refl _ _,fun _ hi=>absurd hi (Nat.not_lt_zero _)⟩
theorem lr_nodes {w1 wr : World} {oa : Option Addr} {cap k : Nat} {q : Nat -> NP} {L : List ND} (h : Lr w1 wr (.slice oa k cap) q L) (hl : L.length = k) (hk : k <= 9223372036854775807) : ∃ b,NodesAt wr oa b 0 k q (gd L):=by
 obtain ⟨b,NN,_⟩:=lq_nodes (h.lq (bel1 wr (.cells #[] 0)) (X:=wr.heap.size) (Nat.le_refl _) (by simp)) hl hk
 obtain ⟨h1,h2⟩:=h.own
 subst hl
 rcases h2 with ⟨hv,hn⟩ | ⟨g,cap',cur,hv,hb,hh,hc,hm,hs,ht⟩
 ·exact ⟨0,⟨fun z=>absurd z (by omega),fun i z=>absurd z (by omega),fun i z=>absurd z (by omega),fun i z=>absurd z (by omega),fun i z=>absurd z (by omega),hk⟩⟩
 ·simp only [Value.slice.injEq] at hv
  have key : ∀ j u,j < L.length * 3 -> (ncells q (gd L) L.length)[j]? = some u -> wr.cell? ⟨g,0 + j,none⟩ = some u:=fun j u hj hu=>by
   rw [<- ht,List.getElem?_take,if_pos hj,Array.getElem?_toList] at hu
   simp [World.cell?,hh,hu]
  exact ⟨g,⟨fun _=>hv.1,fun i hi=>key (i * 3) _ (by omega) (ncells_at q (gd L) _ i hi).1,fun i hi=>key (i * 3 + 1) _ (by omega) (ncells_at q (gd L) _ i hi).2.1,fun i hi=>key (i * 3 + 2) _ (by omega) (ncells_at q (gd L) _ i hi).2.2,fun i hi=>(h.node i hi).1,hk⟩⟩
structure Drawn (C : Nat -> Nat) (L n : Nat) (G : List ND) (Q hw a b : Nat) : Prop where
 len : G.length = n
 pos : 0 < n
 small : n <= 24
 few : ∀ j,j < n -> (gd G j).nn <= 4 /\ (gd G j).nk <= 4
 place : Q <= 300
 la : a < n
 lb : b < n
 how : tk C L 0 16 = hw
 lhow : hw < 16
 eqa : tk C L Q n = a
 eqb : tk C L (Q + 1) n = b
 calls : ∀ (ca : Option Addr) (cb co cc : Nat) (w : World),BytesAt w ca cb co L C -> Calls Tryz.prog 63 #[.slice ca L cc,.int .i64 1] w fun e w'=>GraphPost w n G Q e w'
theorem drawn (C : Nat -> Nat) (L : Nat) (hL : L <= 1048576) : ∃ n G Q hw a b,Drawn C L n G Q hw a b:=by
 obtain ⟨G,Q,A⟩:=any_graph C L 1 hL (by omega)
 have h0:=cntL_pos L
 exact ⟨cntL L,G,Q,_,_,_,A.len,h0,cntL_le L,fun j hj=>A.few j (by rw [A.len];exact hj),by have:=A.place;omega,tk_lt h0,tk_lt h0,rfl,tk_lt (by omega),rfl,rfl,A.calls⟩
set_option maxHeartbeats 8000000 in
theorem two_plain {C : Nat -> Nat} {L n Q hw a b : Nat} {G : List ND} (hL : L <= 1048576) (D : Drawn C L n G Q hw a b) (h1 : 9 <= hw) (h2 : hw < 12) : TwoOk C L n G (a : Int) (b : Int):=by
 refine ⟨D.len,by have:=D.small;omega,D.few,fun ca cb co cc w h=>?_⟩
 have HC : Hid (∀ w',Below w.heap.size w w' -> BytesAt w' ca cb co L C):=fun w' hb=>h.below hb
 clear h
 have HD : Hid (Drawn C L n G Q hw a b):=D
 have dn:=D.small
 have dq:=D.place
 have dp:=D.pos
 have la:=D.la
 have lb:=D.lb
 clear D
 obtain ⟨W0,hW0⟩ : ∃ W0,W0 = w.alloc (.cells #[.slice none 0 0] 29):=⟨_,rfl⟩
 have B0 : Below w.heap.size w W0:=by rw [hW0];exact bel1 _ _
 have z0' : w.heap.size < W0.heap.size:=by rw [hW0];simp
 have r0 : W0.rowIs w.heap.size 29 1 (fun _=>.slice none 0 0):=by rw [hW0];exact row1 _ _ _
 have q15 : ((hw : Int) == 15) = false:=beq_eq_false_iff_ne.2 (by omega)
 have q9 : ¬ (hw : Int) < 9:=by omega
 have q12 : ¬ (12 : Int) <= (hw : Int):=by omega
 go_enter Tryz.func42,Tryz.ntmps42
 go_wp2_with fail
 rw [<- hW0]
 clear hW0
 refine (d_take ca cb co L cc 0 16 C W0 (HC.out W0 B0) hL (by omega) (by omega)).mono ?_
 rintro e w1 ⟨rfl,rfl⟩
 rw [HD.out.how]
 go_wp2_with fail
 refine (HD.out.calls ca cb co cc W0 (HC.out W0 B0)).mono ?_
 rintro e w2 ⟨oa,cap,gb,q,rfl,hN,hb2⟩
 have B2 : Below w.heap.size w w2:=B0.trans (hb2.mono B0.size)
 obtain ⟨W3,hW3⟩ : ∃ W3,W3 = w2.alloc (.cells #[.slice oa n cap] 29):=⟨_,rfl⟩
 have B3 : Below w2.heap.size w2 W3:=by rw [hW3];exact bel1 _ _
 have z2 : w.heap.size < w2.heap.size:=by have:=hb2.size;omega
 have z3 : w2.heap.size < W3.heap.size:=by rw [hW3];simp
 have RR:=(r0.of_block (hb2.block _ z0')).of_block (B3.block _ z2)
 have RG : W3.rowIs w2.heap.size 29 1 (fun _=>.slice oa n cap):=by rw [hW3];exact row1 _ _ _
 have cgb:=RG.cell (i:=0) (by omega)
 have BW3 : Below w.heap.size w W3:=B2.trans (B3.mono B2.size)
 have HN3 : Hid (NodesAt W3 oa gb 0 n q (gd G)):=hN.below B3
 clear hN hb2 B2 r0
 go_wp2_with fail
 rw [<- hW3]
 clear hW3 B3
 refine (d_take ca cb co L cc Q n C W3 (HC.out W3 BW3) hL (by omega) (by omega)).mono ?_
 rintro e w1 ⟨rfl,rfl⟩
 rw [HD.out.eqa]
 go_wp2_with fail
 refine (d_take ca cb co L cc (Q + 1) n C W3 (HC.out W3 BW3) hL (by omega) (by omega)).mono ?_
 rintro e w1 ⟨rfl,rfl⟩
 rw [HD.out.eqb]
 have k0:=RR.cell (i:=0) (by omega)
 have k1:=RR.frozen 0
 have NF : Hid (NodesAt (W3.setCell ⟨w.heap.size,0,none⟩ (.slice oa (n) cap)) oa gb 0 (n) q (gd G)):=nodes_box HN3.out RR _
 have BF : Hid (Below w.heap.size w (W3.setCell ⟨w.heap.size,0,none⟩ (.slice oa (n) cap))):=BW3.setCell (Nat.le_refl _) _
 go_wp2
 exact bodyPost_ret (v:=.tuple #[.agg #[.slice oa (n) cap],.int .i64 ((a : Int)),.int .i64 ((b : Int))]) (by simp [results,Tryz.results42,go_sem,k0]) rfl ⟨oa,cap,gb,q,rfl,NF.out,BF.out⟩
set_option maxHeartbeats 8000000 in
theorem two_out {C : Nat -> Nat} {L n Q hw a b : Nat} {G : List ND} (hL : L <= 1048576) (D : Drawn C L n G Q hw a b) (h1 : hw = 15) : TwoOk C L n G (a : Int) ((n : Int) - (n : Int) * 2 * ((a % 2 : Nat) : Int) - ((a % 2 : Nat) : Int)):=by
 refine ⟨D.len,by have:=D.small;omega,D.few,fun ca cb co cc w h=>?_⟩
 have HC : Hid (∀ w',Below w.heap.size w w' -> BytesAt w' ca cb co L C):=fun w' hb=>h.below hb
 clear h
 have HD : Hid (Drawn C L n G Q hw a b):=D
 have dn:=D.small
 have dq:=D.place
 have dp:=D.pos
 have la:=D.la
 have lb:=D.lb
 clear D
 obtain ⟨W0,hW0⟩ : ∃ W0,W0 = w.alloc (.cells #[.slice none 0 0] 29):=⟨_,rfl⟩
 have B0 : Below w.heap.size w W0:=by rw [hW0];exact bel1 _ _
 have z0' : w.heap.size < W0.heap.size:=by rw [hW0];simp
 have r0 : W0.rowIs w.heap.size 29 1 (fun _=>.slice none 0 0):=by rw [hW0];exact row1 _ _ _
 have q15 : ((hw : Int) == 15) = true:=by rw [beq_iff_eq];omega
 have q9 : ¬ (hw : Int) < 9:=by omega
 have q12 : (12 : Int) <= (hw : Int):=by omega
 have q13 : ¬ (hw : Int) < 15:=by omega
 have tm : Int.tmod (a : Int) 2 = ((a % 2 : Nat) : Int):=rfl
 obtain ⟨m,hm⟩ : ∃ m,m = a % 2:=⟨_,rfl⟩
 have lm : m <= 1:=by omega
 rw [<- hm] at tm ⊢
 have hmul : n * 2 * m <= 48:=by
  have : n * 2 * m <= 48 * 1:=Nat.mul_le_mul (by omega) lm
  omega
 clear hm
 obtain ⟨s,hs⟩ : ∃ s,s = n * 2 * m:=⟨_,rfl⟩
 have es : (n : Int) * 2 * (m : Int) = (s : Int):=by rw [hs];simp
 rw [es]
 rw [<- hs] at hmul
 clear hs
 go_enter Tryz.func42,Tryz.ntmps42
 go_wp2_with fail
 rw [<- hW0]
 clear hW0
 refine (d_take ca cb co L cc 0 16 C W0 (HC.out W0 B0) hL (by omega) (by omega)).mono ?_
 rintro e w1 ⟨rfl,rfl⟩
 rw [HD.out.how]
 go_wp2_with fail
 refine (HD.out.calls ca cb co cc W0 (HC.out W0 B0)).mono ?_
 rintro e w2 ⟨oa,cap,gb,q,rfl,hN,hb2⟩
 have B2 : Below w.heap.size w w2:=B0.trans (hb2.mono B0.size)
 obtain ⟨W3,hW3⟩ : ∃ W3,W3 = w2.alloc (.cells #[.slice oa n cap] 29):=⟨_,rfl⟩
 have B3 : Below w2.heap.size w2 W3:=by rw [hW3];exact bel1 _ _
 have z2 : w.heap.size < w2.heap.size:=by have:=hb2.size;omega
 have z3 : w2.heap.size < W3.heap.size:=by rw [hW3];simp
 have RR:=(r0.of_block (hb2.block _ z0')).of_block (B3.block _ z2)
 have RG : W3.rowIs w2.heap.size 29 1 (fun _=>.slice oa n cap):=by rw [hW3];exact row1 _ _ _
 have cgb:=RG.cell (i:=0) (by omega)
 have BW3 : Below w.heap.size w W3:=B2.trans (B3.mono B2.size)
 have HN3 : Hid (NodesAt W3 oa gb 0 n q (gd G)):=hN.below B3
 clear hN hb2 B2 r0
 go_wp2_with fail
 rw [<- hW3]
 clear hW3 B3
 refine (d_take ca cb co L cc Q n C W3 (HC.out W3 BW3) hL (by omega) (by omega)).mono ?_
 rintro e w1 ⟨rfl,rfl⟩
 rw [HD.out.eqa]
 go_wp2_with fail
 refine (d_take ca cb co L cc (Q + 1) n C W3 (HC.out W3 BW3) hL (by omega) (by omega)).mono ?_
 rintro e w1 ⟨rfl,rfl⟩
 rw [HD.out.eqb]
 have k0:=RR.cell (i:=0) (by omega)
 have k1:=RR.frozen 0
 have NF : Hid (NodesAt (W3.setCell ⟨w.heap.size,0,none⟩ (.slice oa (n) cap)) oa gb 0 (n) q (gd G)):=nodes_box HN3.out RR _
 have BF : Hid (Below w.heap.size w (W3.setCell ⟨w.heap.size,0,none⟩ (.slice oa (n) cap))):=BW3.setCell (Nat.le_refl _) _
 go_wp2
 exact bodyPost_ret (v:=.tuple #[.agg #[.slice oa (n) cap],.int .i64 ((a : Int)),.int .i64 ((n : Int) - (s : Int) - (m : Int))]) (by simp [results,Tryz.results42,go_sem,k0]) rfl ⟨oa,cap,gb,q,rfl,NF.out,BF.out⟩
set_option maxHeartbeats 8000000 in
theorem two_bad {C : Nat -> Nat} {L n Q hw a b : Nat} {G : List ND} (hL : L <= 1048576) (D : Drawn C L n G Q hw a b) (h1 : hw < 9) (hv : vgr n (gd G) = false) : TwoOk C L n G (a : Int) (b : Int):=by
 refine ⟨D.len,by have:=D.small;omega,D.few,fun ca cb co cc w h=>?_⟩
 have HC : Hid (∀ w',Below w.heap.size w w' -> BytesAt w' ca cb co L C):=fun w' hb=>h.below hb
 clear h
 have HD : Hid (Drawn C L n G Q hw a b):=D
 have dn:=D.small
 have dq:=D.place
 have dp:=D.pos
 have la:=D.la
 have lb:=D.lb
 clear D
 obtain ⟨W0,hW0⟩ : ∃ W0,W0 = w.alloc (.cells #[.slice none 0 0] 29):=⟨_,rfl⟩
 have B0 : Below w.heap.size w W0:=by rw [hW0];exact bel1 _ _
 have z0' : w.heap.size < W0.heap.size:=by rw [hW0];simp
 have r0 : W0.rowIs w.heap.size 29 1 (fun _=>.slice none 0 0):=by rw [hW0];exact row1 _ _ _
 have q15 : ((hw : Int) == 15) = false:=beq_eq_false_iff_ne.2 (by omega)
 have q9 : (hw : Int) < 9:=by omega
 have q12 : ¬ (12 : Int) <= (hw : Int):=by omega
 have HV : Hid (vgr n (gd G) = false):=hv
 clear hv
 go_enter Tryz.func42,Tryz.ntmps42
 go_wp2_with fail
 rw [<- hW0]
 clear hW0
 refine (d_take ca cb co L cc 0 16 C W0 (HC.out W0 B0) hL (by omega) (by omega)).mono ?_
 rintro e w1 ⟨rfl,rfl⟩
 rw [HD.out.how]
 go_wp2_with fail
 refine (HD.out.calls ca cb co cc W0 (HC.out W0 B0)).mono ?_
 rintro e w2 ⟨oa,cap,gb,q,rfl,hN,hb2⟩
 have B2 : Below w.heap.size w w2:=B0.trans (hb2.mono B0.size)
 obtain ⟨W3,hW3⟩ : ∃ W3,W3 = w2.alloc (.cells #[.slice oa n cap] 29):=⟨_,rfl⟩
 have B3 : Below w2.heap.size w2 W3:=by rw [hW3];exact bel1 _ _
 have z2 : w.heap.size < w2.heap.size:=by have:=hb2.size;omega
 have z3 : w2.heap.size < W3.heap.size:=by rw [hW3];simp
 have RR:=(r0.of_block (hb2.block _ z0')).of_block (B3.block _ z2)
 have RG : W3.rowIs w2.heap.size 29 1 (fun _=>.slice oa n cap):=by rw [hW3];exact row1 _ _ _
 have cgb:=RG.cell (i:=0) (by omega)
 have BW3 : Below w.heap.size w W3:=B2.trans (B3.mono B2.size)
 have HN3 : Hid (NodesAt W3 oa gb 0 n q (gd G)):=hN.below B3
 clear hN hb2 B2 r0
 go_wp2_with fail
 rw [<- hW3]
 clear hW3 B3
 refine (d_take ca cb co L cc Q n C W3 (HC.out W3 BW3) hL (by omega) (by omega)).mono ?_
 rintro e w1 ⟨rfl,rfl⟩
 rw [HD.out.eqa]
 go_wp2_with fail
 refine (d_take ca cb co L cc (Q + 1) n C W3 (HC.out W3 BW3) hL (by omega) (by omega)).mono ?_
 rintro e w1 ⟨rfl,rfl⟩
 rw [HD.out.eqb]
 go_wp2_with fail
 refine (g10 oa gb 0 n cap q (gd G) W3 HN3.out).mono ?_
 rintro e w4 ⟨rfl,hb4⟩
 rw [HV.out]
 have BW4 : Below w.heap.size w w4:=BW3.trans (hb4.mono BW3.size)
 have RR4:=RR.of_block (hb4.block _ (Nat.lt_trans z2 z3))
 have RG4:=RG.of_block (hb4.block _ z3)
 have cg4:=RG4.cell (i:=0) (by omega)
 have HN4 : Hid (NodesAt w4 oa gb 0 n q (gd G)):=HN3.out.below hb4
 have z4:=hb4.size
 clear hb4 RR RG BW3
 have k0:=RR4.cell (i:=0) (by omega)
 have k1:=RR4.frozen 0
 have NF : Hid (NodesAt (w4.setCell ⟨w.heap.size,0,none⟩ (.slice oa (n) cap)) oa gb 0 (n) q (gd G)):=nodes_box HN4.out RR4 _
 have BF : Hid (Below w.heap.size w (w4.setCell ⟨w.heap.size,0,none⟩ (.slice oa (n) cap))):=BW4.setCell (Nat.le_refl _) _
 go_wp2
 exact bodyPost_ret (v:=.tuple #[.agg #[.slice oa (n) cap],.int .i64 ((a : Int)),.int .i64 ((b : Int))]) (by simp [results,Tryz.results42,go_sem,k0]) rfl ⟨oa,cap,gb,q,rfl,NF.out,BF.out⟩
set_option maxHeartbeats 8000000 in
theorem two_mix {C : Nat -> Nat} {L n Q hw a b : Nat} {G : List ND} (hL : L <= 1048576) (D : Drawn C L n G Q hw a b) (h1 : 6 <= hw) (h2 : hw < 9) (hv : vgr n (gd G) = true) : TwoOk C L (n + n) (dblL C L Q G) (a : Int) ((b : Int) + (n : Int)):=by
 refine ⟨dbl_len D.len,by have:=D.small;omega,dbl_few D.len D.few,fun ca cb co cc w h=>?_⟩
 have HC : Hid (∀ w',Below w.heap.size w w' -> BytesAt w' ca cb co L C):=fun w' hb=>h.below hb
 clear h
 have HD : Hid (Drawn C L n G Q hw a b):=D
 have dn:=D.small
 have dq:=D.place
 have dp:=D.pos
 have la:=D.la
 have lb:=D.lb
 clear D
 obtain ⟨W0,hW0⟩ : ∃ W0,W0 = w.alloc (.cells #[.slice none 0 0] 29):=⟨_,rfl⟩
 have B0 : Below w.heap.size w W0:=by rw [hW0];exact bel1 _ _
 have z0' : w.heap.size < W0.heap.size:=by rw [hW0];simp
 have r0 : W0.rowIs w.heap.size 29 1 (fun _=>.slice none 0 0):=by rw [hW0];exact row1 _ _ _
 have q15 : ((hw : Int) == 15) = false:=beq_eq_false_iff_ne.2 (by omega)
 have q9 : (hw : Int) < 9:=by omega
 have HV : Hid (vgr n (gd G) = true):=hv
 clear hv
 have q6 : ¬ (hw : Int) < 6:=by omega
 go_enter Tryz.func42,Tryz.ntmps42
 go_wp2_with fail
 rw [<- hW0]
 clear hW0
 refine (d_take ca cb co L cc 0 16 C W0 (HC.out W0 B0) hL (by omega) (by omega)).mono ?_
 rintro e w1 ⟨rfl,rfl⟩
 rw [HD.out.how]
 go_wp2_with fail
 refine (HD.out.calls ca cb co cc W0 (HC.out W0 B0)).mono ?_
 rintro e w2 ⟨oa,cap,gb,q,rfl,hN,hb2⟩
 have B2 : Below w.heap.size w w2:=B0.trans (hb2.mono B0.size)
 obtain ⟨W3,hW3⟩ : ∃ W3,W3 = w2.alloc (.cells #[.slice oa n cap] 29):=⟨_,rfl⟩
 have B3 : Below w2.heap.size w2 W3:=by rw [hW3];exact bel1 _ _
 have z2 : w.heap.size < w2.heap.size:=by have:=hb2.size;omega
 have z3 : w2.heap.size < W3.heap.size:=by rw [hW3];simp
 have RR:=(r0.of_block (hb2.block _ z0')).of_block (B3.block _ z2)
 have RG : W3.rowIs w2.heap.size 29 1 (fun _=>.slice oa n cap):=by rw [hW3];exact row1 _ _ _
 have cgb:=RG.cell (i:=0) (by omega)
 have BW3 : Below w.heap.size w W3:=B2.trans (B3.mono B2.size)
 have HN3 : Hid (NodesAt W3 oa gb 0 n q (gd G)):=hN.below B3
 clear hN hb2 B2 r0
 go_wp2_with fail
 rw [<- hW3]
 clear hW3 B3
 refine (d_take ca cb co L cc Q n C W3 (HC.out W3 BW3) hL (by omega) (by omega)).mono ?_
 rintro e w1 ⟨rfl,rfl⟩
 rw [HD.out.eqa]
 go_wp2_with fail
 refine (d_take ca cb co L cc (Q + 1) n C W3 (HC.out W3 BW3) hL (by omega) (by omega)).mono ?_
 rintro e w1 ⟨rfl,rfl⟩
 rw [HD.out.eqb]
 go_wp2_with fail
 refine (g10 oa gb 0 n cap q (gd G) W3 HN3.out).mono ?_
 rintro e w4 ⟨rfl,hb4⟩
 rw [HV.out]
 have BW4 : Below w.heap.size w w4:=BW3.trans (hb4.mono BW3.size)
 have RR4:=RR.of_block (hb4.block _ (Nat.lt_trans z2 z3))
 have RG4:=RG.of_block (hb4.block _ z3)
 have cg4:=RG4.cell (i:=0) (by omega)
 have HN4 : Hid (NodesAt w4 oa gb 0 n q (gd G)):=HN3.out.below hb4
 have z4:=hb4.size
 clear hb4 RR RG BW3
 have qn : (0 : Int) < (n : Int):=by omega
 go_wp2_with fail
 refine (d_double ca cb co L cc Q gb cap n oa C G q w4 (HC.out w4 BW4) HN4.out HD.out.len HV.out HD.out.few hL (by omega) (by omega)).mono ?_
 rintro e w5 ⟨oa5,cap5,b5,q5,rfl,hN5,hb5⟩
 have BW5 : Below w.heap.size w w5:=BW4.trans (hb5.mono BW4.size)
 have RR5:=RR4.of_block (hb5.block _ (by omega))
 have RG5:=RG4.of_block (hb5.block _ (by omega))
 have cg5:=RG5.cell (i:=0) (by omega)
 have fg5:=RG5.frozen 0
 obtain ⟨DL,hDL⟩ : ∃ DL,DL = dblL C L Q G:=⟨_,rfl⟩
 rw [<- hDL] at hN5
 have HDL : Hid (DL = dblL C L Q G):=hDL
 clear hDL
 have RG6 : (w5.setCell ⟨w2.heap.size,0,none⟩ (.slice oa5 (n + n) cap5)).rowIs w2.heap.size 29 1 (fun _=>.slice oa5 (n + n) cap5):=(RG5.set 0 _).congr (fun j hj=>by
  match j,hj with
  | 0,_=>rfl)
 have RR6:=RR5.setOther (a:=⟨w2.heap.size,0,none⟩) (by show w.heap.size ≠ w2.heap.size;omega) (.slice oa5 (n + n) cap5)
 have cg6:=RG6.cell (i:=0) (by omega)
 have HN6 : Hid (NodesAt (w5.setCell ⟨w2.heap.size,0,none⟩ (.slice oa5 (n + n) cap5)) oa5 b5 0 (n + n) q5 (gd DL)):=nodes_box hN5 RG5 _
 have BW6 : Below w.heap.size w (w5.setCell ⟨w2.heap.size,0,none⟩ (.slice oa5 (n + n) cap5)):=BW5.setCell (by show w.heap.size <= w2.heap.size;omega) _
 clear hN5 hb5 RR4 RG4 RR5 RG5 BW5 cg4
 have k0:=RR6.cell (i:=0) (by omega)
 have k1:=RR6.frozen 0
 have NF : Hid (NodesAt ((w5.setCell ⟨w2.heap.size,0,none⟩ (.slice oa5 (n + n) cap5)).setCell ⟨w.heap.size,0,none⟩ (.slice oa5 (n + n) cap5)) oa5 b5 0 (n + n) q5 (gd DL)):=nodes_box HN6.out RR6 _
 have BF : Hid (Below w.heap.size w ((w5.setCell ⟨w2.heap.size,0,none⟩ (.slice oa5 (n + n) cap5)).setCell ⟨w.heap.size,0,none⟩ (.slice oa5 (n + n) cap5))):=BW6.setCell (Nat.le_refl _) _
 go_wp2
 exact bodyPost_ret (v:=.tuple #[.agg #[.slice oa5 (n + n) cap5],.int .i64 ((a : Int)),.int .i64 ((b : Int) + (n : Int))]) (by simp [results,Tryz.results42,go_sem,k0]) rfl ⟨oa5,cap5,b5,q5,rfl,(by rw [<- HDL.out];exact NF.out),BF.out⟩
set_option maxHeartbeats 8000000 in
theorem two_even {C : Nat -> Nat} {L n Q hw a b : Nat} {G : List ND} (hL : L <= 1048576) (D : Drawn C L n G Q hw a b) (h1 : hw < 6) (h2 : hw % 2 = 0) (hv : vgr n (gd G) = true) : TwoOk C L (n + n) (dblL C L Q G) (aTo (dblL C L Q G) n a n : Int) ((aTo (dblL C L Q G) n a n : Int) + (n : Int)):=by
 refine ⟨dbl_len D.len,by have:=D.small;omega,dbl_few D.len D.few,fun ca cb co cc w h=>?_⟩
 have HC : Hid (∀ w',Below w.heap.size w w' -> BytesAt w' ca cb co L C):=fun w' hb=>h.below hb
 clear h
 have HD : Hid (Drawn C L n G Q hw a b):=D
 have dn:=D.small
 have dq:=D.place
 have dp:=D.pos
 have la:=D.la
 have lb:=D.lb
 clear D
 obtain ⟨W0,hW0⟩ : ∃ W0,W0 = w.alloc (.cells #[.slice none 0 0] 29):=⟨_,rfl⟩
 have B0 : Below w.heap.size w W0:=by rw [hW0];exact bel1 _ _
 have z0' : w.heap.size < W0.heap.size:=by rw [hW0];simp
 have r0 : W0.rowIs w.heap.size 29 1 (fun _=>.slice none 0 0):=by rw [hW0];exact row1 _ _ _
 have q15 : ((hw : Int) == 15) = false:=beq_eq_false_iff_ne.2 (by omega)
 have q9 : (hw : Int) < 9:=by omega
 have HV : Hid (vgr n (gd G) = true):=hv
 clear hv
 have tq : Int.tmod (hw : Int) 2 = ((hw % 2 : Nat) : Int):=rfl
 obtain ⟨mh,hmh⟩ : ∃ mh,mh = hw % 2:=⟨_,rfl⟩
 rw [<- hmh] at tq
 have qe : ((mh : Int) == 0) = true:=by rw [beq_iff_eq];omega
 clear hmh
 have q6 : (hw : Int) < 6:=by omega
 go_enter Tryz.func42,Tryz.ntmps42
 go_wp2_with fail
 rw [<- hW0]
 clear hW0
 refine (d_take ca cb co L cc 0 16 C W0 (HC.out W0 B0) hL (by omega) (by omega)).mono ?_
 rintro e w1 ⟨rfl,rfl⟩
 rw [HD.out.how]
 go_wp2_with fail
 refine (HD.out.calls ca cb co cc W0 (HC.out W0 B0)).mono ?_
 rintro e w2 ⟨oa,cap,gb,q,rfl,hN,hb2⟩
 have B2 : Below w.heap.size w w2:=B0.trans (hb2.mono B0.size)
 obtain ⟨W3,hW3⟩ : ∃ W3,W3 = w2.alloc (.cells #[.slice oa n cap] 29):=⟨_,rfl⟩
 have B3 : Below w2.heap.size w2 W3:=by rw [hW3];exact bel1 _ _
 have z2 : w.heap.size < w2.heap.size:=by have:=hb2.size;omega
 have z3 : w2.heap.size < W3.heap.size:=by rw [hW3];simp
 have RR:=(r0.of_block (hb2.block _ z0')).of_block (B3.block _ z2)
 have RG : W3.rowIs w2.heap.size 29 1 (fun _=>.slice oa n cap):=by rw [hW3];exact row1 _ _ _
 have cgb:=RG.cell (i:=0) (by omega)
 have BW3 : Below w.heap.size w W3:=B2.trans (B3.mono B2.size)
 have HN3 : Hid (NodesAt W3 oa gb 0 n q (gd G)):=hN.below B3
 clear hN hb2 B2 r0
 go_wp2_with fail
 rw [<- hW3]
 clear hW3 B3
 refine (d_take ca cb co L cc Q n C W3 (HC.out W3 BW3) hL (by omega) (by omega)).mono ?_
 rintro e w1 ⟨rfl,rfl⟩
 rw [HD.out.eqa]
 go_wp2_with fail
 refine (d_take ca cb co L cc (Q + 1) n C W3 (HC.out W3 BW3) hL (by omega) (by omega)).mono ?_
 rintro e w1 ⟨rfl,rfl⟩
 rw [HD.out.eqb]
 go_wp2_with fail
 refine (g10 oa gb 0 n cap q (gd G) W3 HN3.out).mono ?_
 rintro e w4 ⟨rfl,hb4⟩
 rw [HV.out]
 have BW4 : Below w.heap.size w w4:=BW3.trans (hb4.mono BW3.size)
 have RR4:=RR.of_block (hb4.block _ (Nat.lt_trans z2 z3))
 have RG4:=RG.of_block (hb4.block _ z3)
 have cg4:=RG4.cell (i:=0) (by omega)
 have HN4 : Hid (NodesAt w4 oa gb 0 n q (gd G)):=HN3.out.below hb4
 have z4:=hb4.size
 clear hb4 RR RG BW3
 have qn : (0 : Int) < (n : Int):=by omega
 go_wp2_with fail
 refine (d_double ca cb co L cc Q gb cap n oa C G q w4 (HC.out w4 BW4) HN4.out HD.out.len HV.out HD.out.few hL (by omega) (by omega)).mono ?_
 rintro e w5 ⟨oa5,cap5,b5,q5,rfl,hN5,hb5⟩
 have BW5 : Below w.heap.size w w5:=BW4.trans (hb5.mono BW4.size)
 have RR5:=RR4.of_block (hb5.block _ (by omega))
 have RG5:=RG4.of_block (hb5.block _ (by omega))
 have cg5:=RG5.cell (i:=0) (by omega)
 have fg5:=RG5.frozen 0
 obtain ⟨DL,hDL⟩ : ∃ DL,DL = dblL C L Q G:=⟨_,rfl⟩
 obtain ⟨A,hA⟩ : ∃ A,A = aTo DL n a n:=⟨_,rfl⟩
 have HAA : Hid (aTo DL n a n = A):=hA.symm
 clear hA
 rw [<- hDL] at hN5
 have HDL : Hid (DL = dblL C L Q G):=hDL
 clear hDL
 have RG6 : (w5.setCell ⟨w2.heap.size,0,none⟩ (.slice oa5 (n + n) cap5)).rowIs w2.heap.size 29 1 (fun _=>.slice oa5 (n + n) cap5):=(RG5.set 0 _).congr (fun j hj=>by
  match j,hj with
  | 0,_=>rfl)
 have RR6:=RR5.setOther (a:=⟨w2.heap.size,0,none⟩) (by show w.heap.size ≠ w2.heap.size;omega) (.slice oa5 (n + n) cap5)
 have cg6:=RG6.cell (i:=0) (by omega)
 have HN6 : Hid (NodesAt (w5.setCell ⟨w2.heap.size,0,none⟩ (.slice oa5 (n + n) cap5)) oa5 b5 0 (n + n) q5 (gd DL)):=nodes_box hN5 RG5 _
 have BW6 : Below w.heap.size w (w5.setCell ⟨w2.heap.size,0,none⟩ (.slice oa5 (n + n) cap5)):=BW5.setCell (by show w.heap.size <= w2.heap.size;omega) _
 clear hN5 hb5 RR4 RG4 RR5 RG5 BW5 cg4
 obtain ⟨W6,hW6⟩ : ∃ W6,W6 = w5.setCell ⟨w2.heap.size,0,none⟩ (.slice oa5 (n + n) cap5):=⟨_,rfl⟩
 go_wp2
 rw [<- hW6] at RG6 RR6 cg6 HN6 BW6 ⊢
 clear hW6 cg5 fg5 RG6
 have eo:=HN6.out.at_ (by omega)
 subst eo
 have hnn : ¬ (n : Int) = 0:=by omega
 go_loopw [9,14] (fun s9 s14 wx=>∃ i : Nat,i <= n /\ s14 = .int .i64 i /\ s9 = .int .i64 (aTo DL n a i : Int) /\ Below W6.heap.size W6 wx) (fun _ s14 _=>n - (intOf s14).toNat)
 case atStart=>exact ⟨0,Nat.zero_le _,rfl,rfl,Below.refl _ _⟩
 case round=>
  rename World=>wx
  obtain ⟨i,hi,rfl,rfl,hbx⟩:=hrel
  have cx : wx.cell? ⟨w2.heap.size,0,none⟩ = some (.slice (some ⟨b5,0,none⟩) (n + n) cap5):=(hbx.cell (p:=⟨w2.heap.size,0,none⟩) (blt cg6)).trans cg6
  have lA:=aTo_lt (D:=DL) la i
  have HA1 : Hid (aTo DL n a (i + 1) = if 3 <= (gd DL ((aTo DL n a i + i) % n)).kind then (aTo DL n a i + i) % n else aTo DL n a i):=by show aTo DL n a (i + 1) = _;rfl
  have HAE : Hid (i = n -> aTo DL n a i = A):=fun e=>by rw [e];exact HAA.out
  obtain ⟨A0,hA0⟩ : ∃ A0,A0 = aTo DL n a i:=⟨_,rfl⟩
  rw [<- hA0] at HA1 HAE lA ⊢
  clear hA0
  by_cases hlt : i < n
  case neg=>
   have hin : A0 = A:=HAE.out (by omega)
   subst hin
   have BWX : Below w.heap.size w wx:=BW6.trans (hbx.mono BW6.size)
   have RRX:=RR6.of_block (hbx.block _ RR6.lt)
   have HNX : Hid (NodesAt wx (some ⟨b5,0,none⟩) b5 0 (n + n) q5 (gd DL)):=HN6.out.below hbx
   have qi : ¬ (i : Int) < (n : Int):=by omega
   clear hbx RR6 BW6
   have k0:=RRX.cell (i:=0) (by omega)
   have k1:=RRX.frozen 0
   have NF : Hid (NodesAt (wx.setCell ⟨w.heap.size,0,none⟩ (.slice (some ⟨b5,0,none⟩) (n + n) cap5)) (some ⟨b5,0,none⟩) b5 0 (n + n) q5 (gd DL)):=nodes_box HNX.out RRX _
   have BF : Hid (Below w.heap.size w (wx.setCell ⟨w.heap.size,0,none⟩ (.slice (some ⟨b5,0,none⟩) (n + n) cap5))):=BWX.setCell (Nat.le_refl _) _
   go_wp2
   exact bodyPost_ret (v:=.tuple #[.agg #[.slice (some ⟨b5,0,none⟩) (n + n) cap5],.int .i64 ((A0 : Int)),.int .i64 ((A0 : Int) + (n : Int))]) (by simp [results,Tryz.results42,go_sem,k0]) rfl ⟨(some ⟨b5,0,none⟩),cap5,b5,q5,(by rw [<- HDL.out,HAA.out]),(by rw [<- HDL.out];exact NF.out),BF.out⟩
  obtain ⟨m,hm⟩ : ∃ m,m = (A0 + i) % n:=⟨_,rfl⟩
  have lm : m < n:=by rw [hm];exact Nat.mod_lt _ dp
  have tm : Int.tmod ((A0 : Int) + (i : Int)) (n : Int) = (m : Int):=by rw [hm,<- tmodN];rfl
  rw [<- hm] at HA1
  clear hm
  have NX:=HN6.out.below hbx
  have ck:=NX.c0 m (by omega)
  simp only [Nat.zero_add] at ck
  clear NX
  have lm1 : (m : Int) < (n : Int) + (n : Int):=by omega
  have lm2 : m < n + n:=by omega
  obtain ⟨kd,hkd⟩ : ∃ kd,kd = (gd DL m).kind:=⟨_,rfl⟩
  rw [<- hkd] at ck HA1
  clear hkd
  by_cases h3 : 3 <= kd
  case pos=>
   have HR : Hid (aTo DL n a (i + 1) = m):=by show aTo DL n a (i + 1) = m;rw [HA1.out,if_pos h3]
   clear HA1
   go_wp2
   go_quiet (fail)
   go_wp2
   go_roundw
   case rel=>exact ⟨i + 1,by omega,by go_num,by rw [HR.out],by first | exact hbx | exact hbx.drew | exact below_drewN hbx _⟩
   case measure=>simp [intOf];omega
  case neg=>
   have HR : Hid (aTo DL n a (i + 1) = A0):=by show aTo DL n a (i + 1) = A0;rw [HA1.out,if_neg h3]
   clear HA1
   go_wp2
   go_quiet (fail)
   go_wp2
   go_roundw
   case rel=>exact ⟨i + 1,by omega,by go_num,by rw [HR.out],by first | exact hbx | exact hbx.drew | exact below_drewN hbx _⟩
   case measure=>simp [intOf];omega
set_option maxHeartbeats 8000000 in
theorem two_odd {C : Nat -> Nat} {L n Q hw a b : Nat} {G : List ND} (hL : L <= 1048576) (D : Drawn C L n G Q hw a b) (h1 : hw < 6) (h2 : ¬ hw % 2 = 0) (hv : vgr n (gd G) = true) : TwoOk C L (n + n) (dblL C L Q G) ((aTo (dblL C L Q G) n a n : Int) + (n : Int)) (aTo (dblL C L Q G) n a n : Int):=by
 refine ⟨dbl_len D.len,by have:=D.small;omega,dbl_few D.len D.few,fun ca cb co cc w h=>?_⟩
 have HC : Hid (∀ w',Below w.heap.size w w' -> BytesAt w' ca cb co L C):=fun w' hb=>h.below hb
 clear h
 have HD : Hid (Drawn C L n G Q hw a b):=D
 have dn:=D.small
 have dq:=D.place
 have dp:=D.pos
 have la:=D.la
 have lb:=D.lb
 clear D
 obtain ⟨W0,hW0⟩ : ∃ W0,W0 = w.alloc (.cells #[.slice none 0 0] 29):=⟨_,rfl⟩
 have B0 : Below w.heap.size w W0:=by rw [hW0];exact bel1 _ _
 have z0' : w.heap.size < W0.heap.size:=by rw [hW0];simp
 have r0 : W0.rowIs w.heap.size 29 1 (fun _=>.slice none 0 0):=by rw [hW0];exact row1 _ _ _
 have q15 : ((hw : Int) == 15) = false:=beq_eq_false_iff_ne.2 (by omega)
 have q9 : (hw : Int) < 9:=by omega
 have HV : Hid (vgr n (gd G) = true):=hv
 clear hv
 have tq : Int.tmod (hw : Int) 2 = ((hw % 2 : Nat) : Int):=rfl
 obtain ⟨mh,hmh⟩ : ∃ mh,mh = hw % 2:=⟨_,rfl⟩
 rw [<- hmh] at tq
 have qe : ((mh : Int) == 0) = false:=beq_eq_false_iff_ne.2 (by omega)
 clear hmh
 have q6 : (hw : Int) < 6:=by omega
 go_enter Tryz.func42,Tryz.ntmps42
 go_wp2_with fail
 rw [<- hW0]
 clear hW0
 refine (d_take ca cb co L cc 0 16 C W0 (HC.out W0 B0) hL (by omega) (by omega)).mono ?_
 rintro e w1 ⟨rfl,rfl⟩
 rw [HD.out.how]
 go_wp2_with fail
 refine (HD.out.calls ca cb co cc W0 (HC.out W0 B0)).mono ?_
 rintro e w2 ⟨oa,cap,gb,q,rfl,hN,hb2⟩
 have B2 : Below w.heap.size w w2:=B0.trans (hb2.mono B0.size)
 obtain ⟨W3,hW3⟩ : ∃ W3,W3 = w2.alloc (.cells #[.slice oa n cap] 29):=⟨_,rfl⟩
 have B3 : Below w2.heap.size w2 W3:=by rw [hW3];exact bel1 _ _
 have z2 : w.heap.size < w2.heap.size:=by have:=hb2.size;omega
 have z3 : w2.heap.size < W3.heap.size:=by rw [hW3];simp
 have RR:=(r0.of_block (hb2.block _ z0')).of_block (B3.block _ z2)
 have RG : W3.rowIs w2.heap.size 29 1 (fun _=>.slice oa n cap):=by rw [hW3];exact row1 _ _ _
 have cgb:=RG.cell (i:=0) (by omega)
 have BW3 : Below w.heap.size w W3:=B2.trans (B3.mono B2.size)
 have HN3 : Hid (NodesAt W3 oa gb 0 n q (gd G)):=hN.below B3
 clear hN hb2 B2 r0
 go_wp2_with fail
 rw [<- hW3]
 clear hW3 B3
 refine (d_take ca cb co L cc Q n C W3 (HC.out W3 BW3) hL (by omega) (by omega)).mono ?_
 rintro e w1 ⟨rfl,rfl⟩
 rw [HD.out.eqa]
 go_wp2_with fail
 refine (d_take ca cb co L cc (Q + 1) n C W3 (HC.out W3 BW3) hL (by omega) (by omega)).mono ?_
 rintro e w1 ⟨rfl,rfl⟩
 rw [HD.out.eqb]
 go_wp2_with fail
 refine (g10 oa gb 0 n cap q (gd G) W3 HN3.out).mono ?_
 rintro e w4 ⟨rfl,hb4⟩
 rw [HV.out]
 have BW4 : Below w.heap.size w w4:=BW3.trans (hb4.mono BW3.size)
 have RR4:=RR.of_block (hb4.block _ (Nat.lt_trans z2 z3))
 have RG4:=RG.of_block (hb4.block _ z3)
 have cg4:=RG4.cell (i:=0) (by omega)
 have HN4 : Hid (NodesAt w4 oa gb 0 n q (gd G)):=HN3.out.below hb4
 have z4:=hb4.size
 clear hb4 RR RG BW3
 have qn : (0 : Int) < (n : Int):=by omega
 go_wp2_with fail
 refine (d_double ca cb co L cc Q gb cap n oa C G q w4 (HC.out w4 BW4) HN4.out HD.out.len HV.out HD.out.few hL (by omega) (by omega)).mono ?_
 rintro e w5 ⟨oa5,cap5,b5,q5,rfl,hN5,hb5⟩
 have BW5 : Below w.heap.size w w5:=BW4.trans (hb5.mono BW4.size)
 have RR5:=RR4.of_block (hb5.block _ (by omega))
 have RG5:=RG4.of_block (hb5.block _ (by omega))
 have cg5:=RG5.cell (i:=0) (by omega)
 have fg5:=RG5.frozen 0
 obtain ⟨DL,hDL⟩ : ∃ DL,DL = dblL C L Q G:=⟨_,rfl⟩
 obtain ⟨A,hA⟩ : ∃ A,A = aTo DL n a n:=⟨_,rfl⟩
 have HAA : Hid (aTo DL n a n = A):=hA.symm
 clear hA
 rw [<- hDL] at hN5
 have HDL : Hid (DL = dblL C L Q G):=hDL
 clear hDL
 have RG6 : (w5.setCell ⟨w2.heap.size,0,none⟩ (.slice oa5 (n + n) cap5)).rowIs w2.heap.size 29 1 (fun _=>.slice oa5 (n + n) cap5):=(RG5.set 0 _).congr (fun j hj=>by
  match j,hj with
  | 0,_=>rfl)
 have RR6:=RR5.setOther (a:=⟨w2.heap.size,0,none⟩) (by show w.heap.size ≠ w2.heap.size;omega) (.slice oa5 (n + n) cap5)
 have cg6:=RG6.cell (i:=0) (by omega)
 have HN6 : Hid (NodesAt (w5.setCell ⟨w2.heap.size,0,none⟩ (.slice oa5 (n + n) cap5)) oa5 b5 0 (n + n) q5 (gd DL)):=nodes_box hN5 RG5 _
 have BW6 : Below w.heap.size w (w5.setCell ⟨w2.heap.size,0,none⟩ (.slice oa5 (n + n) cap5)):=BW5.setCell (by show w.heap.size <= w2.heap.size;omega) _
 clear hN5 hb5 RR4 RG4 RR5 RG5 BW5 cg4
 obtain ⟨W6,hW6⟩ : ∃ W6,W6 = w5.setCell ⟨w2.heap.size,0,none⟩ (.slice oa5 (n + n) cap5):=⟨_,rfl⟩
 go_wp2
 rw [<- hW6] at RG6 RR6 cg6 HN6 BW6 ⊢
 clear hW6 cg5 fg5 RG6
 have eo:=HN6.out.at_ (by omega)
 subst eo
 have hnn : ¬ (n : Int) = 0:=by omega
 go_loopw [9,14] (fun s9 s14 wx=>∃ i : Nat,i <= n /\ s14 = .int .i64 i /\ s9 = .int .i64 (aTo DL n a i : Int) /\ Below W6.heap.size W6 wx) (fun _ s14 _=>n - (intOf s14).toNat)
 case atStart=>exact ⟨0,Nat.zero_le _,rfl,rfl,Below.refl _ _⟩
 case round=>
  rename World=>wx
  obtain ⟨i,hi,rfl,rfl,hbx⟩:=hrel
  have cx : wx.cell? ⟨w2.heap.size,0,none⟩ = some (.slice (some ⟨b5,0,none⟩) (n + n) cap5):=(hbx.cell (p:=⟨w2.heap.size,0,none⟩) (blt cg6)).trans cg6
  have lA:=aTo_lt (D:=DL) la i
  have HA1 : Hid (aTo DL n a (i + 1) = if 3 <= (gd DL ((aTo DL n a i + i) % n)).kind then (aTo DL n a i + i) % n else aTo DL n a i):=by show aTo DL n a (i + 1) = _;rfl
  have HAE : Hid (i = n -> aTo DL n a i = A):=fun e=>by rw [e];exact HAA.out
  obtain ⟨A0,hA0⟩ : ∃ A0,A0 = aTo DL n a i:=⟨_,rfl⟩
  rw [<- hA0] at HA1 HAE lA ⊢
  clear hA0
  by_cases hlt : i < n
  case neg=>
   have hin : A0 = A:=HAE.out (by omega)
   subst hin
   have BWX : Below w.heap.size w wx:=BW6.trans (hbx.mono BW6.size)
   have RRX:=RR6.of_block (hbx.block _ RR6.lt)
   have HNX : Hid (NodesAt wx (some ⟨b5,0,none⟩) b5 0 (n + n) q5 (gd DL)):=HN6.out.below hbx
   have qi : ¬ (i : Int) < (n : Int):=by omega
   clear hbx RR6 BW6
   have k0:=RRX.cell (i:=0) (by omega)
   have k1:=RRX.frozen 0
   have NF : Hid (NodesAt (wx.setCell ⟨w.heap.size,0,none⟩ (.slice (some ⟨b5,0,none⟩) (n + n) cap5)) (some ⟨b5,0,none⟩) b5 0 (n + n) q5 (gd DL)):=nodes_box HNX.out RRX _
   have BF : Hid (Below w.heap.size w (wx.setCell ⟨w.heap.size,0,none⟩ (.slice (some ⟨b5,0,none⟩) (n + n) cap5))):=BWX.setCell (Nat.le_refl _) _
   go_wp2
   exact bodyPost_ret (v:=.tuple #[.agg #[.slice (some ⟨b5,0,none⟩) (n + n) cap5],.int .i64 ((A0 : Int) + (n : Int)),.int .i64 ((A0 : Int))]) (by simp [results,Tryz.results42,go_sem,k0]) rfl ⟨(some ⟨b5,0,none⟩),cap5,b5,q5,(by rw [<- HDL.out,HAA.out]),(by rw [<- HDL.out];exact NF.out),BF.out⟩
  obtain ⟨m,hm⟩ : ∃ m,m = (A0 + i) % n:=⟨_,rfl⟩
  have lm : m < n:=by rw [hm];exact Nat.mod_lt _ dp
  have tm : Int.tmod ((A0 : Int) + (i : Int)) (n : Int) = (m : Int):=by rw [hm,<- tmodN];rfl
  rw [<- hm] at HA1
  clear hm
  have NX:=HN6.out.below hbx
  have ck:=NX.c0 m (by omega)
  simp only [Nat.zero_add] at ck
  clear NX
  have lm1 : (m : Int) < (n : Int) + (n : Int):=by omega
  have lm2 : m < n + n:=by omega
  obtain ⟨kd,hkd⟩ : ∃ kd,kd = (gd DL m).kind:=⟨_,rfl⟩
  rw [<- hkd] at ck HA1
  clear hkd
  by_cases h3 : 3 <= kd
  case pos=>
   have HR : Hid (aTo DL n a (i + 1) = m):=by show aTo DL n a (i + 1) = m;rw [HA1.out,if_pos h3]
   clear HA1
   go_wp2
   go_quiet (fail)
   go_wp2
   go_roundw
   case rel=>exact ⟨i + 1,by omega,by go_num,by rw [HR.out],by first | exact hbx | exact hbx.drew | exact below_drewN hbx _⟩
   case measure=>simp [intOf];omega
  case neg=>
   have HR : Hid (aTo DL n a (i + 1) = A0):=by show aTo DL n a (i + 1) = A0;rw [HA1.out,if_neg h3]
   clear HA1
   go_wp2
   go_quiet (fail)
   go_wp2
   go_roundw
   case rel=>exact ⟨i + 1,by omega,by go_num,by rw [HR.out],by first | exact hbx | exact hbx.drew | exact below_drewN hbx _⟩
   case measure=>simp [intOf];omega
theorem ring2_few (a m : Nat) : ∀ j,j < a + 2 + (m + 3) -> (gd ([] ++ upN (ringF 0 (a + 2) sO) (a + 2) ++ upN (ringF (a + 2) (m + 3) sP) (m + 3)) j).nn <= 4 /\ (gd ([] ++ upN (ringF 0 (a + 2) sO) (a + 2) ++ upN (ringF (a + 2) (m + 3) sP) (m + 3)) j).nk <= 4:=fun j hj=>by
 rw [List.nil_append]
 by_cases c : j < a + 2
 ·rw [gd_left (by rw [upN_len];exact c),gd_upN _ c];exact ring_few _ _ _ _
 ·rw [gd_right (by rw [upN_len];omega),upN_len,gd_upN _ (by omega)];exact ring_few _ _ _ _
set_option maxHeartbeats 8000000 in
theorem two_ring {C : Nat -> Nat} {L n Q hw a b : Nat} {G : List ND} (hL : L <= 1048576) (D : Drawn C L n G Q hw a b) (h1 : 12 <= hw) (h2 : hw < 15) : TwoOk C L (a + 2 + (b % 7 + 3)) ([] ++ upN (ringF 0 (a + 2) sO) (a + 2) ++ upN (ringF (a + 2) (b % 7 + 3) sP) (b % 7 + 3)) 0 ((a : Int) + 2):=by
 refine ⟨by simp [upN_len],by have:=D.la;have:=D.small;omega,ring2_few a (b % 7),fun ca cb co cc w h=>?_⟩
 have HC : Hid (∀ w',Below w.heap.size w w' -> BytesAt w' ca cb co L C):=fun w' hb=>h.below hb
 clear h
 have HD : Hid (Drawn C L n G Q hw a b):=D
 have dn:=D.small
 have dq:=D.place
 have dp:=D.pos
 have la:=D.la
 have lb:=D.lb
 clear D
 obtain ⟨W0,hW0⟩ : ∃ W0,W0 = w.alloc (.cells #[.slice none 0 0] 29):=⟨_,rfl⟩
 have B0 : Below w.heap.size w W0:=by rw [hW0];exact bel1 _ _
 have z0' : w.heap.size < W0.heap.size:=by rw [hW0];simp
 have r0 : W0.rowIs w.heap.size 29 1 (fun _=>.slice none 0 0):=by rw [hW0];exact row1 _ _ _
 have q15 : ((hw : Int) == 15) = false:=beq_eq_false_iff_ne.2 (by omega)
 have q9 : ¬ (hw : Int) < 9:=by omega
 have q12 : (12 : Int) <= (hw : Int):=by omega
 have q13 : (hw : Int) < 15:=by omega
 have tb : Int.tmod (b : Int) 7 = ((b % 7 : Nat) : Int):=rfl
 obtain ⟨mb,hmb⟩ : ∃ mb,mb = b % 7:=⟨_,rfl⟩
 have lmb : mb < 7:=by omega
 rw [<- hmb] at tb ⊢
 clear hmb
 go_enter Tryz.func42,Tryz.ntmps42
 go_wp2_with fail
 rw [<- hW0]
 clear hW0
 refine (d_take ca cb co L cc 0 16 C W0 (HC.out W0 B0) hL (by omega) (by omega)).mono ?_
 rintro e w1 ⟨rfl,rfl⟩
 rw [HD.out.how]
 go_wp2_with fail
 refine (HD.out.calls ca cb co cc W0 (HC.out W0 B0)).mono ?_
 rintro e w2 ⟨oa,cap,gb,q,rfl,hN,hb2⟩
 have B2 : Below w.heap.size w w2:=B0.trans (hb2.mono B0.size)
 obtain ⟨W3,hW3⟩ : ∃ W3,W3 = w2.alloc (.cells #[.slice oa n cap] 29):=⟨_,rfl⟩
 have B3 : Below w2.heap.size w2 W3:=by rw [hW3];exact bel1 _ _
 have z2 : w.heap.size < w2.heap.size:=by have:=hb2.size;omega
 have z3 : w2.heap.size < W3.heap.size:=by rw [hW3];simp
 have RR:=(r0.of_block (hb2.block _ z0')).of_block (B3.block _ z2)
 have RG : W3.rowIs w2.heap.size 29 1 (fun _=>.slice oa n cap):=by rw [hW3];exact row1 _ _ _
 have cgb:=RG.cell (i:=0) (by omega)
 have BW3 : Below w.heap.size w W3:=B2.trans (B3.mono B2.size)
 have HN3 : Hid (NodesAt W3 oa gb 0 n q (gd G)):=hN.below B3
 clear hN hb2 B2 r0
 go_wp2_with fail
 rw [<- hW3]
 clear hW3 B3
 refine (d_take ca cb co L cc Q n C W3 (HC.out W3 BW3) hL (by omega) (by omega)).mono ?_
 rintro e w1 ⟨rfl,rfl⟩
 rw [HD.out.eqa]
 go_wp2_with fail
 refine (d_take ca cb co L cc (Q + 1) n C W3 (HC.out W3 BW3) hL (by omega) (by omega)).mono ?_
 rintro e w1 ⟨rfl,rfl⟩
 rw [HD.out.eqb]
 go_wp2_with fail
 refine (d_ring W3 (.slice none 0 0) (fun _=>np0) [] 0 (a + 2) sO W3 (lr_start W3) rfl (by omega) (by omega) (by omega) (by decide)).mono ?_
 rintro e w4 ⟨v4,q4,rfl,h4⟩
 go_wp2_with fail
 refine (d_ring W3 v4 q4 ([] ++ upN (ringF 0 (a + 2) sO) (a + 2)) (a + 2) (mb + 3) sP w4 h4 (by simp [upN_len]) (by omega) (by omega) (by omega) (by decide)).mono ?_
 rintro e w5 ⟨v5,q5,rfl,h5⟩
 obtain ⟨RL,hRL⟩ : ∃ RL,RL = [] ++ upN (ringF 0 (a + 2) sO) (a + 2) ++ upN (ringF (a + 2) (mb + 3) sP) (mb + 3):=⟨_,rfl⟩
 obtain ⟨N,hNN⟩ : ∃ N,N = a + 2 + (mb + 3):=⟨_,rfl⟩
 have hlen : RL.length = N:=by rw [hRL,hNN];simp [upN_len]
 rw [<- hRL] at h5
 have HRL : Hid (RL = [] ++ upN (ringF 0 (a + 2) sO) (a + 2) ++ upN (ringF (a + 2) (mb + 3) sP) (mb + 3)):=hRL
 have HNE : Hid (N = a + 2 + (mb + 3)):=hNN
 clear hRL
 have ho:=h5.own
 rw [hlen] at ho
 obtain ⟨oa5,cap5,rfl⟩:=own_form ho
 obtain ⟨b5,hN5⟩:=lr_nodes h5 hlen (by omega)
 have hb5:=h5.below
 have z5:=hb5.size
 have BW5 : Below w.heap.size w w5:=BW3.trans (hb5.mono BW3.size)
 have RR5:=RR.of_block (hb5.block _ (by omega))
 have RG5:=RG.of_block (hb5.block _ (by omega))
 have cg5:=RG5.cell (i:=0) (by omega)
 have fg5:=RG5.frozen 0
 have RG6 : (w5.setCell ⟨w2.heap.size,0,none⟩ (.slice oa5 N cap5)).rowIs w2.heap.size 29 1 (fun _=>.slice oa5 N cap5):=(RG5.set 0 _).congr (fun j hj=>by
  match j,hj with
  | 0,_=>rfl)
 have RR6:=RR5.setOther (a:=⟨w2.heap.size,0,none⟩) (by show w.heap.size ≠ w2.heap.size;omega) (.slice oa5 N cap5)
 have cg6:=RG6.cell (i:=0) (by omega)
 have HN6 : Hid (NodesAt (w5.setCell ⟨w2.heap.size,0,none⟩ (.slice oa5 N cap5)) oa5 b5 0 N q5 (gd RL)):=nodes_box hN5 RG5 _
 have BW6 : Below w.heap.size w (w5.setCell ⟨w2.heap.size,0,none⟩ (.slice oa5 N cap5)):=BW5.setCell (by show w.heap.size <= w2.heap.size;omega) _
 clear hN5 hb5 RR RG RR5 RG5 BW5 h4 h5 ho hNN hlen
 have k0:=RR6.cell (i:=0) (by omega)
 have k1:=RR6.frozen 0
 have NF : Hid (NodesAt ((w5.setCell ⟨w2.heap.size,0,none⟩ (.slice oa5 N cap5)).setCell ⟨w.heap.size,0,none⟩ (.slice oa5 (N) cap5)) oa5 b5 0 (N) q5 (gd RL)):=nodes_box HN6.out RR6 _
 have BF : Hid (Below w.heap.size w ((w5.setCell ⟨w2.heap.size,0,none⟩ (.slice oa5 N cap5)).setCell ⟨w.heap.size,0,none⟩ (.slice oa5 (N) cap5))):=BW6.setCell (Nat.le_refl _) _
 go_wp2
 exact bodyPost_ret (v:=.tuple #[.agg #[.slice oa5 (N) cap5],.int .i64 (0),.int .i64 ((a : Int) + 2)]) (by simp [results,Tryz.results42,go_sem,k0]) rfl ⟨oa5,cap5,b5,q5,(by rw [HNE.out]),(by have e : RL = upN (ringF 0 (a + 2) sO) (a + 2) ++ upN (ringF (a + 2) (mb + 3) sP) (mb + 3):=(by rw [HRL.out,List.nil_append]);rw [<- e,<- HNE.out];exact NF.out),BF.out⟩
theorem draw_two (C : Nat -> Nat) (L : Nat) (hL : L <= 1048576) : ∃ N G a b,TwoOk C L N G a b:=by
 obtain ⟨n,G,Q,hw,a,b,D⟩:=drawn C L hL
 have hh:=D.lhow
 by_cases h9 : hw < 9
 ·cases hv : vgr n (gd G) with
  | false=>exact ⟨_,_,_,_,two_bad hL D h9 hv⟩
  | true=>
    by_cases h6 : hw < 6
    ·by_cases h2 : hw % 2 = 0
     ·exact ⟨_,_,_,_,two_even hL D h6 h2 hv⟩
     ·exact ⟨_,_,_,_,two_odd hL D h6 h2 hv⟩
    ·exact ⟨_,_,_,_,two_mix hL D (by omega) h9 hv⟩
 ·by_cases h12 : hw < 12
  ·exact ⟨_,_,_,_,two_plain hL D (by omega) h12⟩
  ·by_cases h15 : hw < 15
   ·exact ⟨_,_,_,_,two_ring hL D (by omega) h15⟩
   ·exact ⟨_,_,_,_,two_out hL D (by omega)⟩
end Go.Proofs.YtpbpbppimkeodaaGreatDoor
