/-
  JrD JrM
-/
import Derived.Test.YtpbpbppimkeodaaGreatDoorTo
import Derived.Test.YtpbpbppimkeodaaGreatDoorTg
import Derived.Test.YtpbpbppimkeodaaGreatDoorTh
import Derived.Test.YtpbpbppimkeodaaGreatDoorTj
set_option maxRecDepth 100000
namespace Go.Proofs.YtpbpbppimkeodaaGreatDoor
open Go.RowKit Go.Maps
structure JoinOk (C : Nat -> Nat) (L N : Nat) (G : List ND) (a b : Int) : Prop where
 len : G.length = N
 small : N <= 200
 few : ∀ j,j < N -> (gd G j).nn <= 4 /\ (gd G j).nk <= 4
 calls : ∀ (ca : Option Addr) (cb co cc : Nat) (w : World),BytesAt w ca cb co L C -> Calls Tryz.prog 22 #[.slice ca L cc] w fun e w'=>TwoPost w N G a b e w'
theorem ringJ_few (m k : Nat) : ∀ j,j < m + k -> (gd ([] ++ upN (ringF 0 m sO) m ++ upN (ringF m k sP) k) j).nn <= 4 /\ (gd ([] ++ upN (ringF 0 m sO) m ++ upN (ringF m k sP) k) j).nk <= 4:=fun j hj=>by
 rw [List.nil_append]
 by_cases c : j < m
 ·rw [gd_left (by rw [upN_len];exact c),gd_upN _ c];exact ring_few _ _ _ _
 ·rw [gd_right (by rw [upN_len];omega),upN_len,gd_upN _ (by omega)];exact ring_few _ _ _ _
set_option maxHeartbeats 4000000 in
theorem join_ring8 {C : Nat -> Nat} {L : Nat} (hL : L <= 1048576) (hw : tk C L 0 24 = 23) (hx : tk C L 1 2 = 0) : JoinOk C L (8 + 125) ([] ++ upN (ringF 0 8 sO) 8 ++ upN (ringF 8 125 sP) 125) 0 8:=by
 refine ⟨by simp [upN_len],by omega,ringJ_few 8 125,fun ca cb co cc w h=>?_⟩
 have HC : Hid (∀ w',Below w.heap.size w w' -> BytesAt w' ca cb co L C):=fun w' hb=>h.below hb
 clear h
 have HH : Hid (tk C L 0 24 = 23):=hw
 obtain ⟨x,hxx⟩ : ∃ x,x = tk C L 1 2:=⟨_,rfl⟩
 have HX : Hid (tk C L 1 2 = x):=hxx.symm
 rw [<- hxx] at hx
 clear hw hxx
 obtain ⟨W0,hW0⟩ : ∃ W0,W0 = w.alloc (.cells #[.slice none 0 0] 29):=⟨_,rfl⟩
 have B0 : Below w.heap.size w W0:=by rw [hW0];exact bel1 _ _
 have z0' : w.heap.size < W0.heap.size:=by rw [hW0];simp
 have r0 : W0.rowIs w.heap.size 29 1 (fun _=>.slice none 0 0):=by rw [hW0];exact row1 _ _ _
 have qx : ((x : Int) == 0) = true:=by rw [beq_iff_eq];omega
 go_enter Tryz.func22,Tryz.ntmps22
 go_wp2_with fail
 rw [<- hW0]
 clear hW0
 refine (d_take ca cb co L cc 0 24 C W0 (HC.out W0 B0) hL (by omega) (by omega)).mono ?_
 rintro e w1 ⟨rfl,rfl⟩
 rw [HH.out]
 go_wp2_with fail
 refine (d_take ca cb co L cc 1 2 C W0 (HC.out W0 B0) hL (by omega) (by omega)).mono ?_
 rintro e w1 ⟨rfl,rfl⟩
 rw [HX.out]
 go_wp2_with fail
 refine (d_ring W0 (.slice none 0 0) (fun _=>np0) [] 0 8 sO W0 (lr_start W0) rfl (by omega) (by omega) (by omega) (by decide)).mono ?_
 rintro e w4 ⟨v4,q4,rfl,h4⟩
 go_wp2_with fail
 refine (d_ring W0 v4 q4 ([] ++ upN (ringF 0 8 sO) 8) 8 125 sP w4 h4 (by simp [upN_len]) (by omega) (by omega) (by omega) (by decide)).mono ?_
 rintro e w5 ⟨v5,q5,rfl,h5⟩
 have hlen : ([] ++ upN (ringF 0 8 sO) 8 ++ upN (ringF 8 125 sP) 125).length = 8 + 125:=by simp [upN_len]
 obtain ⟨N,hNN⟩ : ∃ N,N = 8 + 125:=⟨_,rfl⟩
 have hN9 : N <= 200:=by omega
 rw [<- hNN] at hlen
 have HNE : Hid (N = 8 + 125):=hNN
 obtain ⟨RL,hRL⟩ : ∃ RL,RL = [] ++ upN (ringF 0 8 sO) 8 ++ upN (ringF 8 125 sP) 125:=⟨_,rfl⟩
 rw [<- hRL] at h5 hlen
 have HRL : Hid (RL = [] ++ upN (ringF 0 8 sO) 8 ++ upN (ringF 8 125 sP) 125):=hRL
 have ho:=h5.own
 rw [hlen] at ho
 obtain ⟨oa5,cap5,rfl⟩:=own_form ho
 obtain ⟨b5,hN5⟩:=lr_nodes h5 hlen (by omega)
 have hb5:=h5.below
 have RR:=r0.of_block (hb5.block _ z0')
 have k0:=RR.cell (i:=0) (by omega)
 have k1:=RR.frozen 0
 have NF : Hid (NodesAt (w5.setCell ⟨w.heap.size,0,none⟩ (.slice oa5 N cap5)) oa5 b5 0 N q5 (gd RL)):=nodes_box hN5 RR _
 have BF : Hid (Below w.heap.size w (w5.setCell ⟨w.heap.size,0,none⟩ (.slice oa5 N cap5))):=(B0.trans (hb5.mono B0.size)).setCell (Nat.le_refl _) _
 clear hN5 hb5 RR h4 h5 ho hlen hNN hRL
 go_wp2
 exact bodyPost_ret (v:=.tuple #[.agg #[.slice oa5 N cap5],.int .i64 0,.int .i64 8]) (by simp [results,Tryz.results22,go_sem,k0]) rfl ⟨oa5,cap5,b5,q5,(by rw [HNE.out]),(by have e : RL = upN (ringF 0 8 sO) 8 ++ upN (ringF 8 125 sP) 125:=(by rw [HRL.out,List.nil_append]);rw [<- e,show (133 : Nat) = N from HNE.out.symm];exact NF.out),BF.out⟩
set_option maxHeartbeats 4000000 in
theorem join_ring11 {C : Nat -> Nat} {L : Nat} (hL : L <= 1048576) (hw : tk C L 0 24 = 23) (hx : ¬ tk C L 1 2 = 0) : JoinOk C L (11 + 92) ([] ++ upN (ringF 0 11 sO) 11 ++ upN (ringF 11 92 sP) 92) 0 11:=by
 refine ⟨by simp [upN_len],by omega,ringJ_few 11 92,fun ca cb co cc w h=>?_⟩
 have HC : Hid (∀ w',Below w.heap.size w w' -> BytesAt w' ca cb co L C):=fun w' hb=>h.below hb
 clear h
 have HH : Hid (tk C L 0 24 = 23):=hw
 obtain ⟨x,hxx⟩ : ∃ x,x = tk C L 1 2:=⟨_,rfl⟩
 have HX : Hid (tk C L 1 2 = x):=hxx.symm
 rw [<- hxx] at hx
 clear hw hxx
 obtain ⟨W0,hW0⟩ : ∃ W0,W0 = w.alloc (.cells #[.slice none 0 0] 29):=⟨_,rfl⟩
 have B0 : Below w.heap.size w W0:=by rw [hW0];exact bel1 _ _
 have z0' : w.heap.size < W0.heap.size:=by rw [hW0];simp
 have r0 : W0.rowIs w.heap.size 29 1 (fun _=>.slice none 0 0):=by rw [hW0];exact row1 _ _ _
 have qx : ((x : Int) == 0) = false:=beq_eq_false_iff_ne.2 (by omega)
 go_enter Tryz.func22,Tryz.ntmps22
 go_wp2_with fail
 rw [<- hW0]
 clear hW0
 refine (d_take ca cb co L cc 0 24 C W0 (HC.out W0 B0) hL (by omega) (by omega)).mono ?_
 rintro e w1 ⟨rfl,rfl⟩
 rw [HH.out]
 go_wp2_with fail
 refine (d_take ca cb co L cc 1 2 C W0 (HC.out W0 B0) hL (by omega) (by omega)).mono ?_
 rintro e w1 ⟨rfl,rfl⟩
 rw [HX.out]
 go_wp2_with fail
 refine (d_ring W0 (.slice none 0 0) (fun _=>np0) [] 0 11 sO W0 (lr_start W0) rfl (by omega) (by omega) (by omega) (by decide)).mono ?_
 rintro e w4 ⟨v4,q4,rfl,h4⟩
 go_wp2_with fail
 refine (d_ring W0 v4 q4 ([] ++ upN (ringF 0 11 sO) 11) 11 92 sP w4 h4 (by simp [upN_len]) (by omega) (by omega) (by omega) (by decide)).mono ?_
 rintro e w5 ⟨v5,q5,rfl,h5⟩
 have hlen : ([] ++ upN (ringF 0 11 sO) 11 ++ upN (ringF 11 92 sP) 92).length = 11 + 92:=by simp [upN_len]
 obtain ⟨N,hNN⟩ : ∃ N,N = 11 + 92:=⟨_,rfl⟩
 have hN9 : N <= 200:=by omega
 rw [<- hNN] at hlen
 have HNE : Hid (N = 11 + 92):=hNN
 obtain ⟨RL,hRL⟩ : ∃ RL,RL = [] ++ upN (ringF 0 11 sO) 11 ++ upN (ringF 11 92 sP) 92:=⟨_,rfl⟩
 rw [<- hRL] at h5 hlen
 have HRL : Hid (RL = [] ++ upN (ringF 0 11 sO) 11 ++ upN (ringF 11 92 sP) 92):=hRL
 have ho:=h5.own
 rw [hlen] at ho
 obtain ⟨oa5,cap5,rfl⟩:=own_form ho
 obtain ⟨b5,hN5⟩:=lr_nodes h5 hlen (by omega)
 have hb5:=h5.below
 have RR:=r0.of_block (hb5.block _ z0')
 have k0:=RR.cell (i:=0) (by omega)
 have k1:=RR.frozen 0
 have NF : Hid (NodesAt (w5.setCell ⟨w.heap.size,0,none⟩ (.slice oa5 N cap5)) oa5 b5 0 N q5 (gd RL)):=nodes_box hN5 RR _
 have BF : Hid (Below w.heap.size w (w5.setCell ⟨w.heap.size,0,none⟩ (.slice oa5 N cap5))):=(B0.trans (hb5.mono B0.size)).setCell (Nat.le_refl _) _
 clear hN5 hb5 RR h4 h5 ho hlen hNN hRL
 go_wp2
 exact bodyPost_ret (v:=.tuple #[.agg #[.slice oa5 N cap5],.int .i64 0,.int .i64 11]) (by simp [results,Tryz.results22,go_sem,k0]) rfl ⟨oa5,cap5,b5,q5,(by rw [HNE.out]),(by have e : RL = upN (ringF 0 11 sO) 11 ++ upN (ringF 11 92 sP) 92:=(by rw [HRL.out,List.nil_append]);rw [<- e,show (103 : Nat) = N from HNE.out.symm];exact NF.out),BF.out⟩
set_option maxHeartbeats 1000000 in
theorem join_two {C : Nat -> Nat} {L N : Nat} {G : List ND} {a b : Int} (hL : L <= 1048576) (T : TwoOk C L N G a b) (hw : ¬ tk C L 0 24 = 23) : JoinOk C L N G a b:=by
 refine ⟨T.len,by have:=T.small;omega,T.few,fun ca cb co cc w h=>?_⟩
 have HT : Hid (∀ w' : World,BytesAt w' ca cb co L C -> Calls Tryz.prog 42 #[.slice ca L cc] w' fun e w''=>TwoPost w' N G a b e w''):=fun w' hb=>T.calls ca cb co cc w' hb
 clear T
 have HW : Hid (BytesAt w ca cb co L C):=h
 clear h
 obtain ⟨x,hxx⟩ : ∃ x,x = tk C L 0 24:=⟨_,rfl⟩
 have HX : Hid (tk C L 0 24 = x):=hxx.symm
 rw [<- hxx] at hw
 clear hxx
 have qx : ((x : Int) == 23) = false:=beq_eq_false_iff_ne.2 (by omega)
 obtain ⟨W0,hW0⟩ : ∃ W0,W0 = w.alloc (.cells #[.slice none 0 0] 29):=⟨_,rfl⟩
 have B0 : Below w.heap.size w W0:=by rw [hW0];exact bel1 _ _
 have z0' : w.heap.size < W0.heap.size:=by rw [hW0];simp
 have r0 : W0.rowIs w.heap.size 29 1 (fun _=>.slice none 0 0):=by rw [hW0];exact row1 _ _ _
 go_enter Tryz.func22,Tryz.ntmps22
 go_wp2_with fail
 rw [<- hW0]
 clear hW0
 refine (d_take ca cb co L cc 0 24 C W0 (HW.out.below B0) hL (by omega) (by omega)).mono ?_
 rintro e w1 ⟨rfl,rfl⟩
 rw [HX.out]
 go_wp2_with fail
 refine (HT.out W0 (HW.out.below B0)).mono ?_
 rintro e w2 ⟨oa,cap,gb,q,rfl,hN,hb2⟩
 have RR:=r0.of_block (hb2.block _ z0')
 have k0:=RR.cell (i:=0) (by omega)
 have k1:=RR.frozen 0
 have NF : Hid (NodesAt (w2.setCell ⟨w.heap.size,0,none⟩ (.slice oa N cap)) oa gb 0 N q (gd G)):=nodes_box hN RR _
 have BF : Hid (Below w.heap.size w (w2.setCell ⟨w.heap.size,0,none⟩ (.slice oa N cap))):=(B0.trans (hb2.mono B0.size)).setCell (Nat.le_refl _) _
 clear hN hb2 RR
 go_wp2
 exact bodyPost_ret (v:=.tuple #[.agg #[.slice oa N cap],.int .i64 a,.int .i64 b]) (by simp [results,Tryz.results22,go_sem,k0]) rfl ⟨oa,cap,gb,q,rfl,NF.out,BF.out⟩
theorem draw_join (C : Nat -> Nat) (L : Nat) (hL : L <= 1048576) : ∃ N G a b,JoinOk C L N G a b:=by
 by_cases hw : tk C L 0 24 = 23
 ·by_cases hx : tk C L 1 2 = 0
  ·exact ⟨_,_,_,_,join_ring8 hL hw hx⟩
  ·exact ⟨_,_,_,_,join_ring11 hL hw hx⟩
 ·obtain ⟨N,G,a,b,T⟩:=draw_two C L hL
  exact ⟨N,G,a,b,join_two hL T hw⟩
theorem sub_yes {N : Nat} {G : Nat -> ND} (ao : Option Addr) (gb go gc : Nat) (p : Nat -> NP) (i j : Nat) (w : World) (h : NodesAt w ao gb go N p G) (hf : ∀ i,i < N -> (G i).nn <= 1048576 /\ (G i).nk <= 1048576) (hv : vgr N G = true) (hi : i < N) (hj : j < N) (hS : SubP G i j) :
  Calls Tryz.prog 25 #[.agg #[.slice ao N gc],.int .i64 (i : Int),.int .i64 (j : Int)] w fun e w'=>e = .returned (.bool true) /\ Below w.heap.size w w':=by
 refine (w8 ao gb go N gc p G (i : Int) (j : Int) w h (fun i hi=>(hf i hi).2) (fun i hi=>(hf i hi).1)).mono ?_
 rintro e w' ⟨hP,hb⟩
 refine ⟨?_,hb⟩
 rcases hP with ⟨rfl,hn⟩ | ⟨rfl,hy⟩
 ·exact absurd ⟨hv,by omega,by omega,by omega,by omega,by simpa using hS⟩ hn
 ·rfl
theorem same_yes {N : Nat} {G : Nat -> ND} (ao : Option Addr) (gb go gc : Nat) (p : Nat -> NP) (i j : Nat) (w : World) (h : NodesAt w ao gb go N p G) (hf : ∀ i,i < N -> (G i).nn <= 1048576 /\ (G i).nk <= 1048576) (hv : vgr N G = true) (hi : i < N) (hj : j < N) (hS : Same N G i j) :
  Calls Tryz.prog 27 #[.agg #[.slice ao N gc],.int .i64 (i : Int),.int .i64 (j : Int)] w fun e w'=>e = .returned (.bool true) /\ Below w.heap.size w w':=by
 refine (sm7 ao gb go N gc p G (i : Int) (j : Int) w h (fun i hi=>(hf i hi).2)).mono ?_
 rintro e w' ⟨hP,hb⟩
 refine ⟨?_,hb⟩
 rcases hP with ⟨rfl,hn⟩ | ⟨rfl,hy⟩
 ·exact absurd ⟨hv,by omega,by omega,by omega,by omega,by simpa using hS⟩ hn
 ·rfl
def SIs (w : World) (n : Nat) (k : Int) (e : Ending) (w' : World) : Prop:=
 ∃ (b cap : Nat),e = .returned (.tuple #[.agg #[.slice (some ⟨b,0,none⟩) n cap],.int .i64 0]) /\ w'.cell? ⟨b,0,none⟩ = some (.int .i64 k) /\ Below w.heap.size w w'
theorem sj_is {N b o : Nat} {p : Nat -> NP} {G : Nat -> ND} (ao : Option Addr) (gc : Nat) (A B : Int) (w : World) (h2 : ∀ i,i < N -> (G i).nn + (G i).nk <= 1048576) (hG : NodesAt w ao b o N p G) {n : Nat} {c : Nat -> ND} (hM : MixIs N G A B false n c 0) (h0 : 0 < n) :
  Calls Tryz.prog 18 #[.agg #[.slice ao N gc],.int .i64 A,.int .i64 B] w (SIs w n (c 0).kind):=by
 refine (s_join ao gc A B w h2 hG).mono ?_
 intro e w' hS
 obtain ⟨n',c',z',hM',_,_,oa,b,cap,p',rfl,hN,hb⟩:=both_of h2 hS
 obtain ⟨e1,e2,hk⟩:=mix_one hM hM' hG
 subst e1
 subst e2
 have ea:=hN.at_ h0
 subst ea
 refine ⟨b,cap,rfl,?_,hb⟩
 have:=hN.c0 0 h0
 rw [hk 0 h0]
 simpa using this
theorem sm_is {N b o : Nat} {p : Nat -> NP} {G : Nat -> ND} (ao : Option Addr) (gc : Nat) (A B : Int) (w : World) (h2 : ∀ i,i < N -> (G i).nn + (G i).nk <= 1048576) (hG : NodesAt w ao b o N p G) {n : Nat} {c : Nat -> ND} (hM : MixIs N G A B true n c 0) (h0 : 0 < n) :
  Calls Tryz.prog 20 #[.agg #[.slice ao N gc],.int .i64 A,.int .i64 B] w (SIs w n (c 0).kind):=by
 refine (s_meet ao gc A B w h2 hG).mono ?_
 intro e w' hS
 obtain ⟨n',c',z',hM',_,_,oa,b,cap,p',rfl,hN,hb⟩:=both_of h2 hS
 obtain ⟨e1,e2,hk⟩:=mix_one hM hM' hG
 subst e1
 subst e2
 have ea:=hN.at_ h0
 subst ea
 refine ⟨b,cap,rfl,?_,hb⟩
 have:=hN.c0 0 h0
 rw [hk 0 h0]
 simpa using this
theorem calls_some {P : Program} {f : FuncId} {args : Array Value} {w : World} {R : Ending -> World -> Prop} (h : Calls P f args w R) : ∃ e w',R e w':=by
 obtain ⟨e,w',_,h,_⟩:=h []
 exact ⟨e,w',h⟩
theorem is_join {N b o : Nat} {p : Nat -> NP} {G : Nat -> ND} {A B : Int} {ao : Option Addr} {w : World} (h2 : ∀ i,i < N -> (G i).nn + (G i).nk <= 1048576) (hok : okJ N G A B) (hG : NodesAt w ao b o N p G) :
  ∃ (n : Nat) (c : Nat -> ND),MixIs N G A B false n c 0 /\ Asks N G A.toNat B.toNat true n c:=by
 obtain ⟨e,w',hS⟩:=calls_some (s_join ao 0 A B w h2 hG)
 obtain ⟨n,c,hM,hA⟩:=asks_of h2 hok hS
 rw [Bool.not_true] at hM
 exact ⟨n,c,hM,hA⟩
theorem is_meet {N b o : Nat} {p : Nat -> NP} {G : Nat -> ND} {A B : Int} {ao : Option Addr} {w : World} (h2 : ∀ i,i < N -> (G i).nn + (G i).nk <= 1048576) (hok : okJ N G A B) (hG : NodesAt w ao b o N p G) :
  ∃ (n : Nat) (c : Nat -> ND),MixIs N G A B true n c 0 /\ Asks N G A.toNat B.toNat false n c:=by
 obtain ⟨e,w',hS⟩:=calls_some (s_meet ao 0 A B w h2 hG)
 obtain ⟨n,c,hM,hA⟩:=asks_of h2 hok hS
 rw [Bool.not_false] at hM
 exact ⟨n,c,hM,hA⟩
theorem both_few {N n : Nat} {G c : Nat -> ND} (hg : ∀ i,i < N -> (G i).nn <= 1048576 /\ (G i).nk <= 1048576) (hc : ∀ i,i < n -> (c i).nn <= 1048576 /\ (c i).nk <= 1048576) : ∀ i,i < N + n -> (bothG N G c i).nn <= 1048576 /\ (bothG N G c i).nk <= 1048576:=fun i hi=>by
 by_cases h : i < N
 ·rw [show bothG N G c i = G i from if_pos h];exact hg i h
 ·rw [show bothG N G c i = shN N (c (i - N)) from if_neg h]
  exact hc (i - N) (by omega)
structure BothOk (N n : Nat) (H : Nat -> ND) (a b : Nat) (up : Bool) (sm : Bool) : Prop where
 valid : vgr (N + n) H = true
 few : ∀ i,i < N + n -> (H i).nn <= 1048576 /\ (H i).nk <= 1048576
 la : a < N
 lb : b < N
 pos : 0 < n
 join : up = true -> SubP H a N /\ SubP H b N
 meet : up = false -> SubP H N a /\ SubP H N b
 same : sm = true -> 1 < n -> Same (N + n) H a N
theorem both_ok {N n a b : Nat} {G c : Nat -> ND} {up sm : Bool} (hv : vgr N G = true) (hN : N <= 200) (hg : ∀ i,i < N -> (G i).nn <= 1048576 /\ (G i).nk <= 1048576) (ha : a < N) (hb : b < N) (A : Asks N G a b up n c) (hs : sm = true -> Same N G a b) : BothOk N n (bothG N G c) a b up sm:=
 ⟨both_valid hv A.shp A.kids (by have:=A.few;omega),both_few hg A.nn,ha,hb,A.pos,A.join,A.meet,fun e h=>A.same (hs e) h⟩
end Go.Proofs.YtpbpbppimkeodaaGreatDoor
