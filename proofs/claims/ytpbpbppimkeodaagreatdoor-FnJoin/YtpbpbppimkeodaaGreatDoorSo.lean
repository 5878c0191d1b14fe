/-
  Small
-/
import Derived.Test.YtpbpbppimkeodaaGreatDoorSm
import Derived.Test.YtpbpbppimkeodaaGreatDoorSn
set_option maxRecDepth 100000
namespace Go.Proofs.YtpbpbppimkeodaaGreatDoor
open Go.RowKit Go.Maps
set_option maxHeartbeats 1000000 in
theorem cUp (n : Nat) (w : World) (hn : n <= 1048576) :
  Calls Tryz.prog 46 #[.int .i64 (n : Int)] w fun e w'=>e = .returned (.slice (some ⟨w.heap.size,0,none⟩) n n) /\ Fill w w' 3 n n (fun i=>.int .i64 (i : Int)) (.int .i64 0):=by
 have hmk:=run_make_row' (P:=Tryz.prog) 25 3 (.int .i64 0) 8 Tryz.underlying25 Tryz.info3 rfl .i64 .i64 n (by omega) (by omega)
 go_enter Tryz.func46,Tryz.ntmps46
 go_wp2
 clear hmk
 go_loopw [9] (fun i wr=>∃ k : Nat,k <= n /\ i = .int .i64 k /\ Fill w wr 3 n k (fun i=>.int .i64 (i : Int)) (.int .i64 0)) (fun i _=>n - (intOf i).toNat)
 case atStart=>exact ⟨0,Nat.zero_le _,rfl,fill_start _ _ _ _ _⟩
 case round=>
  obtain ⟨k,hk,rfl,hF⟩:=hrel
  by_cases hlt : k < n
  ·have s1:=hF.row.cell hlt
   have s2:=hF.row.frozen k
   simp only [Nat.lt_irrefl,if_false] at s1
   have HN:=fill_step hF
   clear hF
   go_wp2
   go_roundw
   case rel=>exact ⟨k + 1,by omega,by go_num,HN⟩
   case measure=>simp [intOf];omega
  ·have hkn : k = n:=by omega
   subst hkn
   go_wp2
   go_ret
   exact ⟨rfl,hF⟩
theorem numOf_lt {cl : Nat -> Nat} {S : List Nat} {n : Nat} (h : stands cl S n = true) : numOf cl S n < S.length:=by
 obtain ⟨s,hs,e⟩:=stands_iff.1 h
 have:=List.idxOf_lt_length_of_mem (List.mem_map.2 ⟨s,hs,e⟩ : cl n ∈ S.map cl)
 rw [List.length_map] at this
 exact this
theorem miss_le (N : Nat) (cl : Nat -> Nat) (st : List Nat) : missing N cl st <= N:=by
 unfold missing
 have:=List.length_filter_le (fun x=>!stands cl st x) (List.range N)
 rw [List.length_range] at this
 exact this
theorem getD_mem {S : List Nat} {i : Nat} (h : i < S.length) : S.getD i 0 ∈ S:=by simp [List.getD,List.getElem?_eq_getElem h]
theorem kids_G2 {G : Nat -> ND} {cl : Nat -> Nat} {S : List Nat} (hc : ∀ s,s ∈ S -> Covered G cl S s) : Kids S.length (G2 G cl S):=by
 intro i hi j hj
 have:=numOf_lt (hc _ (getD_mem hi) j hj)
 show 0 <= ((numOf cl S (kid (G (S.getD i 0)) j) : Nat) : Int) /\ ((numOf cl S (kid (G (S.getD i 0)) j) : Nat) : Int) < _
 omega
theorem plain_G2 {N : Nat} {G : Nat -> ND} {cl : Nat -> Nat} {S : List Nat} (hS : ∀ s,s ∈ S -> s < N) (hP : ∀ x,x < N -> Plain (G x)) : ∀ x,x < S.length -> Plain (G2 G cl S x):=fun _ hx=>
 ⟨(hP _ (hS _ (getD_mem hx))).kind,(hP _ (hS _ (getD_mem hx))).names,(hP _ (hS _ (getD_mem hx))).kids,(hP _ (hS _ (getD_mem hx))).bare⟩
abbrev S1 (N R : Nat) (G : Nat -> ND) (ns : Nat -> Nat) : List Nat:=allTill G (fun i=>i) (N + 1) ns [] R
abbrev G1 (N R : Nat) (G : Nat -> ND) (ns : Nat -> Nat) : Nat -> ND:=G2 G (fun i=>i) (S1 N R G ns)
abbrev ns1 (N R : Nat) (G : Nat -> ND) (ns : Nat -> Nat) : Nat -> Nat:=fun i=>numOf (fun i=>i) (S1 N R G ns) (ns i)
def Mid (base N R : Nat) (G : Nat -> ND) (ns : Nat -> Nat) (w' : World) (oa la : Option Addr) : Prop:=
 ∃ (b' : Nat) (p' : Nat -> NP) (lb : Nat),NodesAt w' oa b' 0 (S1 N R G ns).length p' (G1 N R G ns) /\ IntsAt w' la lb 0 R (fun i=>(ns1 N R G ns i : Int)) /\ (∀ i,i < (S1 N R G ns).length -> 0 < (G1 N R G ns i).nn -> (G1 N R G ns i).nn <= (p' i).c1) /\ FreshG base (S1 N R G ns).length R b' lb p' (G1 N R G ns)
theorem Mid.below {base N R : Nat} {G : Nat -> ND} {ns : Nat -> Nat} {w w' : World} {oa la : Option Addr} (h : Mid base N R G ns w oa la) (hb : Below w.heap.size w w') : Mid base N R G ns w' oa la:=by
 obtain ⟨b',p',lb,h1,h2,h3,h4⟩:=h
 exact ⟨b',p',lb,h1.below hb,h2.below hb,h3,h4⟩
theorem Mid.set {base N R : Nat} {G : Nat -> ND} {ns : Nat -> Nat} {w : World} {oa la : Option Addr} (h : Mid base N R G ns w oa la) {a : Addr} (ha : a.block < base) (v : Value) : Mid base N R G ns (w.setCell a v) oa la:=by
 obtain ⟨b',p',lb,h1,h2,h3,h4⟩:=h
 have bl : ∀ k,base <= k -> (w.setCell a v).heap[k]? = w.heap[k]?:=fun k hk=>Below.heap_setCell _ _ _ _ (by omega)
 refine ⟨b',p',lb,⟨h1.at_,fun i hi=>(World.cell?_of_block (bl _ h4.row)).trans (h1.c0 i hi),fun i hi=>(World.cell?_of_block (bl _ h4.row)).trans (h1.c1 i hi),fun i hi=>(World.cell?_of_block (bl _ h4.row)).trans (h1.c2 i hi),fun i hi=>?_,h1.len⟩,h2.later (fun z=>bl _ (h4.list z)),h3,h4⟩
 exact (h1.node i hi).later (fun z=>bl _ ((h4.node i hi).1 z)) (fun z=>bl _ ((h4.node i hi).2 z))
theorem np_set {w W w4 : World} {n R : Nat} {G : Nat -> ND} {cl ns : Nat -> Nat} {e : Ending} (h : NumberedPost W n R G cl ns e w4) (hW : Below w.heap.size w W) {a : Addr} (ha : a.block < W.heap.size) (ha2 : w.heap.size <= a.block) (v : Value) : NumberedPost w n R G cl ns e (w4.setCell a v):=by
 obtain ⟨oa,b',cap,p',la,lb,lc,h1,h2,h3,h4,h5,h7,h8,h6⟩:=h
 have hs:=hW.size
 have bl : ∀ k,W.heap.size <= k -> (w4.setCell a v).heap[k]? = w4.heap[k]?:=fun k hk=>Below.heap_setCell _ _ _ _ (by omega)
 refine ⟨oa,b',cap,p',la,lb,lc,h1,⟨h2.at_,fun i hi=>(World.cell?_of_block (bl _ h5.row)).trans (h2.c0 i hi),fun i hi=>(World.cell?_of_block (bl _ h5.row)).trans (h2.c1 i hi),fun i hi=>(World.cell?_of_block (bl _ h5.row)).trans (h2.c2 i hi),fun i hi=>?_,h2.len⟩,h3.later (fun z=>bl _ (h5.list z)),h4,⟨Nat.le_trans hs h5.row,fun i hi=>⟨fun z=>Nat.le_trans hs ((h5.node i hi).1 z),fun z=>Nat.le_trans hs ((h5.node i hi).2 z)⟩,fun z=>Nat.le_trans hs (h5.list z)⟩,h7.of (fun _=>bl _ h5.row) (fun i hi=>⟨fun z=>bl _ ((h5.node i hi).1 z),fun z=>bl _ ((h5.node i hi).2 z)⟩),h8.of (fun z=>bl _ (h5.list z)),(hW.trans (h6.mono hs)).setCell ha2 _⟩
 exact (h2.node i hi).later (fun z=>bl _ ((h5.node i hi).1 z)) (fun z=>bl _ ((h5.node i hi).2 z))
def SmallPost (w : World) (N R : Nat) (G : Nat -> ND) (ns : Nat -> Nat) (e : Ending) (w' : World) : Prop:=
 ∃ cl : Nat -> Nat,(∀ x y,x < (S1 N R G ns).length -> y < (S1 N R G ns).length -> (cl x = cl y ↔ Same (S1 N R G ns).length (G1 N R G ns) x y)) /\ NumberedPost w (S1 N R G ns).length R (G1 N R G ns) cl (ns1 N R G ns) e w'
set_option maxHeartbeats 4000000 in
theorem c25 {N b o : Nat} {p : Nat -> NP} {G : Nat -> ND} (ao ra : Option Addr) (gc R rc rl ro : Nat) (ns : Nat -> Nat) (w : World) (hN : N <= 500000) (hR : R <= 1048576) (hK : Kids N G) (hP : ∀ x,x < N -> Plain (G x)) (hM : ∀ x,x < N -> (G x).nn <= 1048576 /\ ∀ i,i < (G x).nn -> ((G x).nm i).size <= 12) (hnk : ∀ i,i < N -> (G i).nk <= 1048576)
  (hns : ∀ i,i < R -> ns i < N) (hG : NodesAt w ao b o N p G) (hI : IntsAt w ra rl ro R (fun i=>(ns i : Int))) :
  Calls Tryz.prog 34 #[.agg #[.slice ao N gc],.slice ra R rc] w (SmallPost w N R G ns):=by
 have HG : Hid (NodesAt w ao b o N p G):=hG
 have HI : Hid (IntsAt w ra rl ro R (fun i=>(ns i : Int))):=hI
 have HP : Hid (∀ x,x < N -> Plain (G x)):=hP
 have HM : Hid (∀ x,x < N -> (G x).nn <= 1048576 /\ ∀ i,i < (G x).nn -> ((G x).nm i).size <= 12):=hM
 have HK : Hid (Kids N G):=hK
 have HNK : Hid (∀ i,i < N -> (G i).nk <= 1048576):=hnk
 have HNS : Hid (∀ i,i < R -> ns i < N):=hns
 clear hG hP hM hK hnk hI hns
 go_enter Tryz.func34,Tryz.ntmps34
 go_wp2_with fail
 have AF:=allTill_full (G:=G) (cl:=fun i=>i) HK.out (f:=N + 1) (ns:=ns) (m:=R) HNS.out (by omega) R (Nat.le_refl _)
 have HAF : Hid ((∀ s,s ∈ S1 N R G ns -> s < N) /\ (∀ i,i < R -> stands (fun i=>i) (S1 N R G ns) (ns i) = true) /\ ∀ s,s ∈ S1 N R G ns -> Covered G (fun i=>i) (S1 N R G ns) s):=AF
 have hS1 : (S1 N R G ns).length <= N:=by
  have:=allTill_ok (G:=G) (cl:=fun i=>i) HK.out (f:=N + 1) (ns:=ns) (st:=[]) (m:=R) HNS.out (by rw [List.length_nil];have:=miss_le N (fun i=>i) [];omega) (by have:=miss_le N (fun i=>i) [];omega) R (Nat.le_refl _)
  have:=this.1
  show (allTill G (fun i=>i) (N + 1) ns [] R).length <= N
  omega
 clear AF
 obtain ⟨n1,hn1⟩ : ∃ n1,n1 = (S1 N R G ns).length:=⟨_,rfl⟩
 have HN1 : Hid (n1 = (S1 N R G ns).length):=hn1
 rw [<- hn1] at hS1
 have CU : Hid (∀ W,Calls Tryz.prog 46 #[.int .i64 (N : Int)] W fun e w'=>e = .returned (.slice (some ⟨W.heap.size,0,none⟩) N N) /\ Hid (IntsAt w' (some ⟨W.heap.size,0,none⟩) W.heap.size 0 N (fun i=>((i : Nat) : Int))) /\ Hid (Below W.heap.size W w')):=fun W=>
  (cUp N W (by omega)).mono fun e w' ⟨h1,h2⟩=>⟨h1,⟨fun _=>rfl,fun i hi=>by rw [Nat.zero_add,h2.row.cell hi,if_pos hi],by omega⟩,h2.below⟩
 have NU : Hid (∀ W ca cb,Below w.heap.size w W -> IntsAt W ca cb 0 N (fun i=>((i : Nat) : Int)) -> Calls Tryz.prog 55 #[.agg #[.slice ao N gc],.slice ra R rc,.slice ca N N] W fun e w'=>∃ (oa : Option Addr) (cap : Nat) (la : Option Addr) (lc : Nat),e = .returned (.tuple #[.agg #[.slice oa n1 cap],.slice la R lc]) /\ Hid (Mid W.heap.size N R G ns w' oa la) /\ Hid (Below W.heap.size W w')):=fun W ca cb hb hi=>
  (c43 ao ra ca gc R rc N rl ro ns W HK.out (fun i hi=>by show i < _;omega) (by omega) (fun i hi=>⟨(HM.out i hi).1,HNK.out i hi⟩) hR HNS.out (HG.out.below hb) hi (HI.out.below hb)).mono fun e w' ⟨oa,b',cap,p',la,lb,lc,h1,h2,h3,h4,h6,_,_,h5⟩=>⟨oa,cap,la,lc,by rw [h1,HN1.out],⟨b',p',lb,h2,h3,h4,h6⟩,h5⟩
 have tA : ((w.alloc (.cells #[.slice ao N gc] 29)).alloc (.cells #[.slice none 0 0] 29)).drew.cell? ⟨w.heap.size,0,none⟩ = some (.slice ao N gc):=((row1 w (.slice ao N gc) 29).alloc (.cells #[.slice none 0 0] 29)).cell (i:=0) (by omega)
 have tB : (((w.alloc (.cells #[.slice ao N gc] 29)).alloc (.cells #[.slice none 0 0] 29)).alloc (.cells #[.slice none 0 0] 29)).drew.cell? ⟨w.heap.size,0,none⟩ = some (.slice ao N gc):=(((row1 w (.slice ao N gc) 29).alloc (.cells #[.slice none 0 0] 29)).alloc (.cells #[.slice none 0 0] 29)).cell (i:=0) (by omega)
 have RA:=row1 (w.alloc (.cells #[.slice ao N gc] 29)) (.slice none 0 0) 29
 have RB:=row1 ((w.alloc (.cells #[.slice ao N gc] 29)).alloc (.cells #[.slice none 0 0] 29)) (.slice none 0 0) 29
 simp only [World.size_alloc] at RA RB
 have qB : (((w.alloc (.cells #[.slice ao N gc] 29)).alloc (.cells #[.slice none 0 0] 29)).alloc (.cells #[.slice none 0 0] 29)).drew.cell? ⟨w.heap.size + 1 + 1,0,none⟩ = some (.slice none 0 0):=RB.cell (i:=0) (by omega)
 have fB : (((w.alloc (.cells #[.slice ao N gc] 29)).alloc (.cells #[.slice none 0 0] 29)).alloc (.cells #[.slice none 0 0] 29)).drew.frozen? ⟨w.heap.size + 1 + 1,0,none⟩ = false:=RB.frozen 0
 have HLA : Hid (∀ w1,Below ((w.alloc (.cells #[.slice ao N gc] 29)).alloc (.cells #[.slice none 0 0] 29)).drew.heap.size ((w.alloc (.cells #[.slice ao N gc] 29)).alloc (.cells #[.slice none 0 0] 29)).drew w1 -> w1.cell? ⟨w.heap.size,0,none⟩ = some (.slice ao N gc) /\ Hid (w1.rowIs (w.heap.size + 1) 29 1 (fun _=>.slice none 0 0)) /\ Below w.heap.size w w1):=fun w1 hb=>
  ⟨(hb.cell (p:=⟨w.heap.size,0,none⟩) (by simp;omega)).trans tA,RA.of_block (hb.block _ (by simp)),(bel2 w _ _).drew.trans (hb.mono (by simp;omega))⟩
 have HLB : Hid (∀ w1,Below (((w.alloc (.cells #[.slice ao N gc] 29)).alloc (.cells #[.slice none 0 0] 29)).alloc (.cells #[.slice none 0 0] 29)).drew.heap.size (((w.alloc (.cells #[.slice ao N gc] 29)).alloc (.cells #[.slice none 0 0] 29)).alloc (.cells #[.slice none 0 0] 29)).drew w1 -> w1.cell? ⟨w.heap.size,0,none⟩ = some (.slice ao N gc) /\ w1.cell? ⟨w.heap.size + 1 + 1,0,none⟩ = some (.slice none 0 0) /\ w1.frozen? ⟨w.heap.size + 1 + 1,0,none⟩ = false /\ Hid (w1.rowIs (w.heap.size + 1) 29 1 (fun _=>.slice none 0 0)) /\ Below w.heap.size w w1):=fun w1 hb=>
  ⟨(hb.cell (p:=⟨w.heap.size,0,none⟩) (by simp;omega)).trans tB,(hb.cell (p:=⟨w.heap.size + 1 + 1,0,none⟩) (by simp)).trans qB,(hb.frozen (p:=⟨w.heap.size + 1 + 1,0,none⟩) (by simp)).trans fB,(RA.alloc _).of_block (hb.block _ (by simp)),(bel3 w _ _ _).drew.trans (hb.mono (by simp;omega))⟩
 have eA : Hid (((w.alloc (.cells #[.slice ao N gc] 29)).alloc (.cells #[.slice none 0 0] 29)).drew.heap.size = w.heap.size + 1 + 1):=by show _ = _;simp
 have eB : Hid ((((w.alloc (.cells #[.slice ao N gc] 29)).alloc (.cells #[.slice none 0 0] 29)).alloc (.cells #[.slice none 0 0] 29)).drew.heap.size = w.heap.size + 1 + 1 + 1):=by show _ = _;simp
 clear hn1 RB RA
 go_cut [6,7] (fun s6 s7 wc=>∃ (rbk cap : Nat) (oa la : Option Addr) (lc : Nat),s6 = .pointer (some ⟨rbk,0,none⟩) /\ s7 = .slice la R lc /\ wc.cell? ⟨rbk,0,none⟩ = some (.slice oa n1 cap) /\ w.heap.size + 1 < rbk /\ Hid (∃ base,Mid base N R G ns wc oa la) /\ Hid (wc.rowIs (w.heap.size + 1) 29 1 (fun _=>.slice none 0 0)) /\ Hid (Below w.heap.size w wc))
 case first=>
  go_region_held3 (fun w'=>w'.cell? ⟨w.heap.size,0,none⟩ = some (.slice ao N gc)) (first | go_keep | (rw [far_cell (by simp;try omega)];assumption))
   (first
    | (go_at_call 46;refine (CU.out _).mono ?_;rintro e w1 ⟨rfl,I1,hb1⟩
       go_loud (first
        | (with_reducible have XX:=HLA.out w1 hb1.out
           obtain ⟨z1,R1,B1⟩:=XX)
        | (with_reducible have XX:=HLB.out w1 hb1.out
           obtain ⟨z1,q1,f1,R1,B1⟩:=XX))
       go_loud (have NV0:=fun (W : World) (hW : Below w1.heap.size w1 W)=>NU.out W _ _ (B1.trans (hW.mono B1.size)) (I1.out.below hW))
       first | rw [eB.out] at NV0 | rw [eA.out] at NV0
       have NV : Hid _:=NV0
       clear NV0
       have HB1 : Hid (Below w.heap.size w w1):=B1
       have hlt1 : w.heap.size < w1.heap.size:=blt z1
       clear B1)
    | (go_at_call 55;first | (with_reducible refine (NV.out _ (Below.refl _ _)).mono ?_) | (with_reducible refine (NV.out _ (Below.refl _ _).drew).mono ?_)
       rintro e w2 ⟨oa,cap,la,lc,rfl,HMid,hb2⟩;have z2:=(hb2.out.cell (p:=⟨w.heap.size,0,none⟩) (blt z1)).trans z1;first
        | (have q2:=(hb2.out.cell (p:=⟨w.heap.size + 1 + 1,0,none⟩) (blt q1)).trans q1;have f2:=(hb2.out.frozen (p:=⟨w.heap.size + 1 + 1,0,none⟩) (blt q1)).trans f1)
        | skip)
    | (go_at_call 55;first | (with_reducible refine (NV.out _ (bel1 _ _)).mono ?_) | (with_reducible refine (NV.out _ (bel1 _ _).drew).mono ?_)
       rintro e w2 ⟨oa,cap,la,lc,rfl,HMid,hb2⟩;have z1' : (w1.alloc (.cells #[.slice none 0 0] 29)).cell? ⟨w.heap.size,0,none⟩ = some (.slice ao N gc):=(World.cell?_of_block (w:=w1) (Below.heap_alloc _ _ _ (blt z1))).trans z1;have z2:=(hb2.out.cell (p:=⟨w.heap.size,0,none⟩) (blt z1')).trans z1';have q2:=(hb2.out.cell (p:=⟨w1.heap.size,0,none⟩) (by simp)).trans ((row1 w1 (.slice none 0 0) 29).cell (i:=0) (by omega));have f2:=(hb2.out.frozen (p:=⟨w1.heap.size,0,none⟩) (by simp)).trans ((row1 w1 (.slice none 0 0) 29).frozen 0)))
  ·have hwB : w.heap.size + 1 < w1.heap.size:=R1.out.lt
   have FH : Hid ((∃ base,Mid base N R G ns (w2.alloc (.cells #[.slice oa n1 cap] 29)) oa la) /\ (w2.alloc (.cells #[.slice oa n1 cap] 29)).rowIs (w.heap.size + 1) 29 1 (fun _=>.slice none 0 0) /\ Below w.heap.size w (w2.alloc (.cells #[.slice oa n1 cap] 29))):=
    ⟨⟨_,HMid.out.below (bel1 _ _)⟩,(R1.out.of_block (hb2.out.block _ (by first | exact hwB | (simp;exact hwB)))).alloc _,(HB1.out.trans (hb2.out.mono (by first | exact HB1.out.size | (simp;exact HB1.out.size)))).trans ((bel1 w2 _).mono (Nat.le_trans HB1.out.size (by first | exact hb2.out.size | (have:=hb2.out.size;simp at this;omega))))⟩
   have hw2 : w.heap.size + 1 < w2.heap.size:=by have:=hb2.out.size;first | omega | (simp at this;omega)
   clear HMid hb2 I1 hb1 R1
   go_wp2
   go_meet
   case rel=>exact ⟨w2.heap.size,cap,oa,la,lc,rfl,rfl,by simp,hw2,FH.out.1,FH.out.2.1,FH.out.2.2⟩
  ·have hwB : w.heap.size + 1 < w1.heap.size:=R1.out.lt
   have hs2:=HMid.out.set (a:=⟨w1.heap.size,0,none⟩) (by show w1.heap.size < _;simp) (.slice oa n1 cap)
   have hr2:=((R1.out.alloc (.cells #[.slice none 0 0] 29)).of_block (hb2.out.block _ (by simp;omega))).setOther (a:=⟨w1.heap.size,0,none⟩) (by show w.heap.size + 1 ≠ w1.heap.size;omega) (.slice oa n1 cap)
   have FH : Hid ((∃ base,Mid base N R G ns (w2.setCell ⟨w1.heap.size,0,none⟩ (.slice oa n1 cap)) oa la) /\ (w2.setCell ⟨w1.heap.size,0,none⟩ (.slice oa n1 cap)).rowIs (w.heap.size + 1) 29 1 (fun _=>.slice none 0 0) /\ Below w.heap.size w (w2.setCell ⟨w1.heap.size,0,none⟩ (.slice oa n1 cap))):=
    ⟨⟨_,hs2⟩,hr2,(((HB1.out.alloc HB1.out.size (.cells #[.slice none 0 0] 29))).trans (hb2.out.mono (by simp;omega))).setCell (by show w.heap.size <= w1.heap.size;omega) _⟩
   clear HMid hb2 I1 hb1 R1 hs2 hr2
   go_wp2
   go_meet
   case rel=>exact ⟨w1.heap.size,cap,oa,la,lc,rfl,rfl,World.cell?_setCell_same' _ _ _ (by rw [q2];rfl),hwB,FH.out.1,FH.out.2.1,FH.out.2.2⟩
  ·have hq1 : w.heap.size + 1 + 1 < w1.heap.size:=blt q1
   have hs2:=HMid.out.set (a:=⟨w.heap.size + 1 + 1,0,none⟩) (by first | exact hq1 | (show w.heap.size + 1 + 1 < _;simp;exact hq1)) (.slice oa n1 cap)
   have hr2:=(R1.out.of_block (hb2.out.block _ (by first | (show w.heap.size + 1 < w1.heap.size;omega) | (simp;omega)))).setOther (a:=⟨w.heap.size + 1 + 1,0,none⟩) (by show w.heap.size + 1 ≠ w.heap.size + 1 + 1;omega) (.slice oa n1 cap)
   have FH : Hid ((∃ base,Mid base N R G ns (w2.setCell ⟨w.heap.size + 1 + 1,0,none⟩ (.slice oa n1 cap)) oa la) /\ (w2.setCell ⟨w.heap.size + 1 + 1,0,none⟩ (.slice oa n1 cap)).rowIs (w.heap.size + 1) 29 1 (fun _=>.slice none 0 0) /\ Below w.heap.size w (w2.setCell ⟨w.heap.size + 1 + 1,0,none⟩ (.slice oa n1 cap))):=
    ⟨⟨_,hs2⟩,hr2,(HB1.out.trans (hb2.out.mono (by first | exact HB1.out.size | (simp;exact HB1.out.size)))).setCell (by show w.heap.size <= w.heap.size + 1 + 1;omega) _⟩
   clear HMid hb2 I1 hb1 R1 hs2 hr2
   go_wp2
   go_meet
   case rel=>exact ⟨w.heap.size + 1 + 1,cap,oa,la,lc,rfl,rfl,World.cell?_setCell_same' _ _ _ (by rw [q2];rfl),by omega,FH.out.1,FH.out.2.1,FH.out.2.2⟩
 case rest=>
  obtain ⟨rbk,cap,oa,la,lc,rfl,rfl,rc0,hrk,HMD,HRW,HBC⟩:=hcut
  clear tA tB qB fB HLA HLB eA eB CU NU
  obtain ⟨base,b',p',lb,N1,I1,C1,F1⟩:=HMD.out
  have HN : Hid (NodesAt wc oa b' 0 (S1 N R G ns).length p' (G1 N R G ns)):=N1
  have HIL : Hid (IntsAt wc la lb 0 R (fun i=>(ns1 N R G ns i : Int))):=I1
  have hr1 : w.heap.size + 1 < wc.heap.size:=HRW.out.lt
  have hrb : rbk < wc.heap.size:=blt rc0
  have HK1 : Hid (Kids (S1 N R G ns).length (G1 N R G ns)):=kids_G2 HAF.out.2.2
  have HSM : Hid (∀ x,x < (S1 N R G ns).length -> (S1 N R G ns).getD x 0 < N):=fun x hx=>HAF.out.1 _ (getD_mem hx)
  have TC : Hid (∀ W,Below wc.heap.size wc W -> Calls Tryz.prog 56 #[.agg #[.slice oa n1 cap]] W fun e w'=>∃ (bo : Nat),e = .returned (.slice (some ⟨bo,0,none⟩) n1 n1) /\ Hid (∃ cl : Nat -> Nat,IntsAt w' (some ⟨bo,0,none⟩) bo 0 (S1 N R G ns).length (fun i=>(cl i : Int)) /\ (∀ x y,x < (S1 N R G ns).length -> y < (S1 N R G ns).length -> (cl x = cl y ↔ Same (S1 N R G ns).length (G1 N R G ns) x y)) /\ ∀ x,x < (S1 N R G ns).length -> cl x < (S1 N R G ns).length) /\ Hid (Below W.heap.size W w')):=fun W hW=>by
   have C:=c44 (p:=p') oa cap W (by have:=HN1.out;omega) HK1.out (plain_G2 HAF.out.1 HP.out) (fun x hx=>HM.out _ (HSM.out x hx)) (fun x hx=>HNK.out _ (HSM.out x hx)) C1 (HN.out.below hW)
   rw [<- HN1.out] at C
   refine C.mono fun e w' ⟨bo,cl,h1,h2,h3,h4,h5,h6⟩=>⟨bo,h1,⟨cl,?_,?_,?_⟩,h6⟩
   ·rw [<- HN1.out];exact h2
   ·rw [<- HN1.out];exact h3
   ·rw [<- HN1.out];exact h4
  have NC : Hid (∀ (W : World) (bo : Nat) (cl : Nat -> Nat),Below wc.heap.size wc W -> IntsAt W (some ⟨bo,0,none⟩) bo 0 (S1 N R G ns).length (fun i=>(cl i : Int)) -> (∀ x,x < (S1 N R G ns).length -> cl x < (S1 N R G ns).length) -> Calls Tryz.prog 55 #[.agg #[.slice oa n1 cap],.slice la R lc,.slice (some ⟨bo,0,none⟩) n1 n1] W fun e w'=>∃ (oa2 : Option Addr) (L2 cap2 : Nat) (la2 : Option Addr) (lc2 : Nat),e = .returned (.tuple #[.agg #[.slice oa2 L2 cap2],.slice la2 R lc2]) /\ Hid (NumberedPost W (S1 N R G ns).length R (G1 N R G ns) cl (ns1 N R G ns) e w') /\ Hid (Below W.heap.size W w')):=fun W bo cl hW hI hc=>by
   have hl : (S1 N R G ns).length <= N:=by rw [<- HN1.out];exact hS1
   have C:=c43 (p:=p') oa la (some ⟨bo,0,none⟩) cap R lc n1 lb 0 (ns1 N R G ns) W HK1.out (fun i hi=>by have:=hc i hi;omega) (by omega) (fun i hi=>⟨(HM.out _ (HSM.out i hi)).1,HNK.out _ (HSM.out i hi)⟩) hR (fun i hi=>numOf_lt (HAF.out.2.1 i hi)) (HN.out.below hW) hI (HIL.out.below hW)
   rw [<- HN1.out] at C
   refine C.mono fun e w' h=>?_
   obtain ⟨oa2,b2,cap2,p2,la2,lb2,lc2,h1,h2,h3,h4,h5,h7,h8,h6⟩:=h
   refine ⟨oa2,_,cap2,la2,lc2,h1,?_,h6⟩
   rw [<- HN1.out]
   exact ⟨oa2,b2,cap2,p2,la2,lb2,lc2,h1,h2,h3,h4,h5,h7,h8,h6⟩
  clear N1 I1 C1 F1
  go_wp2_with fail
  go_region_held3 (fun w'=>w'.cell? ⟨rbk,0,none⟩ = some (.slice oa n1 cap)) (first | go_keep | (rw [far_cell (by simp;try omega)];assumption))
   (first
    | (go_at_call 56;first | (with_reducible refine (TC.out _ (Below.refl _ _)).mono ?_) | (with_reducible refine (TC.out _ (Below.refl _ _).drew).mono ?_)
       rintro e w3 ⟨bo,rfl,HCL,hb3⟩
       have y1 : w3.cell? ⟨rbk,0,none⟩ = some (.slice oa n1 cap):=(hb3.out.cell (p:=⟨rbk,0,none⟩) hrb).trans rc0
       obtain ⟨cl,HCL2⟩:=HCL.out
       have HCX : Hid _:=HCL2
       clear HCL2
       have HB3 : Hid (Below wc.heap.size wc w3):=(by first | (with_reducible exact hb3.out) | (exact ((Below.refl _ _).drew).trans hb3.out)))
    | (go_at_call 55;first | (with_reducible refine (NC.out _ bo cl HB3.out HCX.out.1 HCX.out.2.2).mono ?_) | (with_reducible refine (NC.out _ bo cl HB3.out.drew (HCX.out.1.below (Below.refl _ _).drew) HCX.out.2.2).mono ?_)
       rintro e w4 ⟨oa2,L2,cap2,la2,lc2,rfl,HNP,hb4⟩
       have hlt3:=HB3.out.size
       have y2 : w4.cell? ⟨rbk,0,none⟩ = some (.slice oa n1 cap):=(hb4.out.cell (p:=⟨rbk,0,none⟩) (blt y1)).trans y1
       have RR:=(HRW.out.of_block (HB3.out.block _ hr1)).of_block (hb4.out.block (w.heap.size + 1) (by first | (show w.heap.size + 1 < w3.heap.size;omega) | (simp;omega)))
       have y3 : w4.cell? ⟨w.heap.size + 1,0,none⟩ = some (.slice none 0 0):=RR.cell (i:=0) (by omega)
       have y4:=RR.frozen 0
       clear RR))
  have B3 : Below w.heap.size w w3:=HBC.out.trans (HB3.out.mono HBC.out.size)
  have FH : Hid (SmallPost w N R G ns (.returned (.tuple #[.agg #[.slice oa2 L2 cap2],.slice la2 R lc2])) (w4.setCell ⟨w.heap.size + 1,0,none⟩ (.slice oa2 L2 cap2))):=
   ⟨cl,HCX.out.2.1,np_set HNP.out (by first | exact B3 | exact B3.drew) (a:=⟨w.heap.size + 1,0,none⟩) (by first | (show w.heap.size + 1 < w3.heap.size;omega) | (simp;omega)) (by show w.heap.size <= w.heap.size + 1;omega) _⟩
  have k0 : (w4.setCell ⟨w.heap.size + 1,0,none⟩ (.slice oa2 L2 cap2)).cell? ⟨w.heap.size + 1,0,none⟩ = some (.slice oa2 L2 cap2):=World.cell?_setCell_same' _ _ _ (by rw [y3];rfl)
  clear HNP hb4 HCX B3
  go_wp2
  exact bodyPost_ret (v:=.tuple #[.agg #[.slice oa2 L2 cap2],.slice la2 R lc2]) (by simp [results,Tryz.results34,go_sem,k0]) rfl FH.out
end Go.Proofs.YtpbpbppimkeodaaGreatDoor
