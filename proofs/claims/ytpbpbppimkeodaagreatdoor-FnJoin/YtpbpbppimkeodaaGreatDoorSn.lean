/-
  Numbered2
-/
import Derived.Test.YtpbpbppimkeodaaGreatDoorSe
set_option maxRecDepth 100000
namespace Go.Proofs.YtpbpbppimkeodaaGreatDoor
open Go.RowKit Go.Maps
def G2 (G : Nat -> ND) (cl : Nat -> Nat) (S : List Nat) (s : Nat) : ND:=⟨(G (S.getD s 0)).kind,(G (S.getD s 0)).nn,(G (S.getD s 0)).nm,(G (S.getD s 0)).nk,fun j=>(numOf cl S (kid (G (S.getD s 0)) j) : Int)⟩
def NumberedPost (w : World) (N R : Nat) (G : Nat -> ND) (cl ns : Nat -> Nat) (e : Ending) (w' : World) : Prop:=
 ∃ (oa : Option Addr) (b' cap : Nat) (p' : Nat -> NP) (la : Option Addr) (lb lc : Nat),e = .returned (.tuple #[.agg #[.slice oa (allTill G cl (N + 1) ns [] R).length cap],.slice la R lc]) /\
   NodesAt w' oa b' 0 (allTill G cl (N + 1) ns [] R).length p' (G2 G cl (allTill G cl (N + 1) ns [] R)) /\ IntsAt w' la lb 0 R (fun i=>(numOf cl (allTill G cl (N + 1) ns [] R) (ns i) : Int)) /\ (∀ i,i < (allTill G cl (N + 1) ns [] R).length -> 0 < (G2 G cl (allTill G cl (N + 1) ns [] R) i).nn -> (G2 G cl (allTill G cl (N + 1) ns [] R) i).nn <= (p' i).c1) /\ FreshG w.heap.size (allTill G cl (N + 1) ns [] R).length R b' lb p' (G2 G cl (allTill G cl (N + 1) ns [] R)) /\ OwnG w' (allTill G cl (N + 1) ns [] R).length b' p' (G2 G cl (allTill G cl (N + 1) ns [] R)) /\ OwnL w' (allTill G cl (N + 1) ns [] R).length R b' lb p' (G2 G cl (allTill G cl (N + 1) ns [] R)) /\ Below w.heap.size w w'
structure Begun (w wl : World) (nb : Nat) (gv cv : Value) (cl : Nat -> Nat) : Prop where
 num : ∃ kb mb bs,Num wl nb kb mb bs (.slice none 0 0) (.map []) (.slice none 0 0) gv cv [] cl (fun k=>k < w.heap.size + 2)
 kept : Kept (fun k=>k < w.heap.size) w wl
 g : wl.rowIs w.heap.size 29 1 (fun _=>gv)
 res : wl.rowIs (w.heap.size + 1) 29 1 (fun _=>.slice none 0 0)
theorem begun_behind (w w1 : World) (gv cv : Value) (cl : Nat -> Nat)
  (hk1 : KnI w1 (((w.alloc (.cells #[gv] 29)).alloc (.cells #[.slice none 0 0] 29)).drew.heap.size + 1) ((w.alloc (.cells #[gv] 29)).alloc (.cells #[.slice none 0 0] 29)).drew.heap.size (.slice none 0 0) (.map []) [] (fun k=>k < w.heap.size + 2))
  (kp1 : Kept (fun k=>k < w.heap.size + 2) ((w.alloc (.cells #[gv] 29)).alloc (.cells #[.slice none 0 0] 29)).drew w1) :
  Begun w (w1.alloc (.cells #[gv,cv,.pointer (some ⟨w.heap.size + 1 + 1 + 1,0,none⟩),.slice none 0 0] 107)) w1.heap.size gv cv cl:=by
 have e : ((w.alloc (.cells #[gv] 29)).alloc (.cells #[.slice none 0 0] 29)).drew.heap.size = w.heap.size + 1 + 1:=by simp
 rw [e] at hk1
 have rg:=((row1 w gv 29).alloc (.cells #[.slice none 0 0] 29)).of_block (w':=w1) (kp1.block w.heap.size (by show w.heap.size < w.heap.size + 2;omega))
 have rr:=(row1 (w.alloc (.cells #[gv] 29)) (.slice none 0 0) 29)
 simp only [World.size_alloc] at rr
 have rr2:=rr.of_block (w':=w1) (kp1.block (w.heap.size + 1) (by show w.heap.size + 1 < w.heap.size + 2;omega))
 refine ⟨⟨_,_,_,num_behind hk1⟩,⟨kp1.os,kp1.tape,kp1.output,?_,fun k hk=>?_⟩,rg.alloc _,rr2.alloc _⟩
 ·have:=kp1.size
  rw [e] at this
  simp;omega
 ·have hs:=kp1.size
  rw [e] at hs
  rw [Below.heap_alloc _ _ _ (by omega : k < w1.heap.size),kp1.block k (by show k < w.heap.size + 2;omega)]
  exact (bel2 w _ _).block k hk
theorem begun_ahead (w w1 : World) (gv cv : Value) (cl : Nat -> Nat) {f : Nat -> Value} (rA : w1.rowIs (w.heap.size + 1 + 1) 107 4 f)
  (hk1 : KnI w1 ((((w.alloc (.cells #[gv] 29)).alloc (.cells #[.slice none 0 0] 29)).alloc (.cells #[.slice none 0 0,.slice none 0 0,.pointer none,.slice none 0 0] 107)).drew.heap.size + 1) (((w.alloc (.cells #[gv] 29)).alloc (.cells #[.slice none 0 0] 29)).alloc (.cells #[.slice none 0 0,.slice none 0 0,.pointer none,.slice none 0 0] 107)).drew.heap.size (.slice none 0 0) (.map []) [] (fun k=>k < w.heap.size + 3))
  (kp1 : Kept (fun k=>k < w.heap.size + 3) (((w.alloc (.cells #[gv] 29)).alloc (.cells #[.slice none 0 0] 29)).alloc (.cells #[.slice none 0 0,.slice none 0 0,.pointer none,.slice none 0 0] 107)).drew w1) :
  Begun w ((((w1.setCell ⟨w.heap.size + 1 + 1,0,none⟩ gv).setCell ⟨w.heap.size + 1 + 1,1,none⟩ cv).setCell ⟨w.heap.size + 1 + 1,2,none⟩ (.pointer (some ⟨w.heap.size + 1 + 1 + 1 + 1,0,none⟩))).setCell ⟨w.heap.size + 1 + 1,3,none⟩ (.slice none 0 0)) (w.heap.size + 1 + 1) gv cv cl:=by
 have e : (((w.alloc (.cells #[gv] 29)).alloc (.cells #[.slice none 0 0] 29)).alloc (.cells #[.slice none 0 0,.slice none 0 0,.pointer none,.slice none 0 0] 107)).drew.heap.size = w.heap.size + 1 + 1 + 1:=by simp
 rw [e] at hk1
 have hk2 : KnI w1 (w.heap.size + 1 + 1 + 1 + 1) (w.heap.size + 1 + 1 + 1) (.slice none 0 0) (.map []) [] (fun k=>k < w.heap.size + 2 \/ k = w.heap.size + 1 + 1):=⟨hk1.row,hk1.mlt,hk1.map,hk1.has,hk1.val,hk1.own,fun k q=>hk1.far k (by show k < w.heap.size + 3;omega)⟩
 have hs:=kp1.size
 rw [e] at hs
 have key : ∀ k,k < w.heap.size + 2 -> ((((w1.setCell ⟨w.heap.size + 1 + 1,0,none⟩ gv).setCell ⟨w.heap.size + 1 + 1,1,none⟩ cv).setCell ⟨w.heap.size + 1 + 1,2,none⟩ (.pointer (some ⟨w.heap.size + 1 + 1 + 1 + 1,0,none⟩))).setCell ⟨w.heap.size + 1 + 1,3,none⟩ (.slice none 0 0)).heap[k]? = ((w.alloc (.cells #[gv] 29)).alloc (.cells #[.slice none 0 0] 29)).heap[k]?:=fun k hk=>by
  rw [Below.heap_setCell _ _ _ _ (by show k ≠ w.heap.size + 1 + 1;omega),Below.heap_setCell _ _ _ _ (by show k ≠ w.heap.size + 1 + 1;omega),Below.heap_setCell _ _ _ _ (by show k ≠ w.heap.size + 1 + 1;omega),Below.heap_setCell _ _ _ _ (by show k ≠ w.heap.size + 1 + 1;omega),kp1.block k (by show k < w.heap.size + 3;omega)]
  exact Below.heap_alloc _ _ _ (by simp;omega)
 have rg:=((row1 w gv 29).alloc (.cells #[.slice none 0 0] 29)).of_block (key w.heap.size (by omega))
 have rr:=(row1 (w.alloc (.cells #[gv] 29)) (.slice none 0 0) 29)
 simp only [World.size_alloc] at rr
 refine ⟨⟨_,_,_,num_ahead rA hk2 (fun k q=>by omega)⟩,⟨kp1.os,kp1.tape,kp1.output,by simp [World.setCell];omega,fun k hk=>(key k (by omega)).trans ((bel2 w _ _).block k hk)⟩,rg,rr.of_block (key (w.heap.size + 1) (by omega))⟩
set_option maxHeartbeats 8000000 in
theorem c43 {N b o cb co : Nat} {p : Nat -> NP} {G : Nat -> ND} {cl : Nat -> Nat} (ao ra ca : Option Addr) (gc R rc cc rl ro : Nat) (ns : Nat -> Nat) (w : World) (hK : Kids N G) (hcl : ∀ i,i < N -> cl i < 4611686018427387904) (hN : N <= 1048576) (hnk : ∀ i,i < N -> (G i).nn <= 1048576 /\ (G i).nk <= 1048576)
  (hR : R <= 1048576) (hns : ∀ i,i < R -> ns i < N) (hG : NodesAt w ao b o N p G) (hC : IntsAt w ca cb co N (fun i=>(cl i : Int))) (hI : IntsAt w ra rl ro R (fun i=>(ns i : Int))) :
  Calls Tryz.prog 55 #[.agg #[.slice ao N gc],.slice ra R rc,.slice ca N cc] w (NumberedPost w N R G cl ns):=by
 have HG : Hid (NodesAt w ao b o N p G):=hG
 have HC : Hid (IntsAt w ca cb co N (fun i=>(cl i : Int))):=hC
 have HI : Hid (IntsAt w ra rl ro R (fun i=>(ns i : Int))):=hI
 have HK : Hid (Kids N G):=hK
 have HCL : Hid (∀ i,i < N -> cl i < 4611686018427387904):=hcl
 have HNK : Hid (∀ i,i < N -> (G i).nn <= 1048576 /\ (G i).nk <= 1048576):=hnk
 have HNS : Hid (∀ i,i < R -> ns i < N):=hns
 have A1 : Hid (0 < N -> ao = some ⟨b,o,none⟩):=hG.at_
 have A2 : Hid (0 < N -> ca = some ⟨cb,co,none⟩):=hC.at_
 clear hG hC hI hK hcl hnk hns
 have R0 : ((w.alloc (.cells #[.slice ao N gc] 29)).alloc (.cells #[.slice none 0 0] 29)).cell? ⟨w.heap.size,0,none⟩ = some (.slice ao N gc):=((row1 w (.slice ao N gc) 29).alloc (.cells #[.slice none 0 0] 29)).cell (i:=0) (by omega)
 have R1 : (((w.alloc (.cells #[.slice ao N gc] 29)).alloc (.cells #[.slice none 0 0] 29)).alloc (.cells #[.slice none 0 0,.slice none 0 0,.pointer none,.slice none 0 0] 107)).cell? ⟨w.heap.size,0,none⟩ = some (.slice ao N gc):=(((row1 w (.slice ao N gc) 29).alloc (.cells #[.slice none 0 0] 29)).alloc _).cell (i:=0) (by omega)
 have RA : (((w.alloc (.cells #[.slice ao N gc] 29)).alloc (.cells #[.slice none 0 0] 29)).alloc (.cells #[.slice none 0 0,.slice none 0 0,.pointer none,.slice none 0 0] 107)).rowIs (w.heap.size + 1 + 1) 107 4 (v4 (.slice none 0 0) (.slice none 0 0) (.pointer none) (.slice none 0 0)):=by
  have:=World.rowIs_alloc ((w.alloc (.cells #[.slice ao N gc] 29)).alloc (.cells #[.slice none 0 0] 29)) #[.slice none 0 0,.slice none 0 0,.pointer none,.slice none 0 0] 107 (v4 (.slice none 0 0) (.slice none 0 0) (.pointer none) (.slice none 0 0)) (fun i hi=>by
   match i,hi with
   | 0,_=>rfl
   | 1,_=>rfl
   | 2,_=>rfl
   | 3,_=>rfl)
  simpa using this
 go_enter Tryz.func55,Tryz.ntmps55
 go_wp2_with fail
 go_region_held3 (fun w'=>w'.cell? ⟨w.heap.size,0,none⟩ = some (.slice ao N gc)) (first | go_keep | (rw [far_cell (by simp;try omega),far_cell (by simp;try omega),far_cell (by simp;try omega),far_cell (by simp;try omega)];assumption))
  (first
   | (go_at_call 78;refine (c68 _ (fun k=>k < w.heap.size + 3) (fun k hk=>by simp;omega)).mono ?_;rintro e w1 ⟨rfl,hk1,kp1⟩;have z1 : w1.cell? ⟨w.heap.size,0,none⟩ = some (.slice ao N gc):=(kp1.cell (a:=⟨w.heap.size,0,none⟩) (by show w.heap.size < w.heap.size + 3;omega)).trans R1;have rA:=RA.of_block (kp1.block (w.heap.size + 1 + 1) (by show w.heap.size + 1 + 1 < w.heap.size + 3;omega));have y0:=rA.cell (i:=0) (by omega);have y1:=rA.cell (i:=1) (by omega);have y2:=rA.cell (i:=2) (by omega);have y3:=rA.cell (i:=3) (by omega);have x0:=rA.frozen 0;have x1:=rA.frozen 1;have x2:=rA.frozen 2;have x3:=rA.frozen 3)
   | (go_at_call 78;refine (c68 _ (fun k=>k < w.heap.size + 2) (fun k hk=>by simp;omega)).mono ?_;rintro e w1 ⟨rfl,hk1,kp1⟩;have z1 : w1.cell? ⟨w.heap.size,0,none⟩ = some (.slice ao N gc):=(kp1.cell (a:=⟨w.heap.size,0,none⟩) (by show w.heap.size < w.heap.size + 2;omega)).trans R0))
 all_goals
  first
   | (have BG : Begun w (w1.alloc (.cells #[.slice ao N gc,.slice ca N cc,.pointer (some ⟨w.heap.size + 1 + 1 + 1,0,none⟩),.slice none 0 0] 107)) w1.heap.size (.slice ao N gc) (.slice ca N cc) cl:=begun_behind w w1 _ _ cl hk1 kp1
      clear hk1 kp1 z1
      obtain ⟨nb,hnb⟩ : ∃ nb,nb = w1.heap.size:=⟨_,rfl⟩
      obtain ⟨wl,hwl⟩ : ∃ wl,wl = w1.alloc (.cells #[.slice ao N gc,.slice ca N cc,.pointer (some ⟨w.heap.size + 1 + 1 + 1,0,none⟩),.slice none 0 0] 107):=⟨_,rfl⟩
      rw [<- hwl] at BG ⊢;rw [<- hnb] at BG ⊢
      clear hwl hnb)
   | (have BG : Begun w ((((w1.setCell ⟨w.heap.size + 1 + 1,0,none⟩ (.slice ao N gc)).setCell ⟨w.heap.size + 1 + 1,1,none⟩ (.slice ca N cc)).setCell ⟨w.heap.size + 1 + 1,2,none⟩ (.pointer (some ⟨w.heap.size + 1 + 1 + 1 + 1,0,none⟩))).setCell ⟨w.heap.size + 1 + 1,3,none⟩ (.slice none 0 0)) (w.heap.size + 1 + 1) (.slice ao N gc) (.slice ca N cc) cl:=begun_ahead w w1 _ _ cl rA hk1 kp1
      clear hk1 kp1 z1 rA y0 y1 y2 y3 x0 x1 x2 x3
      obtain ⟨nb,hnb⟩ : ∃ nb,nb = w.heap.size + 1 + 1:=⟨_,rfl⟩
      obtain ⟨wl,hwl⟩ : ∃ wl,wl = (((w1.setCell ⟨w.heap.size + 1 + 1,0,none⟩ (.slice ao N gc)).setCell ⟨w.heap.size + 1 + 1,1,none⟩ (.slice ca N cc)).setCell ⟨w.heap.size + 1 + 1,2,none⟩ (.pointer (some ⟨w.heap.size + 1 + 1 + 1 + 1,0,none⟩))).setCell ⟨w.heap.size + 1 + 1,3,none⟩ (.slice none 0 0):=⟨_,rfl⟩
      rw [<- hwl] at BG ⊢;rw [<- hnb] at BG ⊢
      clear hwl hnb)
 all_goals clear R0 R1 RA
 all_goals
  obtain ⟨⟨kb,mb,bs,NU⟩,KP,RG,RR⟩:=BG
  have hbw : Below w.heap.size w wl:=KP.below
  have HNU : Hid (Num wl nb kb mb bs (.slice none 0 0) (.map []) (.slice none 0 0) (.slice ao N gc) (.slice ca N cc) [] cl (fun k=>k < w.heap.size + 2)):=NU
  have HGI : Hid (0 < N -> Gin wl (fun k=>k < w.heap.size + 2) (some ⟨b,o,none⟩) b o N p G (some ⟨cb,co,none⟩) cb co cl):=fun q=>by
   have h:=gin_start (keep:=fun k=>k < w.heap.size + 2) HG.out HC.out hbw (fun k hk=>by show k < w.heap.size + 2;omega)
   rw [A1.out q,A2.out q] at h;exact h
  clear NU KP
  go_wp2_with fail
  refine (c69 (fun q=>by rw [A1.out q]) (fun q=>by rw [A2.out q]) HK.out HCL.out hN (fun i hi=>(HNK.out i hi).2) (N + 1) [] ra rl ro R rc ns _ _ _ _ hR HNS.out (by have:=missing_all N cl [];simp;omega) (by have:=missing_all N cl [];omega) HNU.out HGI.out (HI.out.below hbw) (fun q=>by have h : rl < w.heap.size:=blt (HI.out.cell 0 q);show rl < w.heap.size + 2;omega)).mono ?_
  rintro e w1 ⟨ov1,D1,sv1,lv,rfl,hlv,NU1,KP1⟩
  have AF:=allTill_full (cl:=cl) HK.out HNS.out (f:=N + 1) (by omega) R (Nat.le_refl _)
  have AK:=(allTill_ok (cl:=cl) (st:=[]) HK.out HNS.out (f:=N + 1) (by have:=missing_all N cl [];simp;omega) (by have:=missing_all N cl [];omega) R (Nat.le_refl _)).1
  rw [numsTill_all] at hlv
  obtain ⟨S,hS⟩ : ∃ S,S = allTill G cl (N + 1) ns [] R:=⟨_,rfl⟩
  rw [<- hS] at AF AK hlv NU1
  have HS : Hid (allTill G cl (N + 1) ns [] R = S):=hS.symm
  obtain ⟨F1,F2,F3⟩:=AF
  have HF1 : Hid (∀ s,s ∈ S -> s < N):=F1
  have HF3 : Hid (∀ s,s ∈ S -> Covered G cl S s):=F3
  have hSl : S.length <= 1048576:=by omega
  obtain ⟨oa1,cap1,rfl⟩:=own_form NU1.own
  have r3:=NU1.row.cell (i:=3) (by omega)
  have r3' : w1.cell? ⟨nb,3,none⟩ = some (.slice oa1 S.length cap1):=r3
  obtain ⟨i0,hi0,hz0,hz1,hz2⟩:=info_parts Tryz.info48
  have HNU1 : Hid (Num w1 nb kb mb bs ov1 D1 (.slice oa1 S.length cap1) (.slice ao N gc) (.slice ca N cc) S cl (Keep2 (fun k=>k < w.heap.size + 2) lv)):=NU1
  have HLV : Hid (w1.ownsRow wl.heap.size 3 1 lv R (icells ((List.range R).map fun i=>numOf cl S (ns i)))):=hlv
  have RG1:=RG.of_block (KP1.block w.heap.size (by show w.heap.size < w.heap.size + 2;omega))
  have hwl2:=RR.lt
  have RR1:=RR.of_block (KP1.block (w.heap.size + 1) (by show w.heap.size + 1 < w.heap.size + 2;omega))
  have B1 : Below w.heap.size w w1:=hbw.trans (KP1.less (keep':=fun k=>k < w.heap.size) (fun k q=>by show k < w.heap.size + 2;omega)).below
  clear hS AK F1 F2 F3 NU1 hlv KP1 RG RR HNU HGI r3
  go_wp2_with (first | (at_make;refine wpList_make_own _ rfl _ _ 27 rfl w1.heap.size 48 i0 _ 3 Tryz.underlying27 hi0 hz0 hz1 .i64 .i64 _ S.length rfl rfl (by rfl) (by rw [hz2];omega) (by unfold maxLen;omega) (Nat.le_refl _) ?_;intro w2 hown2 hgrow2;have r3'' : w2.cell? ⟨nb,3,none⟩ = some (.slice oa1 S.length cap1):=(World.cell?_of_block (w:=w1) (hgrow2.block nb (blt r3') (fun e=>by cases e))).trans r3'))
  obtain ⟨gS,HSI,HSB⟩:=own_ints HNU1.out.own
  have hcS : Hid (IntsAt w1 oa1 gS 0 S.length (fun i=>(S.getD i 0 : Int))):=HSI
  have B2 : Below w1.heap.size w1 w2:=⟨hgrow2.os,hgrow2.tape,hgrow2.output,hgrow2.size,fun k hk=>hgrow2.block k hk (fun e=>by cases e)⟩
  have ST : Lp w1 w2 (.slice (some ⟨w1.heap.size,0,none⟩) 0 S.length) 0 p (G2 G cl S):=⟨hown2,B2,fun i hi=>absurd hi (Nat.not_lt_zero _),fun i hi=>absurd hi (Nat.not_lt_zero _),fun i j hi=>absurd hi (Nat.not_lt_zero _)⟩
  have AS:=HSI.at_
  clear hgrow2 hown2 r3' r3'' HSI B2
  go_loopw [10,27] (fun v i wr=>∃ (k : Nat) (q : Nat -> NP),k <= S.length /\ i = .int .i64 k /\ Lp w1 wr v k q (G2 G cl S) /\ Hid (∀ i,i < k -> 0 < (G2 G cl S i).nn -> (G2 G cl S i).nn <= (q i).c1)) (fun _ i _=>S.length - (intOf i).toNat)
  case atStart=>exact ⟨0,p,Nat.zero_le _,rfl,ST,fun i hi=>absurd hi (Nat.not_lt_zero _)⟩
  case round=>
   obtain ⟨k,q,hk,rfl,hL,HCP⟩:=hrel
   clear ST
   obtain ⟨oa,cap,rfl⟩:=own_form hL.own
   by_cases hlt : k < S.length
   case neg=>
    have hkk : k = S.length:=by omega
    subst hkk
    obtain ⟨la,lc,rfl⟩:=own_form HLV.out
    obtain ⟨lb,LI,LB⟩:=own_ints HLV.out
    obtain ⟨bN,NN,NB1,NB2⟩:=lp_nodes hL (by omega)
    have RRk:=RR1.of_block (hL.below.block (w.heap.size + 1) RR1.lt)
    have k0:=RRk.cell (i:=0) (by omega)
    have k1:=RRk.frozen 0
    have rlt:=RR1.lt
    have FIN : Hid (NodesAt (wr.setCell ⟨w.heap.size + 1,0,none⟩ (.slice oa S.length cap)) oa bN 0 S.length q (G2 G cl S) /\ IntsAt (wr.setCell ⟨w.heap.size + 1,0,none⟩ (.slice oa S.length cap)) la lb 0 R (fun i=>(numOf cl S (ns i) : Int)) /\ Below w.heap.size w (wr.setCell ⟨w.heap.size + 1,0,none⟩ (.slice oa S.length cap))):=by
     have ne : ∀ j,w1.heap.size <= j -> (wr.setCell ⟨w.heap.size + 1,0,none⟩ (.slice oa S.length cap)).heap[j]? = wr.heap[j]?:=fun j hj=>Below.heap_setCell _ _ _ _ (by show j ≠ w.heap.size + 1;omega)
     refine ⟨⟨NN.at_,fun i hi=>(World.cell?_of_block (ne _ NB1)).trans (NN.c0 i hi),fun i hi=>(World.cell?_of_block (ne _ NB1)).trans (NN.c1 i hi),fun i hi=>(World.cell?_of_block (ne _ NB1)).trans (NN.c2 i hi),fun i hi=>?_,NN.len⟩,?_,?_⟩
     ·obtain ⟨n0,n1,n2⟩:=hL.node i hi
      exact n0.later (fun z=>ne _ (n1 z).1) (fun z=>ne _ (n2 z).1)
     ·refine ((LI.below hL.below).later (fun z=>Below.heap_setCell _ _ _ _ (by show lb ≠ w.heap.size + 1;have:=LB z;omega))).congr (fun i hi=>?_)
      simp [List.getD,hi]
     ·exact (B1.trans (hL.below.mono B1.size)).setCell (by show w.heap.size <= w.heap.size + 1;omega) _
    have FRG : Hid (FreshG w.heap.size S.length R bN lb q (G2 G cl S)):=by
     have hw1:=B1.size
     refine ⟨by omega,fun i hi=>?_,fun z=>by have:=LB z;omega⟩
     obtain ⟨_,n1,n2⟩:=hL.node i hi
     exact ⟨fun z=>by have:=(n1 z).1;omega,fun z=>by have:=(n2 z).1;omega⟩
    have OWG : Hid (OwnG (wr.setCell ⟨w.heap.size + 1,0,none⟩ (.slice oa S.length cap)) S.length bN q (G2 G cl S) /\ OwnL (wr.setCell ⟨w.heap.size + 1,0,none⟩ (.slice oa S.length cap)) S.length R bN lb q (G2 G cl S)):=by
     have ne : ∀ j,w1.heap.size <= j -> (wr.setCell ⟨w.heap.size + 1,0,none⟩ (.slice oa S.length cap)).heap[j]? = wr.heap[j]?:=fun j hj=>Below.heap_setCell _ _ _ _ (by show j ≠ w.heap.size + 1;omega)
     refine ⟨⟨fun z=>(own_wr hL.own (NN.at_ z)).of (ne _ NB1),fun i hi=>?_,hL.sep⟩,⟨fun z=>(((own_wr HLV.out (LI.at_ z)).below hL.below)).set (by show lb ≠ w.heap.size + 1;have:=LB z;omega) _,fun z _ e=>by have:=LB z;omega,fun z i hi=>?_⟩⟩
     ·obtain ⟨_,n1,n2⟩:=hL.node i hi
      obtain ⟨l1,l2⟩:=hL.live i hi
      refine ⟨fun z=>⟨(l1 z).of (ne _ (n1 z).1),fun e=>(n1 z).2.2 ?_⟩,fun z=>⟨(l2 z).of (ne _ (n2 z).1),fun e=>(n2 z).2.2 ?_⟩⟩
      ·rw [e,NN.at_ (by omega)];rfl
      ·rw [e,NN.at_ (by omega)];rfl
     ·obtain ⟨_,n1,n2⟩:=hL.node i hi
      exact ⟨fun y e=>by have:=n1 y;have:=LB z;omega,fun y e=>by have:=n2 y;have:=LB z;omega⟩
    clear hL NN LI LB NB1 NB2 RRk
    go_wp2
    exact bodyPost_ret (v:=.tuple #[.agg #[.slice oa S.length cap],.slice la R lc]) (by simp [results,Tryz.results55,go_sem,k0]) rfl ⟨oa,bN,cap,q,la,lb,lc,by rw [HS.out],by rw [HS.out];exact FIN.out.1,by rw [HS.out];exact FIN.out.2.1,by rw [HS.out];exact HCP.out,by rw [HS.out];exact FRG.out,by rw [HS.out];exact OWG.out.1,by rw [HS.out];exact OWG.out.2,FIN.out.2.2⟩
   have eS:=AS (by omega)
   subst eS
   have gk : wr.cell? ⟨gS,0 + k,none⟩ = some (.int .i64 (S.getD k 0 : Int)):=(hcS.out.below hL.below).cell k hlt
   obtain ⟨s,hs⟩ : ∃ s,s = S.getD k 0:=⟨_,rfl⟩
   rw [<- hs,Nat.zero_add] at gk
   have hmem : s ∈ S:=by rw [hs];simp [List.getD,List.getElem?_eq_getElem hlt]
   have hsN : s < N:=HF1.out s hmem
   have HSK : Hid (s = S.getD k 0):=hs
   have HMEM : Hid (s ∈ S):=hmem
   clear hs hmem
   have eA:=A1.out (by omega)
   subst eA
   have BW : Below w.heap.size w wr:=B1.trans (hL.below.mono B1.size)
   have NG:=HG.out.below BW
   have g0:=NG.c0 s hsN
   have g1:=NG.c1 s hsN
   have g2:=NG.c2 s hsN
   have gg:=(RG1.of_block (hL.below.block w.heap.size RG1.lt)).cell (i:=0) (by omega)
   have gg' : wr.cell? ⟨w.heap.size,0,none⟩ = some (.slice (some ⟨b,o,none⟩) N gc):=gg
   have HL : Hid (Lp w1 wr (.slice oa k cap) k q (G2 G cl S)):=hL
   have hl1 : (s : Int) < (N : Int):=by omega
   clear NG hL gg
   have hnn:=(HNK.out s hsN).1
   have hnkk:=(HNK.out s hsN).2
   obtain ⟨od,hod⟩ : ∃ od : Obj,od = .cells #[.int .i64 (G s).kind,.slice (p s).a1 (G s).nn (p s).c1,.slice (p s).a2 (G s).nk (p s).c2] 48:=⟨_,rfl⟩
   have BO : Below wr.heap.size wr (wr.alloc od):=bel1 wr od
   have HNM : Hid (StrsAt (wr.alloc od) (p s).a1 (p s).b1 (p s).o1 (G s).nn (G s).nm):=((HG.out.below BW).node s hsN).names.below BO
   have HKD : Hid (IntsAt wr (p s).a2 (p s).b2 (p s).o2 (G s).nk (fun j=>(kid (G s) j : Int))):=((HG.out.below BW).node s hsN).kids.congr (fun j hj=>by have:=HK.out s hsN j hj;unfold kid;omega)
   have HNW : Hid (∀ w',Below wr.heap.size wr w' -> Num w' nb kb mb bs ov1 D1 (.slice (some ⟨gS,0,none⟩) S.length cap1) (.slice (some ⟨b,o,none⟩) N gc) (.slice ca N cc) S cl (Keep2 (fun k=>k < w.heap.size + 2) lv)):=fun w' hb=>by
    have h1:=HL.out.below
    exact HNU1.out.later (Nat.le_trans h1.size hb.size) (fun j hj=>(hb.block j (Nat.lt_of_lt_of_le (HNU1.out.part_lt hj) h1.size)).trans (h1.block j (HNU1.out.part_lt hj)))
   have HGW : Hid (∀ w',Below wr.heap.size wr w' -> 0 < N -> Gin w' (Keep2 (fun k=>k < w.heap.size + 2) lv) (some ⟨b,o,none⟩) b o N p G (some ⟨cb,co,none⟩) cb co cl):=fun w' hb q=>by
    have h:=gin_start (keep:=Keep2 (fun k=>k < w.heap.size + 2) lv) HG.out HC.out (BW.trans (hb.mono BW.size)) (fun k hk=>Or.inl (by show k < w.heap.size + 2;omega))
    rw [A2.out q] at h;exact h
   have RO:=row3 wr (.int .i64 (G s).kind) (.slice (p s).a1 (G s).nn (p s).c1) (.slice (p s).a2 (G s).nk (p s).c2) 48
   rw [<- hod] at RO
   have t0 : (wr.alloc od).cell? ⟨wr.heap.size,0,none⟩ = some (.int .i64 (G s).kind):=RO.cell (i:=0) (by omega)
   have t1 : (wr.alloc od).cell? ⟨wr.heap.size,1,none⟩ = some (.slice (p s).a1 (G s).nn (p s).c1):=RO.cell (i:=1) (by omega)
   have t2 : (wr.alloc od).cell? ⟨wr.heap.size,2,none⟩ = some (.slice (p s).a2 (G s).nk (p s).c2):=RO.cell (i:=2) (by omega)
   have OWN:=HL.out.own
   have hbs : w1.heap.size <= wr.heap.size:=HL.out.below.size
   go_wp2_with fail
   rw [<- hod]
   clear hod RO g0 g1 g2 gg' gk
   go_region_held3 (fun w'=>w'.cell? ⟨wr.heap.size,0,none⟩ = some (.int .i64 (G s).kind) /\ w'.cell? ⟨wr.heap.size,1,none⟩ = some (.slice (p s).a1 (G s).nn (p s).c1) /\ w'.cell? ⟨wr.heap.size,2,none⟩ = some (.slice (p s).a2 (G s).nk (p s).c2)) (go_keep)
    (first
     | (go_at_call 80;refine (c70 (p s).a1 (p s).b1 (p s).o1 (G s).nn (p s).c1 (G s).nm _ (by exact HNM.out.later (fun _=>rfl)) hnn).mono ?_;unfold ClonePost;rintro e w3 ⟨ao3,b3,c3,rfl,hst3,hblk3,hcp3,hlv3,hb3⟩;have z0:=(hb3.cell (p:=⟨wr.heap.size,0,none⟩) (by simp)).trans t0;have z1:=(hb3.cell (p:=⟨wr.heap.size,1,none⟩) (by simp)).trans t1;have z2:=(hb3.cell (p:=⟨wr.heap.size,2,none⟩) (by simp)).trans t2;have B3 : Below wr.heap.size wr w3:=BO.drew.trans (hb3.mono (by simp));have hz3 : wr.heap.size < w3.heap.size:=(by have:=hb3.size;simp at this;omega))
     | (go_at_call 79;refine (c69o (fun _=>rfl) (fun q=>by rw [A2.out q]) HCL.out hN S (p s).a2 (p s).b2 (p s).o2 (G s).nk (p s).c2 (fun j=>kid (G s) j) ov1 D1 _ _ hnkk (fun j hj=>HK.out.lt hsN hj) (HNW.out _ (by first | exact B3.drew | exact B3)) (HGW.out _ (by first | exact B3.drew | exact B3)) (HF3.out s HMEM.out) (HKD.out.below (by first | exact B3.drew | exact B3))).mono ?_;rintro e w4 ⟨lv4,rfl,hown4,hb4⟩;obtain ⟨oa4,cap4,rfl⟩:=own_form hown4;have y0:=(hb4.cell (p:=⟨wr.heap.size,0,none⟩) hz3).trans z0;have y1:=(hb4.cell (p:=⟨wr.heap.size,1,none⟩) hz3).trans z1;have y2:=(hb4.cell (p:=⟨wr.heap.size,2,none⟩) hz3).trans z2;have B4 : Below wr.heap.size wr w4:=(by first | exact B3.drew.trans (hb4.mono B3.size) | exact B3.trans (hb4.mono B3.size));have hbs4 : w1.heap.size <= w4.heap.size:=Nat.le_trans hbs B4.size;have OWN4 : w4.ownsRow w1.heap.size 48 3 (.slice oa k cap) k (ncells q (G2 G cl S) k):=own_block OWN (fun j e=>B4.block j (OWN.lt j e.symm).2);have hz4 : wr.heap.size < w4.heap.size:=Nat.lt_of_lt_of_le hz3 hb4.size)
     | (refine step_append_lies _ (by rfl) _ _ _ (by rfl) w1.heap.size 48 i0 _ 3 56 Tryz.underlying27 hi0 hz0 hz1 hz2 rfl (by omega) (.slice oa k cap) k (ncells q (G2 G cl S) k) (by rfl) (by exact OWN4.alloc _) ⟨w4.heap.size,0,none⟩ 1 1 [.int .i64 (G s).kind,.slice ao3 (G s).nn c3,.slice oa4 (G s).nk cap4] (by rfl) (by rfl) (World.news_of_block (cs:=#[.int .i64 (G s).kind,.slice ao3 (G s).nn c3,.slice oa4 (G s).nk cap4]) (t:=48) (fr:=(0,0)) (heap_alloc_new w4 _)) (by simp [Value.oneCell']) (by omega) (by unfold maxLen;omega) (by omega) (by simp;omega) (w4.heap.size + 1) (by simp) ?_;intro gg cap5 w5 hown5 hg5 hat5 hlt5;have bx : w5.heap[wr.heap.size]? = w4.heap[wr.heap.size]?:=(hg5.block _ (by simp;omega) (fun e=>by have:=(OWN.lt _ e.symm).2;omega)).trans (Below.heap_alloc _ _ _ hz4);have x0:=(World.cell?_of_block (a:=⟨wr.heap.size,0,none⟩) bx).trans y0;have x1:=(World.cell?_of_block (a:=⟨wr.heap.size,1,none⟩) bx).trans y1;have x2:=(World.cell?_of_block (a:=⟨wr.heap.size,2,none⟩) bx).trans y2))
   all_goals
    obtain ⟨g4,I4,IB4⟩:=own_ints hown4
    have FIN : Hid (Lp w1 w5 (.slice (some ⟨gg,0,none⟩) (k + 1) cap5) (k + 1) (fun i=>if i = k then (⟨ao3,b3,0,c3,oa4,g4,0,cap4⟩ : NP) else q i) (G2 G cl S)):=by
     have eG : G2 G cl S k = ⟨(G s).kind,(G s).nn,(G s).nm,(G s).nk,fun j=>(numOf cl S (kid (G s) j) : Int)⟩:=by unfold G2;rw [<- HSK.out]
     refine lp_step (p:=(⟨ao3,b3,0,c3,oa4,g4,0,cap4⟩ : NP)) (w4:=w4) HL.out B4 ?_ ?_ ?_ ?_ ?_ (by rw [eG];exact hown5) ⟨hg5.os,hg5.tape,hg5.output,hg5.size,hg5.block⟩ hat5
     ·rw [eG]
      refine ⟨hst3.later (fun z=>hb4.block b3 (hblk3 z).2),I4.congr (fun i hi=>?_)⟩
      have hi' : i < (G s).nk:=hi
      simp [List.getD,hi']
     ·rw [eG]
      intro z
      have h1:=hblk3 z
      have h2:=hb4.size
      simp at h1 h2
      exact ⟨by show wr.heap.size <= b3;omega,by show b3 < w4.heap.size;omega⟩
     ·rw [eG]
      intro z
      have h1:=IB4 z
      have h2 : w3.heap.size <= g4:=h1.1
      exact ⟨by show wr.heap.size <= g4;omega,h1.2⟩
     ·rw [eG]
      exact ⟨fun z=>(hlv3 z).of (hb4.block b3 (hblk3 z).2),fun z=>own_wr hown4 (I4.at_ z)⟩
     ·rw [eG]
      intro z1 z2
      have h1:=(hblk3 z1).2
      have h2 : w3.heap.size <= g4:=(IB4 z2).1
      show b3 ≠ g4
      omega
    have FCP : Hid (∀ i,i < k + 1 -> 0 < (G2 G cl S i).nn -> (G2 G cl S i).nn <= ((fun i=>if i = k then (⟨ao3,b3,0,c3,oa4,g4,0,cap4⟩ : NP) else q i) i).c1):=by
     have eG : G2 G cl S k = ⟨(G s).kind,(G s).nn,(G s).nm,(G s).nk,fun j=>(numOf cl S (kid (G s) j) : Int)⟩:=by unfold G2;rw [<- HSK.out]
     intro i hi
     by_cases e : i = k
     ·subst e
      simp only [if_true]
      rw [eG]
      exact hcp3
     ·simp only [if_neg e]
      exact HCP.out i (by omega)
    clear I4 IB4 hown4 hown5 hg5 hat5 hst3 hblk3 hb3 hb4 OWN OWN4 hcp3
    go_wp2
    go_roundw
    case rel=>exact ⟨k + 1,_,by omega,by go_num,FIN.out,FCP⟩
    case measure=>simp [intOf];omega
end Go.Proofs.YtpbpbppimkeodaaGreatDoor
