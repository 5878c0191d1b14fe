/-
  Split
-/
import Derived.Test.YtpbpbppimkeodaaGreatDoorSh
set_option maxRecDepth 100000
namespace Go.Proofs.YtpbpbppimkeodaaGreatDoor
open Go.RowKit Go.Maps
theorem settle_dv (lv : Nat -> Nat) (st : SpS) (q : Nat) : (settle lv st q).dv.length <= st.dv.length + 1:=by
 unfold settle
 split
 ·omega
 ·split
  ·show (st.dv ++ [_]).length <= _;simp
  ·exact Nat.le_succ _
theorem goes_dv (st : SpS) (x : Nat) : (goes st x).dv = st.dv:=by
 unfold goes
 split <;> rfl
theorem stAt_dv (s : PS) (es : Nat -> Nat × Nat) (m : Nat) : ∀ j,(stAt s es m j).dv.length <= j
 | 0=>Nat.le_refl _
 | j + 1=>by
   have:=stAt_dv s es m j
   rw [stAt_succ,goes_dv]
   have:=settle_dv (cnt s es m) (stAt s es m j) ((stAt s es m j).s.of (es j).2)
   omega
set_option maxHeartbeats 4000000 in
theorem c98 (base pb bo ba N : Nat) (rv wv qv : Value) (rvs : Nat -> Value) (s : PS) (m ec eb eo : Nat) (ea : Option Addr) (es : Nat -> Nat × Nat) (w : World) (h : Pt w base pb bo ba N rv wv qv rvs s) (hW : Wf N s) (hN : N <= 1048576) (hm : m <= 1048576) (hE : EdgesAt w ea eb eo m es) (hf : ∀ i,i < m -> (es i).2 < N) (hr : s.nr + m <= 1048576) (hq : s.waiting.length + m <= 1048576) (hd : (nodesOf es m).Nodup) (hoE : 0 < m -> Off (pblk pb bo ba rv wv qv rvs s.nr) eb) :
  Calls Tryz.prog 105 #[.pointer (some ⟨pb,0,none⟩),.slice ea m ec] w fun e w'=>e = .returned (.tuple #[]) /\ ∃ rv' wv' qv' rvs',Pt w' base pb bo ba N rv' wv' qv' rvs' (splitS s es m) /\ Fr base w w' (pblk pb bo ba rv wv qv rvs s.nr) (pblk pb bo ba rv' wv' qv' rvs' (splitS s es m).nr):=by
 have HH : Hid (Pt w base pb bo ba N rv wv qv rvs s):=h
 have HE : Hid (EdgesAt w ea eb eo m es):=hE
 have HW : Hid (Wf N s):=hW
 have HF : Hid (∀ i,i < m -> (es i).2 < N):=hf
 have A1:=hE.at_
 have hmm:=@run_makeMap Tryz.prog
 clear h hE hW hf
 go_enter Tryz.func105,Tryz.ntmps105
 go_wp2
 clear hmm
 have ST:=mp_made w
 go_loopw [19] (fun i wr=>∃ (k n : Nat) (D : DataW Unit),k <= m /\ n <= k /\ i = .int .i64 k /\ Mp wr w.heap.size n D (cg s es k) /\ Below w.heap.size w wr) (fun i _=>m - (intOf i).toNat)
 case atStart=>exact ⟨0,0,_,Nat.zero_le _,Nat.le_refl _,rfl,ST,bel1 _ _⟩
 case round=>
  obtain ⟨k,n,D,hk,hnk,rfl,hM,hb⟩:=hrel
  clear ST
  by_cases hlt : k < m
  ·have e1:=A1 (by omega)
   subst e1
   have eblt : eb < w.heap.size:=blt (HE.out.c0 k hlt)
   have EW:=HE.out.later (w':=wr) (fun _=>hb.block eb eblt)
   have g0:=EW.c0 k hlt
   have g1:=EW.c1 k hlt
   have PW:=HH.out.below hb
   have hfN:=HF.out k hlt
   have PA:=PW.below (bel1 wr (.cells #[.int .i64 ((es k).1 : Int),.int .i64 ((es k).2 : Int)] 144))
   have r0 : (wr.alloc (.cells #[.int .i64 ((es k).1 : Int),.int .i64 ((es k).2 : Int)] 144)).cell? ⟨pb,0,none⟩ = some (.slice (some ⟨bo,0,none⟩) N N):=PA.row.cell (i:=0) (by omega)
   have o0 : (wr.alloc (.cells #[.int .i64 ((es k).1 : Int),.int .i64 ((es k).2 : Int)] 144)).cell? ⟨bo,(es k).2,none⟩ = some (.int .i64 (s.of (es k).2 : Int)):=PA.of_.cell hfN
   have hMa : Mp (wr.alloc (.cells #[.int .i64 ((es k).1 : Int),.int .i64 ((es k).2 : Int)] 144)) w.heap.size n D (cg s es k):=hM.later (Below.heap_alloc _ _ _ hM.lt)
   have hol : s.of (es k).2 < 4611686018427387904:=by have:=HW.out.lt _ hfN;omega
   have hrd : (Instr.lookup 132 (.map (some w.heap.size)) (.int .i64 (s.of (es k).2 : Int)) false).run Tryz.prog (wr.alloc (.cells #[.int .i64 ((es k).1 : Int),.int .i64 ((es k).2 : Int)] 144)).drew = .ok (.int .i64 (cnt s es k (s.of (es k).2) : Int)) (wr.alloc (.cells #[.int .i64 ((es k).1 : Int),.int .i64 ((es k).2 : Int)] 144)).drew:=by
    have:=hMa.read hol 1
    rw [cg_get] at this;exact this
   have hcl:=cnt_le s es k (s.of (es k).2)
   have hMd : Mp (wr.alloc (.cells #[.int .i64 ((es k).1 : Int),.int .i64 ((es k).2 : Int)] 144)).drew w.heap.size n D (cg s es k):=hMa.later rfl
   obtain ⟨w2,hrun,hM2,hg2⟩:=hMd.put hol (v:=cnt s es k (s.of (es k).2) + 1) (by omega) (by omega)
   rw [<- cg_succ] at hM2
   rw [show ((cnt s es k (s.of (es k).2) + 1 : Nat) : Int) = (cnt s es k (s.of (es k).2) : Int) + 1 from by omega] at hrun
   clear EW PW PA hM hMa hMd
   go_wp2_with fail
   go_region
   have hb1 : Below w.heap.size w (wr.alloc (.cells #[.int .i64 ((es k).1 : Int),.int .i64 ((es k).2 : Int)] 144)):=hb.alloc hb.size _
   have hb2 : Below w.heap.size w w2:=⟨hg2.os.trans hb1.os,hg2.tape.trans hb1.tape,hg2.output.trans hb1.output,Nat.le_trans hb1.size hg2.size,fun x hx=>(hg2.block x (Nat.lt_of_lt_of_le hx hb1.size) (fun e=>by cases e;omega)).trans (hb1.block x hx)⟩
   clear hrun hrd r0 o0 g0 g1 hg2
   go_wp2
   exact ⟨⟨k + 1,n + 1,_,by omega,by omega,by simp,hM2,hb2⟩,by simp [intOf];omega⟩
  ·have e : k = m:=by omega
   subst e
   have hmm:=@run_makeMap Tryz.prog
   go_wp2
   clear hmm hlt hk
   have hbw:=HH.out.big.2.2.2
   have nlt:=hM.lt
   have ne0 : ∀ x,w.heap.size <= x -> Off (pblk pb bo ba rv wv qv rvs s.nr) x:=fun x hx i e=>by have:=(HH.out.blk_lt i x e).2;omega
   have B1 : Below w.heap.size w (wr.alloc (.map #[] 0)):=hb.alloc hb.size _
   have H0 : Held w (wr.alloc (.map #[] 0)) base pb bo ba N (pblk pb bo ba rv wv qv rvs s.nr) w.heap.size n D (cg s es k) wr.heap.size 0 (.map []) (.slice none 0 0) rv wv qv rvs (stAt s es k 0):=
    ⟨HH.out.below B1,hM.later (Below.heap_alloc _ _ _ hM.lt),mp_made wr,World.ownsRow_nil _ _ _ _,ne0 _ (Nat.le_refl _),ne0 _ hb.size,fun x e=>by simp [Value.ownBlock] at e,⟨Nat.le_refl _,nlt⟩,hbw,Fr.of_below _ hbw B1⟩
   obtain ⟨w1,hw1⟩ : ∃ w1,w1 = wr:=⟨_,rfl⟩
   subst hw1
   clear hM hb B1 nlt
   go_loopw [8,38] (fun dvv i w3=>∃ (j n2 : Nat) (D2 : DataW Unit) (rv' wv' : Value) (rvs' : Nat -> Value),j <= k /\ n2 <= j /\ i = .int .i64 j /\ Held w w3 base pb bo ba N (pblk pb bo ba rv wv qv rvs s.nr) w.heap.size n D (cg s es k) w1.heap.size n2 D2 dvv rv' wv' qv rvs' (stAt s es k j)) (fun _ i _=>k - (intOf i).toNat)
   case atStart=>exact ⟨0,0,_,_,_,_,Nat.zero_le _,Nat.le_refl _,rfl,H0⟩
   case round=>
    obtain ⟨j,n2,D2,rv',wv',rvs',hj,hnj,rfl,hH⟩:=hrel
    clear H0
    by_cases hlt : j < k
    ·have e1:=A1 (by omega)
     subst e1
     have eblt : eb < w.heap.size:=blt (HE.out.c0 j hlt)
     have EW:=HE.out.later (w':=wr) (fun h0=>hH.fr.frame eb eblt (hoE h0))
     have g0:=EW.c0 j hlt
     have g1:=EW.c1 j hlt
     have hfN:=HF.out j hlt
     have HA:=hH.below (bel1 wr (.cells #[.int .i64 ((es j).1 : Int),.int .i64 ((es j).2 : Int)] 144))
     have hof:=stAt_of HW.out HF.out hd hlt
     have SIj:=stAt_si HW.out HF.out hd (Nat.le_of_lt hlt)
     have hol : s.of (es j).2 < s.nr:=HW.out.lt _ hfN
     have r0 : (wr.alloc (.cells #[.int .i64 ((es j).1 : Int),.int .i64 ((es j).2 : Int)] 144)).cell? ⟨pb,0,none⟩ = some (.slice (some ⟨bo,0,none⟩) N N):=HA.pt.row.cell (i:=0) (by omega)
     have o0 : (wr.alloc (.cells #[.int .i64 ((es j).1 : Int),.int .i64 ((es j).2 : Int)] 144)).cell? ⟨bo,(es j).2,none⟩ = some (.int .i64 (s.of (es j).2 : Int)):=by rw [<- hof];exact HA.pt.of_.cell hfN
     have hSUC:=stAt_succ s es k j
     rw [hof] at hSUC
     have hask : (Instr.lookup 132 (.map (some w1.heap.size)) (.int .i64 (s.of (es j).2 : Int)) true).run Tryz.prog (wr.alloc (.cells #[.int .i64 ((es j).1 : Int),.int .i64 ((es j).2 : Int)] 144)).drew = .ok (.tuple #[.int .i64 ((((stAt s es k j).np (s.of (es j).2)).getD 0 : Nat) : Int),.bool ((stAt s es k j).np (s.of (es j).2)).isSome]) (wr.alloc (.cells #[.int .i64 ((es j).1 : Int),.int .i64 ((es j).2 : Int)] 144)).drew:=HA.np_.ask (by omega) 1
     have HS : Hid (SI N s (cnt s es k) (nodesOf es j) (stAt s es k j)):=SIj
     have HSUC : Hid (stAt s es k (j + 1) = goes (settle (cnt s es k) (stAt s es k j) (s.of (es j).2)) (es j).2):=hSUC
     have HOF : Hid ((stAt s es k j).s.of (es j).2 = s.of (es j).2):=hof
     have HHA : Hid (Held w (wr.alloc (.cells #[.int .i64 ((es j).1 : Int),.int .i64 ((es j).2 : Int)] 144)) base pb bo ba N (pblk pb bo ba rv wv qv rvs s.nr) w.heap.size n D (cg s es k) w1.heap.size n2 D2 u8 rv' wv' qv rvs' (stAt s es k j)):=HA
     clear HA
     have HHO : Hid (Held w wr base pb bo ba N (pblk pb bo ba rv wv qv rvs s.nr) w.heap.size n D (cg s es k) w1.heap.size n2 D2 u8 rv' wv' qv rvs' (stAt s es k j)):=hH
     clear EW hH SIj hSUC hof
     cases hnp : (stAt s es k j).np (s.of (es j).2) with
     | some t=>
       have HNP : Hid ((stAt s es k j).np (s.of (es j).2) = some t):=hnp
       rw [hnp] at hask
       simp only [Option.getD_some,Option.isSome_some] at hask
       clear hnp
       by_cases ht : t = s.of (es j).2
       ·subst ht
        go_wp2_with fail
        go_region
        clear r0 o0 g0 g1
        go_wp2
        exact ⟨⟨j + 1,n2,D2,rv',wv',rvs',by omega,by omega,by simp,by rw [HSUC.out,way_stay HOF.out HNP.out];exact (HHA.out).below (Below.refl _ _).drew⟩,by simp [intOf];omega⟩
       ·have htt : (t : Int) ≠ (s.of (es j).2 : Int):=fun c=>ht (by omega)
        have HT : Hid (t ≠ s.of (es j).2):=ht
        have HTn:=HS.out.np _ _ HNP.out
        have htn : t < (stAt s es k j).s.nr:=by rcases HTn.2.1 with c | c <;> omega
        have hnr:=stAt_nr s es k j
        obtain ⟨L,hL1,hL2,hL3,hL4⟩:=last_node HS.out.wf hfN
        clear HTn ht
        have HG:=HHA.out.below (Below.refl _ _).drew
        rw [HOF.out] at hL1 hL3 hL4
        have hrl:=row_len HS.out.wf (q:=s.of (es j).2) (by have:=HS.out.nr;omega)
        have hrt:=row_len HS.out.wf htn
        have c1 : (wr.alloc (.cells #[.int .i64 ((es j).1 : Int),.int .i64 ((es j).2 : Int)] 144)).drew.cell? ⟨wr.heap.size,1,none⟩ = some (.int .i64 ((es j).2 : Int)):=(row2 wr (.int .i64 ((es j).1 : Int)) (.int .i64 ((es j).2 : Int)) 144).cell (i:=1) (by omega)
        have oE : Off (pblk pb bo ba rv' wv' qv rvs' (stAt s es k j).s.nr) wr.heap.size:=fun i e=>by have:=(HHO.out.pt.blk_lt i _ e).2;omega
        have C1:=c113 base pb bo ba N rv' wv' qv rvs' (stAt s es k j).s (es j).2 (s.of (es j).2) ((stAt s es k j).s.loc (es j).2) (((stAt s es k j).s.rows (s.of (es j).2)).getLastD 0) L (wr.alloc (.cells #[.int .i64 ((es j).1 : Int),.int .i64 ((es j).2 : Int)] 144)).drew HG.pt hfN HOF.out (by have:=HS.out.nr;omega) (by omega) hN rfl (by omega) hL2 (by rw [List.getD_eq_getElem?_getD,hL3];rfl) hL4 (by omega)
        have HC1:=C1
        go_wp2_with fail
        go_region
        clear r0 o0 g0 g1
        go_wp2_with (first | (go_at_call 122;refine C1.mono ?_;rintro e w4 ⟨rfl,v1,P1,F1⟩;have c2 : w4.cell? ⟨wr.heap.size,1,none⟩ = some (.int .i64 ((es j).2 : Int)):=(World.cell?_of_block (F1.frame wr.heap.size (by simp) oE)).trans c1))
        clear C1 HC1
        have G1:=HG.call P1 F1
        have C2:=c97 base pb bo ba N rv' wv' qv _ _ (es j).2 t w4 P1 hfN htn hN (by show (stAt s es k j).s.nr <= _;omega) (by show (upd (stAt s es k j).s.rows (s.of (es j).2) _ t).length <= _;rw [upd_other _ _ HT.out];omega)
        go_wp2_with (first | (go_at_call 104;refine C2.mono ?_;rintro e w5 ⟨rfl,v2,P2,F2⟩))
        have G2:=G1.call P2 F2
        clear C2
        go_wp2
        exact ⟨⟨j + 1,n2,D2,rv',wv',_,by omega,by omega,by simp,by rw [HSUC.out,way_go HOF.out HNP.out HT.out];unfold takeS;rw [HOF.out];exact G2⟩,by simp [intOf];omega⟩
     | none=>
       have HNP : Hid ((stAt s es k j).np (s.of (es j).2) = none):=hnp
       rw [hnp] at hask
       simp only [Option.getD_none,Option.isSome_none] at hask
       clear hnp
       have hnr:=HS.out.nr
       have hnr2:=stAt_nr s es k j
       have HG:=(HHA.out.below (Below.refl _ _).drew).below (Below.refl _ _).drew
       obtain ⟨rb,capR,hrv,hrc,hrf,hrl⟩:=own_some HG.pt.rows (by omega)
       obtain ⟨oa,capO,hov⟩:=own_form (HG.pt.inner (s.of (es j).2) (by omega))
       have r1 : (wr.alloc (.cells #[.int .i64 ((es j).1 : Int),.int .i64 ((es j).2 : Int)] 144)).drew.drew.cell? ⟨pb,1,none⟩ = some (.slice (some ⟨rb,0,none⟩) (stAt s es k j).s.nr capR):=by rw [<- hrv];exact HG.pt.row.cell (i:=1) (by omega)
       have r2 : (wr.alloc (.cells #[.int .i64 ((es j).1 : Int),.int .i64 ((es j).2 : Int)] 144)).drew.drew.cell? ⟨rb,s.of (es j).2,none⟩ = some (.slice oa ((stAt s es k j).s.rows (s.of (es j).2)).length capO):=by
        rw [hrc _ (by omega),List.getElem?_map,List.getElem?_range (by omega)];exact congrArg some hov
       have hrd : (Instr.lookup 132 (.map (some w.heap.size)) (.int .i64 (s.of (es j).2 : Int)) false).run Tryz.prog (wr.alloc (.cells #[.int .i64 ((es j).1 : Int),.int .i64 ((es j).2 : Int)] 144)).drew.drew = .ok (.int .i64 (cnt s es k (s.of (es j).2) : Int)) (wr.alloc (.cells #[.int .i64 ((es j).1 : Int),.int .i64 ((es j).2 : Int)] 144)).drew.drew:=by
        have:=HHA.out.lv_.read (a:=s.of (es j).2) (by omega) 2
        rw [cg_get] at this;exact this
       have hi1 : ((s.of (es j).2 : Nat) : Int) < ((stAt s es k j).s.nr : Int):=by omega
       by_cases hl : cnt s es k (s.of (es j).2) < ((stAt s es k j).s.rows (s.of (es j).2)).length
       ·have HLL : Hid (cnt s es k (s.of (es j).2) < ((stAt s es k j).s.rows (s.of (es j).2)).length):=hl
        have hl2 : (cnt s es k (s.of (es j).2) : Int) < (((stAt s es k j).s.rows (s.of (es j).2)).length : Int):=by omega
        have hqn : s.of (es j).2 < (stAt s es k j).s.nr:=by omega
        have hne : (((stAt s es k j).s.nr : Nat) : Int) ≠ (s.of (es j).2 : Int):=by omega
        have hdl:=stAt_dv s es k j
        obtain ⟨L,hL1,hL2,hL3,hL4⟩:=last_node HS.out.wf hfN
        rw [HOF.out] at hL1 hL3 hL4
        have hrl2:=row_len HS.out.wf hqn
        have c1 : (wr.alloc (.cells #[.int .i64 ((es j).1 : Int),.int .i64 ((es j).2 : Int)] 144)).drew.drew.cell? ⟨wr.heap.size,1,none⟩ = some (.int .i64 ((es j).2 : Int)):=(row2 wr (.int .i64 ((es j).1 : Int)) (.int .i64 ((es j).2 : Int)) 144).cell (i:=1) (by omega)
        have oE : Off (pblk pb bo ba rv' wv' qv rvs' (stAt s es k j).s.nr) wr.heap.size:=fun i e=>by have:=(HHO.out.pt.blk_lt i _ e).2;omega
        have nE1 : some wr.heap.size ≠ u8.ownBlock:=fun e=>by have:=(HHO.out.dv_.lt _ e.symm).2;omega
        have nE2 : w1.heap.size < wr.heap.size:=HHO.out.np_.lt
        obtain ⟨i0,hi0,hz0,hz1,hz2⟩:=info_parts Tryz.info69
        have C0:=c95 base pb bo ba N rv' wv' qv rvs' (stAt s es k j).s (wr.alloc (.cells #[.int .i64 ((es j).1 : Int),.int .i64 ((es j).2 : Int)] 144)).drew.drew HG.pt (by omega)
        clear hrv hov hrc hrf hl
        have HHG : Hid _:=HG
        go_wp2_with fail
        go_region
        clear r0 o0 g0 g1
        go_wp2_with fail
        go_region
        clear r1 r2 hrd hask
        have hbb : ((stAt s es k j).dv.length + 1) * 16 <= 140737488355328:=by omega
        have hml2 : (stAt s es k j).dv.length + 1 <= maxLen:=by unfold maxLen;omega
        go_wp2_with (first
         | (go_at_call 102;refine C0.mono ?_;rintro e w4 ⟨rfl,rv2,wv2,P1,F1⟩
            have hs4 : wr.heap.size < w4.heap.size:=Nat.lt_of_lt_of_le (by simp) F1.below.size
            have c2 : w4.heap[wr.heap.size]? = (wr.alloc (.cells #[.int .i64 ((es j).1 : Int),.int .i64 ((es j).2 : Int)] 144)).drew.drew.heap[wr.heap.size]?:=F1.frame wr.heap.size (by simp) oE
            have G1a:=(HHG.out.call P1 F1).below (bel1 w4 (.cells #[.int .i64 (s.of (es j).2 : Int),.int .i64 ((stAt s es k j).s.nr : Int)] 69))
            have hbs : w1.heap.size + 1 <= w4.heap.size:=by omega
            have HOE4 : Hid (Off (pblk pb bo ba rv2 wv2 qv (upd rvs' (stAt s es k j).s.nr (.slice none 0 0)) ((stAt s es k j).s.nr + 1)) wr.heap.size):=F1.off (by simp) oE
            have OWN:=G1a.dv_
            have HG1 : Hid _:=G1a
            clear P1 F1 G1a C0 HG)
         | (at_builtin;go_loud (refine wpList_append_lies _ rfl _ _ 97 rfl (w1.heap.size + 1) 69 i0 _ 2 16 Tryz.underlying97 hi0 hz0 hz1 hz2 rfl (by omega) u8 (stAt s es k j).dv.length (pcells (stAt s es k j).dv) rfl OWN ⟨w4.heap.size,0,none⟩ 1 1 [.int .i64 (s.of (es j).2 : Int),.int .i64 ((stAt s es k j).s.nr : Int)] rfl rfl (World.news_of_block (cs:=#[.int .i64 (s.of (es j).2 : Int),.int .i64 ((stAt s es k j).s.nr : Int)]) (t:=69) (fr:=(0,0)) (heap_alloc_new w4 _)) (by simp [Value.oneCell']) (by omega) hml2 hbb (by simp;omega) (w4.heap.size + 1) (by simp) ?_)
            intro gg cap3 w5 hown5 hg5 hat5 hlt5
            go_loud (have G2:=HG1.out.longer (dv':=(stAt s es k j).dv ++ [(s.of (es j).2,(stAt s es k j).s.nr)]) (dvv':=.slice (some ⟨gg,0,none⟩) ((stAt s es k j).dv.length + 1) cap3) hg5 (by rw [pcells_snoc,List.length_append];exact hown5) (fun x e=>by
             simp only [Value.ownBlock,Option.some.injEq] at e
             subst e
             rcases hat5 with c | c
             ·exact Or.inl c
             ·exact Or.inr (by simp;omega)))
            go_loud (obtain ⟨w6,hrun,hM6,hg6⟩:=G2.np_.put (a:=s.of (es j).2) (v:=(stAt s es k j).s.nr) (by omega) (by omega) (by omega))
            have G3:=G2.wrote hg6 hM6
            have hs5 : wr.heap.size < w5.heap.size:=Nat.lt_of_lt_of_le (by simp;omega) hg5.size
            go_loud (have c3 : w6.cell? ⟨wr.heap.size,1,none⟩ = some (.int .i64 ((es j).2 : Int)):=(World.cell?_of_block (((hg6.block wr.heap.size hs5 (fun e=>by simp only [Option.some.injEq] at e;omega)).trans ((hg5.block wr.heap.size (by simp;omega) nE1).trans (Below.heap_alloc _ _ _ hs4))).trans c2)).trans c1)
            have HG3 : Hid _:=G3
            clear G2 hown5 hg5 hat5 hM6 hg6 G3 OWN))
        clear c1 c2 hrun
        have G3:=HG3.out
        have hrows : (addS' (stAt s es k j).s).rows (s.of (es j).2) = (stAt s es k j).s.rows (s.of (es j).2):=upd_other _ _ (by omega)
        have C1:=c113 base pb bo ba N rv2 wv2 qv _ (addS' (stAt s es k j).s) (es j).2 (s.of (es j).2) ((stAt s es k j).s.loc (es j).2) (((stAt s es k j).s.rows (s.of (es j).2)).getLastD 0) L w6 G3.pt hfN HOF.out (by show _ < (stAt s es k j).s.nr + 1;omega) (by show (stAt s es k j).s.nr + 1 <= _;omega) hN rfl (by rw [hrows];omega) hL2 (by rw [hrows,List.getD_eq_getElem?_getD,hL3];rfl) hL4 (by omega)
        have oE6 : Off (pblk pb bo ba rv2 wv2 qv (upd rvs' (stAt s es k j).s.nr (.slice none 0 0)) ((stAt s es k j).s.nr + 1)) wr.heap.size:=HOE4.out
        go_wp2_with (first | (go_at_call 122;refine C1.mono ?_;rintro e w7 ⟨rfl,v1,P7,F7⟩;have c7 : w7.cell? ⟨wr.heap.size,1,none⟩ = some (.int .i64 ((es j).2 : Int)):=(World.cell?_of_block (F7.frame wr.heap.size (blt c3) oE6)).trans c3))
        have G7:=G3.call P7 F7
        have C2:=c97 base pb bo ba N rv2 wv2 qv _ _ (es j).2 (stAt s es k j).s.nr w7 P7 hfN (Nat.lt_succ_self _) hN (by show (stAt s es k j).s.nr + 1 <= _;omega) (by show (upd (upd (stAt s es k j).s.rows (stAt s es k j).s.nr []) (s.of (es j).2) _ (stAt s es k j).s.nr).length <= _;rw [upd_other _ _ (by omega),upd_same];exact Nat.zero_le _)
        clear C1
        go_wp2_with (first | (go_at_call 104;refine C2.mono ?_;rintro e w8 ⟨rfl,v2,P8,F8⟩))
        have G8:=G7.call P8 F8
        clear C2
        go_wp2
        exact ⟨⟨j + 1,n2 + 1,_,rv2,wv2,_,by omega,by omega,by simp,by rw [HSUC.out,way_new HOF.out HNP.out HLL.out hqn];unfold takeS;rw [show (addS' (stAt s es k j).s).of (es j).2 = s.of (es j).2 from HOF.out];exact G8⟩,by simp [intOf];omega⟩
       ·have HLL : Hid (¬ cnt s es k (s.of (es j).2) < ((stAt s es k j).s.rows (s.of (es j).2)).length):=hl
        have hl2 : ¬ (cnt s es k (s.of (es j).2) : Int) < (((stAt s es k j).s.rows (s.of (es j).2)).length : Int):=by omega
        obtain ⟨w4,hrun,hM4,hg4⟩:=HG.np_.put (a:=s.of (es j).2) (v:=s.of (es j).2) (by omega) (by omega) (by omega)
        have G4:=HG.wrote hg4 hM4
        have HG4 : Hid _:=G4
        clear hrv hov hrc hrf HG hM4 hg4 G4 hl
        go_wp2_with fail
        go_region
        clear r0 o0 g0 g1
        go_wp2
        go_region
        go_wp2
        exact ⟨⟨j + 1,n2 + 1,_,rv',wv',rvs',by omega,by omega,by simp,by rw [HSUC.out,way_all HOF.out HNP.out HLL.out];exact HG4.out⟩,by simp [intOf];omega⟩
    ·have e : j = k:=by omega
     subst e
     obtain ⟨oa,capD,rfl⟩:=own_form hH.dv_
     have hdl:=stAt_dv s es j j
     have HDL : Hid (∀ d,d ∈ (stAt s es j j).dv -> d.1 < (stAt s es j j).s.nr /\ d.2 < (stAt s es j j).s.nr):=dv_lt HW.out HF.out hd
     have hnr0:=stAt_nr s es j j
     have HWT : Hid ((stAt s es j j).s.waiting = s.waiting):=(stAt_si HW.out HF.out hd (Nat.le_refl _)).waiting
     have HT0 : Hid (Held w wr base pb bo ba N (pblk pb bo ba rv wv qv rvs s.nr) w.heap.size n D (cg s es j) w1.heap.size n2 D2 (.slice oa (stAt s es j j).dv.length capD) rv' wv' qv rvs' ⟨waitAll (stAt s es j j).s ((stAt s es j j).dv.take 0),(stAt s es j j).np,(stAt s es j j).dv⟩):=hH
     clear hH hlt hj
     go_wp2
     go_loopw [97] (fun i w3=>∃ (k : Nat) (qv' : Value),k <= (stAt s es j j).dv.length /\ i = .int .i64 k /\ Hid (Held w w3 base pb bo ba N (pblk pb bo ba rv wv qv rvs s.nr) w.heap.size n D (cg s es j) w1.heap.size n2 D2 (.slice oa (stAt s es j j).dv.length capD) rv' wv' qv' rvs' ⟨waitAll (stAt s es j j).s ((stAt s es j j).dv.take k),(stAt s es j j).np,(stAt s es j j).dv⟩)) (fun i _=>(stAt s es j j).dv.length - (intOf i).toNat)
     case atStart=>exact ⟨0,qv,Nat.zero_le _,rfl,HT0⟩
     case round=>
      clear HT0
      obtain ⟨k,qv',hk,rfl,HT⟩:=hrel
      by_cases hlt : k < (stAt s es j j).dv.length
      ·obtain ⟨d,hdk⟩ : ∃ d,(stAt s es j j).dv[k]? = some d:=⟨_,List.getElem?_eq_getElem hlt⟩
       obtain ⟨g,cap',hov,p0,p1⟩:=own_pair HT.out.dv_ hdk
       obtain ⟨hd1,hd2⟩:=HDL.out d (List.mem_of_getElem? hdk)
       simp only [Value.slice.injEq,true_and] at hov
       obtain ⟨hoa,rfl⟩:=hov
       subst hoa
       obtain ⟨T,hT⟩ : ∃ T,T = waitAll (stAt s es j j).s ((stAt s es j j).dv.take k):=⟨_,rfl⟩
       have HSM:=waitAll_same ((stAt s es j j).dv.take k) (stAt s es j j).s
       have HNX:=waitAll_take hdk (stAt s es j j).s
       have HLN:=waitAll_take_len (stAt s es j j).dv (stAt s es j j).s k
       rw [<- hT] at HSM HNX HLN
       rw [HWT.out] at HLN
       have HT' : Hid (Held w wr base pb bo ba N (pblk pb bo ba rv wv qv rvs s.nr) w.heap.size n D (cg s es j) w1.heap.size n2 D2 (.slice (some ⟨g,0,none⟩) (stAt s es j j).dv.length capD) rv' wv' qv' rvs' ⟨T,(stAt s es j j).np,(stAt s es j j).dv⟩):=by rw [hT];exact HT.out
       have hTn : T.nr = (stAt s es j j).s.nr:=HSM.2.2.1
       have HNX' : Hid (waitAll (stAt s es j j).s ((stAt s es j j).dv.take (k + 1)) = waitOne T d):=HNX
       clear HT HSM HNX hT hdk
       have HA : Hid _:=HT'.out.below (bel1 wr (.cells #[.int .i64 (d.1 : Int),.int .i64 (d.2 : Int)] 69))
       have HP:=HA.out.pt
       have hn0 : 0 < T.nr:=by omega
       obtain ⟨wbk,capW,hwv,hwc,hwf,hwl⟩:=own_some HP.waits hn0
       obtain ⟨rb,capR,hrv,hrc,hrf,hrl⟩:=own_some HP.rows hn0
       obtain ⟨oa1,cap1,hv1⟩:=own_form (HP.inner d.1 (by show d.1 < T.nr;omega))
       obtain ⟨oa2,cap2,hv2⟩:=own_form (HP.inner d.2 (by show d.2 < T.nr;omega))
       have r1 : (wr.alloc (.cells #[.int .i64 (d.1 : Int),.int .i64 (d.2 : Int)] 69)).drew.cell? ⟨pb,1,none⟩ = some (.slice (some ⟨rb,0,none⟩) T.nr capR):=by rw [<- hrv];exact HP.row.cell (i:=1) (by omega)
       have r3 : (wr.alloc (.cells #[.int .i64 (d.1 : Int),.int .i64 (d.2 : Int)] 69)).drew.cell? ⟨pb,3,none⟩ = some (.slice (some ⟨wbk,0,none⟩) T.nr capW):=by rw [<- hwv];exact HP.row.cell (i:=3) (by omega)
       have x3 : (wr.alloc (.cells #[.int .i64 (d.1 : Int),.int .i64 (d.2 : Int)] 69)).drew.cell? ⟨wbk,d.1,none⟩ = some (.bool (T.waits d.1)):=by
        have z:=hwc d.1 (by show d.1 < T.nr;omega)
        rw [List.getElem?_map,List.getElem?_range (by show d.1 < T.nr;omega)] at z
        exact z
       have y1 : (wr.alloc (.cells #[.int .i64 (d.1 : Int),.int .i64 (d.2 : Int)] 69)).drew.cell? ⟨rb,d.1,none⟩ = some (.slice oa1 (T.rows d.1).length cap1):=by
        have z:=hrc d.1 (by show d.1 < T.nr;omega)
        rw [List.getElem?_map,List.getElem?_range (by show d.1 < T.nr;omega)] at z
        exact z.trans (congrArg some hv1)
       have y2 : (wr.alloc (.cells #[.int .i64 (d.1 : Int),.int .i64 (d.2 : Int)] 69)).drew.cell? ⟨rb,d.2,none⟩ = some (.slice oa2 (T.rows d.2).length cap2):=by
        have z:=hrc d.2 (by show d.2 < T.nr;omega)
        rw [List.getElem?_map,List.getElem?_range (by show d.2 < T.nr;omega)] at z
        exact z.trans (congrArg some hv2)
       have i1 : (d.1 : Int) < (T.nr : Int):=by omega
       have i2 : (d.2 : Int) < (T.nr : Int):=by omega
       have hTr : T.nr <= 1048576:=by omega
       have hTq : T.waiting.length <= 1048576:=by omega
       have HB : Hid (Held w (wr.alloc (.cells #[.int .i64 (d.1 : Int),.int .i64 (d.2 : Int)] 69)).drew base pb bo ba N (pblk pb bo ba rv wv qv rvs s.nr) w.heap.size n D (cg s es j) w1.heap.size n2 D2 (.slice (some ⟨g,0,none⟩) (stAt s es j j).dv.length capD) rv' wv' qv' rvs' ⟨T,(stAt s es j j).np,(stAt s es j j).dv⟩):=HA.out.below (Below.refl _ _).drew
       clear HP hwv hwc hwf hrv hrc hrf hv1 hv2 HA HT' hd1 hd2 hTn
       cases hw : T.waits d.1 with
       | true=>
         have HW1 : Hid (waitOne T d = waitS T d.2):=waitOne_yes (Or.inl hw)
         rw [hw] at x3
         clear hw
         have C1:=c96 base pb bo ba N rv' wv' qv' rvs' T d.2 _ HB.out.pt (by omega) hTr hTq
         go_wp2
         go_region
         clear r1 r3 x3 y1 y2
         go_wp2_with (first | (go_at_call 103;refine C1.mono ?_;rintro e w5 ⟨rfl,qv5,P5,F5⟩))
         have G5 : Hid _:=HB.out.call P5 F5
         clear C1 P5 F5
         go_wp2
         exact ⟨⟨k + 1,qv5,by omega,by simp,by rw [HNX'.out,HW1.out];exact G5.out⟩,by simp [intOf];omega⟩
       | false=>
         rw [hw] at x3
         by_cases hle : (T.rows d.2).length <= (T.rows d.1).length
         ·have HW1 : Hid (waitOne T d = waitS T d.2):=waitOne_yes (Or.inr hle)
          have hle' : ((T.rows d.2).length : Int) <= ((T.rows d.1).length : Int):=by omega
          clear hw hle
          have C1:=c96 base pb bo ba N rv' wv' qv' rvs' T d.2 _ HB.out.pt (by omega) hTr hTq
          go_wp2
          go_region
          clear r1 r3 x3 y1 y2
          go_wp2_with (first | (go_at_call 103;refine C1.mono ?_;rintro e w5 ⟨rfl,qv5,P5,F5⟩))
          have G5 : Hid _:=HB.out.call P5 F5
          clear C1 P5 F5
          go_wp2
          exact ⟨⟨k + 1,qv5,by omega,by simp,by rw [HNX'.out,HW1.out];exact G5.out⟩,by simp [intOf];omega⟩
         ·have HW1 : Hid (waitOne T d = waitS T d.1):=waitOne_no hw hle
          have hle' : ¬ ((T.rows d.2).length : Int) <= ((T.rows d.1).length : Int):=by omega
          clear hw hle
          have C1:=c96 base pb bo ba N rv' wv' qv' rvs' T d.1 _ HB.out.pt (by omega) hTr hTq
          go_wp2
          go_region
          clear r1 r3 x3 y1 y2
          go_wp2_with (first | (go_at_call 103;refine C1.mono ?_;rintro e w5 ⟨rfl,qv5,P5,F5⟩))
          have G5 : Hid _:=HB.out.call P5 F5
          clear C1 P5 F5
          go_wp2
          exact ⟨⟨k + 1,qv5,by omega,by simp,by rw [HNX'.out,HW1.out];exact G5.out⟩,by simp [intOf];omega⟩
      ·have e : k = (stAt s es j j).dv.length:=by omega
       have FH : Hid (Pt wr base pb bo ba N rv' wv' qv' rvs' (splitS s es j) /\ Fr base w wr (pblk pb bo ba rv wv qv rvs s.nr) (pblk pb bo ba rv' wv' qv' rvs' (splitS s es j).nr)):=by
        have z:=HT.out
        rw [e,List.take_length] at z
        exact ⟨z.pt,z.fr⟩
       clear HT
       go_wp2
       exact bodyPost_end (v:=.tuple #[]) (by simp [results,Tryz.results105]) rfl ⟨rfl,_,_,_,_,FH.out⟩
end Go.Proofs.YtpbpbppimkeodaaGreatDoor
