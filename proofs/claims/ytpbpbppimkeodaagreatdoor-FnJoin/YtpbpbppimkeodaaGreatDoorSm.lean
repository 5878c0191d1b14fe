/-
  Types
-/
import Derived.Test.YtpbpbppimkeodaaGreatDoorSl
set_option maxRecDepth 100000
namespace Go.Proofs.YtpbpbppimkeodaaGreatDoor
open Go.RowKit Go.Maps
theorem own_low {w : World} {base base' : Nat} {e : TypeId} {size : Nat} {v : Value} {n : Nat} {xs : List Value} (h : w.ownsRow base e size v n xs) (hle : base' <= base) : w.ownsRow base' e size v n xs:=by
 obtain ⟨h1,h2⟩:=h
 refine ⟨h1,?_⟩
 rcases h2 with h2 | ⟨g,cap,cur,hv,hb,r⟩
 ·exact Or.inl h2
 ·exact Or.inr ⟨g,cap,cur,hv,Nat.le_trans hle hb,r⟩
theorem Pt.low {w : World} {base base' pb bo ba N : Nat} {rv wv qv : Value} {rvs : Nat -> Value} {s : PS} (h : Pt w base pb bo ba N rv wv qv rvs s) (hle : base' <= base) : Pt w base' pb bo ba N rv wv qv rvs s:=
 ⟨h.row,h.of_,h.loc_,own_low h.rows hle,fun i hi=>own_low (h.inner i hi) hle,own_low h.waits hle,own_low h.waiting hle,h.dis,⟨Nat.le_trans hle h.big.1,Nat.le_trans hle h.big.2.1,Nat.le_trans hle h.big.2.2.1,Nat.le_trans hle h.big.2.2.2⟩⟩
theorem edges_part {N : Nat} {G : Nat -> ND} {s : PS} {P m : Nat} {es : Nat -> Nat × Nat} (hK : Kids N G) (hW : Wf N s) (hP : P < s.nr) (h : Edges N G (fun u=>u ∈ s.rows P) m es) : Edges N G (fun u=>s.of u = P) m es:=by
 refine ⟨fun i hi=>?_,fun x j hx hj hc=>?_,h.once,h.sorted⟩
 ·obtain ⟨h1,h2,h3⟩:=h.into i hi
  obtain ⟨k,hk⟩:=List.getElem?_of_mem h3
  exact ⟨h1,h2,(hW.row P k _ hP hk).2.1⟩
 ·refine h.all x j hx hj ?_
  have:=hW.here _ (hK.lt hx hj)
  rw [hc] at this
  exact List.mem_of_getElem? this
def TypesPost (N : Nat) (G : Nat -> ND) (w : World) (e : Ending) (w' : World) : Prop:=
 ∃ (bo : Nat) (cl : Nat -> Nat),e = .returned (.slice (some ⟨bo,0,none⟩) N N) /\ IntsAt w' (some ⟨bo,0,none⟩) bo 0 N (fun i=>(cl i : Int)) /\ (∀ x y,x < N -> y < N -> (cl x = cl y ↔ Same N G x y)) /\ (∀ x,x < N -> cl x < N) /\ w.heap.size <= bo /\ Below w.heap.size w w'
set_option maxHeartbeats 4000000 in
theorem c44 {N b o : Nat} {p : Nat -> NP} {G : Nat -> ND} (ao : Option Addr) (gc : Nat) (w : World) (hN : N <= 500000) (hK : Kids N G) (hP : ∀ x,x < N -> Plain (G x)) (hM : ∀ x,x < N -> (G x).nn <= 1048576 /\ ∀ i,i < (G x).nn -> ((G x).nm i).size <= 12) (hnk : ∀ i,i < N -> (G i).nk <= 1048576) (hcap : ∀ x,x < N -> 0 < (G x).nn -> (G x).nn <= (p x).c1) (hG : NodesAt w ao b o N p G) :
  Calls Tryz.prog 56 #[.agg #[.slice ao N gc]] w (TypesPost N G w):=by
 have HG : Hid (NodesAt w ao b o N p G):=hG
 have HP : Hid (∀ x,x < N -> Plain (G x)):=hP
 have HM : Hid (∀ x,x < N -> (G x).nn <= 1048576 /\ ∀ i,i < (G x).nn -> ((G x).nm i).size <= 12):=hM
 have HCP : Hid (∀ x,x < N -> 0 < (G x).nn -> (G x).nn <= (p x).c1):=hcap
 have HK : Hid (Kids N G):=hK
 have HNK : Hid (∀ i,i < N -> (G i).nk <= 1048576):=hnk
 clear hG hP hM hcap hK hnk
 go_enter Tryz.func56,Tryz.ntmps56
 go_wp2_with fail
 refine (c71 ao gc (w.alloc (.cells #[.slice ao N gc] 29)) hN HP.out HM.out HCP.out (HG.out.below (bel1 _ _))).mono ?_
 rintro e w1 ⟨pb,bo,ba,rv,wv,qv,rvs,s,rfl,hPt,hSt,hB1⟩
 have g1 : w1.cell? ⟨w.heap.size,0,none⟩ = some (.slice ao N gc):=by rw [hB1.cell (p:=⟨w.heap.size,0,none⟩) (by simp)];simp
 have B1 : Below w.heap.size w w1:=(bel1 w _).trans (hB1.mono (by simp))
 obtain ⟨hOk,hPa,hSb⟩:=st_end HP.out HK.out hSt
 have HT1 : Hid (Pt w1 w.heap.size pb bo ba N rv wv qv rvs s /\ Ok N s /\ Parts N G s.of /\ ∀ C,Stab N G s.of (wt s) C (fun _=>False)):=⟨hPt.low (by simp),hOk,hPa,hSb⟩
 clear hPt hSt hB1 hOk hPa hSb
 go_wp2_with fail
 refine (c72 ao gc w1 HK.out (by omega) HNK.out (HG.out.below B1)).mono ?_
 rintro e w2 ⟨bi,evs,rfl,hI,hB2⟩
 have HS : Hid (Ty w w2 pb bo ba N G w1.heap.size bi evs rv wv qv rvs s):=
  ⟨HT1.out.1.below hB2,HT1.out.2.1,HT1.out.2.2.1,HT1.out.2.2.2,hI,⟨⟨hI.row.lt,fun i e=>by have:=(HT1.out.1.blk_lt i _ e).2;have:=hI.big.1;omega⟩,fun i k hi e=>⟨((hI.inner i hi).lt k e).2,fun j q=>by have:=(HT1.out.1.blk_lt j _ q).2;have:=((hI.inner i hi).lt k e).1;omega⟩⟩,B1.trans (hB2.mono B1.size)⟩
 clear hI hB2 HT1 g1 B1
 go_wp2
 go_loopw [5] (fun _ wr=>∃ (rv wv qv : Value) (rvs : Nat -> Value) (s : PS),Hid (Ty w wr pb bo ba N G w1.heap.size bi evs rv wv qv rvs s)) (fun _ wr=>lenAt wr pb 4 + (N - lenAt wr pb 1))
 case atStart=>exact ⟨rv,wv,qv,rvs,s,HS⟩
 case round=>
  clear HS
  obtain ⟨rv,wv,qv,rvs,s,HS⟩:=hrel
  have r0 : wr.cell? ⟨pb,0,none⟩ = some (.slice (some ⟨bo,0,none⟩) N N):=HS.out.pt.row.cell (i:=0) (by omega)
  by_cases hem : s.waiting = []
  ·obtain ⟨qa,qc,hqv⟩:=own_form HS.out.pt.waiting
   have r4 : wr.cell? ⟨pb,4,none⟩ = some (.slice qa 0 qc):=by
    have z : wr.cell? ⟨pb,4,none⟩ = some qv:=HS.out.pt.row.cell (i:=4) (by omega)
    rw [z,hqv,hem];rfl
   have FH : Hid (TypesPost N G w (.returned (.slice (some ⟨bo,0,none⟩) N N)) wr):=by
    refine ⟨bo,s.of,rfl,⟨fun _=>rfl,fun i hi=>?_,by omega⟩,Stab.done HS.out.parts (HS.out.stab (fun _=>False)) (fun q hq=>?_),fun x hx=>Nat.lt_of_lt_of_le (HS.out.ok.wf.lt x hx) (full_le HS.out.ok.full),HS.out.pt.big.2.1,HS.out.below⟩
    ·rw [Nat.zero_add];exact HS.out.pt.of_.cell hi
    ·have:=(HS.out.ok.wq.iff q hq.1).1 hq.2
     rw [hem] at this
     cases this
   clear HS hqv
   go_wp2
   go_ret
   exact FH.out
  ·obtain ⟨ys,P,hys⟩ : ∃ ys P,s.waiting = ys ++ [P]:=⟨s.waiting.dropLast,s.waiting.getLast hem,(List.dropLast_concat_getLast hem).symm⟩
   obtain ⟨n,hn⟩ : ∃ n,ys.length = n:=⟨_,rfl⟩
   have hwl : s.waiting.length = n + 1:=by rw [hys,List.length_append,hn];rfl
   have hPn : P < s.nr:=HS.out.ok.wq.lt P (by rw [hys];simp)
   have hnr:=full_le HS.out.ok.full
   have hwn:=wq_len HS.out.ok.wq
   have hgl : s.waiting.getLast? = some P:=by rw [hys];simp
   obtain ⟨qb,capq,hqv,hqc,hqf,hql⟩:=own_some HS.out.pt.waiting (by omega)
   obtain ⟨wbk,capW,hwv,hwc,hwf,hwlt⟩:=own_some HS.out.pt.waits (by omega)
   rw [hwl] at hqv
   have HPT : Hid (Pt wr w.heap.size pb bo ba N rv (.slice (some ⟨wbk,0,none⟩) s.nr capW) (.slice (some ⟨qb,0,none⟩) (n + 1) capq) rvs s):=by rw [<- hqv,<- hwv];exact HS.out.pt
   have r4 : wr.cell? ⟨pb,4,none⟩ = some (.slice (some ⟨qb,0,none⟩) (n + 1) capq):=HPT.out.row.cell (i:=4) (by omega)
   have r3 : wr.cell? ⟨pb,3,none⟩ = some (.slice (some ⟨wbk,0,none⟩) s.nr capW):=HPT.out.row.cell (i:=3) (by omega)
   have f4:=HPT.out.row.frozen 4
   have q0 : wr.cell? ⟨qb,n,none⟩ = some (.int .i64 (P : Int)):=by
    rw [hqc n (by omega)]
    have : s.waiting[n]? = some P:=by rw [hys,<- hn];simp
    simp [icells,this]
   have x0 : wr.cell? ⟨wbk,P,none⟩ = some (.bool (s.waits P)):=by
    rw [hwc P hPn,List.getElem?_map,List.getElem?_range hPn];rfl
   have x1:=hwf P
   have hPi : (P : Int) < (s.nr : Int):=by omega
   have hcq : n + 1 <= capq:=by
    have z:=HPT.out.waiting
    rw [hwl] at z
    exact own_le z
   have nwp : wbk ≠ pb:=fun e=>by have:=HPT.out.dis 4 0 wbk rfl (by show some pb = some wbk;rw [e]);omega
   obtain ⟨PP,PF⟩:=Pt.pop hys hn HPT.out
   have HPP : Hid (Pt ((wr.setCell ⟨pb,4,none⟩ (.slice (some ⟨qb,0,none⟩) n capq)).setCell ⟨wbk,P,none⟩ (.bool false)) w.heap.size pb bo ba N rv (.slice (some ⟨wbk,0,none⟩) s.nr capW) (.slice (some ⟨qb,0,none⟩) n capq) rvs (popS s P) /\ Fr w.heap.size wr ((wr.setCell ⟨pb,4,none⟩ (.slice (some ⟨qb,0,none⟩) n capq)).setCell ⟨wbk,P,none⟩ (.bool false)) (pblk pb bo ba rv (.slice (some ⟨wbk,0,none⟩) s.nr capW) (.slice (some ⟨qb,0,none⟩) (n + 1) capq) rvs s.nr) (pblk pb bo ba rv (.slice (some ⟨wbk,0,none⟩) s.nr capW) (.slice (some ⟨qb,0,none⟩) n capq) rvs s.nr)):=⟨PP,PF⟩
   have HGL : Hid (s.waiting.getLast? = some P):=hgl
   have HBK : Hid (pblk pb bo ba rv wv qv rvs s.nr = pblk pb bo ba rv (.slice (some ⟨wbk,0,none⟩) s.nr capW) (.slice (some ⟨qb,0,none⟩) (n + 1) capq) rvs s.nr):=by show _ = _;rw [hqv,hwv]
   clear PP PF hqc hwc hwf hqf hqv hwv hys hgl hem r0
   have hn1 : ((n : Int) + 1) - 1 = (n : Int):=by omega
   have HOK : Hid (Ok N (popS s P)):=pop_ok HS.out.ok HGL.out
   have HIN : Hid (Into ((wr.setCell ⟨pb,4,none⟩ (.slice (some ⟨qb,0,none⟩) n capq)).setCell ⟨wbk,P,none⟩ (.bool false)) w1.heap.size bi N evs (fun k=>edgesTill G N 0 k) /\ EdOff ((wr.setCell ⟨pb,4,none⟩ (.slice (some ⟨qb,0,none⟩) n capq)).setCell ⟨wbk,P,none⟩ (.bool false)) bi N evs (pblk pb bo ba rv (.slice (some ⟨wbk,0,none⟩) s.nr capW) (.slice (some ⟨qb,0,none⟩) n capq) rvs s.nr)):=by
    have z:=HS.out.apart
    have e : pblk pb bo ba rv wv qv rvs s.nr = pblk pb bo ba rv (.slice (some ⟨wbk,0,none⟩) s.nr capW) (.slice (some ⟨qb,0,none⟩) (n + 1) capq) rvs s.nr:=HBK.out
    rw [e] at z
    exact HS.out.into.frame z HPP.out.2
   have C74:=c74 w.heap.size pb bo ba N rv (.slice (some ⟨wbk,0,none⟩) s.nr capW) (.slice (some ⟨qb,0,none⟩) n capq) rvs (popS s P) G P bi w1.heap.size evs _ HPP.out.1 HOK.out.wf hPn hN HNK.out HIN.out.1
   have hLW:=HS.out.lens
   go_wp2_with (first
    | (go_at_call 84;refine C74.mono ?_;rintro e w5 ⟨v5,rfl,⟨ea,eb,m,ec,es,rfl,hm1,hm2,hEA,hED,hEB⟩,hB5⟩
       have hED2 : Edges N G (fun u=>s.of u = P) m es:=edges_part HK.out HS.out.ok.wf hPn hED
       have C73:=c73 w.heap.size pb bo ba N rv (.slice (some ⟨wbk,0,none⟩) s.nr capW) (.slice (some ⟨qb,0,none⟩) n capq) rvs (popS s P) G (fun u=>s.of u = P) m ec eb 0 ea es w5 (HPP.out.1.below hB5) hN hm1 hm2 HK.out (fun u v hu hv hs=>by have:=HS.out.parts.same u v hu hv hs;exact ⟨fun c=>this.symm.trans c,fun c=>this.trans c⟩) hEA hED2 (pop_run HS.out.ok HS.out.parts (HS.out.stab (fun _=>False)) HGL.out) (fun h0 i e=>by have:=(HPP.out.1.blk_lt i eb e).2;have:=hEB h0;omega))
    | (go_at_call 83;refine C73.mono ?_;rintro e w6 ⟨rfl,rv6,wv6,qv6,rvs6,s6,P6,F6,R6,M6⟩))
   have IN5:=HIN.out.1.below hB5
   have IN6:=IN5.frame (HIN.out.2.below hB5.size) F6
   have FH : Hid (Ty w w6 pb bo ba N G w1.heap.size bi evs rv6 wv6 qv6 rvs6 s6):=
    ⟨P6,R6.ok,R6.parts,fun C=>run_over hED2 R6,IN6.1,IN6.2,((HS.out.below.trans HPP.out.2.below).trans (hB5.mono (Nat.le_trans HS.out.below.size HPP.out.2.below.size))).trans F6.below⟩
   have hL6:=FH.out.lens
   have hMM : lenAt w6 pb 4 + (N - lenAt w6 pb 1) < lenAt wr pb 4 + (N - lenAt wr pb 1):=by
    rw [hL6.1,hL6.2,hLW.1,hLW.2]
    have h1:=full_le R6.ok.full
    have h2 : s6.waiting.length + s.nr <= s.waiting.dropLast.length + s6.nr:=M6
    rw [List.length_dropLast] at h2
    omega
   clear hL6 hLW IN5 IN6 P6 F6 R6 M6 C73 C74 hED hED2 hEA hB5
   go_wp2
   exact ⟨⟨_,_,_,_,_,FH⟩,hMM⟩
end Go.Proofs.YtpbpbppimkeodaaGreatDoor
