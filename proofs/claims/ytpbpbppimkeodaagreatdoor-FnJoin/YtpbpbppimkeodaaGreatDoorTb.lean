/-
  MT
-/
import Derived.Test.YtpbpbppimkeodaaGreatDoorSu
import Derived.Deep.DeepCutAuto
import Derived.Test.YtpbpbppimkeodaaGreatDoorSs
import Derived.Deep.AppendLies
import Derived.Lib.AppendZerosOnto
import Derived.Laws.MakeOwn
import Derived.Lib.BufferWrite
import Derived.Test.YtpbpbppimkeodaaGreatDoorSz
import Derived.Deep.RegionHeld3
import Derived.Test.YtpbpbppimkeodaaGreatDoorTa
set_option maxRecDepth 100000
namespace Go.Proofs.YtpbpbppimkeodaaGreatDoor
open Go.RowKit Go.Maps
theorem two_rowsT (w : World) (x0 x1 x2 y0 y1 y2 : Value) (t : TypeId) : ((w.alloc (.cells #[x0,x1,x2] t)).alloc (.cells #[y0,y1,y2] t)).rowIs w.heap.size t 3 (v3 x0 x1 x2) /\ ((w.alloc (.cells #[x0,x1,x2] t)).alloc (.cells #[y0,y1,y2] t)).rowIs (w.heap.size + 1) t 3 (v3 y0 y1 y2):=by
 have R:=row3 (w.alloc (.cells #[x0,x1,x2] t)) y0 y1 y2 t
 rw [World.size_alloc] at R
 exact ⟨(row3 w x0 x1 x2 t).alloc _,R⟩
theorem made_none {w w' : World} {kb mb : Nat} {keep : Nat -> Prop} {n : Nat} {x y : ND} {up : Bool} {L0 : List Qn} {ov : Value} {D : DataW Unit} {k : Int} (h : mixK x y = k /\ mixN x y up = [] /\ mixQ x y up = []) (hK : KnQ w' kb mb ov D (L0.map flipQ) keep) (hkp : Kept keep w w') :
  MadeP w kb mb keep n x y up L0 (.returned (.agg #[.int .i64 k,.slice none 0 0,.slice none 0 0])) w':=by
 obtain ⟨h1,h2,h3⟩:=h
 refine ⟨none,0,none,0,ov,D,by rw [h1,h2,h3];rfl,?_,?_,fun b e=>by simp [Value.ownBlock] at e,?_,hkp⟩
 ·rw [h2];exact World.ownsRow_nil _ _ _ _
 ·rw [h3];exact World.ownsRow_nil _ _ _ _
 ·rw [h3]
  refine ⟨hK.row,hK.mlt,hK.map,hK.has,hK.val,hK.own,fun j hj=>?_⟩
  rcases hj with hj | hj | hj
  ·exact hK.far j hj
  ·simp [Value.ownBlock] at hj
  ·simp [Value.ownBlock] at hj
theorem made_set {w wc w1 : World} {kb mb B : Nat} {keep keep' : Nat -> Prop} {n : Nat} {x y : ND} {up : Bool} {L0 : List Qn} {e : Ending} {v0 v1 v2 : Value} (h : MadeP wc kb mb keep' n x y up L0 e w1) (hk : ∀ j,keep j -> keep' j) (hB : keep' B) (hw : w.heap.size <= B) (hw2 : B < wc.heap.size) (hK : Kept keep w wc) (ho : ∀ j,keep j -> j < w.heap.size) :
  MadeP w kb mb keep n x y up L0 e (((w1.setCell ⟨B,0,none⟩ v0).setCell ⟨B,1,none⟩ v1).setCell ⟨B,2,none⟩ v2):=by
 obtain ⟨na,nc,ka,kc,ov,D,h1,h2,h3,h4,h5,h6⟩:=h
 obtain ⟨_,o1,o2,o3⟩:=h5.far B (Or.inl hB)
 refine ⟨na,nc,ka,kc,ov,D,h1,own_block (own_lowerS h2 (by omega)) (fun j e=>set3 j (fun e2=>by have:=(h2.lt j e.symm).1;omega)),own_block (own_lowerS h3 (by omega)) (fun j e=>set3 j (fun e2=>by have:=(h3.lt j e.symm).1;omega)),h4,?_,?_⟩
 ·refine h5.other (set3 _ (Ne.symm o1)) (set3 _ (Ne.symm o2)) (fun j e=>set3 j (fun e2=>o3 (by rw [<- e2];exact e.symm))) (fun j hj=>?_)
  have hsz : (((w1.setCell ⟨B,0,none⟩ v0).setCell ⟨B,1,none⟩ v1).setCell ⟨B,2,none⟩ v2).heap.size = w1.heap.size:=by simp
  rw [hsz]
  rcases hj with hj | hj | hj
  ·exact h5.far j (Or.inl (hk j hj))
  ·exact h5.far j (Or.inr (Or.inl hj))
  ·exact h5.far j (Or.inr (Or.inr hj))
 ·have s1:=hK.size
  have s2:=h6.size
  exact ⟨h6.os.trans hK.os,h6.tape.trans hK.tape,h6.output.trans hK.output,by simp;omega,fun j hj=>(set3 j (by have:=ho j hj;omega)).trans ((h6.block j (hk j hj)).trans (hK.block j hj))⟩
theorem mixed_noneT {x y : ND} (up : Bool) (h : x.kind ≠ y.kind) : mixK x y = 0 /\ mixN x y up = [] /\ mixQ x y up = []:=by
 unfold mixK mixN mixQ
 rw [if_neg h,if_neg h,if_neg (fun z=>h z.1)]
 exact ⟨rfl,rfl,rfl⟩
theorem kept_drewN {keep : Nat -> Prop} (w : World) (t : Nat) : Kept keep w (w.drewN t):=⟨rfl,rfl,rfl,Nat.le_refl _,fun _ _=>rfl⟩
theorem made_fun {w wc w2 : World} {kb mb B : Nat} {keep keep' : Nat -> Prop} {n : Nat} {x y : ND} {mt : Bool} {L0 : List Qn} {ov : Value} {D : DataW Unit} {z1 z2 : Nat} {v0 v1 v2 : Value} (hx : x.kind = 4) (hy : y.kind = 4)
  (hK : KnQ w2 kb mb ov D ((addQ (addQ L0 (.qn ⟨kid x 0,kid y 0,!(!mt)⟩)) (.qn ⟨kid x 1,kid y 1,!mt⟩)).map flipQ) keep') (hk : ∀ j,keep j -> keep' j) (hB : keep' B) (hw : w.heap.size <= B) (hw2 : B < wc.heap.size) (hKw : Kept keep w wc) (hK2 : Kept keep' wc w2) (ho : ∀ j,keep j -> j < w.heap.size)
  (e1 : z1 = n + (addQ L0 (.qn ⟨kid x 0,kid y 0,!(!mt)⟩)).idxOf ⟨kid x 0,kid y 0,!(!mt)⟩) (e2 : z2 = n + (addQ (addQ L0 (.qn ⟨kid x 0,kid y 0,!(!mt)⟩)) (.qn ⟨kid x 1,kid y 1,!mt⟩)).idxOf ⟨kid x 1,kid y 1,!mt⟩) :
  MadeP w kb mb keep n x y (!mt) L0 (.returned (.agg #[.int .i64 4,.slice none 0 0,.slice (some ⟨w2.heap.size,0,none⟩) 2 2])) ((((w2.alloc (.cells #[.int .i64 (z1 : Int),.int .i64 (z2 : Int)] 3)).setCell ⟨B,0,none⟩ v0).setCell ⟨B,1,none⟩ v1).setCell ⟨B,2,none⟩ v2):=by
 have e : x.kind = y.kind:=hx.trans hy.symm
 have m1 : mixK x y = 4:=by unfold mixK;rw [if_pos e];exact hx
 have m2 : mixN x y (!mt) = []:=by unfold mixN;rw [if_neg (fun z=>by have:=z.2;omega)]
 have m3 : mixQ x y (!mt) = [.qn ⟨kid x 0,kid y 0,!(!mt)⟩,.qn ⟨kid x 1,kid y 1,!mt⟩]:=by unfold mixQ;rw [if_pos e,if_pos hx]
 have m4 : addAll L0 (mixQ x y (!mt)) = addQ (addQ L0 (.qn ⟨kid x 0,kid y 0,!(!mt)⟩)) (.qn ⟨kid x 1,kid y 1,!mt⟩):=by rw [m3];rfl
 have sw:=hKw.size
 have s2:=hK2.size
 refine made_set (wc:=wc) (keep':=keep') (w1:=w2.alloc (.cells #[.int .i64 (z1 : Int),.int .i64 (z2 : Int)] 3)) ?_ hk hB hw hw2 hKw ho
 refine ⟨none,0,some ⟨w2.heap.size,0,none⟩,2,ov,D,by rw [m1,m2,m3];rfl,?_,?_,fun b e=>by simp [Value.ownBlock] at e,?_,?_⟩
 ·rw [m2];exact World.ownsRow_nil _ _ _ _
 ·rw [m4,m3]
  have hz : zcells ([Kq.qn ⟨kid x 0,kid y 0,!(!mt)⟩,Kq.qn ⟨kid x 1,kid y 1,!mt⟩].map fun k=>(numK n (addQ (addQ L0 (.qn ⟨kid x 0,kid y 0,!(!mt)⟩)) (.qn ⟨kid x 1,kid y 1,!mt⟩)) k : Int)) = [.int .i64 (z1 : Int),.int .i64 (z2 : Int)]:=by
   have f1 : numK n (addQ (addQ L0 (.qn ⟨kid x 0,kid y 0,!(!mt)⟩)) (.qn ⟨kid x 1,kid y 1,!mt⟩)) (.qn ⟨kid x 0,kid y 0,!(!mt)⟩) = z1:=by
    rw [e1]
    show n + _ = n + _
    rw [<- idx_pre (addQ_pre _ _) (addQ_has L0 _)]
   have f2 : numK n (addQ (addQ L0 (.qn ⟨kid x 0,kid y 0,!(!mt)⟩)) (.qn ⟨kid x 1,kid y 1,!mt⟩)) (.qn ⟨kid x 1,kid y 1,!mt⟩) = z2:=by rw [e2];rfl
   unfold zcells
   simp only [List.map_cons,List.map_nil]
   rw [f1,f2]
  rw [hz]
  exact World.ownsRow_lit w2 #[.int .i64 (z1 : Int),.int .i64 (z2 : Int)] 2 (by omega) (by unfold maxLen;omega) (by rfl)
 ·rw [m4]
  have hA:=hK.below (bel1 w2 (.cells #[.int .i64 (z1 : Int),.int .i64 (z2 : Int)] 3))
  refine ⟨hA.row,hA.mlt,hA.map,hA.has,hA.val,hA.own,fun j hj=>?_⟩
  have q1:=hK.row.lt
  have q2:=hK.mlt
  rcases hj with hj | hj | hj
  ·exact hA.far j hj
  ·simp [Value.ownBlock] at hj
  ·have e : w2.heap.size = j:=by
    rw [m3] at hj
    simpa [Value.ownBlock] using hj
   subst e
   exact ⟨by simp,by omega,by omega,fun e=>by have:=(hK.own.lt _ e.symm).2;omega⟩
 ·have hb:=bel1 w2 (.cells #[.int .i64 (z1 : Int),.int .i64 (z2 : Int)] 3)
  exact hK2.trans ⟨hb.os,hb.tape,hb.output,hb.size,fun k hk'=>hb.block k (hK.far k hk').1⟩
set_option maxHeartbeats 8000000 in
theorem p_node {n gb go : Nat} {p : Nat -> NP} {H : Nat -> ND} (mxb kb mb : Nat) (ov : Value) (D : DataW Unit) (L0 : List Qn) (keep : Nat -> Prop) (ta : Option Addr) (tc : Nat) (a b : Nat) (mt : Bool) (w : World) (h : KnQ w kb mb ov D (L0.map flipQ) keep)
  (hG : ∀ w',Kept keep w w' -> NodesAt w' ta gb go n p H /\ w'.cell? ⟨mxb,0,none⟩ = some (.slice ta n tc)) (hkm : keep mxb) (ha : a < n) (hb : b < n) (hH : GoodH n H) (hL : L0.length <= 1000000) :
  Calls Tryz.prog 111 #[.pointer (some ⟨mxb,0,none⟩),.agg #[.int .i64 (a : Int),.int .i64 (b : Int),.bool mt],.pointer (some ⟨kb,0,none⟩)] w (MadeP w kb mb keep n (H a) (H b) (!mt) L0):=by
 have HH : Hid (KnQ w kb mb ov D (L0.map flipQ) keep):=h
 have HG : Hid (∀ w',Kept keep w w' -> NodesAt w' ta gb go n p H /\ w'.cell? ⟨mxb,0,none⟩ = some (.slice ta n tc)):=hG
 have HHH : Hid (GoodH n H):=hH
 obtain ⟨W0,hW0⟩ : ∃ W0,W0 = (w.alloc (.cells #[.int .i64 (a : Int),.int .i64 (b : Int),.bool mt] 124)).alloc (.cells #[.int .i64 0,.slice none 0 0,.slice none 0 0] 48):=⟨_,rfl⟩
 have BW : Below w.heap.size w W0:=by rw [hW0];exact bel2 _ _ _
 have hz0 : Hid (W0.heap.size = w.heap.size + 1 + 1):=by show _ = _;rw [hW0];simp
 have HFR : Hid (∀ k,keep k -> k < w.heap.size):=fun k hk=>(h.far k hk).1
 have HKB : Hid (∀ w',Below w.heap.size w w' -> Kept keep w w'):=fun w' hb'=>⟨hb'.os,hb'.tape,hb'.output,hb'.size,fun k hk=>hb'.block k ((h.far k hk).1)⟩
 obtain ⟨NG,s0⟩:=hG W0 (HKB.out _ BW)
 have RP : W0.rowIs w.heap.size 124 3 (v3 (.int .i64 (a : Int)) (.int .i64 (b : Int)) (.bool mt)):=by rw [hW0];exact (row3 w _ _ _ _).alloc _
 have RR : W0.rowIs (w.heap.size + 1) 48 3 (v3 (.int .i64 0) (.slice none 0 0) (.slice none 0 0)):=by
  have z:=row3 (w.alloc (.cells #[.int .i64 (a : Int),.int .i64 (b : Int),.bool mt] 124)) (.int .i64 0) (.slice none 0 0) (.slice none 0 0) 48
  rw [World.size_alloc] at z
  rw [hW0];exact z
 have at1:=NG.at_ (by omega)
 subst at1
 have s1 : W0.cell? ⟨w.heap.size,0,none⟩ = some (.int .i64 (a : Int)):=RP.cell (i:=0) (by omega)
 have s2 : W0.cell? ⟨w.heap.size,1,none⟩ = some (.int .i64 (b : Int)):=RP.cell (i:=1) (by omega)
 have a0:=NG.c0 a ha
 have a1:=NG.c1 a ha
 have a2:=NG.c2 a ha
 have b0:=NG.c0 b hb
 have b1:=NG.c1 b hb
 have b2:=NG.c2 b hb
 have lx : (a : Int) < (n : Int):=by omega
 have ly : (b : Int) < (n : Int):=by omega
 have hn4:=hH.n
 have HBW : Hid (Below w.heap.size w W0):=BW
 have HRP : Hid (W0.rowIs w.heap.size 124 3 (v3 (.int .i64 (a : Int)) (.int .i64 (b : Int)) (.bool mt))):=RP
 have HRR : Hid (W0.rowIs (w.heap.size + 1) 48 3 (v3 (.int .i64 0) (.slice none 0 0) (.slice none 0 0))):=RR
 have HSA : Hid (ShQ (H a)):=⟨fun j hj=>(hH.kids a ha j hj).1,hH.nk4 ha,hH.nk3 ha,by have:=hH.nn ha;omega⟩
 have HSB : Hid (ShQ (H b)):=⟨fun j hj=>(hH.kids b hb j hj).1,hH.nk4 hb,hH.nk3 hb,by have:=hH.nn hb;omega⟩
 have HMA : Hid (∀ j,j < (H a).nk -> kid (H a) j < 4611686018427387904):=fun j hj=>by have:=hH.kids.lt ha hj;omega
 have HMB : Hid (∀ j,j < (H b).nk -> kid (H b) j < 4611686018427387904):=fun j hj=>by have:=hH.kids.lt hb hj;omega
 clear h hG hH NG RP RR BW
 go_enter Tryz.func111,Tryz.ntmps111
 go_wp2_with fail
 rw [<- hW0]
 clear hW0
 go_cut [7,8] (fun s7 s8 wc=>∃ bx cy : Nat,s7 = .pointer (some ⟨bx,0,none⟩) /\ s8 = .pointer (some ⟨cy,0,none⟩) /\ bx ≠ cy /\ W0.heap.size <= bx /\ bx < wc.heap.size /\ W0.heap.size <= cy /\ cy < wc.heap.size /\ Hid (Below W0.heap.size W0 wc) /\ Hid (wc.rowIs bx 48 3 (v3 (.int .i64 (H a).kind) (.slice (p a).a1 (H a).nn (p a).c1) (.slice (p a).a2 (H a).nk (p a).c2))) /\
  Hid (wc.rowIs cy 48 3 (v3 (.int .i64 (H b).kind) (.slice (p b).a1 (H b).nn (p b).c1) (.slice (p b).a2 (H b).nk (p b).c2))))
 case first=>
  go_region_held3 (fun w'=>w'.cell? ⟨mxb,0,none⟩ = some (.slice (some ⟨gb,go,none⟩) n tc) /\ w'.cell? ⟨w.heap.size,0,none⟩ = some (.int .i64 (a : Int)) /\ w'.cell? ⟨w.heap.size,1,none⟩ = some (.int .i64 (b : Int)) /\
   w'.cell? ⟨gb,go + a * 3,none⟩ = some (.int .i64 (H a).kind) /\ w'.cell? ⟨gb,go + a * 3 + 1,none⟩ = some (.slice (p a).a1 (H a).nn (p a).c1) /\ w'.cell? ⟨gb,go + a * 3 + 2,none⟩ = some (.slice (p a).a2 (H a).nk (p a).c2) /\
   w'.cell? ⟨gb,go + b * 3,none⟩ = some (.int .i64 (H b).kind) /\ w'.cell? ⟨gb,go + b * 3 + 1,none⟩ = some (.slice (p b).a1 (H b).nn (p b).c1) /\ w'.cell? ⟨gb,go + b * 3 + 2,none⟩ = some (.slice (p b).a2 (H b).nk (p b).c2)) (go_keep) (fail)
  all_goals
   go_wp2
   go_meet
   case rel=>
    have R1:=two_rowsT W0 (.int .i64 (H a).kind) (.slice (p a).a1 (H a).nn (p a).c1) (.slice (p a).a2 (H a).nk (p a).c2) (.int .i64 (H b).kind) (.slice (p b).a1 (H b).nn (p b).c1) (.slice (p b).a2 (H b).nk (p b).c2) 48
    have R2:=two_rowsT W0 (.int .i64 (H b).kind) (.slice (p b).a1 (H b).nn (p b).c1) (.slice (p b).a2 (H b).nk (p b).c2) (.int .i64 (H a).kind) (.slice (p a).a1 (H a).nn (p a).c1) (.slice (p a).a2 (H a).nk (p a).c2) 48
    first
     | exact ⟨W0.heap.size,W0.heap.size + 1,rfl,rfl,by omega,by omega,by simp;omega,by omega,by simp,(bel2 _ _ _).drew,R1.1.drew,R1.2.drew⟩
     | exact ⟨W0.heap.size + 1,W0.heap.size,rfl,rfl,by omega,by omega,by simp,by omega,by simp;omega,(bel2 _ _ _).drew,R2.2.drew,R2.1.drew⟩
 case rest=>
  obtain ⟨bx,cy,rfl,rfl,hxy,hbx,hbx',hcy,hcy',HBC,HRX,HRY⟩:=hcut
  have hzz:=hz0.out
  have HWC : Hid (Below w.heap.size w wc):=HBW.out.trans (HBC.out.mono HBW.out.size)
  have k0 : wc.cell? ⟨bx,0,none⟩ = some (.int .i64 (H a).kind):=HRX.out.cell (i:=0) (by omega)
  have k1 : wc.cell? ⟨bx,1,none⟩ = some (.slice (p a).a1 (H a).nn (p a).c1):=HRX.out.cell (i:=1) (by omega)
  have k2 : wc.cell? ⟨bx,2,none⟩ = some (.slice (p a).a2 (H a).nk (p a).c2):=HRX.out.cell (i:=2) (by omega)
  have m0 : wc.cell? ⟨cy,0,none⟩ = some (.int .i64 (H b).kind):=HRY.out.cell (i:=0) (by omega)
  have m1 : wc.cell? ⟨cy,1,none⟩ = some (.slice (p b).a1 (H b).nn (p b).c1):=HRY.out.cell (i:=1) (by omega)
  have m2 : wc.cell? ⟨cy,2,none⟩ = some (.slice (p b).a2 (H b).nk (p b).c2):=HRY.out.cell (i:=2) (by omega)
  have RPc:=HRP.out.of_block (HBC.out.block w.heap.size (by omega))
  have RRc:=HRR.out.of_block (HBC.out.block (w.heap.size + 1) (by omega))
  have q2 : wc.cell? ⟨w.heap.size,2,none⟩ = some (.bool mt):=RPc.cell (i:=2) (by omega)
  have r0 : wc.cell? ⟨w.heap.size + 1,0,none⟩ = some (.int .i64 0):=RRc.cell (i:=0) (by omega)
  have r1 : wc.cell? ⟨w.heap.size + 1,1,none⟩ = some (.slice none 0 0):=RRc.cell (i:=1) (by omega)
  have r2 : wc.cell? ⟨w.heap.size + 1,2,none⟩ = some (.slice none 0 0):=RRc.cell (i:=2) (by omega)
  have t0:=RRc.frozen 0
  have t1:=RRc.frozen 1
  have t2:=RRc.frozen 2
  have hws:=HWC.out.size
  have HKN : Hid (KnQ wc kb mb ov D (L0.map flipQ) (fun j=>keep j \/ (w.heap.size <= j /\ j < wc.heap.size))):=by
   have hB:=HH.out.below HWC.out
   have q1:=HH.out.row.lt
   have q3:=HH.out.mlt
   refine ⟨hB.row,hB.mlt,hB.map,hB.has,hB.val,hB.own,fun j hj=>?_⟩
   rcases hj with hj | hj
   ·exact hB.far j hj
   ·exact ⟨hj.2,by omega,by omega,fun e=>by have:=(HH.out.own.lt j e.symm).2;omega⟩
  have HKE : Hid (Kept keep w wc):=HKB.out _ HWC.out
  have HPL : Hid (∀ k,mixK (H a) (H b) = k /\ mixN (H a) (H b) (!mt) = [] /\ mixQ (H a) (H b) (!mt) = [] -> MadeP w kb mb keep n (H a) (H b) (!mt) L0 (.returned (.agg #[.int .i64 k,.slice none 0 0,.slice none 0 0])) (((wc.setCell ⟨w.heap.size + 1,0,none⟩ (.int .i64 k)).setCell ⟨w.heap.size + 1,1,none⟩ (.slice none 0 0)).setCell ⟨w.heap.size + 1,2,none⟩ (.slice none 0 0))):=fun k hk=>
   made_set (wc:=wc) (keep':=fun j=>keep j \/ (w.heap.size <= j /\ j < wc.heap.size)) (made_none hk HKN.out ⟨rfl,rfl,rfl,Nat.le_refl _,fun _ _=>rfl⟩) (fun j hj=>Or.inl hj) (Or.inr ⟨by omega,by omega⟩) (by omega) (by omega) HKE.out HFR.out
  have HNN : Hid (∀ w',Kept (fun j=>keep j \/ (w.heap.size <= j /\ j < wc.heap.size)) wc w' -> NodeAt w' (p a) (H a) /\ NodeAt w' (p b) (H b) /\ w'.cell? ⟨mxb,0,none⟩ = some (.slice (some ⟨gb,go,none⟩) n tc)):=fun w' hk=>by
   obtain ⟨z,z2⟩:=HG.out w' (HKE.out.trans ⟨hk.os,hk.tape,hk.output,hk.size,fun k h=>hk.block k (Or.inl h)⟩)
   exact ⟨z.node a ha,z.node b hb,z2⟩
  clear s0 s1 s2 a0 a1 a2 b0 b1 b2
  by_cases kd : (H a).kind = (H b).kind
  case neg=>
   have bkd : ((H a).kind != (H b).kind) = true:=by rw [bne_iff_ne];exact kd
   have F:=HPL.out 0 (mixed_noneT _ kd)
   have HF : Hid _:=F
   clear F kd HKN HPL
   go_wp2
   exact bodyPost_ret (v:=.agg #[.int .i64 0,.slice none 0 0,.slice none 0 0]) (by simp [results,Tryz.results111,go_sem,r0,r1,r2]) rfl HF.out
  have bkd : ((H a).kind != (H b).kind) = false:=by rw [bne_eq_false_iff_eq];exact kd
  have HKD : Hid ((H a).kind = (H b).kind):=kd
  by_cases k3 : (H a).kind = 3
  ·have HK3 : Hid ((H a).kind = 3):=k3
   have HK3b : Hid ((H b).kind = 3):=kd.symm.trans k3
   have b3 : ((H a).kind == 3) = true:=by rw [beq_iff_eq];exact k3
   have HC : Hid (Calls Tryz.prog 126 #[.pointer (some ⟨mxb,0,none⟩),.agg #[.int .i64 (H a).kind,.slice (p a).a1 (H a).nn (p a).c1,.slice (p a).a2 (H a).nk (p a).c2],.agg #[.int .i64 (H b).kind,.slice (p b).a1 (H b).nn (p b).c1,.slice (p b).a2 (H b).nk (p b).c2],.bool mt,.pointer (some ⟨kb,0,none⟩)] wc (MadeP wc kb mb (fun j=>keep j \/ (w.heap.size <= j /\ j < wc.heap.size)) n (H a) (H b) (!mt) L0)):=
    p_record mxb kb mb ov D L0 _ (some ⟨gb,go,none⟩) n tc (p a) (p b) (H a) (H b) mt wc HKN.out HNN.out (Or.inl hkm) HSA.out HSB.out HK3.out HK3b.out (by omega) (by omega) HMA.out HMB.out
   clear kd k3 HKN HPL
   go_wp2_with fail
   refine HC.out.mono ?_
   intro e w1 hM
   have HM : Hid (MadeP wc kb mb (fun j=>keep j \/ (w.heap.size <= j /\ j < wc.heap.size)) n (H a) (H b) (!mt) L0 e w1):=hM
   obtain ⟨na,nc,ka,kc,ov1,D1,rfl,_,_,_,_,KP⟩:=hM
   have RR1:=RRc.of_block (KP.block (w.heap.size + 1) (Or.inr ⟨by omega,by omega⟩))
   have x0 : w1.cell? ⟨w.heap.size + 1,0,none⟩ = some (.int .i64 0):=RR1.cell (i:=0) (by omega)
   have x1 : w1.cell? ⟨w.heap.size + 1,1,none⟩ = some (.slice none 0 0):=RR1.cell (i:=1) (by omega)
   have x2 : w1.cell? ⟨w.heap.size + 1,2,none⟩ = some (.slice none 0 0):=RR1.cell (i:=2) (by omega)
   have y0:=RR1.frozen 0
   have y1:=RR1.frozen 1
   have y2:=RR1.frozen 2
   obtain ⟨l1,hl1⟩ : ∃ l,l = (mixN (H a) (H b) (!mt)).length:=⟨_,rfl⟩
   obtain ⟨l2,hl2⟩ : ∃ l,l = (mixQ (H a) (H b) (!mt)).length:=⟨_,rfl⟩
   obtain ⟨kk,hkk⟩ : ∃ l,l = mixK (H a) (H b):=⟨_,rfl⟩
   rw [<- hl1,<- hl2,<- hkk] at HM
   rw [<- hl1,<- hl2,<- hkk]
   have HF : Hid (MadeP w kb mb keep n (H a) (H b) (!mt) L0 (.returned (.agg #[.int .i64 kk,.slice na l1 nc,.slice ka l2 kc])) (((w1.setCell ⟨w.heap.size + 1,0,none⟩ (.int .i64 kk)).setCell ⟨w.heap.size + 1,1,none⟩ (.slice na l1 nc)).setCell ⟨w.heap.size + 1,2,none⟩ (.slice ka l2 kc))):=
    made_set (wc:=wc) (keep':=fun j=>keep j \/ (w.heap.size <= j /\ j < wc.heap.size)) HM.out (fun j hj=>Or.inl hj) (Or.inr ⟨by omega,by omega⟩) (by omega) (by omega) HKE.out HFR.out
   clear hl1 hl2 hkk HM KP RR1 RRc RPc r0 r1 r2 t0 t1 t2
   go_wp2
   exact bodyPost_ret (v:=.agg #[.int .i64 kk,.slice na l1 nc,.slice ka l2 kc]) (by simp [results,Tryz.results111,go_sem,x0,x1,x2]) rfl HF.out
  have b3 : ((H a).kind == 3) = false:=beq_eq_false_iff_ne.2 k3
  by_cases k4 : (H a).kind = 4
  case neg=>
   have b4 : ((H a).kind == 4) = false:=beq_eq_false_iff_ne.2 k4
   have F:=HPL.out (H a).kind (mixed_plain _ kd k4 k3)
   have HF : Hid _:=F
   clear F kd k3 k4 HKN HPL
   go_wp2
   exact bodyPost_ret (v:=.agg #[.int .i64 (H a).kind,.slice none 0 0,.slice none 0 0]) (by simp [results,Tryz.results111,go_sem,r0,r1,r2]) rfl HF.out
  have b4 : ((H a).kind == 4) = true:=by rw [beq_iff_eq];exact k4
  have k4b : (H b).kind = 4:=kd.symm.trans k4
  have HK4 : Hid ((H a).kind = 4 /\ (H b).kind = 4):=⟨k4,k4b⟩
  have x2 : (H a).nk = 2:=HSA.out.fn k4
  have y2 : (H b).nk = 2:=HSB.out.fn k4b
  rw [x2] at k2
  rw [y2] at m2
  have HCE : Hid (∀ w',Kept (fun j=>keep j \/ (w.heap.size <= j /\ j < wc.heap.size)) wc w' -> w'.cell? ⟨bx,2,none⟩ = some (.slice (some ⟨(p a).b2,(p a).o2,none⟩) 2 (p a).c2) /\ w'.cell? ⟨cy,2,none⟩ = some (.slice (some ⟨(p b).b2,(p b).o2,none⟩) 2 (p b).c2) /\ w'.cell? ⟨(p a).b2,(p a).o2,none⟩ = some (.int .i64 (kid (H a) 0 : Int)) /\ w'.cell? ⟨(p b).b2,(p b).o2,none⟩ = some (.int .i64 (kid (H b) 0 : Int)) /\ w'.cell? ⟨(p a).b2,(p a).o2 + 1,none⟩ = some (.int .i64 (kid (H a) 1 : Int)) /\ w'.cell? ⟨(p b).b2,(p b).o2 + 1,none⟩ = some (.int .i64 (kid (H b) 1 : Int)) /\ w'.cell? ⟨w.heap.size,2,none⟩ = some (.bool mt)):=fun w' hk=>by
   obtain ⟨NX,NY,_⟩:=HNN.out w' hk
   have ka0 : (H a).kd 0 = ((kid (H a) 0 : Nat) : Int):=by have:=HSA.out.kids 0 (by omega);unfold kid;omega
   have ka1 : (H a).kd 1 = ((kid (H a) 1 : Nat) : Int):=by have:=HSA.out.kids 1 (by omega);unfold kid;omega
   have kb0 : (H b).kd 0 = ((kid (H b) 0 : Nat) : Int):=by have:=HSB.out.kids 0 (by omega);unfold kid;omega
   have kb1 : (H b).kd 1 = ((kid (H b) 1 : Nat) : Int):=by have:=HSB.out.kids 1 (by omega);unfold kid;omega
   have e1 : w'.cell? ⟨bx,2,none⟩ = some (.slice (p a).a2 2 (p a).c2):=(hk.cell (a:=⟨bx,2,none⟩) (Or.inr ⟨by show w.heap.size <= bx;omega,hbx'⟩)).trans k2
   have e2 : w'.cell? ⟨cy,2,none⟩ = some (.slice (p b).a2 2 (p b).c2):=(hk.cell (a:=⟨cy,2,none⟩) (Or.inr ⟨by show w.heap.size <= cy;omega,hcy'⟩)).trans m2
   rw [NX.kids.at_ (by omega)] at e1
   rw [NY.kids.at_ (by omega)] at e2
   have c1:=NX.kids.cell 0 (by omega)
   have c2:=NY.kids.cell 0 (by omega)
   have c3:=NX.kids.cell 1 (by omega)
   have c4:=NY.kids.cell 1 (by omega)
   rw [ka0] at c1
   rw [kb0] at c2
   rw [ka1] at c3
   rw [kb1] at c4
   exact ⟨e1,e2,c1,c2,c3,c4,(hk.cell (a:=⟨w.heap.size,2,none⟩) (Or.inr ⟨Nat.le_refl _,by show w.heap.size < wc.heap.size;omega⟩)).trans q2⟩
  obtain ⟨xa,ya,ca0,cb0,ca1,cb1,cq⟩:=HCE.out wc ⟨rfl,rfl,rfl,Nat.le_refl _,fun _ _=>rfl⟩
  have HS0 : Hid (SmQ (⟨kid (H a) 0,kid (H b) 0,!mt⟩ : Qn) /\ SmQ (⟨kid (H a) 1,kid (H b) 1,mt⟩ : Qn)):=⟨⟨HMA.out 0 (by omega),HMB.out 0 (by omega)⟩,⟨HMA.out 1 (by omega),HMB.out 1 (by omega)⟩⟩
  have HFQ0 : Hid (flipQ (⟨kid (H a) 0,kid (H b) 0,!(!mt)⟩ : Qn) = ⟨kid (H a) 0,kid (H b) 0,!mt⟩):=by show _ = _;unfold flipQ;simp
  have HFQ1 : Hid (flipQ (⟨kid (H a) 1,kid (H b) 1,!mt⟩ : Qn) = ⟨kid (H a) 1,kid (H b) 1,mt⟩):=by show _ = _;unfold flipQ;simp
  have HC1 : Hid (∀ t,Calls Tryz.prog 127 #[.pointer (some ⟨mxb,0,none⟩),.pointer (some ⟨kb,0,none⟩),.int .i64 (kid (H a) 0 : Int),.int .i64 (kid (H b) 0 : Int),.bool (!mt)] (wc.drewN t) fun e w1=>∃ z1 : Nat,e = .returned (.int .i64 (z1 : Int)) /\ (w1.cell? ⟨bx,2,none⟩ = some (.slice (some ⟨(p a).b2,(p a).o2,none⟩) 2 (p a).c2) /\ w1.cell? ⟨cy,2,none⟩ = some (.slice (some ⟨(p b).b2,(p b).o2,none⟩) 2 (p b).c2) /\ w1.cell? ⟨(p a).b2,(p a).o2,none⟩ = some (.int .i64 (kid (H a) 0 : Int)) /\ w1.cell? ⟨(p b).b2,(p b).o2,none⟩ = some (.int .i64 (kid (H b) 0 : Int)) /\ w1.cell? ⟨(p a).b2,(p a).o2 + 1,none⟩ = some (.int .i64 (kid (H a) 1 : Int)) /\ w1.cell? ⟨(p b).b2,(p b).o2 + 1,none⟩ = some (.int .i64 (kid (H b) 1 : Int)) /\ w1.cell? ⟨w.heap.size,2,none⟩ = some (.bool mt)) /\
    Hid (∀ t,Calls Tryz.prog 127 #[.pointer (some ⟨mxb,0,none⟩),.pointer (some ⟨kb,0,none⟩),.int .i64 (kid (H a) 1 : Int),.int .i64 (kid (H b) 1 : Int),.bool mt] (w1.drewN t) fun e w2=>∃ z2 : Nat,e = .returned (.int .i64 (z2 : Int)) /\ (w2.cell? ⟨bx,2,none⟩ = some (.slice (some ⟨(p a).b2,(p a).o2,none⟩) 2 (p a).c2) /\ w2.cell? ⟨cy,2,none⟩ = some (.slice (some ⟨(p b).b2,(p b).o2,none⟩) 2 (p b).c2) /\ w2.cell? ⟨(p a).b2,(p a).o2 + 1,none⟩ = some (.int .i64 (kid (H a) 1 : Int)) /\ w2.cell? ⟨(p b).b2,(p b).o2 + 1,none⟩ = some (.int .i64 (kid (H b) 1 : Int)) /\ w2.cell? ⟨w.heap.size,2,none⟩ = some (.bool mt)) /\
     Hid (∀ t,((w2.drewN t).alloc (.cells #[.int .i64 (z1 : Int),.int .i64 (z2 : Int)] 3)).rowIs (w.heap.size + 1) 48 3 (v3 (.int .i64 0) (.slice none 0 0) (.slice none 0 0)) /\ MadeP w kb mb keep n (H a) (H b) (!mt) L0 (.returned (.agg #[.int .i64 4,.slice none 0 0,.slice (some ⟨w2.heap.size,0,none⟩) 2 2])) (((((w2.drewN t).alloc (.cells #[.int .i64 (z1 : Int),.int .i64 (z2 : Int)] 3)).setCell ⟨w.heap.size + 1,0,none⟩ (.int .i64 4)).setCell ⟨w.heap.size + 1,1,none⟩ (.slice none 0 0)).setCell ⟨w.heap.size + 1,2,none⟩ (.slice (some ⟨w2.heap.size,0,none⟩) 2 2))))):=fun t=>by
   refine (p_kid mxb kb mb ov D (L0.map flipQ) _ (some ⟨gb,go,none⟩) n tc ⟨kid (H a) 0,kid (H b) 0,!mt⟩ (wc.drewN t) (HKN.out.below (below_drewN' _ _)) ((HNN.out _ (kept_drewN _ _)).2.2) (Or.inl hkm) HS0.out.1 (by rw [List.length_map];omega) (by omega)).mono ?_
   rintro e w1 ⟨ov1,D1,rfl,K1,KP1⟩
   have kp1 : Kept (fun j=>keep j \/ (w.heap.size <= j /\ j < wc.heap.size)) wc w1:=(kept_drewN _ _).trans KP1
   refine ⟨_,rfl,HCE.out w1 kp1,fun t2=>?_⟩
   have hl1 : (addM (L0.map flipQ) ⟨kid (H a) 0,kid (H b) 0,!mt⟩).length <= 90000000:=by have:=addM_len (L0.map flipQ) ⟨kid (H a) 0,kid (H b) 0,!mt⟩;rw [List.length_map] at this;omega
   refine (p_kid mxb kb mb ov1 D1 _ _ (some ⟨gb,go,none⟩) n tc ⟨kid (H a) 1,kid (H b) 1,mt⟩ (w1.drewN t2) (K1.below (below_drewN' _ _)) ((HNN.out _ (kp1.trans (kept_drewN _ _))).2.2) (Or.inl hkm) HS0.out.2 hl1 (by omega)).mono ?_
   rintro e w2 ⟨ov2,D2,rfl,K2,KP2⟩
   have kp2 : Kept (fun j=>keep j \/ (w.heap.size <= j /\ j < wc.heap.size)) wc w2:=kp1.trans ((kept_drewN _ _).trans KP2)
   obtain ⟨v1,v2,_,_,v3',v4,v5⟩:=HCE.out w2 kp2
   refine ⟨_,rfl,⟨v1,v2,v3',v4,v5⟩,fun t3=>⟨?_,?_⟩⟩
   ·exact (RRc.of_block (kp2.block (w.heap.size + 1) (Or.inr ⟨by omega,by omega⟩))).alloc _
   ·have A1 : addM (L0.map flipQ) ⟨kid (H a) 0,kid (H b) 0,!mt⟩ = (addQ L0 (.qn ⟨kid (H a) 0,kid (H b) 0,!(!mt)⟩)).map flipQ:=by rw [<- HFQ0.out,addM_flip]
    have A2 : addM ((addQ L0 (.qn ⟨kid (H a) 0,kid (H b) 0,!(!mt)⟩)).map flipQ) ⟨kid (H a) 1,kid (H b) 1,mt⟩ = (addQ (addQ L0 (.qn ⟨kid (H a) 0,kid (H b) 0,!(!mt)⟩)) (.qn ⟨kid (H a) 1,kid (H b) 1,!mt⟩)).map flipQ:=by rw [<- HFQ1.out,addM_flip]
    refine made_fun (w:=w) (wc:=wc) (w2:=w2.drewN t3) (kb:=kb) (mb:=mb) (B:=w.heap.size + 1) (keep:=keep) (keep':=fun j=>keep j \/ (w.heap.size <= j /\ j < wc.heap.size)) (n:=n) (x:=H a) (y:=H b) (mt:=mt) (L0:=L0) (ov:=ov2) (D:=D2) HK4.out.1 HK4.out.2 ?_ (fun j hj=>Or.inl hj) (Or.inr ⟨by omega,by omega⟩) (by omega) (by omega) HKE.out (kp2.trans (kept_drewN _ _)) HFR.out ?_ ?_
    ·have:=K2.below (below_drewN' w2 t3)
     rw [A1,A2] at this
     exact this
    ·rw [A1,<- HFQ0.out,idx_flip]
    ·rw [A1,A2,<- HFQ1.out,idx_flip]
  clear kd k3 k4 k4b HKN HPL HCE HS0 HFQ0 HFQ1 HNN k2 m2 q2 RPc
  go_wp2
  go_region_held3 (fun w'=>w'.cell? ⟨bx,2,none⟩ = some (.slice (some ⟨(p a).b2,(p a).o2,none⟩) 2 (p a).c2) /\ w'.cell? ⟨cy,2,none⟩ = some (.slice (some ⟨(p b).b2,(p b).o2,none⟩) 2 (p b).c2) /\ w'.cell? ⟨(p a).b2,(p a).o2,none⟩ = some (.int .i64 (kid (H a) 0 : Int)) /\ w'.cell? ⟨(p b).b2,(p b).o2,none⟩ = some (.int .i64 (kid (H b) 0 : Int)) /\ w'.cell? ⟨w.heap.size,2,none⟩ = some (.bool mt)) (go_keep)
   (first
    | (go_at_call 127;refine (HC1.out _).mono ?_;rintro e w1 ⟨z1,rfl,⟨d1,d2,d3,d4,d5,d6,d7⟩,HC2⟩))
  all_goals
   clear HC1 xa ya ca0 cb0 ca1 cb1 cq r0 r1 r2 t0 t1 t2
   go_wp2
   go_region_held3 (fun w'=>w'.cell? ⟨bx,2,none⟩ = some (.slice (some ⟨(p a).b2,(p a).o2,none⟩) 2 (p a).c2) /\ w'.cell? ⟨cy,2,none⟩ = some (.slice (some ⟨(p b).b2,(p b).o2,none⟩) 2 (p b).c2) /\ w'.cell? ⟨(p a).b2,(p a).o2 + 1,none⟩ = some (.int .i64 (kid (H a) 1 : Int)) /\ w'.cell? ⟨(p b).b2,(p b).o2 + 1,none⟩ = some (.int .i64 (kid (H b) 1 : Int)) /\ w'.cell? ⟨w.heap.size,2,none⟩ = some (.bool mt)) (go_keep)
    (first
     | (go_at_call 127;refine (HC2.out _).mono ?_;rintro e w2 ⟨z2,rfl,⟨f1,f2,f3,f4,f5⟩,HFN⟩))
   all_goals
    have Z0:=HFN.out 0
    have RZ:=Z0.1
    have g0 : (w2.alloc (.cells #[.int .i64 (z1 : Int),.int .i64 (z2 : Int)] 3)).cell? ⟨w.heap.size + 1,0,none⟩ = some (.int .i64 0):=RZ.cell (i:=0) (by omega)
    have g1 : (w2.alloc (.cells #[.int .i64 (z1 : Int),.int .i64 (z2 : Int)] 3)).cell? ⟨w.heap.size + 1,1,none⟩ = some (.slice none 0 0):=RZ.cell (i:=1) (by omega)
    have g2 : (w2.alloc (.cells #[.int .i64 (z1 : Int),.int .i64 (z2 : Int)] 3)).cell? ⟨w.heap.size + 1,2,none⟩ = some (.slice none 0 0):=RZ.cell (i:=2) (by omega)
    have y0 : (w2.alloc (.cells #[.int .i64 (z1 : Int),.int .i64 (z2 : Int)] 3)).frozen? ⟨w.heap.size + 1,0,none⟩ = false:=RZ.frozen 0
    have y1 : (w2.alloc (.cells #[.int .i64 (z1 : Int),.int .i64 (z2 : Int)] 3)).frozen? ⟨w.heap.size + 1,1,none⟩ = false:=RZ.frozen 1
    have y2' : (w2.alloc (.cells #[.int .i64 (z1 : Int),.int .i64 (z2 : Int)] 3)).frozen? ⟨w.heap.size + 1,2,none⟩ = false:=RZ.frozen 2
    clear Z0 RZ d1 d2 d3 d4 d5 d6 d7 f1 f2 f3 f4 f5
    go_wp2
    exact bodyPost_ret (v:=.agg #[.int .i64 4,.slice none 0 0,.slice (some ⟨w2.heap.size,0,none⟩) 2 2]) (by simp [results,Tryz.results111,go_sem,g0,g1,g2]) rfl (by first | exact (HFN.out 0).2 | exact (HFN.out 1).2 | exact (HFN.out _).2)
def mkeep (keep : Nat -> Prop) (mxb : Nat) (vm : Value) (k : Nat) (np : Nat -> NP) (nd : Nat -> ND) : Nat -> Prop:=fun j=>keep j \/ j = mxb \/ vm.ownBlock = some j \/ ∃ i,i < k /\ ((0 < (nd i).nn /\ j = (np i).b1) \/ (0 < (nd i).nk /\ j = (np i).b2))
structure MS (w : World) (keep : Nat -> Prop) (kb mb mxb : Nat) (ta : Option Addr) (n tc : Nat) (H : Nat -> ND) (q0 : Qn) (k : Nat) (ov : Value) (D : DataW Unit) (ma : Option Addr) (mc : Nat) (np : Nat -> NP) : Prop where
 kn : KnQ w kb mb ov D ((qsTill H q0 k).map flipQ) (mkeep keep mxb (.slice ma k mc) k np (ndQ n H q0))
 row : w.rowIs mxb 121 2 (v2 (.slice ta n tc) (.slice ma k mc))
 own : w.ownsRow (mxb + 1) 48 3 (.slice ma k mc) k (ncells np (ndQ n H q0) k)
 node : ∀ i,i < k -> NodeAt w (np i) (ndQ n H q0 i)
 apart : ∀ i,i < k -> (0 < (ndQ n H q0 i).nn -> some (np i).b1 ≠ (Value.slice ma k mc).ownBlock /\ (np i).b1 ≠ mxb) /\ (0 < (ndQ n H q0 i).nk -> some (np i).b2 ≠ (Value.slice ma k mc).ownBlock /\ (np i).b2 ≠ mxb)
 old : ∀ j,keep j -> j < mxb
theorem mixN_memU {H : Nat -> ND} {a b : Nat} {up : Bool} {s : ByteArray} (hs : s ∈ mixN (H a) (H b) up) : (∃ i,i < (H a).nn /\ s = (H a).nm i) \/ (∃ i,i < (H b).nn /\ s = (H b).nm i):=by
 unfold mixN at hs
 by_cases e : (H a).kind = (H b).kind /\ (H a).kind = 3
 ·rw [if_pos e] at hs
  obtain ⟨p,hp,rfl⟩:=List.mem_map.1 hs
  rcases mixF_mem _ _ _ _ hp with ⟨c,hc,e2,_⟩ | ⟨c,hc,e2,_⟩ | ⟨c,d,hc,hd,e2,_⟩
  ·exact Or.inl ⟨c,hc,e2⟩
  ·exact Or.inr ⟨c,hc,e2⟩
  ·exact Or.inl ⟨c,hc,e2⟩
 ·rw [if_neg e] at hs;simp at hs
theorem ms_step {w w1 w3 : World} {keep : Nat -> Prop} {kb mb mxb n tc k : Nat} {ta : Option Addr} {H : Nat -> ND} {q0 : Qn} {ov ov1 : Value} {D D1 : DataW Unit} {ma : Option Addr} {mc : Nat} {np : Nat -> NP} {o : Obj} {gg cap3 l1 l2 : Nat} {na : Option Addr} {nc : Nat} {ka : Option Addr} {kc : Nat}
  (h : MS w keep kb mb mxb ta n tc H q0 k ov D ma mc np) (hl1 : l1 = (mixN (H (qAt H q0 k).a) (H (qAt H q0 k).b) (qAt H q0 k).up).length) (hl2 : l2 = (mixQ (H (qAt H q0 k).a) (H (qAt H q0 k).b) (qAt H q0 k).up).length)
  (h2 : w1.ownsRow w.heap.size 9 1 (.slice na l1 nc) l1 (tcells (mixN (H (qAt H q0 k).a) (H (qAt H q0 k).b) (qAt H q0 k).up)))
  (h3 : w1.ownsRow w.heap.size 3 1 (.slice ka l2 kc) l2 (zcells ((mixQ (H (qAt H q0 k).a) (H (qAt H q0 k).b) (qAt H q0 k).up).map fun k'=>(numK n (qsTill H q0 (k + 1)) k' : Int))))
  (h5 : KnQ w1 kb mb ov1 D1 ((qsTill H q0 (k + 1)).map flipQ) (fun j=>mkeep keep mxb (.slice ma k mc) k np (ndQ n H q0) j \/ (Value.slice na l1 nc).ownBlock = some j \/ (Value.slice ka l2 kc).ownBlock = some j))
  (h6 : Kept (mkeep keep mxb (.slice ma k mc) k np (ndQ n H q0)) w w1) (hsz : ∀ s,s ∈ mixN (H (qAt H q0 k).a) (H (qAt H q0 k).b) (qAt H q0 k).up -> s.size <= 9223372036854775807)
  (hown : w3.ownsRow (mxb + 1) 48 3 (.slice (some ⟨gg,0,none⟩) (k + 1) cap3) (k + 1) (ncells np (ndQ n H q0) k ++ [.int .i64 (mixK (H (qAt H q0 k).a) (H (qAt H q0 k).b)),.slice na l1 nc,.slice ka l2 kc]))
  (hg : (w1.alloc o).grownBy w3 (Value.slice ma k mc).ownBlock) (hat : (Value.slice ma k mc).ownBlock = some gg \/ gg = w1.heap.size + 1) :
  ∃ np',MS (w3.setCell ⟨mxb,1,none⟩ (.slice (some ⟨gg,0,none⟩) (k + 1) cap3)) keep kb mb mxb ta n tc H q0 (k + 1) ov1 D1 (some ⟨gg,0,none⟩) cap3 np' /\ Kept keep w (w3.setCell ⟨mxb,1,none⟩ (.slice (some ⟨gg,0,none⟩) (k + 1) cap3)):=by
 obtain ⟨g1,S1,o1⟩:=own_strs h2 hsz
 obtain ⟨g2,S2,o2⟩:=own_zs h3
 have far:=h5.far
 have s1:=h6.size
 have s3:=hg.size
 simp only [World.size_alloc] at s3
 have mlt:=h.row.lt
 have vml : ∀ j,(Value.slice ma k mc).ownBlock = some j -> mxb + 1 <= j /\ j < w.heap.size:=fun j e=>h.own.lt j e
 have st : ∀ j,j < w1.heap.size -> some j ≠ (Value.slice ma k mc).ownBlock -> j ≠ mxb -> (w3.setCell ⟨mxb,1,none⟩ (.slice (some ⟨gg,0,none⟩) (k + 1) cap3)).heap[j]? = w1.heap[j]?:=fun j hj h1 h2=>
  (Below.heap_setCell _ _ _ _ (by show j ≠ mxb;exact h2)).trans ((hg.block j (by simp;omega) h1).trans (Below.heap_alloc _ _ _ hj))
 have nm : ∀ j,mxb < j -> some mxb ≠ (Value.slice ma k mc).ownBlock:=fun _ _ e=>by have:=(vml mxb e.symm).1;omega
 have nmx : some mxb ≠ (Value.slice ma k mc).ownBlock:=fun e=>by have:=(vml mxb e.symm).1;omega
 have fm:=far mxb (Or.inl (Or.inr (Or.inl rfl)))
 have fv : ∀ j,(Value.slice ma k mc).ownBlock = some j -> j < w1.heap.size /\ j ≠ kb /\ j ≠ mb /\ some j ≠ ov1.ownBlock:=fun j e=>far j (Or.inl (Or.inr (Or.inr (Or.inl e))))
 have kbl:=h5.row.lt
 have mbl:=h5.mlt
 have gl:=hown.lt gg rfl
 have hsF : (w3.setCell ⟨mxb,1,none⟩ (.slice (some ⟨gg,0,none⟩) (k + 1) cap3)).heap.size = w3.heap.size:=by simp
 have b1lt : ∀ i,i < k -> (0 < (ndQ n H q0 i).nn -> (np i).b1 < w.heap.size) /\ (0 < (ndQ n H q0 i).nk -> (np i).b2 < w.heap.size):=fun i hi=>⟨fun z=>blt ((h.node i hi).names.cell 0 z),fun z=>blt ((h.node i hi).kids.cell 0 z)⟩
 have ggn : ∀ j,j < w1.heap.size -> some j ≠ (Value.slice ma k mc).ownBlock -> some j ≠ (Value.slice (some ⟨gg,0,none⟩) (k + 1) cap3).ownBlock:=fun j hj hn e=>by
  have e2 : j = gg:=by simpa [Value.ownBlock] using e
  subst e2
  rcases hat with q | q
  ·exact hn q.symm
  ·omega
 have nn1 : (ndQ n H q0 k).nn = l1:=hl1.symm
 have nk1 : (ndQ n H q0 k).nk = l2:=hl2.symm
 have new1 : 0 < l1 -> some g1 ≠ (Value.slice ma k mc).ownBlock /\ g1 ≠ mxb:=fun z=>⟨fun e=>by have:=(vml g1 e.symm).2;have:=(o1 z).1;omega,by have:=(o1 z).1;omega⟩
 have new2 : 0 < l2 -> some g2 ≠ (Value.slice ma k mc).ownBlock /\ g2 ≠ mxb:=fun z=>⟨fun e=>by have:=(vml g2 e.symm).2;have:=(o2 z).1;omega,by have:=(o2 z).1;omega⟩
 refine ⟨fun i=>if i = k then ⟨na,g1,0,nc,ka,g2,0,kc⟩ else np i,⟨?_,?_,?_,?_,?_,h.old⟩,?_⟩
 ·refine h5.other (st kb kbl (fun e=>(fv kb e.symm).2.1 rfl) (Ne.symm fm.2.1)) (st mb (by omega) (fun e=>(fv mb e.symm).2.2.1 rfl) (Ne.symm fm.2.2.1)) (fun j e=>st j (h5.own.lt j e).2 (fun e2=>(fv j e2.symm).2.2.2 e.symm) (fun e2=>fm.2.2.2 (by rw [<- e2];exact e.symm))) (fun j hj=>?_)
  rw [hsF]
  have up : ∀ j,(j < w1.heap.size /\ j ≠ kb /\ j ≠ mb /\ some j ≠ ov1.ownBlock) -> j < w3.heap.size /\ j ≠ kb /\ j ≠ mb /\ some j ≠ ov1.ownBlock:=fun j q=>⟨by have:=q.1;omega,q.2⟩
  rcases hj with hj | hj | hj | ⟨i,hi,hj⟩
  ·exact up j (far j (Or.inl (Or.inl hj)))
  ·rw [hj];exact up _ fm
  ·have e : gg = j:=by simpa [Value.ownBlock] using hj
   subst e
   rcases hat with q | q
   ·exact up _ (fv gg q)
   ·exact ⟨gl.2,by omega,by omega,fun e=>by have:=(h5.own.lt gg e.symm).2;omega⟩
  ·by_cases ei : i = k
   ·subst ei
    simp only [if_true] at hj
    rcases hj with ⟨z,e⟩ | ⟨z,e⟩
    ·rw [nn1] at z
     rw [e];exact up _ (far g1 (Or.inr (Or.inl (o1 z).2.2)))
    ·rw [nk1] at z
     rw [e];exact up _ (far g2 (Or.inr (Or.inr (o2 z).2.2)))
   ·simp only [if_neg ei] at hj
    exact up j (far j (Or.inl (Or.inr (Or.inr (Or.inr ⟨i,by omega,hj⟩)))))
 ·have r1:=h.row.of_block (h6.block mxb (Or.inr (Or.inl rfl)))
  have r3:=(r1.alloc o).of_block (hg.block mxb (by simp;omega) nmx)
  refine (r3.set 1 _).congr (fun i hi=>?_)
  match i,hi with
  | 0,_=>rfl
  | 1,_=>rfl
 ·rw [ncells_succ,if_pos rfl,ncells_cong (q':=np) (G':=ndQ n H q0) k (fun i hi=>⟨by rw [if_neg (by omega)],rfl⟩)]
  rw [nn1,nk1]
  exact own_block hown (fun j e=>Below.heap_setCell _ _ _ _ (by have : j = gg:=by simpa [Value.ownBlock] using e
                                                                show j ≠ mxb;omega))
 ·intro i hi
  by_cases ei : i = k
  ·subst ei
   simp only [if_true]
   have N1 : NodeAt w1 ⟨na,g1,0,nc,ka,g2,0,kc⟩ (ndQ n H q0 i):=by
    refine ⟨?_,?_⟩
    ·rw [nn1];exact S1
    ·rw [nk1]
     refine S2.congr (fun j hj=>?_)
     rw [hl2] at hj
     show _ = ((((mixQ (H (qAt H q0 i).a) (H (qAt H q0 i).b) (qAt H q0 i).up).map (numK n (qsTill H q0 (i + 1)))).getD j 0 : Nat) : Int)
     rw [List.getD_eq_getElem?_getD,List.getD_eq_getElem?_getD,List.getElem?_map,List.getElem?_map,List.getElem?_eq_getElem hj]
     rfl
   refine N1.later (fun z=>?_) (fun z=>?_)
   ·rw [nn1] at z;exact st g1 (o1 z).2.1 (new1 z).1 (new1 z).2
   ·rw [nk1] at z;exact st g2 (o2 z).2.1 (new2 z).1 (new2 z).2
  ·simp only [if_neg ei]
   have hi' : i < k:=by omega
   obtain ⟨a1,a2⟩:=h.apart i hi'
   refine (h.node i hi').later (fun z=>?_) (fun z=>?_)
   ·have:=(b1lt i hi').1 z
    exact (st _ (by omega) (a1 z).1 (a1 z).2).trans (h6.block _ (Or.inr (Or.inr (Or.inr ⟨i,hi',Or.inl ⟨z,rfl⟩⟩))))
   ·have:=(b1lt i hi').2 z
    exact (st _ (by omega) (a2 z).1 (a2 z).2).trans (h6.block _ (Or.inr (Or.inr (Or.inr ⟨i,hi',Or.inr ⟨z,rfl⟩⟩))))
 ·intro i hi
  by_cases ei : i = k
  ·subst ei
   simp only [if_true]
   refine ⟨fun z=>?_,fun z=>?_⟩
   ·rw [nn1] at z;exact ⟨ggn g1 (o1 z).2.1 (new1 z).1,(new1 z).2⟩
   ·rw [nk1] at z;exact ⟨ggn g2 (o2 z).2.1 (new2 z).1,(new2 z).2⟩
  ·simp only [if_neg ei]
   have hi' : i < k:=by omega
   obtain ⟨a1,a2⟩:=h.apart i hi'
   refine ⟨fun z=>⟨ggn _ (by have:=(b1lt i hi').1 z;omega) (a1 z).1,(a1 z).2⟩,fun z=>⟨ggn _ (by have:=(b1lt i hi').2 z;omega) (a2 z).1,(a2 z).2⟩⟩
 ·refine ⟨hg.os.trans h6.os,hg.tape.trans h6.tape,hg.output.trans h6.output,by rw [hsF];omega,fun j hj=>?_⟩
  have hjm:=h.old j hj
  exact (st j (by omega) (fun e=>by have:=(vml j e.symm).1;omega) (by omega)).trans (h6.block j (Or.inl hj))
def StepP (w : World) (keep : Nat -> Prop) (kb mb mxb : Nat) (ta : Option Addr) (n tc : Nat) (H : Nat -> ND) (q0 : Qn) (k : Nat) (e : Ending) (w' : World) : Prop:=
 e = .returned (.bool true) /\ ∃ ov D ma mc np,MS w' keep kb mb mxb ta n tc H q0 k ov D ma mc np /\ Kept keep w w'
set_option maxHeartbeats 8000000 in
theorem p_step {n gb go : Nat} {p : Nat -> NP} {H : Nat -> ND} (mxb kb mb : Nat) (ov : Value) (D : DataW Unit) (keep : Nat -> Prop) (ta : Option Addr) (tc : Nat) (q0 : Qn) (k : Nat) (ma : Option Addr) (mc : Nat) (np : Nat -> NP) (w : World) (h : MS w keep kb mb mxb ta n tc H q0 k ov D ma mc np)
  (hG : ∀ w',Kept keep w w' -> NodesAt w' ta gb go n p H) (hH : GoodH n H) (h0 : q0.a < n /\ q0.b < n) (hk : k <= 1000) (hL : (qsTill H q0 k).length <= 1000) :
  Calls Tryz.prog 88 #[.pointer (some ⟨mxb,0,none⟩),.agg #[.int .i64 ((qAt H q0 k).a : Int),.int .i64 ((qAt H q0 k).b : Int),.bool (!(qAt H q0 k).up)],.pointer (some ⟨kb,0,none⟩)] w (StepP w keep kb mb mxb ta n tc H q0 (k + 1)):=by
 have hin:=qAt_in hH h0 k
 have HSZ : Hid (∀ s,s ∈ mixN (H (qAt H q0 k).a) (H (qAt H q0 k).b) (qAt H q0 k).up -> s.size <= 9223372036854775807):=fun s hs=>by
  have N:=hG w ⟨rfl,rfl,rfl,Nat.le_refl _,fun _ _=>rfl⟩
  rcases mixN_memU hs with ⟨i,hi,e⟩ | ⟨i,hi,e⟩
  ·rw [e];exact (N.node _ hin.1).names.size i hi
  ·rw [e];exact (N.node _ hin.2).names.size i hi
 have HH : Hid (MS w keep kb mb mxb ta n tc H q0 k ov D ma mc np):=h
 obtain ⟨q,hq⟩ : ∃ q,q = qAt H q0 k:=⟨_,rfl⟩
 have HQ : Hid (q = qAt H q0 k):=hq
 obtain ⟨W0,hW0⟩ : ∃ W0,W0 = w.alloc (.cells #[.int .i64 (q.a : Int),.int .i64 (q.b : Int),.bool (!q.up)] 124):=⟨_,rfl⟩
 have B0 : Below w.heap.size w W0:=by rw [hW0];exact bel1 _ _
 have HW0 : Hid (MS W0 keep kb mb mxb ta n tc H q0 k ov D ma mc np /\ Below w.heap.size w W0):=by
  refine ⟨⟨h.kn.below B0,h.row.of_block (B0.block _ h.row.lt),own_block h.own (fun j e=>B0.block j (h.own.lt j e.symm).2),fun i hi=>(h.node i hi).below B0,h.apart,h.old⟩,B0⟩
 have RQ : W0.rowIs w.heap.size 124 3 (v3 (.int .i64 (q.a : Int)) (.int .i64 (q.b : Int)) (.bool (!q.up))):=by rw [hW0];exact row3 w _ _ _ _
 have s0 : W0.cell? ⟨w.heap.size,0,none⟩ = some (.int .i64 (q.a : Int)):=RQ.cell (i:=0) (by omega)
 have s1 : W0.cell? ⟨w.heap.size,1,none⟩ = some (.int .i64 (q.b : Int)):=RQ.cell (i:=1) (by omega)
 have s2 : W0.cell? ⟨w.heap.size,2,none⟩ = some (.bool (!q.up)):=RQ.cell (i:=2) (by omega)
 have c1 : W0.cell? ⟨mxb,1,none⟩ = some (.slice ma k mc):=HW0.out.1.row.cell (i:=1) (by omega)
 have HC : Hid (∀ t,Calls Tryz.prog 111 #[.pointer (some ⟨mxb,0,none⟩),.agg #[.int .i64 (q.a : Int),.int .i64 (q.b : Int),.bool (!q.up)],.pointer (some ⟨kb,0,none⟩)] (W0.drewN t) fun e w1=>∃ (na : Option Addr) (nc : Nat) (ka : Option Addr) (kc : Nat) (kd : Int) (l1 l2 : Nat),e = .returned (.agg #[.int .i64 kd,.slice na l1 nc,.slice ka l2 kc]) /\ w1.cell? ⟨mxb,1,none⟩ = some (.slice ma k mc) /\ w1.frozen? ⟨mxb,1,none⟩ = false /\ w1.ownsRow (mxb + 1) 48 3 (.slice ma k mc) k (ncells np (ndQ n H q0) k) /\ mxb < w1.heap.size /\ some mxb ≠ (Value.slice ma k mc).ownBlock /\ (w1.cell? ⟨w.heap.size,0,none⟩ = some (.int .i64 (q.a : Int)) /\ w1.cell? ⟨w.heap.size,1,none⟩ = some (.int .i64 (q.b : Int)) /\ w1.cell? ⟨w.heap.size,2,none⟩ = some (.bool (!q.up))) /\
   Hid (∀ (w3 : World) {o : Obj},(w1.alloc o).grownBy w3 (Value.slice ma k mc).ownBlock -> w3.heap[w.heap.size]? = w1.heap[w.heap.size]?) /\ Hid (∀ (w3 : World) (o : Obj) (gg cap3 : Nat),w3.ownsRow (mxb + 1) 48 3 (.slice (some ⟨gg,0,none⟩) (k + 1) cap3) (k + 1) (ncells np (ndQ n H q0) k ++ [.int .i64 kd,.slice na l1 nc,.slice ka l2 kc]) -> (w1.alloc o).grownBy w3 (Value.slice ma k mc).ownBlock -> ((Value.slice ma k mc).ownBlock = some gg \/ gg = w1.heap.size + 1) -> StepP w keep kb mb mxb ta n tc H q0 (k + 1) (.returned (.bool true)) (w3.setCell ⟨mxb,1,none⟩ (.slice (some ⟨gg,0,none⟩) (k + 1) cap3)))):=fun t=>by
  have M0:=HW0.out.1
  have bt : Below W0.heap.size W0 (W0.drewN t):=below_drewN' _ _
  have hKt0:=M0.kn.below bt
  have hKt : KnQ (W0.drewN t) kb mb ov D ((qsTill H q0 k).map flipQ) (fun j=>mkeep keep mxb (.slice ma k mc) k np (ndQ n H q0) j \/ j = w.heap.size):=by
   refine ⟨hKt0.row,hKt0.mlt,hKt0.map,hKt0.has,hKt0.val,hKt0.own,fun j hj=>?_⟩
   rcases hj with hj | hj
   ·exact hKt0.far j hj
   ·have q1:=h.kn.row.lt
    have q3:=h.kn.mlt
    exact ⟨by show j < W0.heap.size;rw [hW0,hj];simp,by omega,by omega,fun e=>by have:=(h.kn.own.lt j e.symm).2;omega⟩
  have kw : ∀ w',Kept (fun j=>mkeep keep mxb (.slice ma k mc) k np (ndQ n H q0) j \/ j = w.heap.size) (W0.drewN t) w' -> Kept keep w w':=fun w' hk'=>
   ⟨hk'.os.trans B0.os,hk'.tape.trans B0.tape,hk'.output.trans B0.output,Nat.le_trans B0.size hk'.size,fun j hj=>(hk'.block j (Or.inl (Or.inl hj))).trans (B0.block j (by have:=h.old j hj;have:=h.row.lt;omega))⟩
  refine (p_node mxb kb mb ov D (qsTill H q0 k) (fun j=>mkeep keep mxb (.slice ma k mc) k np (ndQ n H q0) j \/ j = w.heap.size) ta tc q.a q.b (!q.up) (W0.drewN t) hKt (fun w' hk'=>⟨hG w' (kw w' hk'),?_⟩) (Or.inl (Or.inr (Or.inl rfl))) (by rw [hq];exact hin.1) (by rw [hq];exact hin.2) hH (by omega)).mono ?_
  ·have r:=M0.row.of_block (hk'.block mxb (Or.inl (Or.inr (Or.inl rfl))))
   exact r.cell (i:=0) (by omega)
  ·rintro e w1 ⟨na,nc,ka,kc,ov1,D1,rfl,h2,h3,h4,h5',h6'⟩
   have h6 : Kept (mkeep keep mxb (.slice ma k mc) k np (ndQ n H q0)) (W0.drewN t) w1:=⟨h6'.os,h6'.tape,h6'.output,h6'.size,fun j hj=>h6'.block j (Or.inl hj)⟩
   have RQ1:=RQ.of_block (h6'.block w.heap.size (Or.inr rfl))
   have e0 : w1.cell? ⟨w.heap.size,0,none⟩ = some (.int .i64 (q.a : Int)):=RQ1.cell (i:=0) (by omega)
   have e1 : w1.cell? ⟨w.heap.size,1,none⟩ = some (.int .i64 (q.b : Int)):=RQ1.cell (i:=1) (by omega)
   have e2 : w1.cell? ⟨w.heap.size,2,none⟩ = some (.bool (!q.up)):=RQ1.cell (i:=2) (by omega)
   have h5 : KnQ w1 kb mb ov1 D1 ((addAll (qsTill H q0 k) (mixQ (H q.a) (H q.b) (!!q.up))).map flipQ) (fun j=>mkeep keep mxb (.slice ma k mc) k np (ndQ n H q0) j \/ (Value.slice na (mixN (H q.a) (H q.b) (!!q.up)).length nc).ownBlock = some j \/ (Value.slice ka (mixQ (H q.a) (H q.b) (!!q.up)).length kc).ownBlock = some j):=⟨h5'.row,h5'.mlt,h5'.map,h5'.has,h5'.val,h5'.own,fun j hj=>h5'.far j (by rcases hj with z | z;exact Or.inl (Or.inl z);exact Or.inr z)⟩
   clear h5' 
   rw [hq] at h2 h3 h5
   rw [Bool.not_not] at h2 h3 h5
   have hx : (!!q.up) = (qAt H q0 k).up:=by rw [hq,Bool.not_not]
   rw [hx]
   have hqk : mixK (H q.a) (H q.b) = mixK (H (qAt H q0 k).a) (H (qAt H q0 k).b) /\ mixN (H q.a) (H q.b) (qAt H q0 k).up = mixN (H (qAt H q0 k).a) (H (qAt H q0 k).b) (qAt H q0 k).up /\ mixQ (H q.a) (H q.b) (qAt H q0 k).up = mixQ (H (qAt H q0 k).a) (H (qAt H q0 k).b) (qAt H q0 k).up:=by rw [hq];exact ⟨rfl,rfl,rfl⟩
   rw [hqk.1,hqk.2.1,hqk.2.2]
   have hk6 : Kept (mkeep keep mxb (.slice ma k mc) k np (ndQ n H q0)) W0 w1:=(kept_drewN W0 t).trans h6
   have r1:=M0.row.of_block (hk6.block mxb (Or.inr (Or.inl rfl)))
   have nmx : some mxb ≠ (Value.slice ma k mc).ownBlock:=fun e=>by have:=(M0.own.lt mxb e.symm).1;omega
   refine ⟨na,nc,ka,kc,_,_,_,rfl,r1.cell (i:=1) (by omega),r1.frozen 1,own_block M0.own (fun j e=>hk6.block j (Or.inr (Or.inr (Or.inl e.symm)))),r1.lt,nmx,⟨e0,e1,e2⟩,fun w3 o hg=>(hg.block w.heap.size (by have:=h6'.size;simp;rw [hW0] at this;simp at this;omega) (fun e=>by have:=(h.own.lt w.heap.size e.symm).2;omega)).trans (Below.heap_alloc _ _ _ (by have:=h6'.size;rw [hW0] at this;simp at this;omega)),fun w3 o gg cap3 hown hg hat=>?_⟩
   obtain ⟨np',X1,X2⟩:=ms_step (w1:=w1) M0 rfl rfl h2 h3 h5 hk6 HSZ.out hown hg hat
   exact ⟨rfl,ov1,D1,some ⟨gg,0,none⟩,cap3,np',X1,⟨X2.os.trans B0.os,X2.tape.trans B0.tape,X2.output.trans B0.output,Nat.le_trans B0.size X2.size,fun j hj=>(X2.block j hj).trans (B0.block j (by have:=h.old j hj;have:=h.row.lt;omega))⟩⟩
 rw [<- hq]
 have hmxw : mxb < w.heap.size:=h.row.lt
 clear h hG hH h0 hin hq RQ B0 hL HSZ
 obtain ⟨i0,hi0,hz0,hz1,hz2⟩:=info_parts Tryz.info48
 go_enter Tryz.func88,Tryz.ntmps88
 go_wp2_with fail
 rw [<- hW0]
 clear hW0
 refine wp_region_held_drew (S:=fun w'=>w'.cell? ⟨w.heap.size,0,none⟩ = some (.int .i64 (q.a : Int)) /\ w'.cell? ⟨w.heap.size,1,none⟩ = some (.int .i64 (q.b : Int)) /\ w'.cell? ⟨w.heap.size,2,none⟩ = some (.bool (!q.up))) (by kernel_rfl) ?_ (fun hHeld=>?_)
 ·(try dsimp only);go_keep
 refine tkH 0 7 (v:=?_) rfl ?_ ?_
 rotate_left
 ·intro wS hSw;(try dsimp only at hSw);go_simp <;> with_reducible rfl
 try simp only [Act.put,List.setIfInBounds_toArray,List.set_cons_succ,List.set_cons_zero]
 refine tkH 1 8 (v:=?_) rfl ?_ ?_
 rotate_left
 ·intro wS hSw;(try dsimp only at hSw);go_simp <;> with_reducible rfl
 try simp only [Act.put,List.setIfInBounds_toArray,List.set_cons_succ,List.set_cons_zero]
 refine tkH 2 9 (v:=?_) rfl ?_ ?_
 rotate_left
 ·intro wS hSw;(try dsimp only at hSw);go_simp <;> with_reducible rfl
 try simp only [Act.put,List.setIfInBounds_toArray,List.set_cons_succ,List.set_cons_zero]
 refine tkH 3 10 (v:=?_) rfl ?_ ?_
 rotate_left
 ·intro wS hSw;(try dsimp only at hSw);go_simp <;> with_reducible rfl
 try simp only [Act.put,List.setIfInBounds_toArray,List.set_cons_succ,List.set_cons_zero]
 refine tkH 5 12 (v:=?_) rfl ?_ ?_
 rotate_left
 ·intro wS hSw;(try dsimp only at hSw);go_simp <;> with_reducible rfl
 try simp only [Act.put,List.setIfInBounds_toArray,List.set_cons_succ,List.set_cons_zero]
 refine tkH 6 13 (v:=?_) rfl ?_ ?_
 rotate_left
 ·intro wS hSw;(try dsimp only at hSw);go_simp <;> with_reducible rfl
 try simp only [Act.put,List.setIfInBounds_toArray,List.set_cons_succ,List.set_cons_zero]
 refine tkH 7 14 (v:=?_) rfl ?_ ?_
 rotate_left
 ·intro wS hSw;(try dsimp only at hSw);go_simp <;> with_reducible rfl
 try simp only [Act.put,List.setIfInBounds_toArray,List.set_cons_succ,List.set_cons_zero]
 refine wpAnyH_ready (rs:=[4,8]) (by kernel_rfl) (by simp) ?_
 refine AllReadyH.cons rfl (fun K hK=>?_) (AllReadyH.cons rfl (fun K hK=>?_) AllReadyH.nil)
 ·go_simp
  refine hK.out _ _ ?_ (fun hHeld2=>?_)
  ·(try dsimp only);first | go_keep | (exact ⟨(World.cell?_of_block (HB3.out w3 hg3)).trans e0,(World.cell?_of_block (HB3.out w3 hg3)).trans e1,(World.cell?_of_block (HB3.out w3 hg3)).trans e2⟩) | (exact ⟨(World.cell?_of_block ((Below.heap_setCell _ _ _ _ (by show w.heap.size ≠ mxb;omega)).trans (HB3.out w3 hg3))).trans e0,(World.cell?_of_block ((Below.heap_setCell _ _ _ _ (by show w.heap.size ≠ mxb;omega)).trans (HB3.out w3 hg3))).trans e1,(World.cell?_of_block ((Below.heap_setCell _ _ _ _ (by show w.heap.size ≠ mxb;omega)).trans (HB3.out w3 hg3))).trans e2⟩)
  clear hK K hHeld
  have hHeld:=hHeld2
  clear hHeld2
  refine wpAnyH_ready (rs:=[8]) (by kernel_rfl) (by simp) ?_
  refine AllReadyH.cons rfl (fun K hK=>?_) AllReadyH.nil
  go_simp
  go_wp2_with (first | (go_at_call 111;refine (HC.out _).mono ?_;rintro e w1 ⟨na,nc,ka,kc,kd,l1,l2,rfl,d1,d2,OWN,hlt1,hnmx,⟨e0,e1,e2⟩,HB3,HFN⟩))
  refine hK.out _ _ ?_ (fun hHeld2=>?_)
  ·(try dsimp only);first | go_keep | (exact ⟨(World.cell?_of_block (HB3.out w3 hg3)).trans e0,(World.cell?_of_block (HB3.out w3 hg3)).trans e1,(World.cell?_of_block (HB3.out w3 hg3)).trans e2⟩) | (exact ⟨(World.cell?_of_block ((Below.heap_setCell _ _ _ _ (by show w.heap.size ≠ mxb;omega)).trans (HB3.out w3 hg3))).trans e0,(World.cell?_of_block ((Below.heap_setCell _ _ _ _ (by show w.heap.size ≠ mxb;omega)).trans (HB3.out w3 hg3))).trans e1,(World.cell?_of_block ((Below.heap_setCell _ _ _ _ (by show w.heap.size ≠ mxb;omega)).trans (HB3.out w3 hg3))).trans e2⟩)
  clear hK K hHeld
  have hHeld:=hHeld2
  clear hHeld2
  refine wpAnyH_ready (rs:=[9]) (by kernel_rfl) (by simp) ?_
  refine AllReadyH.cons rfl (fun K hK=>?_) AllReadyH.nil
  go_simp
  refine hK.out _ _ ?_ (fun hHeld2=>?_)
  ·(try dsimp only);first | go_keep | (exact ⟨(World.cell?_of_block (HB3.out w3 hg3)).trans e0,(World.cell?_of_block (HB3.out w3 hg3)).trans e1,(World.cell?_of_block (HB3.out w3 hg3)).trans e2⟩) | (exact ⟨(World.cell?_of_block ((Below.heap_setCell _ _ _ _ (by show w.heap.size ≠ mxb;omega)).trans (HB3.out w3 hg3))).trans e0,(World.cell?_of_block ((Below.heap_setCell _ _ _ _ (by show w.heap.size ≠ mxb;omega)).trans (HB3.out w3 hg3))).trans e1,(World.cell?_of_block ((Below.heap_setCell _ _ _ _ (by show w.heap.size ≠ mxb;omega)).trans (HB3.out w3 hg3))).trans e2⟩)
  clear hK K hHeld
  have hHeld:=hHeld2
  clear hHeld2
  refine wpAnyH_ready (rs:=[10]) (by kernel_rfl) (by simp) ?_
  refine AllReadyH.cons rfl (fun K hK=>?_) AllReadyH.nil
  refine step_append_lies _ (by rfl) _ _ _ (by rfl) (mxb + 1) 48 i0 _ 3 56 Tryz.underlying27 hi0 hz0 hz1 hz2 rfl (by omega) (.slice ma k mc) k (ncells np (ndQ n H q0) k) (by rfl) (by first | exact OWN.alloc _ | exact (OWN.alloc _).drew) ⟨w1.heap.size,0,none⟩ 1 1 [.int .i64 kd,.slice na l1 nc,.slice ka l2 kc] (by rfl) (by rfl) (World.news_of_block (cs:=#[.int .i64 kd,.slice na l1 nc,.slice ka l2 kc]) (t:=48) (fr:=(0,0)) (heap_alloc_new w1 _)) (by simp [Value.oneCell']) (by omega) (by unfold maxLen;omega) (by omega) (by first | omega | (simp;omega)) (w1.heap.size + 1) (by first | rfl | simp) ?_
  intro gg cap3 w3 hown3 hg3 hat3 hlt3;have f1 : w3.cell? ⟨mxb,1,none⟩ = some (.slice ma k mc):=(hg3.cell_far ⟨mxb,1,none⟩ (by simp;omega) hnmx).trans ((World.cell?_of_block (Below.heap_alloc _ _ _ hlt1)).trans d1);have f2 : w3.frozen? ⟨mxb,1,none⟩ = false:=(hg3.frozen_far ⟨mxb,1,none⟩ (by simp;omega) hnmx).trans ((World.frozen?_of_block (a:=⟨mxb,1,none⟩) (Below.heap_alloc _ _ _ hlt1)).trans d2)
  go_simp
  refine hK.out _ _ ?_ (fun hHeld2=>?_)
  ·(try dsimp only);first | go_keep | (exact ⟨(World.cell?_of_block (HB3.out w3 hg3)).trans e0,(World.cell?_of_block (HB3.out w3 hg3)).trans e1,(World.cell?_of_block (HB3.out w3 hg3)).trans e2⟩) | (exact ⟨(World.cell?_of_block ((Below.heap_setCell _ _ _ _ (by show w.heap.size ≠ mxb;omega)).trans (HB3.out w3 hg3))).trans e0,(World.cell?_of_block ((Below.heap_setCell _ _ _ _ (by show w.heap.size ≠ mxb;omega)).trans (HB3.out w3 hg3))).trans e1,(World.cell?_of_block ((Below.heap_setCell _ _ _ _ (by show w.heap.size ≠ mxb;omega)).trans (HB3.out w3 hg3))).trans e2⟩)
  clear hK K hHeld
  have hHeld:=hHeld2
  clear hHeld2
  refine tkH 11 18 (v:=?_) rfl ?_ ?_
  rotate_left
  ·intro wS hSw;(try dsimp only at hSw);go_simp <;> with_reducible rfl
  try simp only [Act.put,List.setIfInBounds_toArray,List.set_cons_succ,List.set_cons_zero]
  refine tkH 12 19 (v:=?_) rfl ?_ ?_
  rotate_left
  ·intro wS hSw;(try dsimp only at hSw);go_simp <;> with_reducible rfl
  try simp only [Act.put,List.setIfInBounds_toArray,List.set_cons_succ,List.set_cons_zero]
  refine wpAnyH_ready (rs:=[13]) (by kernel_rfl) (by simp) ?_
  refine AllReadyH.cons rfl (fun K hK=>?_) AllReadyH.nil
  go_simp
  refine hK.out _ _ ?_ (fun hHeld2=>?_)
  ·(try dsimp only);first | go_keep | (exact ⟨(World.cell?_of_block (HB3.out w3 hg3)).trans e0,(World.cell?_of_block (HB3.out w3 hg3)).trans e1,(World.cell?_of_block (HB3.out w3 hg3)).trans e2⟩) | (exact ⟨(World.cell?_of_block ((Below.heap_setCell _ _ _ _ (by show w.heap.size ≠ mxb;omega)).trans (HB3.out w3 hg3))).trans e0,(World.cell?_of_block ((Below.heap_setCell _ _ _ _ (by show w.heap.size ≠ mxb;omega)).trans (HB3.out w3 hg3))).trans e1,(World.cell?_of_block ((Below.heap_setCell _ _ _ _ (by show w.heap.size ≠ mxb;omega)).trans (HB3.out w3 hg3))).trans e2⟩)
  clear hK K hHeld
  have hHeld:=hHeld2
  clear hHeld2
  refine wpAnyH_done (by kernel_rfl) ?_ _
  have FIN:=HFN.out w3 _ gg cap3 hown3 ⟨hg3.os,hg3.tape,hg3.output,hg3.size,hg3.block⟩ hat3
  have HF : Hid _:=FIN
  clear FIN hown3 hg3 hat3 OWN d1 d2 s0 s1 s2 c1 e0 e1 e2 hHeld
  (try clear d1A)
  go_wp2
  go_ret
  exact ⟨rfl,HF.out.2⟩
 ·go_simp
  go_wp2_with (first | (go_at_call 111;refine (HC.out _).mono ?_;rintro e w1 ⟨na,nc,ka,kc,kd,l1,l2,rfl,d1,d2,OWN,hlt1,hnmx,⟨e0,e1,e2⟩,HB3,HFN⟩))
  refine hK.out _ _ ?_ (fun hHeld2=>?_)
  ·(try dsimp only);first | go_keep | (exact ⟨(World.cell?_of_block (HB3.out w3 hg3)).trans e0,(World.cell?_of_block (HB3.out w3 hg3)).trans e1,(World.cell?_of_block (HB3.out w3 hg3)).trans e2⟩) | (exact ⟨(World.cell?_of_block ((Below.heap_setCell _ _ _ _ (by show w.heap.size ≠ mxb;omega)).trans (HB3.out w3 hg3))).trans e0,(World.cell?_of_block ((Below.heap_setCell _ _ _ _ (by show w.heap.size ≠ mxb;omega)).trans (HB3.out w3 hg3))).trans e1,(World.cell?_of_block ((Below.heap_setCell _ _ _ _ (by show w.heap.size ≠ mxb;omega)).trans (HB3.out w3 hg3))).trans e2⟩)
  clear hK K hHeld
  have hHeld:=hHeld2
  clear hHeld2
  have d1A : (w1.alloc (.cells #[.int .i64 kd,.slice na l1 nc,.slice ka l2 kc] 48)).cell? ⟨mxb,1,none⟩ = some (.slice ma k mc):=(World.cell?_of_block (Below.heap_alloc _ _ _ hlt1)).trans d1
  refine wpAnyH_ready (rs:=[4,9]) (by kernel_rfl) (by simp) ?_
  refine AllReadyH.cons rfl (fun K hK=>?_) (AllReadyH.cons rfl (fun K hK=>?_) AllReadyH.nil)
  ·go_simp
   refine hK.out _ _ ?_ (fun hHeld2=>?_)
   ·(try dsimp only);first | go_keep | (exact ⟨(World.cell?_of_block (HB3.out w3 hg3)).trans e0,(World.cell?_of_block (HB3.out w3 hg3)).trans e1,(World.cell?_of_block (HB3.out w3 hg3)).trans e2⟩) | (exact ⟨(World.cell?_of_block ((Below.heap_setCell _ _ _ _ (by show w.heap.size ≠ mxb;omega)).trans (HB3.out w3 hg3))).trans e0,(World.cell?_of_block ((Below.heap_setCell _ _ _ _ (by show w.heap.size ≠ mxb;omega)).trans (HB3.out w3 hg3))).trans e1,(World.cell?_of_block ((Below.heap_setCell _ _ _ _ (by show w.heap.size ≠ mxb;omega)).trans (HB3.out w3 hg3))).trans e2⟩)
   clear hK K hHeld
   have hHeld:=hHeld2
   clear hHeld2
   refine wpAnyH_ready (rs:=[9]) (by kernel_rfl) (by simp) ?_
   refine AllReadyH.cons rfl (fun K hK=>?_) AllReadyH.nil
   go_simp
   refine hK.out _ _ ?_ (fun hHeld2=>?_)
   ·(try dsimp only);first | go_keep | (exact ⟨(World.cell?_of_block (HB3.out w3 hg3)).trans e0,(World.cell?_of_block (HB3.out w3 hg3)).trans e1,(World.cell?_of_block (HB3.out w3 hg3)).trans e2⟩) | (exact ⟨(World.cell?_of_block ((Below.heap_setCell _ _ _ _ (by show w.heap.size ≠ mxb;omega)).trans (HB3.out w3 hg3))).trans e0,(World.cell?_of_block ((Below.heap_setCell _ _ _ _ (by show w.heap.size ≠ mxb;omega)).trans (HB3.out w3 hg3))).trans e1,(World.cell?_of_block ((Below.heap_setCell _ _ _ _ (by show w.heap.size ≠ mxb;omega)).trans (HB3.out w3 hg3))).trans e2⟩)
   clear hK K hHeld
   have hHeld:=hHeld2
   clear hHeld2
   refine wpAnyH_ready (rs:=[10]) (by kernel_rfl) (by simp) ?_
   refine AllReadyH.cons rfl (fun K hK=>?_) AllReadyH.nil
   refine step_append_lies _ (by rfl) _ _ _ (by rfl) (mxb + 1) 48 i0 _ 3 56 Tryz.underlying27 hi0 hz0 hz1 hz2 rfl (by omega) (.slice ma k mc) k (ncells np (ndQ n H q0) k) (by rfl) (by first | exact OWN.alloc _ | exact (OWN.alloc _).drew) ⟨w1.heap.size,0,none⟩ 1 1 [.int .i64 kd,.slice na l1 nc,.slice ka l2 kc] (by rfl) (by rfl) (World.news_of_block (cs:=#[.int .i64 kd,.slice na l1 nc,.slice ka l2 kc]) (t:=48) (fr:=(0,0)) (heap_alloc_new w1 _)) (by simp [Value.oneCell']) (by omega) (by unfold maxLen;omega) (by omega) (by first | omega | (simp;omega)) (w1.heap.size + 1) (by first | rfl | simp) ?_
   intro gg cap3 w3 hown3 hg3 hat3 hlt3;have f1 : w3.cell? ⟨mxb,1,none⟩ = some (.slice ma k mc):=(hg3.cell_far ⟨mxb,1,none⟩ (by simp;omega) hnmx).trans ((World.cell?_of_block (Below.heap_alloc _ _ _ hlt1)).trans d1);have f2 : w3.frozen? ⟨mxb,1,none⟩ = false:=(hg3.frozen_far ⟨mxb,1,none⟩ (by simp;omega) hnmx).trans ((World.frozen?_of_block (a:=⟨mxb,1,none⟩) (Below.heap_alloc _ _ _ hlt1)).trans d2)
   go_simp
   refine hK.out _ _ ?_ (fun hHeld2=>?_)
   ·(try dsimp only);first | go_keep | (exact ⟨(World.cell?_of_block (HB3.out w3 hg3)).trans e0,(World.cell?_of_block (HB3.out w3 hg3)).trans e1,(World.cell?_of_block (HB3.out w3 hg3)).trans e2⟩) | (exact ⟨(World.cell?_of_block ((Below.heap_setCell _ _ _ _ (by show w.heap.size ≠ mxb;omega)).trans (HB3.out w3 hg3))).trans e0,(World.cell?_of_block ((Below.heap_setCell _ _ _ _ (by show w.heap.size ≠ mxb;omega)).trans (HB3.out w3 hg3))).trans e1,(World.cell?_of_block ((Below.heap_setCell _ _ _ _ (by show w.heap.size ≠ mxb;omega)).trans (HB3.out w3 hg3))).trans e2⟩)
   clear hK K hHeld
   have hHeld:=hHeld2
   clear hHeld2
   refine tkH 11 18 (v:=?_) rfl ?_ ?_
   rotate_left
   ·intro wS hSw;(try dsimp only at hSw);go_simp <;> with_reducible rfl
   try simp only [Act.put,List.setIfInBounds_toArray,List.set_cons_succ,List.set_cons_zero]
   refine tkH 12 19 (v:=?_) rfl ?_ ?_
   rotate_left
   ·intro wS hSw;(try dsimp only at hSw);go_simp <;> with_reducible rfl
   try simp only [Act.put,List.setIfInBounds_toArray,List.set_cons_succ,List.set_cons_zero]
   refine wpAnyH_ready (rs:=[13]) (by kernel_rfl) (by simp) ?_
   refine AllReadyH.cons rfl (fun K hK=>?_) AllReadyH.nil
   go_simp
   refine hK.out _ _ ?_ (fun hHeld2=>?_)
   ·(try dsimp only);first | go_keep | (exact ⟨(World.cell?_of_block (HB3.out w3 hg3)).trans e0,(World.cell?_of_block (HB3.out w3 hg3)).trans e1,(World.cell?_of_block (HB3.out w3 hg3)).trans e2⟩) | (exact ⟨(World.cell?_of_block ((Below.heap_setCell _ _ _ _ (by show w.heap.size ≠ mxb;omega)).trans (HB3.out w3 hg3))).trans e0,(World.cell?_of_block ((Below.heap_setCell _ _ _ _ (by show w.heap.size ≠ mxb;omega)).trans (HB3.out w3 hg3))).trans e1,(World.cell?_of_block ((Below.heap_setCell _ _ _ _ (by show w.heap.size ≠ mxb;omega)).trans (HB3.out w3 hg3))).trans e2⟩)
   clear hK K hHeld
   have hHeld:=hHeld2
   clear hHeld2
   refine wpAnyH_done (by kernel_rfl) ?_ _
   have FIN:=HFN.out w3 _ gg cap3 hown3 ⟨hg3.os,hg3.tape,hg3.output,hg3.size,hg3.block⟩ hat3
   have HF : Hid _:=FIN
   clear FIN hown3 hg3 hat3 OWN d1 d2 s0 s1 s2 c1 e0 e1 e2 hHeld
   (try clear d1A)
   go_wp2
   go_ret
   exact ⟨rfl,HF.out.2⟩
  ·go_simp
   refine hK.out _ _ ?_ (fun hHeld2=>?_)
   ·(try dsimp only);first | go_keep | (exact ⟨(World.cell?_of_block (HB3.out w3 hg3)).trans e0,(World.cell?_of_block (HB3.out w3 hg3)).trans e1,(World.cell?_of_block (HB3.out w3 hg3)).trans e2⟩) | (exact ⟨(World.cell?_of_block ((Below.heap_setCell _ _ _ _ (by show w.heap.size ≠ mxb;omega)).trans (HB3.out w3 hg3))).trans e0,(World.cell?_of_block ((Below.heap_setCell _ _ _ _ (by show w.heap.size ≠ mxb;omega)).trans (HB3.out w3 hg3))).trans e1,(World.cell?_of_block ((Below.heap_setCell _ _ _ _ (by show w.heap.size ≠ mxb;omega)).trans (HB3.out w3 hg3))).trans e2⟩)
   clear hK K hHeld
   have hHeld:=hHeld2
   clear hHeld2
   refine wpAnyH_ready (rs:=[4]) (by kernel_rfl) (by simp) ?_
   refine AllReadyH.cons rfl (fun K hK=>?_) AllReadyH.nil
   go_simp
   refine hK.out _ _ ?_ (fun hHeld2=>?_)
   ·(try dsimp only);first | go_keep | (exact ⟨(World.cell?_of_block (HB3.out w3 hg3)).trans e0,(World.cell?_of_block (HB3.out w3 hg3)).trans e1,(World.cell?_of_block (HB3.out w3 hg3)).trans e2⟩) | (exact ⟨(World.cell?_of_block ((Below.heap_setCell _ _ _ _ (by show w.heap.size ≠ mxb;omega)).trans (HB3.out w3 hg3))).trans e0,(World.cell?_of_block ((Below.heap_setCell _ _ _ _ (by show w.heap.size ≠ mxb;omega)).trans (HB3.out w3 hg3))).trans e1,(World.cell?_of_block ((Below.heap_setCell _ _ _ _ (by show w.heap.size ≠ mxb;omega)).trans (HB3.out w3 hg3))).trans e2⟩)
   clear hK K hHeld
   have hHeld:=hHeld2
   clear hHeld2
   refine wpAnyH_ready (rs:=[10]) (by kernel_rfl) (by simp) ?_
   refine AllReadyH.cons rfl (fun K hK=>?_) AllReadyH.nil
   refine step_append_lies _ (by rfl) _ _ _ (by rfl) (mxb + 1) 48 i0 _ 3 56 Tryz.underlying27 hi0 hz0 hz1 hz2 rfl (by omega) (.slice ma k mc) k (ncells np (ndQ n H q0) k) (by rfl) (by first | exact OWN.alloc _ | exact (OWN.alloc _).drew) ⟨w1.heap.size,0,none⟩ 1 1 [.int .i64 kd,.slice na l1 nc,.slice ka l2 kc] (by rfl) (by rfl) (World.news_of_block (cs:=#[.int .i64 kd,.slice na l1 nc,.slice ka l2 kc]) (t:=48) (fr:=(0,0)) (heap_alloc_new w1 _)) (by simp [Value.oneCell']) (by omega) (by unfold maxLen;omega) (by omega) (by first | omega | (simp;omega)) (w1.heap.size + 1) (by first | rfl | simp) ?_
   intro gg cap3 w3 hown3 hg3 hat3 hlt3;have f1 : w3.cell? ⟨mxb,1,none⟩ = some (.slice ma k mc):=(hg3.cell_far ⟨mxb,1,none⟩ (by simp;omega) hnmx).trans ((World.cell?_of_block (Below.heap_alloc _ _ _ hlt1)).trans d1);have f2 : w3.frozen? ⟨mxb,1,none⟩ = false:=(hg3.frozen_far ⟨mxb,1,none⟩ (by simp;omega) hnmx).trans ((World.frozen?_of_block (a:=⟨mxb,1,none⟩) (Below.heap_alloc _ _ _ hlt1)).trans d2)
   go_simp
   refine hK.out _ _ ?_ (fun hHeld2=>?_)
   ·(try dsimp only);first | go_keep | (exact ⟨(World.cell?_of_block (HB3.out w3 hg3)).trans e0,(World.cell?_of_block (HB3.out w3 hg3)).trans e1,(World.cell?_of_block (HB3.out w3 hg3)).trans e2⟩) | (exact ⟨(World.cell?_of_block ((Below.heap_setCell _ _ _ _ (by show w.heap.size ≠ mxb;omega)).trans (HB3.out w3 hg3))).trans e0,(World.cell?_of_block ((Below.heap_setCell _ _ _ _ (by show w.heap.size ≠ mxb;omega)).trans (HB3.out w3 hg3))).trans e1,(World.cell?_of_block ((Below.heap_setCell _ _ _ _ (by show w.heap.size ≠ mxb;omega)).trans (HB3.out w3 hg3))).trans e2⟩)
   clear hK K hHeld
   have hHeld:=hHeld2
   clear hHeld2
   refine tkH 11 18 (v:=?_) rfl ?_ ?_
   rotate_left
   ·intro wS hSw;(try dsimp only at hSw);go_simp <;> with_reducible rfl
   try simp only [Act.put,List.setIfInBounds_toArray,List.set_cons_succ,List.set_cons_zero]
   refine tkH 12 19 (v:=?_) rfl ?_ ?_
   rotate_left
   ·intro wS hSw;(try dsimp only at hSw);go_simp <;> with_reducible rfl
   try simp only [Act.put,List.setIfInBounds_toArray,List.set_cons_succ,List.set_cons_zero]
   refine wpAnyH_ready (rs:=[13]) (by kernel_rfl) (by simp) ?_
   refine AllReadyH.cons rfl (fun K hK=>?_) AllReadyH.nil
   go_simp
   refine hK.out _ _ ?_ (fun hHeld2=>?_)
   ·(try dsimp only);first | go_keep | (exact ⟨(World.cell?_of_block (HB3.out w3 hg3)).trans e0,(World.cell?_of_block (HB3.out w3 hg3)).trans e1,(World.cell?_of_block (HB3.out w3 hg3)).trans e2⟩) | (exact ⟨(World.cell?_of_block ((Below.heap_setCell _ _ _ _ (by show w.heap.size ≠ mxb;omega)).trans (HB3.out w3 hg3))).trans e0,(World.cell?_of_block ((Below.heap_setCell _ _ _ _ (by show w.heap.size ≠ mxb;omega)).trans (HB3.out w3 hg3))).trans e1,(World.cell?_of_block ((Below.heap_setCell _ _ _ _ (by show w.heap.size ≠ mxb;omega)).trans (HB3.out w3 hg3))).trans e2⟩)
   clear hK K hHeld
   have hHeld:=hHeld2
   clear hHeld2
   refine wpAnyH_done (by kernel_rfl) ?_ _
   have FIN:=HFN.out w3 _ gg cap3 hown3 ⟨hg3.os,hg3.tape,hg3.output,hg3.size,hg3.block⟩ hat3
   have HF : Hid _:=FIN
   clear FIN hown3 hg3 hat3 OWN d1 d2 s0 s1 s2 c1 e0 e1 e2 hHeld
   (try clear d1A)
   go_wp2
   go_ret
   exact ⟨rfl,HF.out.2⟩
theorem order_q {w : World} {kb mb : Nat} {ov : Value} {D : DataW Unit} {ord : List Qn} {keep : Nat -> Prop} (h : KnQ w kb mb ov D ord keep) {i : Nat} {q : Qn} (hq : ord[i]? = some q) :
  ∃ g cap,ov = .slice (some ⟨g,0,none⟩) ord.length cap /\ w.cell? ⟨g,i * 3,none⟩ = some (.int .i64 (q.a : Int)) /\ w.cell? ⟨g,i * 3 + 1,none⟩ = some (.int .i64 (q.b : Int)) /\ w.cell? ⟨g,i * 3 + 2,none⟩ = some (.bool q.up):=by
 obtain ⟨hlt,_⟩:=List.getElem?_eq_some_iff.1 hq
 have qc : ∀ (l : List Qn) (i : Nat),l[i]? = some q -> (qcells l)[i * 3]? = some (.int .i64 (q.a : Int)) /\ (qcells l)[i * 3 + 1]? = some (.int .i64 (q.b : Int)) /\ (qcells l)[i * 3 + 2]? = some (.bool q.up):=by
  intro l
  induction l with
  | nil=>intro i h;simp at h
  | cons x t ih=>
    intro i h
    have hc : qcells (x :: t) = [.int .i64 (x.a : Int),.int .i64 (x.b : Int),.bool x.up] ++ qcells t:=rfl
    rw [hc]
    cases i with
    | zero=>
      have e : x = q:=by simpa using h
      subst e
      exact ⟨rfl,rfl,rfl⟩
    | succ i=>
      have h' : t[i]? = some q:=by simpa using h
      obtain ⟨a1,a2,a3⟩:=ih i h'
      rw [show (i + 1) * 3 = i * 3 + 1 + 1 + 1 from by omega,show i * 3 + 1 + 1 + 1 + 1 = i * 3 + 1 + 1 + 1 + 1 from rfl]
      exact ⟨a1,a2,a3⟩
 rcases h.own.2 with ⟨_,h0⟩ | ⟨g,cap,_,rfl,_⟩
 ·omega
 ·have hc:=qc ord i hq
  exact ⟨g,cap,rfl,by rw [h.own.cellAt _ (by omega)];exact hc.1,by rw [h.own.cellAt _ (by omega)];exact hc.2.1,by rw [h.own.cellAt _ (by omega)];exact hc.2.2⟩
def WalkP (w : World) (keep : Nat -> Prop) (mxb : Nat) (ta : Option Addr) (n tc : Nat) (H : Nat -> ND) (q0 : Qn) (e : Ending) (w' : World) : Prop:=
 Kept keep w w' /\ ((e = .returned (.bool false) /\ ∃ k,OverQ H q0 k) \/ (e = .returned (.bool true) /\ ∃ k kb mb ov D ma mc np,FullQ H q0 k /\ MS w' keep kb mb mxb ta n tc H q0 k ov D ma mc np))
set_option maxHeartbeats 8000000 in
theorem p_walk {n gb go : Nat} {p : Nat -> NP} {H : Nat -> ND} (mxb : Nat) (keep : Nat -> Prop) (ta : Option Addr) (tc : Nat) (q0 : Qn) (w : World) (hrow : w.rowIs mxb 121 2 (v2 (.slice ta n tc) (.slice none 0 0))) (hold : ∀ j,keep j -> j < mxb)
  (hG : ∀ w',Kept keep w w' -> NodesAt w' ta gb go n p H) (hH : GoodH n H) (h0 : q0.a < n /\ q0.b < n) :
  Calls Tryz.prog 87 #[.agg #[.int .i64 (q0.a : Int),.int .i64 (q0.b : Int),.bool (!q0.up)],.int .i64 1000,.func (.func 88) #[.pointer (some ⟨mxb,0,none⟩)] #[]] w (WalkP w keep mxb ta n tc H q0):=by
 have HG : Hid (∀ w',Kept keep w w' -> NodesAt w' ta gb go n p H):=hG
 have HHH : Hid (GoodH n H):=hH
 have hmx:=hrow.lt
 have hn4:=hH.n
 clear hG hH
 go_enter Tryz.func87,Tryz.ntmps87
 go_wp2_with fail
 refine (kq_new _ (fun k=>(keep k \/ k = mxb) \/ k = w.heap.size) (fun k h=>by
  rcases h with (h | h) | h
  ·have:=hold k h;simp;omega
  ·simp;omega
  ·simp;omega)).mono ?_
 rintro e w1 ⟨rfl,hKn1,hKp1⟩
 have R0:=(row3 w (.int .i64 (q0.a : Int)) (.int .i64 (q0.b : Int)) (.bool (!q0.up)) 124).of_block (hKp1.block w.heap.size (Or.inr rfl))
 have x0 : w1.cell? ⟨w.heap.size,0,none⟩ = some (.int .i64 (q0.a : Int)):=R0.cell (i:=0) (by omega)
 have x1 : w1.cell? ⟨w.heap.size,1,none⟩ = some (.int .i64 (q0.b : Int)):=R0.cell (i:=1) (by omega)
 have x2 : w1.cell? ⟨w.heap.size,2,none⟩ = some (.bool (!q0.up)):=R0.cell (i:=2) (by omega)
 have p1 : Kept (fun k=>keep k \/ k = mxb) w w1:=Kept.trans (show Kept (fun k=>keep k \/ k = mxb) w (w.alloc (.cells #[.int .i64 (q0.a : Int),.int .i64 (q0.b : Int),.bool (!q0.up)] 124)) from ⟨rfl,rfl,rfl,by simp,fun k h=>Below.heap_alloc _ _ _ (by rcases h with h | h;(have:=hold k h;omega);omega)⟩) ⟨hKp1.os,hKp1.tape,hKp1.output,hKp1.size,fun k h=>hKp1.block k (Or.inl h)⟩
 obtain ⟨kb,hkb⟩ : ∃ kb,kb = (w.alloc (.cells #[.int .i64 (q0.a : Int),.int .i64 (q0.b : Int),.bool (!q0.up)] 124)).heap.size + 1:=⟨_,rfl⟩
 obtain ⟨mb,hmb⟩ : ∃ mb,mb = (w.alloc (.cells #[.int .i64 (q0.a : Int),.int .i64 (q0.b : Int),.bool (!q0.up)] 124)).heap.size:=⟨_,rfl⟩
 rw [<- hmb] at hkb hKn1 ⊢
 rw [<- hkb] at hKn1 ⊢
 clear hkb hmb hKp1 R0
 have HSM : Hid (SmQ (flipQ q0)):=⟨by show q0.a < _;omega,by show q0.b < _;omega⟩
 have HNB : Hid (Calls Tryz.prog 110 #[.pointer (some ⟨kb,0,none⟩),.agg #[.int .i64 (q0.a : Int),.int .i64 (q0.b : Int),.bool (!q0.up)]] w1 fun e w2=>∃ (v : Value) (ov2 : Value) (D2 : DataW Unit),e = .returned v /\ MS w2 keep kb mb mxb ta n tc H q0 0 ov2 D2 none 0 (fun _=>⟨none,0,0,0,none,0,0,0⟩) /\ Kept keep w w2):=by
  refine (kq_number kb mb _ _ _ _ (flipQ q0) w1 hKn1 HSM.out (by simp)).mono ?_
  rintro e w2 ⟨ov2,D2,rfl,K2,KP2⟩
  have kp : Kept (fun k=>keep k \/ k = mxb) w w2:=p1.trans ⟨KP2.os,KP2.tape,KP2.output,KP2.size,fun k h=>KP2.block k (Or.inl h)⟩
  refine ⟨_,ov2,D2,rfl,⟨?_,hrow.of_block (kp.block mxb (Or.inr rfl)),World.ownsRow_nil _ _ _ _,fun i hi=>absurd hi (Nat.not_lt_zero _),fun i hi=>absurd hi (Nat.not_lt_zero _),hold⟩,⟨kp.os,kp.tape,kp.output,kp.size,fun k h=>kp.block k (Or.inl h)⟩⟩
  refine ⟨K2.row,K2.mlt,K2.map,K2.has,K2.val,K2.own,fun k hk=>?_⟩
  rcases hk with hk | hk | hk | ⟨i,hi,_⟩
  ·exact K2.far k (Or.inl (Or.inl hk))
  ·exact K2.far k (Or.inl (Or.inr hk))
  ·simp [Value.ownBlock] at hk
  ·omega
 clear hKn1 p1
 go_wp2_with fail
 refine HNB.out.mono ?_
 rintro e w2 ⟨v,ov2,D2,rfl,M2,KP2⟩
 have HM2 : Hid (MS w2 keep kb mb mxb ta n tc H q0 0 ov2 D2 none 0 (fun _=>⟨none,0,0,0,none,0,0,0⟩)):=M2
 have HP2 : Hid (Kept keep w w2):=KP2
 clear M2 KP2 HNB x0 x1 x2
 go_wp2
 go_loopw [8] (fun s wr=>∃ (k : Nat) (ov : Value) (D : DataW Unit) (ma : Option Addr) (mc : Nat) (np : Nat -> NP),s = .int .i64 k /\ k <= 1000 /\ Hid (MS wr keep kb mb mxb ta n tc H q0 k ov D ma mc np) /\ Hid (Kept keep w wr) /\ Hid ((∀ i,i < k -> i < (qsTill H q0 i).length) /\ ∀ i,i < k -> (qsTill H q0 i).length <= 1000)) (fun s _=>1001 - (intOf s).toNat)
 case atStart=>exact ⟨0,ov2,D2,none,0,_,rfl,by omega,HM2,HP2,⟨fun i hi=>absurd hi (Nat.not_lt_zero _),fun i hi=>absurd hi (Nat.not_lt_zero _)⟩⟩
 case round=>
  obtain ⟨k,ov,D,ma,mc,np,rfl,hk,HM,HKP,HI⟩:=hrel
  clear HM2 HP2
  have o1 : wr.cell? ⟨kb,1,none⟩ = some ov:=HM.out.kn.row.cell (i:=1) (by omega)
  obtain ⟨oa,cap,hov⟩:=own_form HM.out.kn.own
  rw [List.length_map] at hov
  obtain ⟨ln,hln⟩ : ∃ l,l = (qsTill H q0 k).length:=⟨_,rfl⟩
  rw [<- hln] at hov
  have HLN : Hid (ln = (qsTill H q0 k).length):=hln
  clear hln
  by_cases hlt : k < ln
  case neg=>
   have FIN : Hid (WalkP w keep mxb ta n tc H q0 (.returned (.bool true)) wr):=⟨HKP.out,Or.inr ⟨rfl,k,kb,mb,ov,D,ma,mc,np,⟨fun i hi=>by
    by_cases e : i = k
    ·subst e;rw [<- HLN.out];omega
    ·exact HI.out.2 i (by omega),HI.out.1,by rw [<- HLN.out];exact hlt⟩,HM.out⟩⟩
   have lz : ¬ (k : Int) < (ln : Int):=by omega
   rw [hov] at o1
   clear HI HM
   go_wp2
   go_ret
   exact FIN.out
  have lz : (k : Int) < (ln : Int):=by omega
  by_cases hov1 : 1000 < ln
  ·have FIN : Hid (WalkP w keep mxb ta n tc H q0 (.returned (.bool false)) wr):=⟨HKP.out,Or.inl ⟨rfl,k,HI.out.2,HI.out.1,by rw [<- HLN.out];exact hov1⟩⟩
   have lm : (1000 : Int) < (ln : Int):=by omega
   rw [hov] at o1
   clear HI HM
   go_wp2
   go_ret
   exact FIN.out
  have lm : ¬ (1000 : Int) < (ln : Int):=by omega
  have hgd : (qsTill H q0 k)[k]? = some (qAt H q0 k):=by
   have hk2 : k < (qsTill H q0 k).length:=by rw [<- HLN.out];exact hlt
   unfold qAt
   rw [List.getD_eq_getElem?_getD,List.getElem?_eq_getElem hk2]
   rfl
  have hq : ((qsTill H q0 k).map flipQ)[k]? = some (flipQ (qAt H q0 k)):=by rw [List.getElem?_map,hgd];rfl
  obtain ⟨g,cap',hov2,c0,c1,c2⟩:=order_q HM.out.kn hq
  rw [hov] at hov2
  simp only [Value.slice.injEq] at hov2
  obtain ⟨rfl,hxx,rfl⟩:=hov2
  clear hxx
  rw [hov] at o1
  have HC : Hid (Calls Tryz.prog 88 #[.pointer (some ⟨mxb,0,none⟩),.agg #[.int .i64 ((qAt H q0 k).a : Int),.int .i64 ((qAt H q0 k).b : Int),.bool (!(qAt H q0 k).up)],.pointer (some ⟨kb,0,none⟩)] wr (StepP wr keep kb mb mxb ta n tc H q0 (k + 1))):=
   p_step mxb kb mb ov D keep ta tc q0 k ma mc np wr HM.out (fun w' hk'=>HG.out w' (HKP.out.trans hk')) HHH.out h0 hk (by rw [<- HLN.out];omega)
  obtain ⟨qk,hqk⟩ : ∃ z,z = qAt H q0 k:=⟨_,rfl⟩
  rw [<- hqk] at HC c0 c1 c2
  have c0' : wr.cell? ⟨g,k * 3,none⟩ = some (.int .i64 (qk.a : Int)):=c0
  have c1' : wr.cell? ⟨g,k * 3 + 1,none⟩ = some (.int .i64 (qk.b : Int)):=c1
  have c2' : wr.cell? ⟨g,k * 3 + 2,none⟩ = some (.bool (!qk.up)):=c2
  clear hq hgd hqk c0 c1 c2 hov
  go_wp2_with fail
  refine HC.out.mono ?_
  rintro e w' ⟨rfl,ov',D',ma',mc',np',M',KP'⟩
  have HM' : Hid (MS w' keep kb mb mxb ta n tc H q0 (k + 1) ov' D' ma' mc' np'):=M'
  have HKP' : Hid (Kept keep w w'):=HKP.out.trans KP'
  have HI' : Hid ((∀ i,i < k + 1 -> i < (qsTill H q0 i).length) /\ ∀ i,i < k + 1 -> (qsTill H q0 i).length <= 1000):=by
   refine ⟨fun i hi=>?_,fun i hi=>?_⟩
   ·by_cases e : i = k
    ·subst e;rw [<- HLN.out];exact hlt
    ·exact HI.out.1 i (by omega)
   ·by_cases e : i = k
    ·subst e;rw [<- HLN.out];omega
    ·exact HI.out.2 i (by omega)
  clear M' KP' HM HI o1 c0' c1' c2' HC
  go_wp2
  go_roundw
  case rel=>exact ⟨k + 1,ov',D',ma',mc',np',by go_num,by omega,HM',HKP',HI'⟩
  case measure=>simp [intOf];omega
end Go.Proofs.YtpbpbppimkeodaaGreatDoor
namespace Go.Proofs.YtpbpbppimkeodaaGreatDoor
open Go.RowKit
set_option maxHeartbeats 2000000 in
theorem p_grow (n : Nat) (w : World) (hn : n <= 1048576) :
  Calls Tryz.prog 112 #[.slice none 0 0,.int .i64 (n : Int)] w fun e w'=>∃ sv,e = .returned sv /\ w'.ownsRow w.heap.size 48 3 sv 0 [] /\ Below w.heap.size w w':=by
 by_cases h0 : n = 0
 ·subst h0
  go_enter Tryz.func112,Tryz.ntmps112
  go_wp2
  go_ret
  exact ⟨_,rfl,World.ownsRow_nil _ _ _ _,Below.refl _ _⟩
 ·obtain ⟨i0,hi0,hz0,hz1,hz2⟩:=info_parts Tryz.info48
  have hold : (Builtin.firstCells i0.size 0 (.slice none 0 0)).run Tryz.prog w.drew = .ok ([] : List Value).toArray w.drew:=run_firstCells_none w.drew i0.size 0 0 0
  have hrz : ∀ ty,(Builtin.append_ #[27,3] ty #[.slice none 0 0,.int .i64 (n : Int)]).run Tryz.prog w = _:=fun ty=>Lib.run_append_grow_zeros w 27 3 ty 48 i0 _ .i64 .i64 Tryz.underlying27 Tryz.underlying3 hi0 hz0 none 0 0 [] hold n (by omega) (by omega) (by omega) (by omega) (by rw [hz2];omega) (by rw [hz2];exact growslice_fits (by omega) (by omega))
  rw [Nat.zero_add] at hrz
  obtain ⟨G,hG⟩ : ∃ G,G = grownCap w n 0 48:=⟨_,rfl⟩
  have hGn : n <= G:=by rw [hG];exact grownCap_ge w _ _ _
  have hGm : G <= maxLen:=by rw [hG];exact grownCap_le_maxLen w n 0 48 (by unfold maxLen;omega)
  rw [<- hG] at hrz
  obtain ⟨cs,hcs⟩ : ∃ cs,cs = (([] : List Value).toArray ++ Builtin.zeroCells (Value.agg #[.int .i64 0,.slice none 0 0,.slice none 0 0]).cells n ++ Builtin.zeroCells (Value.agg #[.int .i64 0,.slice none 0 0,.slice none 0 0]).cells (G - n)):=⟨_,rfl⟩
  rw [<- hcs] at hrz
  have hsz : cs.size = G * 3:=by rw [hcs];simp [size_zeroCells,Value.cells];omega
  have HF : Hid ((w.drew.alloc (.cells cs 48)).ownsRow w.heap.size 48 3 (.slice (some ⟨w.heap.size,0,none⟩) 0 G) 0 [] /\ Below w.heap.size w (w.drew.alloc (.cells cs 48))):=
   ⟨World.ownsRow_made w.drew cs G (Nat.le_refl _) hGm hsz,(Below.refl _ _).drew.alloc (Nat.le_refl _) _⟩
  have hn0 : (0 : Int) < (n : Int):=by omega
  have hG63 : (G : Int) <= 9223372036854775807:=by unfold maxLen at hGm;omega
  clear hcs hG hGm hsz hold
  go_enter Tryz.func112,Tryz.ntmps112
  go_wp2_with (at_builtin;refine Lib.wpList_append_run _ rfl _ _ _ _ rfl _ _ rfl rfl _ _ (hrz _) ?_)
  go_ret
  exact ⟨_,rfl,HF.out.1,HF.out.2⟩
theorem nodes_news {w : World} {gb go n : Nat} {p : Nat -> NP} {H : Nat -> ND} (h : NodesAt w (some ⟨gb,go,none⟩) gb go n p H) : ∀ j u,(ncells p H n)[j]? = some u -> w.cell? ((⟨gb,go,none⟩ : Addr).add j) = some u:=by
 intro j u hu
 have hl : j < n * 3:=by have:=(List.getElem?_eq_some_iff.1 hu).1;rwa [ncells_len] at this
 obtain ⟨i,r,hj,hr⟩ : ∃ i r,j = i * 3 + r /\ r < 3:=⟨j / 3,j % 3,by omega,Nat.mod_lt _ (by omega)⟩
 subst hj
 have hi : i < n:=by omega
 obtain ⟨a0,a1,a2⟩:=ncells_at p H n i hi
 rw [show (⟨gb,go,none⟩ : Addr).add (i * 3 + r) = ⟨gb,go + (i * 3 + r),none⟩ from by simp [Addr.add]]
 match r,hr with
 | 0,_=>rw [Nat.add_zero] at hu ⊢;rw [a0] at hu;rw [<- hu];exact h.c0 i hi
 | 1,_=>rw [a1] at hu;rw [<- hu,<- Nat.add_assoc];exact h.c1 i hi
 | 2,_=>rw [a2] at hu;rw [<- hu,<- Nat.add_assoc];exact h.c2 i hi
theorem ncells_one (p : Nat -> NP) (H : Nat -> ND) (n : Nat) : ∀ u ∈ ncells p H n,u.oneCell' = true:=by
 intro u hu
 unfold ncells at hu
 obtain ⟨i,_,hi⟩:=List.mem_flatMap.1 hu
 simp at hi
 rcases hi with rfl | rfl | rfl <;> rfl
theorem ncells_app (p q : Nat -> NP) (G K : Nat -> ND) (n : Nat) : ∀ k,ncells (fun i=>if i < n then p i else q (i - n)) (fun i=>if i < n then G i else K (i - n)) (n + k) = ncells p G n ++ ncells q K k
 | 0=>by
   rw [Nat.add_zero]
   show _ = ncells p G n ++ []
   rw [List.append_nil]
   exact ncells_cong n (fun i hi=>⟨if_pos hi,if_pos hi⟩)
 | k + 1=>by
   rw [show n + (k + 1) = (n + k) + 1 from by omega,ncells_succ,ncells_succ,ncells_app p q G K n k,List.append_assoc]
   rw [if_neg (by omega),if_neg (by omega),show n + k - n = k from by omega]
def ConcatP (w : World) (n k : Nat) (p np : Nat -> NP) (H nd : Nat -> ND) (e : Ending) (w' : World) : Prop:=
 ∃ (oa : Option Addr) (b' cap : Nat),e = .returned (.slice oa (n + k) cap) /\ NodesAt w' oa b' 0 (n + k) (fun i=>if i < n then p i else np (i - n)) (fun i=>if i < n then H i else nd (i - n)) /\ Below w.heap.size w w'
theorem own_nodes {w : World} {base : Nat} {oa : Option Addr} {n cap : Nat} {q : Nat -> NP} {G : Nat -> ND} (h : w.ownsRow base 48 3 (.slice oa n cap) n (ncells q G n)) (hn : ∀ i,i < n -> NodeAt w (q i) (G i)) (hk : n <= 9223372036854775807) : ∃ b,NodesAt w oa b 0 n q G /\ (0 < n -> (Value.slice oa n cap).ownBlock = some b):=by
 obtain ⟨h1,h2⟩:=h
 rcases h2 with ⟨hv,hn0⟩ | ⟨g,cap',cur,hv,hb,hh,hc,hm,hs,ht⟩
 ·exact ⟨0,⟨fun z=>absurd z (by omega),fun i z=>absurd z (by omega),fun i z=>absurd z (by omega),fun i z=>absurd z (by omega),fun i z=>absurd z (by omega),hk⟩,fun z=>absurd z (by omega)⟩
 ·simp only [Value.slice.injEq] at hv
  have key : ∀ j u,j < n * 3 -> (ncells q G n)[j]? = some u -> w.cell? ⟨g,0 + j,none⟩ = some u:=fun j u hj hu=>by
   rw [<- ht,List.getElem?_take,if_pos hj,Array.getElem?_toList] at hu
   simp [World.cell?,hh,hu]
  have eg : (Value.slice oa n cap).ownBlock = some g:=by rw [hv.1];rfl
  exact ⟨g,⟨fun _=>hv.1,fun i hi=>key (i * 3) _ (by omega) (ncells_at q G _ i hi).1,fun i hi=>key (i * 3 + 1) _ (by omega) (ncells_at q G _ i hi).2.1,fun i hi=>key (i * 3 + 2) _ (by omega) (ncells_at q G _ i hi).2.2,hn,hk⟩,fun _=>eg⟩
set_option maxHeartbeats 4000000 in
theorem p_concat {gb go n mg mo k : Nat} {p np : Nat -> NP} {H nd : Nat -> ND} (tc mc sb sc : Nat) (w : World) (hG : NodesAt w (some ⟨gb,go,none⟩) gb go n p H) (hM : NodesAt w (some ⟨mg,mo,none⟩) mg mo k np nd) (hn : 0 < n) (hk : 0 < k) (hn2 : n <= 4000) (hk2 : k <= 1000)
  (c0 : w.cell? ⟨sb,0,none⟩ = some (.slice (some ⟨gb,go,none⟩) n tc)) (c1 : w.cell? ⟨sb,1,none⟩ = some (.slice (some ⟨mg,mo,none⟩) k mc)) :
  Calls Tryz.prog 89 #[.slice (some ⟨sb,0,none⟩) 2 sc] w (ConcatP w n k p np H nd):=by
 have HG : Hid (∀ w',Below w.heap.size w w' -> NodesAt w' (some ⟨gb,go,none⟩) gb go n p H /\ NodesAt w' (some ⟨mg,mo,none⟩) mg mo k np nd /\ w'.cell? ⟨sb,0,none⟩ = some (.slice (some ⟨gb,go,none⟩) n tc) /\ w'.cell? ⟨sb,1,none⟩ = some (.slice (some ⟨mg,mo,none⟩) k mc)):=fun w' hb=>
  ⟨hG.below hb,hM.below hb,(hb.cell (p:=⟨sb,0,none⟩) (blt c0)).trans c0,(hb.cell (p:=⟨sb,1,none⟩) (blt c1)).trans c1⟩
 clear hG hM
 obtain ⟨i0,hi0,hz0,hz1,hz2⟩:=info_parts Tryz.info48
 go_enter Tryz.func89,Tryz.ntmps89
 go_wp2
 go_loopw [3,11] (fun s3 s11 wr=>∃ i : Nat,i <= 2 /\ s11 = .int .i64 i /\ s3 = .int .i64 (if i = 0 then 0 else if i = 1 then (n : Int) else (n + k : Int)) /\ wr = w) (fun _ s11 _=>2 - (intOf s11).toNat)
 case atStart=>exact ⟨0,by omega,rfl,rfl,rfl⟩
 case round=>
  obtain ⟨i,hi,rfl,rfl,rfl⟩:=hrel
  match i,hi with
  | 0,_=>
    go_wp2
    go_roundw
    case rel=>exact ⟨1,by omega,by first | rfl | simp,by simp,by first | rfl | trivial⟩
    case measure=>simp [intOf]
  | 1,_=>
    go_wp2
    go_roundw
    case rel=>exact ⟨2,by omega,by first | rfl | simp,by simp,by first | rfl | trivial⟩
    case measure=>simp [intOf]
  | 2,_=>
    have HGR : Hid (Calls Tryz.prog 112 #[.slice none 0 0,.int .i64 ((n : Int) + (k : Int))] wr fun e w'=>∃ sv,e = .returned sv /\ w'.ownsRow wr.heap.size 48 3 sv 0 [] /\ Below wr.heap.size wr w'):=by
     have:=p_grow (n + k) wr (by omega)
     rw [Int.natCast_add] at this
     exact this
    go_wp2_with fail
    refine HGR.out.mono ?_
    rintro e w0 ⟨sv,rfl,O0,hb0⟩
    obtain ⟨oa0,cap0,rfl⟩:=own_form O0
    have OWN0 : Hid (w0.ownsRow wr.heap.size 48 3 (.slice oa0 0 cap0) 0 []):=O0
    have HB0 : Hid (Below wr.heap.size wr w0):=hb0
    clear O0 hb0 HGR c0 c1
    go_wp2
    go_loopw [6,27] (fun s6 s27 wx=>∃ (i : Nat) (oa : Option Addr) (l cap : Nat),i <= 2 /\ s6 = .slice oa l cap /\ s27 = .int .i64 i /\ Hid (Below wr.heap.size wr wx) /\ l = (if i = 0 then 0 else if i = 1 then n else n + k) /\ Hid (wx.ownsRow wr.heap.size 48 3 (.slice oa l cap) (if i = 0 then 0 else if i = 1 then n else n + k) (if i = 0 then [] else if i = 1 then ncells p H n else ncells p H n ++ ncells np nd k))) (fun _ s27 _=>2 - (intOf s27).toNat)
    case atStart=>exact ⟨0,oa0,0,cap0,by omega,rfl,rfl,HB0,rfl,OWN0⟩
    case round=>
     rename World=>wx
     obtain ⟨i,oa,l,cap,hi,rfl,rfl,HB,hl,HO⟩:=hrel
     clear OWN0 HB0
     have hws:=HB.out.size
     obtain ⟨NG,NM,d0,d1⟩:=HG.out wx HB.out
     match i,hi with
     | 0,_=>
       have hl2 : l = 0:=hl
       clear hl
       subst hl2
       have O : wx.ownsRow wr.heap.size 48 3 (.slice oa 0 cap) 0 []:=HO.out
       have HNW : Hid _:=nodes_news NG
       have HLN : Hid ((ncells p H n).length = n * 3):=ncells_len p H n
       have HOO : Hid (wx.ownsRow wr.heap.size 48 3 (.slice oa 0 cap) 0 []):=O
       clear NG NM HO O
       go_wp2_with (at_builtin;refine wpList_append_lies _ rfl _ _ 27 rfl wr.heap.size 48 i0 _ 3 56 Tryz.underlying27 hi0 hz0 hz1 hz2 rfl (by omega) (.slice oa 0 cap) 0 [] rfl HOO.out ⟨gb,go,none⟩ n tc (ncells p H n) rfl HLN.out HNW.out (ncells_one p H n) hn (by unfold maxLen;omega) (by omega) hws wx.heap.size rfl ?_;intro gg cap3 w3 hown3 hg3 hat3 hlt3)
       have HB3 : Hid (Below wr.heap.size wr w3):=⟨hg3.os.trans HB.out.os,hg3.tape.trans HB.out.tape,hg3.output.trans HB.out.output,by have:=hg3.size;omega,fun j hj=>(hg3.block j (by omega) (fun e=>by have:=(HOO.out.lt j e.symm).1;omega)).trans (HB.out.block j hj)⟩
       have HO3 : Hid (w3.ownsRow wr.heap.size 48 3 (.slice (some ⟨gg,0,none⟩) (0 + n) cap3) (0 + n) ([] ++ ncells p H n)):=hown3
       clear hown3 hg3 hat3 HOO HNW HLN
       go_wp2
       go_roundw
       case rel=>exact ⟨1,_,_,_,by omega,rfl,by first | rfl | simp,HB3,by simp,by have h9:=HO3.out;rw [Nat.zero_add,List.nil_append] at h9;exact h9⟩
       case measure=>simp [intOf]
     | 1,_=>
       have hl2 : n = l:=hl.symm
       clear hl
       subst hl2
       have O : wx.ownsRow wr.heap.size 48 3 (.slice oa n cap) n (ncells p H n):=HO.out
       have HNW : Hid _:=nodes_news NM
       have HLN : Hid ((ncells np nd k).length = k * 3):=ncells_len np nd k
       have HOO : Hid (wx.ownsRow wr.heap.size 48 3 (.slice oa n cap) n (ncells p H n)):=O
       clear NG NM HO O
       go_wp2_with (at_builtin;refine wpList_append_lies _ rfl _ _ 27 rfl wr.heap.size 48 i0 _ 3 56 Tryz.underlying27 hi0 hz0 hz1 hz2 rfl (by omega) (.slice oa n cap) n (ncells p H n) rfl HOO.out ⟨mg,mo,none⟩ k mc (ncells np nd k) rfl HLN.out HNW.out (ncells_one np nd k) hk (by unfold maxLen;omega) (by omega) hws wx.heap.size rfl ?_;intro gg cap3 w3 hown3 hg3 hat3 hlt3)
       have HB3 : Hid (Below wr.heap.size wr w3):=⟨hg3.os.trans HB.out.os,hg3.tape.trans HB.out.tape,hg3.output.trans HB.out.output,by have:=hg3.size;omega,fun j hj=>(hg3.block j (by omega) (fun e=>by have:=(HOO.out.lt j e.symm).1;omega)).trans (HB.out.block j hj)⟩
       have HO3 : Hid (w3.ownsRow wr.heap.size 48 3 (.slice (some ⟨gg,0,none⟩) (n + k) cap3) (n + k) (ncells p H n ++ ncells np nd k)):=hown3
       clear hown3 hg3 hat3 HOO HNW HLN
       go_wp2
       go_roundw
       case rel=>exact ⟨2,_,_,_,by omega,rfl,by first | rfl | simp,HB3,by simp,HO3⟩
       case measure=>simp [intOf]
     | 2,_=>
       have hl2 : l = n + k:=hl
       clear hl
       subst hl2
       have O : wx.ownsRow wr.heap.size 48 3 (.slice oa (n + k) cap) (n + k) (ncells p H n ++ ncells np nd k):=HO.out
       have HF : Hid (ConcatP wr n k p np H nd (.returned (.slice oa (n + k) cap)) wx):=by
        rw [<- ncells_app] at O
        obtain ⟨b,N,_⟩:=own_nodes O (fun i hi=>by
         by_cases h : i < n
         ·rw [if_pos h,if_pos h];exact NG.node i h
         ·rw [if_neg h,if_neg h];exact NM.node _ (by omega)) (by omega)
        exact ⟨oa,b,cap,rfl,N,HB.out⟩
       clear O NG NM HO
       go_wp2
       go_ret
       exact HF.out
end Go.Proofs.YtpbpbppimkeodaaGreatDoor
namespace Go.Proofs.YtpbpbppimkeodaaGreatDoor
open Go.RowKit Go.Maps
def JPost (w : World) (n : Nat) (c : Nat -> ND) (z : Int) (e : Ending) (w' : World) : Prop:=
 ∃ (oa : Option Addr) (b cap : Nat) (p : Nat -> NP),e = .returned (.tuple #[.agg #[.slice oa n cap],.int .i64 z]) /\ NodesAt w' oa b 0 n p c /\ OwnG w' n b p c /\ FreshG w.heap.size n 0 b 0 p c /\ Below w.heap.size w w'
theorem jp_set {w W w1 : World} {n R b lb X cap : Nat} {oa : Option Addr} {p : Nat -> NP} {c : Nat -> ND} {z : Int} (hN : NodesAt w1 oa b 0 n p c) (hO : OwnG w1 n b p c) (hF : FreshG W.heap.size n R b lb p c) (hB : Below w.heap.size w w1) (h1 : w.heap.size <= X) (h2 : X < W.heap.size) (u : Value) :
  JPost w n c z (.returned (.tuple #[.agg #[.slice oa n cap],.int .i64 z])) (w1.setCell ⟨X,0,none⟩ u):=by
 have bl : ∀ k,W.heap.size <= k -> (w1.setCell ⟨X,0,none⟩ u).heap[k]? = w1.heap[k]?:=fun k hk=>Below.heap_setCell _ _ _ _ (by show k ≠ X;omega)
 refine ⟨oa,b,cap,p,rfl,⟨hN.at_,fun i hi=>(World.cell?_of_block (bl _ hF.row)).trans (hN.c0 i hi),fun i hi=>(World.cell?_of_block (bl _ hF.row)).trans (hN.c1 i hi),fun i hi=>(World.cell?_of_block (bl _ hF.row)).trans (hN.c2 i hi),fun i hi=>?_,hN.len⟩,hO.of (fun _=>bl _ hF.row) (fun i hi=>⟨fun z=>bl _ ((hF.node i hi).1 z),fun z=>bl _ ((hF.node i hi).2 z)⟩),⟨by have:=hF.row;omega,fun i hi=>⟨fun z=>by have:=(hF.node i hi).1 z;omega,fun z=>by have:=(hF.node i hi).2 z;omega⟩,fun z=>absurd z (by omega)⟩,hB.setCell h1 _⟩
 exact (hN.node i hi).later (fun z=>bl _ ((hF.node i hi).1 z)) (fun z=>bl _ ((hF.node i hi).2 z))
theorem jp_any {w w5 : World} {X : Nat} (hB : Below w.heap.size w w5) (h1 : w.heap.size <= X) (h2 : X < w5.heap.size) (u : Value) :
  JPost w 1 (fun _=>mkN 0) 0 (.returned (.tuple #[.agg #[.slice (some ⟨w5.heap.size,0,none⟩) 1 1],.int .i64 0])) ((w5.alloc (.cells #[.int .i64 0,.slice none 0 0,.slice none 0 0] 48)).setCell ⟨X,0,none⟩ u):=by
 have R:=row3 w5 (.int .i64 0) (.slice none 0 0) (.slice none 0 0) 48
 refine jp_set (W:=w5) (R:=0) (lb:=0) (p:=fun _=>np0) ⟨fun _=>rfl,fun i hi=>?_,fun i hi=>?_,fun i hi=>?_,fun i hi=>node_mk _ 0,by omega⟩ ⟨fun _=>⟨_,_,heap_alloc_new w5 _⟩,fun i hi=>⟨fun z=>absurd z (Nat.lt_irrefl _),fun z=>absurd z (Nat.lt_irrefl _)⟩,fun i j hi hj=>⟨fun _ z=>absurd z (Nat.lt_irrefl _),fun _ z=>absurd z (Nat.lt_irrefl _),fun z=>absurd z (Nat.lt_irrefl _)⟩⟩ ⟨Nat.le_refl _,fun i hi=>⟨fun z=>absurd z (Nat.lt_irrefl _),fun z=>absurd z (Nat.lt_irrefl _)⟩,fun z=>absurd z (Nat.lt_irrefl _)⟩ (hB.alloc hB.size _) h1 h2 u
 ·have e : i = 0:=by omega
  subst e;exact R.cell (i:=0) (by omega)
 ·have e : i = 0:=by omega
  subst e;exact R.cell (i:=1) (by omega)
 ·have e : i = 0:=by omega
  subst e;exact R.cell (i:=2) (by omega)
def PMixPost (w : World) (n : Nat) (H : Nat -> ND) (q0 : Qn) (e : Ending) (w' : World) : Prop:=
 (∃ k,OverQ H q0 k /\ JPost w 1 (fun _=>mkN 0) 0 e w') \/
 (∃ k,FullQ H q0 k /\ ∃ (n' : Nat) (G' : Nat -> ND),n' = n + k /\ G' = mixG n H (qsTill H q0 k) q0 /\ ∃ cl : Nat -> Nat,
  (∀ x y,x < (S1 n' 1 G' (fun _=>n)).length -> y < (S1 n' 1 G' (fun _=>n)).length -> (cl x = cl y ↔ Same (S1 n' 1 G' (fun _=>n)).length (G1 n' 1 G' (fun _=>n)) x y)) /\
  JPost w (allTill (G1 n' 1 G' (fun _=>n)) cl ((S1 n' 1 G' (fun _=>n)).length + 1) (ns1 n' 1 G' (fun _=>n)) [] 1).length (G2 (G1 n' 1 G' (fun _=>n)) cl (allTill (G1 n' 1 G' (fun _=>n)) cl ((S1 n' 1 G' (fun _=>n)).length + 1) (ns1 n' 1 G' (fun _=>n)) [] 1)) (numOf cl (allTill (G1 n' 1 G' (fun _=>n)) cl ((S1 n' 1 G' (fun _=>n)).length + 1) (ns1 n' 1 G' (fun _=>n)) [] 1) (ns1 n' 1 G' (fun _=>n) 0) : Int) e w')
theorem ints2 (w : World) (a b : Nat) : IntsAt (w.alloc (.cells #[.int .i64 (a : Int),.int .i64 (b : Int)] 3)) (some ⟨w.heap.size,0,none⟩) w.heap.size 0 2 (fun i=>(ns2 a b i : Int)):=
 (two_ints w (a : Int) (b : Int)).congr (fun i hi=>by
  match i,hi with
  | 0,_=>rfl
  | 1,_=>rfl)
set_option maxHeartbeats 8000000 in
theorem p_mixture {N b0 o : Nat} {p : Nat -> NP} {G : Nat -> ND} (ao : Option Addr) (gc a b : Nat) (up : Bool) (w : World) (hv : vgr N G = true) (h2 : ∀ i,i < N -> (G i).nn + (G i).nk <= 1048576) (ha : a < N) (hb : b < N) (hG : NodesAt w ao b0 o N p G) (cm r : Nat -> Nat) (hcm : ∀ x y,x < N -> y < N -> (cm x = cm y ↔ Same N G x y))
  (hr : ∀ t,t < (allTill G cm (N + 1) (ns2 a b) [] 2).length -> r t < N /\ (cm (r t) : Int) = ((((allTill G cm (N + 1) (ns2 a b) [] 2).map cm).getD t 0 : Nat) : Int)) :
  Calls Tryz.prog 62 #[.agg #[.slice ao N gc],.int .i64 (a : Int),.int .i64 (b : Int),.bool (!up)] w (PMixPost w (allTill G cm (N + 1) (ns2 a b) [] 2).length (mN G cm (allTill G cm (N + 1) (ns2 a b) [] 2) r) ⟨numOf cm (allTill G cm (N + 1) (ns2 a b) [] 2) a,numOf cm (allTill G cm (N + 1) (ns2 a b) [] 2) b,up⟩):=by
 have hns : ∀ i,i < 2 -> ns2 a b i < N:=fun i _=>by unfold ns2;split <;> assumption
 obtain ⟨gH,sH⟩:=goodH_mN hv hns h2 hcm hr
 obtain ⟨W3,hW3⟩ : ∃ W3,W3 = ((w.alloc (.cells #[.slice ao N gc] 29)).alloc (.cells #[.slice none 0 0] 29)).alloc (.cells #[.int .i64 (a : Int),.int .i64 (b : Int)] 3):=⟨_,rfl⟩
 have B3 : Below w.heap.size w W3:=by rw [hW3];exact bel3 _ _ _ _
 have z3 : Hid (W3.heap.size = w.heap.size + 3):=by show _ = _;rw [hW3];simp
 have RS : W3.rowIs (w.heap.size + 1) 29 1 (fun _=>.slice none 0 0):=by
  have:=(row1 (w.alloc (.cells #[.slice ao N gc] 29)) (.slice none 0 0) 29).alloc (.cells #[.int .i64 (a : Int),.int .i64 (b : Int)] 3)
  rw [World.size_alloc] at this
  rw [hW3];exact this
 have I3 : IntsAt W3 (some ⟨w.heap.size + 1 + 1,0,none⟩) (w.heap.size + 1 + 1) 0 2 (fun i=>(ns2 a b i : Int)):=by
  have:=ints2 ((w.alloc (.cells #[.slice ao N gc] 29)).alloc (.cells #[.slice none 0 0] 29)) a b
  simp only [World.size_alloc] at this
  rw [hW3];exact this
 have hst : ∀ i,i < 2 -> numOf cm (allTill G cm (N + 1) (ns2 a b) [] 2) (ns2 a b i) < (allTill G cm (N + 1) (ns2 a b) [] 2).length:=fun i hi=>
  numOf_lt ((allTill_full (G:=G) (cl:=cm) (kids_of hv) (f:=N + 1) (ns:=ns2 a b) (m:=2) hns (by omega) 2 (Nat.le_refl _)).2.1 i hi)
 have hq0:=hst 0 (by omega)
 have hq1:=hst 1 (by omega)
 rw [show ns2 a b 0 = a from rfl] at hq0
 rw [show ns2 a b 1 = b from rfl] at hq1
 have HC1 : Hid (Calls Tryz.prog 34 #[.agg #[.slice ao N gc],.slice (some ⟨w.heap.size + 1 + 1,0,none⟩) 2 2] W3 fun e w1=>∃ (oa : Option Addr) (b' cap : Nat) (p' : Nat -> NP) (lb lc : Nat),e = .returned (.tuple #[.agg #[.slice oa (allTill G cm (N + 1) (ns2 a b) [] 2).length cap],.slice (some ⟨lb,0,none⟩) 2 lc]) /\ NodesAt w1 oa b' 0 (allTill G cm (N + 1) (ns2 a b) [] 2).length p' (mN G cm (allTill G cm (N + 1) (ns2 a b) [] 2) r) /\
   w1.cell? ⟨lb,0,none⟩ = some (.int .i64 (numOf cm (allTill G cm (N + 1) (ns2 a b) [] 2) a : Int)) /\ w1.cell? ⟨lb,1,none⟩ = some (.int .i64 (numOf cm (allTill G cm (N + 1) (ns2 a b) [] 2) b : Int)) /\ Below W3.heap.size W3 w1):=by
  have hN:=vgr_len hv
  refine (c25 ao _ gc 2 2 _ 0 (ns2 a b) W3 (by omega) (by omega) (kids_of hv) (fun i hi=>plain_of (shp_of hv hi)) (fun i hi=>⟨by have:=h2 i hi;omega,fun j hj=>short_of (shp_of hv hi) hj⟩) (fun i hi=>by have:=h2 i hi;omega) hns (hG.below B3) I3).mono ?_
  rintro e w1 ⟨cl,hcl,oa,b',cap,p',la,lb,lc,rfl,n3,i3,_,f5,o7,o8,b3⟩
  have F:=canon_one (kids_of hv) hns hcl hcm
  have S:=one_same F hr
  have n4:=n3.same S
  have i4:=i3.congr (fun i hi=>congrArg Int.ofNat (F.num i hi))
  have hlen:=F.len
  rw [hlen] at n4 ⊢
  have ela:=i4.at_ (by omega)
  subst ela
  have d0:=i4.cell 0 (by omega)
  have d1:=i4.cell 1 (by omega)
  exact ⟨oa,b',cap,p',lb,lc,rfl,n4,d0,d1,b3⟩
 obtain ⟨n,hn⟩ : ∃ n,n = (allTill G cm (N + 1) (ns2 a b) [] 2).length:=⟨_,rfl⟩
 obtain ⟨H,hH⟩ : ∃ H,H = mN G cm (allTill G cm (N + 1) (ns2 a b) [] 2) r:=⟨_,rfl⟩
 obtain ⟨r0,hr0⟩ : ∃ n,n = numOf cm (allTill G cm (N + 1) (ns2 a b) [] 2) a:=⟨_,rfl⟩
 obtain ⟨r1,hr1⟩ : ∃ n,n = numOf cm (allTill G cm (N + 1) (ns2 a b) [] 2) b:=⟨_,rfl⟩
 rw [<- hn,<- hH,<- hr0,<- hr1] at HC1
 rw [<- hn,<- hH] at gH sH
 rw [<- hn,<- hr0] at hq0
 rw [<- hn,<- hr1] at hq1
 rw [<- hn,<- hH,<- hr0,<- hr1]
 clear hn hH hr0 hr1 hst hcm hr hns hv h2 ha hb hG I3
 have HGH : Hid (GoodH n H):=gH
 have HSH : Hid (∀ t,t < n -> shp (H t) = true):=sH
 have hn4:=gH.n
 have HRS : Hid (W3.rowIs (w.heap.size + 1) 29 1 (fun _=>.slice none 0 0)):=RS
 clear gH sH RS
 go_enter Tryz.func62,Tryz.ntmps62
 go_wp2_with fail
 rw [<- hW3]
 clear hW3
 refine HC1.out.mono ?_
 rintro e w1 ⟨oa,b',cap,p',lb,lc,rfl,N1,l0,l1,B1⟩
 have hs1:=B1.size
 have hz3:=z3.out
 have HB1 : Hid (Below w.heap.size w w1):=B3.trans (B1.mono B3.size)
 have HRS1 : Hid (w1.rowIs (w.heap.size + 1) 29 1 (fun _=>.slice none 0 0)):=HRS.out.of_block (B1.block _ (by omega))
 have eoa:=N1.at_ (by omega)
 subst eoa
 have HN1 : Hid (NodesAt w1 (some ⟨b',0,none⟩) b' 0 n p' H):=N1
 clear N1 B1 B3 HC1 HRS z3
 obtain ⟨W4,hW4⟩ : ∃ W4,W4 = (w1.alloc (.cells #[.slice (some ⟨b',0,none⟩) n cap] 29)).alloc (.cells #[.slice (some ⟨b',0,none⟩) n cap,.slice none 0 0] 121):=⟨_,rfl⟩
 have B4 : Below w1.heap.size w1 W4:=by rw [hW4];exact bel2 _ _ _
 have z4 : Hid (W4.heap.size = w1.heap.size + 2):=by show _ = _;rw [hW4];simp
 have RT : W4.rowIs w1.heap.size 29 1 (fun _=>.slice (some ⟨b',0,none⟩) n cap):=by rw [hW4];exact (row1 _ _ _).alloc _
 have RM : W4.rowIs (w1.heap.size + 1) 121 2 (v2 (.slice (some ⟨b',0,none⟩) n cap) (.slice none 0 0)):=by
  have:=row2 (w1.alloc (.cells #[.slice (some ⟨b',0,none⟩) n cap] 29)) (.slice (some ⟨b',0,none⟩) n cap) (.slice none 0 0) 121
  rw [World.size_alloc] at this
  rw [hW4];exact this
 have t0 : w1.cell? ⟨lb,0,none⟩ = some (.int .i64 (r0 : Int)):=l0
 have lbl : lb < w1.heap.size:=blt l0
 have HRT : Hid (W4.rowIs w1.heap.size 29 1 (fun _=>.slice (some ⟨b',0,none⟩) n cap)):=RT
 have y0 : W4.cell? ⟨lb,0,none⟩ = some (.int .i64 (r0 : Int)):=(B4.cell (p:=⟨lb,0,none⟩) lbl).trans l0
 have y1 : W4.cell? ⟨lb,1,none⟩ = some (.int .i64 (r1 : Int)):=(B4.cell (p:=⟨lb,1,none⟩) lbl).trans l1
 have HWK : Hid (∀ t,Calls Tryz.prog 87 #[.agg #[.int .i64 (r0 : Int),.int .i64 (r1 : Int),.bool (!up)],.int .i64 1000,.func (.func 88) #[.pointer (some ⟨w1.heap.size + 1,0,none⟩)] #[]] (W4.drewN t) fun e w5=>∃ bb : Bool,e = .returned (.bool bb) /\ (w5.cell? ⟨lb,0,none⟩ = some (.int .i64 (r0 : Int)) /\ w5.cell? ⟨lb,1,none⟩ = some (.int .i64 (r1 : Int))) /\ Hid (Kept (fun j=>j < w1.heap.size + 1) W4 w5 /\ ((bb = false /\ ∃ k,OverQ H ⟨r0,r1,up⟩ k) \/ (bb = true /\ ∃ k kb mb ov D ma mc np,FullQ H ⟨r0,r1,up⟩ k /\ MS w5 (fun j=>j < w1.heap.size + 1) kb mb (w1.heap.size + 1) (some ⟨b',0,none⟩) n cap H ⟨r0,r1,up⟩ k ov D ma mc np)))):=fun t=>by
  refine (p_walk (n:=n) (gb:=b') (go:=0) (p:=p') (H:=H) (w1.heap.size + 1) (fun j=>j < w1.heap.size + 1) (some ⟨b',0,none⟩) cap ⟨r0,r1,up⟩ (W4.drewN t) (RM.of_block rfl) (fun j hj=>hj) (fun w' hk=>?_) HGH.out ⟨hq0,hq1⟩).mono ?_
  ·refine HN1.out.below ⟨hk.os.trans B4.os,hk.tape.trans B4.tape,hk.output.trans B4.output,Nat.le_trans B4.size hk.size,fun j hj=>(hk.block j (by show j < _;omega)).trans (B4.block j hj)⟩
  ·rintro e w5 ⟨KP,h5⟩
   have kp : Kept (fun j=>j < w1.heap.size + 1) W4 w5:=(kept_drewN W4 t).trans KP
   have c0 : w5.cell? ⟨lb,0,none⟩ = some (.int .i64 (r0 : Int)):=(kp.cell (a:=⟨lb,0,none⟩) (by show lb < _;omega)).trans y0
   have c1 : w5.cell? ⟨lb,1,none⟩ = some (.int .i64 (r1 : Int)):=(kp.cell (a:=⟨lb,1,none⟩) (by show lb < _;omega)).trans y1
   rcases h5 with ⟨rfl,h⟩ | ⟨rfl,h⟩
   ·exact ⟨false,rfl,⟨c0,c1⟩,kp,Or.inl ⟨rfl,h⟩⟩
   ·exact ⟨true,rfl,⟨c0,c1⟩,kp,Or.inr ⟨rfl,h⟩⟩
 have HB4 : Hid (Below w1.heap.size w1 W4):=B4
 clear l0 l1 t0 RT RM B4
 go_wp2
 rw [<- hW4]
 clear hW4
 go_region_held3 (fun w'=>w'.cell? ⟨lb,0,none⟩ = some (.int .i64 (r0 : Int)) /\ w'.cell? ⟨lb,1,none⟩ = some (.int .i64 (r1 : Int))) (go_keep)
  (first
   | (go_at_call 87;refine (HWK.out _).mono ?_;rintro e w5 ⟨bb,rfl,⟨x0,x1⟩,H5⟩))
 all_goals
  clear y0 y1 x0 x1 HWK
  have kp:=H5.out.1
  have hz4:=z4.out
  have hs5:=kp.size
  have HB5 : Hid (Below w.heap.size w w5):=⟨kp.os.trans (HB4.out.os.trans HB1.out.os),kp.tape.trans (HB4.out.tape.trans HB1.out.tape),kp.output.trans (HB4.out.output.trans HB1.out.output),by have:=HB1.out.size;omega,fun j hj=>(kp.block j (by show j < _;have:=HB1.out.size;omega)).trans ((HB4.out.block j (by have:=HB1.out.size;omega)).trans (HB1.out.block j hj))⟩
  have RS5:=HRS1.out.of_block ((kp.block (w.heap.size + 1) (by show w.heap.size + 1 < _;omega)).trans (HB4.out.block _ (by omega)))
  have RT5:=HRT.out.of_block (kp.block w1.heap.size (by show w1.heap.size < _;omega))
  cases bb with
  | false=>
    have HF : Hid (PMixPost w n H ⟨r0,r1,up⟩ (.returned (.tuple #[.agg #[.slice (some ⟨w5.heap.size,0,none⟩) 1 1],.int .i64 0])) ((w5.alloc (.cells #[.int .i64 0,.slice none 0 0,.slice none 0 0] 48)).setCell ⟨w.heap.size + 1,0,none⟩ (.slice (some ⟨w5.heap.size,0,none⟩) 1 1))):=by
     rcases H5.out.2 with ⟨_,k,hk⟩ | ⟨e,_⟩
     ·exact Or.inl ⟨k,hk,jp_any HB5.out (by omega) (by omega) _⟩
     ·cases e
    have g0:=(RS5.alloc (.cells #[.int .i64 0,.slice none 0 0,.slice none 0 0] 48)).cell (i:=0) (by omega)
    have g1:=(RS5.alloc (.cells #[.int .i64 0,.slice none 0 0,.slice none 0 0] 48)).frozen 0
    clear kp RS5 RT5 H5
    go_wp2
    exact bodyPost_ret (v:=.tuple #[.agg #[.slice (some ⟨w5.heap.size,0,none⟩) 1 1],.int .i64 0]) (by simp [results,Tryz.results62,go_sem,g0]) rfl HF.out
  | true=>
    obtain ⟨k,kb,mb,ov,D,ma,mc,np,FQ,M5⟩ : ∃ k kb mb ov D ma mc np,FullQ H ⟨r0,r1,up⟩ k /\ MS w5 (fun j=>j < w1.heap.size + 1) kb mb (w1.heap.size + 1) (some ⟨b',0,none⟩) n cap H ⟨r0,r1,up⟩ k ov D ma mc np:=by
     rcases H5.out.2 with ⟨e,_⟩ | ⟨_,h⟩
     ·cases e
     ·exact h
    have hkp:=FQ.pos
    have hk1000 : k <= 1000:=by have h9:=FQ.few k (Nat.le_refl _);rw [FQ.len] at h9;exact h9
    obtain ⟨mg,MN,_⟩:=own_nodes M5.own M5.node (by omega)
    have ema:=MN.at_ hkp
    subst ema
    have N5 : NodesAt w5 (some ⟨b',0,none⟩) b' 0 n p' H:=HN1.out.below ⟨kp.os.trans HB4.out.os,kp.tape.trans HB4.out.tape,kp.output.trans HB4.out.output,Nat.le_trans HB4.out.size kp.size,fun j hj=>(kp.block j (by show j < _;omega)).trans (HB4.out.block j hj)⟩
    have HFQ : Hid (FullQ H ⟨r0,r1,up⟩ k):=FQ
    have HND : Hid (∀ w',Below w5.heap.size w5 w' -> NodesAt w' (some ⟨b',0,none⟩) b' 0 n p' H /\ NodesAt w' (some ⟨mg,0,none⟩) mg 0 k np (ndQ n H ⟨r0,r1,up⟩)):=fun w' hb=>⟨N5.below hb,MN.below hb⟩
    have c10 : w5.cell? ⟨w1.heap.size,0,none⟩ = some (.slice (some ⟨b',0,none⟩) n cap):=RT5.cell (i:=0) (by omega)
    have c12 : w5.cell? ⟨w1.heap.size + 1,1,none⟩ = some (.slice (some ⟨mg,0,none⟩) k mc):=M5.row.cell (i:=1) (by omega)
    obtain ⟨W6,hW6⟩ : ∃ W6,W6 = w5.alloc (.cells #[.slice (some ⟨b',0,none⟩) n cap,.slice (some ⟨mg,0,none⟩) k mc] 27):=⟨_,rfl⟩
    have B6 : Below w5.heap.size w5 W6:=by rw [hW6];exact bel1 _ _
    have z6 : W6.heap.size = w5.heap.size + 1:=by rw [hW6];simp
    have HC6 : Hid (Calls Tryz.prog 89 #[.slice (some ⟨w5.heap.size,0,none⟩) 2 2] W6 (ConcatP W6 n k p' np H (ndQ n H ⟨r0,r1,up⟩))):=by
     have R:=row2 w5 (.slice (some ⟨b',0,none⟩) n cap) (.slice (some ⟨mg,0,none⟩) k mc) 27
     rw [<- hW6] at R
     exact p_concat cap mc w5.heap.size 2 W6 (N5.below B6) (MN.below B6) (by omega) hkp hn4 hk1000 (R.cell (i:=0) (by omega)) (R.cell (i:=1) (by omega))
    have HB6 : Hid (Below w.heap.size w W6):=HB5.out.trans (B6.mono HB5.out.size)
    have HRS6 : Hid (W6.rowIs (w.heap.size + 1) 29 1 (fun _=>.slice none 0 0)):=RS5.of_block (B6.block _ (by omega))
    have HRT6 : Hid (W6.rowIs w1.heap.size 29 1 (fun _=>.slice (some ⟨b',0,none⟩) n cap)):=RT5.of_block (B6.block _ (by omega))
    clear N5 MN M5 FQ kp RS5 RT5 H5 B6
    go_wp2_with fail
    rw [<- hW6]
    clear hW6
    refine HC6.out.mono ?_
    rintro e w7 ⟨oa3,b3,cap3,rfl,N7,B7⟩
    clear HC6 c10 c12
    have hs7:=B7.size
    obtain ⟨G',hG'⟩ : ∃ G',G' = mixG n H (qsTill H ⟨r0,r1,up⟩ k) ⟨r0,r1,up⟩:=⟨_,rfl⟩
    have N7' : NodesAt w7 oa3 b3 0 (n + k) (fun i=>if i < n then p' i else np (i - n)) G':=N7.congr (fun i hi=>by
     rw [hG']
     by_cases h : i < n
     ·rw [if_pos h,mixG_lt h]
     ·rw [if_neg h,mixG_ge h,ndQ_full HFQ.out (by omega)])
    have HGM : Hid (GoodM (n + k) G'):=by
     have:=goodM HGH.out HSH.out (L:=qsTill H ⟨r0,r1,up⟩ k) (q0:=⟨r0,r1,up⟩) (qs_in HGH.out ⟨hq0,hq1⟩ k) ⟨hq0,hq1⟩ HFQ.out.closed
     rw [HFQ.out.len] at this
     rw [hG'];exact this
    have HGE : Hid (G' = mixG n H (qsTill H ⟨r0,r1,up⟩ k) ⟨r0,r1,up⟩):=hG'
    clear hG' N7
    have HB7 : Hid (Below w.heap.size w w7):=HB6.out.trans (B7.mono HB6.out.size)
    have HRS7 : Hid (w7.rowIs (w.heap.size + 1) 29 1 (fun _=>.slice none 0 0)):=HRS6.out.of_block (B7.block _ HRS6.out.lt)
    have RT7:=HRT6.out.of_block (B7.block _ HRT6.out.lt)
    obtain ⟨W8,hW8⟩ : ∃ W8,W8 = (w7.alloc (.cells #[.slice oa3 (n + k) cap3] 29)).alloc (.cells #[.int .i64 (n : Int)] 3):=⟨_,rfl⟩
    have B8 : Below w7.heap.size w7 W8:=by rw [hW8];exact bel2 _ _ _
    have z8 : W8.heap.size = w7.heap.size + 2:=by rw [hW8];simp
    have u0 : (w7.alloc (.cells #[.slice oa3 (n + k) cap3] 29)).cell? ⟨w1.heap.size,0,none⟩ = some (.slice (some ⟨b',0,none⟩) n cap):=(RT7.alloc _).cell (i:=0) (by omega)
    have HC8 : Hid (Calls Tryz.prog 34 #[.agg #[.slice oa3 (n + k) cap3],.slice (some ⟨w7.heap.size + 1,0,none⟩) 1 1] W8 (SmallPost W8 (n + k) 1 G' (fun _=>n))):=by
     have I8 : IntsAt W8 (some ⟨w7.heap.size + 1,0,none⟩) (w7.heap.size + 1) 0 1 (fun _=>(n : Int)):=by
      have:=(one_ints (w7.alloc (.cells #[.slice oa3 (n + k) cap3] 29)) (n : Int)).congr (D':=fun _=>(n : Int)) (fun i hi=>by
       have e : i = 0:=by omega
       subst e;rfl)
      rw [World.size_alloc] at this
      rw [hW8];exact this
     exact c25 oa3 _ cap3 1 1 _ 0 (fun _=>n) W8 (by omega) (by omega) HGM.out.kids HGM.out.plain HGM.out.names HGM.out.nk (fun i _=>by omega) (N7'.below B8) I8
    have HB8 : Hid (Below w.heap.size w W8):=HB7.out.trans (B8.mono HB7.out.size)
    have HRS8 : Hid (W8.rowIs (w.heap.size + 1) 29 1 (fun _=>.slice none 0 0)):=HRS7.out.of_block (B8.block _ HRS7.out.lt)
    clear N7' RT7 B7 B8
    go_wp2_with fail
    rw [<- hW8]
    clear hW8 u0
    refine HC8.out.mono ?_
    rintro e w9 ⟨cl,hcl,oa,b9,cap9,p9,la,lb9,lc9,rfl,n9,i9,_,f9,o9,_,B9⟩
    have ela:=i9.at_ (by omega)
    subst ela
    have hs9:=B9.size
    have HB9 : Hid (Below w.heap.size w w9):=HB8.out.trans (B9.mono HB8.out.size)
    have RS9:=HRS8.out.of_block (B9.block _ HRS8.out.lt)
    have d0 : w9.cell? ⟨lb9,0,none⟩ = _:=i9.cell 0 (by omega)
    obtain ⟨zz,hzz⟩ : ∃ zz,zz = numOf cl (allTill (G1 (n + k) 1 G' (fun _=>n)) cl ((S1 (n + k) 1 G' (fun _=>n)).length + 1) (ns1 (n + k) 1 G' (fun _=>n)) [] 1) (ns1 (n + k) 1 G' (fun _=>n) 0):=⟨_,rfl⟩
    rw [<- hzz] at d0
    obtain ⟨ll,hll⟩ : ∃ ll,ll = (allTill (G1 (n + k) 1 G' (fun _=>n)) cl ((S1 (n + k) 1 G' (fun _=>n)).length + 1) (ns1 (n + k) 1 G' (fun _=>n)) [] 1).length:=⟨_,rfl⟩
    have HFIN : Hid (∀ t,PMixPost w n H ⟨r0,r1,up⟩ (.returned (.tuple #[.agg #[.slice oa ll cap9],.int .i64 (zz : Int)])) (((w9.alloc (.cells #[.slice oa ll cap9] 29)).drewN t).setCell ⟨w.heap.size + 1,0,none⟩ (.slice oa ll cap9))):=fun t=>by
     have bA : Below w9.heap.size w9 ((w9.alloc (.cells #[.slice oa ll cap9] 29)).drewN t):=below_drewN (bel1 _ _) _
     refine Or.inr ⟨k,HFQ.out,n + k,G',rfl,HGE.out,cl,hcl,?_⟩
     rw [<- hll] at n9 o9 f9 ⊢
     rw [hzz]
     exact jp_set (W:=W8) (n9.below bA) (o9.below bA) f9 (HB9.out.trans (bA.mono HB9.out.size)) (by omega) HRS8.out.lt _
    have hn1 : w9.heap.size ≠ w.heap.size + 1:=by have:=HRS8.out.lt;omega
    have hn2 : lb9 ≠ w.heap.size + 1:=by have:=HRS8.out.lt;have:=f9.list (by omega);omega
    rw [<- hll]
    clear n9 i9 f9 o9 hcl hzz hll B9
    have g0 : ∀ t,((w9.alloc (.cells #[.slice oa ll cap9] 29)).drewN t).cell? ⟨w.heap.size + 1,0,none⟩ = some (.slice none 0 0):=fun t=>(RS9.alloc _).cell (i:=0) (by omega)
    have g1 : ∀ t,((w9.alloc (.cells #[.slice oa ll cap9] 29)).drewN t).frozen? ⟨w.heap.size + 1,0,none⟩ = false:=fun t=>(RS9.alloc _).frozen 0
    have e0 : (w9.alloc (.cells #[.slice oa ll cap9] 29)).cell? ⟨w9.heap.size,0,none⟩ = some (.slice oa ll cap9):=(row1 _ _ _).cell (i:=0) (by omega)
    have e1 : (w9.alloc (.cells #[.slice oa ll cap9] 29)).cell? ⟨lb9,0,none⟩ = some (.int .i64 (zz : Int)):=(World.cell?_of_block (Below.heap_alloc _ _ _ (blt d0))).trans d0
    obtain ⟨WA,hWA⟩ : ∃ WA,WA = w9.alloc (.cells #[.slice oa ll cap9] 29):=⟨_,rfl⟩
    rw [<- hWA] at g0 g1 e0 e1 HFIN
    have q0 : WA.cell? ⟨w.heap.size + 1,0,none⟩ = some (.slice none 0 0):=g0 0
    have q1 : WA.drew.cell? ⟨w.heap.size + 1,0,none⟩ = some (.slice none 0 0):=g0 1
    have v0 : WA.frozen? ⟨w.heap.size + 1,0,none⟩ = false:=g1 0
    have v1 : WA.drew.frozen? ⟨w.heap.size + 1,0,none⟩ = false:=g1 1
    have HRSW : Hid (w9.rowIs (w.heap.size + 1) 29 1 (fun _=>.slice none 0 0)):=RS9
    clear RS9 d0 g0 g1
    go_wp2
    rw [<- hWA]
    clear hWA
    have HS0 : Hid ((WA.setCell ⟨w.heap.size + 1,0,none⟩ (.slice oa ll cap9)).drew.cell? ⟨w9.heap.size,0,none⟩ = some (.slice oa ll cap9)):=(World.cell?_of_block (w:=WA) (Below.heap_setCell WA ⟨w.heap.size + 1,0,none⟩ (.slice oa ll cap9) w9.heap.size hn1)).trans e0
    have HS1 : Hid ((WA.setCell ⟨w.heap.size + 1,0,none⟩ (.slice oa ll cap9)).drew.cell? ⟨lb9,0,none⟩ = some (.int .i64 (zz : Int))):=(World.cell?_of_block (w:=WA) (Below.heap_setCell WA ⟨w.heap.size + 1,0,none⟩ (.slice oa ll cap9) lb9 hn2)).trans e1
    have HS2 : Hid ((WA.drew.setCell ⟨w.heap.size + 1,0,none⟩ (.slice oa ll cap9)).cell? ⟨w9.heap.size,0,none⟩ = some (.slice oa ll cap9)):=(World.cell?_of_block (w:=WA.drew) (Below.heap_setCell WA.drew ⟨w.heap.size + 1,0,none⟩ (.slice oa ll cap9) w9.heap.size hn1)).trans e0
    have HS3 : Hid ((WA.drew.setCell ⟨w.heap.size + 1,0,none⟩ (.slice oa ll cap9)).cell? ⟨lb9,0,none⟩ = some (.int .i64 (zz : Int))):=(World.cell?_of_block (w:=WA.drew) (Below.heap_setCell WA.drew ⟨w.heap.size + 1,0,none⟩ (.slice oa ll cap9) lb9 hn2)).trans e1
    go_region_held3 (fun w'=>w'.cell? ⟨w9.heap.size,0,none⟩ = some (.slice oa ll cap9) /\ w'.cell? ⟨lb9,0,none⟩ = some (.int .i64 (zz : Int))) (first | (exact ⟨HS2.out,HS3.out⟩) | (exact ⟨HS0.out,HS1.out⟩) | go_keep) (fail)
    all_goals
     go_wp2
     exact bodyPost_ret (v:=.tuple #[.agg #[.slice oa ll cap9],.int .i64 (zz : Int)]) (by simp [results,Tryz.results62,go_sem,q0]) rfl (by first | exact HFIN.out 1 | exact HFIN.out 0 | exact HFIN.out _)
theorem jp_lift {w W w3 : World} {n : Nat} {c : Nat -> ND} {z : Int} {e : Ending} {X : Nat} (h : JPost W n c z e w3) (hB : Below w.heap.size w W) (h1 : w.heap.size <= X) (h2 : X < W.heap.size) (u : Value) : JPost w n c z e (w3.setCell ⟨X,0,none⟩ u):=by
 obtain ⟨oa,b,cap,p,rfl,hN,hO,hF,hb⟩:=h
 exact jp_set hN hO hF (hB.trans (hb.mono hB.size)) h1 h2 u
theorem jp_none {w w3 : World} {X : Nat} (c : Nat -> ND) (hB : Below w.heap.size w w3) (h1 : w.heap.size <= X) (u : Value) : JPost w 0 c (-1) (.returned (.tuple #[.agg #[.slice none 0 0],.int .i64 (-1)])) (w3.setCell ⟨X,0,none⟩ u):=
 ⟨none,w.heap.size,0,fun _=>np0,rfl,none_nodesE _ _ _ _ _ _,⟨fun z=>absurd z (Nat.lt_irrefl _),fun _ hi=>absurd hi (Nat.not_lt_zero _),fun _ _ hi=>absurd hi (Nat.not_lt_zero _)⟩,⟨Nat.le_refl _,fun _ hi=>absurd hi (Nat.not_lt_zero _),fun z=>absurd z (Nat.lt_irrefl _)⟩,hB.setCell h1 _⟩
def okJ (N : Nat) (G : Nat -> ND) (A B : Int) : Prop:=vgr N G = true /\ (0 <= A /\ A < N) /\ (0 <= B /\ B < N)
def MixIs (N : Nat) (G : Nat -> ND) (A B : Int) (mt : Bool) (n : Nat) (c : Nat -> ND) (z : Int) : Prop:=
 ∀ (ao : Option Addr) (b o gc : Nat) (p : Nat -> NP) (w : World),NodesAt w ao b o N p G -> Calls Tryz.prog 39 #[.agg #[.slice ao N gc],.int .i64 A,.int .i64 B,.bool mt] w (JPost w n c z)
theorem kok2J {N : Nat} {A B : Int} (D : Nat -> Int) (h0 : D 0 = A) (h1 : D 1 = B) : kok 2 D N = true ↔ (0 <= A /\ A < N) /\ (0 <= B /\ B < N):=by
 constructor
 ·intro h
  have q0:=of_decide_eq_true (allTo_at h (show 0 < 2 by omega))
  have q1:=of_decide_eq_true (allTo_at h (show 1 < 2 by omega))
  rw [h0] at q0
  rw [h1] at q1
  exact ⟨q0,q1⟩
 ·rintro ⟨q0,q1⟩
  refine allTo_true (fun j hj=>decide_eq_true ?_)
  match j,hj with
  | 0,_=>rw [h0];exact q0
  | 1,_=>rw [h1];exact q1
set_option maxHeartbeats 4000000 in
theorem p_mix {N : Nat} {G : Nat -> ND} {A B : Int} {mt : Bool} {n : Nat} {c : Nat -> ND} {z : Int} (hbad : ¬ okJ N G A B -> n = 0 /\ z = -1)
  (hgood : okJ N G A B -> ∀ (ao : Option Addr) (b o gc : Nat) (p : Nat -> NP) (w : World),NodesAt w ao b o N p G -> Calls Tryz.prog 62 #[.agg #[.slice ao N gc],.int .i64 A,.int .i64 B,.bool mt] w (JPost w n c z)) : MixIs N G A B mt n c z:=by
 intro ao b o gc p w hG
 have HG : Hid (∀ w',Below w.heap.size w w' -> NodesAt w' ao b o N p G):=fun w' hb=>hG.below hb
 have HBAD : Hid (¬ okJ N G A B -> n = 0 /\ z = -1):=hbad
 have HGOOD : Hid (okJ N G A B -> ∀ (ao : Option Addr) (b o gc : Nat) (p : Nat -> NP) (w : World),NodesAt w ao b o N p G -> Calls Tryz.prog 62 #[.agg #[.slice ao N gc],.int .i64 A,.int .i64 B,.bool mt] w (JPost w n c z)):=hgood
 clear hG hbad hgood
 obtain ⟨W0,hW0⟩ : ∃ W0,W0 = (w.alloc (.cells #[.slice ao N gc] 29)).alloc (.cells #[.slice none 0 0] 29):=⟨_,rfl⟩
 have B0 : Below w.heap.size w W0:=by rw [hW0];exact bel2 _ _ _
 have z0 : w.heap.size + 1 < W0.heap.size:=by rw [hW0];simp
 have r0 : W0.rowIs (w.heap.size + 1) 29 1 (fun _=>.slice none 0 0):=by
  rw [hW0]
  have:=row1 (w.alloc (.cells #[.slice ao N gc] 29)) (.slice none 0 0) 29
  simpa using this
 have c0 : W0.cell? ⟨w.heap.size,0,none⟩ = some (.slice ao N gc):=by rw [hW0];exact ((row1 _ _ _).alloc _).cell (i:=0) (by omega)
 go_enter Tryz.func39,Tryz.ntmps39
 go_wp2_with fail
 rw [<- hW0]
 clear hW0
 refine (g14 ao b o N gc p G W0 (HG.out W0 B0)).mono ?_
 rintro e w1 ⟨rfl,hb1⟩
 have HB1 : Hid (Below w.heap.size w w1):=B0.trans (hb1.mono B0.size)
 have c1 : w1.cell? ⟨w.heap.size,0,none⟩ = some (.slice ao N gc):=(hb1.cell (p:=⟨w.heap.size,0,none⟩) (by show w.heap.size < W0.heap.size;omega)).trans c0
 have r1:=r0.of_block (hb1.block _ z0)
 have hl1:=r1.lt
 have q0:=r1.cell (i:=0) (by omega)
 have q1:=r1.frozen 0
 clear hb1 r0 c0 B0
 cases hv : vgr N G with
 | false=>
   have HF : Hid (JPost w n c z (.returned (.tuple #[.agg #[.slice none 0 0],.int .i64 (-1)])) (w1.setCell ⟨w.heap.size + 1,0,none⟩ (.slice none 0 0))):=by
    obtain ⟨e1,e2⟩:=HBAD.out (fun h=>by have h1:=h.1;rw [hv] at h1;cases h1)
    rw [e1,e2]
    exact jp_none c HB1.out (by omega) _
   clear r1 hl1
   go_wp2
   exact bodyPost_ret (v:=.tuple #[.agg #[.slice none 0 0],.int .i64 (-1)]) (by simp [results,Tryz.results39,go_sem,q0]) rfl HF.out
 | true=>
   obtain ⟨W2,hW2⟩ : ∃ W2,W2 = w1.alloc (.cells #[.int .i64 A,.int .i64 B] 3):=⟨_,rfl⟩
   have B2 : Below w1.heap.size w1 W2:=by rw [hW2];exact bel1 _ _
   have HB2 : Hid (Below w.heap.size w W2):=HB1.out.trans (B2.mono HB1.out.size)
   have I2 : IntsAt W2 (some ⟨w1.heap.size,0,none⟩) w1.heap.size 0 2 (fun i=>[A,B].getD i 0):=by rw [hW2];exact two_ints w1 A B
   have HC2 : Hid (Calls Tryz.prog 33 #[.agg #[.slice ao N gc],.slice (some ⟨w1.heap.size,0,none⟩) 2 2] W2 fun e w'=>e = .returned (.bool (kok 2 (fun i=>[A,B].getD i 0) N)) /\ Below W2.heap.size W2 w'):=g15 ao N gc _ _ 0 2 2 _ W2 I2 (by have:=vgr_len hv;omega)
   have r2:=r1.of_block (B2.block _ hl1)
   have HR2 : Hid (W2.rowIs (w.heap.size + 1) 29 1 (fun _=>.slice none 0 0)):=r2
   have c2 : W2.cell? ⟨w.heap.size,0,none⟩ = some (.slice ao N gc):=(B2.cell (p:=⟨w.heap.size,0,none⟩) (blt c1)).trans c1
   have c2':=c2
   rw [hW2] at c2'
   clear I2 r1 r2 B2 q0 q1
   go_wp2_with fail
   rw [<- hW2]
   clear hW2 c2'
   refine HC2.out.mono ?_
   rintro e w3 ⟨rfl,hb3⟩
   have HB3 : Hid (Below w.heap.size w w3):=HB2.out.trans (hb3.mono HB2.out.size)
   have r3:=HR2.out.of_block (hb3.block _ HR2.out.lt)
   have q0:=r3.cell (i:=0) (by omega)
   have q1:=r3.frozen 0
   have hl3:=r3.lt
   have c3 : w3.cell? ⟨w.heap.size,0,none⟩ = some (.slice ao N gc):=(hb3.cell (p:=⟨w.heap.size,0,none⟩) (blt c2)).trans c2
   clear hb3 c2 c1 HC2
   cases hk : kok 2 (fun i=>[A,B].getD i 0) N with
   | false=>
     have HF : Hid (JPost w n c z (.returned (.tuple #[.agg #[.slice none 0 0],.int .i64 (-1)])) (w3.setCell ⟨w.heap.size + 1,0,none⟩ (.slice none 0 0))):=by
      obtain ⟨e1,e2⟩:=HBAD.out (fun h=>by rw [(kok2J (fun i=>[A,B].getD i 0) rfl rfl).2 h.2] at hk;cases hk)
      rw [e1,e2]
      exact jp_none c HB3.out (by omega) _
     clear r3 hl3
     go_wp2
     exact bodyPost_ret (v:=.tuple #[.agg #[.slice none 0 0],.int .i64 (-1)]) (by simp [results,Tryz.results39,go_sem,q0]) rfl HF.out
   | true=>
     have hok : okJ N G A B:=⟨hv,(kok2J (fun i=>[A,B].getD i 0) rfl rfl).1 hk⟩
     have HC4 : Hid (Calls Tryz.prog 62 #[.agg #[.slice ao N gc],.int .i64 A,.int .i64 B,.bool mt] w3 (JPost w3 n c z)):=HGOOD.out hok ao b o gc p w3 (HG.out w3 HB3.out)
     clear hok hk
     go_wp2_with fail
     refine HC4.out.mono ?_
     intro e w4 hJ
     have HJ : Hid (JPost w3 n c z e w4):=hJ
     obtain ⟨oa,b4,cap,p4,rfl,_,_,_,b34⟩:=hJ
     have r4:=r3.of_block (b34.block _ hl3)
     have x0:=r4.cell (i:=0) (by omega)
     have x1:=r4.frozen 0
     have HF : Hid (JPost w n c z (.returned (.tuple #[.agg #[.slice oa n cap],.int .i64 z])) (w4.setCell ⟨w.heap.size + 1,0,none⟩ (.slice oa n cap))):=jp_lift HJ.out HB3.out (by omega) hl3 _
     clear b34 r4 r3 q0 q1 hl3 HJ
     go_wp2
     exact bodyPost_ret (v:=.tuple #[.agg #[.slice oa n cap],.int .i64 z]) (by simp [results,Tryz.results39,go_sem,x0]) rfl HF.out
set_option maxHeartbeats 2000000 in
theorem p_join {N : Nat} {G : Nat -> ND} {A B : Int} {n : Nat} {c : Nat -> ND} {z : Int} (h : MixIs N G A B false n c z) (ao : Option Addr) (b o gc : Nat) (p : Nat -> NP) (w : World) (hG : NodesAt w ao b o N p G) :
  Calls Tryz.prog 19 #[.agg #[.slice ao N gc],.int .i64 A,.int .i64 B] w (JPost w n c z):=by
 obtain ⟨W0,hW0⟩ : ∃ W0,W0 = (w.alloc (.cells #[.slice ao N gc] 29)).alloc (.cells #[.slice none 0 0] 29):=⟨_,rfl⟩
 have B0 : Below w.heap.size w W0:=by rw [hW0];exact bel2 _ _ _
 have z0 : w.heap.size + 1 < W0.heap.size:=by rw [hW0];simp
 have r0 : W0.rowIs (w.heap.size + 1) 29 1 (fun _=>.slice none 0 0):=by
  rw [hW0]
  have:=row1 (w.alloc (.cells #[.slice ao N gc] 29)) (.slice none 0 0) 29
  simpa using this
 have HC : Hid (Calls Tryz.prog 39 #[.agg #[.slice ao N gc],.int .i64 A,.int .i64 B,.bool false] W0 (JPost W0 n c z)):=h ao b o gc p W0 (hG.below B0)
 clear h hG
 go_enter Tryz.func19,Tryz.ntmps19
 go_wp2_with fail
 rw [<- hW0]
 clear hW0
 refine HC.out.mono ?_
 intro e w4 hJ
 have HJ : Hid (JPost W0 n c z e w4):=hJ
 obtain ⟨oa,b4,cap,p4,rfl,_,_,_,b34⟩:=hJ
 have r4:=r0.of_block (b34.block _ z0)
 have x0:=r4.cell (i:=0) (by omega)
 have x1:=r4.frozen 0
 have HF : Hid (JPost w n c z (.returned (.tuple #[.agg #[.slice oa n cap],.int .i64 z])) (w4.setCell ⟨w.heap.size + 1,0,none⟩ (.slice oa n cap))):=jp_lift HJ.out B0 (by omega) z0 _
 clear b34 r4 r0 z0 HJ B0
 go_wp2
 exact bodyPost_ret (v:=.tuple #[.agg #[.slice oa n cap],.int .i64 z]) (by simp [results,Tryz.results19,go_sem,x0]) rfl HF.out
set_option maxHeartbeats 2000000 in
theorem p_meet {N : Nat} {G : Nat -> ND} {A B : Int} {n : Nat} {c : Nat -> ND} {z : Int} (h : MixIs N G A B true n c z) (ao : Option Addr) (b o gc : Nat) (p : Nat -> NP) (w : World) (hG : NodesAt w ao b o N p G) :
  Calls Tryz.prog 21 #[.agg #[.slice ao N gc],.int .i64 A,.int .i64 B] w (JPost w n c z):=by
 obtain ⟨W0,hW0⟩ : ∃ W0,W0 = (w.alloc (.cells #[.slice ao N gc] 29)).alloc (.cells #[.slice none 0 0] 29):=⟨_,rfl⟩
 have B0 : Below w.heap.size w W0:=by rw [hW0];exact bel2 _ _ _
 have z0 : w.heap.size + 1 < W0.heap.size:=by rw [hW0];simp
 have r0 : W0.rowIs (w.heap.size + 1) 29 1 (fun _=>.slice none 0 0):=by
  rw [hW0]
  have:=row1 (w.alloc (.cells #[.slice ao N gc] 29)) (.slice none 0 0) 29
  simpa using this
 have HC : Hid (Calls Tryz.prog 39 #[.agg #[.slice ao N gc],.int .i64 A,.int .i64 B,.bool true] W0 (JPost W0 n c z)):=h ao b o gc p W0 (hG.below B0)
 clear h hG
 go_enter Tryz.func21,Tryz.ntmps21
 go_wp2_with fail
 rw [<- hW0]
 clear hW0
 refine HC.out.mono ?_
 intro e w4 hJ
 have HJ : Hid (JPost W0 n c z e w4):=hJ
 obtain ⟨oa,b4,cap,p4,rfl,_,_,_,b34⟩:=hJ
 have r4:=r0.of_block (b34.block _ z0)
 have x0:=r4.cell (i:=0) (by omega)
 have x1:=r4.frozen 0
 have HF : Hid (JPost w n c z (.returned (.tuple #[.agg #[.slice oa n cap],.int .i64 z])) (w4.setCell ⟨w.heap.size + 1,0,none⟩ (.slice oa n cap))):=jp_lift HJ.out B0 (by omega) z0 _
 clear b34 r4 r0 z0 HJ B0
 go_wp2
 exact bodyPost_ret (v:=.tuple #[.agg #[.slice oa n cap],.int .i64 z]) (by simp [results,Tryz.results21,go_sem,x0]) rfl HF.out
theorem mmix_lift {w W w3 : World} {N : Nat} {G : Nat -> ND} {a b : Nat} {up : Bool} {e : Ending} {X : Nat} (h : MMixPost W N G a b up e w3) (hB : Below w.heap.size w W) (hR : w3.rowIs X 29 1 (fun _=>.slice none 0 0)) (h1 : w.heap.size <= X) (u : Value) : MMixPost w N G a b up e (w3.setCell ⟨X,0,none⟩ u):=by
 obtain ⟨cm,r,q1,q2,q3,q4⟩:=h
 refine ⟨cm,r,q1,q2,(hB.trans (q3.mono hB.size)).setCell h1 _,?_⟩
 rcases q4 with ⟨k,hk,nb,he,hn⟩ | ⟨k,hk,n',G',e1,e2,c2,r2,h2,h3,oa,b',cap,q,he,hn⟩
 ·exact Or.inl ⟨k,hk,nb,he,nodes_box hn hR _⟩
 ·exact Or.inr ⟨k,hk,n',G',e1,e2,c2,r2,h2,h3,oa,b',cap,q,he,nodes_box hn hR _⟩
def SJoin (w : World) (N : Nat) (G : Nat -> ND) (A B : Int) (up : Bool) (e : Ending) (w' : World) : Prop:=
 (¬ okJ N G A B /\ e = .returned (.tuple #[.agg #[.slice none 0 0],.int .i64 (-1)]) /\ Below w.heap.size w w') \/ (okJ N G A B /\ MMixPost w N G A.toNat B.toNat up e w')
set_option maxHeartbeats 4000000 in
theorem s_join {N b o : Nat} {p : Nat -> NP} {G : Nat -> ND} (ao : Option Addr) (gc : Nat) (A B : Int) (w : World) (h2 : ∀ i,i < N -> (G i).nn + (G i).nk <= 1048576) (hG : NodesAt w ao b o N p G) :
  Calls Tryz.prog 18 #[.agg #[.slice ao N gc],.int .i64 A,.int .i64 B] w (SJoin w N G A B true):=by
 have HG : Hid (∀ w',Below w.heap.size w w' -> NodesAt w' ao b o N p G):=fun w' hb=>hG.below hb
 have H2 : Hid (∀ i,i < N -> (G i).nn + (G i).nk <= 1048576):=h2
 clear hG h2
 obtain ⟨W0,hW0⟩ : ∃ W0,W0 = (w.alloc (.cells #[.slice ao N gc] 29)).alloc (.cells #[.slice none 0 0] 29):=⟨_,rfl⟩
 have B0 : Below w.heap.size w W0:=by rw [hW0];exact bel2 _ _ _
 have z0 : w.heap.size + 1 < W0.heap.size:=by rw [hW0];simp
 have r0 : W0.rowIs (w.heap.size + 1) 29 1 (fun _=>.slice none 0 0):=by
  rw [hW0]
  have:=row1 (w.alloc (.cells #[.slice ao N gc] 29)) (.slice none 0 0) 29
  simpa using this
 have c0 : W0.cell? ⟨w.heap.size,0,none⟩ = some (.slice ao N gc):=by rw [hW0];exact ((row1 _ _ _).alloc _).cell (i:=0) (by omega)
 have HNO : Hid (∀ W,Below w.heap.size w W -> ¬ okJ N G A B -> SJoin w N G A B true (.returned (.tuple #[.agg #[.slice none 0 0],.int .i64 (-1)])) (W.setCell ⟨w.heap.size + 1,0,none⟩ (.slice none 0 0))):=fun W hW hn=>Or.inl ⟨hn,rfl,hW.setCell (by show w.heap.size <= w.heap.size + 1;omega) _⟩
 go_enter Tryz.func18,Tryz.ntmps18
 go_wp2_with fail
 rw [<- hW0]
 clear hW0
 refine (g10 ao b o N gc p G W0 (HG.out W0 B0)).mono ?_
 rintro e w1 ⟨rfl,hb1⟩
 have HB1 : Hid (Below w.heap.size w w1):=B0.trans (hb1.mono B0.size)
 have c1 : w1.cell? ⟨w.heap.size,0,none⟩ = some (.slice ao N gc):=(hb1.cell (p:=⟨w.heap.size,0,none⟩) (by show w.heap.size < W0.heap.size;omega)).trans c0
 have r1:=r0.of_block (hb1.block _ z0)
 have HR1 : Hid (w1.rowIs (w.heap.size + 1) 29 1 (fun _=>.slice none 0 0)):=r1
 have q0:=r1.cell (i:=0) (by omega)
 have q1:=r1.frozen 0
 clear hb1 r0 c0 B0 r1
 cases hv : vgr N G with
 | false=>
   have HNN : Hid (¬ okJ N G A B):=(fun h=>by have h1:=h.1;rw [hv] at h1;cases h1)
   go_wp2
   exact bodyPost_ret (v:=.tuple #[.agg #[.slice none 0 0],.int .i64 (-1)]) (by simp [results,Tryz.results18,go_sem,q0]) rfl (HNO.out w1 HB1.out HNN.out)
 | true=>
   clear q0 q1
   go_wp2_with fail
   refine (sm11 ao N gc A w1).mono ?_
   rintro e w2 ⟨rfl,hb2⟩
   have HB2 : Hid (Below w.heap.size w w2):=HB1.out.trans (hb2.mono HB1.out.size)
   have c2 : w2.cell? ⟨w.heap.size,0,none⟩ = some (.slice ao N gc):=(hb2.cell (p:=⟨w.heap.size,0,none⟩) (blt c1)).trans c1
   have r2:=HR1.out.of_block (hb2.block _ HR1.out.lt)
   have HR2 : Hid (w2.rowIs (w.heap.size + 1) 29 1 (fun _=>.slice none 0 0)):=r2
   have q0:=r2.cell (i:=0) (by omega)
   have q1:=r2.frozen 0
   clear hb2 r2 c1
   cases ha : isN N A with
   | false=>
     have HNN : Hid (¬ okJ N G A B):=(fun h=>by
      have h9 : isN N A = true:=decide_eq_true h.2.1
      rw [ha] at h9;cases h9)
     go_wp2
     exact bodyPost_ret (v:=.tuple #[.agg #[.slice none 0 0],.int .i64 (-1)]) (by simp [results,Tryz.results18,go_sem,q0]) rfl (HNO.out w2 HB2.out HNN.out)
   | true=>
     clear q0 q1
     go_wp2_with fail
     refine (sm11 ao N gc B w2).mono ?_
     rintro e w3 ⟨rfl,hb3⟩
     have HB3 : Hid (Below w.heap.size w w3):=HB2.out.trans (hb3.mono HB2.out.size)
     have c3 : w3.cell? ⟨w.heap.size,0,none⟩ = some (.slice ao N gc):=(hb3.cell (p:=⟨w.heap.size,0,none⟩) (blt c2)).trans c2
     have r3:=HR2.out.of_block (hb3.block _ HR2.out.lt)
     have HR3 : Hid (w3.rowIs (w.heap.size + 1) 29 1 (fun _=>.slice none 0 0)):=r3
     have q0:=r3.cell (i:=0) (by omega)
     have q1:=r3.frozen 0
     clear hb3 r3 c2
     cases hb : isN N B with
     | false=>
       have HNN : Hid (¬ okJ N G A B):=(fun h=>by
        have h9 : isN N B = true:=decide_eq_true h.2.2
        rw [hb] at h9;cases h9)
       go_wp2
       exact bodyPost_ret (v:=.tuple #[.agg #[.slice none 0 0],.int .i64 (-1)]) (by simp [results,Tryz.results18,go_sem,q0]) rfl (HNO.out w3 HB3.out HNN.out)
     | true=>
       have ra : 0 <= A /\ A < (N : Int):=of_decide_eq_true ha
       have rb : 0 <= B /\ B < (N : Int):=of_decide_eq_true hb
       have HOK : Hid (okJ N G A B):=⟨hv,ra,rb⟩
       have HC4 : Hid (Calls Tryz.prog 38 #[.agg #[.slice ao N gc],.int .i64 A,.int .i64 B,.bool true] w3 (MMixPost w3 N G A.toNat B.toNat true)):=by
        have h9:=m_mix ao gc A.toNat B.toNat true w3 hv H2.out (by omega) (by omega) (HG.out w3 HB3.out)
        rw [show ((A.toNat : Nat) : Int) = A from by omega,show ((B.toNat : Nat) : Int) = B from by omega] at h9
        exact h9
       clear q0 q1 ra rb
       go_wp2_with fail
       refine HC4.out.mono ?_
       intro e w4 hJ
       have HJ : Hid (MMixPost w3 N G A.toNat B.toNat true e w4):=hJ
       have hb4 : Below w3.heap.size w3 w4:=by obtain ⟨_,_,_,_,q,_⟩:=hJ;exact q
       have hform : ∃ (oa : Option Addr) (n cap : Nat) (z : Int),e = .returned (.tuple #[.agg #[.slice oa n cap],.int .i64 z]):=by
        obtain ⟨cm,r,_,_,_,q4⟩:=hJ
        rcases q4 with ⟨k,hk,nb,he,hn⟩ | ⟨k,hk,n',G',e1,e2,c2,r2,h2,h3,oa,b',cap,q,he,hn⟩
        ·exact ⟨_,_,_,_,he⟩
        ·exact ⟨_,_,_,_,he⟩
       obtain ⟨oa,n,cap,z,rfl⟩:=hform
       have r4:=HR3.out.of_block (hb4.block _ HR3.out.lt)
       have x0:=r4.cell (i:=0) (by omega)
       have x1:=r4.frozen 0
       have HF : Hid (SJoin w N G A B true (.returned (.tuple #[.agg #[.slice oa n cap],.int .i64 z])) (w4.setCell ⟨w.heap.size + 1,0,none⟩ (.slice oa n cap))):=Or.inr ⟨HOK.out,mmix_lift HJ.out HB3.out r4 (by omega) _⟩
       clear hb4 r4 HJ hJ
       go_wp2
       exact bodyPost_ret (v:=.tuple #[.agg #[.slice oa n cap],.int .i64 z]) (by simp [results,Tryz.results18,go_sem,x0]) rfl HF.out
set_option maxHeartbeats 4000000 in
theorem s_meet {N b o : Nat} {p : Nat -> NP} {G : Nat -> ND} (ao : Option Addr) (gc : Nat) (A B : Int) (w : World) (h2 : ∀ i,i < N -> (G i).nn + (G i).nk <= 1048576) (hG : NodesAt w ao b o N p G) :
  Calls Tryz.prog 20 #[.agg #[.slice ao N gc],.int .i64 A,.int .i64 B] w (SJoin w N G A B false):=by
 have HG : Hid (∀ w',Below w.heap.size w w' -> NodesAt w' ao b o N p G):=fun w' hb=>hG.below hb
 have H2 : Hid (∀ i,i < N -> (G i).nn + (G i).nk <= 1048576):=h2
 clear hG h2
 obtain ⟨W0,hW0⟩ : ∃ W0,W0 = (w.alloc (.cells #[.slice ao N gc] 29)).alloc (.cells #[.slice none 0 0] 29):=⟨_,rfl⟩
 have B0 : Below w.heap.size w W0:=by rw [hW0];exact bel2 _ _ _
 have z0 : w.heap.size + 1 < W0.heap.size:=by rw [hW0];simp
 have r0 : W0.rowIs (w.heap.size + 1) 29 1 (fun _=>.slice none 0 0):=by
  rw [hW0]
  have:=row1 (w.alloc (.cells #[.slice ao N gc] 29)) (.slice none 0 0) 29
  simpa using this
 have c0 : W0.cell? ⟨w.heap.size,0,none⟩ = some (.slice ao N gc):=by rw [hW0];exact ((row1 _ _ _).alloc _).cell (i:=0) (by omega)
 have HNO : Hid (∀ W,Below w.heap.size w W -> ¬ okJ N G A B -> SJoin w N G A B false (.returned (.tuple #[.agg #[.slice none 0 0],.int .i64 (-1)])) (W.setCell ⟨w.heap.size + 1,0,none⟩ (.slice none 0 0))):=fun W hW hn=>Or.inl ⟨hn,rfl,hW.setCell (by show w.heap.size <= w.heap.size + 1;omega) _⟩
 go_enter Tryz.func20,Tryz.ntmps20
 go_wp2_with fail
 rw [<- hW0]
 clear hW0
 refine (g10 ao b o N gc p G W0 (HG.out W0 B0)).mono ?_
 rintro e w1 ⟨rfl,hb1⟩
 have HB1 : Hid (Below w.heap.size w w1):=B0.trans (hb1.mono B0.size)
 have c1 : w1.cell? ⟨w.heap.size,0,none⟩ = some (.slice ao N gc):=(hb1.cell (p:=⟨w.heap.size,0,none⟩) (by show w.heap.size < W0.heap.size;omega)).trans c0
 have r1:=r0.of_block (hb1.block _ z0)
 have HR1 : Hid (w1.rowIs (w.heap.size + 1) 29 1 (fun _=>.slice none 0 0)):=r1
 have q0:=r1.cell (i:=0) (by omega)
 have q1:=r1.frozen 0
 clear hb1 r0 c0 B0 r1
 cases hv : vgr N G with
 | false=>
   have HNN : Hid (¬ okJ N G A B):=(fun h=>by have h1:=h.1;rw [hv] at h1;cases h1)
   go_wp2
   exact bodyPost_ret (v:=.tuple #[.agg #[.slice none 0 0],.int .i64 (-1)]) (by simp [results,Tryz.results20,go_sem,q0]) rfl (HNO.out w1 HB1.out HNN.out)
 | true=>
   clear q0 q1
   go_wp2_with fail
   refine (sm11 ao N gc A w1).mono ?_
   rintro e w2 ⟨rfl,hb2⟩
   have HB2 : Hid (Below w.heap.size w w2):=HB1.out.trans (hb2.mono HB1.out.size)
   have c2 : w2.cell? ⟨w.heap.size,0,none⟩ = some (.slice ao N gc):=(hb2.cell (p:=⟨w.heap.size,0,none⟩) (blt c1)).trans c1
   have r2:=HR1.out.of_block (hb2.block _ HR1.out.lt)
   have HR2 : Hid (w2.rowIs (w.heap.size + 1) 29 1 (fun _=>.slice none 0 0)):=r2
   have q0:=r2.cell (i:=0) (by omega)
   have q1:=r2.frozen 0
   clear hb2 r2 c1
   cases ha : isN N A with
   | false=>
     have HNN : Hid (¬ okJ N G A B):=(fun h=>by
      have h9 : isN N A = true:=decide_eq_true h.2.1
      rw [ha] at h9;cases h9)
     go_wp2
     exact bodyPost_ret (v:=.tuple #[.agg #[.slice none 0 0],.int .i64 (-1)]) (by simp [results,Tryz.results20,go_sem,q0]) rfl (HNO.out w2 HB2.out HNN.out)
   | true=>
     clear q0 q1
     go_wp2_with fail
     refine (sm11 ao N gc B w2).mono ?_
     rintro e w3 ⟨rfl,hb3⟩
     have HB3 : Hid (Below w.heap.size w w3):=HB2.out.trans (hb3.mono HB2.out.size)
     have c3 : w3.cell? ⟨w.heap.size,0,none⟩ = some (.slice ao N gc):=(hb3.cell (p:=⟨w.heap.size,0,none⟩) (blt c2)).trans c2
     have r3:=HR2.out.of_block (hb3.block _ HR2.out.lt)
     have HR3 : Hid (w3.rowIs (w.heap.size + 1) 29 1 (fun _=>.slice none 0 0)):=r3
     have q0:=r3.cell (i:=0) (by omega)
     have q1:=r3.frozen 0
     clear hb3 r3 c2
     cases hb : isN N B with
     | false=>
       have HNN : Hid (¬ okJ N G A B):=(fun h=>by
        have h9 : isN N B = true:=decide_eq_true h.2.2
        rw [hb] at h9;cases h9)
       go_wp2
       exact bodyPost_ret (v:=.tuple #[.agg #[.slice none 0 0],.int .i64 (-1)]) (by simp [results,Tryz.results20,go_sem,q0]) rfl (HNO.out w3 HB3.out HNN.out)
     | true=>
       have ra : 0 <= A /\ A < (N : Int):=of_decide_eq_true ha
       have rb : 0 <= B /\ B < (N : Int):=of_decide_eq_true hb
       have HOK : Hid (okJ N G A B):=⟨hv,ra,rb⟩
       have HC4 : Hid (Calls Tryz.prog 38 #[.agg #[.slice ao N gc],.int .i64 A,.int .i64 B,.bool false] w3 (MMixPost w3 N G A.toNat B.toNat false)):=by
        have h9:=m_mix ao gc A.toNat B.toNat false w3 hv H2.out (by omega) (by omega) (HG.out w3 HB3.out)
        rw [show ((A.toNat : Nat) : Int) = A from by omega,show ((B.toNat : Nat) : Int) = B from by omega] at h9
        exact h9
       clear q0 q1 ra rb
       go_wp2_with fail
       refine HC4.out.mono ?_
       intro e w4 hJ
       have HJ : Hid (MMixPost w3 N G A.toNat B.toNat false e w4):=hJ
       have hb4 : Below w3.heap.size w3 w4:=by obtain ⟨_,_,_,_,q,_⟩:=hJ;exact q
       have hform : ∃ (oa : Option Addr) (n cap : Nat) (z : Int),e = .returned (.tuple #[.agg #[.slice oa n cap],.int .i64 z]):=by
        obtain ⟨cm,r,_,_,_,q4⟩:=hJ
        rcases q4 with ⟨k,hk,nb,he,hn⟩ | ⟨k,hk,n',G',e1,e2,c2,r2,h2,h3,oa,b',cap,q,he,hn⟩
        ·exact ⟨_,_,_,_,he⟩
        ·exact ⟨_,_,_,_,he⟩
       obtain ⟨oa,n,cap,z,rfl⟩:=hform
       have r4:=HR3.out.of_block (hb4.block _ HR3.out.lt)
       have x0:=r4.cell (i:=0) (by omega)
       have x1:=r4.frozen 0
       have HF : Hid (SJoin w N G A B false (.returned (.tuple #[.agg #[.slice oa n cap],.int .i64 z])) (w4.setCell ⟨w.heap.size + 1,0,none⟩ (.slice oa n cap))):=Or.inr ⟨HOK.out,mmix_lift HJ.out HB3.out r4 (by omega) _⟩
       clear hb4 r4 HJ hJ
       go_wp2
       exact bodyPost_ret (v:=.tuple #[.agg #[.slice oa n cap],.int .i64 z]) (by simp [results,Tryz.results20,go_sem,x0]) rfl HF.out
def BothJ (w : World) (N : Nat) (G : Nat -> ND) (A B : Int) (mt : Bool) (e : Ending) (w' : World) : Prop:=
 ∃ (n : Nat) (c : Nat -> ND) (z : Int),MixIs N G A B mt n c z /\ n <= 1048576 /\ (∀ i,i < n -> (c i).nn <= 1048576 /\ (c i).nk <= 1048576) /\
   ∃ (oa : Option Addr) (b cap : Nat) (p : Nat -> NP),e = .returned (.tuple #[.agg #[.slice oa n cap],.int .i64 z]) /\ NodesAt w' oa b 0 n p c /\ Below w.heap.size w w'
theorem jp_same {w w' : World} {n n2 : Nat} {c d : Nat -> ND} {z z2 : Int} {e : Ending} (h : JPost w n c z e w') (hl : n = n2) (hz : z = z2) (hs : ∀ i,i < n -> Lab (c i) (d i) /\ ∀ j,j < (c i).nk -> (c i).kd j = (d i).kd j) : JPost w n2 d z2 e w':=by
 subst hl
 subst hz
 obtain ⟨oa,b,cap,p,rfl,hN,hO,hF,hb⟩:=h
 exact ⟨oa,b,cap,p,rfl,hN.same hs,hO.same (fun i hi=>⟨(hs i hi).1.nn,(hs i hi).1.nk⟩),hF.same (fun i hi=>⟨(hs i hi).1.nn,(hs i hi).1.nk⟩),hb⟩
theorem both_of {w w' : World} {N : Nat} {G : Nat -> ND} {A B : Int} {up : Bool} {e : Ending} (h2 : ∀ i,i < N -> (G i).nn + (G i).nk <= 1048576) (h : SJoin w N G A B up e w') : BothJ w N G A B (!up) e w':=by
 rcases h with ⟨hn,rfl,hb⟩ | ⟨hok,cm,r,hcm,hr,hb,h⟩
 ·exact ⟨0,G,-1,p_mix (fun _=>⟨rfl,rfl⟩) (fun h=>absurd h hn),Nat.zero_le _,fun i hi=>absurd hi (Nat.not_lt_zero _),none,0,0,fun _=>np0,rfl,none_nodesE _ _ _ _ _ _,hb⟩
 ·obtain ⟨hv,ra,rb⟩:=hok
  have hns : ∀ i,i < 2 -> ns2 A.toNat B.toNat i < N:=fun i _=>by unfold ns2;split <;> omega
  obtain ⟨gH,sH⟩:=goodH_mN hv hns h2 hcm hr
  have PM : ∀ (ao : Option Addr) (b o gc : Nat) (p : Nat -> NP) (w : World),NodesAt w ao b o N p G -> Calls Tryz.prog 62 #[.agg #[.slice ao N gc],.int .i64 A,.int .i64 B,.bool (!up)] w (PMixPost w (allTill G cm (N + 1) (ns2 A.toNat B.toNat) [] 2).length (mN G cm (allTill G cm (N + 1) (ns2 A.toNat B.toNat) [] 2) r) ⟨numOf cm (allTill G cm (N + 1) (ns2 A.toNat B.toNat) [] 2) A.toNat,numOf cm (allTill G cm (N + 1) (ns2 A.toNat B.toNat) [] 2) B.toNat,up⟩):=fun ao b o gc p w hG=>by
   have h9:=p_mixture ao gc A.toNat B.toNat up w hv h2 (by omega) (by omega) hG cm r hcm hr
   rw [show ((A.toNat : Nat) : Int) = A from by omega,show ((B.toNat : Nat) : Int) = B from by omega] at h9
   exact h9
  rcases h with ⟨k,hk,nb,rfl,hN⟩ | ⟨k,hk,n',G',e1,e2,c2,r2,h3,h4,oa,b',cap,q,rfl,hN⟩
  ·refine ⟨1,fun _=>mkN 0,0,p_mix (fun h=>absurd ⟨hv,ra,rb⟩ h) (fun _ ao b o gc p w hG=>(PM ao b o gc p w hG).mono ?_),by omega,fun i _=>⟨Nat.zero_le _,Nat.zero_le _⟩,_,nb,1,_,rfl,hN,hb⟩
   rintro e w2 (⟨l,hl,hJ⟩ | ⟨l,hl,_⟩)
   ·exact hJ
   ·exact (full_over hl hk).elim
  ·have hst : ∀ i,i < 2 -> numOf cm (allTill G cm (N + 1) (ns2 A.toNat B.toNat) [] 2) (ns2 A.toNat B.toNat i) < (allTill G cm (N + 1) (ns2 A.toNat B.toNat) [] 2).length:=fun i hi=>
    numOf_lt ((allTill_full (G:=G) (cl:=cm) (kids_of hv) (f:=N + 1) (ns:=ns2 A.toNat B.toNat) (m:=2) hns (by omega) 2 (Nat.le_refl _)).2.1 i hi)
   have hq0:=hst 0 (by omega)
   have hq1:=hst 1 (by omega)
   rw [show ns2 A.toNat B.toNat 0 = A.toNat from rfl] at hq0
   rw [show ns2 A.toNat B.toNat 1 = B.toNat from rfl] at hq1
   have gm : GoodM n' G':=by
    have h9:=goodM gH sH (qs_in gH (q0:=⟨numOf cm (allTill G cm (N + 1) (ns2 A.toNat B.toNat) [] 2) A.toNat,numOf cm (allTill G cm (N + 1) (ns2 A.toNat B.toNat) [] 2) B.toNat,up⟩) ⟨hq0,hq1⟩ k) (q0:=⟨numOf cm (allTill G cm (N + 1) (ns2 A.toNat B.toNat) [] 2) A.toNat,numOf cm (allTill G cm (N + 1) (ns2 A.toNat B.toNat) [] 2) B.toNat,up⟩) ⟨hq0,hq1⟩ hk.closed
    rw [hk.len] at h9
    rw [e1,e2];exact h9
   have hn1 : ∀ i,i < 1 -> (fun _ : Nat=>(allTill G cm (N + 1) (ns2 A.toNat B.toNat) [] 2).length) i < n':=fun i _=>by
    show (allTill G cm (N + 1) (ns2 A.toNat B.toNat) [] 2).length < n'
    have:=hk.pos
    omega
   have hm : (allTill G' c2 (n' + 1) (fun _=>(allTill G cm (N + 1) (ns2 A.toNat B.toNat) [] 2).length) [] 1).length <= n':=by
    obtain ⟨f1,_,_⟩:=allTill_full (G:=G') (cl:=c2) gm.kids (f:=n' + 1) (ns:=fun _=>(allTill G cm (N + 1) (ns2 A.toNat B.toNat) [] 2).length) (m:=1) hn1 (by omega) 1 (Nat.le_refl _)
    exact apart_len (allTill_apart 1) f1
   have hn5 : n' <= 5000:=by have:=gH.n;have h9:=hk.few k (Nat.le_refl _);rw [hk.len] at h9;omega
   refine ⟨(allTill G' c2 (n' + 1) (fun _=>(allTill G cm (N + 1) (ns2 A.toNat B.toNat) [] 2).length) [] 1).length,mN G' c2 (allTill G' c2 (n' + 1) (fun _=>(allTill G cm (N + 1) (ns2 A.toNat B.toNat) [] 2).length) [] 1) r2,_,p_mix (fun h=>absurd ⟨hv,ra,rb⟩ h) (fun _ ao b o gc p w hG=>(PM ao b o gc p w hG).mono ?_),by omega,fun i hi=>⟨(gm.names (r2 i) (h4 i hi).1).1,gm.nk (r2 i) (h4 i hi).1⟩,oa,b',cap,q,rfl,hN,hb⟩
   rintro e w2 (⟨l,hl,_⟩ | ⟨l,hl,n3,G3,f1,f2,cl,hcl,hJ⟩)
   ·exact (full_over hk hl).elim
   ·have ekl : l = k:=full_one hl hk
    subst ekl
    have en : n3 = n':=f1.trans e1.symm
    have eg : G3 = G':=f2.trans e2.symm
    subst en
    subst eg
    have F:=canon_one gm.kids hn1 hcl h3
    exact jp_same hJ F.len (congrArg Int.ofNat (F.num 0 (by omega))) (one_same F h4)
end Go.Proofs.YtpbpbppimkeodaaGreatDoor
