/-
  JoS
-/
import Derived.Test.YtpbpbppimkeodaaGreatDoorSt
import Derived.Deep.RegionHeld3
import Derived.BigQuiet
import Derived.BigRegion
set_option maxRecDepth 100000
namespace Go.Proofs.YtpbpbppimkeodaaGreatDoor
open Go.RowKit Go.Maps
theorem tkH {P : Program} {ops : Array Oper} {Q : Exit -> Act -> World -> Prop} {md : Region.Mode} {S : World -> Prop} (i : Nat) (d : Tmp) {p : Op} {t : TypeId} {s : String} {f : Array Edge} {g : Option (Nat × Bool)} {v : Value} {fuel : Nat} {l : Array Bool} {a : Act} {w : World} (hi : ops[i]? = some ⟨some d,p,t,s,f,g⟩)
  (hy : ∀ w,S w -> (execOp a.eval ⟨some d,p,t,s,f,g⟩).run P w = .ok (.value v) w) (h : wpAnyH P md ops Q S fuel (l.setIfInBounds i true) (a.put (some d) v) w)
  (hs : Region.noSelect ops = true:=by kernel_rfl) (hf : Region.free md ops l i = true:=by kernel_rfl) (hr : (Region.ready md ops l).contains i = true:=by kernel_rfl) (hQ : ∀ c a w,Q (.panic c) (a.put (some d) v) w -> Q (.panic c) a w:=by exact fun _ _ _ h=>h) (hw : Region.wanted ⟨some d,p,t,s,f,g⟩ (yielded ops a.tmps) = true:=by kernel_rfl) (hS : S w:=by assumption) : wpAnyH P md ops Q S (fuel + 1) l a w:=
 wpAnyH_take hi hs hf hr hQ (Or.inl ⟨hw,hy⟩) hS h
def MadeP (w : World) (kb mb : Nat) (keep : Nat -> Prop) (n : Nat) (x y : ND) (up : Bool) (L0 : List Qn) (e : Ending) (w' : World) : Prop:=
 ∃ (na : Option Addr) (nc : Nat) (ka : Option Addr) (kc : Nat) (ov' : Value) (D' : DataW Unit),e = .returned (.agg #[.int .i64 (mixK x y),.slice na (mixN x y up).length nc,.slice ka (mixQ x y up).length kc]) /\
   w'.ownsRow w.heap.size 9 1 (.slice na (mixN x y up).length nc) (mixN x y up).length (tcells (mixN x y up)) /\
   w'.ownsRow w.heap.size 3 1 (.slice ka (mixQ x y up).length kc) (mixQ x y up).length (zcells ((mixQ x y up).map fun k=>(numK n (addAll L0 (mixQ x y up)) k : Int))) /\
   (∀ b,(Value.slice na (mixN x y up).length nc).ownBlock = some b -> (Value.slice ka (mixQ x y up).length kc).ownBlock ≠ some b) /\
   KnQ w' kb mb ov' D' ((addAll L0 (mixQ x y up)).map flipQ) (fun j=>keep j \/ (Value.slice na (mixN x y up).length nc).ownBlock = some j \/ (Value.slice ka (mixQ x y up).length kc).ownBlock = some j) /\ Kept keep w w'
theorem own_lowerS {w : World} {b b' : Nat} {e : TypeId} {sz : Nat} {v : Value} {n : Nat} {xs : List Value} (h : w.ownsRow b e sz v n xs) (hb : b' <= b) : w.ownsRow b' e sz v n xs:=by
 obtain ⟨h1,h2⟩:=h
 refine ⟨h1,?_⟩
 rcases h2 with q | ⟨g,cap,cur,a,c,d⟩
 ·exact Or.inl q
 ·exact Or.inr ⟨g,cap,cur,a,by omega,d⟩
theorem rc_end {w wr : World} {keep : Nat -> Prop} {kb mb n : Nat} {x y : ND} {px py : NP} {up : Bool} {L0 : List Qn} {na : Option Addr} {nc : Nat} {ka : Option Addr} {kc m : Nat} {dn : List (ByteArray × Kq)} {ov : Value} {D : DataW Unit} (h : RcI w wr keep kb mb n x y px py L0 na nc ka kc m dn ov D) (hx : x.kind = 3) (hy : y.kind = 3) (hd : dn = mixAll x y up 0 0) :
  MadeP w kb mb keep n x y up L0 (.returned (.agg #[.int .i64 3,.slice na m nc,.slice ka m kc])) (((wr.setCell ⟨w.heap.size + 1 + 1,0,none⟩ (.int .i64 3)).setCell ⟨w.heap.size + 1 + 1,1,none⟩ (.slice na m nc)).setCell ⟨w.heap.size + 1 + 1,2,none⟩ (.slice ka m kc)):=by
 have e : x.kind = y.kind:=hx.trans hy.symm
 have m1 : mixK x y = 3:=by unfold mixK;rw [if_pos e];exact hx
 have m2 : mixN x y up = dn.map Prod.fst:=by unfold mixN;rw [if_pos ⟨e,hx⟩,hd]
 have m3 : mixQ x y up = dn.map Prod.snd:=by unfold mixQ;rw [if_pos e,if_neg (by rw [hx];decide),if_pos hx,hd]
 have l2 : (mixN x y up).length = m:=by rw [m2,List.length_map,h.len]
 have l3 : (mixQ x y up).length = m:=by rw [m3,List.length_map,h.len]
 have nb : ∀ j,j < w.heap.size + 4 -> some j ≠ (Value.slice na m nc).ownBlock /\ some j ≠ (Value.slice ka m kc).ownBlock:=fun j hj=>⟨fun e=>by have:=(h.two.own1.lt j e.symm).1;omega,fun e=>by have:=(h.two.own2.lt j e.symm).1;omega⟩
 have far:=h.kn.far
 obtain ⟨_,o1,o2,o3⟩:=far (w.heap.size + 1 + 1) (Or.inr (Or.inl ⟨by omega,by omega⟩))
 refine ⟨na,nc,ka,kc,ov,D,by rw [m1,l2,l3],?_,?_,by rw [l2,l3];exact h.two.ne,?_,⟨h.kept.os,h.kept.tape,h.kept.output,by have:=h.kept.size;simp;omega,fun j hj=>(set3 j (by have:=h.old j hj;omega)).trans (h.kept.block j hj)⟩⟩
 ·rw [l2,m2]
  exact own_block (own_lowerS h.two.own1 (by omega)) (fun j e=>set3 j (fun e2=>(nb (w.heap.size + 1 + 1) (by omega)).1 (by rw [<- e2];exact e)))
 ·rw [l3,m3]
  exact own_block (own_lowerS h.two.own2 (by omega)) (fun j e=>set3 j (fun e2=>(nb (w.heap.size + 1 + 1) (by omega)).2 (by rw [<- e2];exact e)))
 ·rw [l2,l3,m3]
  refine h.kn.other (set3 _ (Ne.symm o1)) (set3 _ (Ne.symm o2)) (fun j e=>set3 j (fun e2=>o3 (by rw [<- e2];exact e.symm))) (fun j hj=>?_)
  have hsz : (((wr.setCell ⟨w.heap.size + 1 + 1,0,none⟩ (.int .i64 3)).setCell ⟨w.heap.size + 1 + 1,1,none⟩ (.slice na m nc)).setCell ⟨w.heap.size + 1 + 1,2,none⟩ (.slice ka m kc)).heap.size = wr.heap.size:=by simp
  rw [hsz]
  rcases hj with hj | hj | hj
  ·exact far j (Or.inl hj)
  ·exact far j (Or.inr (Or.inr (Or.inl hj)))
  ·exact far j (Or.inr (Or.inr (Or.inr hj)))
theorem kept_r {keep : Nat -> Prop} {b : Nat} {vn vk : Value} {w w' : World} (h : Kept (rkeep keep b vn vk) w w') : Kept keep w w':=⟨h.os,h.tape,h.output,h.size,fun k hk=>h.block k (Or.inl hk)⟩
def CellsV (w : World) (b : Nat) (v : ND) (p : NP) (i : Nat) : Prop:=
 w.cell? ⟨b,1,none⟩ = some (.slice (some ⟨p.b1,p.o1,none⟩) v.nn p.c1) /\ w.cell? ⟨p.b1,p.o1 + i,none⟩ = some (.string (v.nm i)) /\ w.cell? ⟨b,2,none⟩ = some (.slice (some ⟨p.b2,p.o2,none⟩) v.nk p.c2) /\ w.cell? ⟨p.b2,p.o2 + i,none⟩ = some (.int .i64 (kid v i : Int))
theorem cellsV {w : World} {b : Nat} {v : ND} {p : NP} {i : Nat} {k : Int} {t : TypeId} (hr : w.rowIs b t 3 (v3 (.int .i64 k) (.slice p.a1 v.nn p.c1) (.slice p.a2 v.nk p.c2))) (hN : NodeAt w p v) (h1 : i < v.nn) (h2 : i < v.nk) (hk : 0 <= v.kd i) : CellsV w b v p i:=by
 have q1 : w.cell? ⟨b,1,none⟩ = some (.slice p.a1 v.nn p.c1):=hr.cell (i:=1) (by omega)
 have q2 : w.cell? ⟨b,2,none⟩ = some (.slice p.a2 v.nk p.c2):=hr.cell (i:=2) (by omega)
 rw [hN.names.at_ (by omega)] at q1
 rw [hN.kids.at_ (by omega)] at q2
 have q3:=hN.kids.cell i h2
 rw [show v.kd i = ((kid v i : Nat) : Int) from by unfold kid;omega] at q3
 exact ⟨q1,hN.names.cell i h1,q2,q3⟩
theorem CellsV.set {w : World} {b : Nat} {v : ND} {p : NP} {i B : Nat} {v0 v1 v2 : Value} (h : CellsV w b v p i) (hb : b ≠ B) (h1 : p.b1 ≠ B) (h2 : p.b2 ≠ B) : CellsV (((w.setCell ⟨B,0,none⟩ v0).setCell ⟨B,1,none⟩ v1).setCell ⟨B,2,none⟩ v2) b v p i:=by
 obtain ⟨q1,q2,q3,q4⟩:=h
 exact ⟨(World.cell?_of_block (set3 _ hb)).trans q1,(World.cell?_of_block (set3 _ h1)).trans q2,(World.cell?_of_block (set3 _ hb)).trans q3,(World.cell?_of_block (set3 _ h2)).trans q4⟩
def FieldP (w : World) (keep : Nat -> Prop) (kb mb n : Nat) (x y : ND) (px py : NP) (L0 : List Qn) (na : Option Addr) (nc : Nat) (ka : Option Addr) (kc m : Nat) (dn : List (ByteArray × Kq)) (ov1 : Value) (D1 : DataW Unit) (e : Ending) (w2 : World) : Prop:=
 ∃ gg c1 hh c2,e = .returned (.agg #[.int .i64 3,.slice (some ⟨gg,0,none⟩) (m + 1) c1,.slice (some ⟨hh,0,none⟩) (m + 1) c2]) /\
   Hid (RcI w (((w2.setCell ⟨w.heap.size + 1 + 1 + 1,0,none⟩ (.int .i64 3)).setCell ⟨w.heap.size + 1 + 1 + 1,1,none⟩ (.slice (some ⟨gg,0,none⟩) (m + 1) c1)).setCell ⟨w.heap.size + 1 + 1 + 1,2,none⟩ (.slice (some ⟨hh,0,none⟩) (m + 1) c2)) keep kb mb n x y px py L0 (some ⟨gg,0,none⟩) c1 (some ⟨hh,0,none⟩) c2 (m + 1) dn ov1 D1) /\
   w2.cell? ⟨w.heap.size + 1 + 1 + 1,0,none⟩ = some (.int .i64 3) /\ w2.cell? ⟨w.heap.size + 1 + 1 + 1,1,none⟩ = some (.slice na m nc) /\ w2.cell? ⟨w.heap.size + 1 + 1 + 1,2,none⟩ = some (.slice ka m kc) /\
   w2.frozen? ⟨w.heap.size + 1 + 1 + 1,0,none⟩ = false /\ w2.frozen? ⟨w.heap.size + 1 + 1 + 1,1,none⟩ = false /\ w2.frozen? ⟨w.heap.size + 1 + 1 + 1,2,none⟩ = false /\
   Hid (Kept keep w w2 /\ w2.rowIs w.heap.size 48 3 (v3 (.int .i64 x.kind) (.slice px.a1 x.nn px.c1) (.slice px.a2 x.nk px.c2)) /\ w2.rowIs (w.heap.size + 1) 48 3 (v3 (.int .i64 y.kind) (.slice py.a1 y.nn py.c1) (.slice py.a2 y.nk py.c2)))
theorem rc_field {w wr w1 : World} {keep : Nat -> Prop} {kb mb n : Nat} {x y : ND} {px py : NP} {L0 : List Qn} {na : Option Addr} {nc : Nat} {ka : Option Addr} {kc m : Nat} {dn : List (ByteArray × Kq)} {ov ov1 : Value} {D D1 : DataW Unit} {k : Kq} (s : ByteArray) {z : Int}
  (h : RcI w wr keep kb mb n x y px py L0 na nc ka kc m dn ov D) (hk1 : KnQ w1 kb mb ov1 D1 ((addQ (addAll L0 (dn.map Prod.snd)) k).map flipQ) (rkeep keep w.heap.size (.slice na m nc) (.slice ka m kc)))
  (hkp : Kept (rkeep keep w.heap.size (.slice na m nc) (.slice ka m kc)) wr w1) (hz : z = (numK n (addQ (addAll L0 (dn.map Prod.snd)) k) k : Int)) (hm : m <= 4194304) :
  Calls Tryz.prog 141 #[.agg #[.int .i64 3,.slice na m nc,.slice ka m kc],.string s,.int .i64 z] w1 (FieldP w keep kb mb n x y px py L0 na nc ka kc m (dn ++ [(s,k)]) ov1 D1):=by
 have h2 : Two (w.heap.size + 4) w1 (.slice na m nc) (.slice ka m kc) (dn.map Prod.fst) ((dn.map Prod.snd).map fun k=>(numK n (addAll L0 (dn.map Prod.snd)) k : Int)) m:=h.two.other (fun j e=>hkp.block j (Or.inr (Or.inr (Or.inl e)))) (fun j e=>hkp.block j (Or.inr (Or.inr (Or.inr e))))
 have hs : w.heap.size + 4 <= w1.heap.size:=by have:=h.bo.lt;have:=hkp.size;omega
 refine (p_field (w.heap.size + 4) na ka nc kc m _ _ 3 z s w1 h2 hs hm).mono ?_
 rintro e w2 ⟨gg,c1,hh,c2,rfl,ht,hbt,hgg,hhh⟩
 obtain ⟨R,C,Z⟩:=rc_step h hk1 hkp hz ht hbt hgg hhh
 exact ⟨gg,c1,hh,c2,rfl,R,(C 0 (by omega)).1,(C 1 (by omega)).1,(C 2 (by omega)).1,(C 0 (by omega)).2,(C 1 (by omega)).2,(C 2 (by omega)).2,Z⟩
theorem RcI.knD {w wr : World} {keep : Nat -> Prop} {kb mb n : Nat} {x y : ND} {px py : NP} {L0 : List Qn} {na : Option Addr} {nc : Nat} {ka : Option Addr} {kc m : Nat} {dn : List (ByteArray × Kq)} {ov : Value} {D : DataW Unit} (h : RcI w wr keep kb mb n x y px py L0 na nc ka kc m dn ov D) (t : Nat) : KnQ (wr.drewN t) kb mb ov D ((addAll L0 (dn.map Prod.snd)).map flipQ) (rkeep keep w.heap.size (.slice na m nc) (.slice ka m kc)) /\ Kept (rkeep keep w.heap.size (.slice na m nc) (.slice ka m kc)) wr (wr.drewN t):=
 ⟨h.kn.below (below_drewN' _ _),⟨rfl,rfl,rfl,Nat.le_refl _,fun _ _=>rfl⟩⟩
set_option maxHeartbeats 16000000 in
theorem p_record (mxb kb mb : Nat) (ov0 : Value) (D0 : DataW Unit) (L0 : List Qn) (keep : Nat -> Prop) (ta : Option Addr) (n tc : Nat) (px py : NP) (x y : ND) (mt : Bool) (w : World) (h : KnQ w kb mb ov0 D0 (L0.map flipQ) keep)
  (hX : ∀ w',Kept keep w w' -> NodeAt w' px x /\ NodeAt w' py y /\ w'.cell? ⟨mxb,0,none⟩ = some (.slice ta n tc)) (hkm : keep mxb) (sx : ShQ x) (sy : ShQ y) (hkx : x.kind = 3) (hky : y.kind = 3) (hL : L0.length <= 10000000) (hn : n <= 1048576) (smx : ∀ j,j < x.nk -> kid x j < 4611686018427387904) (smy : ∀ j,j < y.nk -> kid y j < 4611686018427387904) :
  Calls Tryz.prog 126 #[.pointer (some ⟨mxb,0,none⟩),ndv px x,ndv py y,.bool mt,.pointer (some ⟨kb,0,none⟩)] w (MadeP w kb mb keep n x y (!mt) L0):=by
 have ST : Hid (RcI w ((((w.alloc (.cells #[.int .i64 x.kind,.slice px.a1 x.nn px.c1,.slice px.a2 x.nk px.c2] 48)).alloc (.cells #[.int .i64 y.kind,.slice py.a1 y.nn py.c1,.slice py.a2 y.nk py.c2] 48)).alloc (.cells #[.int .i64 0,.slice none 0 0,.slice none 0 0] 48)).alloc (.cells #[.int .i64 3,.slice none 0 0,.slice none 0 0] 48)) keep kb mb n x y px py L0 none 0 none 0 0 [] ov0 D0):=rc_start h
 have HX0 : Hid (∀ w',Kept keep w w' -> NodeAt w' px x /\ NodeAt w' py y /\ w'.cell? ⟨mxb,0,none⟩ = some (.slice ta n tc)):=hX
 have SX : Hid (ShQ x):=sx
 have SY : Hid (ShQ y):=sy
 have HKX : Hid (x.kind = 3):=hkx
 have HKY : Hid (y.kind = 3):=hky
 have HX : Hid (x.nk = x.nn):=sx.rc hkx
 have HY : Hid (y.nk = y.nn):=sy.rc hky
 have hxn:=sx.nn
 have hyn:=sy.nn
 have SMX : Hid (∀ j,j < x.nk -> kid x j < 4611686018427387904):=smx
 have SMY : Hid (∀ j,j < y.nk -> kid y j < 4611686018427387904):=smy
 have N0:=hX w ⟨rfl,rfl,rfl,Nat.le_refl _,fun _ _=>rfl⟩
 have HBx1 : Hid (0 < x.nn -> px.b1 ≠ w.heap.size + 1 + 1 + 1):=fun z=>by have : px.b1 < w.heap.size:=blt (N0.1.names.cell 0 z);omega
 have HBx2 : Hid (0 < x.nk -> px.b2 ≠ w.heap.size + 1 + 1 + 1):=fun z=>by have : px.b2 < w.heap.size:=blt (N0.1.kids.cell 0 z);omega
 have HBy1 : Hid (0 < y.nn -> py.b1 ≠ w.heap.size + 1 + 1 + 1):=fun z=>by have : py.b1 < w.heap.size:=blt (N0.2.1.names.cell 0 z);omega
 have HBy2 : Hid (0 < y.nk -> py.b2 ≠ w.heap.size + 1 + 1 + 1):=fun z=>by have : py.b2 < w.heap.size:=blt (N0.2.1.kids.cell 0 z);omega
 clear h hX sx sy hkx hky smx smy N0
 unfold ndv
 go_enter Tryz.func126,Tryz.ntmps126
 go_wp2
 go_loopw [12,13] (fun s12 s13 wr=>∃ (i j m : Nat) (dn : List (ByteArray × Kq)) (na : Option Addr) (nc : Nat) (ka : Option Addr) (kc : Nat) (ov : Value) (D : DataW Unit),s12 = .int .i64 i /\ s13 = .int .i64 j /\ i <= x.nn /\ j <= y.nn /\ m <= i + j /\ Hid (dn ++ mixAll x y (!mt) i j = mixAll x y (!mt) 0 0) /\ Hid (RcI w wr keep kb mb n x y px py L0 na nc ka kc m dn ov D)) (fun s12 s13 _=>x.nn + y.nn - (intOf s12).toNat - (intOf s13).toNat)
 case atStart=>exact ⟨0,0,0,[],_,_,_,_,_,_,rfl,rfl,Nat.zero_le _,Nat.zero_le _,Nat.zero_le _,rfl,ST⟩
 case round=>
  obtain ⟨i,j,m,dn,na,nc,ka,kc,ov,D,rfl,rfl,hi,hj,hml,HA,HI⟩:=hrel
  clear ST
  obtain ⟨NX,NY,_⟩:=HX0.out wr HI.out.kept
  have dx1 : wr.cell? ⟨w.heap.size,1,none⟩ = some (.slice px.a1 x.nn px.c1):=HI.out.bx.cell (i:=1) (by omega)
  have dx2 : wr.cell? ⟨w.heap.size,2,none⟩ = some (.slice px.a2 x.nk px.c2):=HI.out.bx.cell (i:=2) (by omega)
  have dy1 : wr.cell? ⟨w.heap.size + 1,1,none⟩ = some (.slice py.a1 y.nn py.c1):=HI.out.bY.cell (i:=1) (by omega)
  have dy2 : wr.cell? ⟨w.heap.size + 1,2,none⟩ = some (.slice py.a2 y.nk py.c2):=HI.out.bY.cell (i:=2) (by omega)
  have do0 : wr.cell? ⟨w.heap.size + 1 + 1 + 1,0,none⟩ = some (.int .i64 3):=HI.out.bo.cell (i:=0) (by omega)
  have do1 : wr.cell? ⟨w.heap.size + 1 + 1 + 1,1,none⟩ = some (.slice na m nc):=HI.out.bo.cell (i:=1) (by omega)
  have do2 : wr.cell? ⟨w.heap.size + 1 + 1 + 1,2,none⟩ = some (.slice ka m kc):=HI.out.bo.cell (i:=2) (by omega)
  by_cases hc : i < x.nn \/ j < y.nn
  case neg=>
   have li : ¬ (i : Int) < (x.nn : Int):=by omega
   have lj : ¬ (j : Int) < (y.nn : Int):=by omega
   have F : Hid (MadeP w kb mb keep n x y (!mt) L0 (.returned (.agg #[.int .i64 3,.slice na m nc,.slice ka m kc])) (((wr.setCell ⟨w.heap.size + 1 + 1,0,none⟩ (.int .i64 3)).setCell ⟨w.heap.size + 1 + 1,1,none⟩ (.slice na m nc)).setCell ⟨w.heap.size + 1 + 1,2,none⟩ (.slice ka m kc))):=rc_end HI.out HKX.out HKY.out (by have:=HA.out;rw [mixAll_end hc,List.append_nil] at this;exact this)
   have g0 : wr.cell? ⟨w.heap.size + 1 + 1,0,none⟩ = some (.int .i64 0):=HI.out.br.cell (i:=0) (by omega)
   have g1 : wr.cell? ⟨w.heap.size + 1 + 1,1,none⟩ = some (.slice none 0 0):=HI.out.br.cell (i:=1) (by omega)
   have g2 : wr.cell? ⟨w.heap.size + 1 + 1,2,none⟩ = some (.slice none 0 0):=HI.out.br.cell (i:=2) (by omega)
   have k0:=HI.out.br.frozen 0
   have k1:=HI.out.br.frozen 1
   have k2:=HI.out.br.frozen 2
   clear NX NY
   go_wp2
   exact bodyPost_ret (v:=.agg #[.int .i64 3,.slice na m nc,.slice ka m kc]) (by simp [results,Tryz.results126,go_sem,g0,g1,g2]) rfl F.out
  by_cases hj1 : j < y.nn
  case neg=>
   have hi1 : i < x.nn:=by omega
   have li : (i : Int) < (x.nn : Int):=by omega
   have lj : ¬ (j : Int) < (y.nn : Int):=by omega
   have lje : ((j : Int) == (y.nn : Int)) = true:=by rw [beq_iff_eq];omega
   have ljn : (j == y.nn) = true:=by rw [beq_iff_eq];omega
   have ljd : decide (j = y.nn) = true:=decide_eq_true (by omega)
   have HSTEP : Hid (mixAll x y (!mt) i j = (if !mt then [] else [(x.nm i,.ty (kid x i))]) ++ mixAll x y (!mt) (i + 1) j):=mixAll_left hc (Or.inl hj1)
   have nx:=NX.names
   have kx:=NX.kids
   have ex1:=nx.at_ (by omega)
   have ex2:=kx.at_ (by have:=HX.out;omega)
   rw [ex1] at dx1
   rw [ex2] at dx2
   have cx1:=nx.cell i (by omega)
   have cx2:=kx.cell i (by have:=HX.out;omega)
   rw [(show x.kd i = ((kid x i : Nat) : Int) from by have:=SX.out.kids i (by have:=HX.out;omega);unfold kid;omega)] at cx2
   have lkx : (i : Int) < (x.nk : Int):=by have:=HX.out;omega
   clear ex1 ex2 nx kx
   clear hc hj1 NX NY
   cases mt with
   | false=>
     have HA2 : Hid (dn ++ mixAll x y true (i + 1) (j) = mixAll x y true 0 0):=by
      have:=HA.out
      rw [HSTEP.out] at this
      show _ = _
      simpa using this
     clear HSTEP
     go_wp2
     go_quiet (fail)
     go_wp2
     go_roundw
     case rel=>exact ⟨i + 1,j,m,dn,na,nc,ka,kc,ov,D,by go_num,by go_num,by omega,by omega,by omega,HA2,by first | exact HI | exact HI.out.drew _⟩
     case measure=>simp [intOf];omega
   | true=>
     have HA2 : Hid ((dn ++ [(x.nm i,Kq.ty (kid x i))]) ++ mixAll x y false (i + 1) (j) = mixAll x y false 0 0):=by
      have:=HA.out
      rw [HSTEP.out] at this
      show _ = _
      simpa using this
     clear HSTEP
     have HF : Hid (∀ t,Calls Tryz.prog 141 #[.agg #[.int .i64 3,.slice na m nc,.slice ka m kc],.string (x.nm i),.int .i64 (kid x i : Int)] (wr.drewN t) (fun e w2=>CellsV w2 w.heap.size x px i /\ FieldP w keep kb mb n x y px py L0 na nc ka kc m (dn ++ [(x.nm i,Kq.ty (kid x i))]) ov D e w2)):=fun t=>by
      refine (rc_field (x.nm i) HI.out (k:=Kq.ty (kid x i)) (HI.out.knD t).1 (HI.out.knD t).2 rfl (by omega)).mono ?_
      rintro e w2 ⟨gg,c1,hh,c2,e1,HR,f0,f1,f2,z0,z1,z2,HZ⟩
      refine ⟨cellsV HZ.out.2.1 (HX0.out w2 HZ.out.1).1 (by omega) (by have:=HX.out;omega) (SX.out.kids i (by have:=HX.out;omega)),gg,c1,hh,c2,e1,HR,f0,f1,f2,z0,z1,z2,HZ⟩
     have HN1 : Hid (px.b1 ≠ w.heap.size + 1 + 1 + 1):=HBx1.out (by omega)
     have HN2 : Hid (px.b2 ≠ w.heap.size + 1 + 1 + 1):=HBx2.out (by have:=HX.out;omega)
     go_wp2
     go_quiet (fail)
     go_wp2
     refine wp_region_held_drew (S:=fun w'=>w'.cell? ⟨w.heap.size,1,none⟩ = some (.slice (some ⟨px.b1,px.o1,none⟩) x.nn px.c1) /\ w'.cell? ⟨px.b1,px.o1 + i,none⟩ = some (.string (x.nm i)) /\ w'.cell? ⟨w.heap.size,2,none⟩ = some (.slice (some ⟨px.b2,px.o2,none⟩) x.nk px.c2) /\ w'.cell? ⟨px.b2,px.o2 + i,none⟩ = some (.int .i64 (kid x i : Int))) (by kernel_rfl) ?_ (fun hHeld=>?_)
     ·(try dsimp only);first | go_keep | (exact CellsV.set ⟨s1,s2,s3,s4⟩ (by omega) HN1.out HN2.out)
     refine tkH 1 80 (v:=?_) rfl ?_ ?_
     rotate_left
     ·intro wS hSw;(try dsimp only at hSw);go_simp <;> with_reducible rfl
     try simp only [Act.put,List.setIfInBounds_toArray,List.set_cons_succ,List.set_cons_zero]
     refine tkH 2 81 (v:=?_) rfl ?_ ?_
     rotate_left
     ·intro wS hSw;(try dsimp only at hSw);go_simp <;> with_reducible rfl
     try simp only [Act.put,List.setIfInBounds_toArray,List.set_cons_succ,List.set_cons_zero]
     refine tkH 3 82 (v:=?_) rfl ?_ ?_
     rotate_left
     ·intro wS hSw;(try dsimp only at hSw);go_simp <;> with_reducible rfl
     try simp only [Act.put,List.setIfInBounds_toArray,List.set_cons_succ,List.set_cons_zero]
     refine tkH 4 83 (v:=?_) rfl ?_ ?_
     rotate_left
     ·intro wS hSw;(try dsimp only at hSw);go_simp <;> with_reducible rfl
     try simp only [Act.put,List.setIfInBounds_toArray,List.set_cons_succ,List.set_cons_zero]
     refine tkH 5 84 (v:=?_) rfl ?_ ?_
     rotate_left
     ·intro wS hSw;(try dsimp only at hSw);go_simp <;> with_reducible rfl
     try simp only [Act.put,List.setIfInBounds_toArray,List.set_cons_succ,List.set_cons_zero]
     refine tkH 6 85 (v:=?_) rfl ?_ ?_
     rotate_left
     ·intro wS hSw;(try dsimp only at hSw);go_simp <;> with_reducible rfl
     try simp only [Act.put,List.setIfInBounds_toArray,List.set_cons_succ,List.set_cons_zero]
     refine tkH 7 86 (v:=?_) rfl ?_ ?_
     rotate_left
     ·intro wS hSw;(try dsimp only at hSw);go_simp <;> with_reducible rfl
     try simp only [Act.put,List.setIfInBounds_toArray,List.set_cons_succ,List.set_cons_zero]
     refine tkH 8 87 (v:=?_) rfl ?_ ?_
     rotate_left
     ·intro wS hSw;(try dsimp only at hSw);go_simp <;> with_reducible rfl
     try simp only [Act.put,List.setIfInBounds_toArray,List.set_cons_succ,List.set_cons_zero]
     refine tkH 9 88 (v:=?_) rfl ?_ ?_
     rotate_left
     ·intro wS hSw;(try dsimp only at hSw);go_simp <;> with_reducible rfl
     try simp only [Act.put,List.setIfInBounds_toArray,List.set_cons_succ,List.set_cons_zero]
     refine tkH 10 89 (v:=?_) rfl ?_ ?_
     rotate_left
     ·intro wS hSw;(try dsimp only at hSw);go_simp <;> with_reducible rfl
     try simp only [Act.put,List.setIfInBounds_toArray,List.set_cons_succ,List.set_cons_zero]
     refine wpAnyH_ready (rs:=[0]) (by kernel_rfl) (by simp) ?_
     refine AllReadyH.cons rfl (fun K hK=>?_) AllReadyH.nil
     go_simp
     refine hK.out _ _ ?_ (fun hHeld2=>?_)
     ·(try dsimp only);first | go_keep | (exact CellsV.set ⟨s1,s2,s3,s4⟩ (by omega) HN1.out HN2.out)
     clear hK K hHeld
     have hHeld:=hHeld2
     clear hHeld2
     refine wpAnyH_ready (rs:=[11]) (by kernel_rfl) (by simp) ?_
     refine AllReadyH.cons rfl (fun K hK=>?_) AllReadyH.nil
     go_simp
     go_wp2_with (first | (go_at_call 141;refine (HF.out _).mono ?_;rintro e w2 ⟨⟨s1,s2,s3,s4⟩,gg,c1,hh,c2,rfl,HR,f0,f1,f2,z0,z1,z2,_⟩))
     refine hK.out _ _ ?_ (fun hHeld2=>?_)
     ·(try dsimp only);first | go_keep | (exact CellsV.set ⟨s1,s2,s3,s4⟩ (by omega) HN1.out HN2.out)
     clear hK K hHeld
     have hHeld:=hHeld2
     clear hHeld2
     refine wpAnyH_ready (rs:=[12]) (by kernel_rfl) (by simp) ?_
     refine AllReadyH.cons rfl (fun K hK=>?_) AllReadyH.nil
     go_simp
     refine hK.out _ _ ?_ (fun hHeld2=>?_)
     ·(try dsimp only);first | go_keep | (exact CellsV.set ⟨s1,s2,s3,s4⟩ (by omega) HN1.out HN2.out)
     clear hK K hHeld
     have hHeld:=hHeld2
     clear hHeld2
     refine wpAnyH_done (by kernel_rfl) ?_ _
     all_goals
      clear HF do0 do1 do2 s1 s2 s3 s4
      go_wp2
      go_roundw
      case rel=>exact ⟨i + 1,j,m + 1,_,_,_,_,_,_,_,by go_num,by go_num,by omega,by omega,by omega,HA2,by first | exact HR | exact HR.out.drew 1 | exact HR.out.drew _⟩
      case measure=>simp [intOf];omega
  have lj : (j : Int) < (y.nn : Int):=by omega
  have lje : ((j : Int) == (y.nn : Int)) = false:=by rw [beq_eq_false_iff_ne];omega
  have ljn : (j == y.nn) = false:=by rw [beq_eq_false_iff_ne];omega
  have ljd : decide (j = y.nn) = false:=decide_eq_false (by omega)
  by_cases hi1 : i < x.nn
  case neg=>
   have li : ¬ (i : Int) < (x.nn : Int):=by omega
   have lid : decide (i < x.nn) = false:=decide_eq_false (by omega)
   have lidI : decide ((i : Int) < (x.nn : Int)) = false:=decide_eq_false (by omega)
   have lie : ((i : Int) == (x.nn : Int)) = true:=by rw [beq_iff_eq];omega
   have lin : (i == x.nn) = true:=by rw [beq_iff_eq];omega
   have lidd : decide (i = x.nn) = true:=decide_eq_true (by omega)
   have HSTEP : Hid (mixAll x y (!mt) i j = (if !mt then [] else [(y.nm j,.ty (kid y j))]) ++ mixAll x y (!mt) i (j + 1)):=mixAll_right hc (fun h=>by rcases h with h | h <;> omega) (Or.inl hi1)
   have ny:=NY.names
   have ky:=NY.kids
   have ey1:=ny.at_ (by omega)
   have ey2:=ky.at_ (by have:=HY.out;omega)
   rw [ey1] at dy1
   rw [ey2] at dy2
   have cy1:=ny.cell j (by omega)
   have cy2:=ky.cell j (by have:=HY.out;omega)
   rw [(show y.kd j = ((kid y j : Nat) : Int) from by have:=SY.out.kids j (by have:=HY.out;omega);unfold kid;omega)] at cy2
   have lky : (j : Int) < (y.nk : Int):=by have:=HY.out;omega
   clear ey1 ey2 ny ky
   clear hc hj1 hi1 NX NY
   cases mt with
   | false=>
     have HA2 : Hid (dn ++ mixAll x y true (i) (j + 1) = mixAll x y true 0 0):=by
      have:=HA.out
      rw [HSTEP.out] at this
      show _ = _
      simpa using this
     clear HSTEP
     go_wp2
     go_quiet (fail)
     go_wp2
     go_quiet (fail)
     go_wp2
     go_roundw
     case rel=>exact ⟨i,j + 1,m,dn,na,nc,ka,kc,ov,D,by go_num,by go_num,by omega,by omega,by omega,HA2,by first | exact HI | exact HI.out.drew _⟩
     case measure=>simp [intOf];omega
   | true=>
     have HA2 : Hid ((dn ++ [(y.nm j,Kq.ty (kid y j))]) ++ mixAll x y false (i) (j + 1) = mixAll x y false 0 0):=by
      have:=HA.out
      rw [HSTEP.out] at this
      show _ = _
      simpa using this
     clear HSTEP
     have HF : Hid (∀ t,Calls Tryz.prog 141 #[.agg #[.int .i64 3,.slice na m nc,.slice ka m kc],.string (y.nm j),.int .i64 (kid y j : Int)] (wr.drewN t) (fun e w2=>CellsV w2 (w.heap.size + 1) y py j /\ FieldP w keep kb mb n x y px py L0 na nc ka kc m (dn ++ [(y.nm j,Kq.ty (kid y j))]) ov D e w2)):=fun t=>by
      refine (rc_field (y.nm j) HI.out (k:=Kq.ty (kid y j)) (HI.out.knD t).1 (HI.out.knD t).2 rfl (by omega)).mono ?_
      rintro e w2 ⟨gg,c1,hh,c2,e1,HR,f0,f1,f2,z0,z1,z2,HZ⟩
      refine ⟨cellsV HZ.out.2.2 (HX0.out w2 HZ.out.1).2.1 (by omega) (by have:=HY.out;omega) (SY.out.kids j (by have:=HY.out;omega)),gg,c1,hh,c2,e1,HR,f0,f1,f2,z0,z1,z2,HZ⟩
     have HN1 : Hid (py.b1 ≠ w.heap.size + 1 + 1 + 1):=HBy1.out (by omega)
     have HN2 : Hid (py.b2 ≠ w.heap.size + 1 + 1 + 1):=HBy2.out (by have:=HY.out;omega)
     go_wp2
     go_quiet (fail)
     go_wp2
     go_quiet (fail)
     go_wp2
     refine wp_region_held_drew (S:=fun w'=>w'.cell? ⟨w.heap.size + 1,1,none⟩ = some (.slice (some ⟨py.b1,py.o1,none⟩) y.nn py.c1) /\ w'.cell? ⟨py.b1,py.o1 + j,none⟩ = some (.string (y.nm j)) /\ w'.cell? ⟨w.heap.size + 1,2,none⟩ = some (.slice (some ⟨py.b2,py.o2,none⟩) y.nk py.c2) /\ w'.cell? ⟨py.b2,py.o2 + j,none⟩ = some (.int .i64 (kid y j : Int))) (by kernel_rfl) ?_ (fun hHeld=>?_)
     ·(try dsimp only);first | go_keep | (exact CellsV.set ⟨s1,s2,s3,s4⟩ (by omega) HN1.out HN2.out)
     refine tkH 1 114 (v:=?_) rfl ?_ ?_
     rotate_left
     ·intro wS hSw;(try dsimp only at hSw);go_simp <;> with_reducible rfl
     try simp only [Act.put,List.setIfInBounds_toArray,List.set_cons_succ,List.set_cons_zero]
     refine tkH 2 115 (v:=?_) rfl ?_ ?_
     rotate_left
     ·intro wS hSw;(try dsimp only at hSw);go_simp <;> with_reducible rfl
     try simp only [Act.put,List.setIfInBounds_toArray,List.set_cons_succ,List.set_cons_zero]
     refine tkH 3 116 (v:=?_) rfl ?_ ?_
     rotate_left
     ·intro wS hSw;(try dsimp only at hSw);go_simp <;> with_reducible rfl
     try simp only [Act.put,List.setIfInBounds_toArray,List.set_cons_succ,List.set_cons_zero]
     refine tkH 4 117 (v:=?_) rfl ?_ ?_
     rotate_left
     ·intro wS hSw;(try dsimp only at hSw);go_simp <;> with_reducible rfl
     try simp only [Act.put,List.setIfInBounds_toArray,List.set_cons_succ,List.set_cons_zero]
     refine tkH 5 118 (v:=?_) rfl ?_ ?_
     rotate_left
     ·intro wS hSw;(try dsimp only at hSw);go_simp <;> with_reducible rfl
     try simp only [Act.put,List.setIfInBounds_toArray,List.set_cons_succ,List.set_cons_zero]
     refine tkH 6 119 (v:=?_) rfl ?_ ?_
     rotate_left
     ·intro wS hSw;(try dsimp only at hSw);go_simp <;> with_reducible rfl
     try simp only [Act.put,List.setIfInBounds_toArray,List.set_cons_succ,List.set_cons_zero]
     refine tkH 7 120 (v:=?_) rfl ?_ ?_
     rotate_left
     ·intro wS hSw;(try dsimp only at hSw);go_simp <;> with_reducible rfl
     try simp only [Act.put,List.setIfInBounds_toArray,List.set_cons_succ,List.set_cons_zero]
     refine tkH 8 121 (v:=?_) rfl ?_ ?_
     rotate_left
     ·intro wS hSw;(try dsimp only at hSw);go_simp <;> with_reducible rfl
     try simp only [Act.put,List.setIfInBounds_toArray,List.set_cons_succ,List.set_cons_zero]
     refine tkH 9 122 (v:=?_) rfl ?_ ?_
     rotate_left
     ·intro wS hSw;(try dsimp only at hSw);go_simp <;> with_reducible rfl
     try simp only [Act.put,List.setIfInBounds_toArray,List.set_cons_succ,List.set_cons_zero]
     refine tkH 10 123 (v:=?_) rfl ?_ ?_
     rotate_left
     ·intro wS hSw;(try dsimp only at hSw);go_simp <;> with_reducible rfl
     try simp only [Act.put,List.setIfInBounds_toArray,List.set_cons_succ,List.set_cons_zero]
     refine wpAnyH_ready (rs:=[0]) (by kernel_rfl) (by simp) ?_
     refine AllReadyH.cons rfl (fun K hK=>?_) AllReadyH.nil
     go_simp
     refine hK.out _ _ ?_ (fun hHeld2=>?_)
     ·(try dsimp only);first | go_keep | (exact CellsV.set ⟨s1,s2,s3,s4⟩ (by omega) HN1.out HN2.out)
     clear hK K hHeld
     have hHeld:=hHeld2
     clear hHeld2
     refine wpAnyH_ready (rs:=[11]) (by kernel_rfl) (by simp) ?_
     refine AllReadyH.cons rfl (fun K hK=>?_) AllReadyH.nil
     go_simp
     go_wp2_with (first | (go_at_call 141;refine (HF.out _).mono ?_;rintro e w2 ⟨⟨s1,s2,s3,s4⟩,gg,c1,hh,c2,rfl,HR,f0,f1,f2,z0,z1,z2,_⟩))
     refine hK.out _ _ ?_ (fun hHeld2=>?_)
     ·(try dsimp only);first | go_keep | (exact CellsV.set ⟨s1,s2,s3,s4⟩ (by omega) HN1.out HN2.out)
     clear hK K hHeld
     have hHeld:=hHeld2
     clear hHeld2
     refine wpAnyH_ready (rs:=[12]) (by kernel_rfl) (by simp) ?_
     refine AllReadyH.cons rfl (fun K hK=>?_) AllReadyH.nil
     go_simp
     refine hK.out _ _ ?_ (fun hHeld2=>?_)
     ·(try dsimp only);first | go_keep | (exact CellsV.set ⟨s1,s2,s3,s4⟩ (by omega) HN1.out HN2.out)
     clear hK K hHeld
     have hHeld:=hHeld2
     clear hHeld2
     refine wpAnyH_done (by kernel_rfl) ?_ _
     all_goals
      clear HF do0 do1 do2 s1 s2 s3 s4
      go_wp2
      go_roundw
      case rel=>exact ⟨i,j + 1,m + 1,_,_,_,_,_,_,_,by go_num,by go_num,by omega,by omega,by omega,HA2,by first | exact HR | exact HR.out.drew 1 | exact HR.out.drew _⟩
      case measure=>simp [intOf];omega
  have li : (i : Int) < (x.nn : Int):=by omega
  have lid : decide (i < x.nn) = true:=decide_eq_true (by omega)
  have lidI : decide ((i : Int) < (x.nn : Int)) = true:=decide_eq_true (by omega)
  have lie : ((i : Int) == (x.nn : Int)) = false:=by rw [beq_eq_false_iff_ne];omega
  have lin : (i == x.nn) = false:=by rw [beq_eq_false_iff_ne];omega
  have lidd : decide (i = x.nn) = false:=decide_eq_false (by omega)
  have nx:=NX.names
  have kx:=NX.kids
  have ex1:=nx.at_ (by omega)
  have ex2:=kx.at_ (by have:=HX.out;omega)
  rw [ex1] at dx1
  rw [ex2] at dx2
  have cx1:=nx.cell i (by omega)
  have cx2:=kx.cell i (by have:=HX.out;omega)
  rw [(show x.kd i = ((kid x i : Nat) : Int) from by have:=SX.out.kids i (by have:=HX.out;omega);unfold kid;omega)] at cx2
  have lkx : (i : Int) < (x.nk : Int):=by have:=HX.out;omega
  clear ex1 ex2 nx kx
  have ny:=NY.names
  have ky:=NY.kids
  have ey1:=ny.at_ (by omega)
  have ey2:=ky.at_ (by have:=HY.out;omega)
  rw [ey1] at dy1
  rw [ey2] at dy2
  have cy1:=ny.cell j (by omega)
  have cy2:=ky.cell j (by have:=HY.out;omega)
  rw [(show y.kd j = ((kid y j : Nat) : Int) from by have:=SY.out.kids j (by have:=HY.out;omega);unfold kid;omega)] at cy2
  have lky : (j : Int) < (y.nk : Int):=by have:=HY.out;omega
  clear ey1 ey2 ny ky
  cases hl : lt (x.nm i) (y.nm j) with
  | true=>
    have hl' : Op.bytesLess (x.nm i).toList (y.nm j).toList = true:=hl
    have HSTEP : Hid (mixAll x y (!mt) i j = (if !mt then [] else [(x.nm i,.ty (kid x i))]) ++ mixAll x y (!mt) (i + 1) j):=mixAll_left hc (Or.inr ⟨hi1,hl⟩)
    clear hc hl NX NY
    cases mt with
    | false=>
      have HA2 : Hid (dn ++ mixAll x y true (i + 1) (j) = mixAll x y true 0 0):=by
       have:=HA.out
       rw [HSTEP.out] at this
       show _ = _
       simpa using this
      clear HSTEP
      go_wp2
      go_quiet (fail)
      go_wp2
      go_roundw
      case rel=>exact ⟨i + 1,j,m,dn,na,nc,ka,kc,ov,D,by go_num,by go_num,by omega,by omega,by omega,HA2,by first | exact HI | exact HI.out.drew _⟩
      case measure=>simp [intOf];omega
    | true=>
      have HA2 : Hid ((dn ++ [(x.nm i,Kq.ty (kid x i))]) ++ mixAll x y false (i + 1) (j) = mixAll x y false 0 0):=by
       have:=HA.out
       rw [HSTEP.out] at this
       show _ = _
       simpa using this
      clear HSTEP
      have HF : Hid (∀ t,Calls Tryz.prog 141 #[.agg #[.int .i64 3,.slice na m nc,.slice ka m kc],.string (x.nm i),.int .i64 (kid x i : Int)] (wr.drewN t) (fun e w2=>CellsV w2 w.heap.size x px i /\ FieldP w keep kb mb n x y px py L0 na nc ka kc m (dn ++ [(x.nm i,Kq.ty (kid x i))]) ov D e w2)):=fun t=>by
       refine (rc_field (x.nm i) HI.out (k:=Kq.ty (kid x i)) (HI.out.knD t).1 (HI.out.knD t).2 rfl (by omega)).mono ?_
       rintro e w2 ⟨gg,c1,hh,c2,e1,HR,f0,f1,f2,z0,z1,z2,HZ⟩
       refine ⟨cellsV HZ.out.2.1 (HX0.out w2 HZ.out.1).1 (by omega) (by have:=HX.out;omega) (SX.out.kids i (by have:=HX.out;omega)),gg,c1,hh,c2,e1,HR,f0,f1,f2,z0,z1,z2,HZ⟩
      have HN1 : Hid (px.b1 ≠ w.heap.size + 1 + 1 + 1):=HBx1.out (by omega)
      have HN2 : Hid (px.b2 ≠ w.heap.size + 1 + 1 + 1):=HBx2.out (by have:=HX.out;omega)
      go_wp2
      go_quiet (fail)
      go_wp2
      refine wp_region_held_drew (S:=fun w'=>w'.cell? ⟨w.heap.size,1,none⟩ = some (.slice (some ⟨px.b1,px.o1,none⟩) x.nn px.c1) /\ w'.cell? ⟨px.b1,px.o1 + i,none⟩ = some (.string (x.nm i)) /\ w'.cell? ⟨w.heap.size,2,none⟩ = some (.slice (some ⟨px.b2,px.o2,none⟩) x.nk px.c2) /\ w'.cell? ⟨px.b2,px.o2 + i,none⟩ = some (.int .i64 (kid x i : Int))) (by kernel_rfl) ?_ (fun hHeld=>?_)
      ·(try dsimp only);first | go_keep | (exact CellsV.set ⟨s1,s2,s3,s4⟩ (by omega) HN1.out HN2.out)
      refine tkH 1 80 (v:=?_) rfl ?_ ?_
      rotate_left
      ·intro wS hSw;(try dsimp only at hSw);go_simp <;> with_reducible rfl
      try simp only [Act.put,List.setIfInBounds_toArray,List.set_cons_succ,List.set_cons_zero]
      refine tkH 2 81 (v:=?_) rfl ?_ ?_
      rotate_left
      ·intro wS hSw;(try dsimp only at hSw);go_simp <;> with_reducible rfl
      try simp only [Act.put,List.setIfInBounds_toArray,List.set_cons_succ,List.set_cons_zero]
      refine tkH 3 82 (v:=?_) rfl ?_ ?_
      rotate_left
      ·intro wS hSw;(try dsimp only at hSw);go_simp <;> with_reducible rfl
      try simp only [Act.put,List.setIfInBounds_toArray,List.set_cons_succ,List.set_cons_zero]
      refine tkH 4 83 (v:=?_) rfl ?_ ?_
      rotate_left
      ·intro wS hSw;(try dsimp only at hSw);go_simp <;> with_reducible rfl
      try simp only [Act.put,List.setIfInBounds_toArray,List.set_cons_succ,List.set_cons_zero]
      refine tkH 5 84 (v:=?_) rfl ?_ ?_
      rotate_left
      ·intro wS hSw;(try dsimp only at hSw);go_simp <;> with_reducible rfl
      try simp only [Act.put,List.setIfInBounds_toArray,List.set_cons_succ,List.set_cons_zero]
      refine tkH 6 85 (v:=?_) rfl ?_ ?_
      rotate_left
      ·intro wS hSw;(try dsimp only at hSw);go_simp <;> with_reducible rfl
      try simp only [Act.put,List.setIfInBounds_toArray,List.set_cons_succ,List.set_cons_zero]
      refine tkH 7 86 (v:=?_) rfl ?_ ?_
      rotate_left
      ·intro wS hSw;(try dsimp only at hSw);go_simp <;> with_reducible rfl
      try simp only [Act.put,List.setIfInBounds_toArray,List.set_cons_succ,List.set_cons_zero]
      refine tkH 8 87 (v:=?_) rfl ?_ ?_
      rotate_left
      ·intro wS hSw;(try dsimp only at hSw);go_simp <;> with_reducible rfl
      try simp only [Act.put,List.setIfInBounds_toArray,List.set_cons_succ,List.set_cons_zero]
      refine tkH 9 88 (v:=?_) rfl ?_ ?_
      rotate_left
      ·intro wS hSw;(try dsimp only at hSw);go_simp <;> with_reducible rfl
      try simp only [Act.put,List.setIfInBounds_toArray,List.set_cons_succ,List.set_cons_zero]
      refine tkH 10 89 (v:=?_) rfl ?_ ?_
      rotate_left
      ·intro wS hSw;(try dsimp only at hSw);go_simp <;> with_reducible rfl
      try simp only [Act.put,List.setIfInBounds_toArray,List.set_cons_succ,List.set_cons_zero]
      refine wpAnyH_ready (rs:=[0]) (by kernel_rfl) (by simp) ?_
      refine AllReadyH.cons rfl (fun K hK=>?_) AllReadyH.nil
      go_simp
      refine hK.out _ _ ?_ (fun hHeld2=>?_)
      ·(try dsimp only);first | go_keep | (exact CellsV.set ⟨s1,s2,s3,s4⟩ (by omega) HN1.out HN2.out)
      clear hK K hHeld
      have hHeld:=hHeld2
      clear hHeld2
      refine wpAnyH_ready (rs:=[11]) (by kernel_rfl) (by simp) ?_
      refine AllReadyH.cons rfl (fun K hK=>?_) AllReadyH.nil
      go_simp
      go_wp2_with (first | (go_at_call 141;refine (HF.out _).mono ?_;rintro e w2 ⟨⟨s1,s2,s3,s4⟩,gg,c1,hh,c2,rfl,HR,f0,f1,f2,z0,z1,z2,_⟩))
      refine hK.out _ _ ?_ (fun hHeld2=>?_)
      ·(try dsimp only);first | go_keep | (exact CellsV.set ⟨s1,s2,s3,s4⟩ (by omega) HN1.out HN2.out)
      clear hK K hHeld
      have hHeld:=hHeld2
      clear hHeld2
      refine wpAnyH_ready (rs:=[12]) (by kernel_rfl) (by simp) ?_
      refine AllReadyH.cons rfl (fun K hK=>?_) AllReadyH.nil
      go_simp
      refine hK.out _ _ ?_ (fun hHeld2=>?_)
      ·(try dsimp only);first | go_keep | (exact CellsV.set ⟨s1,s2,s3,s4⟩ (by omega) HN1.out HN2.out)
      clear hK K hHeld
      have hHeld:=hHeld2
      clear hHeld2
      refine wpAnyH_done (by kernel_rfl) ?_ _
      all_goals
       clear HF do0 do1 do2 s1 s2 s3 s4
       go_wp2
       go_roundw
       case rel=>exact ⟨i + 1,j,m + 1,_,_,_,_,_,_,_,by go_num,by go_num,by omega,by omega,by omega,HA2,by first | exact HR | exact HR.out.drew 1 | exact HR.out.drew _⟩
       case measure=>simp [intOf];omega
  | false=>
    have hl' : Op.bytesLess (x.nm i).toList (y.nm j).toList = false:=hl
    have nl : ¬ (¬ j < y.nn \/ (i < x.nn /\ lt (x.nm i) (y.nm j) = true)):=fun h=>by
     rcases h with h | h
     ·exact h hj1
     ·rw [hl] at h;cases h.2
    cases hr : lt (y.nm j) (x.nm i) with
    | true=>
      have hr' : Op.bytesLess (y.nm j).toList (x.nm i).toList = true:=hr
      have HSTEP : Hid (mixAll x y (!mt) i j = (if !mt then [] else [(y.nm j,.ty (kid y j))]) ++ mixAll x y (!mt) i (j + 1)):=mixAll_right hc nl (Or.inr hr)
      clear hc hl hr nl NX NY
      cases mt with
      | false=>
        have HA2 : Hid (dn ++ mixAll x y true (i) (j + 1) = mixAll x y true 0 0):=by
         have:=HA.out
         rw [HSTEP.out] at this
         show _ = _
         simpa using this
        clear HSTEP
        go_wp2
        go_quiet (fail)
        go_wp2
        go_quiet (fail)
        go_wp2
        go_roundw
        case rel=>exact ⟨i,j + 1,m,dn,na,nc,ka,kc,ov,D,by go_num,by go_num,by omega,by omega,by omega,HA2,by first | exact HI | exact HI.out.drew _⟩
        case measure=>simp [intOf];omega
      | true=>
        have HA2 : Hid ((dn ++ [(y.nm j,Kq.ty (kid y j))]) ++ mixAll x y false (i) (j + 1) = mixAll x y false 0 0):=by
         have:=HA.out
         rw [HSTEP.out] at this
         show _ = _
         simpa using this
        clear HSTEP
        have HF : Hid (∀ t,Calls Tryz.prog 141 #[.agg #[.int .i64 3,.slice na m nc,.slice ka m kc],.string (y.nm j),.int .i64 (kid y j : Int)] (wr.drewN t) (fun e w2=>CellsV w2 (w.heap.size + 1) y py j /\ FieldP w keep kb mb n x y px py L0 na nc ka kc m (dn ++ [(y.nm j,Kq.ty (kid y j))]) ov D e w2)):=fun t=>by
         refine (rc_field (y.nm j) HI.out (k:=Kq.ty (kid y j)) (HI.out.knD t).1 (HI.out.knD t).2 rfl (by omega)).mono ?_
         rintro e w2 ⟨gg,c1,hh,c2,e1,HR,f0,f1,f2,z0,z1,z2,HZ⟩
         refine ⟨cellsV HZ.out.2.2 (HX0.out w2 HZ.out.1).2.1 (by omega) (by have:=HY.out;omega) (SY.out.kids j (by have:=HY.out;omega)),gg,c1,hh,c2,e1,HR,f0,f1,f2,z0,z1,z2,HZ⟩
        have HN1 : Hid (py.b1 ≠ w.heap.size + 1 + 1 + 1):=HBy1.out (by omega)
        have HN2 : Hid (py.b2 ≠ w.heap.size + 1 + 1 + 1):=HBy2.out (by have:=HY.out;omega)
        go_wp2
        go_quiet (fail)
        go_wp2
        go_quiet (fail)
        go_wp2
        refine wp_region_held_drew (S:=fun w'=>w'.cell? ⟨w.heap.size + 1,1,none⟩ = some (.slice (some ⟨py.b1,py.o1,none⟩) y.nn py.c1) /\ w'.cell? ⟨py.b1,py.o1 + j,none⟩ = some (.string (y.nm j)) /\ w'.cell? ⟨w.heap.size + 1,2,none⟩ = some (.slice (some ⟨py.b2,py.o2,none⟩) y.nk py.c2) /\ w'.cell? ⟨py.b2,py.o2 + j,none⟩ = some (.int .i64 (kid y j : Int))) (by kernel_rfl) ?_ (fun hHeld=>?_)
        ·(try dsimp only);first | go_keep | (exact CellsV.set ⟨s1,s2,s3,s4⟩ (by omega) HN1.out HN2.out)
        refine tkH 1 114 (v:=?_) rfl ?_ ?_
        rotate_left
        ·intro wS hSw;(try dsimp only at hSw);go_simp <;> with_reducible rfl
        try simp only [Act.put,List.setIfInBounds_toArray,List.set_cons_succ,List.set_cons_zero]
        refine tkH 2 115 (v:=?_) rfl ?_ ?_
        rotate_left
        ·intro wS hSw;(try dsimp only at hSw);go_simp <;> with_reducible rfl
        try simp only [Act.put,List.setIfInBounds_toArray,List.set_cons_succ,List.set_cons_zero]
        refine tkH 3 116 (v:=?_) rfl ?_ ?_
        rotate_left
        ·intro wS hSw;(try dsimp only at hSw);go_simp <;> with_reducible rfl
        try simp only [Act.put,List.setIfInBounds_toArray,List.set_cons_succ,List.set_cons_zero]
        refine tkH 4 117 (v:=?_) rfl ?_ ?_
        rotate_left
        ·intro wS hSw;(try dsimp only at hSw);go_simp <;> with_reducible rfl
        try simp only [Act.put,List.setIfInBounds_toArray,List.set_cons_succ,List.set_cons_zero]
        refine tkH 5 118 (v:=?_) rfl ?_ ?_
        rotate_left
        ·intro wS hSw;(try dsimp only at hSw);go_simp <;> with_reducible rfl
        try simp only [Act.put,List.setIfInBounds_toArray,List.set_cons_succ,List.set_cons_zero]
        refine tkH 6 119 (v:=?_) rfl ?_ ?_
        rotate_left
        ·intro wS hSw;(try dsimp only at hSw);go_simp <;> with_reducible rfl
        try simp only [Act.put,List.setIfInBounds_toArray,List.set_cons_succ,List.set_cons_zero]
        refine tkH 7 120 (v:=?_) rfl ?_ ?_
        rotate_left
        ·intro wS hSw;(try dsimp only at hSw);go_simp <;> with_reducible rfl
        try simp only [Act.put,List.setIfInBounds_toArray,List.set_cons_succ,List.set_cons_zero]
        refine tkH 8 121 (v:=?_) rfl ?_ ?_
        rotate_left
        ·intro wS hSw;(try dsimp only at hSw);go_simp <;> with_reducible rfl
        try simp only [Act.put,List.setIfInBounds_toArray,List.set_cons_succ,List.set_cons_zero]
        refine tkH 9 122 (v:=?_) rfl ?_ ?_
        rotate_left
        ·intro wS hSw;(try dsimp only at hSw);go_simp <;> with_reducible rfl
        try simp only [Act.put,List.setIfInBounds_toArray,List.set_cons_succ,List.set_cons_zero]
        refine tkH 10 123 (v:=?_) rfl ?_ ?_
        rotate_left
        ·intro wS hSw;(try dsimp only at hSw);go_simp <;> with_reducible rfl
        try simp only [Act.put,List.setIfInBounds_toArray,List.set_cons_succ,List.set_cons_zero]
        refine wpAnyH_ready (rs:=[0]) (by kernel_rfl) (by simp) ?_
        refine AllReadyH.cons rfl (fun K hK=>?_) AllReadyH.nil
        go_simp
        refine hK.out _ _ ?_ (fun hHeld2=>?_)
        ·(try dsimp only);first | go_keep | (exact CellsV.set ⟨s1,s2,s3,s4⟩ (by omega) HN1.out HN2.out)
        clear hK K hHeld
        have hHeld:=hHeld2
        clear hHeld2
        refine wpAnyH_ready (rs:=[11]) (by kernel_rfl) (by simp) ?_
        refine AllReadyH.cons rfl (fun K hK=>?_) AllReadyH.nil
        go_simp
        go_wp2_with (first | (go_at_call 141;refine (HF.out _).mono ?_;rintro e w2 ⟨⟨s1,s2,s3,s4⟩,gg,c1,hh,c2,rfl,HR,f0,f1,f2,z0,z1,z2,_⟩))
        refine hK.out _ _ ?_ (fun hHeld2=>?_)
        ·(try dsimp only);first | go_keep | (exact CellsV.set ⟨s1,s2,s3,s4⟩ (by omega) HN1.out HN2.out)
        clear hK K hHeld
        have hHeld:=hHeld2
        clear hHeld2
        refine wpAnyH_ready (rs:=[12]) (by kernel_rfl) (by simp) ?_
        refine AllReadyH.cons rfl (fun K hK=>?_) AllReadyH.nil
        go_simp
        refine hK.out _ _ ?_ (fun hHeld2=>?_)
        ·(try dsimp only);first | go_keep | (exact CellsV.set ⟨s1,s2,s3,s4⟩ (by omega) HN1.out HN2.out)
        clear hK K hHeld
        have hHeld:=hHeld2
        clear hHeld2
        refine wpAnyH_done (by kernel_rfl) ?_ _
        all_goals
         clear HF do0 do1 do2 s1 s2 s3 s4
         go_wp2
         go_roundw
         case rel=>exact ⟨i,j + 1,m + 1,_,_,_,_,_,_,_,by go_num,by go_num,by omega,by omega,by omega,HA2,by first | exact HR | exact HR.out.drew 1 | exact HR.out.drew _⟩
         case measure=>simp [intOf];omega
    | false=>
      have hr' : Op.bytesLess (y.nm j).toList (x.nm i).toList = false:=hr
      have HSTEP : Hid (mixAll x y (!mt) i j = (x.nm i,.qn ⟨kid x i,kid y j,!mt⟩) :: mixAll x y (!mt) (i + 1) (j + 1)):=mixAll_both hc nl (fun h=>by rcases h with h | h;exact h hi1;rw [hr] at h;cases h)
      clear hc hl hr nl NX NY
      have HA2 : Hid ((dn ++ [(x.nm i,Kq.qn ⟨kid x i,kid y j,!mt⟩)]) ++ mixAll x y (!mt) (i + 1) (j + 1) = mixAll x y (!mt) 0 0):=by
       have:=HA.out
       rw [HSTEP.out] at this
       show _ = _
       simpa using this
      clear HSTEP
      obtain ⟨L,hL1⟩ : ∃ L,L = addAll L0 (dn.map Prod.snd):=⟨_,rfl⟩
      have hLl : L.length <= 20000000:=by
       rw [hL1]
       have:=addAll_len (dn.map Prod.snd) L0
       rw [List.length_map,HI.out.len] at this
       omega
      have HFQ : Hid (flipQ ⟨kid x i,kid y j,!mt⟩ = (⟨kid x i,kid y j,mt⟩ : Qn)):=by show _ = _;unfold flipQ;simp
      have HSM : Hid (SmQ (⟨kid x i,kid y j,mt⟩ : Qn)):=⟨SMX.out i (by have:=HX.out;omega),SMY.out j (by have:=HY.out;omega)⟩
      have HK : Hid (∀ t,Calls Tryz.prog 127 #[.pointer (some ⟨mxb,0,none⟩),.pointer (some ⟨kb,0,none⟩),.int .i64 (kid x i : Int),.int .i64 (kid y j : Int),.bool mt] (wr.drewN t) fun e w1=>∃ z : Int,e = .returned (.int .i64 z) /\
        CellsV w1 w.heap.size x px i /\ CellsV w1 (w.heap.size + 1) y py j /\ (w1.cell? ⟨w.heap.size + 1 + 1 + 1,0,none⟩ = some (.int .i64 3) /\ w1.cell? ⟨w.heap.size + 1 + 1 + 1,1,none⟩ = some (.slice na m nc) /\ w1.cell? ⟨w.heap.size + 1 + 1 + 1,2,none⟩ = some (.slice ka m kc)) /\
        Hid (∀ W,(W = w1 \/ ∃ t,W = w1.drewN t) -> Calls Tryz.prog 141 #[.agg #[.int .i64 3,.slice na m nc,.slice ka m kc],.string (x.nm i),.int .i64 z] W (fun e w2=>CellsV w2 w.heap.size x px i /\ CellsV w2 (w.heap.size + 1) y py j /\ ∃ ov1 D1,FieldP w keep kb mb n x y px py L0 na nc ka kc m (dn ++ [(x.nm i,Kq.qn ⟨kid x i,kid y j,!mt⟩)]) ov1 D1 e w2))):=fun t=>by
       refine (p_kid mxb kb mb ov D (L.map flipQ) (rkeep keep w.heap.size (.slice na m nc) (.slice ka m kc)) ta n tc ⟨kid x i,kid y j,mt⟩ (wr.drewN t) (by rw [hL1];exact (HI.out.knD t).1) (by have:=(HX0.out wr HI.out.kept).2.2;exact this) (Or.inl hkm) HSM.out (by rw [List.length_map];omega) hn).mono ?_
       rintro e w1 ⟨ov1,D1,rfl,K1,KP⟩
       have kp1 : Kept (rkeep keep w.heap.size (.slice na m nc) (.slice ka m kc)) wr w1:=(HI.out.knD t).2.trans KP
       have hidx : (addM (L.map flipQ) ⟨kid x i,kid y j,mt⟩).idxOf ⟨kid x i,kid y j,mt⟩ = (addQ L (.qn ⟨kid x i,kid y j,!mt⟩)).idxOf ⟨kid x i,kid y j,!mt⟩:=by
        rw [<- HFQ.out,addM_flip,idx_flip]
       have hK1 : KnQ w1 kb mb ov1 D1 ((addQ (addAll L0 (dn.map Prod.snd)) (.qn ⟨kid x i,kid y j,!mt⟩)).map flipQ) (rkeep keep w.heap.size (.slice na m nc) (.slice ka m kc)):=by
        rw [<- hL1,<- addM_flip,HFQ.out];exact K1
       have bb : ∀ j',w.heap.size <= j' -> j' < w.heap.size + 4 -> w1.heap[j']? = wr.heap[j']?:=fun j' h1 h2=>kp1.block j' (Or.inr (Or.inl ⟨h1,h2⟩))
       have bx1:=HI.out.bx.of_block (bb _ (by omega) (by omega))
       have by1:=HI.out.bY.of_block (bb _ (by omega) (by omega))
       have bo1:=HI.out.bo.of_block (bb _ (by omega) (by omega))
       obtain ⟨NX1,NY1,_⟩:=HX0.out w1 (HI.out.kept.trans (kept_r kp1))
       refine ⟨_,rfl,cellsV bx1 NX1 (by omega) (by have:=HX.out;omega) (SX.out.kids i (by have:=HX.out;omega)),cellsV by1 NY1 (by omega) (by have:=HY.out;omega) (SY.out.kids j (by have:=HY.out;omega)),⟨bo1.cell (i:=0) (by omega),bo1.cell (i:=1) (by omega),bo1.cell (i:=2) (by omega)⟩,fun W hW=>?_⟩
       have hWB : Below w1.heap.size w1 W:=by
        rcases hW with rfl | ⟨t2,rfl⟩
        ·exact Below.refl _ _
        ·exact below_drewN' _ _
       have hWK : Kept (rkeep keep w.heap.size (.slice na m nc) (.slice ka m kc)) w1 W:=by
        rcases hW with rfl | ⟨t2,rfl⟩
        ·exact ⟨rfl,rfl,rfl,Nat.le_refl _,fun _ _=>rfl⟩
        ·exact ⟨rfl,rfl,rfl,Nat.le_refl _,fun _ _=>rfl⟩
       refine (rc_field (x.nm i) HI.out (k:=Kq.qn ⟨kid x i,kid y j,!mt⟩) (hK1.below hWB) (kp1.trans hWK) ?_ (by omega)).mono (fun e w2 q=>?_)
       rotate_left
       ·obtain ⟨gg,c1,hh,c2,e1,HR,f0,f1,f2,z0,z1,z2,HZ⟩:=q
        obtain ⟨NX2,NY2,_⟩:=HX0.out w2 HZ.out.1
        exact ⟨cellsV HZ.out.2.1 NX2 (by omega) (by have:=HX.out;omega) (SX.out.kids i (by have:=HX.out;omega)),cellsV HZ.out.2.2 NY2 (by omega) (by have:=HY.out;omega) (SY.out.kids j (by have:=HY.out;omega)),ov1,D1,gg,c1,hh,c2,e1,HR,f0,f1,f2,z0,z1,z2,HZ⟩
       rw [hidx,<- hL1]
       rfl
      clear hL1 hLl HFQ HSM
      have HN1 : Hid (px.b1 ≠ w.heap.size + 1 + 1 + 1):=HBx1.out (by omega)
      have HN2 : Hid (px.b2 ≠ w.heap.size + 1 + 1 + 1):=HBx2.out (by have:=HX.out;omega)
      have HN3 : Hid (py.b1 ≠ w.heap.size + 1 + 1 + 1):=HBy1.out (by omega)
      have HN4 : Hid (py.b2 ≠ w.heap.size + 1 + 1 + 1):=HBy2.out (by have:=HY.out;omega)
      go_wp2
      go_quiet (fail)
      go_wp2
      go_quiet (fail)
      go_wp2
      refine wp_region_held_drew (S:=fun w'=>(w'.cell? ⟨w.heap.size,1,none⟩ = some (.slice (some ⟨px.b1,px.o1,none⟩) x.nn px.c1) /\ w'.cell? ⟨px.b1,px.o1 + i,none⟩ = some (.string (x.nm i)) /\ w'.cell? ⟨w.heap.size,2,none⟩ = some (.slice (some ⟨px.b2,px.o2,none⟩) x.nk px.c2) /\ w'.cell? ⟨px.b2,px.o2 + i,none⟩ = some (.int .i64 (kid x i : Int))) /\ (w'.cell? ⟨w.heap.size + 1,1,none⟩ = some (.slice (some ⟨py.b1,py.o1,none⟩) y.nn py.c1) /\ w'.cell? ⟨py.b1,py.o1 + j,none⟩ = some (.string (y.nm j)) /\ w'.cell? ⟨w.heap.size + 1,2,none⟩ = some (.slice (some ⟨py.b2,py.o2,none⟩) y.nk py.c2) /\ w'.cell? ⟨py.b2,py.o2 + j,none⟩ = some (.int .i64 (kid y j : Int)))) (by kernel_rfl) ?_ (fun hHeld=>?_)
      ·(try dsimp only);first | go_keep | (exact ⟨CellsV.set ⟨r1,r2,r3,r4⟩ (by omega) HN1.out HN2.out,CellsV.set ⟨r5,r6,r7,r8⟩ (by omega) HN3.out HN4.out⟩)
      refine tkH 1 28 (v:=?_) rfl ?_ ?_
      rotate_left
      ·intro wS hSw;(try dsimp only at hSw);go_simp <;> with_reducible rfl
      try simp only [Act.put,List.setIfInBounds_toArray,List.set_cons_succ,List.set_cons_zero]
      refine tkH 2 29 (v:=?_) rfl ?_ ?_
      rotate_left
      ·intro wS hSw;(try dsimp only at hSw);go_simp <;> with_reducible rfl
      try simp only [Act.put,List.setIfInBounds_toArray,List.set_cons_succ,List.set_cons_zero]
      refine tkH 3 30 (v:=?_) rfl ?_ ?_
      rotate_left
      ·intro wS hSw;(try dsimp only at hSw);go_simp <;> with_reducible rfl
      try simp only [Act.put,List.setIfInBounds_toArray,List.set_cons_succ,List.set_cons_zero]
      refine tkH 4 31 (v:=?_) rfl ?_ ?_
      rotate_left
      ·intro wS hSw;(try dsimp only at hSw);go_simp <;> with_reducible rfl
      try simp only [Act.put,List.setIfInBounds_toArray,List.set_cons_succ,List.set_cons_zero]
      refine tkH 5 32 (v:=?_) rfl ?_ ?_
      rotate_left
      ·intro wS hSw;(try dsimp only at hSw);go_simp <;> with_reducible rfl
      try simp only [Act.put,List.setIfInBounds_toArray,List.set_cons_succ,List.set_cons_zero]
      refine tkH 6 33 (v:=?_) rfl ?_ ?_
      rotate_left
      ·intro wS hSw;(try dsimp only at hSw);go_simp <;> with_reducible rfl
      try simp only [Act.put,List.setIfInBounds_toArray,List.set_cons_succ,List.set_cons_zero]
      refine tkH 7 34 (v:=?_) rfl ?_ ?_
      rotate_left
      ·intro wS hSw;(try dsimp only at hSw);go_simp <;> with_reducible rfl
      try simp only [Act.put,List.setIfInBounds_toArray,List.set_cons_succ,List.set_cons_zero]
      refine tkH 8 35 (v:=?_) rfl ?_ ?_
      rotate_left
      ·intro wS hSw;(try dsimp only at hSw);go_simp <;> with_reducible rfl
      try simp only [Act.put,List.setIfInBounds_toArray,List.set_cons_succ,List.set_cons_zero]
      refine tkH 9 36 (v:=?_) rfl ?_ ?_
      rotate_left
      ·intro wS hSw;(try dsimp only at hSw);go_simp <;> with_reducible rfl
      try simp only [Act.put,List.setIfInBounds_toArray,List.set_cons_succ,List.set_cons_zero]
      refine tkH 10 37 (v:=?_) rfl ?_ ?_
      rotate_left
      ·intro wS hSw;(try dsimp only at hSw);go_simp <;> with_reducible rfl
      try simp only [Act.put,List.setIfInBounds_toArray,List.set_cons_succ,List.set_cons_zero]
      refine tkH 11 38 (v:=?_) rfl ?_ ?_
      rotate_left
      ·intro wS hSw;(try dsimp only at hSw);go_simp <;> with_reducible rfl
      try simp only [Act.put,List.setIfInBounds_toArray,List.set_cons_succ,List.set_cons_zero]
      refine tkH 12 39 (v:=?_) rfl ?_ ?_
      rotate_left
      ·intro wS hSw;(try dsimp only at hSw);go_simp <;> with_reducible rfl
      try simp only [Act.put,List.setIfInBounds_toArray,List.set_cons_succ,List.set_cons_zero]
      refine tkH 13 40 (v:=?_) rfl ?_ ?_
      rotate_left
      ·intro wS hSw;(try dsimp only at hSw);go_simp <;> with_reducible rfl
      try simp only [Act.put,List.setIfInBounds_toArray,List.set_cons_succ,List.set_cons_zero]
      refine tkH 14 41 (v:=?_) rfl ?_ ?_
      rotate_left
      ·intro wS hSw;(try dsimp only at hSw);go_simp <;> with_reducible rfl
      try simp only [Act.put,List.setIfInBounds_toArray,List.set_cons_succ,List.set_cons_zero]
      refine tkH 15 42 (v:=?_) rfl ?_ ?_
      rotate_left
      ·intro wS hSw;(try dsimp only at hSw);go_simp <;> with_reducible rfl
      try simp only [Act.put,List.setIfInBounds_toArray,List.set_cons_succ,List.set_cons_zero]
      refine tkH 16 43 (v:=?_) rfl ?_ ?_
      rotate_left
      ·intro wS hSw;(try dsimp only at hSw);go_simp <;> with_reducible rfl
      try simp only [Act.put,List.setIfInBounds_toArray,List.set_cons_succ,List.set_cons_zero]
      refine tkH 17 44 (v:=?_) rfl ?_ ?_
      rotate_left
      ·intro wS hSw;(try dsimp only at hSw);go_simp <;> with_reducible rfl
      try simp only [Act.put,List.setIfInBounds_toArray,List.set_cons_succ,List.set_cons_zero]
      refine tkH 18 45 (v:=?_) rfl ?_ ?_
      rotate_left
      ·intro wS hSw;(try dsimp only at hSw);go_simp <;> with_reducible rfl
      try simp only [Act.put,List.setIfInBounds_toArray,List.set_cons_succ,List.set_cons_zero]
      refine wpAnyH_ready (rs:=[0,19]) (by kernel_rfl) (by simp) ?_
      refine AllReadyH.cons rfl (fun K hK=>?_) (AllReadyH.cons rfl (fun K hK=>?_) AllReadyH.nil)
      ·go_simp
       refine hK.out _ _ ?_ (fun hHeld2=>?_)
       ·(try dsimp only);first | go_keep | (exact ⟨CellsV.set ⟨r1,r2,r3,r4⟩ (by omega) HN1.out HN2.out,CellsV.set ⟨r5,r6,r7,r8⟩ (by omega) HN3.out HN4.out⟩)
       clear hK K hHeld
       have hHeld:=hHeld2
       clear hHeld2
       refine wpAnyH_ready (rs:=[19]) (by kernel_rfl) (by simp) ?_
       refine AllReadyH.cons rfl (fun K hK=>?_) AllReadyH.nil
       go_simp
       go_wp2_with (first | (go_at_call 127;refine (HK.out _).mono ?_;rintro e w1 ⟨z,rfl,⟨q1,q2,q3,q4⟩,⟨q5,q6,q7,q8⟩,⟨s3,s4,s5⟩,HFF⟩))
       refine hK.out _ _ ?_ (fun hHeld2=>?_)
       ·(try dsimp only);first | go_keep | (exact ⟨CellsV.set ⟨r1,r2,r3,r4⟩ (by omega) HN1.out HN2.out,CellsV.set ⟨r5,r6,r7,r8⟩ (by omega) HN3.out HN4.out⟩)
       clear hK K hHeld
       have hHeld:=hHeld2
       clear hHeld2
       refine wpAnyH_ready (rs:=[20]) (by kernel_rfl) (by simp) ?_
       refine AllReadyH.cons rfl (fun K hK=>?_) AllReadyH.nil
       go_simp
       go_wp2_with (first | (go_at_call 141;(first | (refine (HFF.out w1 (Or.inl rfl)).mono ?_) | (refine (HFF.out (w1.drewN 1) (Or.inr ⟨1,rfl⟩)).mono ?_) | (refine (HFF.out _ (Or.inr ⟨_,rfl⟩)).mono ?_));rintro e w2 ⟨⟨r1,r2,r3,r4⟩,⟨r5,r6,r7,r8⟩,ov1,D1,gg,c1,hh,c2,rfl,HR,f0,f1,f2,z0,z1,z2,_⟩))
       refine hK.out _ _ ?_ (fun hHeld2=>?_)
       ·(try dsimp only);first | go_keep | (exact ⟨CellsV.set ⟨r1,r2,r3,r4⟩ (by omega) HN1.out HN2.out,CellsV.set ⟨r5,r6,r7,r8⟩ (by omega) HN3.out HN4.out⟩)
       clear hK K hHeld
       have hHeld:=hHeld2
       clear hHeld2
       refine wpAnyH_ready (rs:=[21]) (by kernel_rfl) (by simp) ?_
       refine AllReadyH.cons rfl (fun K hK=>?_) AllReadyH.nil
       go_simp
       refine hK.out _ _ ?_ (fun hHeld2=>?_)
       ·(try dsimp only);first | go_keep | (exact ⟨CellsV.set ⟨r1,r2,r3,r4⟩ (by omega) HN1.out HN2.out,CellsV.set ⟨r5,r6,r7,r8⟩ (by omega) HN3.out HN4.out⟩)
       clear hK K hHeld
       have hHeld:=hHeld2
       clear hHeld2
       refine wpAnyH_done (by kernel_rfl) ?_ _
       clear HK HFF do0 do1 do2 s3 s4 s5 q1 q2 q3 q4 q5 q6 q7 q8 r1 r2 r3 r4 r5 r6 r7 r8
       go_wp2
       go_roundw
       case rel=>exact ⟨i + 1,j + 1,m + 1,_,_,_,_,_,_,_,by go_num,by go_num,by omega,by omega,by omega,HA2,by first | exact HR | exact HR.out.drew 1 | exact HR.out.drew _⟩
       case measure=>simp [intOf];omega
      ·go_simp
       go_wp2_with (first | (go_at_call 127;refine (HK.out _).mono ?_;rintro e w1 ⟨z,rfl,⟨q1,q2,q3,q4⟩,⟨q5,q6,q7,q8⟩,⟨s3,s4,s5⟩,HFF⟩))
       refine hK.out _ _ ?_ (fun hHeld2=>?_)
       ·(try dsimp only);first | go_keep | (exact ⟨CellsV.set ⟨r1,r2,r3,r4⟩ (by omega) HN1.out HN2.out,CellsV.set ⟨r5,r6,r7,r8⟩ (by omega) HN3.out HN4.out⟩)
       clear hK K hHeld
       have hHeld:=hHeld2
       clear hHeld2
       refine wpAnyH_ready (rs:=[0]) (by kernel_rfl) (by simp) ?_
       refine AllReadyH.cons rfl (fun K hK=>?_) AllReadyH.nil
       go_simp
       refine hK.out _ _ ?_ (fun hHeld2=>?_)
       ·(try dsimp only);first | go_keep | (exact ⟨CellsV.set ⟨r1,r2,r3,r4⟩ (by omega) HN1.out HN2.out,CellsV.set ⟨r5,r6,r7,r8⟩ (by omega) HN3.out HN4.out⟩)
       clear hK K hHeld
       have hHeld:=hHeld2
       clear hHeld2
       refine wpAnyH_ready (rs:=[20]) (by kernel_rfl) (by simp) ?_
       refine AllReadyH.cons rfl (fun K hK=>?_) AllReadyH.nil
       go_simp
       go_wp2_with (first | (go_at_call 141;(first | (refine (HFF.out w1 (Or.inl rfl)).mono ?_) | (refine (HFF.out (w1.drewN 1) (Or.inr ⟨1,rfl⟩)).mono ?_) | (refine (HFF.out _ (Or.inr ⟨_,rfl⟩)).mono ?_));rintro e w2 ⟨⟨r1,r2,r3,r4⟩,⟨r5,r6,r7,r8⟩,ov1,D1,gg,c1,hh,c2,rfl,HR,f0,f1,f2,z0,z1,z2,_⟩))
       refine hK.out _ _ ?_ (fun hHeld2=>?_)
       ·(try dsimp only);first | go_keep | (exact ⟨CellsV.set ⟨r1,r2,r3,r4⟩ (by omega) HN1.out HN2.out,CellsV.set ⟨r5,r6,r7,r8⟩ (by omega) HN3.out HN4.out⟩)
       clear hK K hHeld
       have hHeld:=hHeld2
       clear hHeld2
       refine wpAnyH_ready (rs:=[21]) (by kernel_rfl) (by simp) ?_
       refine AllReadyH.cons rfl (fun K hK=>?_) AllReadyH.nil
       go_simp
       refine hK.out _ _ ?_ (fun hHeld2=>?_)
       ·(try dsimp only);first | go_keep | (exact ⟨CellsV.set ⟨r1,r2,r3,r4⟩ (by omega) HN1.out HN2.out,CellsV.set ⟨r5,r6,r7,r8⟩ (by omega) HN3.out HN4.out⟩)
       clear hK K hHeld
       have hHeld:=hHeld2
       clear hHeld2
       refine wpAnyH_done (by kernel_rfl) ?_ _
       clear HK HFF do0 do1 do2 s3 s4 s5 q1 q2 q3 q4 q5 q6 q7 q8 r1 r2 r3 r4 r5 r6 r7 r8
       go_wp2
       go_roundw
       case rel=>exact ⟨i + 1,j + 1,m + 1,_,_,_,_,_,_,_,by go_num,by go_num,by omega,by omega,by omega,HA2,by first | exact HR | exact HR.out.drew 1 | exact HR.out.drew _⟩
       case measure=>simp [intOf];omega
end Go.Proofs.YtpbpbppimkeodaaGreatDoor
