/-
  MA Known KnownInt
-/
import Derived.Test.YtpbpbppimkeodaaGreatDoorSa
import Derived.WalkKit
import Derived.WalkSmall
import Derived.Deep.OwnRows
import Derived.Deep.Draws
import Derived.Test.YtpbpbppimkeodaaGreatDoorProg
import Derived.WalkSpells
import Derived.WalkLawsBesides
import Derived.Deep.QuietTactic
import Derived.BigQuiet
import Derived.Deep.RegionWith
import Derived.Deep.LoopGhost
import Derived.Maps.OwnSet
import Derived.DeepKeys4
import Derived.MapViews
import Derived.ProofKit
import Derived.Deep.RegionHeld3
import Derived.Deep.AppendLies
import Derived.Deep.RegionLaw
set_option maxRecDepth 100000
namespace Go.Proofs.YtpbpbppimkeodaaGreatDoor
open Go.RowKit
structure StrsAt (w : World) (ao : Option Addr) (b o n : Nat) (S : Nat -> ByteArray) : Prop where
 at_ : 0 < n -> ao = some ⟨b,o,none⟩
 cell : ∀ i,i < n -> w.cell? ⟨b,o + i,none⟩ = some (.string (S i))
 size : ∀ i,i < n -> (S i).size <= 9223372036854775807
 len : n <= 9223372036854775807
structure IntsAt (w : World) (ao : Option Addr) (b o n : Nat) (D : Nat -> Int) : Prop where
 at_ : 0 < n -> ao = some ⟨b,o,none⟩
 cell : ∀ i,i < n -> w.cell? ⟨b,o + i,none⟩ = some (.int .i64 (D i))
 len : n <= 9223372036854775807
structure NP where
 a1 : Option Addr
 b1 : Nat
 o1 : Nat
 c1 : Nat
 a2 : Option Addr
 b2 : Nat
 o2 : Nat
 c2 : Nat
structure NodeAt (w : World) (p : NP) (d : ND) : Prop where
 names : StrsAt w p.a1 p.b1 p.o1 d.nn d.nm
 kids : IntsAt w p.a2 p.b2 p.o2 d.nk d.kd
abbrev ndv (p : NP) (d : ND) : Value:=.agg #[.int .i64 d.kind,.slice p.a1 d.nn p.c1,.slice p.a2 d.nk p.c2]
structure NodesAt (w : World) (ao : Option Addr) (b o n : Nat) (p : Nat -> NP) (G : Nat -> ND) : Prop where
 at_ : 0 < n -> ao = some ⟨b,o,none⟩
 c0 : ∀ i,i < n -> w.cell? ⟨b,o + i * 3,none⟩ = some (.int .i64 (G i).kind)
 c1 : ∀ i,i < n -> w.cell? ⟨b,o + i * 3 + 1,none⟩ = some (.slice (p i).a1 (G i).nn (p i).c1)
 c2 : ∀ i,i < n -> w.cell? ⟨b,o + i * 3 + 2,none⟩ = some (.slice (p i).a2 (G i).nk (p i).c2)
 node : ∀ i,i < n -> NodeAt w (p i) (G i)
 len : n <= 9223372036854775807
theorem StrsAt.below {w w' : World} {ao : Option Addr} {b o n : Nat} {S : Nat -> ByteArray} (h : StrsAt w ao b o n S) (hb : Below w.heap.size w w') : StrsAt w' ao b o n S:=
 ⟨h.at_,fun i hi=>by rw [hb.cell (p:=⟨b,o + i,none⟩) (blt (h.cell i hi))];exact h.cell i hi,h.size,h.len⟩
theorem IntsAt.below {w w' : World} {ao : Option Addr} {b o n : Nat} {D : Nat -> Int} (h : IntsAt w ao b o n D) (hb : Below w.heap.size w w') : IntsAt w' ao b o n D:=
 ⟨h.at_,fun i hi=>by rw [hb.cell (p:=⟨b,o + i,none⟩) (blt (h.cell i hi))];exact h.cell i hi,h.len⟩
theorem NodeAt.below {w w' : World} {p : NP} {d : ND} (h : NodeAt w p d) (hb : Below w.heap.size w w') : NodeAt w' p d:=⟨h.names.below hb,h.kids.below hb⟩
theorem NodesAt.below {w w' : World} {ao : Option Addr} {b o n : Nat} {p : Nat -> NP} {G : Nat -> ND} (h : NodesAt w ao b o n p G) (hb : Below w.heap.size w w') : NodesAt w' ao b o n p G:=
 ⟨h.at_,fun i hi=>by rw [hb.cell (p:=⟨b,o + i * 3,none⟩) (blt (h.c0 i hi))];exact h.c0 i hi,
  fun i hi=>by rw [hb.cell (p:=⟨b,o + i * 3 + 1,none⟩) (blt (h.c1 i hi))];exact h.c1 i hi,
  fun i hi=>by rw [hb.cell (p:=⟨b,o + i * 3 + 2,none⟩) (blt (h.c2 i hi))];exact h.c2 i hi,
  fun i hi=>(h.node i hi).below hb,h.len⟩
theorem below_drewN' (w : World) (n : Nat) : Below w.heap.size w (w.drewN n):=⟨rfl,rfl,rfl,Nat.le_refl _,fun _ _=>rfl⟩
def Wr (w : World) (b : Nat) : Prop:=∃ c t,w.heap[b]? = some (.cells c t (0,0))
theorem Wr.of {w w' : World} {b : Nat} (h : Wr w b) (e : w'.heap[b]? = w.heap[b]?) : Wr w' b:=by
 obtain ⟨c,t,h⟩:=h
 exact ⟨c,t,e.trans h⟩
theorem Wr.lt {w : World} {b : Nat} (h : Wr w b) : b < w.heap.size:=by
 obtain ⟨c,t,h⟩:=h
 exact (Array.getElem?_eq_some_iff.1 h).1
theorem Wr.below {w w' : World} {b : Nat} (h : Wr w b) (hb : Below w.heap.size w w') : Wr w' b:=h.of (hb.block b h.lt)
theorem Wr.set {w : World} {b : Nat} (h : Wr w b) {a : Addr} (ha : b ≠ a.block) (v : Value) : Wr (w.setCell a v) b:=h.of (Below.heap_setCell _ _ _ _ ha)
def SepIJ (q : Nat -> NP) (G : Nat -> ND) (i j : Nat) : Prop:=
 (i ≠ j -> 0 < (G i).nn -> 0 < (G j).nn -> (q i).b1 ≠ (q j).b1) /\ (i ≠ j -> 0 < (G i).nk -> 0 < (G j).nk -> (q i).b2 ≠ (q j).b2) /\ (0 < (G i).nn -> 0 < (G j).nk -> (q i).b1 ≠ (q j).b2)
structure OwnG (w : World) (n b : Nat) (p : Nat -> NP) (G : Nat -> ND) : Prop where
 row : 0 < n -> Wr w b
 node : ∀ i,i < n -> (0 < (G i).nn -> Wr w (p i).b1 /\ (p i).b1 ≠ b) /\ (0 < (G i).nk -> Wr w (p i).b2 /\ (p i).b2 ≠ b)
 sep : ∀ i j,i < n -> j < n -> SepIJ p G i j
structure OwnL (w : World) (n R b lb : Nat) (p : Nat -> NP) (G : Nat -> ND) : Prop where
 list : 0 < R -> Wr w lb
 row : 0 < R -> 0 < n -> lb ≠ b
 node : 0 < R -> ∀ i,i < n -> (0 < (G i).nn -> (p i).b1 ≠ lb) /\ (0 < (G i).nk -> (p i).b2 ≠ lb)
theorem OwnG.of {w w' : World} {n b : Nat} {p : Nat -> NP} {G : Nat -> ND} (h : OwnG w n b p G) (hr : 0 < n -> w'.heap[b]? = w.heap[b]?) (hn : ∀ i,i < n -> (0 < (G i).nn -> w'.heap[(p i).b1]? = w.heap[(p i).b1]?) /\ (0 < (G i).nk -> w'.heap[(p i).b2]? = w.heap[(p i).b2]?)) : OwnG w' n b p G:=
 ⟨fun z=>(h.row z).of (hr z),fun i hi=>⟨fun z=>⟨((h.node i hi).1 z).1.of ((hn i hi).1 z),((h.node i hi).1 z).2⟩,fun z=>⟨((h.node i hi).2 z).1.of ((hn i hi).2 z),((h.node i hi).2 z).2⟩⟩,h.sep⟩
theorem OwnG.below {w w' : World} {n b : Nat} {p : Nat -> NP} {G : Nat -> ND} (h : OwnG w n b p G) (hb : Below w.heap.size w w') : OwnG w' n b p G:=
 h.of (fun z=>hb.block b (h.row z).lt) (fun i hi=>⟨fun z=>hb.block _ ((h.node i hi).1 z).1.lt,fun z=>hb.block _ ((h.node i hi).2 z).1.lt⟩)
theorem OwnL.of {w w' : World} {n R b lb : Nat} {p : Nat -> NP} {G : Nat -> ND} (h : OwnL w n R b lb p G) (hr : 0 < R -> w'.heap[lb]? = w.heap[lb]?) : OwnL w' n R b lb p G:=
 ⟨fun z=>(h.list z).of (hr z),h.row,h.node⟩
structure FreshG (base n R b' lb : Nat) (p' : Nat -> NP) (G : Nat -> ND) : Prop where
 row : base <= b'
 node : ∀ i,i < n -> (0 < (G i).nn -> base <= (p' i).b1) /\ (0 < (G i).nk -> base <= (p' i).b2)
 list : 0 < R -> base <= lb
theorem bel1 (w : World) (o1 : Obj) : Below w.heap.size w (w.alloc o1):=(Below.refl _ _).alloc (Nat.le_refl _) _
theorem bel2 (w : World) (o1 o2 : Obj) : Below w.heap.size w ((w.alloc o1).alloc o2):=(bel1 w o1).alloc (by simp) _
theorem Tryz.info3 : (Tryz.prog.info? 3).map (fun i=>(i.zero,i.size,i.bytes)) = some (some (.int .i64 0),1,8):=by kernel_rfl
theorem Tryz.info9 : (Tryz.prog.info? 9).map (fun i=>(i.zero,i.size,i.bytes)) = some (some (.string ByteArray.empty),1,16):=by kernel_rfl
structure Fill (w wr : World) (t : TypeId) (n k : Nat) (f : Nat -> Value) (z : Value) : Prop where
 below : Below w.heap.size w wr
 row : wr.rowIs w.heap.size t n (fun i=>if i < k then f i else z)
theorem fill_start (w : World) (t : TypeId) (n : Nat) (f : Nat -> Value) (z : Value) : Fill w (w.alloc (.cells (madeCells #[z] n) t)) t n 0 f z:=
 ⟨bel1 w _,(World.rowIs_made w z n t).congr (fun i _=>by simp)⟩
theorem fill_step {w wr : World} {t : TypeId} {n k : Nat} {f : Nat -> Value} {z : Value} (h : Fill w wr t n k f z) : Fill w (wr.setCell ⟨w.heap.size,k,none⟩ (f k)) t n (k + 1) f z:=
 ⟨h.below.setCell (Nat.le_refl _) _,(h.row.set k _).congr (fun i _=>by
  by_cases e : i = k
  ·subst e;simp
  ·rw [if_neg e]
   by_cases hlt : i < k
   ·rw [if_pos hlt,if_pos (by omega)]
   ·rw [if_neg hlt,if_neg (by omega)])⟩
theorem bel3 (w : World) (o1 o2 o3 : Obj) : Below w.heap.size w (((w.alloc o1).alloc o2).alloc o3):=(bel2 w o1 o2).alloc (by simp;omega) _
def v3 (a b c : Value) : Nat -> Value:=fun i=>if i = 0 then a else if i = 1 then b else c
theorem row3 (w : World) (a b c : Value) (t : TypeId) : (w.alloc (.cells #[a,b,c] t)).rowIs w.heap.size t 3 (v3 a b c):=
 World.rowIs_alloc w #[a,b,c] t _ (fun i hi=>by
  match i,hi with
  | 0,_=>rfl
  | 1,_=>rfl
  | 2,_=>rfl)
theorem Tryz.info48 : (Tryz.prog.info? 48).map (fun i=>(i.zero,i.size,i.bytes)) = some (some (.agg #[.int .i64 0,.slice none 0 0,.slice none 0 0]),3,56):=by kernel_rfl
theorem row1 (w : World) (a : Value) (t : TypeId) : (w.alloc (.cells #[a] t)).rowIs w.heap.size t 1 (fun _=>a):=
 World.rowIs_alloc w #[a] t _ (fun i hi=>by
  match i,hi with
  | 0,_=>rfl)
end Go.Proofs.YtpbpbppimkeodaaGreatDoor
namespace Go.Proofs.YtpbpbppimkeodaaGreatDoor
open Go.RowKit Go.Maps
theorem Tryz.laidOut' : laidOutB Tryz.prog = true:=by kernel_rfl
theorem Tryz.row45 : (69 : TypeId) < Tryz.prog.types.size:=of_decide_eq_true (by kernel_rfl)
theorem Tryz.cells69 : Tryz.prog.cellsOf 69 = 2:=by kernel_rfl
theorem Tryz.deep45 : Tryz.prog.keyTypeAt (Tryz.prog.types.size + 1) 69 = true:=by kernel_rfl
theorem Tryz.wide45 : (match Tryz.prog.underlying 69 with | some (.array _ _) | some (.struct _)=>true | _=>false) = true:=by rw [Tryz.underlying69]
theorem Tryz.law45 : Keyed Tryz.prog 69:=Keyed.of_law (deep_law_laid Tryz.laidOut' (m:=2) (by omega) Tryz.row45 (by kernel_rfl) Tryz.wide45)
theorem Tryz.formed45 {c0 c1 : Value} : (Value.agg #[c0,c1]).formed Tryz.prog 69 = true:=by simp [Value.formed,Tryz.underlying69,Tryz.cells69]
theorem Tryz.zero3 (w : World) : (zeroValue 3).run Tryz.prog w = .ok (.int .i64 0) w:=by kernel_rfl
theorem Tryz.cells3' : Tryz.prog.cellsOf 3 = 1:=by kernel_rfl
theorem Tryz.info69 : (Tryz.prog.info? 69).map (fun i=>(i.zero,i.size,i.bytes)) = some (some (.agg #[.int .i64 0,.int .i64 0]),2,16):=by kernel_rfl
def kl (a b : Nat) : Lit:=(DataW.agg [.lit (.int .i64 (a : Int)),.lit (.int .i64 (b : Int))] : DataW Unit).asKey
theorem key_of {a b : Nat} (ha : a < 4611686018427387904) (hb : b < 4611686018427387904) : keyOf Tryz.prog 69 (.agg #[.int .i64 (a : Int),.int .i64 (b : Int)]) = some (kl a b):=by
 have wa : (Lit.int .i64 (a : Int)).wf = true:=WalkArith.wf_i64 (by omega)
 have wb : (Lit.int .i64 (b : Int)).wf = true:=WalkArith.wf_i64 (by omega)
 have ht : DataW.Trod (H:=Unit) (fun _=>()) Tryz.prog default 0 (fun _=>true) true 69 (.agg #[.int .i64 (a : Int),.int .i64 (b : Int)]) (.agg [.lit (.int .i64 (a : Int)),.lit (.int .i64 (b : Int))]) []:=by
  refine ⟨2,?_⟩
  simp [DataW.trod,Tryz.underlying69,Tryz.underlying3,Tryz.cells69,Tryz.cells3',Value.cells,wa,wb]
 exact (keyOf_asKey Tryz.deep45 Tryz.wide45 Tryz.formed45 ht).1
structure Kept (keep : Nat -> Prop) (w w' : World) : Prop where
 os : w'.os = w.os
 tape : w'.tape = w.tape
 output : w'.output = w.output
 size : w.heap.size <= w'.heap.size
 block : ∀ k,keep k -> w'.heap[k]? = w.heap[k]?
theorem Kept.refl (keep : Nat -> Prop) (w : World) : Kept keep w w:=⟨rfl,rfl,rfl,Nat.le_refl _,fun _ _=>rfl⟩
theorem Kept.trans {keep : Nat -> Prop} {a b c : World} (h : Kept keep a b) (k : Kept keep b c) : Kept keep a c:=
 ⟨k.os.trans h.os,k.tape.trans h.tape,k.output.trans h.output,Nat.le_trans h.size k.size,fun i hi=>(k.block i hi).trans (h.block i hi)⟩
theorem Kept.drewN {keep : Nat -> Prop} {a b : World} (h : Kept keep a b) (n : Nat) : Kept keep a (b.drewN n):=⟨h.os,h.tape,h.output,h.size,h.block⟩
theorem Kept.cell {keep : Nat -> Prop} {w w' : World} (h : Kept keep w w') {a : Addr} (ha : keep a.block) : w'.cell? a = w.cell? a:=World.cell?_of_block (w:=w) (h.block a.block ha)
def pcells (ord : List (Nat × Nat)) : List Value:=ord.flatMap fun q=>[.int .i64 (q.1 : Int),.int .i64 (q.2 : Int)]
def v2 (a b : Value) : Nat -> Value:=fun i=>if i = 0 then a else b
structure Kn (w : World) (kb mb : Nat) (ov : Value) (D : DataW Unit) (ord : List (Nat × Nat)) (keep : Nat -> Prop) : Prop where
 row : w.rowIs kb 99 2 (v2 (.map (some mb)) ov)
 mlt : mb < kb
 map : w.ownsMap Tryz.prog 69 (plainElem Tryz.prog 3) mb ord.length D
 has : ∀ a b,a < 4611686018427387904 -> b < 4611686018427387904 -> Maps.has D (kl a b) = ord.contains (a,b)
 own : w.ownsRow (kb + 1) 69 2 ov ord.length (pcells ord)
 far : ∀ k,keep k -> k < w.heap.size /\ k ≠ kb /\ k ≠ mb /\ some k ≠ ov.ownBlock
theorem row2 (w : World) (a b : Value) (t : TypeId) : (w.alloc (.cells #[a,b] t)).rowIs w.heap.size t 2 (v2 a b):=
 World.rowIs_alloc w #[a,b] t _ (fun i hi=>by
  match i,hi with
  | 0,_=>rfl
  | 1,_=>rfl)
set_option maxHeartbeats 1000000 in
theorem c45 (w : World) (keep : Nat -> Prop) (hk : ∀ k,keep k -> k < w.heap.size) :
  Calls Tryz.prog 70 #[] w fun e w'=>e = .returned (.pointer (some ⟨w.heap.size + 1,0,none⟩)) /\ Kn w' (w.heap.size + 1) w.heap.size (.slice none 0 0) (.map []) [] keep /\ Kept keep w w':=by
 have hmm:=@run_makeMap Tryz.prog
 go_enter Tryz.func70,Tryz.ntmps70
 go_wp2
 go_ret
 have R:=row2 (w.alloc (.map #[] 0)) (.map (some w.heap.size)) (.slice none 0 0) 99
 simp only [World.size_alloc] at R
 refine ⟨rfl,⟨R,by omega,(World.ownsMap_made w Tryz.prog 69 (plainElem Tryz.prog 3)).alloc _,fun a b _ _=>rfl,World.ownsRow_nil _ _ _ _,fun k h=>?_⟩,?_⟩
 ·have:=hk k h
  exact ⟨by simp;omega,by omega,by omega,by simp [Value.ownBlock]⟩
 ·have:=bel2 w (.map #[] 0) (.cells #[.map (some w.heap.size),.slice none 0 0] 99)
  exact ⟨this.os,this.tape,this.output,this.size,fun k h=>this.block k (hk k h)⟩
theorem look_all {w : World} {mb n : Nat} {D : DataW Unit} {a b : Nat} (h : w.ownsMap Tryz.prog 69 (plainElem Tryz.prog 3) mb n D) (ha : a < 4611686018427387904) (hb : b < 4611686018427387904) :
  ∃ v : Int,∀ m,(Instr.lookup 96 (.map (some mb)) (.agg #[.int .i64 (a : Int),.int .i64 (b : Int)]) true).run Tryz.prog (w.drewN m) = .ok (.tuple #[.int .i64 v,.bool (Maps.has D (kl a b))]) (w.drewN m):=by
 have hz : plainElem (H:=Unit) Tryz.prog 3 (.int .i64 0) = some (.lit (.int .i64 0),[]):=plainElem_int Tryz.underlying3 (by decide)
 have each : ∀ m,∃ v : Int,(Instr.lookup 96 (.map (some mb)) (.agg #[.int .i64 (a : Int),.int .i64 (b : Int)]) true).run Tryz.prog (w.drewN m) = .ok (.tuple #[.int .i64 v,.bool (Maps.has D (kl a b))]) (w.drewN m) /\ D.atKey (kl a b) (.lit (.int .i64 0)) = .lit (.int .i64 v):=fun m=>by
  have h' : (w.drewN m).ownsMap Tryz.prog 69 (plainElem Tryz.prog 3) mb n D:=h
  obtain ⟨v,ps,hrun,hR⟩:=h'.look_ok Tryz.law45 Tryz.underlying96 (Tryz.zero3 _) hz (key_of ha hb)
  obtain ⟨x,rfl,hx,_⟩:=plainElem_int_inv Tryz.underlying3 hR
  simp only [Prod.mk.injEq] at hx
  exact ⟨x,hrun,hx.1⟩
 obtain ⟨v,_,hv⟩:=each 0
 refine ⟨v,fun m=>?_⟩
 obtain ⟨v',hrun,hv'⟩:=each m
 rw [hv] at hv'
 simp only [DataW.lit.injEq,Lit.int.injEq,true_and] at hv'
 rw [hv'];exact hrun
theorem own_form {w : World} {base : Nat} {e : TypeId} {size : Nat} {v : Value} {n : Nat} {xs : List Value} (h : w.ownsRow base e size v n xs) : ∃ oa cap,v = .slice oa n cap:=by
 rcases h.2 with ⟨rfl,rfl⟩ | ⟨g,cap,_,rfl,_⟩
 ·exact ⟨none,0,rfl⟩
 ·exact ⟨_,cap,rfl⟩
theorem own_kept {w w' : World} {base : Nat} {e : TypeId} {size : Nat} {v : Value} {n : Nat} {xs : List Value} {row : Option Nat} (h : w.ownsRow base e size v n xs) (hg : w.grownBy w' row) (hne : ∀ k,row = some k -> k < base) : w'.ownsRow base e size v n xs:=by
 obtain ⟨h1,h2⟩:=h
 refine ⟨h1,?_⟩
 rcases h2 with h2 | ⟨g,cap,cur,hv,hb,hh,r⟩
 ·exact Or.inl h2
 ·obtain ⟨hlt,_⟩:=Array.getElem?_eq_some_iff.1 hh
  exact Or.inr ⟨g,cap,cur,hv,hb,(hg.block g hlt (fun e=>by have:=hne g e.symm;omega)).trans hh,r⟩
theorem kl_inj {a b x y : Nat} (ha : a < 4611686018427387904) (hb : b < 4611686018427387904) (hx : x < 4611686018427387904) (hy : y < 4611686018427387904) (e : kl x y = kl a b) : x = a /\ y = b:=by
 have h:=Tryz.law45.inj (key_of hx hy) (by rw [e];exact key_of ha hb)
 simp at h
 omega
theorem pcells_snoc (ord : List (Nat × Nat)) (a b : Nat) : pcells (ord ++ [(a,b)]) = pcells ord ++ [.int .i64 (a : Int),.int .i64 (b : Int)]:=by simp [pcells]
theorem kn_step {w w1 w2 w3 : World} {kb mb : Nat} {oa : Option Addr} {cap gg cap3 : Nat} {D d : DataW Unit} {ord : List (Nat × Nat)} {keep : Nat -> Prop} {a b : Nat} {o2 : Obj}
  (h : Kn w kb mb (.slice oa ord.length cap) D ord keep) (ha : a < 4611686018427387904) (hb : b < 4611686018427387904) (hc : ord.contains (a,b) = false) (hw1 : Kept (fun k=>k < w.heap.size) w w1) (hs1 : w1.heap.size = w.heap.size + 1)
  (hown2 : w2.ownsMap Tryz.prog 69 (plainElem Tryz.prog 3) mb (ord.length + 1) (D.put (kl a b) d)) (hg2 : w1.grownBy w2 (some mb))
  (hown3 : w3.ownsRow (kb + 1) 69 2 (.slice (some ⟨gg,0,none⟩) (ord.length + 1) cap3) (ord.length + 1) (pcells ord ++ [.int .i64 (a : Int),.int .i64 (b : Int)]))
  (hg3 : ((w2.alloc o2).drew).grownBy w3 (Value.slice oa ord.length cap).ownBlock) (hat : (Value.slice oa ord.length cap).ownBlock = some gg \/ gg = w2.heap.size + 1) :
  Kn (w3.setCell ⟨kb,1,none⟩ (.slice (some ⟨gg,0,none⟩) (ord.length + 1) cap3)) kb mb (.slice (some ⟨gg,0,none⟩) (ord.length + 1) cap3) (D.put (kl a b) d) (addP ord (a,b)) keep /\
  Kept keep w (w3.setCell ⟨kb,1,none⟩ (.slice (some ⟨gg,0,none⟩) (ord.length + 1) cap3)):=by
 have hA : addP ord (a,b) = ord ++ [(a,b)]:=by unfold addP;rw [hc];rfl
 have hs2:=hg2.size
 have hs3:=hg3.size
 have e3 : ((w2.alloc o2).drew).heap.size = w2.heap.size + 1:=by simp
 have hkl:=h.row.lt
 have hml:=h.mlt
 have n1 : some kb ≠ (Value.slice oa ord.length cap).ownBlock:=fun e=>by have:=(h.own.lt kb e.symm).1;omega
 have nm : some mb ≠ (Value.slice oa ord.length cap).ownBlock:=fun e=>by have:=(h.own.lt mb e.symm).1;omega
 have b3 : ∀ k,k < w2.heap.size -> some k ≠ (Value.slice oa ord.length cap).ownBlock -> w3.heap[k]? = w2.heap[k]?:=fun k hk hn=>(hg3.block k (by rw [e3];omega) hn).trans (Below.heap_alloc _ _ _ hk)
 have rk : w3.rowIs kb 99 2 (v2 (.map (some mb)) (.slice oa ord.length cap)):=
  h.row.of_block (((b3 kb (by omega) n1).trans (hg2.block kb (by omega) (fun e=>by cases e;omega))).trans (hw1.block kb hkl))
 rw [hA]
 refine ⟨⟨(rk.set 1 _).congr (fun i hi=>?_),h.mlt,?_,fun x y hx hy=>?_,?_,fun k hk=>?_⟩,?_⟩
 ·match i,hi with
  | 0,_=>rfl
  | 1,_=>rfl
 ·have hm : w3.ownsMap Tryz.prog 69 (plainElem Tryz.prog 3) mb (ord.length + 1) (D.put (kl a b) d):=((hown2.alloc o2).drew).kept hg3 nm
  have hm':=hm.setCell (a:=⟨kb,1,none⟩) (by show mb ≠ kb;omega) (.slice (some ⟨gg,0,none⟩) (ord.length + 1) cap3)
  simpa using hm'
 ·by_cases q : x = a /\ y = b
  ·obtain ⟨rfl,rfl⟩:=q
   rw [Maps.has_put_same h.map.isMap (Tryz.law45.key (key_of hx hy))]
   simp
  ·have hne : kl x y ≠ kl a b:=fun e=>q (kl_inj ha hb hx hy e)
   rw [Maps.has_put_other hne,h.has x y hx hy]
   rw [Bool.eq_iff_iff]
   simp only [List.contains_iff_mem,List.mem_append,List.mem_singleton,Prod.mk.injEq]
   exact ⟨Or.inl,fun z=>z.elim id (fun z=>absurd z q)⟩
 ·rw [pcells_snoc]
  have:=ownsRow_setCell_below hown3 (a:=⟨kb,1,none⟩) (by show kb < kb + 1;omega) (.slice (some ⟨gg,0,none⟩) (ord.length + 1) cap3)
  simpa using this
 ·obtain ⟨f1,f2,f3,f4⟩:=h.far k hk
  refine ⟨by simp [World.setCell];omega,f2,f3,?_⟩
  rcases hat with hat | hat
  ·rw [hat] at f4;simpa [Value.ownBlock] using f4
  ·simp [Value.ownBlock];omega
 ·refine ⟨?_,?_,?_,by simp [World.setCell];omega,fun k hk=>?_⟩
  ·exact hg3.os.trans (hg2.os.trans hw1.os)
  ·exact hg3.tape.trans (hg2.tape.trans hw1.tape)
  ·exact hg3.output.trans (hg2.output.trans hw1.output)
  ·obtain ⟨f1,f2,f3,f4⟩:=h.far k hk
   rw [Below.heap_setCell _ _ _ _ (by show k ≠ kb;exact f2),b3 k (by omega) f4,hg2.block k (by omega) (fun e=>by cases e;exact f3 rfl),hw1.block k f1]
set_option maxHeartbeats 4000000 in
theorem c46 (kb mb : Nat) (ov : Value) (D : DataW Unit) (ord : List (Nat × Nat)) (keep : Nat -> Prop) (a b : Nat) (w : World) (h : Kn w kb mb ov D ord keep) (ha : a < 4611686018427387904) (hb : b < 4611686018427387904) (ho : ord.length <= 100000000) :
  Calls Tryz.prog 71 #[.pointer (some ⟨kb,0,none⟩),.agg #[.int .i64 (a : Int),.int .i64 (b : Int)]] w fun e w'=>
   ∃ (x : Int) (ov' : Value) (D' : DataW Unit),e = .returned (.tuple #[.int .i64 x,.bool (!ord.contains (a,b))]) /\ Kn w' kb mb ov' D' (addP ord (a,b)) keep /\ Kept keep w w':=by
 obtain ⟨v,hlk⟩:=look_all (h.map.alloc (.cells #[.int .i64 (a : Int),.int .i64 (b : Int)] 69)) ha hb
 rw [h.has a b ha hb] at hlk
 obtain ⟨oa,cap,rfl⟩:=own_form h.own
 have hR:=h.row.alloc (.cells #[.int .i64 (a : Int),.int .i64 (b : Int)] 69)
 have c0 : (w.alloc (.cells #[.int .i64 (a : Int),.int .i64 (b : Int)] 69)).cell? ⟨kb,0,none⟩ = some (.map (some mb)):=hR.cell (i:=0) (by omega)
 have c1 : (w.alloc (.cells #[.int .i64 (a : Int),.int .i64 (b : Int)] 69)).cell? ⟨kb,1,none⟩ = some (.slice oa ord.length cap):=hR.cell (i:=1) (by omega)
 have HH : Hid (Kn w kb mb (.slice oa ord.length cap) D ord keep):=h
 have hkl:=h.row.lt
 clear h hR
 cases hcon : ord.contains (a,b)
 ·have HC : Hid (ord.contains (a,b) = false):=hcon
  rw [hcon] at hlk
  clear hcon
  go_enter Tryz.func71,Tryz.ntmps71
  go_wp2
  go_quiet (fail)
  go_wp2
  obtain ⟨i0,hi0,hz0,hz1,hz2⟩:=info_parts Tryz.info69
  have hM : ((w.alloc (.cells #[.int .i64 (a : Int),.int .i64 (b : Int)] 69)).drewN (nq + 1)).ownsMap Tryz.prog 69 (plainElem Tryz.prog 3) mb ord.length D:=HH.out.map.alloc _
  obtain ⟨w2,hrun,hown2,hg2⟩:=hM.update Tryz.law45 Tryz.underlying96 (by unfold maxLen;omega) (key_of ha hb) (plainElem_int Tryz.underlying3 (a:=(ord.length : Int)) (WalkArith.wf_i64 (by omega)))
  clear hM hlk
  go_region
  go_wp2
  have hK:=HH.out
  have hs0 : ((w.alloc (.cells #[.int .i64 (a : Int),.int .i64 (b : Int)] 69)).drewN (nq + 1)).heap.size = w.heap.size + 1:=by simp
  have hs2:=hg2.size
  have hml:=hK.mlt
  have OWN : w2.ownsRow (kb + 1) 69 2 (.slice oa ord.length cap) ord.length (pcells ord):=own_kept (w:=(w.alloc (.cells #[.int .i64 (a : Int),.int .i64 (b : Int)] 69)).drewN (nq + 1)) (hK.own.alloc _) hg2 (fun k e=>by cases e;omega)
  have r2 : w2.rowIs kb 99 2 (v2 (.map (some mb)) (.slice oa ord.length cap)):=(hK.row.alloc (.cells #[.int .i64 (a : Int),.int .i64 (b : Int)] 69)).of_block (hg2.block kb (by rw [hs0];omega) (fun e=>by cases e;omega))
  have rB : w2.rowIs w.heap.size 69 2 (v2 (.int .i64 (a : Int)) (.int .i64 (b : Int))):=(row2 w (.int .i64 (a : Int)) (.int .i64 (b : Int)) 69).of_block (hg2.block w.heap.size (by rw [hs0];omega) (fun e=>by cases e;omega))
  have n1 : some kb ≠ (Value.slice oa ord.length cap).ownBlock:=fun e=>by have:=(hK.own.lt kb e.symm).1;omega
  have nB : some w.heap.size ≠ (Value.slice oa ord.length cap).ownBlock:=fun e=>by have:=(hK.own.lt w.heap.size e.symm).2;omega
  have d1 : w2.cell? ⟨kb,1,none⟩ = some (.slice oa ord.length cap):=r2.cell (i:=1) (by omega)
  have d2:=r2.frozen 1
  have d1' : ((w2.alloc (.cells #[.int .i64 (a : Int),.int .i64 (b : Int)] 69)).drew).cell? ⟨kb,1,none⟩ = some (.slice oa ord.length cap):=(r2.alloc (.cells #[.int .i64 (a : Int),.int .i64 (b : Int)] 69)).cell (i:=1) (by omega)
  have d2' : ((w2.alloc (.cells #[.int .i64 (a : Int),.int .i64 (b : Int)] 69)).drew).frozen? ⟨kb,1,none⟩ = false:=(r2.alloc (.cells #[.int .i64 (a : Int),.int .i64 (b : Int)] 69)).frozen 1
  have e0 : w2.cell? ⟨w.heap.size,0,none⟩ = some (.int .i64 (a : Int)):=rB.cell (i:=0) (by omega)
  have e1 : w2.cell? ⟨w.heap.size,1,none⟩ = some (.int .i64 (b : Int)):=rB.cell (i:=1) (by omega)
  have hlt2 : w.heap.size < w2.heap.size:=by omega
  have hkl2 : kb < w2.heap.size:=by omega
  have hbs : kb + 1 <= w2.heap.size:=by omega
  have hbb : (ord.length + 1) * 16 <= 140737488355328:=by omega
  have hml2 : ord.length + 1 <= maxLen:=by unfold maxLen;omega
  clear hrun c0 c1 hK hs0 hs2
  go_region_law (refine step_append_lies _ (by rfl) _ _ _ (by rfl) (kb + 1) 69 i0 _ 2 16 Tryz.underlying97 hi0 hz0 hz1 hz2 rfl (by omega) (.slice oa ord.length cap) ord.length (pcells ord) (by rfl) ((OWN.alloc _).drew) ⟨w2.heap.size,0,none⟩ 1 1 [.int .i64 (a : Int),.int .i64 (b : Int)] (by rfl) (by rfl) (World.news_of_block (cs:=#[.int .i64 (a : Int),.int .i64 (b : Int)]) (t:=69) (fr:=(0,0)) (heap_alloc_new w2 _)) (by simp [Value.oneCell']) (by omega) hml2 hbb (by simp;omega) (w2.heap.size + 1) (by simp) ?_;intro gg cap3 w3 hown3 hg3 hat hlt3;have f1 : w3.cell? ⟨kb,1,none⟩ = some (.slice oa ord.length cap):=(hg3.cell_far ⟨kb,1,none⟩ (by simp;omega) n1).trans d1';have f2 : w3.frozen? ⟨kb,1,none⟩ = false:=(hg3.frozen_far ⟨kb,1,none⟩ (by simp;omega) n1).trans d2')
  all_goals
   have FIN:=kn_step HH.out ha hb HC.out (w1:=(w.alloc (.cells #[.int .i64 (a : Int),.int .i64 (b : Int)] 69)).drewN (nq + 1)) ⟨rfl,rfl,rfl,by simp,fun k hk=>Below.heap_alloc _ _ _ hk⟩ (by simp) hown2 hg2 hown3 hg3 hat
   clear hown2 hg2 hown3 hg3 hat f1 f2 d1 d2 e0 e1 d1' d2' OWN r2 rB
   go_wp2
   go_ret2
   exact ⟨_,_,_,rfl,FIN.1,FIN.2⟩
 ·have HA : Hid (addP ord (a,b) = ord):=by show (if ord.contains (a,b) then ord else _) = ord;rw [if_pos hcon]
  rw [hcon] at hlk
  clear hcon
  go_enter Tryz.func71,Tryz.ntmps71
  go_wp2
  go_quiet (fail)
  go_wp2
  go_ret2
  have hK:=HH.out
  refine ⟨v,.slice oa ord.length cap,D,rfl,?_,?_⟩
  ·rw [HA.out]
   refine ⟨hK.row.alloc _,hK.mlt,hK.map.alloc _,hK.has,hK.own.alloc _,fun k hk=>?_⟩
   obtain ⟨f1,f2,f3,f4⟩:=hK.far k hk
   exact ⟨by simp;omega,f2,f3,f4⟩
  ·exact ⟨rfl,rfl,rfl,by simp,fun k hk=>Below.heap_alloc _ _ _ (hK.far k hk).1⟩
theorem Tryz.law3 : Keyed Tryz.prog 3:=int_keyed Tryz.underlying3
theorem key_int {a : Nat} (ha : a < 4611686018427387904) : keyOf Tryz.prog 3 (.int .i64 (a : Int)) = some (.int .i64 (a : Int)):=keyOf_int_mk Tryz.underlying3 (WalkArith.wf_i64 (by omega))
def addI (ord : List Nat) (a : Nat) : List Nat:=if ord.contains a then ord else ord ++ [a]
def icells (ord : List Nat) : List Value:=ord.map fun a : Nat=>.int .i64 (a : Int)
structure KnI (w : World) (kb mb : Nat) (ov : Value) (D : DataW Unit) (ord : List Nat) (keep : Nat -> Prop) : Prop where
 row : w.rowIs kb 134 2 (v2 (.map (some mb)) ov)
 mlt : mb < kb
 map : w.ownsMap Tryz.prog 3 (plainElem Tryz.prog 3) mb ord.length D
 has : ∀ a : Nat,a < 4611686018427387904 -> Maps.has D (.int .i64 (a : Int)) = ord.contains a
 val : ∀ a : Nat,a < 4611686018427387904 -> a ∈ ord -> D.atKey (.int .i64 (a : Int)) (.lit (.int .i64 0)) = .lit (.int .i64 (ord.idxOf a : Int))
 own : w.ownsRow (kb + 1) 3 1 ov ord.length (icells ord)
 far : ∀ k,keep k -> k < w.heap.size /\ k ≠ kb /\ k ≠ mb /\ some k ≠ ov.ownBlock
set_option maxHeartbeats 1000000 in
theorem c68 (w : World) (keep : Nat -> Prop) (hk : ∀ k,keep k -> k < w.heap.size) :
  Calls Tryz.prog 78 #[] w fun e w'=>e = .returned (.pointer (some ⟨w.heap.size + 1,0,none⟩)) /\ KnI w' (w.heap.size + 1) w.heap.size (.slice none 0 0) (.map []) [] keep /\ Kept keep w w':=by
 have hmm:=@run_makeMap Tryz.prog
 go_enter Tryz.func78,Tryz.ntmps78
 go_wp2
 go_ret
 have R:=row2 (w.alloc (.map #[] 0)) (.map (some w.heap.size)) (.slice none 0 0) 134
 simp only [World.size_alloc] at R
 refine ⟨rfl,⟨R,by omega,(World.ownsMap_made w Tryz.prog 3 (plainElem Tryz.prog 3)).alloc _,fun a _=>rfl,fun a _ h=>by simp at h,World.ownsRow_nil _ _ _ _,fun k h=>?_⟩,?_⟩
 ·have:=hk k h
  exact ⟨by simp;omega,by omega,by omega,by simp [Value.ownBlock]⟩
 ·have:=bel2 w (.map #[] 0) (.cells #[.map (some w.heap.size),.slice none 0 0] 134)
  exact ⟨this.os,this.tape,this.output,this.size,fun k h=>this.block k (hk k h)⟩
theorem look_int {w : World} {mb n : Nat} {D : DataW Unit} {a : Nat} (h : w.ownsMap Tryz.prog 3 (plainElem Tryz.prog 3) mb n D) (ha : a < 4611686018427387904) :
  ∃ v : Int,(∀ m,(Instr.lookup 132 (.map (some mb)) (.int .i64 (a : Int)) true).run Tryz.prog (w.drewN m) = .ok (.tuple #[.int .i64 v,.bool (Maps.has D (.int .i64 (a : Int)))]) (w.drewN m)) /\ D.atKey (.int .i64 (a : Int)) (.lit (.int .i64 0)) = .lit (.int .i64 v):=by
 have hz : plainElem (H:=Unit) Tryz.prog 3 (.int .i64 0) = some (.lit (.int .i64 0),[]):=plainElem_int Tryz.underlying3 (by decide)
 have each : ∀ m,∃ v : Int,(Instr.lookup 132 (.map (some mb)) (.int .i64 (a : Int)) true).run Tryz.prog (w.drewN m) = .ok (.tuple #[.int .i64 v,.bool (Maps.has D (.int .i64 (a : Int)))]) (w.drewN m) /\ D.atKey (.int .i64 (a : Int)) (.lit (.int .i64 0)) = .lit (.int .i64 v):=fun m=>by
  have h' : (w.drewN m).ownsMap Tryz.prog 3 (plainElem Tryz.prog 3) mb n D:=h
  obtain ⟨v,ps,hrun,hR⟩:=h'.look_ok Tryz.law3 Tryz.underlying132 (Tryz.zero3 _) hz (key_int ha)
  obtain ⟨x,rfl,hx,_⟩:=plainElem_int_inv Tryz.underlying3 hR
  simp only [Prod.mk.injEq] at hx
  exact ⟨x,hrun,hx.1⟩
 obtain ⟨v,_,hv⟩:=each 0
 refine ⟨v,fun m=>?_,hv⟩
 obtain ⟨v',hrun,hv'⟩:=each m
 rw [hv] at hv'
 simp only [DataW.lit.injEq,Lit.int.injEq,true_and] at hv'
 rw [hv'];exact hrun
theorem icells_snoc (ord : List Nat) (a : Nat) : icells (ord ++ [a]) = icells ord ++ [.int .i64 (a : Int)]:=by simp [icells]
theorem kni_step {w w2 w3 : World} {kb mb : Nat} {oa : Option Addr} {cap gg cap3 : Nat} {D : DataW Unit} {ord : List Nat} {keep : Nat -> Prop} {a : Nat} {o2 : Obj}
  (h : KnI w kb mb (.slice oa ord.length cap) D ord keep) (ha : a < 4611686018427387904) (hc : ord.contains a = false)
  (hown2 : w2.ownsMap Tryz.prog 3 (plainElem Tryz.prog 3) mb (ord.length + 1) (D.put (.int .i64 (a : Int)) (.lit (.int .i64 (ord.length : Int))))) (hg2 : w.grownBy w2 (some mb))
  (hown3 : w3.ownsRow (kb + 1) 3 1 (.slice (some ⟨gg,0,none⟩) (ord.length + 1) cap3) (ord.length + 1) (icells ord ++ [.int .i64 (a : Int)]))
  (hg3 : (w2.alloc o2).grownBy w3 (Value.slice oa ord.length cap).ownBlock) (hat : (Value.slice oa ord.length cap).ownBlock = some gg \/ gg = w2.heap.size + 1) :
  KnI (w3.setCell ⟨kb,1,none⟩ (.slice (some ⟨gg,0,none⟩) (ord.length + 1) cap3)) kb mb (.slice (some ⟨gg,0,none⟩) (ord.length + 1) cap3) (D.put (.int .i64 (a : Int)) (.lit (.int .i64 (ord.length : Int)))) (addI ord a) keep /\
  Kept keep w (w3.setCell ⟨kb,1,none⟩ (.slice (some ⟨gg,0,none⟩) (ord.length + 1) cap3)):=by
 have hA : addI ord a = ord ++ [a]:=by unfold addI;rw [hc];rfl
 have hna : a ∉ ord:=fun hm=>by rw [List.contains_iff_mem.2 hm] at hc;cases hc
 have hs2:=hg2.size
 have hs3:=hg3.size
 have e3 : (w2.alloc o2).heap.size = w2.heap.size + 1:=by simp
 have hkl:=h.row.lt
 have hml:=h.mlt
 have n1 : some kb ≠ (Value.slice oa ord.length cap).ownBlock:=fun e=>by have:=(h.own.lt kb e.symm).1;omega
 have nm : some mb ≠ (Value.slice oa ord.length cap).ownBlock:=fun e=>by have:=(h.own.lt mb e.symm).1;omega
 have b3 : ∀ k,k < w2.heap.size -> some k ≠ (Value.slice oa ord.length cap).ownBlock -> w3.heap[k]? = w2.heap[k]?:=fun k hk hn=>(hg3.block k (by rw [e3];omega) hn).trans (Below.heap_alloc _ _ _ hk)
 have rk : w3.rowIs kb 134 2 (v2 (.map (some mb)) (.slice oa ord.length cap)):=
  h.row.of_block ((b3 kb (by omega) n1).trans (hg2.block kb (by omega) (fun e=>by cases e;omega)))
 have hne : ∀ x : Nat,x ≠ a -> (Lit.int .i64 (x : Int)) ≠ Lit.int .i64 (a : Int):=fun x q e=>q (by simp at e;omega)
 rw [hA]
 refine ⟨⟨(rk.set 1 _).congr (fun i hi=>?_),h.mlt,?_,fun x hx=>?_,fun x hx hm=>?_,?_,fun k hk=>?_⟩,?_⟩
 ·match i,hi with
  | 0,_=>rfl
  | 1,_=>rfl
 ·have hm : w3.ownsMap Tryz.prog 3 (plainElem Tryz.prog 3) mb (ord.length + 1) (D.put (.int .i64 (a : Int)) (.lit (.int .i64 (ord.length : Int)))):=(hown2.alloc o2).kept hg3 nm
  have hm':=hm.setCell (a:=⟨kb,1,none⟩) (by show mb ≠ kb;omega) (.slice (some ⟨gg,0,none⟩) (ord.length + 1) cap3)
  simpa using hm'
 ·by_cases q : x = a
  ·subst q
   rw [Maps.has_put_same h.map.isMap (Tryz.law3.key (key_int hx))]
   simp
  ·rw [Maps.has_put_other (hne x q),h.has x hx]
   rw [Bool.eq_iff_iff]
   simp only [List.contains_iff_mem,List.mem_append,List.mem_singleton]
   exact ⟨Or.inl,fun z=>z.elim id (fun z=>absurd z q)⟩
 ·by_cases q : x = a
  ·subst q
   rw [Maps.atKey_put_same h.map.isMap (Tryz.law3.key (key_int hx)),List.idxOf_append,if_neg hna]
   simp
  ·rw [Maps.atKey_put_other (hne x q)]
   have hm' : x ∈ ord:=by
    rcases List.mem_append.1 hm with z | z
    ·exact z
    ·simp at z;exact absurd z q
   rw [h.val x hx hm',List.idxOf_append,if_pos hm']
 ·rw [icells_snoc]
  have:=ownsRow_setCell_below hown3 (a:=⟨kb,1,none⟩) (by show kb < kb + 1;omega) (.slice (some ⟨gg,0,none⟩) (ord.length + 1) cap3)
  simpa using this
 ·obtain ⟨f1,f2,f3,f4⟩:=h.far k hk
  refine ⟨by simp [World.setCell];omega,f2,f3,?_⟩
  rcases hat with hat | hat
  ·rw [hat] at f4;simpa [Value.ownBlock] using f4
  ·simp [Value.ownBlock];omega
 ·refine ⟨hg3.os.trans hg2.os,hg3.tape.trans hg2.tape,hg3.output.trans hg2.output,by simp [World.setCell];omega,fun k hk=>?_⟩
  obtain ⟨f1,f2,f3,f4⟩:=h.far k hk
  rw [Below.heap_setCell _ _ _ _ (by show k ≠ kb;exact f2),b3 k (by omega) f4,hg2.block k f1 (fun e=>by cases e;exact f3 rfl)]
set_option maxHeartbeats 4000000 in
theorem c108 (kb mb : Nat) (ov : Value) (D : DataW Unit) (ord : List Nat) (keep : Nat -> Prop) (a : Nat) (w : World) (h : KnI w kb mb ov D ord keep) (ha : a < 4611686018427387904) (ho : ord.length <= 100000000) :
  Calls Tryz.prog 117 #[.pointer (some ⟨kb,0,none⟩),.int .i64 (a : Int)] w fun e w'=>
   ∃ (ov' : Value) (D' : DataW Unit),e = .returned (.tuple #[.int .i64 ((addI ord a).idxOf a : Int),.bool (!ord.contains a)]) /\ KnI w' kb mb ov' D' (addI ord a) keep /\ Kept keep w w':=by
 obtain ⟨v,hlk,hat0⟩:=look_int h.map ha
 rw [h.has a ha] at hlk
 have hlk0:=hlk 0
 rw [World.drewN_zero] at hlk0
 obtain ⟨oa,cap,rfl⟩:=own_form h.own
 have c0 : w.cell? ⟨kb,0,none⟩ = some (.map (some mb)):=h.row.cell (i:=0) (by omega)
 have c1 : w.cell? ⟨kb,1,none⟩ = some (.slice oa ord.length cap):=h.row.cell (i:=1) (by omega)
 have HH : Hid (KnI w kb mb (.slice oa ord.length cap) D ord keep):=h
 have hkl:=h.row.lt
 clear hlk
 cases hcon : ord.contains a
 ·have HC : Hid (ord.contains a = false):=hcon
  have HX : Hid ((addI ord a).idxOf a = ord.length):=by
   have hna : a ∉ ord:=fun hm=>by rw [List.contains_iff_mem.2 hm] at hcon;cases hcon
   show (addI ord a).idxOf a = ord.length
   unfold addI;rw [hcon]
   simp [List.idxOf_append,hna]
  rw [hcon] at hlk0
  obtain ⟨i0,hi0,hz0,hz1,hz2⟩:=info_parts Tryz.info3
  obtain ⟨w2,hrun,hown2,hg2⟩:=h.map.update Tryz.law3 Tryz.underlying132 (by unfold maxLen;omega) (key_int ha) (plainElem_int Tryz.underlying3 (a:=(ord.length : Int)) (WalkArith.wf_i64 (by omega)))
  have hml:=h.mlt
  have hs2:=hg2.size
  have OWN : w2.ownsRow (kb + 1) 3 1 (.slice oa ord.length cap) ord.length (icells ord):=own_kept h.own hg2 (fun k e=>by cases e;omega)
  have r2 : w2.rowIs kb 134 2 (v2 (.map (some mb)) (.slice oa ord.length cap)):=h.row.of_block (hg2.block kb hkl (fun e=>by cases e;omega))
  have d1 : w2.cell? ⟨kb,1,none⟩ = some (.slice oa ord.length cap):=r2.cell (i:=1) (by omega)
  have n1 : some kb ≠ (Value.slice oa ord.length cap).ownBlock:=fun e=>by have:=(h.own.lt kb e.symm).1;omega
  have d1':=(r2.alloc (.cells #[.int .i64 (a : Int)] 3)).cell (i:=1) (by omega)
  have d2':=(r2.alloc (.cells #[.int .i64 (a : Int)] 3)).frozen 1
  have hbs : kb + 1 <= w2.heap.size:=by omega
  clear hcon h hat0
  go_enter Tryz.func117,Tryz.ntmps117
  go_wp2_with (first | (at_builtin;refine wpList_append_lies _ rfl _ _ 25 rfl (kb + 1) 3 i0 (.int .i64 0) 1 8 Tryz.underlying25 hi0 hz0 hz1 hz2 rfl (by omega) (.slice oa ord.length cap) ord.length (icells ord) rfl (OWN.alloc _) ⟨w2.heap.size,0,none⟩ 1 1 [.int .i64 (a : Int)] rfl rfl (cell_one_new _ _ _) (ints_oneCell .i64 [(a : Int)]) (by omega) (by unfold maxLen;omega) (by omega) (by simp;omega) (w2.heap.size + 1) (by simp) ?_;intro gg cap3 w3 hown3 hg3 hat hlt3;have f1 : w3.cell? ⟨kb,1,none⟩ = some (.slice oa ord.length cap):=(hg3.cell_far ⟨kb,1,none⟩ (by simp;omega) n1).trans d1';have f2 : w3.frozen? ⟨kb,1,none⟩ = false:=(hg3.frozen_far ⟨kb,1,none⟩ (by simp;omega) n1).trans d2'))
  have FIN:=kni_step HH.out ha HC.out hown2 hg2 hown3 hg3 hat
  clear hown2 hg2 hown3 hg3 hat OWN r2 d1 d1' d2' hrun hlk0
  go_wp2
  go_ret2
  refine ⟨_,_,?_,FIN.1,FIN.2⟩
  rw [HX.out];rfl
 ·have hm : a ∈ ord:=by simpa using hcon
  have HA : Hid (addI ord a = ord):=by show (if ord.contains a then ord else _) = ord;rw [if_pos hcon]
  have HX : Hid (v = (ord.idxOf a : Int)):=by
   have:=HH.out.val a ha hm
   rw [hat0] at this
   show v = (ord.idxOf a : Int)
   simpa using this
  rw [hcon] at hlk0
  clear hcon h hat0 hm
  go_enter Tryz.func117,Tryz.ntmps117
  go_wp2
  go_ret2
  refine ⟨.slice oa ord.length cap,D,?_,?_,Kept.refl _ _⟩
  ·rw [HA.out,<- HX.out];rfl
  ·rw [HA.out];exact HH.out
end Go.Proofs.YtpbpbppimkeodaaGreatDoor
