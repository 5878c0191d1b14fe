/-
  YdA SpA SpB
-/
import Derived.Test.YtihedobejcaapaaGreatDoorC7
import Derived.Laws.Rows
import Derived.Laws.OwnMore
set_option maxHeartbeats 1000000
set_option maxRecDepth 100000
namespace Go.Proofs.YtihedobejcaapaaGreatDoor
open Go.RowKit
structure so (x : DC × DPl) : Prop where
 tsm : ∀ y,y ∈ x.2.zs -> ku y
 esm : ∀ y,y ∈ x.2.es -> Cp y
 tlen : x.2.zs.length <= 14
 cost : cD x.1 <= 104000
theorem An {y : TI × NPl} (s : ku y) : Ca y.1:=by
 refine ⟨by have:=s.len;omega,fun k hk=>?_,by have:=s.md;omega,by have:=s.nm;omega⟩;have:=s.nms (y.1.ns.getD k e0) (by rw [List.getD_eq_getElem?_getD,List.getElem?_eq_getElem hk];exact List.getElem_mem hk);omega
theorem mF {l : List EI} {e : EI} (h : e ∈ l) : cE e <= ed l:=by
 unfold ed
 have : cE e <= (l.map cE).sum:=by
  induction l with
  | nil=>cases h
  | cons a l ih=>
    simp only [List.map_cons,List.sum_cons];rcases List.mem_cons.1 h with rfl | h
    ·omega
    ·have:=ih h;omega
 omega
theorem rR {l : List ByteArray} {s : ByteArray} (h : s ∈ l) : s.size <= kx l:=by
 unfold kx
 induction l with
 | nil=>cases h
 | cons a l ih=>
   simp only [List.map_cons,List.sum_cons];rcases List.mem_cons.1 h with rfl | h
   ·omega
   ·have:=ih h;omega
theorem wG {e : EI} (h : cE e <= 1048576) : CZ e:=by
 unfold cE cN at h;refine ⟨by omega,fun k hk=>?_,by omega,by omega⟩;have:=rR (l:=e.ns) (s:=e.ns.getD k e0) (by rw [List.getD_eq_getElem?_getD,List.getElem?_eq_getElem hk];exact List.getElem_mem hk);omega
theorem jJ.of_dr {w : World} {x : DC × DPl} (h : da 0 w x.1 x.2) (s : so x) : jJ w x.1 x.2:=by
 have f:=s.cost;have c : ed x.1.ex <= cD x.1:=by unfold cD;omega
 refine ⟨fq.of_rt h.ty s.tsm (by have:=s.tlen;omega),h.isT,⟨⟨0,h.ex⟩,fun y hy=>(s.esm y hy).cap,fun y hy=>?_,?_,fun y hy=>⟨fun u hu=>⟨((s.esm y hy).zs u hu).cap,An ((s.esm y hy).zs u hu)⟩,?_⟩⟩,h.isE,by omega⟩
 ·have:=mF (l:=x.1.ex) (e:=y.1) (by rw [<- h.isE];exact List.mem_map_of_mem hy)
  exact wG (by omega)
 ·have a : x.2.es.length = x.1.ex.length:=by rw [<- h.isE,List.length_map]
  have b:=gR x.1.ex;omega
 ·have g:=mF (l:=x.1.ex) (e:=y.1) (by rw [<- h.isE];exact List.mem_map_of_mem hy)
  have a : y.2.zs.length = y.1.ty.length:=by rw [<- (h.ex.ok y hy).is,List.length_map]
  have b : y.1.ty.length <= bQ y.1.ty:=by unfold bQ;omega
  have d : bQ y.1.ty <= cE y.1:=by unfold cE;omega
  omega
structure DL (B : Nat) (wr : World) (va : Option Addr) (n c K : Nat) (xs : List (DC × DPl)) : Prop where
 own : wr.ownsRow B 37 4 (.slice va n c) n (bj xs)
 len : n = xs.length
 ok : ∀ x,x ∈ xs -> da 0 wr x.1 x.2
 sm : ∀ x,x ∈ xs -> so x
 cost : eX (xs.map Prod.fst) <= K
theorem DL.below {B : Nat} {w w' : World} {va : Option Addr} {n c K : Nat} {xs : List (DC × DPl)} (h : DL B w va n c K xs) (hb : Bw w w') : DL B w' va n c K xs:=⟨az h.own (ax hb) (by decide),h.len,fun x hx=>(h.ok x hx).below hb,h.sm,h.cost⟩
theorem DL.mono {B : Nat} {w : World} {va : Option Addr} {n c K K' : Nat} {xs : List (DC × DPl)} (h : DL B w va n c K xs) (hK : K <= K') : DL B w va n c K' xs:=⟨h.own,h.len,h.ok,h.sm,Nat.le_trans h.cost hK⟩
theorem rQ (a b : List DC) : eX (a ++ b) = eX a + eX b:=by
 unfold eX;rw [lap,List.map_append,List.sum_append];omega
theorem xX (d : DC) : eX [d] = 1 + cD d:=by
 unfold eX;simp
theorem DL.push {B : Nat} {w w3 : World} {va : Option Addr} {n c K K' : Nat} {xs : List (DC × DPl)} {x : DC × DPl} {o : Obj} {gg cap3 : Nat} (h : DL B w va n c K xs)
  (hown : w3.ownsRow B 37 4 (.slice (some ⟨gg,0,none⟩) (n + 1) cap3) (n + 1) (bj xs ++ fU x)) (hg : (w.alloc o).grownBy w3 (Value.slice va n c).ownBlock) (hx : da 0 w x.1 x.2) (hs : so x) (hK : K + 1 + cD x.1 <= K') :
  DL B w3 (some ⟨gg,0,none⟩) (n + 1) cap3 K' (xs ++ [x]):=by
 have a : Kp 37 w w3:=(bG _ w o).trans (bF (h.own.alloc o) hg);refine ⟨by rw [gU];exact hown,by rw [lap,h.len];rfl,fun y hy=>?_,fun y hy=>?_,?_⟩
 ·rcases List.mem_append.1 hy with z | z
  ·exact (h.ok y z).kp a (by decide) (by decide) (by decide)
  ·rw [ms1 z]
   exact hx.kp a (by decide) (by decide) (by decide)
 ·rcases List.mem_append.1 hy with z | z
  ·exact h.sm y z
  ·rw [ms1 z]
   exact hs
 ·rw [List.map_append,rQ]
  have:=h.cost;have e : eX ([x].map Prod.fst) = 1 + cD x.1:=xX _;omega
structure DS (w wr : World) (sb : Nat) (N : Nat -> List ByteArray) (P : Nat -> NPl) : Prop where
 hsb : w.heap.size <= sb
 bel : Bw w wr
 res : wr.rowIs w.heap.size 25 1 (fun _=>.slice none 0 0)
 box : wr.rowIs sb 76 3 (fun i=>.slice (P i).a (N i).length (P i).c)
 own : ∀ i,i < 3 -> wr.ownsRow w.heap.size 9 1 (.slice (P i).a (N i).length (P i).c) (N i).length (ii (N i))
 sep : ∀ i j b,i < 3 -> j < 3 -> i ≠ j -> (Value.slice (P i).a (N i).length (P i).c).ownBlock = some b -> (Value.slice (P j).a (N j).length (P j).c).ownBlock ≠ some b
 good : ∀ i,i < 3 -> ∀ s,s ∈ N i -> gn s = true
 len : ∀ i,i < 3 -> (N i).length <= 100
theorem DS.below {w wr w' : World} {sb : Nat} {N : Nat -> List ByteArray} {P : Nat -> NPl} (h : DS w wr sb N P) (hb : Bw wr w') : DS w w' sb N P:=
 ⟨h.hsb,h.bel.trans (hb.mono h.bel.size),h.res.of_block (hb.block _ h.res.lt),h.box.of_block (hb.block _ h.box.lt),fun i hi=>az (h.own i hi) (ax hb) (by decide),h.sep,h.good,h.len⟩
theorem DS.decl {w wr w3 : World} {sb : Nat} {N : Nat -> List ByteArray} {P : Nat -> NPl} {va : Option Addr} {n c : Nat} {xs : List (DC × DPl)} {o : Obj} (h : DS w wr sb N P) {K : Nat} (hd : DL w.heap.size wr va n c K xs) (hg : (wr.alloc o).grownBy w3 (Value.slice va n c).ownBlock) : DS w w3 sb N P:=by
 have a : Kp 37 wr w3:=(bG _ wr o).trans (bF (hd.own.alloc o) hg);exact ⟨h.hsb,ae h.bel hg (fun j e=>(hd.own.lt j e).1),cA h.res a (by decide),cA h.box a (by decide),fun i hi=>az (h.own i hi) a (by decide),h.sep,h.good,h.len⟩
def pE {α : Type} (f : Nat -> α) (i : Nat) (x : α) : Nat -> α:=fun j=>if j = i then x else f j
theorem ci {α : Type} (f : Nat -> α) (i : Nat) (x : α) : pE f i x i = x:=if_pos rfl
theorem bc {α : Type} (f : Nat -> α) {i j : Nat} (x : α) (h : j ≠ i) : pE f i x j = f j:=if_neg h
theorem DS.grow {w wr w4 : World} {sb : Nat} {N : Nat -> List ByteArray} {P : Nat -> NPl} (h : DS w wr sb N P) {i : Nat} (hi : i < 3) {s : ByteArray} (hs : gn s = true) (hl : (N i).length < 100) {o : Obj} {gg cap : Nat}
  (hown : w4.ownsRow w.heap.size 9 1 (.slice (some ⟨gg,0,none⟩) ((N i).length + 1) cap) ((N i).length + 1) (ii (N i) ++ [.string s])) (hg : (wr.alloc o).grownBy w4 (Value.slice (P i).a (N i).length (P i).c).ownBlock) (hat : (Value.slice (P i).a (N i).length (P i).c).ownBlock = some gg \/ gg = wr.heap.size + 1) :
  DS w (w4.setCell ⟨sb,i,none⟩ (.slice (some ⟨gg,0,none⟩) ((N i).length + 1) cap)) sb (pE N i (N i ++ [s])) (pE P i ⟨some ⟨gg,0,none⟩,gg,cap⟩):=by
 have E : Kp 9 wr w4:=(bG _ wr o).trans (bF ((h.own i hi).alloc o) hg);have d : w4.rowIs sb 76 3 (fun i=>.slice (P i).a (N i).length (P i).c):=cA h.box E (by decide);have g : w4.rowIs w.heap.size 25 1 (fun _=>.slice none 0 0):=cA h.res E (by decide);have y:=h.hsb
 have D : ∀ (b : Nat) (t : TypeId) (n : Nat) (f : Nat -> Value),w4.rowIs b t n f -> t ≠ 76 -> b ≠ sb:=fun b t n f hr ht e=>by
  obtain ⟨I,B,_⟩:=hr;obtain ⟨J,G,_⟩:=d;rw [e,G] at B;simp only [Option.some.injEq,Obj.cells.injEq] at B;exact ht B.2.1.symm
 have x : ∀ j,j < 3 -> j ≠ i -> w4.ownsRow w.heap.size 9 1 (.slice (P j).a (N j).length (P j).c) (N j).length (ii (N j)):=fun j hj hji=>by
  refine aG (h.own j hj) (fun k hk2=>?_);have C:=((h.own j hj).lt k hk2.symm).2;rw [hg.block k (by simp;omega) (fun e=>h.sep i j k hi hj (Ne.symm hji) e.symm hk2.symm)];exact Below.heap_alloc _ _ _ C
 have m : ∀ {v : Value} {n : Nat} {l : List Value},w4.ownsRow w.heap.size 9 1 v n l -> (w4.setCell ⟨sb,i,none⟩ (.slice (some ⟨gg,0,none⟩) ((N i).length + 1) cap)).ownsRow w.heap.size 9 1 v n l:=fun {v n l} ho=>by
  refine aG ho (fun k hk2=>Below.heap_setCell _ _ _ _ ?_);have:=own_box ho d (by decide);intro e;exact this (by rw [<- hk2,e])
 have A : ∀ j,j < 3 -> j ≠ i -> (Value.slice (P j).a (N j).length (P j).c).ownBlock ≠ some gg:=fun j hj hji e=>by
  rcases hat with q | q
  ·exact h.sep i j gg hi hj (Ne.symm hji) q e
  ·have:=((h.own j hj).lt gg e).2
   omega
 refine ⟨y,?_,?_,?_,fun j hj=>?_,fun j k b hj hk2 hjk hb=>?_,fun j hj s' hs'=>?_,fun j hj=>?_⟩
 ·exact (ae h.bel hg (fun j e=>((h.own i hi).lt j e).1)).setCell (p:=⟨sb,i,none⟩) y _
 ·exact g.of_block (Below.heap_setCell _ _ _ _ (D _ _ _ _ g (by decide)))
 ·have r:=d.set i (.slice (some ⟨gg,0,none⟩) ((N i).length + 1) cap)
  refine r.congr (fun j hj=>?_);by_cases e : j = i
  ·subst e
   rw [if_pos rfl,ci,ci,lap];rfl
  ·rw [if_neg e,bc _ _ e,bc _ _ e]
 ·by_cases e : j = i
  ·subst e
   rw [ci,ci,lap,jd];exact m hown
  ·rw [bc _ _ e,bc _ _ e]
   exact m (x j hj e)
 ·by_cases q : j = i
  ·subst q
   rw [ci,ci] at hb;have u : gg = b:=by simpa [Value.ownBlock] using hb
   rw [bc _ _ (Ne.symm hjk),bc _ _ (Ne.symm hjk),<- u];exact A k hk2 (Ne.symm hjk)
  ·rw [bc _ _ q,bc _ _ q] at hb
   by_cases u : k = i
   ·subst u
    rw [ci,ci];intro F;have H : gg = b:=by simpa [Value.ownBlock] using F
    rw [<- H] at hb;exact A j hj q hb
   ·rw [bc _ _ u,bc _ _ u]
    exact h.sep j k b hj hk2 hjk hb
 ·by_cases e : j = i
  ·subst e
   rw [ci] at hs';rcases List.mem_append.1 hs' with z | z
   ·exact h.good j hj s' z
   ·rw [ms1 z];exact hs
  ·rw [bc _ _ e] at hs'
   exact h.good j hj s' hs'
 ·by_cases e : j = i
  ·subst e
   rw [ci,lap];show _ + 1 <= 100;omega
  ·rw [bc _ _ e]
   exact h.len j hj
theorem g7 {w : World} {B n size j g c : Nat} {t : TypeId} {L : List Value} {u : Value} (h : w.ownsRow B t size (.slice (some ⟨g,0,none⟩) n c) n L) (_hj : j < n * size) : (w.setCell ⟨g,j,none⟩ u).ownsRow B t size (.slice (some ⟨g,0,none⟩) n c) n (L.set j u):=by
 obtain ⟨b,i⟩:=h;rcases i with ⟨e,_⟩ | ⟨q,l,a,e,k,m,d,p,o,f⟩
 ·cases e
 ·simp only [Value.slice.injEq,Option.some.injEq,Addr.mk.injEq] at e
  obtain ⟨⟨rfl,_,_⟩,_,rfl⟩:=e;refine ⟨by rw [List.length_set];exact b,.inr ⟨g,c,a.setIfInBounds j u,rfl,k,heap_setCell_same w g j a t u m,d,p,by rw [Array.size_setIfInBounds];exact o,?_⟩⟩;rw [Array.toList_setIfInBounds,List.take_set,f]
theorem kz {α : Type} (f : α -> List Value) (m : Nat) (hm : ∀ x,(f x).length = m) {r : Nat} (hr : r < m) (u : Value) : ∀ (xs : List α) (k : Nat) (hk : k < xs.length) (y : α),f y = (f xs[k]).set r u -> (xs.flatMap f).set (k * m + r) u = (xs.set k y).flatMap f
 | [],k,hk,_,_=>by cases hk
 | x :: xs,0,_,y,h=>by
   show (f x ++ xs.flatMap f).set (0 * m + r) u = f y ++ xs.flatMap f;rw [Nat.zero_mul,Nat.zero_add,List.set_append_left _ _ (by rw [hm];exact hr)];rw [show f y = (f x).set r u from h]
 | x :: xs,k + 1,hk,y,h=>by
   show (f x ++ xs.flatMap f).set ((k + 1) * m + r) u = f x ++ (xs.set k y).flatMap f;rw [<- kz f m hm hr u xs k (Nat.lt_of_succ_lt_succ hk) y h,List.set_append_right _ _ (by rw [hm,Nat.succ_mul];omega),hm];congr 2;rw [Nat.succ_mul];omega
structure ms (p : DPl) : Prop where
 t : ∀ y,y ∈ p.zs -> y.1.ns.length <= y.2.c
 e : ∀ y,y ∈ p.es -> y.1.ns.length <= y.2.np.c /\ ∀ u,u ∈ y.2.zs -> u.1.ns.length <= u.2.c
theorem qu {l : List TI} {e : TI} (h : e ∈ l) : cT e <= bQ l:=by
 unfold bQ
 have : cT e <= (l.map cT).sum:=by
  induction l with
  | nil=>cases h
  | cons a l ih=>
    simp only [List.map_cons,List.sum_cons];rcases List.mem_cons.1 h with rfl | h
    ·omega
    ·have:=ih h;omega
 omega
theorem oM {e : TI} (h : cT e <= 1048576) : Ca e:=by
 unfold cT cN at h;refine ⟨by omega,fun k hk=>?_,by omega,by omega⟩;have:=rR (l:=e.ns) (s:=e.ns.getD k e0) (by rw [List.getD_eq_getElem?_getD,List.getElem?_eq_getElem hk];exact List.getElem_mem hk);omega
theorem jJ.of_cap {w : World} {d : DC} {p : DPl} (h : da 0 w d p) (c : ms p) (hc : cD d <= 1048576) : jJ w d p:=by
 have m : bQ d.ty <= cD d:=by unfold cD;omega
 have i : ed d.ex <= cD d:=by unfold cD;omega
 have k : ∀ y,y ∈ p.zs -> cT y.1 <= 1048576:=fun y hy=>by
  have:=qu (l:=d.ty) (e:=y.1) (by rw [<- h.isT];exact List.mem_map_of_mem hy);omega
 have a : ∀ y,y ∈ p.es -> cE y.1 <= 1048576:=fun y hy=>by
  have:=mF (l:=d.ex) (e:=y.1) (by rw [<- h.isE];exact List.mem_map_of_mem hy);omega
 have r : p.zs.length = d.ty.length:=by rw [<- h.isT,List.length_map]
 have b : d.ty.length <= bQ d.ty:=by unfold bQ;omega
 have o : p.es.length = d.ex.length:=by rw [<- h.isE,List.length_map]
 have n:=gR d.ex;refine ⟨⟨⟨0,h.ty⟩,c.t,fun y hy=>oM (k y hy),by omega⟩,h.isT,⟨⟨0,h.ex⟩,fun y hy=>(c.e y hy).1,fun y hy=>wG (a y hy),by omega,fun y hy=>⟨fun u hu=>⟨(c.e y hy).2 u hu,?_⟩,?_⟩⟩,h.isE,hc⟩
 ·have g:=a y hy
  have j : bQ y.1.ty <= cE y.1:=by unfold cE;omega
  have f:=qu (l:=y.1.ty) (e:=u.1) (by rw [<- (h.ex.ok y hy).is];exact List.mem_map_of_mem hu);exact oM (by omega)
 ·have g:=a y hy
  have j : bQ y.1.ty <= cE y.1:=by unfold cE;omega
  have f : y.2.zs.length = y.1.ty.length:=by rw [<- (h.ex.ok y hy).is,List.length_map]
  have q : y.1.ty.length <= bQ y.1.ty:=by unfold bQ;omega
  omega
theorem jJ.capP {w : World} {d : DC} {p : DPl} (h : jJ w d p) : ms p:=⟨h.ty.cap,fun y hy=>⟨h.ex.cap y hy,fun u hu=>((h.ex.ty y hy).1 u hu).1⟩⟩
theorem jJ.rdok {w : World} {d : DC} {p : DPl} (h : jJ w d p) : da 0 w d p:=by
 obtain ⟨B,r⟩:=h.ty.rt;obtain ⟨b,a⟩:=h.ex.re;exact ⟨r.mono (Nat.zero_le _),h.isT,a.mono (Nat.zero_le _),h.isE⟩
def xh (a : Nat) (k : Int) : Int:=if a = 0 then 0 else if a = 1 then 4 else if a = 5 then (if k = 1 then 2 else if k = 2 then 3 else 1) else k
def tH (a : Nat) (s : ByteArray) : ByteArray:=if a = 2 then ⟨#[118,97,108]⟩ else s
def lu (a : Nat) (x : TI) : TI:=if a = 6 then { x with op:=IntKind.i64.wrap (x.op + 1) } else if a = 7 then { x with md:=⟨#[105,110,116]⟩ } else if a = 8 then { x with ns:=x.ns ++ [⟨#[120]⟩] } else x
def jZ (a : Nat) (x : EI) : EI:=if a = 9 then { x with op:=IntKind.i64.wrap (x.op + 1) } else if a = 10 then { x with num:=IntKind.i64.wrap (x.num - 1) } else if a = 11 then { x with num:=1000000000 } else if a = 12 then { x with ty:=[cV 6] } else if a = 13 then { x with nm:=x.nm ++ ⟨#[66]⟩ } else x
def setF {α : Type} (l : List α) (k : Nat) (f : α -> α) : List α:=match l[k]? with
 | some x=>l.set k (f x)
 | none=>l
def k8 (a : Nat) (l : List TI) : List TI:=if a = 3 then l ++ [cV 1] else l
def lf (a : Nat) (l : List EI) : List EI:=if a = 4 then l ++ [⟨9,0,e0,e0,[],[]⟩] else l
def jX (a p : Nat) (l : List TI) : Nat:=if (k8 a l).length = 0 then p else p + 1
def pC (C : Nat -> Nat) (Ln a p : Nat) (d : DC) : DC:=⟨xh a d.kind,tH a d.nm,setF (k8 a d.ty) (tk C Ln p (k8 a d.ty).length) (lu a),setF (lf a d.ex) (tk C Ln (jX a p d.ty) (lf a d.ex).length) (jZ a)⟩
def gK (C : Nat -> Nat) (Ln p : Nat) (ds : List DC) : List DC:=setF ds (tk C Ln (p + 1) ds.length) (pC C Ln (tk C Ln p 14) (p + 1 + 1))
theorem kW {B : Nat} (w : World) {v1 v2 : Value} {xs ys : List (TI × NPl)} (h1 : RT B w v1 xs) (h2 : RT B w v2 ys) (hl : xs.length + ys.length <= 1000000) :
  Calls Tryz.prog 40 #[v1,v2] w fun e w'=>(∃ va n c,e = .returned (.slice va n c) /\ n = (xs ++ ys).length /\ Hid (w'.ownsRow w.heap.size 80 4 (.slice va n c) n (bg (xs ++ ys)))) /\ Hid (Bw w w'):=by
 obtain ⟨S,H,E,D,C⟩:=info_parts Tryz.infoTI;obtain ⟨a1,W,rfl⟩:=ad h1.own;obtain ⟨a2,Y,rfl⟩:=ad h2.own;have P : Hid (RT B w (.slice a1 xs.length W) xs):=h1;have Q : Hid (RT B w (.slice a2 ys.length Y) ys):=h2;have R : Hid ((w.alloc (.cells #[] 80)).ownsRow w.heap.size 80 4 (.slice (some ⟨w.heap.size,0,none⟩) 0 0) 0 (bg (xs.take 0))):=World.ownsRow_lit w #[] 0 (nlr _) (by unfold maxLen;omega) (by rfl);clear h1 h2;go_enter Tryz.func40,Tryz.ntmps40;go_wp2
 go_loopw [5,6] (fun v i wr=>∃ k : Nat,k <= xs.length /\ i = .int .i64 k /\ wr.ownsRow w.heap.size 80 4 v k (bg (xs.take k)) /\ Hid (Bw w wr)) (fun _ i _=>xs.length - (intOf i).toNat)
 case atStart=>exact ⟨0,Nat.zero_le _,rfl,R.out,bel1 _ _⟩
 case round=>
  clear R;obtain ⟨k,T,rfl,l,q⟩:=hrel;obtain ⟨va,I,rfl⟩:=ad l;have F:=q.out.size;by_cases d : k < xs.length
  case pos=>
   obtain ⟨g,V,z,N,L,p⟩:=au P.out.own (show 0 < xs.length by omega);simp only [Value.slice.injEq] at z;obtain ⟨rfl,-,rfl⟩:=z;have o:=P.out.below q.out;obtain ⟨x,m⟩:=xe (xs[k])
   have K : Hid (xs.take (k + 1) = xs.take k ++ [x]):=by
    show _ = _;rw [List.take_add_one,List.getElem?_eq_getElem d,m];rfl
   have y0 : wr.cell? ⟨g,k * 4,none⟩ = some (Value.int .i64 x.1.op):=af (f:=ei) aw o.own (j:=k) (r:=0) rfl d (by omega) (by rw [<- m];rfl);have Z : wr.cell? ⟨g,k * 4 + 1,none⟩ = some (Value.string x.1.md):=af (f:=ei) aw o.own rfl d (by omega) (by rw [<- m];rfl);have y2 : wr.cell? ⟨g,k * 4 + 2,none⟩ = some (Value.string x.1.nm):=af (f:=ei) aw o.own rfl d (by omega) (by rw [<- m];rfl);have y3 : wr.cell? ⟨g,k * 4 + 3,none⟩ = some (Value.slice x.2.a x.1.ns.length x.2.c):=af (f:=ei) aw o.own rfl d (by omega) (by rw [<- m];rfl);obtain ⟨X,hz⟩:=xe (x.1.op);clear o m;go_wp2_with (first | (at_builtin;refine wpList_append_lies _ rfl _ _ 34 rfl w.heap.size 80 S _ 4 64 Tryz.underlying34 H E D C rfl (by omega) (.slice va k I) k (bg (xs.take k)) rfl (l.alloc _) ⟨wr.heap.size,0,none⟩ 1 1 [Value.int .i64 x.1.op,Value.string x.1.md,Value.string x.1.nm,Value.slice x.2.a x.1.ns.length x.2.c] rfl rfl (World.news_of_block (cs:=#[Value.int .i64 x.1.op,Value.string x.1.md,Value.string x.1.nm,Value.slice x.2.a x.1.ns.length x.2.c]) (t:=80) (fr:=(0,0)) (heap_alloc_new wr _)) (by simp [Value.oneCell']) (by omega) (by unfold maxLen;omega) (by omega) (by simp only [World.size_alloc];omega) (wr.heap.size + 1) (by simp) ?_;intro gg G M h p J A));have O : Hid (Bw w M):=ae q.out p (fun b e=>(l.lt b e).1);refine ⟨⟨k + 1,by omega,by go_num,?_,O⟩,by simp [intOf];omega⟩;rw [K.out,cH];exact h
  have s : k = xs.length:=by omega
  subst s
  have u : Hid (wr.ownsRow w.heap.size 80 4 (.slice va xs.length I) (xs.length + 0) (bg (xs ++ ys.take 0))):=by
   show World.ownsRow _ _ _ _ _ _ _;rw [List.take_zero,List.append_nil,Nat.add_zero];rw [List.take_length] at l;exact l
  have y : Hid (Bw w wr):=q;clear l q d T F;go_wp2
  go_loopw [5,7] (fun v i wr=>∃ k : Nat,k <= ys.length /\ i = .int .i64 k /\ wr.ownsRow w.heap.size 80 4 v (xs.length + k) (bg (xs ++ ys.take k)) /\ Hid (Bw w wr)) (fun _ i _=>ys.length - (intOf i).toNat)
  case atStart=>exact ⟨0,Nat.zero_le _,rfl,u.out,y⟩
  case round=>
   rename World=>wr;clear u y;obtain ⟨k,T,rfl,l,q⟩:=hrel;obtain ⟨va,I,rfl⟩:=ad l;have F:=q.out.size;by_cases d : k < ys.length
   case pos=>
    obtain ⟨g,V,z,N,L,p⟩:=au Q.out.own (show 0 < ys.length by omega);simp only [Value.slice.injEq] at z;obtain ⟨rfl,-,rfl⟩:=z;have o:=Q.out.below q.out;obtain ⟨x,m⟩:=xe (ys[k])
    have K : Hid (ys.take (k + 1) = ys.take k ++ [x]):=by
     show _ = _;rw [List.take_add_one,List.getElem?_eq_getElem d,m];rfl
    have y0 : wr.cell? ⟨g,k * 4,none⟩ = some (Value.int .i64 x.1.op):=af (f:=ei) aw o.own (j:=k) (r:=0) rfl d (by omega) (by rw [<- m];rfl);have Z : wr.cell? ⟨g,k * 4 + 1,none⟩ = some (Value.string x.1.md):=af (f:=ei) aw o.own rfl d (by omega) (by rw [<- m];rfl);have y2 : wr.cell? ⟨g,k * 4 + 2,none⟩ = some (Value.string x.1.nm):=af (f:=ei) aw o.own rfl d (by omega) (by rw [<- m];rfl);have y3 : wr.cell? ⟨g,k * 4 + 3,none⟩ = some (Value.slice x.2.a x.1.ns.length x.2.c):=af (f:=ei) aw o.own rfl d (by omega) (by rw [<- m];rfl);obtain ⟨X,hz⟩:=xe (x.1.op);clear o m;go_wp2_with (first | (at_builtin;refine wpList_append_lies _ rfl _ _ 34 rfl w.heap.size 80 S _ 4 64 Tryz.underlying34 H E D C rfl (by omega) (.slice va (xs.length + k) I) (xs.length + k) (bg (xs ++ ys.take k)) rfl (l.alloc _) ⟨wr.heap.size,0,none⟩ 1 1 [Value.int .i64 x.1.op,Value.string x.1.md,Value.string x.1.nm,Value.slice x.2.a x.1.ns.length x.2.c] rfl rfl (World.news_of_block (cs:=#[Value.int .i64 x.1.op,Value.string x.1.md,Value.string x.1.nm,Value.slice x.2.a x.1.ns.length x.2.c]) (t:=80) (fr:=(0,0)) (heap_alloc_new wr _)) (by simp [Value.oneCell']) (by omega) (by unfold maxLen;omega) (by omega) (by simp only [World.size_alloc];omega) (wr.heap.size + 1) (by simp) ?_;intro gg G M h p J A));have O : Hid (Bw w M):=ae q.out p (fun b e=>(l.lt b e).1);refine ⟨⟨k + 1,by omega,by go_num,?_,O⟩,by simp [intOf];omega⟩;rw [K.out,<- List.append_assoc,cH];exact h
   have s : k = ys.length:=by omega
   subst s
   have U : Hid (wr.ownsRow w.heap.size 80 4 (.slice va (xs.length + ys.length) I) (xs.length + ys.length) (bg (xs ++ ys))):=by
    rw [List.take_length] at l;exact l
   clear l;go_wp2;go_ret;exact ⟨⟨_,_,_,rfl,lap.symm,U⟩,q⟩
theorem vm {w : World} {B n size j g c m : Nat} {t : TypeId} {L : List Value} {u : Value} (h : w.ownsRow B t size (.slice (some ⟨g,0,none⟩) n c) m L) : Kp t w (w.setCell ⟨g,j,none⟩ u):=fun k c' t' fr hk hne=>by
 refine Below.heap_setCell _ _ _ _ ?_;show k ≠ g;rintro rfl;rcases h.2 with ⟨e,_⟩ | ⟨g',cap,cur,e,_,hh,_⟩
 ·cases e
 ·simp only [Value.slice.injEq,Option.some.injEq,Addr.mk.injEq] at e
  obtain ⟨⟨rfl,_,_⟩,_,_⟩:=e;rw [hh] at hk;simp only [Option.some.injEq,Obj.cells.injEq] at hk;exact hne hk.2.1.symm
structure St (w0 wc : World) (K : Int) (NM : ByteArray) (tv ev : Value) (ta : Option Addr) (tc : Nat) (zs : List (TI × NPl)) (ea : Option Addr) (ec : Nat) (es : List (EI × EPl)) : Prop where
 bel : Bw w0 wc
 row : wc.rowIs w0.heap.size 37 4 (v4 (.int .i64 K) (.string NM) tv ev)
 tO : wc.ownsRow (w0.heap.size + 1) 80 4 (.slice ta zs.length tc) zs.length (bg zs)
 eO : wc.ownsRow (w0.heap.size + 1) 65 6 (.slice ea es.length ec) es.length (eisC es)
 tN : ∀ x,x ∈ zs -> aD 0 wc x.1.ns x.2
 eR : ∀ x,x ∈ es -> ga 0 wc x
 cT : ∀ y,y ∈ zs -> y.1.ns.length <= y.2.c
 cE : ∀ y,y ∈ es -> y.1.ns.length <= y.2.np.c /\ ∀ u,u ∈ y.2.zs -> u.1.ns.length <= u.2.c
def Bk (w0 : World) (es : List (EI × EPl)) : Prop:=∀ W,Bw w0 W -> ∀ x,x ∈ es -> ga 0 W x
theorem St.below {w0 wc w' : World} {K : Int} {NM : ByteArray} {tv ev : Value} {ta : Option Addr} {tc : Nat} {zs : List (TI × NPl)} {ea : Option Addr} {ec : Nat} {es : List (EI × EPl)} (h : St w0 wc K NM tv ev ta tc zs ea ec es) (hb : Bw wc w') : St w0 w' K NM tv ev ta tc zs ea ec es:=
 ⟨h.bel.trans (hb.mono h.bel.size),h.row.of_block (hb.block _ h.row.lt),az h.tO (ax hb) (by decide),az h.eO (ax hb) (by decide),fun x hx=>(h.tN x hx).below hb,fun x hx=>(h.eR x hx).kp (ax hb) (by decide) (by decide),h.cT,h.cE⟩
theorem St.put {w0 wc : World} {K K' : Int} {NM NM' : ByteArray} {tv ev tv' ev' : Value} {ta : Option Addr} {tc : Nat} {zs : List (TI × NPl)} {ea : Option Addr} {ec : Nat} {es : List (EI × EPl)} (h : St w0 wc K NM tv ev ta tc zs ea ec es) (i : Nat) (u : Value) (hf : ∀ j,j < 4 -> (if j = i then u else v4 (.int .i64 K) (.string NM) tv ev j) = v4 (.int .i64 K') (.string NM') tv' ev' j) : St w0 (wc.setCell ⟨w0.heap.size,i,none⟩ u) K' NM' tv' ev' ta tc zs ea ec es:=by
 have a:=uR h.row i u;exact ⟨h.bel.setCell (p:=⟨w0.heap.size,i,none⟩) (nlr _) _,(h.row.set i u).congr hf,az h.tO a (by decide),az h.eO a (by decide),fun x hx=>(h.tN x hx).kp a (by decide),fun x hx=>(h.eR x hx).kp a (by decide) (by decide),h.cT,h.cE⟩
theorem St.pushT {w0 wc w3 : World} {K : Int} {NM : ByteArray} {tv ev : Value} {ta : Option Addr} {tc : Nat} {zs : List (TI × NPl)} {ea : Option Addr} {ec : Nat} {es : List (EI × EPl)} (h : St w0 wc K NM tv ev ta tc zs ea ec es) (hO : Bk w0 es) {x : TI × NPl} (hx : aD 0 wc x.1.ns x.2) (hc : x.1.ns.length <= x.2.c) {o : Obj} {gg cap3 : Nat}
  (hown : w3.ownsRow (w0.heap.size + 1) 80 4 (.slice (some ⟨gg,0,none⟩) (zs.length + 1) cap3) (zs.length + 1) (bg zs ++ ei x)) (hg : (wc.alloc o).grownBy w3 (Value.slice ta zs.length tc).ownBlock) : St w0 w3 K NM tv ev (some ⟨gg,0,none⟩) cap3 (zs ++ [x]) ea ec es:=by
 have a : Kp 80 wc w3:=(bG _ wc o).trans (bF (h.tO.alloc o) hg);have b : Bw w0 w3:=ae h.bel hg (fun j e=>Nat.le_of_succ_le (h.tO.lt j e).1);refine ⟨b,cA h.row a (by decide),?_,az h.eO a (by decide),fun y hy=>?_,hO w3 b,fun y hy=>?_,h.cE⟩
 ·rw [cH,lap]
  exact hown
 ·rcases List.mem_append.1 hy with z | z
  ·exact (h.tN y z).kp a (by decide)
  ·rw [ms1 z];exact hx.kp a (by decide)
 ·rcases List.mem_append.1 hy with z | z
  ·exact h.cT y z
  ·rw [ms1 z];exact hc
theorem St.pushE {w0 wc w3 : World} {K : Int} {NM : ByteArray} {tv ev : Value} {ta : Option Addr} {tc : Nat} {zs : List (TI × NPl)} {ea : Option Addr} {ec : Nat} {es : List (EI × EPl)} (h : St w0 wc K NM tv ev ta tc zs ea ec es) {x : EI × EPl} (hx : ga 0 wc x) (hc : x.1.ns.length <= x.2.np.c /\ ∀ u,u ∈ x.2.zs -> u.1.ns.length <= u.2.c) {o : Obj} {gg cap3 : Nat}
  (hown : w3.ownsRow (w0.heap.size + 1) 65 6 (.slice (some ⟨gg,0,none⟩) (es.length + 1) cap3) (es.length + 1) (eisC es ++ cU x)) (hg : (wc.alloc o).grownBy w3 (Value.slice ea es.length ec).ownBlock) : St w0 w3 K NM tv ev ta tc zs (some ⟨gg,0,none⟩) cap3 (es ++ [x]):=by
 have a : Kp 65 wc w3:=(bG _ wc o).trans (bF (h.eO.alloc o) hg);have b : Bw w0 w3:=ae h.bel hg (fun j e=>Nat.le_of_succ_le (h.eO.lt j e).1);refine ⟨b,cA h.row a (by decide),az h.tO a (by decide),?_,fun y hy=>(h.tN y hy).kp a (by decide),fun y hy=>?_,h.cT,fun y hy=>?_⟩
 ·rw [fe,lap]
  exact hown
 ·rcases List.mem_append.1 hy with z | z
  ·exact (h.eR y z).kp a (by decide) (by decide)
  ·rw [ms1 z];exact hx.kp a (by decide) (by decide)
 ·rcases List.mem_append.1 hy with z | z
  ·exact h.cE y z
  ·rw [ms1 z];exact hc
theorem St.putK {w0 wc : World} {K : Int} {NM : ByteArray} {tv ev : Value} {ta : Option Addr} {tc : Nat} {zs : List (TI × NPl)} {ea : Option Addr} {ec : Nat} {es : List (EI × EPl)} (h : St w0 wc K NM tv ev ta tc zs ea ec es) (K' : Int) : St w0 (wc.setCell ⟨w0.heap.size,0,none⟩ (.int .i64 K')) K' NM tv ev ta tc zs ea ec es:=h.put 0 _ (fun j hj=>by match j,hj with | 0,_=>rfl | 1,_=>rfl | 2,_=>rfl | 3,_=>rfl)
theorem St.putN {w0 wc : World} {K : Int} {NM : ByteArray} {tv ev : Value} {ta : Option Addr} {tc : Nat} {zs : List (TI × NPl)} {ea : Option Addr} {ec : Nat} {es : List (EI × EPl)} (h : St w0 wc K NM tv ev ta tc zs ea ec es) (N' : ByteArray) : St w0 (wc.setCell ⟨w0.heap.size,1,none⟩ (.string N')) K N' tv ev ta tc zs ea ec es:=h.put 1 _ (fun j hj=>by match j,hj with | 0,_=>rfl | 1,_=>rfl | 2,_=>rfl | 3,_=>rfl)
theorem St.putT {w0 wc : World} {K : Int} {NM : ByteArray} {tv ev : Value} {ta : Option Addr} {tc : Nat} {zs : List (TI × NPl)} {ea : Option Addr} {ec : Nat} {es : List (EI × EPl)} (h : St w0 wc K NM tv ev ta tc zs ea ec es) (v : Value) : St w0 (wc.setCell ⟨w0.heap.size,2,none⟩ v) K NM v ev ta tc zs ea ec es:=h.put 2 _ (fun j hj=>by match j,hj with | 0,_=>rfl | 1,_=>rfl | 2,_=>rfl | 3,_=>rfl)
theorem St.putE {w0 wc : World} {K : Int} {NM : ByteArray} {tv ev : Value} {ta : Option Addr} {tc : Nat} {zs : List (TI × NPl)} {ea : Option Addr} {ec : Nat} {es : List (EI × EPl)} (h : St w0 wc K NM tv ev ta tc zs ea ec es) (v : Value) : St w0 (wc.setCell ⟨w0.heap.size,3,none⟩ v) K NM tv v ta tc zs ea ec es:=h.put 3 _ (fun j hj=>by match j,hj with | 0,_=>rfl | 1,_=>rfl | 2,_=>rfl | 3,_=>rfl)
theorem mem_setL {α : Type} {l : List α} {k : Nat} {x y : α} (h : y ∈ l.set k x) : y = x \/ y ∈ l:=by
 rcases List.mem_or_eq_of_mem_set h with h | h
 ·exact .inr h
 ·exact .inl h
theorem St.setT {w0 wc : World} {K : Int} {NM : ByteArray} {tv ev : Value} {g tc : Nat} {zs : List (TI × NPl)} {ea : Option Addr} {ec : Nat} {es : List (EI × EPl)} (h : St w0 wc K NM tv ev (some ⟨g,0,none⟩) tc zs ea ec es) (hO : Bk w0 es) {k r : Nat} (hk : k < zs.length) (hr : r < 4) {u : Value} {x : TI × NPl} (hx : ei x = (ei zs[k]).set r u) (hn : aD 0 wc x.1.ns x.2) (hc : x.1.ns.length <= x.2.c) : St w0 (wc.setCell ⟨g,k * 4 + r,none⟩ u) K NM tv ev (some ⟨g,0,none⟩) tc (zs.set k x) ea ec es:=by
 have a : Kp 80 wc (wc.setCell ⟨g,k * 4 + r,none⟩ u):=vm h.tO;have b : w0.heap.size + 1 <= g:=(h.tO.lt g rfl).1;have d : Bw w0 (wc.setCell ⟨g,k * 4 + r,none⟩ u):=h.bel.setCell (p:=⟨g,k * 4 + r,none⟩) (Nat.le_of_succ_le b) _;refine ⟨d,cA h.row a (by decide),?_,az h.eO a (by decide),fun y hy=>?_,hO _ d,fun y hy=>?_,h.cE⟩
 ·have e : bg (zs.set k x) = (bg zs).set (k * 4 + r) u:=(kz ei 4 aw hr u zs k hk x hx).symm
  rw [List.length_set,e];exact g7 h.tO (by have : (k + 1) * 4 <= zs.length * 4:=Nat.mul_le_mul_right _ hk;omega)
 ·rcases mem_setL hy with rfl | z
  ·exact hn.kp a (by decide)
  ·exact (h.tN y z).kp a (by decide)
 ·rcases mem_setL hy with rfl | z
  ·exact hc
  ·exact h.cT y z
theorem St.setE {w0 wc : World} {K : Int} {NM : ByteArray} {tv ev : Value} {ta : Option Addr} {g tc : Nat} {zs : List (TI × NPl)} {ec : Nat} {es : List (EI × EPl)} (h : St w0 wc K NM tv ev ta tc zs (some ⟨g,0,none⟩) ec es) {k r : Nat} (hk : k < es.length) (hr : r < 6) {u : Value} {x : EI × EPl} (hx : cU x = (cU es[k]).set r u) (hn : ga 0 wc x) (hc : x.1.ns.length <= x.2.np.c /\ ∀ u,u ∈ x.2.zs -> u.1.ns.length <= u.2.c) : St w0 (wc.setCell ⟨g,k * 6 + r,none⟩ u) K NM tv ev ta tc zs (some ⟨g,0,none⟩) ec (es.set k x):=by
 have a : Kp 65 wc (wc.setCell ⟨g,k * 6 + r,none⟩ u):=vm h.eO;have b : w0.heap.size + 1 <= g:=(h.eO.lt g rfl).1;have d : Bw w0 (wc.setCell ⟨g,k * 6 + r,none⟩ u):=h.bel.setCell (p:=⟨g,k * 6 + r,none⟩) (Nat.le_of_succ_le b) _;refine ⟨d,cA h.row a (by decide),az h.tO a (by decide),?_,fun y hy=>(h.tN y hy).kp a (by decide),fun y hy=>?_,h.cT,fun y hy=>?_⟩
 ·have e : eisC (es.set k x) = (eisC es).set (k * 6 + r) u:=(kz cU 6 av hr u es k hk x hx).symm
  rw [List.length_set,e];exact g7 h.eO (by have : (k + 1) * 6 <= es.length * 6:=Nat.mul_le_mul_right _ hk;omega)
 ·rcases mem_setL hy with rfl | z
  ·exact hn.kp a (by decide) (by decide)
  ·exact (h.eR y z).kp a (by decide) (by decide)
 ·rcases mem_setL hy with rfl | z
  ·exact hc
  ·exact h.cE y z
theorem St.rdok {w0 wc : World} {K : Int} {NM : ByteArray} {tv ev : Value} {ta : Option Addr} {tc : Nat} {zs : List (TI × NPl)} {ea : Option Addr} {ec : Nat} {es : List (EI × EPl)} (h : St w0 wc K NM tv ev ta tc zs ea ec es) : da 0 wc ⟨K,NM,zs.map Prod.fst,es.map Prod.fst⟩ ⟨.slice ta zs.length tc,zs,.slice ea es.length ec,es⟩ /\ ms ⟨.slice ta zs.length tc,zs,.slice ea es.length ec,es⟩:=
 ⟨⟨⟨aq h.tO (Nat.zero_le _),h.tN⟩,rfl,⟨aq h.eO (Nat.zero_le _),h.eR⟩,rfl⟩,⟨h.cT,h.cE⟩⟩
structure DO (B : Nat) (w : World) (va : Option Addr) (n c : Nat) (ys : List (DC × DPl)) : Prop where
 own : w.ownsRow B 37 4 (.slice va n c) n (bj ys)
 len : n = ys.length
 ok : ∀ x,x ∈ ys -> da 0 w x.1 x.2
 cap : ∀ x,x ∈ ys -> ms x.2
theorem DO.below {B : Nat} {w w' : World} {va : Option Addr} {n c : Nat} {ys : List (DC × DPl)} (h : DO B w va n c ys) (hb : Bw w w') : DO B w' va n c ys:=⟨az h.own (ax hb) (by decide),h.len,fun x hx=>(h.ok x hx).below hb,h.cap⟩
theorem DO.push {B : Nat} {w w3 : World} {va : Option Addr} {n c : Nat} {ys : List (DC × DPl)} {x : DC × DPl} {o : Obj} {gg cap3 : Nat} (h : DO B w va n c ys)
  (hown : w3.ownsRow B 37 4 (.slice (some ⟨gg,0,none⟩) (n + 1) cap3) (n + 1) (bj ys ++ fU x)) (hg : (w.alloc o).grownBy w3 (Value.slice va n c).ownBlock) (hx : da 0 w x.1 x.2) (hs : ms x.2) : DO B w3 (some ⟨gg,0,none⟩) (n + 1) cap3 (ys ++ [x]):=by
 have a : Kp 37 w w3:=(bG _ w o).trans (bF (h.own.alloc o) hg);refine ⟨by rw [gU];exact hown,by rw [lap,h.len];rfl,fun y hy=>?_,fun y hy=>?_⟩
 ·rcases List.mem_append.1 hy with z | z
  ·exact (h.ok y z).kp a (by decide) (by decide) (by decide)
  ·rw [ms1 z]
   exact hx.kp a (by decide) (by decide) (by decide)
 ·rcases List.mem_append.1 hy with z | z
  ·exact h.cap y z
  ·rw [ms1 z]
   exact hs
theorem jl {l : List DC} {e : DC} (h : e ∈ l) : cD e <= eX l:=by
 unfold eX
 have : cD e <= (l.map cD).sum:=by
  induction l with
  | nil=>cases h
  | cons a l ih=>
    simp only [List.map_cons,List.sum_cons];rcases List.mem_cons.1 h with rfl | h
    ·omega
    ·have:=ih h;omega
 omega
theorem fb {α : Type} (l : List α) (k : Nat) (f : α -> α) : (setF l k f).length = l.length:=by
 unfold setF
 cases h : l[k]? with
 | none=>rfl
 | some x=>exact List.length_set ..
theorem rT {α : Type} {l : List α} {k : Nat} (f : α -> α) (hk : k < l.length) : setF l k f = l.set k (f l[k]):=by
 unfold setF;rw [List.getElem?_eq_getElem hk]
theorem hG {α : Type} (l : List α) (k : Nat) {f : α -> α} (hf : ∀ x,f x = x) : setF l k f = l:=by
 unfold setF
 cases h : l[k]? with
 | none=>rfl
 | some x=>
   show l.set k (f x) = l;rw [hf];obtain ⟨a,e⟩:=List.getElem?_eq_some_iff.1 h;rw [<- e];exact List.set_getElem_self a
theorem vC {α : Type} (l : List α) (j : Nat) (f : α -> α) {k : Nat} (hk : k < l.length) : (setF l j f)[k]? = some (if k = j then f l[k] else l[k]):=by
 unfold setF;by_cases h : k = j
 ·subst h
  rw [List.getElem?_eq_getElem hk,if_pos rfl];show (l.set k (f l[k]))[k]? = _;rw [List.getElem?_set_self hk]
 ·rw [if_neg h]
  cases hj : l[j]? with
  | none=>exact List.getElem?_eq_getElem hk
  | some x=>
    show (l.set j (f x))[k]? = _;rw [List.getElem?_set_ne (Ne.symm h),List.getElem?_eq_getElem hk]
theorem oT {α β : Type} (f : α -> β) (l : List α) (k : Nat) (x : α) : (l.set k x).map f = (l.map f).set k (f x):=List.map_set ..
theorem jn {zs : List (TI × NPl)} {k : Nat} (hk : k < zs.length) {f : TI -> TI} {x : TI × NPl} (hx : x.1 = f zs[k].1) : (zs.set k x).map Prod.fst = setF (zs.map Prod.fst) k f:=by
 rw [rT f (by rw [List.length_map];exact hk),List.getElem_map,<- hx,oT]
theorem fj {zs : List (EI × EPl)} {k : Nat} (hk : k < zs.length) {f : EI -> EI} {x : EI × EPl} (hx : x.1 = f zs[k].1) : (zs.set k x).map Prod.fst = setF (zs.map Prod.fst) k f:=by
 rw [rT f (by rw [List.length_map];exact hk),List.getElem_map,<- hx,oT]
theorem fp {α : Type} {l : List α} (h : l.length = 0) (k : Nat) (f : α -> α) : setF l k f = l:=by
 rw [List.eq_nil_of_length_eq_zero h];rfl
theorem gS {α : Type} {l : List α} {k : Nat} {x : α} (h : l[k]? = some x) : l.take (k + 1) = l.take k ++ [x]:=by
 rw [List.take_add_one,h];rfl
theorem mM {C : Nat -> Nat} {Ln p : Nat} {ds : List DC} {k : Nat} (hk : k < ds.length) : (gK C Ln p ds)[k]? = some (if k = tk C Ln (p + 1) ds.length then pC C Ln (tk C Ln p 14) (p + 1 + 1) ds[k] else ds[k]):=by
 unfold gK;exact vC ds _ _ hk
end Go.Proofs.YtihedobejcaapaaGreatDoor
