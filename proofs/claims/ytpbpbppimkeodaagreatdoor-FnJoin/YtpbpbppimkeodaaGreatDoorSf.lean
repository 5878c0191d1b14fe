/-
  Pt Put
-/
import Derived.Test.YtpbpbppimkeodaaGreatDoorSe
set_option maxRecDepth 100000
namespace Go.Proofs.YtpbpbppimkeodaaGreatDoor
open Go.RowKit Go.Maps
structure PS where
 nr : Nat
 rows : Nat -> List Nat
 of : Nat -> Nat
 loc : Nat -> Nat
 waits : Nat -> Bool
 waiting : List Nat
def upd {α : Type} (f : Nat -> α) (i : Nat) (v : α) : Nat -> α:=fun j=>if j = i then v else f j
theorem upd_same {α : Type} (f : Nat -> α) (i : Nat) (v : α) : upd f i v i = v:=if_pos rfl
theorem upd_other {α : Type} (f : Nat -> α) {i j : Nat} (v : α) (h : j ≠ i) : upd f i v j = f j:=if_neg h
def v5 (a b c d e : Value) : Nat -> Value:=fun i=>if i = 0 then a else if i = 1 then b else if i = 2 then c else if i = 3 then d else e
def pblk (pb bo ba : Nat) (rv wv qv : Value) (rvs : Nat -> Value) (nr : Nat) : Nat -> Option Nat
 | 0=>some pb
 | 1=>some bo
 | 2=>some ba
 | 3=>rv.ownBlock
 | 4=>wv.ownBlock
 | 5=>qv.ownBlock
 | i + 6=>if i < nr then (rvs i).ownBlock else none
structure Pt (w : World) (base pb bo ba N : Nat) (rv wv qv : Value) (rvs : Nat -> Value) (s : PS) : Prop where
 row : w.rowIs pb 115 5 (v5 (.slice (some ⟨bo,0,none⟩) N N) rv (.slice (some ⟨ba,0,none⟩) N N) wv qv)
 of_ : w.rowIs bo 3 N (fun i=>.int .i64 (s.of i : Int))
 loc_ : w.rowIs ba 3 N (fun i=>.int .i64 (s.loc i : Int))
 rows : w.ownsRow base 25 1 rv s.nr ((List.range s.nr).map rvs)
 inner : ∀ i,i < s.nr -> w.ownsRow base 3 1 (rvs i) (s.rows i).length (icells (s.rows i))
 waits : w.ownsRow base 4 1 wv s.nr ((List.range s.nr).map fun i=>.bool (s.waits i))
 waiting : w.ownsRow base 3 1 qv s.waiting.length (icells s.waiting)
 dis : ∀ i j x,pblk pb bo ba rv wv qv rvs s.nr i = some x -> pblk pb bo ba rv wv qv rvs s.nr j = some x -> i = j
 big : base <= pb /\ base <= bo /\ base <= ba /\ base <= w.heap.size
theorem Pt.blk_lt {w : World} {base pb bo ba N : Nat} {rv wv qv : Value} {rvs : Nat -> Value} {s : PS} (h : Pt w base pb bo ba N rv wv qv rvs s) : ∀ i x,pblk pb bo ba rv wv qv rvs s.nr i = some x -> base <= x /\ x < w.heap.size
 | 0,x,e=>by
   simp only [pblk,Option.some.injEq] at e;subst e;exact ⟨h.big.1,h.row.lt⟩
 | 1,x,e=>by
   simp only [pblk,Option.some.injEq] at e;subst e;exact ⟨h.big.2.1,h.of_.lt⟩
 | 2,x,e=>by
   simp only [pblk,Option.some.injEq] at e;subst e;exact ⟨h.big.2.2.1,h.loc_.lt⟩
 | 3,x,e=>h.rows.lt x e
 | 4,x,e=>h.waits.lt x e
 | 5,x,e=>h.waiting.lt x e
 | i + 6,x,e=>by
   simp only [pblk] at e
   by_cases q : i < s.nr
   ·rw [if_pos q] at e;exact (h.inner i q).lt x e
   ·rw [if_neg q] at e;cases e
theorem Pt.later {w w' : World} {base pb bo ba N : Nat} {rv wv qv : Value} {rvs : Nat -> Value} {s : PS} (h : Pt w base pb bo ba N rv wv qv rvs s) (hs : w.heap.size <= w'.heap.size)
  (hb : ∀ i x,pblk pb bo ba rv wv qv rvs s.nr i = some x -> w'.heap[x]? = w.heap[x]?) : Pt w' base pb bo ba N rv wv qv rvs s:=
 ⟨h.row.of_block (hb 0 pb rfl),h.of_.of_block (hb 1 bo rfl),h.loc_.of_block (hb 2 ba rfl),own_block h.rows (fun k e=>hb 3 k e.symm),fun i hi=>own_block (h.inner i hi) (fun k e=>hb (i + 6) k (by simp only [pblk];rw [if_pos hi];exact e.symm)),
  own_block h.waits (fun k e=>hb 4 k e.symm),own_block h.waiting (fun k e=>hb 5 k e.symm),h.dis,⟨h.big.1,h.big.2.1,h.big.2.2.1,Nat.le_trans h.big.2.2.2 hs⟩⟩
theorem Pt.below {w w' : World} {base pb bo ba N : Nat} {rv wv qv : Value} {rvs : Nat -> Value} {s : PS} (h : Pt w base pb bo ba N rv wv qv rvs s) (hb : Below w.heap.size w w') : Pt w' base pb bo ba N rv wv qv rvs s:=
 h.later hb.size (fun i x e=>hb.block x (h.blk_lt i x e).2)
theorem pblk_upd {pb bo ba nr part : Nat} {rv wv qv v : Value} {rvs : Nat -> Value} (hp : part < nr) : ∀ i,pblk pb bo ba rv wv qv (upd rvs part v) nr i = if i = part + 6 then v.ownBlock else pblk pb bo ba rv wv qv rvs nr i
 | 0=>by rw [if_neg (by omega)];rfl
 | 1=>by rw [if_neg (by omega)];rfl
 | 2=>by rw [if_neg (by omega)];rfl
 | 3=>by rw [if_neg (by omega)];rfl
 | 4=>by rw [if_neg (by omega)];rfl
 | 5=>by rw [if_neg (by omega)];rfl
 | i + 6=>by
   simp only [pblk]
   by_cases e : i = part
   ·subst e;rw [if_pos hp,if_pos rfl,upd_same]
   ·rw [upd_other rvs v e,if_neg (show ¬ i + 6 = part + 6 by omega)]
structure Fr (base : Nat) (w w' : World) (blk blk' : Nat -> Option Nat) : Prop where
 below : Below base w w'
 frame : ∀ k,k < w.heap.size -> (∀ i,blk i ≠ some k) -> w'.heap[k]? = w.heap[k]?
 fresh : ∀ i x,blk' i = some x -> (∃ j,blk j = some x) \/ w.heap.size <= x
theorem Fr.trans {base : Nat} {w w1 w2 : World} {blk blk1 blk2 : Nat -> Option Nat} (h : Fr base w w1 blk blk1) (k : Fr base w1 w2 blk1 blk2) : Fr base w w2 blk blk2:=
 ⟨h.below.trans k.below,fun x hx hn=>(k.frame x (Nat.lt_of_lt_of_le hx h.below.size) (fun i e=>by
   rcases h.fresh i x e with ⟨j,q⟩ | q
   ·exact hn j q
   ·omega)).trans (h.frame x hx hn),fun i x e=>by
  rcases k.fresh i x e with ⟨j,q⟩ | q
  ·exact h.fresh j x q
  ·have:=h.below.size
   exact Or.inr (by omega)⟩
theorem dis_upd {w : World} {base pb bo ba N part g : Nat} {rv wv qv v : Value} {rvs : Nat -> Value} {s : PS} (h : Pt w base pb bo ba N rv wv qv rvs s) (hp : part < s.nr) (hv : v.ownBlock = some g) (hg : (rvs part).ownBlock = some g \/ w.heap.size <= g) :
  ∀ i j x,pblk pb bo ba rv wv qv (upd rvs part v) s.nr i = some x -> pblk pb bo ba rv wv qv (upd rvs part v) s.nr j = some x -> i = j:=by
 intro i j x hi hj
 rw [pblk_upd hp] at hi hj
 have hpp : pblk pb bo ba rv wv qv rvs s.nr (part + 6) = (rvs part).ownBlock:=by simp only [pblk];rw [if_pos hp]
 by_cases e1 : i = part + 6
 ·by_cases e2 : j = part + 6
  ·omega
  ·rw [if_pos e1,hv] at hi
   rw [if_neg e2] at hj
   cases hi
   rcases hg with q | q
   ·rw [<- hpp] at q;exact e1.trans (h.dis _ _ _ q hj)
   ·have:=(h.blk_lt j _ hj).2;omega
 ·by_cases e2 : j = part + 6
  ·rw [if_pos e2,hv] at hj
   rw [if_neg e1] at hi
   cases hj
   rcases hg with q | q
   ·rw [<- hpp] at q;exact (h.dis _ _ _ hi q).trans e2.symm
   ·have:=(h.blk_lt i _ hi).2;omega
  ·rw [if_neg e1] at hi
   rw [if_neg e2] at hj
   exact h.dis _ _ _ hi hj
theorem map_set {α : Type} (f : Nat -> α) (n k : Nat) (v : α) : ((List.range n).map f).set k v = (List.range n).map (upd f k v):=by
 apply List.ext_getElem
 ·simp
 ·intro i h1 h2
  simp only [List.length_set,List.length_map,List.length_range] at h1
  rw [List.getElem_set]
  simp only [List.getElem_map,List.getElem_range,upd]
  by_cases e : k = i
  ·subst e;simp
  ·rw [if_neg e,if_neg (fun q=>e q.symm)]
theorem Pt.put {w w3 : World} {base pb bo ba N rb capR L cap gg cap3 node part : Nat} {oa : Option Addr} {wv qv : Value} {rvs : Nat -> Value} {s : PS} {o2 : Obj}
  (h : Pt w base pb bo ba N (.slice (some ⟨rb,0,none⟩) s.nr capR) wv qv rvs s) (hp : part < s.nr) (hL : L = (s.rows part).length) (hv : rvs part = .slice oa L cap)
  (hown3 : w3.ownsRow base 3 1 (.slice (some ⟨gg,0,none⟩) (L + 1) cap3) (L + 1) (icells (s.rows part) ++ [.int .i64 (node : Int)]))
  (hg3 : (((w.setCell ⟨bo,node,none⟩ (.int .i64 (part : Int))).setCell ⟨ba,node,none⟩ (.int .i64 (L : Int))).alloc o2).grownBy w3 (Value.slice oa L cap).ownBlock) (hat : (Value.slice oa L cap).ownBlock = some gg \/ gg = w.heap.size + 1) :
  Pt (w3.setCell ⟨rb,part,none⟩ (.slice (some ⟨gg,0,none⟩) (L + 1) cap3)) base pb bo ba N (.slice (some ⟨rb,0,none⟩) s.nr capR) wv qv (upd rvs part (.slice (some ⟨gg,0,none⟩) (L + 1) cap3))
   { s with of:=upd s.of node part,loc:=upd s.loc node L,rows:=upd s.rows part (s.rows part ++ [node]) } /\ Fr base w (w3.setCell ⟨rb,part,none⟩ (.slice (some ⟨gg,0,none⟩) (L + 1) cap3)) (pblk pb bo ba (.slice (some ⟨rb,0,none⟩) s.nr capR) wv qv rvs s.nr) (pblk pb bo ba (.slice (some ⟨rb,0,none⟩) s.nr capR) wv qv (upd rvs part (.slice (some ⟨gg,0,none⟩) (L + 1) cap3)) s.nr):=by
 have hs2 : ((w.setCell ⟨bo,node,none⟩ (.int .i64 (part : Int))).setCell ⟨ba,node,none⟩ (.int .i64 (L : Int))).heap.size = w.heap.size:=by simp [World.setCell]
 have hsz:=hg3.size
 have e3 : (((w.setCell ⟨bo,node,none⟩ (.int .i64 (part : Int))).setCell ⟨ba,node,none⟩ (.int .i64 (L : Int))).alloc o2).heap.size = w.heap.size + 1:=by rw [World.size_alloc,hs2]
 have hs4 : (w3.setCell ⟨rb,part,none⟩ (.slice (some ⟨gg,0,none⟩) (L + 1) cap3)).heap.size = w3.heap.size:=by simp [World.setCell]
 have P0 : pblk pb bo ba (.slice (some ⟨rb,0,none⟩) s.nr capR) wv qv rvs s.nr 0 = some pb:=rfl
 have P1 : pblk pb bo ba (.slice (some ⟨rb,0,none⟩) s.nr capR) wv qv rvs s.nr 1 = some bo:=rfl
 have P2 : pblk pb bo ba (.slice (some ⟨rb,0,none⟩) s.nr capR) wv qv rvs s.nr 2 = some ba:=rfl
 have P3 : pblk pb bo ba (.slice (some ⟨rb,0,none⟩) s.nr capR) wv qv rvs s.nr 3 = some rb:=rfl
 have PP : pblk pb bo ba (.slice (some ⟨rb,0,none⟩) s.nr capR) wv qv rvs s.nr (part + 6) = (Value.slice oa L cap).ownBlock:=by simp only [pblk];rw [if_pos hp,hv]
 have lt:=h.blk_lt
 have b3 : ∀ x,x < w.heap.size -> some x ≠ (Value.slice oa L cap).ownBlock -> w3.heap[x]? = ((w.setCell ⟨bo,node,none⟩ (.int .i64 (part : Int))).setCell ⟨ba,node,none⟩ (.int .i64 (L : Int))).heap[x]?:=fun x hx hn=>(hg3.block x (by rw [e3];omega) hn).trans (Below.heap_alloc _ _ _ (by rw [hs2];exact hx))
 have b4 : ∀ x,x ≠ rb -> (w3.setCell ⟨rb,part,none⟩ (.slice (some ⟨gg,0,none⟩) (L + 1) cap3)).heap[x]? = w3.heap[x]?:=fun x hx=>Below.heap_setCell _ _ _ _ (by show x ≠ rb;exact hx)
 have nob : ∀ i x,i ≠ part + 6 -> pblk pb bo ba (.slice (some ⟨rb,0,none⟩) s.nr capR) wv qv rvs s.nr i = some x -> some x ≠ (Value.slice oa L cap).ownBlock:=fun i x hi hx e=>hi (h.dis _ _ x hx (by rw [PP];exact e.symm))
 have key : ∀ i x,i ≠ 1 -> i ≠ 2 -> i ≠ 3 -> i ≠ part + 6 -> pblk pb bo ba (.slice (some ⟨rb,0,none⟩) s.nr capR) wv qv rvs s.nr i = some x -> (w3.setCell ⟨rb,part,none⟩ (.slice (some ⟨gg,0,none⟩) (L + 1) cap3)).heap[x]? = w.heap[x]?:=fun i x h1 h2 h3 h4 hx=>by
  rw [b4 x (fun e=>h3 (h.dis _ _ x hx (by rw [P3,e]))),b3 x (lt i x hx).2 (nob i x h4 hx)]
  rw [Below.heap_setCell _ _ _ _ (by show x ≠ ba;exact fun e=>h2 (h.dis _ _ x hx (by rw [P2,e]))),Below.heap_setCell _ _ _ _ (by show x ≠ bo;exact fun e=>h1 (h.dis _ _ x hx (by rw [P1,e])))]
 have nbo : bo ≠ ba:=fun e=>by have:=h.dis 1 2 bo P1 (by rw [P2,e]);omega
 have ggr : gg ≠ rb:=fun e=>by
  rcases hat with q | q
  ·rw [e] at q;have:=h.dis _ _ rb P3 (by rw [PP];exact q);omega
  ·have:=(lt 3 rb P3).2;omega
 have HD:=dis_upd (v:=.slice (some ⟨gg,0,none⟩) (L + 1) cap3) h hp (g:=gg) rfl (by rw [hv];rcases hat with q | q;exact Or.inl q;exact Or.inr (by omega))
 refine ⟨⟨h.row.of_block (key 0 pb (by omega) (by omega) (by omega) (by omega) P0),?_,?_,?_,fun i hi=>?_,own_block h.waits (fun k e=>key 4 k (by omega) (by omega) (by omega) (by omega) e.symm),own_block h.waiting (fun k e=>key 5 k (by omega) (by omega) (by omega) (by omega) e.symm),
  HD,⟨h.big.1,h.big.2.1,h.big.2.2.1,by have:=h.big.2.2.2;rw [hs4];omega⟩⟩,⟨⟨hg3.os,hg3.tape,hg3.output,by rw [hs4];omega,fun k hk=>?_⟩,fun k hk hno=>?_,fun j x e=>?_⟩⟩
 ·have hb:=(lt 1 bo P1).2
  refine ((h.of_.set node (.int .i64 (part : Int))).of_block ?_).congr (fun i _=>?_)
  ·rw [b4 bo (fun e=>by have:=h.dis 1 3 bo P1 (by rw [P3,e]);omega),b3 bo hb (nob 1 bo (by omega) P1)]
   exact Below.heap_setCell _ _ _ _ (by show bo ≠ ba;exact nbo)
  ·simp only [upd]
   by_cases e : i = node
   ·rw [if_pos e,if_pos e]
   ·rw [if_neg e,if_neg e]
 ·have hb:=(lt 2 ba P2).2
  have r2 : (w.setCell ⟨bo,node,none⟩ (.int .i64 (part : Int))).rowIs ba 3 N (fun i=>.int .i64 (s.loc i : Int)):=h.loc_.of_block (Below.heap_setCell _ _ _ _ (by show ba ≠ bo;exact fun e=>nbo e.symm))
  refine ((r2.set node (.int .i64 (L : Int))).of_block ?_).congr (fun i _=>?_)
  ·rw [b4 ba (fun e=>by have:=h.dis 2 3 ba P2 (by rw [P3,e]);omega),b3 ba hb (nob 2 ba (by omega) P2)]
  ·simp only [upd]
   by_cases e : i = node
   ·rw [if_pos e,if_pos e]
   ·rw [if_neg e,if_neg e]
 ·have hr : w3.ownsRow base 25 1 (.slice (some ⟨rb,0,none⟩) s.nr capR) s.nr ((List.range s.nr).map rvs):=own_block h.rows (fun k e=>by
   have : k = rb:=by simpa [Value.ownBlock] using e
   subst this
   rw [b3 k (lt 3 k P3).2 (nob 3 k (by omega) P3),Below.heap_setCell _ _ _ _ (by show k ≠ ba;exact fun e=>by have:=h.dis 2 3 k (by rw [P2,e]) P3;omega),Below.heap_setCell _ _ _ _ (by show k ≠ bo;exact fun e=>by have:=h.dis 1 3 k (by rw [P1,e]) P3;omega)])
  have:=(hr.stored part (.slice (some ⟨gg,0,none⟩) (L + 1) cap3)).1
  rw [map_set] at this
  exact this
 ·by_cases e : i = part
  ·subst e
   show World.ownsRow _ base 3 1 (upd rvs i _ i) (upd s.rows i _ i).length (icells (upd s.rows i _ i))
   rw [upd_same,upd_same,List.length_append,icells_snoc,<- hL]
   exact own_block hown3 (fun k e=>b4 k (by
    have : k = gg:=by simpa [Value.ownBlock] using e
    omega))
  ·show World.ownsRow _ base 3 1 (upd rvs part _ i) (upd s.rows part _ i).length (icells (upd s.rows part _ i))
   rw [upd_other rvs _ e,upd_other s.rows _ e]
   exact own_block (h.inner i hi) (fun k q=>key (i + 6) k (by omega) (by omega) (by omega) (by omega) (by simp only [pblk];rw [if_pos (show i < s.nr from hi)];exact q.symm))
 ·have h1:=(lt 1 bo P1).1
  have h2:=(lt 2 ba P2).1
  have h3:=(lt 3 rb P3).1
  have hb:=h.big.2.2.2
  rw [b4 k (by omega),b3 k (by omega) (fun e=>by have:=(lt (part + 6) k (by rw [PP];exact e.symm)).1;omega),Below.heap_setCell _ _ _ _ (by show k ≠ ba;omega),Below.heap_setCell _ _ _ _ (by show k ≠ bo;omega)]
 ·rw [b4 k (fun e=>hno 3 (by rw [P3,e])),b3 k hk (fun e=>hno (part + 6) (by rw [PP];exact e.symm)),Below.heap_setCell _ _ _ _ (by show k ≠ ba;exact fun e=>hno 2 (by rw [P2,e])),Below.heap_setCell _ _ _ _ (by show k ≠ bo;exact fun e=>hno 1 (by rw [P1,e]))]
 ·rw [pblk_upd hp] at e
  by_cases q : j = part + 6
  ·rw [if_pos q] at e
   have : gg = x:=by simpa [Value.ownBlock] using e
   subst this
   rcases hat with z | z
   ·exact Or.inl ⟨part + 6,by rw [PP];exact z⟩
   ·exact Or.inr (by omega)
  ·rw [if_neg q] at e
   exact Or.inl ⟨j,e⟩
theorem own_some {w : World} {base : Nat} {e : TypeId} {v : Value} {n : Nat} {xs : List Value} (h : w.ownsRow base e 1 v n xs) (hn : 0 < n) : ∃ g cap,v = .slice (some ⟨g,0,none⟩) n cap /\ (∀ j,j < n -> w.cell? ⟨g,j,none⟩ = xs[j]?) /\ (∀ j,w.frozen? ⟨g,j,none⟩ = false) /\ g < w.heap.size:=by
 rcases h.2 with ⟨_,h0⟩ | ⟨g,cap,cur,hv,hb,hh,r⟩
 ·omega
 ·subst hv
  exact ⟨g,cap,rfl,fun j hj=>h.cellAt j (by omega),fun j=>h.frozenAt j,(Array.getElem?_eq_some_iff.1 hh).1⟩
set_option maxHeartbeats 4000000 in
theorem c97 (base pb bo ba N : Nat) (rv wv qv : Value) (rvs : Nat -> Value) (s : PS) (node part : Nat) (w : World) (h : Pt w base pb bo ba N rv wv qv rvs s) (hn : node < N) (hp : part < s.nr) (_hN : N <= 1048576) (hr : s.nr <= 1048576) (hl : (s.rows part).length <= 1048576) :
  Calls Tryz.prog 104 #[.pointer (some ⟨pb,0,none⟩),.int .i64 (node : Int),.int .i64 (part : Int)] w fun e w'=>e = .returned (.tuple #[]) /\ ∃ v',Pt w' base pb bo ba N rv wv qv (upd rvs part v') { s with of:=upd s.of node part,loc:=upd s.loc node (s.rows part).length,rows:=upd s.rows part (s.rows part ++ [node]) } /\ Fr base w w' (pblk pb bo ba rv wv qv rvs s.nr) (pblk pb bo ba rv wv qv (upd rvs part v') s.nr):=by
 obtain ⟨rb,capR,rfl,hrc,hrf,hrl⟩:=own_some h.rows (by omega)
 obtain ⟨oa,cap,hv⟩:=own_form (h.inner part hp)
 obtain ⟨L,hL⟩ : ∃ L,L = (s.rows part).length:=⟨_,rfl⟩
 have HL : Hid (L = (s.rows part).length):=hL
 rw [<- hL] at hv hl
 have HV : Hid (rvs part = .slice oa L cap):=hv
 have HH : Hid (Pt w base pb bo ba N (.slice (some ⟨rb,0,none⟩) s.nr capR) wv qv rvs s):=h
 have r0 : w.cell? ⟨pb,0,none⟩ = some (.slice (some ⟨bo,0,none⟩) N N):=h.row.cell (i:=0) (by omega)
 have r1 : w.cell? ⟨pb,1,none⟩ = some (.slice (some ⟨rb,0,none⟩) s.nr capR):=h.row.cell (i:=1) (by omega)
 have r2 : w.cell? ⟨pb,2,none⟩ = some (.slice (some ⟨ba,0,none⟩) N N):=h.row.cell (i:=2) (by omega)
 have c0:=h.of_.cell hn
 have c1:=h.of_.frozen node
 have d0:=h.loc_.cell hn
 have d1:=h.loc_.frozen node
 have x0 : w.cell? ⟨rb,part,none⟩ = some (.slice oa L cap):=by rw [hrc part hp];simp [hp,hv]
 have x1:=hrf part
 have n1 : pb ≠ bo:=fun e=>by have:=h.dis 0 1 pb rfl (by show some bo = some pb;rw [e]);omega
 have n2 : pb ≠ ba:=fun e=>by have:=h.dis 0 2 pb rfl (by show some ba = some pb;rw [e]);omega
 have n3 : ba ≠ bo:=fun e=>by have:=h.dis 2 1 ba rfl (by show some bo = some ba;rw [e]);omega
 have n4 : rb ≠ bo:=fun e=>by have:=h.dis 3 1 rb rfl (by show some bo = some rb;rw [e]);omega
 have n5 : rb ≠ ba:=fun e=>by have:=h.dis 3 2 rb rfl (by show some ba = some rb;rw [e]);omega
 have n6 : rb ≠ pb:=fun e=>by have:=h.dis 3 0 rb rfl (by show some pb = some rb;rw [e]);omega
 clear h hrc hrf hL hv
 go_enter Tryz.func104,Tryz.ntmps104
 go_wp2_with fail
 obtain ⟨wa,hwa⟩ : ∃ wa,wa = w.setCell ⟨bo,node,none⟩ (.int .i64 (part : Int)):=⟨_,rfl⟩
 have a1 : wa.cell? ⟨pb,1,none⟩ = some (.slice (some ⟨rb,0,none⟩) s.nr capR):=by rw [hwa,far_cell (by show pb ≠ bo;exact n1)];exact r1
 have a2 : wa.cell? ⟨pb,2,none⟩ = some (.slice (some ⟨ba,0,none⟩) N N):=by rw [hwa,far_cell (by show pb ≠ bo;exact n1)];exact r2
 have a3 : wa.cell? ⟨rb,part,none⟩ = some (.slice oa L cap):=by rw [hwa,far_cell (by show rb ≠ bo;exact n4)];exact x0
 have a4 : wa.cell? ⟨ba,node,none⟩ = some (.int .i64 (s.loc node : Int)):=by rw [hwa,far_cell (by show ba ≠ bo;exact n3)];exact d0
 have a5 : wa.frozen? ⟨ba,node,none⟩ = false:=by rw [hwa,World.frozen?_of_block (w:=w) (Below.heap_setCell _ _ _ _ (by show ba ≠ bo;exact n3))];exact d1
 have b1 : (wa.setCell ⟨ba,node,none⟩ (.int .i64 (L : Int))).cell? ⟨pb,1,none⟩ = some (.slice (some ⟨rb,0,none⟩) s.nr capR):=by rw [far_cell (by show pb ≠ ba;exact n2)];exact a1
 have b2 : (wa.setCell ⟨ba,node,none⟩ (.int .i64 (L : Int))).cell? ⟨pb,2,none⟩ = some (.slice (some ⟨ba,0,none⟩) N N):=by rw [far_cell (by show pb ≠ ba;exact n2)];exact a2
 have b3 : (wa.setCell ⟨ba,node,none⟩ (.int .i64 (L : Int))).cell? ⟨rb,part,none⟩ = some (.slice oa L cap):=by rw [far_cell (by show rb ≠ ba;exact n5)];exact a3
 have b6 : (wa.setCell ⟨ba,node,none⟩ (.int .i64 (L : Int))).frozen? ⟨rb,part,none⟩ = false:=by rw [World.frozen?_of_block (w:=wa) (Below.heap_setCell _ _ _ _ (by show rb ≠ ba;exact n5)),hwa,World.frozen?_of_block (w:=w) (Below.heap_setCell _ _ _ _ (by show rb ≠ bo;exact n4))];exact x1
 rw [<- hwa]
 have HWA : Hid (wa = w.setCell ⟨bo,node,none⟩ (.int .i64 (part : Int))):=hwa
 have hi1 : (node : Int) < (N : Int):=by omega
 have hi2 : (part : Int) < (s.nr : Int):=by omega
 clear r0 r1 r2 c0 c1 d0 d1 x0 x1 hwa
 go_region_held3 (fun w'=>w'.cell? ⟨pb,1,none⟩ = some (.slice (some ⟨rb,0,none⟩) s.nr capR) /\ w'.cell? ⟨pb,2,none⟩ = some (.slice (some ⟨ba,0,none⟩) N N) /\ w'.cell? ⟨rb,part,none⟩ = some (.slice oa L cap)) (go_keep) (fail)
 all_goals
  obtain ⟨wb,hwb⟩ : ∃ wb,wb = wa.setCell ⟨ba,node,none⟩ (.int .i64 (L : Int)):=⟨_,rfl⟩
  have HWB : Hid (wb = wa.setCell ⟨ba,node,none⟩ (.int .i64 (L : Int))):=hwb
  have hsz : Hid (wb.heap.size = w.heap.size):=by show _ = _;rw [hwb,HWA.out];simp [World.setCell]
  have PP : pblk pb bo ba (.slice (some ⟨rb,0,none⟩) s.nr capR) wv qv rvs s.nr (part + 6) = (Value.slice oa L cap).ownBlock:=by simp only [pblk];rw [if_pos hp,HV.out]
  have OWN : wb.ownsRow base 3 1 (.slice oa L cap) L (icells (s.rows part)):=by
   have h:=HH.out.inner part hp
   rw [HV.out,<- HL.out] at h
   refine own_block h (fun x e=>?_)
   rw [hwb,HWA.out,Below.heap_setCell _ _ _ _ (by show x ≠ ba;exact fun q=>by have:=HH.out.dis (part + 6) 2 x (by rw [PP];exact e.symm) (by show some ba = some x;rw [q]);omega),Below.heap_setCell _ _ _ _ (by show x ≠ bo;exact fun q=>by have:=HH.out.dis (part + 6) 1 x (by rw [PP];exact e.symm) (by show some bo = some x;rw [q]);omega)]
  have np : some pb ≠ (Value.slice oa L cap).ownBlock:=fun e=>by have:=HH.out.dis 0 (part + 6) pb rfl (by rw [PP];exact e.symm);omega
  have nr : some rb ≠ (Value.slice oa L cap).ownBlock:=fun e=>by have:=HH.out.dis 3 (part + 6) rb rfl (by rw [PP];exact e.symm);omega
  have lp : pb < wb.heap.size:=by rw [hsz.out];exact HH.out.row.lt
  have lr : rb < wb.heap.size:=by rw [hsz.out];exact hrl
  have hbase : base <= wb.heap.size:=by rw [hsz.out];exact HH.out.big.2.2.2
  rw [<- hwb] at b1 b2 b3 b6 ⊢
  have f1 : (wb.alloc (.cells #[.int .i64 (node : Int)] 3)).cell? ⟨pb,1,none⟩ = some (.slice (some ⟨rb,0,none⟩) s.nr capR):=(World.cell?_of_block (w:=wb) (Below.heap_alloc _ _ _ lp)).trans b1
  have f3 : (wb.alloc (.cells #[.int .i64 (node : Int)] 3)).cell? ⟨rb,part,none⟩ = some (.slice oa L cap):=(World.cell?_of_block (w:=wb) (Below.heap_alloc _ _ _ lr)).trans b3
  obtain ⟨i0,hi0,hz0,hz1,hz2⟩:=info_parts Tryz.info3
  clear hwb a1 a2 a3 a4 a5 PP
  go_wp2_with fail
  go_region_law (refine step_append_lies _ (by rfl) _ _ _ (by rfl) base 3 i0 (.int .i64 0) 1 8 Tryz.underlying25 hi0 hz0 hz1 hz2 rfl (by omega) (.slice oa L cap) L (icells (s.rows part)) (by rfl) (by exact OWN.alloc _) ⟨wb.heap.size,0,none⟩ 1 1 [.int .i64 (node : Int)] (by rfl) (by rfl) (World.news_of_block (cs:=#[.int .i64 (node : Int)]) (t:=3) (fr:=(0,0)) (heap_alloc_new wb _)) (by simp [Value.oneCell']) (by omega) (by unfold maxLen;omega) (by omega) (by simp;omega) (wb.heap.size + 1) (by simp) ?_;intro gg cap3 w3 hown3 hg3 hat hlt3;have y1 : w3.cell? ⟨pb,1,none⟩ = some (.slice (some ⟨rb,0,none⟩) s.nr capR):=(hg3.cell_far ⟨pb,1,none⟩ (by simp;omega) np).trans f1;have y3 : w3.cell? ⟨rb,part,none⟩ = some (.slice oa L cap):=(hg3.cell_far ⟨rb,part,none⟩ (by simp;omega) nr).trans f3;have y4 : w3.frozen? ⟨rb,part,none⟩ = false:=(World.frozen?_of_block (w:=wb) ((hg3.block rb (by simp;omega) nr).trans (Below.heap_alloc _ _ _ lr))).trans b6)
  all_goals
   have FIN:=Pt.put (o2:=.cells #[.int .i64 (node : Int)] 3) HH.out hp HL.out HV.out hown3 (by
    have h : (wb.alloc (.cells #[.int .i64 (node : Int)] 3)).grownBy w3 (Value.slice oa L cap).ownBlock:=⟨hg3.os,hg3.tape,hg3.output,hg3.size,hg3.block⟩
    rw [HWB.out,HWA.out] at h;exact h) (by rw [hsz.out] at hat;exact hat)
   rw [HL.out] at FIN
   have FH : Hid _:=FIN
   clear FIN hown3 hg3 hat y1 y3 y4 f1 f3 b1 b2 b3 b6 OWN
   go_wp2
   exact bodyPost_end (v:=.tuple #[]) (by simp [results,Tryz.results104]) rfl ⟨rfl,.slice (some ⟨gg,0,none⟩) ((s.rows part).length + 1) cap3,by rw [HL.out];exact FH.out⟩
end Go.Proofs.YtpbpbppimkeodaaGreatDoor
