/-
  Wait Pt2 Take
-/
import Derived.Test.YtpbpbppimkeodaaGreatDoorSf
set_option maxRecDepth 100000
namespace Go.Proofs.YtpbpbppimkeodaaGreatDoor
open Go.RowKit Go.Maps
theorem pblk_q {pb bo ba nr : Nat} {rv wv qv qv' : Value} {rvs : Nat -> Value} : ∀ i,pblk pb bo ba rv wv qv' rvs nr i = if i = 5 then qv'.ownBlock else pblk pb bo ba rv wv qv rvs nr i
 | 0=>rfl
 | 1=>rfl
 | 2=>rfl
 | 3=>rfl
 | 4=>rfl
 | 5=>rfl
 | i + 6=>by rw [if_neg (show ¬ i + 6 = 5 by omega)];rfl
theorem dis_piece {blk blk' : Nat -> Option Nat} {k g H : Nat} (hd : ∀ i j x,blk i = some x -> blk j = some x -> i = j) (hl : ∀ i x,blk i = some x -> x < H) (hb : ∀ i,blk' i = if i = k then some g else blk i) (hg : blk k = some g \/ H <= g) :
  ∀ i j x,blk' i = some x -> blk' j = some x -> i = j:=by
 intro i j x hi hj
 rw [hb] at hi hj
 by_cases e1 : i = k
 ·by_cases e2 : j = k
  ·omega
  ·rw [if_pos e1] at hi
   rw [if_neg e2] at hj
   cases hi
   rcases hg with q | q
   ·exact e1.trans (hd _ _ _ q hj)
   ·have:=hl j _ hj;omega
 ·by_cases e2 : j = k
  ·rw [if_pos e2] at hj
   rw [if_neg e1] at hi
   cases hj
   rcases hg with q | q
   ·exact (hd _ _ _ hi q).trans e2.symm
   ·have:=hl i _ hi;omega
  ·rw [if_neg e1] at hi
   rw [if_neg e2] at hj
   exact hd _ _ _ hi hj
theorem Pt.wait {w w3 : World} {base pb bo ba N wbk capW cap gg cap3 part : Nat} {oa : Option Addr} {rv : Value} {rvs : Nat -> Value} {s : PS} {o2 : Obj}
  (h : Pt w base pb bo ba N rv (.slice (some ⟨wbk,0,none⟩) s.nr capW) (.slice oa s.waiting.length cap) rvs s)
  (hown3 : w3.ownsRow base 3 1 (.slice (some ⟨gg,0,none⟩) (s.waiting.length + 1) cap3) (s.waiting.length + 1) (icells s.waiting ++ [.int .i64 (part : Int)]))
  (hg3 : ((w.setCell ⟨wbk,part,none⟩ (.bool true)).alloc o2).grownBy w3 (Value.slice oa s.waiting.length cap).ownBlock) (hat : (Value.slice oa s.waiting.length cap).ownBlock = some gg \/ gg = w.heap.size + 1) :
  Pt (w3.setCell ⟨pb,4,none⟩ (.slice (some ⟨gg,0,none⟩) (s.waiting.length + 1) cap3)) base pb bo ba N rv (.slice (some ⟨wbk,0,none⟩) s.nr capW) (.slice (some ⟨gg,0,none⟩) (s.waiting.length + 1) cap3) rvs
   { s with waits:=upd s.waits part true,waiting:=s.waiting ++ [part] } /\ Fr base w (w3.setCell ⟨pb,4,none⟩ (.slice (some ⟨gg,0,none⟩) (s.waiting.length + 1) cap3)) (pblk pb bo ba rv (.slice (some ⟨wbk,0,none⟩) s.nr capW) (.slice oa s.waiting.length cap) rvs s.nr) (pblk pb bo ba rv (.slice (some ⟨wbk,0,none⟩) s.nr capW) (.slice (some ⟨gg,0,none⟩) (s.waiting.length + 1) cap3) rvs s.nr):=by
 have hs2 : (w.setCell ⟨wbk,part,none⟩ (.bool true)).heap.size = w.heap.size:=by simp [World.setCell]
 have hsz:=hg3.size
 have e3 : ((w.setCell ⟨wbk,part,none⟩ (.bool true)).alloc o2).heap.size = w.heap.size + 1:=by rw [World.size_alloc,hs2]
 have hs4 : (w3.setCell ⟨pb,4,none⟩ (.slice (some ⟨gg,0,none⟩) (s.waiting.length + 1) cap3)).heap.size = w3.heap.size:=by simp [World.setCell]
 have P0 : pblk pb bo ba rv (.slice (some ⟨wbk,0,none⟩) s.nr capW) (.slice oa s.waiting.length cap) rvs s.nr 0 = some pb:=rfl
 have P4 : pblk pb bo ba rv (.slice (some ⟨wbk,0,none⟩) s.nr capW) (.slice oa s.waiting.length cap) rvs s.nr 4 = some wbk:=rfl
 have P5 : pblk pb bo ba rv (.slice (some ⟨wbk,0,none⟩) s.nr capW) (.slice oa s.waiting.length cap) rvs s.nr 5 = (Value.slice oa s.waiting.length cap).ownBlock:=rfl
 have lt:=h.blk_lt
 have b3 : ∀ x,x < w.heap.size -> some x ≠ (Value.slice oa s.waiting.length cap).ownBlock -> w3.heap[x]? = (w.setCell ⟨wbk,part,none⟩ (.bool true)).heap[x]?:=fun x hx hn=>(hg3.block x (by rw [e3];omega) hn).trans (Below.heap_alloc _ _ _ (by rw [hs2];exact hx))
 have b4 : ∀ x,x ≠ pb -> (w3.setCell ⟨pb,4,none⟩ (.slice (some ⟨gg,0,none⟩) (s.waiting.length + 1) cap3)).heap[x]? = w3.heap[x]?:=fun x hx=>Below.heap_setCell _ _ _ _ (by show x ≠ pb;exact hx)
 have nob : ∀ i x,i ≠ 5 -> pblk pb bo ba rv (.slice (some ⟨wbk,0,none⟩) s.nr capW) (.slice oa s.waiting.length cap) rvs s.nr i = some x -> some x ≠ (Value.slice oa s.waiting.length cap).ownBlock:=fun i x hi hx e=>hi (h.dis _ _ x hx (by rw [P5];exact e.symm))
 have key : ∀ i x,i ≠ 0 -> i ≠ 4 -> i ≠ 5 -> pblk pb bo ba rv (.slice (some ⟨wbk,0,none⟩) s.nr capW) (.slice oa s.waiting.length cap) rvs s.nr i = some x -> (w3.setCell ⟨pb,4,none⟩ (.slice (some ⟨gg,0,none⟩) (s.waiting.length + 1) cap3)).heap[x]? = w.heap[x]?:=fun i x h0 h4 h5 hx=>by
  rw [b4 x (fun e=>h0 (h.dis _ _ x hx (by rw [P0,e]))),b3 x (lt i x hx).2 (nob i x h5 hx),Below.heap_setCell _ _ _ _ (by show x ≠ wbk;exact fun e=>h4 (h.dis _ _ x hx (by rw [P4,e])))]
 have nwp : wbk ≠ pb:=fun e=>by have:=h.dis 4 0 wbk P4 (by rw [P0,e]);omega
 have ggp : gg ≠ pb:=fun e=>by
  rcases hat with q | q
  ·rw [e] at q;have:=h.dis 0 5 pb P0 (by rw [P5];exact q);omega
  ·have:=(lt 0 pb P0).2;omega
 refine ⟨⟨?_,h.of_.of_block (key 1 bo (by omega) (by omega) (by omega) rfl),h.loc_.of_block (key 2 ba (by omega) (by omega) (by omega) rfl),own_block h.rows (fun k e=>key 3 k (by omega) (by omega) (by omega) e.symm),fun i hi=>own_block (h.inner i hi) (fun k q=>key (i + 6) k (by omega) (by omega) (by omega) (by simp only [pblk];rw [if_pos (show i < s.nr from hi)];exact q.symm)),?_,?_,?_,⟨h.big.1,h.big.2.1,h.big.2.2.1,by have:=h.big.2.2.2;rw [hs4];omega⟩⟩,⟨⟨hg3.os,hg3.tape,hg3.output,by rw [hs4];omega,fun k hk=>?_⟩,fun k hk hno=>?_,fun j x e=>?_⟩⟩
 ·have r3 : w3.rowIs pb 115 5 (v5 (.slice (some ⟨bo,0,none⟩) N N) rv (.slice (some ⟨ba,0,none⟩) N N) (.slice (some ⟨wbk,0,none⟩) s.nr capW) (.slice oa s.waiting.length cap)):=h.row.of_block (by
   rw [b3 pb (lt 0 pb P0).2 (nob 0 pb (by omega) P0)]
   exact Below.heap_setCell _ _ _ _ (by show pb ≠ wbk;exact fun e=>nwp e.symm))
  refine (r3.set 4 _).congr (fun i hi=>?_)
  match i,hi with
  | 0,_=>rfl
  | 1,_=>rfl
  | 2,_=>rfl
  | 3,_=>rfl
  | 4,_=>rfl
 ·have hw:=(h.waits.stored part (.bool true)).1
  have : ((List.range s.nr).map fun i=>Value.bool (s.waits i)).set part (.bool true) = (List.range s.nr).map fun i=>.bool (upd s.waits part true i):=by
   rw [map_set]
   refine List.map_congr_left (fun i _=>?_)
   simp only [upd]
   by_cases e : i = part
   ·rw [if_pos e,if_pos e]
   ·rw [if_neg e,if_neg e]
  rw [this] at hw
  exact own_block hw (fun k e=>by
   have ek : k = wbk:=by simpa [Value.ownBlock] using e
   subst ek
   rw [b4 k nwp,b3 k (lt 4 k P4).2 (nob 4 k (by omega) P4)])
 ·show World.ownsRow _ base 3 1 _ (s.waiting ++ [part]).length (icells (s.waiting ++ [part]))
  rw [List.length_append,icells_snoc]
  exact own_block hown3 (fun k e=>b4 k (by
   have : k = gg:=by simpa [Value.ownBlock] using e
   omega))
 ·exact dis_piece (k:=5) (g:=gg) (H:=w.heap.size) h.dis (fun i x e=>(lt i x e).2) (fun i=>pblk_q i) (by rcases hat with q | q;exact Or.inl q;exact Or.inr (by omega))
 ·have h0:=(lt 0 pb P0).1
  have h4:=(lt 4 wbk P4).1
  have hb:=h.big.2.2.2
  rw [b4 k (by omega),b3 k (by omega) (fun e=>by have:=(lt 5 k (by rw [P5];exact e.symm)).1;omega),Below.heap_setCell _ _ _ _ (by show k ≠ wbk;omega)]
 ·rw [b4 k (fun e=>hno 0 (by rw [P0,e])),b3 k hk (fun e=>hno 5 (by rw [P5];exact e.symm)),Below.heap_setCell _ _ _ _ (by show k ≠ wbk;exact fun e=>hno 4 (by rw [P4,e]))]
 ·rw [pblk_q (qv:=.slice oa s.waiting.length cap)] at e
  by_cases q : j = 5
  ·rw [if_pos q] at e
   have : gg = x:=by simpa [Value.ownBlock] using e
   subst this
   rcases hat with z | z
   ·exact Or.inl ⟨5,z⟩
   ·exact Or.inr (by omega)
  ·rw [if_neg q] at e
   exact Or.inl ⟨j,e⟩
set_option maxHeartbeats 4000000 in
theorem c96o (base pb bo ba N : Nat) (rv wv qv : Value) (rvs : Nat -> Value) (s : PS) (part : Nat) (w : World) (h : Pt w base pb bo ba N rv wv qv rvs s) (hp : part < s.nr) (hr : s.nr <= 1048576) (hw : s.waits part = true) :
  Calls Tryz.prog 103 #[.pointer (some ⟨pb,0,none⟩),.int .i64 (part : Int)] w fun e w'=>e = .returned (.tuple #[]) /\ ∃ k,w' = w.drewN k:=by
 obtain ⟨wbk,capW,rfl,hrc,hrf,hrl⟩:=own_some h.waits (by omega)
 have r3 : w.cell? ⟨pb,3,none⟩ = some (.slice (some ⟨wbk,0,none⟩) s.nr capW):=h.row.cell (i:=3) (by omega)
 have x0 : w.cell? ⟨wbk,part,none⟩ = some (.bool true):=by rw [hrc part hp];simp [hp,hw]
 have hi2 : (part : Int) < (s.nr : Int):=by omega
 clear h hrc hrf hw
 go_enter Tryz.func103,Tryz.ntmps103
 go_wp2
 exact bodyPost_end (v:=.tuple #[]) (by simp [results,Tryz.results103]) rfl ⟨rfl,0,rfl⟩
set_option maxHeartbeats 4000000 in
theorem c96n (base pb bo ba N : Nat) (rv wv qv : Value) (rvs : Nat -> Value) (s : PS) (part : Nat) (w : World) (h : Pt w base pb bo ba N rv wv qv rvs s) (hp : part < s.nr) (hr : s.nr <= 1048576) (hq : s.waiting.length <= 1048576) (hw : s.waits part = false) :
  Calls Tryz.prog 103 #[.pointer (some ⟨pb,0,none⟩),.int .i64 (part : Int)] w fun e w'=>e = .returned (.tuple #[]) /\ ∃ qv',Pt w' base pb bo ba N rv wv qv' rvs { s with waits:=upd s.waits part true,waiting:=s.waiting ++ [part] } /\ Fr base w w' (pblk pb bo ba rv wv qv rvs s.nr) (pblk pb bo ba rv wv qv' rvs s.nr):=by
 obtain ⟨wbk,capW,rfl,hrc,hrf,hrl⟩:=own_some h.waits (by omega)
 obtain ⟨oa,cap,rfl⟩:=own_form h.waiting
 have HH : Hid (Pt w base pb bo ba N rv (.slice (some ⟨wbk,0,none⟩) s.nr capW) (.slice oa s.waiting.length cap) rvs s):=h
 have r3 : w.cell? ⟨pb,3,none⟩ = some (.slice (some ⟨wbk,0,none⟩) s.nr capW):=h.row.cell (i:=3) (by omega)
 have r4 : w.cell? ⟨pb,4,none⟩ = some (.slice oa s.waiting.length cap):=h.row.cell (i:=4) (by omega)
 have rf : w.frozen? ⟨pb,4,none⟩ = false:=h.row.frozen 4
 have x0 : w.cell? ⟨wbk,part,none⟩ = some (.bool false):=by rw [hrc part hp];simp [hp,hw]
 have x1:=hrf part
 have hi2 : (part : Int) < (s.nr : Int):=by omega
 have n1 : pb ≠ wbk:=fun e=>by have:=h.dis 0 4 pb rfl (by show some wbk = some pb;rw [e]);omega
 have nq : some pb ≠ (Value.slice oa s.waiting.length cap).ownBlock:=fun e=>by have:=h.dis 0 5 pb rfl e.symm;omega
 obtain ⟨wb,hwb⟩ : ∃ wb,wb = w.setCell ⟨wbk,part,none⟩ (.bool true):=⟨_,rfl⟩
 have HWB : Hid (wb = w.setCell ⟨wbk,part,none⟩ (.bool true)):=hwb
 have hsz : Hid (wb.heap.size = w.heap.size):=by show _ = _;rw [hwb];simp [World.setCell]
 have b4 : wb.cell? ⟨pb,4,none⟩ = some (.slice oa s.waiting.length cap):=by rw [hwb,far_cell (by show pb ≠ wbk;exact n1)];exact r4
 have bf : wb.frozen? ⟨pb,4,none⟩ = false:=by rw [hwb,World.frozen?_of_block (w:=w) (Below.heap_setCell _ _ _ _ (by show pb ≠ wbk;exact n1))];exact rf
 have OWN : wb.ownsRow base 3 1 (.slice oa s.waiting.length cap) s.waiting.length (icells s.waiting):=own_block h.waiting (fun x e=>by
  rw [hwb]
  exact Below.heap_setCell _ _ _ _ (by show x ≠ wbk;exact fun q=>by have:=h.dis 5 4 x e.symm (by show some wbk = some x;rw [q]);omega))
 have lp : pb < wb.heap.size:=by rw [hsz.out];exact h.row.lt
 have hbase : base <= wb.heap.size:=by rw [hsz.out];exact h.big.2.2.2
 have f4 : (wb.alloc (.cells #[.int .i64 (part : Int)] 3)).cell? ⟨pb,4,none⟩ = some (.slice oa s.waiting.length cap):=(World.cell?_of_block (w:=wb) (Below.heap_alloc _ _ _ lp)).trans b4
 obtain ⟨i0,hi0,hz0,hz1,hz2⟩:=info_parts Tryz.info3
 have ff : (wb.alloc (.cells #[.int .i64 (part : Int)] 3)).frozen? ⟨pb,4,none⟩ = false:=(World.frozen?_of_block (w:=wb) (Below.heap_alloc _ _ _ lp)).trans bf
 clear h hrc hrf hw HWB
 subst hwb
 have hss : (w.setCell ⟨wbk,part,none⟩ (.bool true)).heap.size = w.heap.size:=hsz.out
 rw [hss] at lp hbase
 have hwl : wbk < w.heap.size:=hrl
 clear hss
 go_enter Tryz.func103,Tryz.ntmps103
 go_wp2_with (first | (at_builtin;refine wpList_append_lies _ rfl _ _ 25 rfl base 3 i0 (.int .i64 0) 1 8 Tryz.underlying25 hi0 hz0 hz1 hz2 rfl (by omega) (.slice oa s.waiting.length cap) s.waiting.length (icells s.waiting) rfl (OWN.alloc _) ⟨w.heap.size,0,none⟩ 1 1 [.int .i64 (part : Int)] rfl rfl (by have:=cell_one_new (w.setCell ⟨wbk,part,none⟩ (.bool true)) (.int .i64 (part : Int)) 3;rw [hsz.out] at this;exact this) (ints_oneCell .i64 [(part : Int)]) (by omega) (by unfold maxLen;omega) (by omega) (by simp;omega) (w.heap.size + 1) (by simp) ?_;intro gg cap3 w3 hown3 hg3 hat hlt3;have y4 : w3.cell? ⟨pb,4,none⟩ = some (.slice oa s.waiting.length cap):=(hg3.cell_far ⟨pb,4,none⟩ (by simp;omega) nq).trans f4;have yf : w3.frozen? ⟨pb,4,none⟩ = false:=(World.frozen?_of_block (w:=(w.setCell ⟨wbk,part,none⟩ (.bool true)).alloc (.cells #[.int .i64 (part : Int)] 3)) (hg3.block pb (by simp;omega) nq)).trans ff))
 have FIN:=Pt.wait (o2:=.cells #[.int .i64 (part : Int)] 3) HH.out hown3 ⟨hg3.os,hg3.tape,hg3.output,hg3.size,hg3.block⟩ hat
 have FH : Hid _:=FIN
 clear FIN hown3 hg3 hat f4 ff b4 bf OWN
 go_wp2
 exact bodyPost_end (v:=.tuple #[]) (by simp [results,Tryz.results103]) rfl ⟨rfl,_,FH.out⟩
theorem pblk_add {pb bo ba nr : Nat} {rv wv qv rv' wv' : Value} {rvs : Nat -> Value} : ∀ i,pblk pb bo ba rv' wv' qv (upd rvs nr (.slice none 0 0)) (nr + 1) i = if i = 4 then wv'.ownBlock else if i = 3 then rv'.ownBlock else pblk pb bo ba rv wv qv rvs nr i
 | 0=>rfl
 | 1=>rfl
 | 2=>rfl
 | 3=>rfl
 | 4=>rfl
 | 5=>rfl
 | i + 6=>by
   rw [if_neg (show ¬ i + 6 = 4 by omega),if_neg (show ¬ i + 6 = 3 by omega)]
   simp only [pblk]
   by_cases e : i = nr
   ·subst e
    rw [if_pos (by omega),upd_same,if_neg (by omega)];rfl
   ·rw [upd_other rvs _ e]
    by_cases q : i < nr
    ·rw [if_pos (by omega),if_pos q]
    ·rw [if_neg (by omega),if_neg q]
theorem map_snoc {α : Type} (f : Nat -> α) (n : Nat) (v : α) : (List.range n).map f ++ [v] = (List.range (n + 1)).map (upd f n v):=by
 rw [List.range_succ,List.map_append]
 congr 1
 ·refine List.map_congr_left (fun i hi=>?_)
  rw [upd_other f v (by have:=List.mem_range.1 hi;omega)]
 ·simp [upd_same]
theorem Pt.add {w w3 w5 : World} {base pb bo ba N capR capW gg cap3 g5 cap5 : Nat} {ra wa : Option Addr} {qv : Value} {rvs : Nat -> Value} {s : PS} {o2 o4 : Obj}
  (h : Pt w base pb bo ba N (.slice ra s.nr capR) (.slice wa s.nr capW) qv rvs s)
  (hown3 : w3.ownsRow base 25 1 (.slice (some ⟨gg,0,none⟩) (s.nr + 1) cap3) (s.nr + 1) ((List.range s.nr).map rvs ++ [.slice none 0 0]))
  (hg3 : (w.alloc o2).grownBy w3 (Value.slice ra s.nr capR).ownBlock) (hat3 : (Value.slice ra s.nr capR).ownBlock = some gg \/ gg = w.heap.size + 1)
  (hown5 : w5.ownsRow base 4 1 (.slice (some ⟨g5,0,none⟩) (s.nr + 1) cap5) (s.nr + 1) (((List.range s.nr).map fun i=>Value.bool (s.waits i)) ++ [.bool false]))
  (hg5 : ((w3.setCell ⟨pb,1,none⟩ (.slice (some ⟨gg,0,none⟩) (s.nr + 1) cap3)).alloc o4).grownBy w5 (Value.slice wa s.nr capW).ownBlock) (hat5 : (Value.slice wa s.nr capW).ownBlock = some g5 \/ g5 = w3.heap.size + 1) :
  Pt (w5.setCell ⟨pb,3,none⟩ (.slice (some ⟨g5,0,none⟩) (s.nr + 1) cap5)) base pb bo ba N (.slice (some ⟨gg,0,none⟩) (s.nr + 1) cap3) (.slice (some ⟨g5,0,none⟩) (s.nr + 1) cap5) qv (upd rvs s.nr (.slice none 0 0))
   { s with nr:=s.nr + 1,rows:=upd s.rows s.nr [],waits:=upd s.waits s.nr false } /\ Fr base w (w5.setCell ⟨pb,3,none⟩ (.slice (some ⟨g5,0,none⟩) (s.nr + 1) cap5)) (pblk pb bo ba (.slice ra s.nr capR) (.slice wa s.nr capW) qv rvs s.nr) (pblk pb bo ba (.slice (some ⟨gg,0,none⟩) (s.nr + 1) cap3) (.slice (some ⟨g5,0,none⟩) (s.nr + 1) cap5) qv (upd rvs s.nr (.slice none 0 0)) (s.nr + 1)):=by
 have z3:=hg3.size
 have z5:=hg5.size
 have e3 : (w.alloc o2).heap.size = w.heap.size + 1:=by simp
 have e4 : (w3.setCell ⟨pb,1,none⟩ (.slice (some ⟨gg,0,none⟩) (s.nr + 1) cap3)).heap.size = w3.heap.size:=by simp [World.setCell]
 have e5 : ((w3.setCell ⟨pb,1,none⟩ (.slice (some ⟨gg,0,none⟩) (s.nr + 1) cap3)).alloc o4).heap.size = w3.heap.size + 1:=by rw [World.size_alloc,e4]
 have e6 : (w5.setCell ⟨pb,3,none⟩ (.slice (some ⟨g5,0,none⟩) (s.nr + 1) cap5)).heap.size = w5.heap.size:=by simp [World.setCell]
 have P0 : pblk pb bo ba (.slice ra s.nr capR) (.slice wa s.nr capW) qv rvs s.nr 0 = some pb:=rfl
 have P3 : pblk pb bo ba (.slice ra s.nr capR) (.slice wa s.nr capW) qv rvs s.nr 3 = (Value.slice ra s.nr capR).ownBlock:=rfl
 have P4 : pblk pb bo ba (.slice ra s.nr capR) (.slice wa s.nr capW) qv rvs s.nr 4 = (Value.slice wa s.nr capW).ownBlock:=rfl
 have lt:=h.blk_lt
 have b3 : ∀ x,x < w.heap.size -> some x ≠ (Value.slice ra s.nr capR).ownBlock -> w3.heap[x]? = w.heap[x]?:=fun x hx hn=>(hg3.block x (by rw [e3];omega) hn).trans (Below.heap_alloc _ _ _ hx)
 have b4 : ∀ x,x ≠ pb -> (w3.setCell ⟨pb,1,none⟩ (.slice (some ⟨gg,0,none⟩) (s.nr + 1) cap3)).heap[x]? = w3.heap[x]?:=fun x hx=>Below.heap_setCell _ _ _ _ (by show x ≠ pb;exact hx)
 have b5 : ∀ x,x < w3.heap.size -> some x ≠ (Value.slice wa s.nr capW).ownBlock -> w5.heap[x]? = (w3.setCell ⟨pb,1,none⟩ (.slice (some ⟨gg,0,none⟩) (s.nr + 1) cap3)).heap[x]?:=fun x hx hn=>(hg5.block x (by rw [e5];omega) hn).trans (Below.heap_alloc _ _ _ (by rw [e4];exact hx))
 have b6 : ∀ x,x ≠ pb -> (w5.setCell ⟨pb,3,none⟩ (.slice (some ⟨g5,0,none⟩) (s.nr + 1) cap5)).heap[x]? = w5.heap[x]?:=fun x hx=>Below.heap_setCell _ _ _ _ (by show x ≠ pb;exact hx)
 have no3 : ∀ i x,i ≠ 3 -> pblk pb bo ba (.slice ra s.nr capR) (.slice wa s.nr capW) qv rvs s.nr i = some x -> some x ≠ (Value.slice ra s.nr capR).ownBlock:=fun i x hi hx e=>hi (h.dis _ _ x hx (by rw [P3];exact e.symm))
 have no4 : ∀ i x,i ≠ 4 -> pblk pb bo ba (.slice ra s.nr capR) (.slice wa s.nr capW) qv rvs s.nr i = some x -> some x ≠ (Value.slice wa s.nr capW).ownBlock:=fun i x hi hx e=>hi (h.dis _ _ x hx (by rw [P4];exact e.symm))
 have key : ∀ i x,i ≠ 0 -> i ≠ 3 -> i ≠ 4 -> pblk pb bo ba (.slice ra s.nr capR) (.slice wa s.nr capW) qv rvs s.nr i = some x -> (w5.setCell ⟨pb,3,none⟩ (.slice (some ⟨g5,0,none⟩) (s.nr + 1) cap5)).heap[x]? = w.heap[x]?:=fun i x h0 h3 h4 hx=>by
  have np : x ≠ pb:=fun e=>h0 (h.dis _ _ x hx (by rw [P0,e]))
  have hl:=(lt i x hx).2
  rw [b6 x np,b5 x (by omega) (no4 i x h4 hx),b4 x np,b3 x hl (no3 i x h3 hx)]
 have gp : gg ≠ pb:=fun e=>by
  rcases hat3 with q | q
  ·rw [e] at q;have:=h.dis 0 3 pb P0 (by rw [P3];exact q);omega
  ·have:=(lt 0 pb P0).2;omega
 have gw : some gg ≠ (Value.slice wa s.nr capW).ownBlock:=fun e=>by
  rcases hat3 with q | q
  ·have:=h.dis 3 4 gg (by rw [P3];exact q) (by rw [P4];exact e.symm);omega
  ·have:=(lt 4 gg (by rw [P4];exact e.symm)).2;omega
 have glt : gg < w3.heap.size:=(hown3.lt gg rfl).2
 have g5p : g5 ≠ pb:=fun e=>by
  rcases hat5 with q | q
  ·rw [e] at q;have:=h.dis 0 4 pb P0 (by rw [P4];exact q);omega
  ·have:=(lt 0 pb P0).2;omega
 have hbl3 : ∀ i x,(if i = 3 then some gg else pblk pb bo ba (.slice ra s.nr capR) (.slice wa s.nr capW) qv rvs s.nr i) = some x -> x < w3.heap.size:=fun i x e=>by
  by_cases q : i = 3
  ·rw [if_pos q] at e;cases e;exact glt
  ·rw [if_neg q] at e;have:=(lt i x e).2;omega
 have D3:=dis_piece (blk':=fun i=>if i = 3 then some gg else pblk pb bo ba (.slice ra s.nr capR) (.slice wa s.nr capW) qv rvs s.nr i) (k:=3) (g:=gg) (H:=w.heap.size) h.dis (fun i x e=>(lt i x e).2) (fun i=>rfl) (by rcases hat3 with q | q;exact Or.inl q;exact Or.inr (by omega))
 have D4:=dis_piece (blk':=fun i=>if i = 4 then some g5 else if i = 3 then some gg else pblk pb bo ba (.slice ra s.nr capR) (.slice wa s.nr capW) qv rvs s.nr i) (k:=4) (g:=g5) (H:=w3.heap.size) D3 hbl3 (fun i=>rfl) (by rcases hat5 with q | q;exact Or.inl q;exact Or.inr (by omega))
 refine ⟨⟨?_,h.of_.of_block (key 1 bo (by omega) (by omega) (by omega) rfl),h.loc_.of_block (key 2 ba (by omega) (by omega) (by omega) rfl),?_,fun i hi=>?_,?_,own_block h.waiting (fun k e=>key 5 k (by omega) (by omega) (by omega) e.symm),?_,⟨h.big.1,h.big.2.1,h.big.2.2.1,by have:=h.big.2.2.2;rw [e6];omega⟩⟩,⟨⟨hg5.os.trans hg3.os,hg5.tape.trans hg3.tape,hg5.output.trans hg3.output,by rw [e6];omega,fun k hk=>?_⟩,fun k hk hno=>?_,fun j x e=>?_⟩⟩
 ·have lp:=(lt 0 pb P0).2
  have r3:=h.row.of_block (w':=w3) (b3 pb lp (no3 0 pb (by omega) P0))
  have r5:=(r3.set 1 (.slice (some ⟨gg,0,none⟩) (s.nr + 1) cap3)).of_block (w':=w5) (b5 pb (by omega) (no4 0 pb (by omega) P0))
  refine (r5.set 3 _).congr (fun i hi=>?_)
  match i,hi with
  | 0,_=>rfl
  | 1,_=>rfl
  | 2,_=>rfl
  | 3,_=>rfl
  | 4,_=>rfl
 ·rw [map_snoc] at hown3
  exact own_block hown3 (fun k e=>by
   have ek : k = gg:=by simpa [Value.ownBlock] using e
   subst ek
   rw [b6 k gp,b5 k glt gw,b4 k gp])
 ·have hi' : i < s.nr + 1:=hi
  show World.ownsRow _ base 3 1 (upd rvs s.nr _ i) (upd s.rows s.nr _ i).length (icells (upd s.rows s.nr _ i))
  by_cases e : i = s.nr
  ·subst e
   rw [upd_same,upd_same]
   exact World.ownsRow_nil _ _ _ _
  ·rw [upd_other rvs _ e,upd_other s.rows _ e]
   exact own_block (h.inner i (by omega)) (fun k q=>key (i + 6) k (by omega) (by omega) (by omega) (by simp only [pblk];rw [if_pos (show i < s.nr by omega)];exact q.symm))
 ·have : ((List.range s.nr).map fun i=>Value.bool (s.waits i)) ++ [.bool false] = (List.range (s.nr + 1)).map fun i=>.bool (upd s.waits s.nr false i):=by
   rw [map_snoc]
   refine List.map_congr_left (fun i _=>?_)
   simp only [upd]
   by_cases e : i = s.nr
   ·rw [if_pos e,if_pos e]
   ·rw [if_neg e,if_neg e]
  rw [this] at hown5
  exact own_block hown5 (fun k e=>by
   have ek : k = g5:=by simpa [Value.ownBlock] using e
   subst ek
   rw [b6 k g5p])
 ·intro i j x hi hj
  have PA:=fun i=>pblk_add (pb:=pb) (bo:=bo) (ba:=ba) (nr:=s.nr) (rv:=.slice ra s.nr capR) (wv:=.slice wa s.nr capW) (qv:=qv) (rv':=.slice (some ⟨gg,0,none⟩) (s.nr + 1) cap3) (wv':=.slice (some ⟨g5,0,none⟩) (s.nr + 1) cap5) (rvs:=rvs) i
  have hi2 : (if i = 4 then some g5 else if i = 3 then some gg else pblk pb bo ba (.slice ra s.nr capR) (.slice wa s.nr capW) qv rvs s.nr i) = some x:=(PA i).symm.trans hi
  have hj2 : (if j = 4 then some g5 else if j = 3 then some gg else pblk pb bo ba (.slice ra s.nr capR) (.slice wa s.nr capW) qv rvs s.nr j) = some x:=(PA j).symm.trans hj
  exact D4 i j x hi2 hj2
 ·have h0:=(lt 0 pb P0).1
  have hb:=h.big.2.2.2
  rw [b6 k (by omega),b5 k (by omega) (fun e=>by have:=(lt 4 k (by rw [P4];exact e.symm)).1;omega),b4 k (by omega),b3 k (by omega) (fun e=>by have:=(lt 3 k (by rw [P3];exact e.symm)).1;omega)]
 ·have np : k ≠ pb:=fun e=>hno 0 (by rw [P0,e])
  rw [b6 k np,b5 k (by omega) (fun e=>hno 4 (by rw [P4];exact e.symm)),b4 k np,b3 k hk (fun e=>hno 3 (by rw [P3];exact e.symm))]
 ·have PA:=pblk_add (pb:=pb) (bo:=bo) (ba:=ba) (nr:=s.nr) (rv:=.slice ra s.nr capR) (wv:=.slice wa s.nr capW) (qv:=qv) (rv':=.slice (some ⟨gg,0,none⟩) (s.nr + 1) cap3) (wv':=.slice (some ⟨g5,0,none⟩) (s.nr + 1) cap5) (rvs:=rvs) j
  rw [PA] at e
  by_cases q4 : j = 4
  ·rw [if_pos q4] at e
   have : g5 = x:=by simpa [Value.ownBlock] using e
   subst this
   rcases hat5 with z | z
   ·exact Or.inl ⟨4,z⟩
   ·exact Or.inr (by omega)
  ·rw [if_neg q4] at e
   by_cases q3 : j = 3
   ·rw [if_pos q3] at e
    have : gg = x:=by simpa [Value.ownBlock] using e
    subst this
    rcases hat3 with z | z
    ·exact Or.inl ⟨3,z⟩
    ·exact Or.inr (by omega)
   ·rw [if_neg q3] at e
    exact Or.inl ⟨j,e⟩
theorem Tryz.info25 : (Tryz.prog.info? 25).map (fun i=>(i.zero,i.size,i.bytes)) = some (some (.slice none 0 0),1,24):=by kernel_rfl
theorem Tryz.info4 : (Tryz.prog.info? 4).map (fun i=>(i.zero,i.size,i.bytes)) = some (some (.bool false),1,1):=by kernel_rfl
set_option maxHeartbeats 4000000 in
theorem c95 (base pb bo ba N : Nat) (rv wv qv : Value) (rvs : Nat -> Value) (s : PS) (w : World) (h : Pt w base pb bo ba N rv wv qv rvs s) (hr : s.nr <= 1048576) :
  Calls Tryz.prog 102 #[.pointer (some ⟨pb,0,none⟩)] w fun e w'=>e = .returned (.int .i64 (s.nr : Int)) /\ ∃ rv' wv',Pt w' base pb bo ba N rv' wv' qv (upd rvs s.nr (.slice none 0 0)) { s with nr:=s.nr + 1,rows:=upd s.rows s.nr [],waits:=upd s.waits s.nr false } /\ Fr base w w' (pblk pb bo ba rv wv qv rvs s.nr) (pblk pb bo ba rv' wv' qv (upd rvs s.nr (.slice none 0 0)) (s.nr + 1)):=by
 obtain ⟨ra,capR,rfl⟩:=own_form h.rows
 obtain ⟨wa,capW,rfl⟩:=own_form h.waits
 have HH : Hid (Pt w base pb bo ba N (.slice ra s.nr capR) (.slice wa s.nr capW) qv rvs s):=h
 have r1 : w.cell? ⟨pb,1,none⟩ = some (.slice ra s.nr capR):=h.row.cell (i:=1) (by omega)
 have rf : w.frozen? ⟨pb,1,none⟩ = false:=h.row.frozen 1
 have nr3 : some pb ≠ (Value.slice ra s.nr capR).ownBlock:=fun e=>by have:=h.dis 0 3 pb rfl e.symm;omega
 have nr4 : some pb ≠ (Value.slice wa s.nr capW).ownBlock:=fun e=>by have:=h.dis 0 4 pb rfl e.symm;omega
 have lp:=h.row.lt
 have hbase:=h.big.2.2.2
 have RW:=h.row
 have OWN:=h.rows
 obtain ⟨i0,hi0,hz0,hz1,hz2⟩:=info_parts Tryz.info25
 obtain ⟨i1,hj0,hy0,hy1,hy2⟩:=info_parts Tryz.info4
 have f1 : (w.alloc (.cells #[.slice none 0 0] 25)).cell? ⟨pb,1,none⟩ = some (.slice ra s.nr capR):=(World.cell?_of_block (w:=w) (Below.heap_alloc _ _ _ lp)).trans r1
 clear h
 go_enter Tryz.func102,Tryz.ntmps102
 go_wp2_with (first | (at_builtin;refine wpList_append_lies _ rfl _ _ 112 rfl base 25 i0 (.slice none 0 0) 1 24 Tryz.underlying112 hi0 hz0 hz1 hz2 rfl (by omega) (.slice ra s.nr capR) s.nr ((List.range s.nr).map rvs) rfl (OWN.alloc _) ⟨w.heap.size,0,none⟩ 1 1 [.slice none 0 0] rfl rfl (cell_one_new _ _ _) (by simp [Value.oneCell']) (by omega) (by unfold maxLen;omega) (by omega) (by simp;omega) (w.heap.size + 1) (by simp) ?_;intro gg cap3 w3 hown3 hg3 hat3 hlt3;have R3:=RW.of_block (w':=w3) ((hg3.block pb (by simp;omega) nr3).trans (Below.heap_alloc _ _ _ lp));have y1:=R3.cell (i:=1) (by omega);have yf:=R3.frozen 1;have R4:=R3.set 1 (.slice (some ⟨gg,0,none⟩) (s.nr + 1) cap3);have u3 : (w3.setCell ⟨pb,1,none⟩ (.slice (some ⟨gg,0,none⟩) (s.nr + 1) cap3)).cell? ⟨pb,3,none⟩ = some (.slice wa s.nr capW):=R4.cell (i:=3) (by omega);have uf:=R4.frozen 3;have lp3 : pb < w3.heap.size:=R3.lt;have hz3:=hg3.size;have hb3 : base <= w3.heap.size:=(by simp at hz3;omega);have OWN5 : (w3.setCell ⟨pb,1,none⟩ (.slice (some ⟨gg,0,none⟩) (s.nr + 1) cap3)).ownsRow base 4 1 (.slice wa s.nr capW) s.nr ((List.range s.nr).map fun i=>Value.bool (s.waits i)):=own_block HH.out.waits (fun x e=>(Below.heap_setCell _ _ _ _ (by show x ≠ pb;exact fun q=>nr4 (by rw [<- q];exact e))).trans ((hg3.block x (by have:=(HH.out.waits.lt x e.symm).2;simp;omega) (fun q=>by have:=HH.out.dis 4 3 x e.symm q.symm;omega)).trans (Below.heap_alloc _ _ _ (HH.out.waits.lt x e.symm).2))))
                    | (at_builtin;refine wpList_append_lies _ rfl _ _ 113 rfl base 4 i1 (.bool false) 1 1 Tryz.underlying113 hj0 hy0 hy1 hy2 rfl (by omega) (.slice wa s.nr capW) s.nr ((List.range s.nr).map fun i=>Value.bool (s.waits i)) rfl (OWN5.alloc _) ⟨w3.heap.size,0,none⟩ 1 1 [.bool false] rfl rfl (by have:=cell_one_new (w3.setCell ⟨pb,1,none⟩ (.slice (some ⟨gg,0,none⟩) (s.nr + 1) cap3)) (.bool false) 4;simp only [World.size_setCell] at this;exact this) (by simp [Value.oneCell']) (by omega) (by unfold maxLen;omega) (by omega) (by simp;omega) (w3.heap.size + 1) (by simp) ?_;intro g5 cap5 w5 hown5 hg5 hat5 hlt5;have R5:=R4.of_block (w':=w5) ((hg5.block pb (by simp;omega) nr4).trans (Below.heap_alloc _ _ _ (by simp;omega)));have q3:=R5.cell (i:=3) (by omega);have qf:=R5.frozen 3;have R6:=R5.set 3 (.slice (some ⟨g5,0,none⟩) (s.nr + 1) cap5);have k1 : (w5.setCell ⟨pb,3,none⟩ (.slice (some ⟨g5,0,none⟩) (s.nr + 1) cap5)).cell? ⟨pb,1,none⟩ = some (.slice (some ⟨gg,0,none⟩) (s.nr + 1) cap3):=R6.cell (i:=1) (by omega)))
 have FIN:=Pt.add (o2:=.cells #[.slice none 0 0] 25) (o4:=.cells #[.bool false] 4) HH.out hown3 ⟨hg3.os,hg3.tape,hg3.output,hg3.size,hg3.block⟩ hat3 hown5 ⟨hg5.os,hg5.tape,hg5.output,hg5.size,hg5.block⟩ hat5
 have FH : Hid _:=FIN
 clear FIN hown3 hg3 hat3 hown5 hg5 hat5 OWN OWN5
 go_ret
 exact ⟨rfl,_,_,FH.out⟩
theorem icells_set (l : List Nat) (i a : Nat) : icells (l.set i a) = (icells l).set i (.int .i64 (a : Int)):=by
 unfold icells;rw [List.map_set]
theorem own_shorter {w : World} {base g cap n : Nat} {xs : List Value} {e : TypeId} (h : w.ownsRow base e 1 (.slice (some ⟨g,0,none⟩) (n + 1) cap) (n + 1) xs) : w.ownsRow base e 1 (.slice (some ⟨g,0,none⟩) n cap) n xs.dropLast:=by
 obtain ⟨h1,h2⟩:=h
 refine ⟨by rw [List.length_dropLast];omega,?_⟩
 rcases h2 with ⟨hv,_⟩ | ⟨g',cap',cur,hv,hb,hh,hc,hm,hs,ht⟩
 ·cases hv
 ·simp only [Value.slice.injEq,Option.some.injEq,Addr.mk.injEq,and_true,true_and] at hv
  obtain ⟨rfl,rfl⟩:=hv
  refine Or.inr ⟨g,cap,cur,rfl,hb,hh,by omega,hm,hs,?_⟩
  rw [<- ht,List.dropLast_eq_take,List.length_take,List.take_take]
  congr 1
  have : cur.toList.length = cap * 1:=by rw [Array.length_toList];exact hs
  omega
theorem own_cap {w : World} {base g cap n size : Nat} {xs : List Value} {e : TypeId} (h : w.ownsRow base e size (.slice (some ⟨g,0,none⟩) n cap) n xs) : n <= cap:=by
 rcases h.2 with ⟨hv,_⟩ | ⟨g',cap',cur,hv,hb,hh,hc,r⟩
 ·cases hv
 ·simp only [Value.slice.injEq] at hv
  omega
theorem Pt.take {w : World} {base pb bo ba N rb capR L cap g part i last : Nat} {wv qv : Value} {rvs : Nat -> Value} {s : PS}
  (h : Pt w base pb bo ba N (.slice (some ⟨rb,0,none⟩) s.nr capR) wv qv rvs s) (hp : part < s.nr) (hL : L + 1 = (s.rows part).length) (hv : rvs part = .slice (some ⟨g,0,none⟩) (L + 1) cap) :
  Pt (((w.setCell ⟨g,i,none⟩ (.int .i64 (last : Int))).setCell ⟨ba,last,none⟩ (.int .i64 (i : Int))).setCell ⟨rb,part,none⟩ (.slice (some ⟨g,0,none⟩) L cap)) base pb bo ba N (.slice (some ⟨rb,0,none⟩) s.nr capR) wv qv (upd rvs part (.slice (some ⟨g,0,none⟩) L cap))
   { s with loc:=upd s.loc last i,rows:=upd s.rows part ((s.rows part).set i last).dropLast } /\ Fr base w (((w.setCell ⟨g,i,none⟩ (.int .i64 (last : Int))).setCell ⟨ba,last,none⟩ (.int .i64 (i : Int))).setCell ⟨rb,part,none⟩ (.slice (some ⟨g,0,none⟩) L cap)) (pblk pb bo ba (.slice (some ⟨rb,0,none⟩) s.nr capR) wv qv rvs s.nr) (pblk pb bo ba (.slice (some ⟨rb,0,none⟩) s.nr capR) wv qv (upd rvs part (.slice (some ⟨g,0,none⟩) L cap)) s.nr):=by
 have P0 : pblk pb bo ba (.slice (some ⟨rb,0,none⟩) s.nr capR) wv qv rvs s.nr 0 = some pb:=rfl
 have P2 : pblk pb bo ba (.slice (some ⟨rb,0,none⟩) s.nr capR) wv qv rvs s.nr 2 = some ba:=rfl
 have P3 : pblk pb bo ba (.slice (some ⟨rb,0,none⟩) s.nr capR) wv qv rvs s.nr 3 = some rb:=rfl
 have PP : pblk pb bo ba (.slice (some ⟨rb,0,none⟩) s.nr capR) wv qv rvs s.nr (part + 6) = some g:=by simp only [pblk];rw [if_pos hp,hv];rfl
 have lt:=h.blk_lt
 have hg : ∀ k,k ≠ part + 6 -> ∀ x,pblk pb bo ba (.slice (some ⟨rb,0,none⟩) s.nr capR) wv qv rvs s.nr k = some x -> x ≠ g:=fun k hk x hx e=>hk (h.dis _ _ x hx (by rw [PP,e]))
 have key : ∀ k x,k ≠ 2 -> k ≠ 3 -> k ≠ part + 6 -> pblk pb bo ba (.slice (some ⟨rb,0,none⟩) s.nr capR) wv qv rvs s.nr k = some x -> (((w.setCell ⟨g,i,none⟩ (.int .i64 (last : Int))).setCell ⟨ba,last,none⟩ (.int .i64 (i : Int))).setCell ⟨rb,part,none⟩ (.slice (some ⟨g,0,none⟩) L cap)).heap[x]? = w.heap[x]?:=fun k x h2 h3 hk hx=>by
  rw [Below.heap_setCell _ _ _ _ (by show x ≠ rb;exact fun e=>h3 (h.dis _ _ x hx (by rw [P3,e]))),Below.heap_setCell _ _ _ _ (by show x ≠ ba;exact fun e=>h2 (h.dis _ _ x hx (by rw [P2,e]))),Below.heap_setCell _ _ _ _ (by show x ≠ g;exact hg k hk x hx)]
 have nar : ba ≠ rb:=fun e=>by have:=h.dis 2 3 ba P2 (by rw [P3,e]);omega
 have nga : g ≠ ba:=fun e=>by have:=h.dis (part + 6) 2 g PP (by rw [P2,e]);omega
 have ngr : g ≠ rb:=fun e=>by have:=h.dis (part + 6) 3 g PP (by rw [P3,e]);omega
 have HD:=dis_upd (v:=.slice (some ⟨g,0,none⟩) L cap) h hp (g:=g) rfl (by rw [hv];exact Or.inl rfl)
 have hI:=h.inner part hp
 rw [hv,<- hL] at hI
 refine ⟨⟨h.row.of_block (key 0 pb (by omega) (by omega) (by omega) P0),h.of_.of_block (key 1 bo (by omega) (by omega) (by omega) rfl),?_,?_,fun j hj=>?_,own_block h.waits (fun k e=>key 4 k (by omega) (by omega) (by omega) e.symm),own_block h.waiting (fun k e=>key 5 k (by omega) (by omega) (by omega) e.symm),HD,⟨h.big.1,h.big.2.1,h.big.2.2.1,by simpa [World.setCell] using h.big.2.2.2⟩⟩,⟨⟨rfl,rfl,rfl,by simp [World.setCell],fun k hk=>?_⟩,fun k hk hno=>?_,fun j x e=>?_⟩⟩
 ·have r1 : (w.setCell ⟨g,i,none⟩ (.int .i64 (last : Int))).rowIs ba 3 N (fun i=>.int .i64 (s.loc i : Int)):=h.loc_.of_block (Below.heap_setCell _ _ _ _ (by show ba ≠ g;exact fun e=>nga e.symm))
  refine ((r1.set last (.int .i64 (i : Int))).of_block (Below.heap_setCell _ _ _ _ (by show ba ≠ rb;exact nar))).congr (fun k _=>?_)
  simp only [upd]
  by_cases e : k = last
  ·rw [if_pos e,if_pos e]
  ·rw [if_neg e,if_neg e]
 ·have hr : ((w.setCell ⟨g,i,none⟩ (.int .i64 (last : Int))).setCell ⟨ba,last,none⟩ (.int .i64 (i : Int))).ownsRow base 25 1 (.slice (some ⟨rb,0,none⟩) s.nr capR) s.nr ((List.range s.nr).map rvs):=own_block h.rows (fun k e=>by
   have : k = rb:=by simpa [Value.ownBlock] using e
   subst this
   rw [Below.heap_setCell _ _ _ _ (by show k ≠ ba;exact fun e=>nar e.symm),Below.heap_setCell _ _ _ _ (by show k ≠ g;exact fun e=>ngr e.symm)])
  have:=(hr.stored part (.slice (some ⟨g,0,none⟩) L cap)).1
  rw [map_set] at this
  exact this
 ·by_cases e : j = part
  ·subst e
   show World.ownsRow _ base 3 1 (upd rvs j _ j) (upd s.rows j _ j).length (icells (upd s.rows j _ j))
   rw [upd_same,upd_same]
   have h1:=(hI.stored i (.int .i64 (last : Int))).1
   rw [<- icells_set] at h1
   have h2:=own_shorter h1
   have e1 : ((s.rows j).set i last).dropLast.length = L:=by rw [List.length_dropLast,List.length_set];omega
   have e2 : icells (((s.rows j).set i last).dropLast) = (icells ((s.rows j).set i last)).dropLast:=by unfold icells;rw [List.map_dropLast]
   rw [e1,e2]
   exact own_block h2 (fun k e=>by
    have : k = g:=by simpa [Value.ownBlock] using e
    subst this
    rw [Below.heap_setCell _ _ _ _ (by show k ≠ rb;exact ngr),Below.heap_setCell _ _ _ _ (by show k ≠ ba;exact nga)])
  ·show World.ownsRow _ base 3 1 (upd rvs part _ j) (upd s.rows part _ j).length (icells (upd s.rows part _ j))
   rw [upd_other rvs _ e,upd_other s.rows _ e]
   exact own_block (h.inner j hj) (fun k q=>key (j + 6) k (by omega) (by omega) (by omega) (by simp only [pblk];rw [if_pos (show j < s.nr from hj)];exact q.symm))
 ·have h2:=(lt 2 ba P2).1
  have h3:=(lt 3 rb P3).1
  have h6:=(lt (part + 6) g PP).1
  rw [Below.heap_setCell _ _ _ _ (by show k ≠ rb;omega),Below.heap_setCell _ _ _ _ (by show k ≠ ba;omega),Below.heap_setCell _ _ _ _ (by show k ≠ g;omega)]
 ·rw [Below.heap_setCell _ _ _ _ (by show k ≠ rb;exact fun e=>hno 3 (by rw [P3,e])),Below.heap_setCell _ _ _ _ (by show k ≠ ba;exact fun e=>hno 2 (by rw [P2,e])),Below.heap_setCell _ _ _ _ (by show k ≠ g;exact fun e=>hno (part + 6) (by rw [PP,e]))]
 ·rw [pblk_upd hp] at e
  by_cases q : j = part + 6
  ·rw [if_pos q] at e
   exact Or.inl ⟨part + 6,by rw [PP];exact e⟩
  ·rw [if_neg q] at e
   exact Or.inl ⟨j,e⟩
set_option maxHeartbeats 4000000 in
theorem c113 (base pb bo ba N : Nat) (rv wv qv : Value) (rvs : Nat -> Value) (s : PS) (node part i last L : Nat) (w : World) (h : Pt w base pb bo ba N rv wv qv rvs s) (hn : node < N) (hpo : s.of node = part) (hp : part < s.nr) (hr : s.nr <= 1048576) (_hN : N <= 1048576)
  (hi : s.loc node = i) (hL : L + 1 = (s.rows part).length) (hiL : i < L + 1) (hla : (s.rows part).getD L 0 = last) (hlN : last < N) (hl : L <= 1048576) :
  Calls Tryz.prog 122 #[.pointer (some ⟨pb,0,none⟩),.int .i64 (node : Int)] w fun e w'=>e = .returned (.tuple #[]) /\ ∃ v',Pt w' base pb bo ba N rv wv qv (upd rvs part v') { s with loc:=upd s.loc last i,rows:=upd s.rows part ((s.rows part).set i last).dropLast } /\ Fr base w w' (pblk pb bo ba rv wv qv rvs s.nr) (pblk pb bo ba rv wv qv (upd rvs part v') s.nr):=by
 obtain ⟨rb,capR,rfl,hrc,hrf,hrl⟩:=own_some h.rows (by omega)
 have hI:=h.inner part hp
 rw [<- hL] at hI
 obtain ⟨g,cap,hv,hgc,hgf,hgl⟩:=own_some hI (by omega)
 have HH : Hid (Pt w base pb bo ba N (.slice (some ⟨rb,0,none⟩) s.nr capR) wv qv rvs s):=h
 have HV : Hid (rvs part = .slice (some ⟨g,0,none⟩) (L + 1) cap):=hv
 have HL : Hid (L + 1 = (s.rows part).length):=hL
 have r0 : w.cell? ⟨pb,0,none⟩ = some (.slice (some ⟨bo,0,none⟩) N N):=h.row.cell (i:=0) (by omega)
 have r1 : w.cell? ⟨pb,1,none⟩ = some (.slice (some ⟨rb,0,none⟩) s.nr capR):=h.row.cell (i:=1) (by omega)
 have r2 : w.cell? ⟨pb,2,none⟩ = some (.slice (some ⟨ba,0,none⟩) N N):=h.row.cell (i:=2) (by omega)
 have c0 : w.cell? ⟨bo,node,none⟩ = some (.int .i64 (part : Int)):=by rw [h.of_.cell hn,hpo]
 have d0 : w.cell? ⟨ba,node,none⟩ = some (.int .i64 (i : Int)):=by rw [h.loc_.cell hn,hi]
 have d1:=h.loc_.cell hlN
 have d2:=h.loc_.frozen last
 have x0 : w.cell? ⟨rb,part,none⟩ = some (.slice (some ⟨g,0,none⟩) (L + 1) cap):=by rw [hrc part hp];simp [hp,hv]
 have x1:=hrf part
 have y0 : w.cell? ⟨g,L,none⟩ = some (.int .i64 (last : Int)):=by
  rw [hgc L (by omega)]
  have hlen : L < (s.rows part).length:=by omega
  rw [<- hla]
  simp [icells,List.getD,List.getElem?_eq_getElem hlen]
 obtain ⟨yv,y1⟩ : ∃ yv,w.cell? ⟨g,i,none⟩ = some yv:=by
  rw [hgc i hiL]
  have hlen : i < (s.rows part).length:=by omega
  exact ⟨_,by simp [icells,List.getElem?_eq_getElem hlen];rfl⟩
 have y2:=hgf i
 have hcap : L + 1 <= cap:=by rw [hv] at hI;exact own_cap hI
 have hcap2 : (L : Int) <= (cap : Int):=by omega
 have hcap3 : (0 : Int) <= (L : Int):=by omega
 have dd : ∀ a b x y : Nat,pblk pb bo ba (.slice (some ⟨rb,0,none⟩) s.nr capR) wv qv rvs s.nr a = some x -> pblk pb bo ba (.slice (some ⟨rb,0,none⟩) s.nr capR) wv qv rvs s.nr b = some y -> a ≠ b -> x ≠ y:=fun a b x y ha hb hab e=>hab (h.dis a b x ha (by rw [hb,e]))
 have PP : pblk pb bo ba (.slice (some ⟨rb,0,none⟩) s.nr capR) wv qv rvs s.nr (part + 6) = some g:=by simp only [pblk];rw [if_pos hp,hv];rfl
 have n1 : pb ≠ g:=dd 0 (part + 6) pb g rfl PP (by omega)
 have n2 : bo ≠ g:=dd 1 (part + 6) bo g rfl PP (by omega)
 have n3 : ba ≠ g:=dd 2 (part + 6) ba g rfl PP (by omega)
 have n4 : rb ≠ g:=dd 3 (part + 6) rb g rfl PP (by omega)
 have n5 : pb ≠ ba:=dd 0 2 pb ba rfl rfl (by omega)
 have n6 : bo ≠ ba:=dd 1 2 bo ba rfl rfl (by omega)
 have n7 : rb ≠ ba:=dd 3 2 rb ba rfl rfl (by omega)
 have n8 : pb ≠ rb:=dd 0 3 pb rb rfl rfl (by omega)
 have n9 : bo ≠ rb:=dd 1 3 bo rb rfl rfl (by omega)
 clear h hrc hrf hgc hgf hI hv hL dd PP hpo hi hla
 go_enter Tryz.func122,Tryz.ntmps122
 have hi1 : (node : Int) < (N : Int):=by omega
 have hi2 : (part : Int) < (s.nr : Int):=by omega
 have hw1 : IntKind.i64.wrap ((L : Int) + 1 - 1) = (L : Int):=by rw [IntKind.wrap_i64];omega
 have hw2 : IntKind.i64.wrap (L : Int) = (L : Int):=by rw [IntKind.wrap_i64];omega
 have hw3 : (L : Int) < (L : Int) + 1:=by omega
 have hw4 : (i : Int) < (L : Int) + 1:=by omega
 have hw5 : (last : Int) < (N : Int):=by omega
 go_wp2_with fail
 go_quiet (fail)
 go_wp2_with fail
 obtain ⟨wa,hwa⟩ : ∃ wa,wa = (w.drewN nq).setCell ⟨g,i,none⟩ (.int .i64 (last : Int)):=⟨_,rfl⟩
 have HWA : Hid (wa = (w.drewN nq).setCell ⟨g,i,none⟩ (.int .i64 (last : Int))):=hwa
 have a0 : wa.cell? ⟨pb,0,none⟩ = some (.slice (some ⟨bo,0,none⟩) N N):=by rw [hwa,far_cell (by show pb ≠ g;exact n1)];exact r0
 have a1 : wa.cell? ⟨pb,1,none⟩ = some (.slice (some ⟨rb,0,none⟩) s.nr capR):=by rw [hwa,far_cell (by show pb ≠ g;exact n1)];exact r1
 have a2 : wa.cell? ⟨pb,2,none⟩ = some (.slice (some ⟨ba,0,none⟩) N N):=by rw [hwa,far_cell (by show pb ≠ g;exact n1)];exact r2
 have a3 : wa.cell? ⟨ba,node,none⟩ = some (.int .i64 (i : Int)):=by rw [hwa,far_cell (by show ba ≠ g;exact n3)];exact d0
 have a4 : wa.cell? ⟨ba,last,none⟩ = some (.int .i64 (s.loc last : Int)):=by rw [hwa,far_cell (by show ba ≠ g;exact n3)];exact d1
 have a5 : wa.frozen? ⟨ba,last,none⟩ = false:=by rw [hwa,World.frozen?_of_block (w:=w.drewN nq) (Below.heap_setCell _ _ _ _ (by show ba ≠ g;exact n3))];exact d2
 have a6 : wa.cell? ⟨bo,node,none⟩ = some (.int .i64 (part : Int)):=by rw [hwa,far_cell (by show bo ≠ g;exact n2)];exact c0
 have a7 : wa.cell? ⟨rb,part,none⟩ = some (.slice (some ⟨g,0,none⟩) (L + 1) cap):=by rw [hwa,far_cell (by show rb ≠ g;exact n4)];exact x0
 have a8 : wa.frozen? ⟨rb,part,none⟩ = false:=by rw [hwa,World.frozen?_of_block (w:=w.drewN nq) (Below.heap_setCell _ _ _ _ (by show rb ≠ g;exact n4))];exact x1
 have b0 : (wa.setCell ⟨ba,last,none⟩ (.int .i64 (i : Int))).cell? ⟨pb,0,none⟩ = some (.slice (some ⟨bo,0,none⟩) N N):=by rw [far_cell (by show pb ≠ ba;exact n5)];exact a0
 have b1 : (wa.setCell ⟨ba,last,none⟩ (.int .i64 (i : Int))).cell? ⟨pb,1,none⟩ = some (.slice (some ⟨rb,0,none⟩) s.nr capR):=by rw [far_cell (by show pb ≠ ba;exact n5)];exact a1
 have b2 : (wa.setCell ⟨ba,last,none⟩ (.int .i64 (i : Int))).cell? ⟨pb,2,none⟩ = some (.slice (some ⟨ba,0,none⟩) N N):=by rw [far_cell (by show pb ≠ ba;exact n5)];exact a2
 have b3 : (wa.setCell ⟨ba,last,none⟩ (.int .i64 (i : Int))).cell? ⟨ba,node,none⟩ = some (.int .i64 (i : Int)):=by
  by_cases e : node = last
  ·subst e
   exact World.cell?_setCell_same _ _ _ a3
  ·rw [World.cell?_setCell_other _ _ _ _ (fun q=>e (by have:=congrArg Addr.off q;first | exact this | exact this.symm))];exact a3
 have b6 : (wa.setCell ⟨ba,last,none⟩ (.int .i64 (i : Int))).cell? ⟨bo,node,none⟩ = some (.int .i64 (part : Int)):=by rw [far_cell (by show bo ≠ ba;exact n6)];exact a6
 have b7 : (wa.setCell ⟨ba,last,none⟩ (.int .i64 (i : Int))).cell? ⟨rb,part,none⟩ = some (.slice (some ⟨g,0,none⟩) (L + 1) cap):=by rw [far_cell (by show rb ≠ ba;exact n7)];exact a7
 have b8 : (wa.setCell ⟨ba,last,none⟩ (.int .i64 (i : Int))).frozen? ⟨rb,part,none⟩ = false:=by rw [World.frozen?_of_block (w:=wa) (Below.heap_setCell _ _ _ _ (by show rb ≠ ba;exact n7))];exact a8
 rw [<- hwa]
 clear r0 r1 r2 c0 d0 d1 d2 x0 x1 y0 y1 y2 hwa
 go_region_held3 (fun w'=>w'.cell? ⟨pb,2,none⟩ = some (.slice (some ⟨ba,0,none⟩) N N) /\ w'.cell? ⟨ba,node,none⟩ = some (.int .i64 (i : Int))) (go_keep) (fail)
 all_goals
  obtain ⟨wb,hwb⟩ : ∃ wb,wb = wa.setCell ⟨ba,last,none⟩ (.int .i64 (i : Int)):=⟨_,rfl⟩
  have HWB : Hid (wb = wa.setCell ⟨ba,last,none⟩ (.int .i64 (i : Int))):=hwb
  rw [<- hwb] at b0 b1 b6 b7 b8 ⊢
  have e0 : (wb.setCell ⟨rb,part,none⟩ (.slice (some ⟨g,0,none⟩) L cap)).cell? ⟨pb,0,none⟩ = some (.slice (some ⟨bo,0,none⟩) N N):=by rw [far_cell (by show pb ≠ rb;exact n8)];exact b0
  have e1 : (wb.setCell ⟨rb,part,none⟩ (.slice (some ⟨g,0,none⟩) L cap)).cell? ⟨pb,1,none⟩ = some (.slice (some ⟨rb,0,none⟩) s.nr capR):=by rw [far_cell (by show pb ≠ rb;exact n8)];exact b1
  have e6 : (wb.setCell ⟨rb,part,none⟩ (.slice (some ⟨g,0,none⟩) L cap)).cell? ⟨bo,node,none⟩ = some (.int .i64 (part : Int)):=by rw [far_cell (by show bo ≠ rb;exact n9)];exact b6
  clear hwb b2 b3 a0 a1 a2 a3 a4 a5 a6 a7 a8
  go_wp2_with fail
  go_region_held3 (fun w'=>w'.cell? ⟨pb,0,none⟩ = some (.slice (some ⟨bo,0,none⟩) N N) /\ w'.cell? ⟨pb,1,none⟩ = some (.slice (some ⟨rb,0,none⟩) s.nr capR) /\ w'.cell? ⟨bo,node,none⟩ = some (.int .i64 (part : Int))) (go_keep) (fail)
  all_goals
   have FIN:=Pt.take (i:=i) (last:=last) HH.out hp HL.out HV.out
   have FH : Hid (Pt (wb.setCell ⟨rb,part,none⟩ (.slice (some ⟨g,0,none⟩) L cap)) base pb bo ba N (.slice (some ⟨rb,0,none⟩) s.nr capR) wv qv (upd rvs part (.slice (some ⟨g,0,none⟩) L cap)) { s with loc:=upd s.loc last i,rows:=upd s.rows part ((s.rows part).set i last).dropLast } /\ Fr base w (wb.setCell ⟨rb,part,none⟩ (.slice (some ⟨g,0,none⟩) L cap)) (pblk pb bo ba (.slice (some ⟨rb,0,none⟩) s.nr capR) wv qv rvs s.nr) (pblk pb bo ba (.slice (some ⟨rb,0,none⟩) s.nr capR) wv qv (upd rvs part (.slice (some ⟨g,0,none⟩) L cap)) s.nr)):=by
    rw [HWB.out,HWA.out]
    have B:=FIN.2
    exact ⟨FIN.1.later (Nat.le_refl _) (fun _ _ _=>rfl),⟨⟨rfl,rfl,rfl,B.below.size,B.below.block⟩,B.frame,B.fresh⟩⟩
   clear FIN
   go_wp2
   exact bodyPost_end (v:=.tuple #[]) (by simp [results,Tryz.results122]) rfl ⟨rfl,.slice (some ⟨g,0,none⟩) L cap,by
    obtain ⟨f1,f2⟩:=FH.out
    exact ⟨f1.later (Nat.le_refl _) (fun _ _ _=>rfl),⟨⟨f2.below.os,f2.below.tape,f2.below.output,f2.below.size,f2.below.block⟩,f2.frame,f2.fresh⟩⟩⟩
end Go.Proofs.YtpbpbppimkeodaaGreatDoor
