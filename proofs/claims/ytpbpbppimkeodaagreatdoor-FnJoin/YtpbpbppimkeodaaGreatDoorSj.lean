/-
  SplitBy EdgeSort EdgesOf
-/
import Derived.Test.YtpbpbppimkeodaaGreatDoorSi
import Derived.Shelf.SlSortCmp.WholeK
import Derived.Shelf.SlSortCmp.NoneTotal
import Derived.Ground.SlsfProg
import Derived.Test.YtpbpbppimkeodaaGreatDoorShelf
import Derived.Deep.Upon
set_option maxRecDepth 100000
namespace Go.Proofs.YtpbpbppimkeodaaGreatDoor
open Go.RowKit Go.Maps
def slLen : Value -> Nat
 | .slice _ n _=>n
 | _=>0
theorem wq_len {s : PS} (h : Wq s) : s.waiting.length <= s.nr:=by
 have:=len_le s.waiting (List.range s.nr) h.nodup (fun q hq=>List.mem_range.2 (h.lt q hq))
 simpa using this
theorem nodes_len {N : Nat} {es : Nat -> Nat × Nat} {m : Nat} (hf : ∀ i,i < m -> (es i).2 < N) (hd : (nodesOf es m).Nodup) : m <= N:=by
 have:=len_le (nodesOf es m) (List.range N) hd (fun x hx=>List.mem_range.2 (nodes_all hf (Nat.le_refl m) x hx))
 simpa [nodesOf] using this
theorem EdgesAt.sub {w : World} {ea : Option Addr} {eb eo m : Nat} {es : Nat -> Nat × Nat} (h : EdgesAt w ea eb eo m es) {r k : Nat} (hk : r + k <= m) (ea' : Option Addr) (ha : 0 < k -> ea' = some ⟨eb,eo + r * 2,none⟩) : EdgesAt w ea' eb (eo + r * 2) k (fun i=>es (r + i)):=
 ⟨ha,fun i hi=>by
  have:=h.c0 (r + i) (by omega)
  rw [show eo + (r + i) * 2 = eo + r * 2 + i * 2 by omega] at this;exact this,fun i hi=>by
  have:=h.c1 (r + i) (by omega)
  rw [show eo + (r + i) * 2 = eo + r * 2 + i * 2 by omega] at this;exact this⟩
set_option maxHeartbeats 4000000 in
theorem c73 (base pb bo ba N : Nat) (rv wv qv : Value) (rvs : Nat -> Value) (s : PS) (G : Nat -> ND) (C : Nat -> Prop) (m ec eb eo : Nat) (ea : Option Addr) (es : Nat -> Nat × Nat) (w : World) (h : Pt w base pb bo ba N rv wv qv rvs s) (hN : N <= 500000) (hm : m <= 1099511627776) (hec : m <= ec) (hK : Kids N G) (hC : ∀ u v,u < N -> v < N -> Same N G u v -> (C u ↔ C v))
  (hE : EdgesAt w ea eb eo m es) (hG : Edges N G C m es) (hR : Run N G C m es s 0) (hoE : 0 < m -> Off (pblk pb bo ba rv wv qv rvs s.nr) eb) :
  Calls Tryz.prog 83 #[.pointer (some ⟨pb,0,none⟩),.slice ea m ec] w fun e w'=>e = .returned (.tuple #[]) /\ ∃ rv' wv' qv' rvs' s',Pt w' base pb bo ba N rv' wv' qv' rvs' s' /\ Fr base w w' (pblk pb bo ba rv wv qv rvs s.nr) (pblk pb bo ba rv' wv' qv' rvs' s'.nr) /\ Run N G C m es s' m /\ s'.waiting.length + s.nr <= s.waiting.length + s'.nr:=by
 have A1:=hE.at_
 have HE : Hid (EdgesAt w ea eb eo m es):=hE
 have HG : Hid (Edges N G C m es):=hG
 have HX : Hid (Kids N G /\ ∀ u v,u < N -> v < N -> Same N G u v -> (C u ↔ C v)):=⟨hK,hC⟩
 have H0 : Hid (Pt w base pb bo ba N rv wv qv rvs s /\ Fr base w w (pblk pb bo ba rv wv qv rvs s.nr) (pblk pb bo ba rv wv qv rvs s.nr) /\ Run N G C m es s 0 /\ s.waiting.length + s.nr <= s.waiting.length + s.nr):=⟨h,Fr.of_below _ h.big.2.2.2 (Below.refl _ _),hR,Nat.le_refl _⟩
 clear hE hG hK hC hR h
 go_enter Tryz.func83,Tryz.ntmps83
 go_wp2
 go_loopw [1] (fun v wr=>∃ (r L c' : Nat) (ea' : Option Addr) (rv' wv' qv' : Value) (rvs' : Nat -> Value) (s' : PS),v = .slice ea' L c' /\ Hid (r + L = m) /\ (0 < L -> ea' = some ⟨eb,eo + r * 2,none⟩) /\ L <= c' /\ Hid (Pt wr base pb bo ba N rv' wv' qv' rvs' s' /\ Fr base w wr (pblk pb bo ba rv wv qv rvs s.nr) (pblk pb bo ba rv' wv' qv' rvs' s'.nr) /\ Run N G C m es s' r /\ s'.waiting.length + s.nr <= s.waiting.length + s'.nr)) (fun v _=>slLen v)
 case atStart=>exact ⟨0,m,ec,ea,rv,wv,qv,rvs,s,rfl,Nat.zero_add _,fun h=>by rw [A1 h];simp,hec,H0⟩
 case round=>
  clear H0
  obtain ⟨r,L,c',ea',rv',wv',qv',rvs',s',rfl,hrl,ha,hc',HI⟩:=hrel
  by_cases hlt : 0 < L
  ·have e1:=ha hlt
   subst e1
   have hLm : L <= 1099511627776:=by have:=hrl.out;omega
   have eblt : eb < w.heap.size:=blt (HE.out.c0 r (by have:=hrl.out;omega))
   have EW:=HE.out.later (w':=wr) (fun h0=>HI.out.2.1.frame eb eblt (hoE h0))
   have HEW : Hid (EdgesAt wr ea eb eo m es):=EW
   have g0:=EW.c0 r (by have:=hrl.out;omega)
   clear EW
   go_wp2
   go_loopw [4] (fun i wx=>∃ (q k : Nat),q <= L /\ i = .int .i64 q /\ wx = wr.drewN k /\ Hid (∀ i,i < q -> (es (r + i)).1 = (es r).1)) (fun i _=>L - (intOf i).toNat)
   case atStart=>exact ⟨0,0,Nat.zero_le _,rfl,rfl,fun i hi=>absurd hi (Nat.not_lt_zero _)⟩
   case round=>
    obtain ⟨q,k,hq,rfl,hwx,HQ⟩:=hrel
    subst hwx
    by_cases hql : q < L
    ·have f0:=HEW.out.c0 (r + q) (by have:=hrl.out;omega)
     rw [show eo + (r + q) * 2 = eo + r * 2 + q * 2 by omega] at f0
     have hqi : (q : Int) < (L : Int):=by omega
     by_cases hp : (es (r + q)).1 = (es r).1
     ·have HP : Hid ((es (r + q)).1 = (es r).1):=hp
      have bp : (((es (r + q)).1 : Int) == ((es r).1 : Int)) = true:=by rw [beq_iff_eq];omega
      clear hp
      have f0' : (World.drewN _ k).drew.cell? ⟨eb,eo + r * 2 + q * 2,none⟩ = some (.int .i64 ((es (r + q)).1 : Int)):=f0
      have g0' : (World.drewN _ k).drew.cell? ⟨eb,eo + r * 2,none⟩ = some (.int .i64 ((es r).1 : Int)):=g0
      go_wp2
      go_region
      go_wp2
      go_roundw
      case rel=>exact ⟨q + 1,_,by omega,by go_num,rfl,fun i hi=>by
       by_cases e : i = q
       ·subst e;exact HP.out
       ·exact HQ.out i (by omega)⟩
      case measure=>simp [intOf];omega
     ·have hq0 : 0 < q:=by
       apply Classical.byContradiction
       intro c
       have : q = 0:=by omega
       subst this
       exact hp rfl
      have HEN : Hid (r + q < m -> (es (r + q)).1 ≠ (es r).1):=fun _=>hp
      have bp : (((es (r + q)).1 : Int) == ((es r).1 : Int)) = false:=beq_eq_false_iff_ne.2 (by omega)
      clear hp
      have f0' : (World.drewN _ k).drew.cell? ⟨eb,eo + r * 2 + q * 2,none⟩ = some (.int .i64 ((es (r + q)).1 : Int)):=f0
      have g0' : (World.drewN _ k).drew.cell? ⟨eb,eo + r * 2,none⟩ = some (.int .i64 ((es r).1 : Int)):=g0
      have HPW : Hid (Pt (wr.drewN (k + 1)) base pb bo ba N rv' wv' qv' rvs' s'):=HI.out.1.below (below_drewN (Below.refl _ _) _)
      have HOF : Hid (Off (pblk pb bo ba rv' wv' qv' rvs' s'.nr) eb):=HI.out.2.1.off eblt (hoE (by have:=hrl.out;omega))
      have HND : Hid ((nodesOf (fun i=>es (r + i)) q).Nodup):=by
       have z:=run_nodup HG.out (r:=r) (e:=r + q) (by have:=hrl.out;omega) (by omega) (fun i h1 h2=>by
        have:=HQ.out (i - r) (by omega)
        rw [show r + (i - r) = i by omega] at this;exact this)
       rw [show r + q - r = q by omega] at z
       exact z
      have HFF : Hid (∀ i,i < q -> (es (r + i)).2 < N):=fun i hi=>(HG.out.into (r + i) (by have:=hrl.out;omega)).1
      have HST : Hid (Run N G C m es (splitS s' (fun i=>es (r + i)) q) (r + q) /\ (splitS s' (fun i=>es (r + i)) q).waiting.length + s'.nr <= s'.waiting.length + (splitS s' (fun i=>es (r + i)) q).nr):=by
       have z:=run_step HX.out.1 HX.out.2 HG.out HI.out.2.2.1 (e:=r + q) (by omega) (by have:=hrl.out;omega) (fun i h1 h2=>by
        have:=HQ.out (i - r) (by omega)
        rw [show r + (i - r) = i by omega] at this;exact this) HEN.out
       rw [show r + q - r = q by omega] at z
       exact ⟨z,split_waiting HI.out.2.2.1.ok.wf HFF.out HND.out⟩
      have hqN:=nodes_len HFF.out HND.out
      have hnN:=full_le HI.out.2.2.1.ok.full
      have hwN:=wq_len HI.out.2.2.1.ok.wq
      have C98:=c98 base pb bo ba N rv' wv' qv' rvs' s' q c' eb (eo + r * 2) (some ⟨eb,eo + r * 2,none⟩) (fun i=>es (r + i)) (wr.drewN (k + 1)) HPW.out HI.out.2.2.1.ok.wf (by omega) (by omega) ((HEW.out.sub (r:=r) (k:=q) (by have:=hrl.out;omega) _ (fun _=>rfl)).later (fun _=>rfl)) HFF.out (by omega) (by omega) HND.out (fun _=>HOF.out)
      go_wp2
      go_region
      go_wp2_with (first | (go_at_call 105;refine C98.mono ?_;rintro e w5 ⟨rfl,rv5,wv5,qv5,rvs5,P5,F5⟩))
      have FH : Hid (Pt w5 base pb bo ba N rv5 wv5 qv5 rvs5 (splitS s' (fun i=>es (r + i)) q) /\ Fr base w w5 (pblk pb bo ba rv wv qv rvs s.nr) (pblk pb bo ba rv5 wv5 qv5 rvs5 (splitS s' (fun i=>es (r + i)) q).nr) /\ Run N G C m es (splitS s' (fun i=>es (r + i)) q) (r + q) /\ (splitS s' (fun i=>es (r + i)) q).waiting.length + s.nr <= s.waiting.length + (splitS s' (fun i=>es (r + i)) q).nr):=
       ⟨P5,(HI.out.2.1.trans (Fr.of_below _ HI.out.1.big.2.2.2 (below_drewN (Below.refl _ _) _))).trans F5,HST.out.1,by have:=HST.out.2;have:=HI.out.2.2.2;omega⟩
      clear C98 P5 F5
      go_wp2
      exact ⟨⟨r + q,L - q,c' - q,_,rv5,wv5,qv5,rvs5,_,rfl,by have:=hrl.out;show r + q + (L - q) = m;omega,fun _=>by rw [show eo + (r + q) * 2 = eo + r * 2 + q * 2 by omega],by omega,FH⟩,by simp [slLen];omega⟩
    ·have e : q = L:=by omega
     have HEN : Hid (r + q < m -> (es (r + q)).1 ≠ (es r).1):=fun c=>by have:=hrl.out;omega
     have hq0 : 0 < q:=by omega
     have hql' : ¬ (q : Int) < (L : Int):=by omega
     clear e
     have HPW : Hid (Pt (wr.drewN (k + 1)) base pb bo ba N rv' wv' qv' rvs' s'):=HI.out.1.below (below_drewN (Below.refl _ _) _)
     have HOF : Hid (Off (pblk pb bo ba rv' wv' qv' rvs' s'.nr) eb):=HI.out.2.1.off eblt (hoE (by have:=hrl.out;omega))
     have HND : Hid ((nodesOf (fun i=>es (r + i)) q).Nodup):=by
      have z:=run_nodup HG.out (r:=r) (e:=r + q) (by have:=hrl.out;omega) (by omega) (fun i h1 h2=>by
       have:=HQ.out (i - r) (by omega)
       rw [show r + (i - r) = i by omega] at this;exact this)
      rw [show r + q - r = q by omega] at z
      exact z
     have HFF : Hid (∀ i,i < q -> (es (r + i)).2 < N):=fun i hi=>(HG.out.into (r + i) (by have:=hrl.out;omega)).1
     have HST : Hid (Run N G C m es (splitS s' (fun i=>es (r + i)) q) (r + q) /\ (splitS s' (fun i=>es (r + i)) q).waiting.length + s'.nr <= s'.waiting.length + (splitS s' (fun i=>es (r + i)) q).nr):=by
      have z:=run_step HX.out.1 HX.out.2 HG.out HI.out.2.2.1 (e:=r + q) (by omega) (by have:=hrl.out;omega) (fun i h1 h2=>by
       have:=HQ.out (i - r) (by omega)
       rw [show r + (i - r) = i by omega] at this;exact this) HEN.out
      rw [show r + q - r = q by omega] at z
      exact ⟨z,split_waiting HI.out.2.2.1.ok.wf HFF.out HND.out⟩
     have hqN:=nodes_len HFF.out HND.out
     have hnN:=full_le HI.out.2.2.1.ok.full
     have hwN:=wq_len HI.out.2.2.1.ok.wq
     have C98:=c98 base pb bo ba N rv' wv' qv' rvs' s' q c' eb (eo + r * 2) (some ⟨eb,eo + r * 2,none⟩) (fun i=>es (r + i)) (wr.drewN (k + 1)) HPW.out HI.out.2.2.1.ok.wf (by omega) (by omega) ((HEW.out.sub (r:=r) (k:=q) (by have:=hrl.out;omega) _ (fun _=>rfl)).later (fun _=>rfl)) HFF.out (by omega) (by omega) HND.out (fun _=>HOF.out)
     go_wp2
     go_region
     go_wp2_with (first | (go_at_call 105;refine C98.mono ?_;rintro e w5 ⟨rfl,rv5,wv5,qv5,rvs5,P5,F5⟩))
     have FH : Hid (Pt w5 base pb bo ba N rv5 wv5 qv5 rvs5 (splitS s' (fun i=>es (r + i)) q) /\ Fr base w w5 (pblk pb bo ba rv wv qv rvs s.nr) (pblk pb bo ba rv5 wv5 qv5 rvs5 (splitS s' (fun i=>es (r + i)) q).nr) /\ Run N G C m es (splitS s' (fun i=>es (r + i)) q) (r + q) /\ (splitS s' (fun i=>es (r + i)) q).waiting.length + s.nr <= s.waiting.length + (splitS s' (fun i=>es (r + i)) q).nr):=
      ⟨P5,(HI.out.2.1.trans (Fr.of_below _ HI.out.1.big.2.2.2 (below_drewN (Below.refl _ _) _))).trans F5,HST.out.1,by have:=HST.out.2;have:=HI.out.2.2.2;omega⟩
     clear C98 P5 F5
     go_wp2
     exact ⟨⟨r + q,L - q,c' - q,_,rv5,wv5,qv5,rvs5,_,rfl,by have:=hrl.out;show r + q + (L - q) = m;omega,fun c=>by omega,by omega,FH⟩,by simp [slLen];omega⟩
  ·have e : L = 0:=by omega
   have hrm : r = m:=by have:=hrl.out;omega
   have FH : Hid (Pt wr base pb bo ba N rv' wv' qv' rvs' s' /\ Fr base w wr (pblk pb bo ba rv wv qv rvs s.nr) (pblk pb bo ba rv' wv' qv' rvs' s'.nr) /\ Run N G C m es s' m /\ s'.waiting.length + s.nr <= s.waiting.length + s'.nr):=by
    have z:=HI.out
    rw [hrm] at z
    exact z
   clear HI hrm
   subst e
   go_wp2
   exact bodyPost_end (v:=.tuple #[]) (by simp [results,Tryz.results83]) rfl ⟨rfl,_,_,_,_,_,FH.out⟩
end Go.Proofs.YtpbpbppimkeodaaGreatDoor
namespace Go.Proofs.YtpbpbppimkeodaaGreatDoor
open Go.Shelf Go.RowKit Go.Lib Go.Sort
def encE (x : Nat × Nat) : List Value:=[.int .i64 (x.1 : Int),.int .i64 (x.2 : Int)]
def cfE (x y : Nat × Nat) : Int:=Lib.compareInt (x.1 : Int) (y.1 : Int)
theorem ltE (x y : Nat × Nat) : ltOf cfE x y = decide (x.1 < y.1):=by
 unfold ltOf cfE Lib.compareInt
 by_cases h1 : x.1 < y.1
 ·simp [h1]
 ·by_cases h2 : y.1 < x.1 <;> simp [h1,h2]
theorem swoE : SWO (ltOf cfE) where
 irrefl x:=by rw [ltE];simp
 trans x y z h1 h2:=by rw [ltE] at *;simp at *;omega
 ntrans x y z h1 h2:=by rw [ltE] at *;simp at *;omega
set_option maxHeartbeats 1000000 in
theorem c100 (x y : Nat × Nat) (W : World) : Calls Tryz.prog 107 #[.agg #[.int .i64 (x.1 : Int),.int .i64 (x.2 : Int)],.agg #[.int .i64 (y.1 : Int),.int .i64 (y.2 : Int)]] W fun e w'=>e = .returned (.int .i64 (cfE x y)) /\ ∃ q os',w' = grow (W.drewN q) os':=by
 unfold cfE
 have hcon:=fun W'=>Tryz.cmp_Compare_int (x.1 : Int) (y.1 : Int) W'
 generalize Lib.compareInt (x.1 : Int) (y.1 : Int) = r at hcon ⊢
 go_enter Tryz.func107,Tryz.ntmps107
 go_wp2_with (go_at_call 108;refine (hcon _).mono ?_;rintro e w' ⟨rfl,rfl⟩)
 go_ret
 exact ⟨rfl,0,_,by rw [alloc_eq_grow,alloc_eq_grow,grow_grow];rfl⟩
theorem cmpLaysE (blk off size : Nat) (w : World) : CmpLays Tryz.prog 107 #[] encE 2 cfE blk off size w:=
 fun _ _ _ _ x y=>c100 x y _
theorem sortW_old {w : World} {blk off n : Nat} {d : Array (Nat × Nat)} {os : Array Obj} {k : Nat} (hk : k < w.heap.size) (hne : k ≠ blk) : (sortWorldK encE 2 w blk off n d os).heap[k]? = w.heap[k]?:=by
 unfold sortWorldK
 rw [heap_grow_old _ _ (by unfold putRowK;rw [size_putRow];exact hk)]
 unfold putRowK putRow mapBlock
 simp [Array.getElem?_modify,Ne.symm hne]
structure Sorted (w w' : World) (blk : Nat) (d d' : Array (Nat × Nat)) : Prop where
 size : d'.size = d.size
 perm : d'.toList.Perm d.toList
 sorted : ∀ i j,i < j -> j < d.size -> (d'[i]!).1 <= (d'[j]!).1
 c0 : ∀ i,i < d.size -> w'.cell? ⟨blk,i * 2,none⟩ = some (.int .i64 ((d'[i]!).1 : Int))
 c1 : ∀ i,i < d.size -> w'.cell? ⟨blk,i * 2 + 1,none⟩ = some (.int .i64 ((d'[i]!).2 : Int))
 old : ∀ k,k < w.heap.size -> k ≠ blk -> w'.heap[k]? = w.heap[k]?
 more : w.heap.size <= w'.heap.size
 os : w'.os = w.os
 tape : w'.tape = w.tape
 output : w'.output = w.output
theorem c99s (blk cap : Nat) (d : Array (Nat × Nat)) (w : World) (hH : HoldsK encE 2 w blk 0 d) (hblk : blk < w.heap.size) (hsz : d.size < 4611686018427387904) :
  Calls Tryz.prog 106 #[.slice (some ⟨blk,0,none⟩) d.size cap,.func (.func 107) #[] #[]] w fun e w'=>e = .returned (.tuple #[]) /\ ∃ d',Sorted w w' blk d d':=by
 have eg : ∀ args w,(callFunc 107 args).run Tryz.prog w = .ok (.enter 107 args) w:=enters_of Tryz.func107 (by kernel_rfl) rfl
 have hcon:=AnyQ.slices_SortFunc Tryz.sortEdge 2 Tryz.isAgg144 Tryz.sizeOf144 encE (fun _=>rfl) (fun x v hv=>by simp [encE] at hv;rcases hv with rfl | rfl <;> rfl) cfE swoE 107 #[] blk 0 cap d w eg (cmpLaysE blk 0 d.size w) hH hblk hsz
 change Calls Tryz.prog 106 _ _ _ at hcon
 refine hcon.mono ?_
 rintro e w' ⟨rfl,d',n,os,hp,hs,rfl⟩
 obtain ⟨p1,_,p3⟩:=hp
 have hK : HoldsK encE 2 (sortWorldK encE 2 w blk 0 n d' os) blk 0 d':=by
  unfold sortWorldK
  exact holdsK_grow encE 2 _ os blk 0 d' (by unfold putRowK;rw [size_putRow];exact hblk) (holdsK_putRowK encE 2 (Sort.ahead w n) blk 0 d d' (holdsK_ahead encE 2 w n blk 0 d hH) p1)
 refine ⟨rfl,d',p1,?_,fun i j h1 h2=>?_,fun i hi=>?_,fun i hi=>?_,fun k hk hne=>sortW_old hk hne,?_,rfl,rfl,rfl⟩
 ·have e1 : d'.extract 0 d.size = d':=by rw [<- p1];simp
  have e2 : d.extract 0 d.size = d:=by simp
  rw [e1,e2] at p3
  exact p3
 ·have:=hs i j (Nat.zero_le _) h1 h2
  rw [ltE] at this
  simp at this
  exact this
 ·have:=(hK.cell (i:=i) (c:=0) (by omega) (by omega)).1
  simpa [encE] using this
 ·have:=(hK.cell (i:=i) (c:=1) (by omega) (by omega)).1
  simpa [encE] using this
 ·unfold sortWorldK
  rw [size_grow]
  unfold putRowK
  rw [size_putRow]
  exact Nat.le_add_right _ _
theorem c99n (p : Option Addr) (cap : Nat) (w : World) : Calls Tryz.prog 106 #[.slice p 0 cap,.func (.func 107) #[] #[]] w fun e w'=>e = .returned (.tuple #[]) /\ w' = w:=by
 have hcon:=AnyF.slices_SortFunc_none Tryz.sortEdge p cap (.func (.func 107) #[] #[]) w
 change Calls Tryz.prog 106 _ _ _ at hcon
 exact hcon
end Go.Proofs.YtpbpbppimkeodaaGreatDoor
namespace Go.Proofs.YtpbpbppimkeodaaGreatDoor
open Go.RowKit Go.Maps
def flatE (G : Nat -> ND) (N : Nat) (row : List Nat) : List (Nat × Nat):=row.flatMap (edgesTill G N 0)
theorem mem_flatE {G : Nat -> ND} {N : Nat} {row : List Nat} {j x : Nat} : (j,x) ∈ flatE G N row ↔ x < N /\ j < (G x).nk /\ kid (G x) j ∈ row:=by
 unfold flatE
 rw [List.mem_flatMap]
 constructor
 ·rintro ⟨k,hk,hm⟩
  obtain ⟨h1,h2,h3⟩:=mem_edges.1 hm
  exact ⟨h1,h2,by rw [h3];exact hk⟩
 ·rintro ⟨h1,h2,h3⟩
  exact ⟨_,h3,mem_edges.2 ⟨h1,h2,rfl⟩⟩
theorem edges_nodup (G : Nat -> ND) (N k : Nat) : (edgesTill G N 0 k).Nodup:=by
 unfold edgesTill
 simp only [List.range_zero,List.filter_nil,List.map_nil,List.append_nil]
 rw [List.Nodup,List.pairwise_flatMap]
 refine ⟨fun x _=>?_,?_⟩
 ·rw [List.pairwise_map]
  exact (List.nodup_range.filter _).imp (fun {a b} h e=>h (by simpa using e))
 ·refine List.nodup_range.imp (fun {a b} h u hu v hv e=>?_)
  obtain ⟨_,_,rfl⟩:=List.mem_map.1 hu
  obtain ⟨_,_,e2⟩:=List.mem_map.1 hv
  rw [<- e2] at e
  simp only [Prod.mk.injEq] at e
  exact h e.2
theorem flatE_nodup {G : Nat -> ND} {N : Nat} {row : List Nat} (h : row.Nodup) : (flatE G N row).Nodup:=by
 unfold flatE
 rw [List.Nodup,List.pairwise_flatMap]
 refine ⟨fun x _=>edges_nodup G N x,h.imp (fun {a b} hab u hu v hv e=>?_)⟩
 obtain ⟨j,x⟩:=u
 subst e
 exact hab ((mem_edges.1 hu).2.2.symm.trans (mem_edges.1 hv).2.2)
theorem flatE_len {G : Nat -> ND} {N : Nat} {row : List Nat} (h : row.Nodup) (hnk : ∀ i,i < N -> (G i).nk <= 1048576) : (flatE G N row).length <= N * 1048576:=by
 have hb : ∀ a b,a ∈ flatE G N row -> b ∈ flatE G N row -> a.2 * 1048576 + a.1 = b.2 * 1048576 + b.1 -> a = b:=by
  rintro ⟨j,x⟩ ⟨j',x'⟩ h1 h2 e
  obtain ⟨a1,a2,_⟩:=mem_flatE.1 h1
  obtain ⟨b1,b2,_⟩:=mem_flatE.1 h2
  have:=hnk x a1
  have:=hnk x' b1
  have e' : x * 1048576 + j = x' * 1048576 + j':=e
  have ex : x = x':=by omega
  have ej : j = j':=by omega
  rw [ex,ej]
 have hd : ((flatE G N row).map fun a=>a.2 * 1048576 + a.1).Nodup:=by
  have hn:=flatE_nodup (G:=G) (N:=N) h
  rw [List.Nodup,List.pairwise_map,List.pairwise_iff_getElem]
  rw [List.Nodup,List.pairwise_iff_getElem] at hn
  intro i j hi hj hij e
  exact hn i j hi hj hij (hb _ _ (List.getElem_mem _) (List.getElem_mem _) e)
 have:=len_le _ (List.range (N * 1048576)) hd (fun v hv=>by
  obtain ⟨⟨j,x⟩,hm,rfl⟩:=List.mem_map.1 hv
  obtain ⟨a1,a2,_⟩:=mem_flatE.1 hm
  have:=hnk x a1
  refine List.mem_range.2 ?_
  show x * 1048576 + j < N * 1048576
  have : (x + 1) * 1048576 <= N * 1048576:=Nat.mul_le_mul_right _ a1
  omega)
 simpa using this
theorem flatE_take {G : Nat -> ND} {N : Nat} {row : List Nat} {k x : Nat} (h : row[k]? = some x) : flatE G N (row.take (k + 1)) = flatE G N (row.take k) ++ edgesTill G N 0 x:=by
 unfold flatE
 rw [List.take_add_one,h,List.flatMap_append]
 simp
theorem pcells_append (a b : List (Nat × Nat)) : pcells (a ++ b) = pcells a ++ pcells b:=by simp [pcells]
theorem pcells_len (a : List (Nat × Nat)) : (pcells a).length = a.length * 2:=by
 induction a with
 | nil=>rfl
 | cons x t ih=>
   have : pcells (x :: t) = .int .i64 (x.1 : Int) :: .int .i64 (x.2 : Int) :: pcells t:=by simp [pcells]
   rw [this];simp [ih];omega
theorem pcells_one (a : List (Nat × Nat)) : ∀ u ∈ pcells a,u.oneCell' = true:=by
 intro u hu
 unfold pcells at hu
 obtain ⟨q,_,hq⟩:=List.mem_flatMap.1 hu
 simp at hq
 rcases hq with rfl | rfl <;> rfl
theorem own_le {w : World} {base : Nat} {e : TypeId} {size : Nat} {oa : Option Addr} {n cap : Nat} {xs : List Value} (h : w.ownsRow base e size (.slice oa n cap) n xs) : n <= cap:=by
 rcases h.2 with ⟨h1,h2⟩ | ⟨g,c,cur,h1,_,_,h2,_⟩
 ·simp at h1;omega
 ·simp at h1;obtain ⟨_,rfl⟩:=h1;exact h2
theorem app0 {i : TypeInfo} (hi : Tryz.prog.info? 144 = some i) {oa a : Option Addr} {n cap c : Nat} (hle : n <= cap) (ty : TypeId) (w : World) : (Builtin.append_ #[117,117] ty #[.slice oa n cap,.slice a 0 c]).run Tryz.prog w = .ok (.slice oa n cap) w:=by
 cases a <;> cases oa <;> simp [Builtin.append_,run_underlying Tryz.underlying117,sizeOf,typeInfo,hi,Builtin.lenOf,Builtin.firstCells,hle,storeCells,loadCells,loadCellsFrom]
theorem wpList_app0 {w : World} {ops : Array Oper} {rest : List Oper} {o : Oper} {a : Act} {Q : Exit -> Act -> World -> Prop} {i : TypeInfo} (hgd : o.guard = none) (s x : Operand)
  (ho : o.op = .call { callee:=.builtin .append,args:=#[s,x],argTypes:=#[117,117] }) (hi : Tryz.prog.info? 144 = some i) {oa b : Option Addr} {n cap c : Nat} (hle : n <= cap)
  (hs : a.eval s = .slice oa n cap) (hx : a.eval x = .slice b 0 c) (h : wpList Tryz.prog ops Q rest (a.put o.dst (.slice oa n cap)) w) : wpList Tryz.prog ops Q (o :: rest) a w:=by
 refine wpList_plain hgd fun K hK=>?_
 have hrun:=app0 (oa:=oa) (a:=b) (n:=n) (cap:=cap) (c:=c) hi hle o.type w
 unfold Oper.wp
 simp [execOp,ho,resolve,invoke,builtin,hs,hx,hrun,Result.andThen]
 exact hK _ _ h
theorem holds_edges {w : World} {base g cap : Nat} {L : List (Nat × Nat)} (h : w.ownsRow base 144 2 (.slice (some ⟨g,0,none⟩) L.length cap) L.length (pcells L)) : Sort.HoldsK encE 2 w g 0 L.toArray:=by
 intro j hj
 rw [Sort.size_flatK] at hj
 have hj' : j < L.length * 2:=by simpa using hj
 refine ⟨?_,by rw [Nat.zero_add];exact h.frozenAt j⟩
 rw [Nat.zero_add,h.cellAt j hj',id,Sort.get_flatK _ _ _ _ hj]
 have hq : L[j / 2]? = some (L.toArray[j / 2]!):=by
  have : j / 2 < L.length:=by omega
  rw [List.getElem?_eq_getElem this]
  simp [this]
 obtain ⟨p0,p1⟩:=pcells_at hq
 rcases Nat.mod_two_eq_zero_or_one j with c | c
 ·rw [c]
  rw [show j / 2 * 2 = j by omega] at p0
  rw [p0];rfl
 ·rw [c]
  rw [show j / 2 * 2 + 1 = j by omega] at p1
  rw [p1];rfl
theorem edges_of {N : Nat} {G : Nat -> ND} {row : List Nat} (hn : row.Nodup) {d' : Array (Nat × Nat)} (hp : d'.toList.Perm (flatE G N row)) (hs : ∀ i j,i < j -> j < d'.size -> (d'[i]!).1 <= (d'[j]!).1) : Edges N G (fun u=>u ∈ row) d'.size (fun i=>d'[i]!):=by
 have at_ : ∀ i,i < d'.size -> d'[i]! ∈ d'.toList:=fun i hi=>by rw [getElem!_pos d' i hi];exact Array.getElem_mem_toList hi
 refine ⟨fun i hi=>?_,fun x j hx hj hc=>?_,fun i k hi hk e=>?_,fun i k h1 h2=>hs i k h1 h2⟩
 ·have:=hp.mem_iff.1 (at_ i hi)
  obtain ⟨h1,h2,h3⟩:=mem_flatE.1 (show ((d'[i]!).1,(d'[i]!).2) ∈ flatE G N row from this)
  exact ⟨h1,h2,h3⟩
 ·have:=hp.mem_iff.2 (mem_flatE.2 ⟨hx,hj,hc⟩)
  obtain ⟨i,hi,e⟩:=List.getElem_of_mem this
  have hi' : i < d'.size:=by simpa using hi
  refine ⟨i,hi',?_⟩
  show d'[i]! = (j,x)
  rw [getElem!_pos d' i hi',<- e];simp
 ·have hd : d'.toList.Nodup:=hp.nodup_iff.2 (flatE_nodup hn)
  have e' : d'[i]! = d'[k]!:=e
  rw [getElem!_pos d' i hi,getElem!_pos d' k hk] at e'
  rw [List.Nodup,List.pairwise_iff_getElem] at hd
  rcases Nat.lt_trichotomy i k with c | c | c
  ·exact (hd i k (by simpa using hi) (by simpa using hk) c e').elim
  ·exact c
  ·exact (hd k i (by simpa using hk) (by simpa using hi) c e'.symm).elim
structure EdgesPost (N : Nat) (G : Nat -> ND) (row : List Nat) (w w' : World) (v : Value) : Prop where
 ex : ∃ (ea : Option Addr) (eb m ec : Nat) (es : Nat -> Nat × Nat),v = .slice ea m ec /\ m <= 1099511627776 /\ m <= ec /\ EdgesAt w' ea eb 0 m es /\ Edges N G (fun u=>u ∈ row) m es /\ (0 < m -> w.heap.size <= eb)
 below : Below w.heap.size w w'
set_option maxHeartbeats 4000000 in
theorem c74 (base pb bo ba N : Nat) (rv wv qv : Value) (rvs : Nat -> Value) (s : PS) (G : Nat -> ND) (part bi base2 : Nat) (evs : Nat -> Value) (w : World) (h : Pt w base pb bo ba N rv wv qv rvs s) (hW : Wf N s) (hp : part < s.nr) (hN : N <= 500000) (hnk : ∀ i,i < N -> (G i).nk <= 1048576) (hI : Into w base2 bi N evs (fun k=>edgesTill G N 0 k)) :
  Calls Tryz.prog 84 #[.pointer (some ⟨pb,0,none⟩),.int .i64 (part : Int),.slice (some ⟨bi,0,none⟩) N N] w fun e w'=>∃ v,e = .returned v /\ EdgesPost N G (s.rows part) w w' v:=by
 have HH : Hid (Pt w base pb bo ba N rv wv qv rvs s):=h
 have HI : Hid (Into w base2 bi N evs (fun k=>edgesTill G N 0 k)):=hI
 have HW : Hid (Wf N s):=hW
 have HNK : Hid (∀ i,i < N -> (G i).nk <= 1048576):=hnk
 obtain ⟨rb,capR,hrv,hrc,hrf,hrl⟩:=own_some h.rows (by omega)
 obtain ⟨oa,capO,hov⟩:=own_form (h.inner part hp)
 have r1 : w.cell? ⟨pb,1,none⟩ = some (.slice (some ⟨rb,0,none⟩) s.nr capR):=by rw [<- hrv];exact h.row.cell (i:=1) (by omega)
 have r2 : w.cell? ⟨rb,part,none⟩ = some (.slice oa (s.rows part).length capO):=by
  have z:=hrc part hp
  rw [List.getElem?_map,List.getElem?_range hp] at z
  exact z.trans (congrArg some hov)
 have hi1 : (part : Int) < (s.nr : Int):=by omega
 have hrN : (s.rows part).length <= N:=row_len hW hp
 have HNR : Hid ((s.rows part).Nodup):=row_nodup hW hp
 clear hrv hrc hrf h hI hW hnk
 go_enter Tryz.func84,Tryz.ntmps84
 go_wp2
 go_loopw [7,18] (fun v i wr=>∃ (k : Nat),k <= (s.rows part).length /\ i = .int .i64 k /\ Hid (wr.ownsRow w.heap.size 144 2 v (flatE G N ((s.rows part).take k)).length (pcells (flatE G N ((s.rows part).take k))) /\ Below w.heap.size w wr)) (fun _ i _=>(s.rows part).length - (intOf i).toNat)
 case atStart=>exact ⟨0,Nat.zero_le _,rfl,World.ownsRow_nil _ _ _ _,Below.refl _ _⟩
 case round=>
  obtain ⟨k,hk,rfl,HO⟩:=hrel
  by_cases hlt : k < (s.rows part).length
  ·obtain ⟨x,hx⟩ : ∃ x,(s.rows part)[k]? = some x:=⟨_,List.getElem?_eq_getElem hlt⟩
   have hxN : x < N:=(HW.out.row part k x hp hx).1
   have PW:=HH.out.below HO.out.2
   have IW:=HI.out.below HO.out.2
   have HFT : Hid (flatE G N ((s.rows part).take (k + 1)) = flatE G N ((s.rows part).take k) ++ edgesTill G N 0 x):=flatE_take hx
   have HLB : Hid ((flatE G N ((s.rows part).take (k + 1))).length <= N * 1048576):=flatE_len (List.Sublist.nodup (List.take_sublist _ _) HNR.out) HNK.out
   obtain ⟨gr,capr,hgr,hgc,hgf,hgl⟩:=own_some (PW.inner part hp) (by omega)
   rw [hov] at hgr
   simp only [Value.slice.injEq,true_and] at hgr
   obtain ⟨hoa,hcap⟩:=hgr
   have x0 : wr.cell? ⟨gr,k,none⟩ = some (.int .i64 (x : Int)):=by rw [hgc k hlt];simp [icells,hx]
   have e0 : wr.cell? ⟨bi,x,none⟩ = some (evs x):=IW.row.cell hxN
   have hxi : (x : Int) < (N : Int):=by omega
   obtain ⟨ob,capb,hob⟩:=own_form HO.out.1
   obtain ⟨os,caps,hos⟩:=own_form (IW.inner x hxN)
   have hcb:=HO.out.1
   rw [hob] at hcb
   have hle:=own_le hcb
   have HOW : Hid (wr.ownsRow w.heap.size 144 2 (.slice ob (flatE G N ((s.rows part).take k)).length capb) (flatE G N ((s.rows part).take k)).length (pcells (flatE G N ((s.rows part).take k)))):=hcb
   have HSR : Hid (wr.ownsRow base2 144 2 (.slice os (edgesTill G N 0 x).length caps) (edgesTill G N 0 x).length (pcells (edgesTill G N 0 x))):=by rw [<- hos];exact IW.inner x hxN
   have HB : Hid (Below w.heap.size w wr):=HO.out.2
   rw [hos] at e0
   obtain ⟨i0,hi0,hz0,hz1,hz2⟩:=info_parts Tryz.info144
   clear PW IW hgc hgf hos hcb hcap HO
   subst hob
   subst hoa
   by_cases hem : (edgesTill G N 0 x).length = 0
   ·have HE0 : Hid (flatE G N ((s.rows part).take (k + 1)) = flatE G N ((s.rows part).take k)):=by
     have:=HFT.out
     rw [List.length_eq_zero_iff.1 hem,List.append_nil] at this
     exact this
    rw [hem] at e0
    clear hem
    go_wp2_with (first | (at_builtin;refine wpList_app0 rfl _ _ rfl hi0 hle rfl rfl ?_))
    exact ⟨⟨k + 1,by omega,by simp,by rw [HE0.out];exact ⟨HOW.out,HB.out⟩⟩,by simp [intOf];omega⟩
   ·obtain ⟨gs,hgs,hsc⟩ : ∃ gs,os = some ⟨gs,0,none⟩ /\ ∀ j u,(pcells (edgesTill G N 0 x))[j]? = some u -> wr.cell? ((⟨gs,0,none⟩ : Addr).add j) = some u:=by
     have z:=HSR.out
     rcases z.2 with ⟨z1,_⟩ | ⟨g,c,_,z1,_⟩
     ·simp only [Value.slice.injEq] at z1;omega
     ·simp only [Value.slice.injEq,true_and] at z1
      obtain ⟨rfl,rfl⟩:=z1
      refine ⟨g,rfl,fun j u hu=>?_⟩
      have hj:=(List.getElem?_eq_some_iff.1 hu).1
      rw [pcells_len] at hj
      rw [Go.WideShapes.add_plain,Nat.zero_add,z.cellAt j (by omega)]
      exact hu
    subst hgs
    have hl1 : 0 < (edgesTill G N 0 x).length:=by omega
    have hl2 : (flatE G N ((s.rows part).take k)).length + (edgesTill G N 0 x).length <= 524288000000:=by
     have h1:=HLB.out
     rw [HFT.out,List.length_append] at h1
     have : N * 1048576 <= 500000 * 1048576:=Nat.mul_le_mul_right _ hN
     omega
    have hml : (flatE G N ((s.rows part).take k)).length + (edgesTill G N 0 x).length <= maxLen:=by unfold maxLen;omega
    have hbb : ((flatE G N ((s.rows part).take k)).length + (edgesTill G N 0 x).length) * 16 <= 140737488355328:=by omega
    have hsz:=HB.out.size
    clear hem hle
    go_wp2_with (first | (at_builtin;refine wpList_append_lies _ rfl _ _ 117 rfl w.heap.size 144 i0 (.agg #[.int .i64 0,.int .i64 0]) 2 16 Tryz.underlying117 hi0 hz0 hz1 hz2 rfl (by omega) (.slice ob (flatE G N ((s.rows part).take k)).length capb) (flatE G N ((s.rows part).take k)).length (pcells (flatE G N ((s.rows part).take k))) rfl HOW.out ⟨gs,0,none⟩ (edgesTill G N 0 x).length caps (pcells (edgesTill G N 0 x)) rfl (pcells_len _) hsc (pcells_one _) hl1 hml hbb hsz wr.heap.size rfl ?_;intro gg cap3 w3 hown3 hg3 hat hlt3))
    have FH : Hid (w3.ownsRow w.heap.size 144 2 (.slice (some ⟨gg,0,none⟩) ((flatE G N ((s.rows part).take k)).length + (edgesTill G N 0 x).length) cap3) (flatE G N ((s.rows part).take (k + 1))).length (pcells (flatE G N ((s.rows part).take (k + 1)))) /\ Below w.heap.size w w3):=by
     rw [HFT.out,List.length_append,pcells_append]
     refine ⟨hown3,⟨hg3.os.trans HB.out.os,hg3.tape.trans HB.out.tape,hg3.output.trans HB.out.output,Nat.le_trans hsz hg3.size,fun y hy=>(hg3.block y (Nat.lt_of_lt_of_le hy hsz) (fun e=>?_)).trans (HB.out.block y hy)⟩⟩
     have:=(HOW.out.lt y e.symm).1
     omega
    clear hown3 hg3 hat hsc
    go_wp2
    exact ⟨⟨k + 1,by omega,by simp,FH⟩,by simp [intOf];omega⟩
  ·have hke : (s.rows part).take k = s.rows part:=by
    have : k = (s.rows part).length:=by omega
    rw [this,List.take_length]
   rw [hke] at HO
   have hLB : (flatE G N (s.rows part)).length <= 524288000000:=by
    have h1:=flatE_len (G:=G) (N:=N) HNR.out HNK.out
    have : N * 1048576 <= 500000 * 1048576:=Nat.mul_le_mul_right _ hN
    omega
   obtain ⟨ob,capb,hob⟩:=own_form HO.out.1
   have hcb:=HO.out.1
   rw [hob] at hcb
   have hle:=own_le hcb
   subst hob
   have HB : Hid (Below w.heap.size w wr):=HO.out.2
   clear HO hke
   by_cases hem : (flatE G N (s.rows part)).length = 0
   ·have HP : Hid (EdgesPost N G (s.rows part) w wr (.slice ob 0 capb)):=by
     refine ⟨⟨ob,0,0,capb,fun _=>(0,0),rfl,by omega,by omega,⟨fun h=>absurd h (Nat.lt_irrefl _),fun i h=>absurd h (Nat.not_lt_zero _),fun i h=>absurd h (Nat.not_lt_zero _)⟩,⟨fun i h=>absurd h (Nat.not_lt_zero _),fun x j hx hj hc=>?_,fun i k h=>absurd h (Nat.not_lt_zero _),fun i k h1 h2=>absurd h2 (Nat.not_lt_zero _)⟩,fun h=>absurd h (Nat.lt_irrefl _)⟩,HB.out⟩
     have:=mem_flatE.2 ⟨hx,hj,hc⟩
     rw [List.length_eq_zero_iff.1 hem] at this
     cases this
    clear hcb
    rw [hem]
    clear hem hle
    go_wp2_with (first | (go_at_call 106;refine (c99n ob capb _).mono ?_;rintro e w5 ⟨rfl,rfl⟩))
    go_ret
    exact ⟨_,rfl,HP.out⟩
   ·obtain ⟨gb,hgb⟩ : ∃ gb,ob = some ⟨gb,0,none⟩:=by
     rcases hcb.2 with ⟨z1,_⟩ | ⟨g,c,_,z1,_⟩
     ·simp only [Value.slice.injEq] at z1;omega
     ·simp only [Value.slice.injEq,true_and] at z1
      exact ⟨g,z1.1⟩
    subst hgb
    obtain ⟨hg1,hg2⟩:=hcb.lt gb rfl
    have CS:=c99s gb capb (flatE G N (s.rows part)).toArray wr (holds_edges hcb) hg2 (by simp;omega)
    rw [List.size_toArray] at CS
    clear hcb hem
    go_wp2_with (first | (go_at_call 106;refine CS.mono ?_;rintro e w5 ⟨rfl,d',SS⟩))
    have HP : Hid (EdgesPost N G (s.rows part) w w5 (.slice (some ⟨gb,0,none⟩) (flatE G N (s.rows part)).length capb)):=by
     have hsz : d'.size = (flatE G N (s.rows part)).length:=by rw [SS.size];simp
     have hE:=edges_of HNR.out (by simpa using SS.perm) (fun i j h1 h2=>SS.sorted i j h1 (by rw [SS.size] at h2;exact h2))
     rw [hsz] at hE
     refine ⟨⟨_,gb,_,capb,fun i=>d'[i]!,rfl,by omega,hle,⟨fun _=>rfl,fun i hi=>?_,fun i hi=>?_⟩,hE,fun _=>hg1⟩,⟨SS.os.trans HB.out.os,SS.tape.trans HB.out.tape,SS.output.trans HB.out.output,Nat.le_trans HB.out.size SS.more,fun y hy=>(SS.old y (Nat.lt_of_lt_of_le hy HB.out.size) (by omega)).trans (HB.out.block y hy)⟩⟩
     ·rw [Nat.zero_add];exact SS.c0 i (by simpa using hi)
     ·rw [Nat.zero_add];exact SS.c1 i (by simpa using hi)
    clear CS SS
    go_wp2
    go_ret
    exact ⟨_,rfl,HP.out⟩
end Go.Proofs.YtpbpbppimkeodaaGreatDoor
