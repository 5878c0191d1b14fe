/-
  MB
-/
import Derived.Test.YtpbpbppimkeodaaGreatDoorSb
import Derived.Test.YtpbpbppimkeodaaGreatDoorSa
import Derived.BigRegion
import Derived.Lib.SliceRun
set_option maxRecDepth 100000
namespace Go.Proofs.YtpbpbppimkeodaaGreatDoor
open Go.RowKit Go.Maps
def v4 (a b c d : Value) : Nat -> Value:=fun i=>if i = 0 then a else if i = 1 then b else if i = 2 then c else d
structure Num (w : World) (nb kb mb bs : Nat) (ov : Value) (D : DataW Unit) (sv gv cv : Value) (st : List Nat) (cl : Nat -> Nat) (keep : Nat -> Prop) : Prop where
 row : w.rowIs nb 107 4 (v4 gv cv (.pointer (some ⟨kb,0,none⟩)) sv)
 kni : KnI w kb mb ov D (st.map cl) (fun k=>keep k \/ k = nb \/ some k = sv.ownBlock)
 own : w.ownsRow bs 3 1 sv st.length (icells st)
 bsn : nb < bs /\ kb < bs /\ mb < bs /\ bs <= w.heap.size
 far : ∀ k,keep k -> k ≠ nb /\ some k ≠ sv.ownBlock
structure Half (w : World) (nb kb mb bs : Nat) (ov : Value) (D : DataW Unit) (sv gv cv : Value) (st : List Nat) (n : Nat) (cl : Nat -> Nat) (keep : Nat -> Prop) : Prop where
 row : w.rowIs nb 107 4 (v4 gv cv (.pointer (some ⟨kb,0,none⟩)) sv)
 kni : KnI w kb mb ov D ((st ++ [n]).map cl) (fun k=>keep k \/ k = nb \/ some k = sv.ownBlock)
 own : w.ownsRow bs 3 1 sv st.length (icells st)
 bsn : nb < bs /\ kb < bs /\ mb < bs /\ bs <= w.heap.size
 far : ∀ k,keep k -> k ≠ nb /\ some k ≠ sv.ownBlock
theorem own_block {w w' : World} {base : Nat} {e : TypeId} {size : Nat} {v : Value} {n : Nat} {xs : List Value} (h : w.ownsRow base e size v n xs) (hb : ∀ k,some k = v.ownBlock -> w'.heap[k]? = w.heap[k]?) : w'.ownsRow base e size v n xs:=by
 obtain ⟨h1,h2⟩:=h
 refine ⟨h1,?_⟩
 rcases h2 with h2 | ⟨g,cap,cur,hv,hg,hh,r⟩
 ·exact Or.inl h2
 ·exact Or.inr ⟨g,cap,cur,hv,hg,(hb g (by rw [hv];rfl)).trans hh,r⟩
theorem KnI.later {w w' : World} {kb mb : Nat} {ov : Value} {D : DataW Unit} {ord : List Nat} {keep : Nat -> Prop} (h : KnI w kb mb ov D ord keep) (hs : w.heap.size <= w'.heap.size) (hb : ∀ k,k < w.heap.size -> (k = kb \/ k = mb \/ some k = ov.ownBlock) -> w'.heap[k]? = w.heap[k]?) : KnI w' kb mb ov D ord keep:=by
 refine ⟨h.row.of_block (hb kb h.row.lt (Or.inl rfl)),h.mlt,?_,h.has,h.val,own_block h.own (fun k e=>hb k (h.own.lt k e.symm).2 (Or.inr (Or.inr e))),fun k hk=>?_⟩
 ·obtain ⟨es,clock,he,F,hn,hD⟩:=h.map
  exact ⟨es,clock,(hb mb h.map.lt (Or.inr (Or.inl rfl))).trans he,F,hn,hD⟩
 ·obtain ⟨f1,f2,f3,f4⟩:=h.far k hk
  exact ⟨by omega,f2,f3,f4⟩
theorem Half.push {w w3 : World} {nb kb mb bs : Nat} {ov : Value} {D : DataW Unit} {oa : Option Addr} {cap gg cap3 : Nat} {gv cv : Value} {st : List Nat} {n : Nat} {cl : Nat -> Nat} {keep : Nat -> Prop} {o2 : Obj}
  (h : Half w nb kb mb bs ov D (.slice oa st.length cap) gv cv st n cl keep)
  (hown3 : w3.ownsRow bs 3 1 (.slice (some ⟨gg,0,none⟩) (st.length + 1) cap3) (st.length + 1) (icells st ++ [.int .i64 (n : Int)]))
  (hg3 : (w.alloc o2).grownBy w3 (Value.slice oa st.length cap).ownBlock) (hat : (Value.slice oa st.length cap).ownBlock = some gg \/ gg = w.heap.size + 1) :
  Num (w3.setCell ⟨nb,3,none⟩ (.slice (some ⟨gg,0,none⟩) (st.length + 1) cap3)) nb kb mb bs ov D (.slice (some ⟨gg,0,none⟩) (st.length + 1) cap3) gv cv (st ++ [n]) cl keep /\
  Kept keep w (w3.setCell ⟨nb,3,none⟩ (.slice (some ⟨gg,0,none⟩) (st.length + 1) cap3)):=by
 obtain ⟨q1,q2,q3,q4⟩:=h.bsn
 have hs3:=hg3.size
 have e3 : (w.alloc o2).heap.size = w.heap.size + 1:=by simp
 have hsv : ∀ k,some k = (Value.slice oa st.length cap).ownBlock -> bs <= k /\ k < w.heap.size:=fun k e=>h.own.lt k e.symm
 have b3 : ∀ k,k < w.heap.size -> some k ≠ (Value.slice oa st.length cap).ownBlock -> w3.heap[k]? = w.heap[k]?:=fun k hk hn=>(hg3.block k (by rw [e3];omega) hn).trans (Below.heap_alloc _ _ _ hk)
 have bS : ∀ k,k < w.heap.size -> k ≠ nb -> some k ≠ (Value.slice oa st.length cap).ownBlock -> (w3.setCell ⟨nb,3,none⟩ (.slice (some ⟨gg,0,none⟩) (st.length + 1) cap3)).heap[k]? = w.heap[k]?:=fun k hk hne hn=>
  (Below.heap_setCell _ _ _ _ (by show k ≠ nb;exact hne)).trans (b3 k hk hn)
 have hss : (w3.setCell ⟨nb,3,none⟩ (.slice (some ⟨gg,0,none⟩) (st.length + 1) cap3)).heap.size = w3.heap.size:=by simp [World.setCell]
 have rk:=h.row.of_block (b3 nb h.row.lt (fun e=>by have:=(hsv nb e).1;omega))
 have hfn:=h.kni.far nb (Or.inr (Or.inl rfl))
 have hK : KnI (w3.setCell ⟨nb,3,none⟩ (.slice (some ⟨gg,0,none⟩) (st.length + 1) cap3)) kb mb ov D ((st ++ [n]).map cl) (fun k=>keep k \/ k = nb \/ some k = (Value.slice oa st.length cap).ownBlock):=by
  refine h.kni.later (by rw [hss];omega) (fun k hk hc=>bS k hk (fun e=>?_) (fun e=>?_))
  ·subst e
   rcases hc with c | c | c
   ·exact hfn.2.1 c
   ·exact hfn.2.2.1 c
   ·exact hfn.2.2.2 c
  ·have hf:=h.kni.far k (Or.inr (Or.inr e))
   rcases hc with c | c | c
   ·exact hf.2.1 c
   ·exact hf.2.2.1 c
   ·exact hf.2.2.2 c
 refine ⟨⟨(rk.set 3 _).congr (fun i hi=>?_),⟨hK.row,hK.mlt,hK.map,hK.has,hK.val,hK.own,fun k hk=>?_⟩,?_,⟨q1,q2,q3,by rw [hss];omega⟩,fun k hk=>?_⟩,⟨hg3.os,hg3.tape,hg3.output,by rw [hss];omega,fun k hk=>bS k (h.kni.far k (Or.inl hk)).1 (h.far k hk).1 (h.far k hk).2⟩⟩
 ·match i,hi with
  | 0,_=>rfl
  | 1,_=>rfl
  | 2,_=>rfl
  | 3,_=>rfl
 ·rcases hk with c | c | c
  ·exact hK.far k (Or.inl c)
  ·exact hK.far k (Or.inr (Or.inl c))
  ·have ck : k = gg:=by simpa [Value.ownBlock] using c
   subst ck
   rcases hat with hat | hat
   ·exact hK.far k (Or.inr (Or.inr hat.symm))
   ·have hlt3:=(hown3.lt k rfl).2
    have hkb:=h.kni.row.lt
    have hmb:=h.kni.map.lt
    exact ⟨by rw [hss];exact hlt3,by omega,by omega,fun e=>by have:=(h.kni.own.lt k e.symm).2;omega⟩
 ·rw [icells_snoc]
  have:=ownsRow_setCell_below hown3 (a:=⟨nb,3,none⟩) (by show nb < bs;exact q1) (.slice (some ⟨gg,0,none⟩) (st.length + 1) cap3)
  simpa using this
 ·refine ⟨(h.far k hk).1,fun e=>?_⟩
  have ck : k = gg:=by simpa [Value.ownBlock] using e
  subst ck
  rcases hat with hat | hat
  ·exact (h.far k hk).2 hat.symm
  ·have:=(h.kni.far k (Or.inl hk)).1;omega
structure Gin (w : World) (keep : Nat -> Prop) (ao : Option Addr) (b o N : Nat) (p : Nat -> NP) (G : Nat -> ND) (ca : Option Addr) (cb co : Nat) (cl : Nat -> Nat) : Prop where
 nodes : NodesAt w ao b o N p G
 kb : 0 < N -> keep b
 k1 : ∀ i,i < N -> 0 < (G i).nn -> keep (p i).b1
 k2 : ∀ i,i < N -> 0 < (G i).nk -> keep (p i).b2
 cls : IntsAt w ca cb co N (fun i=>(cl i : Int))
 kc : 0 < N -> keep cb
theorem Gin.later {w w' : World} {keep : Nat -> Prop} {ao : Option Addr} {b o N : Nat} {p : Nat -> NP} {G : Nat -> ND} {ca : Option Addr} {cb co : Nat} {cl : Nat -> Nat} (h : Gin w keep ao b o N p G ca cb co cl) (hk : Kept keep w w') : Gin w' keep ao b o N p G ca cb co cl:=by
 refine ⟨⟨h.nodes.at_,fun i hi=>?_,fun i hi=>?_,fun i hi=>?_,fun i hi=>⟨⟨(h.nodes.node i hi).names.at_,fun j hj=>?_,(h.nodes.node i hi).names.size,(h.nodes.node i hi).names.len⟩,⟨(h.nodes.node i hi).kids.at_,fun j hj=>?_,(h.nodes.node i hi).kids.len⟩⟩,h.nodes.len⟩,h.kb,h.k1,h.k2,⟨h.cls.at_,fun i hi=>?_,h.cls.len⟩,h.kc⟩
 ·exact (hk.cell (a:=⟨b,o + i * 3,none⟩) (h.kb (by omega))).trans (h.nodes.c0 i hi)
 ·exact (hk.cell (a:=⟨b,o + i * 3 + 1,none⟩) (h.kb (by omega))).trans (h.nodes.c1 i hi)
 ·exact (hk.cell (a:=⟨b,o + i * 3 + 2,none⟩) (h.kb (by omega))).trans (h.nodes.c2 i hi)
 ·exact (hk.cell (a:=⟨(p i).b1,(p i).o1 + j,none⟩) (h.k1 i hi (by omega))).trans ((h.nodes.node i hi).names.cell j hj)
 ·exact (hk.cell (a:=⟨(p i).b2,(p i).o2 + j,none⟩) (h.k2 i hi (by omega))).trans ((h.nodes.node i hi).kids.cell j hj)
 ·exact (hk.cell (a:=⟨cb,co + i,none⟩) (h.kc (by omega))).trans (h.cls.cell i hi)
theorem contains_stands (cl : Nat -> Nat) (st : List Nat) (n : Nat) : (st.map cl).contains (cl n) = stands cl st n:=by
 rw [Bool.eq_iff_iff,stands_iff,List.contains_iff_mem,List.mem_map]
theorem vis_len {N : Nat} {G : Nat -> ND} {cl : Nat -> Nat} (hK : Kids N G) : ∀ (f : Nat) (st : List Nat) (n : Nat),n < N -> st.length + missing N cl st <= N -> (vis G cl f st n).length + missing N cl (vis G cl f st n) <= N
 | 0,_,_,_,h=>h
 | f + 1,st,n,hn,h=>by
   unfold vis
   by_cases hs : stands cl st n = true
   ·rw [if_pos hs];exact h
   ·rw [if_neg hs]
    refine foldl_keeps (Q:=fun s=>s.length + missing N cl s <= N) _ _ ?_ (fun c j hj hc=>vis_len hK f c _ (hK.lt hn (List.mem_range.1 hj)) hc)
    have:=missing_lt hn hs
    simp only [List.length_append,List.length_cons,List.length_nil]
    omega
theorem Kept.less {keep keep' : Nat -> Prop} {w w' : World} (h : Kept keep w w') (hk : ∀ k,keep' k -> keep k) : Kept keep' w w':=⟨h.os,h.tape,h.output,h.size,fun k q=>h.block k (hk k q)⟩
theorem Num.half {w w' : World} {nb kb mb bs : Nat} {ov ov' : Value} {D D' : DataW Unit} {sv gv cv : Value} {st : List Nat} {n : Nat} {cl : Nat -> Nat} {keep : Nat -> Prop} (h : Num w nb kb mb bs ov D sv gv cv st cl keep) (hs : stands cl st n = false)
  (hk : KnI w' kb mb ov' D' (addI (st.map cl) (cl n)) (fun k=>keep k \/ k = nb \/ some k = sv.ownBlock)) (kp : Kept (fun k=>keep k \/ k = nb \/ some k = sv.ownBlock) w w') : Half w' nb kb mb bs ov' D' sv gv cv st n cl keep:=by
 have e : addI (st.map cl) (cl n) = (st ++ [n]).map cl:=by unfold addI;rw [contains_stands,hs];simp
 rw [e] at hk
 obtain ⟨q1,q2,q3,q4⟩:=h.bsn
 exact ⟨h.row.of_block (kp.block nb (Or.inr (Or.inl rfl))),hk,own_block h.own (fun k e=>kp.block k (Or.inr (Or.inr e))),⟨q1,q2,q3,Nat.le_trans q4 kp.size⟩,h.far⟩
theorem Num.same {w w' : World} {nb kb mb bs : Nat} {ov ov' : Value} {D D' : DataW Unit} {sv gv cv : Value} {st : List Nat} {n : Nat} {cl : Nat -> Nat} {keep : Nat -> Prop} (h : Num w nb kb mb bs ov D sv gv cv st cl keep) (hs : stands cl st n = true)
  (hk : KnI w' kb mb ov' D' (addI (st.map cl) (cl n)) (fun k=>keep k \/ k = nb \/ some k = sv.ownBlock)) (kp : Kept (fun k=>keep k \/ k = nb \/ some k = sv.ownBlock) w w') : Num w' nb kb mb bs ov' D' sv gv cv st cl keep:=by
 have e : addI (st.map cl) (cl n) = st.map cl:=by unfold addI;rw [contains_stands,hs];simp
 rw [e] at hk
 obtain ⟨q1,q2,q3,q4⟩:=h.bsn
 exact ⟨h.row.of_block (kp.block nb (Or.inr (Or.inl rfl))),hk,own_block h.own (fun k e=>kp.block k (Or.inr (Or.inr e))),⟨q1,q2,q3,Nat.le_trans q4 kp.size⟩,h.far⟩
theorem Num.drew {w : World} {nb kb mb bs : Nat} {ov : Value} {D : DataW Unit} {sv gv cv : Value} {st : List Nat} {cl : Nat -> Nat} {keep : Nat -> Prop} (h : Num w nb kb mb bs ov D sv gv cv st cl keep) : Num w.drew nb kb mb bs ov D sv gv cv st cl keep:=
 ⟨h.row.of_block rfl,h.kni.later (Nat.le_refl _) (fun _ _ _=>rfl),own_block h.own (fun _ _=>rfl),h.bsn,h.far⟩
theorem Kept.drewL {keep : Nat -> Prop} {w w' : World} (h : Kept keep w.drew w') : Kept keep w w':=⟨h.os,h.tape,h.output,h.size,h.block⟩
theorem c108v (kb mb : Nat) (ov : Value) (D : DataW Unit) (st : List Nat) (cl : Nat -> Nat) (n x : Nat) (q : Bool) (keep : Nat -> Prop) (w : World) (h : KnI w kb mb ov D (st.map cl) keep) (ha : cl n < 4611686018427387904) (ho : st.length <= 100000000)
  (hq : stands cl st n = q) (hx : (addI (st.map cl) (cl n)).idxOf (cl n) = x) :
  Calls Tryz.prog 117 #[.pointer (some ⟨kb,0,none⟩),.int .i64 (cl n : Int)] w fun e w'=>
   ∃ (ov' : Value) (D' : DataW Unit),e = .returned (.tuple #[.int .i64 (x : Int),.bool (!q)]) /\ KnI w' kb mb ov' D' (addI (st.map cl) (cl n)) keep /\ Kept keep w w':=by
 have:=c108 kb mb ov D (st.map cl) keep (cl n) w h ha (by simp only [List.length_map];exact ho)
 rw [contains_stands,hq,hx] at this
 exact this
def upTo (G : Nat -> ND) (cl : Nat -> Nat) (f n : Nat) (st : List Nat) (k : Nat) : List Nat:=(List.range k).foldl (fun s j=>vis G cl f s (kid (G n) j)) (st ++ [n])
theorem upTo_succ (G : Nat -> ND) (cl : Nat -> Nat) (f n : Nat) (st : List Nat) (k : Nat) : upTo G cl f n st (k + 1) = vis G cl f (upTo G cl f n st k) (kid (G n) k):=by
 unfold upTo;rw [List.range_succ,List.foldl_append,List.foldl_cons,List.foldl_nil]
theorem upTo_ok {N : Nat} {G : Nat -> ND} {cl : Nat -> Nat} (hK : Kids N G) {f n : Nat} {st : List Nat} (hn : n < N) (hs : stands cl st n = false) (hl : st.length + missing N cl st <= N) (hf : missing N cl st < f + 1) : ∀ k,k <= (G n).nk ->
  (upTo G cl f n st k).length + missing N cl (upTo G cl f n st k) <= N /\ missing N cl (upTo G cl f n st k) < f
 | 0,_=>by
   have:=missing_lt (cl:=cl) hn (by rw [hs];exact Bool.false_ne_true)
   unfold upTo
   simp only [List.range_zero,List.foldl_nil,List.length_append,List.length_cons,List.length_nil]
   omega
 | k + 1,hk=>by
   obtain ⟨h1,h2⟩:=upTo_ok hK hn hs hl hf k (by omega)
   rw [upTo_succ]
   have:=missing_le (N:=N) (cl:=cl) (fun s q=>vis_sub (G:=G) (cl:=cl) f (upTo G cl f n st k) (kid (G n) k) (s:=s) q)
   exact ⟨vis_len hK f _ _ (hK.lt hn (by omega)) h1,by omega⟩
theorem vis_new {G : Nat -> ND} {cl : Nat -> Nat} {f n : Nat} {st : List Nat} (hs : stands cl st n = false) : vis G cl (f + 1) st n = upTo G cl f n st (G n).nk:=by
 conv=>lhs;unfold vis;rw [hs]
 rfl
theorem vis_old {G : Nat -> ND} {cl : Nat -> Nat} {f n : Nat} {st : List Nat} (hs : stands cl st n = true) : vis G cl (f + 1) st n = st:=by
 unfold vis;rw [hs];rfl
set_option maxHeartbeats 4000000 in
theorem c90 {N b o nb kb mb bs gc cb co cc : Nat} {p : Nat -> NP} {G : Nat -> ND} {cl : Nat -> Nat} {keep : Nat -> Prop} (hK : Kids N G) (hcl : ∀ i,i < N -> cl i < 4611686018427387904) (hN : N <= 1048576) (hnk : ∀ i,i < N -> (G i).nk <= 1048576) :
  ∀ (f : Nat) (st : List Nat) (n : Nat) (ov : Value) (D : DataW Unit) (sv : Value) (w : World),n < N -> st.length + missing N cl st <= N -> missing N cl st < f ->
    Num w nb kb mb bs ov D sv (.slice (some ⟨b,o,none⟩) N gc) (.slice (some ⟨cb,co,none⟩) N cc) st cl keep -> Gin w keep (some ⟨b,o,none⟩) b o N p G (some ⟨cb,co,none⟩) cb co cl ->
    Calls Tryz.prog 97 #[.pointer (some ⟨nb,0,none⟩),.int .i64 (n : Int)] w fun e w'=>∃ (ov' : Value) (D' : DataW Unit) (sv' : Value),e = .returned (.int .i64 ((addI (st.map cl) (cl n)).idxOf (cl n) : Int)) /\
     Num w' nb kb mb bs ov' D' sv' (.slice (some ⟨b,o,none⟩) N gc) (.slice (some ⟨cb,co,none⟩) N cc) (vis G cl f st n) cl keep /\ Kept keep w w'
 | 0,_,_,_,_,_,_,_,_,hf,_,_=>absurd hf (Nat.not_lt_zero _)
 | f + 1,st,n,ov,D,sv,w,hn,hl,hf,h,hg=>by
   have HI : Hid (∀ (st : List Nat) (n : Nat) (ov : Value) (D : DataW Unit) (sv : Value) (w : World),n < N -> st.length + missing N cl st <= N -> missing N cl st < f ->
    Num w nb kb mb bs ov D sv (.slice (some ⟨b,o,none⟩) N gc) (.slice (some ⟨cb,co,none⟩) N cc) st cl keep -> Gin w keep (some ⟨b,o,none⟩) b o N p G (some ⟨cb,co,none⟩) cb co cl ->
    Calls Tryz.prog 97 #[.pointer (some ⟨nb,0,none⟩),.int .i64 (n : Int)] w fun e w'=>∃ (ov' : Value) (D' : DataW Unit) (sv' : Value),e = .returned (.int .i64 ((addI (st.map cl) (cl n)).idxOf (cl n) : Int)) /\
     Num w' nb kb mb bs ov' D' sv' (.slice (some ⟨b,o,none⟩) N gc) (.slice (some ⟨cb,co,none⟩) N cc) (vis G cl f st n) cl keep /\ Kept keep w w'):=c90 hK hcl hN hnk f
   have HH : Hid (Num w nb kb mb bs ov D sv (.slice (some ⟨b,o,none⟩) N gc) (.slice (some ⟨cb,co,none⟩) N cc) st cl keep):=h
   have HG : Hid (Gin w keep (some ⟨b,o,none⟩) b o N p G (some ⟨cb,co,none⟩) cb co cl):=hg
   have HK : Hid (Kids N G):=hK
   have HC : Hid (∀ i,i < N -> cl i < 4611686018427387904):=hcl
   have HNK : Hid (∀ i,i < N -> (G i).nk <= 1048576):=hnk
   have r0:=h.row.cell (i:=0) (by omega)
   have r1:=h.row.cell (i:=1) (by omega)
   have r2:=h.row.cell (i:=2) (by omega)
   have r3:=h.row.cell (i:=3) (by omega)
   simp only [v4,if_true,if_false,show ((1:Nat) = 0) = False from by simp,show ((2:Nat) = 0) = False from by simp,show ((2:Nat) = 1) = False from by simp,show ((3:Nat) = 0) = False from by simp,show ((3:Nat) = 1) = False from by simp,show ((3:Nat) = 2) = False from by simp] at r0 r1 r2 r3
   have g1:=hg.cls.cell n hn
   have l1 : (n : Int) < (N : Int):=by omega
   clear h hg hK hcl hnk
   have hcb : keep cb:=HG.out.kc (by omega)
   have hbk : keep b:=HG.out.kb (by omega)
   have hol : st.length <= 100000000:=by omega
   have hKd:=HH.out.drew.kni
   have hcn:=HC.out n hn
   obtain ⟨oa,cap,rfl⟩:=own_form HH.out.own
   obtain ⟨x,hx⟩ : ∃ x,(addI (st.map cl) (cl n)).idxOf (cl n) = x:=⟨_,rfl⟩
   cases hs : stands cl st n
   case true=>
    go_enter Tryz.func97,Tryz.ntmps97
    go_wp2_with fail
    go_region_held3 (fun w'=>w'.cell? ⟨nb,2,none⟩ = some (.pointer (some ⟨kb,0,none⟩)) /\ w'.cell? ⟨nb,1,none⟩ = some (.slice (some ⟨cb,co,none⟩) N cc) /\ w'.cell? ⟨cb,co + n,none⟩ = some (.int .i64 (cl n : Int))) (go_keep)
     (first | (go_at_call 117;refine (c108v kb mb ov D st cl n x true _ _ hKd hcn hol hs hx).mono ?_;rintro e w1 ⟨ov1,D1,rfl,hk1,kp1⟩;have z1:=(kp1.cell (a:=⟨nb,2,none⟩) (Or.inr (Or.inl rfl))).trans r2;have z2:=(kp1.cell (a:=⟨nb,1,none⟩) (Or.inr (Or.inl rfl))).trans r1;have z3:=(kp1.cell (a:=⟨cb,co + n,none⟩) (Or.inl hcb)).trans g1))
    all_goals
     have FIN : Hid (Num w1 nb kb mb bs ov1 D1 (.slice oa st.length cap) (.slice (some ⟨b,o,none⟩) N gc) (.slice (some ⟨cb,co,none⟩) N cc) (vis G cl (f + 1) st n) cl keep /\ Kept keep w w1):=by
      refine ⟨?_,(kp1.less (fun k q=>Or.inl q)).drewL⟩
      rw [vis_old hs]
      exact HH.out.drew.same hs hk1 kp1
     clear z1 z2 z3 r0 r1 r2 r3 g1 hs hk1 kp1 hKd
     go_wp2
     go_ret
     exact ⟨_,_,_,by rw [hx];rfl,FIN.out.1,FIN.out.2⟩
   go_enter Tryz.func97,Tryz.ntmps97
   go_wp2_with fail
   go_region_held3 (fun w'=>w'.cell? ⟨nb,2,none⟩ = some (.pointer (some ⟨kb,0,none⟩)) /\ w'.cell? ⟨nb,1,none⟩ = some (.slice (some ⟨cb,co,none⟩) N cc) /\ w'.cell? ⟨cb,co + n,none⟩ = some (.int .i64 (cl n : Int))) (go_keep)
    (first | (go_at_call 117;refine (c108v kb mb ov D st cl n x false _ _ hKd hcn hol hs hx).mono ?_;rintro e w1 ⟨ov1,D1,rfl,hk1,kp1⟩;have z1:=(kp1.cell (a:=⟨nb,2,none⟩) (Or.inr (Or.inl rfl))).trans r2;have z2:=(kp1.cell (a:=⟨nb,1,none⟩) (Or.inr (Or.inl rfl))).trans r1;have z3:=(kp1.cell (a:=⟨cb,co + n,none⟩) (Or.inl hcb)).trans g1))
   have H1:=HH.out.drew.half hs hk1 kp1
   have KP1 : Kept keep w w1:=(kp1.less (fun k q=>Or.inl q)).drewL
   have HS : Hid (stands cl st n = false):=hs
   have hbn : b ≠ nb:=(H1.far b hbk).1
   obtain ⟨i0,hi0,hz0,hz1,hz2⟩:=info_parts Tryz.info3
   have OWN:=H1.own
   have RW:=H1.row
   have hrl:=RW.lt
   have d3 : w1.cell? ⟨nb,3,none⟩ = some (.slice oa st.length cap):=RW.cell (i:=3) (by omega)
   have d1':=(RW.alloc (.cells #[.int .i64 (n : Int)] 3)).cell (i:=3) (by omega)
   have d0':=(RW.alloc (.cells #[.int .i64 (n : Int)] 3)).cell (i:=0) (by omega)
   have d2':=(RW.alloc (.cells #[.int .i64 (n : Int)] 3)).frozen 3
   have hbs : bs <= w1.heap.size:=H1.bsn.2.2.2
   have n1 : some nb ≠ (Value.slice oa st.length cap).ownBlock:=fun e=>by have h1:=(H1.own.lt nb e.symm).1;have h2:=H1.bsn.1;omega
   have c2:=((HG.out.later KP1).nodes.c2 n hn)
   obtain ⟨a2,ha2⟩ : ∃ a2,(p n).a2 = a2:=⟨_,rfl⟩
   rw [ha2] at c2
   have hblt:=(H1.kni.far b (Or.inl hbk)).1
   have hbo:=(H1.far b hbk).2
   have c2' : (w1.alloc (.cells #[.int .i64 (n : Int)] 3)).cell? ⟨b,o + n * 3 + 2,none⟩ = some (.slice a2 (G n).nk (p n).c2):=(World.cell?_of_block (w:=w1) (Below.heap_alloc _ _ _ hblt)).trans c2
   clear z1 z2 z3 r0 r1 r2 r3 g1 hs hk1 kp1 hKd
   go_wp2_with (first | (at_builtin;refine wpList_append_lies _ rfl _ _ 25 rfl bs 3 i0 (.int .i64 0) 1 8 Tryz.underlying25 hi0 hz0 hz1 hz2 rfl (by omega) (.slice oa st.length cap) st.length (icells st) rfl (OWN.alloc _) ⟨w1.heap.size,0,none⟩ 1 1 [.int .i64 (n : Int)] rfl rfl (cell_one_new _ _ _) (ints_oneCell .i64 [(n : Int)]) (by omega) (by unfold maxLen;omega) (by omega) (by simp;omega) (w1.heap.size + 1) (by simp) ?_;intro gg cap3 w3 hown3 hg3 hat hlt3;have f1 : w3.cell? ⟨nb,3,none⟩ = some (.slice oa st.length cap):=(hg3.cell_far ⟨nb,3,none⟩ (by simp;omega) n1).trans d1';have f2 : w3.frozen? ⟨nb,3,none⟩ = false:=(hg3.frozen_far ⟨nb,3,none⟩ (by simp;omega) n1).trans d2';have f0 : w3.cell? ⟨nb,0,none⟩ = some (.slice (some ⟨b,o,none⟩) N gc):=(hg3.cell_far ⟨nb,0,none⟩ (by simp;omega) n1).trans d0';have f4 : w3.cell? ⟨b,o + n * 3 + 2,none⟩ = some (.slice a2 (G n).nk (p n).c2):=(hg3.cell_far ⟨b,o + n * 3 + 2,none⟩ (by simp;omega) hbo).trans c2'))
   have FIN:=H1.push hown3 hg3 hat
   clear hown3 hg3 hat OWN RW d3 d1' d0' d2' n1 c2 c2' f1 f2 f0 f4 H1 hblt hbo
   obtain ⟨wl,hwl⟩ : ∃ wl,wl = w3.setCell ⟨nb,3,none⟩ (.slice (some ⟨gg,0,none⟩) (st.length + 1) cap3):=⟨_,rfl⟩
   rw [<- hwl] at FIN ⊢
   have KP : Kept keep w wl:=KP1.trans FIN.2
   have FN:=FIN.1
   clear hwl FIN KP1
   go_loopw [45] (fun s wr=>∃ (k : Nat) (ov' : Value) (D' : DataW Unit) (sv' : Value),k <= (G n).nk /\ s = .int .i64 k /\ Num wr nb kb mb bs ov' D' sv' (.slice (some ⟨b,o,none⟩) N gc) (.slice (some ⟨cb,co,none⟩) N cc) (upTo G cl f n st k) cl keep /\ Kept keep w wr) (fun s _=>(G n).nk - (intOf s).toNat)
   case atStart=>exact ⟨0,_,_,_,Nat.zero_le _,rfl,FN,KP⟩
   case round=>
    obtain ⟨k,ov',D',sv',hk,rfl,hNu,hKp⟩:=hrel
    clear FN KP
    by_cases hlt : k < (G n).nk
    case neg=>
     have hkk : k = (G n).nk:=by omega
     have FIN : Hid (Num wr nb kb mb bs ov' D' sv' (.slice (some ⟨b,o,none⟩) N gc) (.slice (some ⟨cb,co,none⟩) N cc) (vis G cl (f + 1) st n) cl keep /\ Kept keep w wr):=by
      refine ⟨?_,hKp⟩
      rw [vis_new HS.out,<- hkk];exact hNu
     clear hkk hNu hKp
     go_wp2
     go_ret
     exact ⟨_,_,_,by rw [hx];rfl,FIN.out.1,FIN.out.2⟩
    have GR:=HG.out.later hKp
    have HGR : Hid (Gin wr keep (some ⟨b,o,none⟩) b o N p G (some ⟨cb,co,none⟩) cb co cl):=GR
    have tx:=(GR.nodes.node n hn).kids.at_ (by omega)
    have gx:=(GR.nodes.node n hn).kids.cell k hlt
    have ix:=HK.out n hn k hlt
    have ex : (G n).kd k = ((kid (G n) k : Nat) : Int):=by unfold kid;omega
    rw [ex] at gx
    rw [ha2] at tx
    clear ha2
    subst tx
    have hkN : kid (G n) k < N:=HK.out.lt hn hlt
    have hup:=upTo_ok HK.out hn HS.out hl hf k (by omega)
    have hnkk:=HNK.out n hn
    have l2 : (k : Int) < ((G n).nk : Int):=by omega
    have HNu : Hid (Num wr nb kb mb bs ov' D' sv' (.slice (some ⟨b,o,none⟩) N gc) (.slice (some ⟨cb,co,none⟩) N cc) (upTo G cl f n st k) cl keep):=hNu
    clear GR ix ex hNu
    go_wp2_with fail
    refine (HI.out (upTo G cl f n st k) (kid (G n) k) ov' D' sv' _ hkN hup.1 hup.2 HNu.out HGR.out).mono ?_
    rintro e w' ⟨ov2,D2,sv2,rfl,hN2,hK2⟩
    have HN2 : Hid (Num w' nb kb mb bs ov2 D2 sv2 (.slice (some ⟨b,o,none⟩) N gc) (.slice (some ⟨cb,co,none⟩) N cc) (upTo G cl f n st (k + 1)) cl keep):=by
     rw [upTo_succ];exact hN2
    have HP2:=hKp.trans hK2
    clear hN2 hK2 hKp gx HGR HNu
    go_wp2
    go_roundw
    case rel=>exact ⟨k + 1,ov2,D2,sv2,by omega,by go_num,HN2.out,HP2⟩
    case measure=>simp [intOf];omega
def NumPart (nb kb mb : Nat) (ov sv : Value) (k : Nat) : Prop:=k = nb \/ k = kb \/ k = mb \/ some k = ov.ownBlock \/ some k = sv.ownBlock
theorem Num.part_lt {w : World} {nb kb mb bs : Nat} {ov : Value} {D : DataW Unit} {sv gv cv : Value} {st : List Nat} {cl : Nat -> Nat} {keep : Nat -> Prop} (h : Num w nb kb mb bs ov D sv gv cv st cl keep) {k : Nat} (hk : NumPart nb kb mb ov sv k) : k < w.heap.size:=by
 rcases hk with rfl | rfl | rfl | e | e
 ·exact h.row.lt
 ·exact h.kni.row.lt
 ·exact h.kni.map.lt
 ·exact (h.kni.own.lt k e.symm).2
 ·exact (h.own.lt k e.symm).2
theorem Num.far_part {w : World} {nb kb mb bs : Nat} {ov : Value} {D : DataW Unit} {sv gv cv : Value} {st : List Nat} {cl : Nat -> Nat} {keep : Nat -> Prop} (h : Num w nb kb mb bs ov D sv gv cv st cl keep) {k : Nat} (hk : keep k) : k < w.heap.size /\ ¬ NumPart nb kb mb ov sv k:=by
 obtain ⟨f1,f2,f3,f4⟩:=h.kni.far k (Or.inl hk)
 obtain ⟨g1,g2⟩:=h.far k hk
 refine ⟨f1,fun hp=>?_⟩
 rcases hp with e | e | e | e | e
 ·exact g1 e
 ·exact f2 e
 ·exact f3 e
 ·exact f4 e
 ·exact g2 e
theorem Num.later {w w' : World} {nb kb mb bs : Nat} {ov : Value} {D : DataW Unit} {sv gv cv : Value} {st : List Nat} {cl : Nat -> Nat} {keep : Nat -> Prop} (h : Num w nb kb mb bs ov D sv gv cv st cl keep) (hs : w.heap.size <= w'.heap.size) (hb : ∀ k,NumPart nb kb mb ov sv k -> w'.heap[k]? = w.heap[k]?) : Num w' nb kb mb bs ov D sv gv cv st cl keep:=by
 obtain ⟨q1,q2,q3,q4⟩:=h.bsn
 refine ⟨h.row.of_block (hb nb (Or.inl rfl)),h.kni.later hs (fun k _ hk=>?_),own_block h.own (fun k e=>hb k (Or.inr (Or.inr (Or.inr (Or.inr e))))),⟨q1,q2,q3,Nat.le_trans q4 hs⟩,h.far⟩
 rcases hk with e | e | e
 ·exact hb k (Or.inr (Or.inl e))
 ·exact hb k (Or.inr (Or.inr (Or.inl e)))
 ·exact hb k (Or.inr (Or.inr (Or.inr (Or.inl e))))
theorem Num.rekeep {w : World} {nb kb mb bs : Nat} {ov : Value} {D : DataW Unit} {sv gv cv : Value} {st : List Nat} {cl : Nat -> Nat} {keep keep' : Nat -> Prop} (h : Num w nb kb mb bs ov D sv gv cv st cl keep) (hk : ∀ k,keep' k -> k < w.heap.size /\ ¬ NumPart nb kb mb ov sv k) : Num w nb kb mb bs ov D sv gv cv st cl keep':=by
 refine ⟨h.row,⟨h.kni.row,h.kni.mlt,h.kni.map,h.kni.has,h.kni.val,h.kni.own,fun k q=>?_⟩,h.own,h.bsn,fun k q=>?_⟩
 ·rcases q with q | q
  ·obtain ⟨a,n⟩:=hk k q
   exact ⟨a,fun e=>n (Or.inr (Or.inl e)),fun e=>n (Or.inr (Or.inr (Or.inl e))),fun e=>n (Or.inr (Or.inr (Or.inr (Or.inl e))))⟩
  ·exact h.kni.far k (Or.inr q)
 ·obtain ⟨_,n⟩:=hk k q
  exact ⟨fun e=>n (Or.inl e),fun e=>n (Or.inr (Or.inr (Or.inr (Or.inr e))))⟩
def allTill (G : Nat -> ND) (cl : Nat -> Nat) (f : Nat) (ns : Nat -> Nat) (st : List Nat) (k : Nat) : List Nat:=(List.range k).foldl (fun s j=>vis G cl f s (ns j)) st
theorem allTill_succ (G : Nat -> ND) (cl : Nat -> Nat) (f : Nat) (ns : Nat -> Nat) (st : List Nat) (k : Nat) : allTill G cl f ns st (k + 1) = vis G cl f (allTill G cl f ns st k) (ns k):=by
 unfold allTill;rw [List.range_succ,List.foldl_append,List.foldl_cons,List.foldl_nil]
def numsTill (G : Nat -> ND) (cl : Nat -> Nat) (f : Nat) (ns : Nat -> Nat) (st : List Nat) (k : Nat) : List Nat:=(List.range k).map fun i=>(addI ((allTill G cl f ns st i).map cl) (cl (ns i))).idxOf (cl (ns i))
theorem numsTill_succ (G : Nat -> ND) (cl : Nat -> Nat) (f : Nat) (ns : Nat -> Nat) (st : List Nat) (k : Nat) : numsTill G cl f ns st (k + 1) = numsTill G cl f ns st k ++ [(addI ((allTill G cl f ns st k).map cl) (cl (ns k))).idxOf (cl (ns k))]:=by
 unfold numsTill;rw [List.range_succ,List.map_append];rfl
theorem allTill_ok {N : Nat} {G : Nat -> ND} {cl : Nat -> Nat} (hK : Kids N G) {f : Nat} {ns : Nat -> Nat} {st : List Nat} {m : Nat} (hn : ∀ i,i < m -> ns i < N) (hl : st.length + missing N cl st <= N) (hf : missing N cl st < f) : ∀ k,k <= m ->
  (allTill G cl f ns st k).length + missing N cl (allTill G cl f ns st k) <= N /\ missing N cl (allTill G cl f ns st k) < f
 | 0,_=>⟨hl,hf⟩
 | k + 1,hk=>by
   obtain ⟨h1,h2⟩:=allTill_ok hK hn hl hf k (by omega)
   rw [allTill_succ]
   have:=missing_le (N:=N) (cl:=cl) (fun s q=>vis_sub (G:=G) (cl:=cl) f (allTill G cl f ns st k) (ns k) (s:=s) q)
   exact ⟨vis_len hK f _ _ (hn k (by omega)) h1,by omega⟩
def Keep2 (keep : Nat -> Prop) (lv : Value) (k : Nat) : Prop:=keep k \/ some k = lv.ownBlock
theorem Gin.more {w : World} {keep keep' : Nat -> Prop} {ao : Option Addr} {b o N : Nat} {p : Nat -> NP} {G : Nat -> ND} {ca : Option Addr} {cb co : Nat} {cl : Nat -> Nat} (h : Gin w keep ao b o N p G ca cb co cl) (hk : ∀ k,keep k -> keep' k) : Gin w keep' ao b o N p G ca cb co cl:=
 ⟨h.nodes,fun q=>hk _ (h.kb q),fun i hi q=>hk _ (h.k1 i hi q),fun i hi q=>hk _ (h.k2 i hi q),h.cls,fun q=>hk _ (h.kc q)⟩
theorem Num.grow {w w3 : World} {nb kb mb bs base : Nat} {ov : Value} {D : DataW Unit} {sv gv cv : Value} {st : List Nat} {cl : Nat -> Nat} {keep : Nat -> Prop} {oa : Option Addr} {k cap gg cap3 : Nat} {xs : List Value} {o2 : Obj}
  (h : Num w nb kb mb bs ov D sv gv cv st cl (Keep2 keep (.slice oa k cap))) (hown3 : w3.ownsRow base 3 1 (.slice (some ⟨gg,0,none⟩) (k + 1) cap3) (k + 1) xs)
  (hg3 : (w.alloc o2).grownBy w3 (Value.slice oa k cap).ownBlock) (hat : (Value.slice oa k cap).ownBlock = some gg \/ gg = w.heap.size + 1) :
  Num w3 nb kb mb bs ov D sv gv cv st cl (Keep2 keep (.slice (some ⟨gg,0,none⟩) (k + 1) cap3)) /\ ∀ k',k' < w.heap.size -> some k' ≠ (Value.slice oa k cap).ownBlock -> w3.heap[k']? = w.heap[k']?:=by
 have hs3:=hg3.size
 have e3 : (w.alloc o2).heap.size = w.heap.size + 1:=by simp
 have b3 : ∀ k',k' < w.heap.size -> some k' ≠ (Value.slice oa k cap).ownBlock -> w3.heap[k']? = w.heap[k']?:=fun k' hk hn=>(hg3.block k' (by rw [e3];omega) hn).trans (Below.heap_alloc _ _ _ hk)
 have h3:=h.later (w':=w3) (by omega) (fun k' hp=>b3 k' (h.part_lt hp) (fun e=>(h.far_part (k:=k') (Or.inr e)).2 hp))
 refine ⟨h3.rekeep (fun k' hk=>?_),b3⟩
 rcases hk with hk | hk
 ·exact h3.far_part (Or.inl hk)
 ·have ck : k' = gg:=by simpa [Value.ownBlock] using hk
  subst ck
  rcases hat with hat | hat
  ·exact h3.far_part (Or.inr hat.symm)
  ·exact ⟨(hown3.lt k' rfl).2,fun hp=>by have:=h.part_lt hp;omega⟩
set_option maxHeartbeats 4000000 in
theorem c69 {N b o nb kb mb bs gc cb co cc : Nat} {p : Nat -> NP} {G : Nat -> ND} {cl : Nat -> Nat} {keep : Nat -> Prop} {gv cv : Value} (hgv : 0 < N -> gv = .slice (some ⟨b,o,none⟩) N gc) (hcv : 0 < N -> cv = .slice (some ⟨cb,co,none⟩) N cc) (hK : Kids N G) (hcl : ∀ i,i < N -> cl i < 4611686018427387904) (hN : N <= 1048576) (hnk : ∀ i,i < N -> (G i).nk <= 1048576)
  (f : Nat) (st : List Nat) (na : Option Addr) (nl no m nc : Nat) (ns : Nat -> Nat) (ov : Value) (D : DataW Unit) (sv : Value) (w : World) (hm : m <= 1048576) (hns : ∀ i,i < m -> ns i < N) (hl : st.length + missing N cl st <= N) (hf : missing N cl st < f)
  (h : Num w nb kb mb bs ov D sv gv cv st cl keep) (hg : 0 < N -> Gin w keep (some ⟨b,o,none⟩) b o N p G (some ⟨cb,co,none⟩) cb co cl)
  (hi : IntsAt w na nl no m (fun i=>(ns i : Int))) (hik : 0 < m -> keep nl) :
  Calls Tryz.prog 79 #[.pointer (some ⟨nb,0,none⟩),.slice na m nc] w fun e w'=>∃ (ov' : Value) (D' : DataW Unit) (sv' lv : Value),e = .returned lv /\ w'.ownsRow w.heap.size 3 1 lv m (icells (numsTill G cl f ns st m)) /\
    Num w' nb kb mb bs ov' D' sv' gv cv (allTill G cl f ns st m) cl (Keep2 keep lv) /\ Kept keep w w':=by
 obtain ⟨i0,hi0,hz0,hz1,hz2⟩:=info_parts Tryz.info3
 have HH : Hid (Num w nb kb mb bs ov D sv gv cv st cl keep):=h
 have HG : Hid (0 < N -> Gin w keep (some ⟨b,o,none⟩) b o N p G (some ⟨cb,co,none⟩) cb co cl):=hg
 have HK : Hid (Kids N G):=hK
 have HC : Hid (∀ i,i < N -> cl i < 4611686018427387904):=hcl
 have HNK : Hid (∀ i,i < N -> (G i).nk <= 1048576):=hnk
 have HI : Hid (IntsAt w na nl no m (fun i=>(ns i : Int))):=hi
 have HNS : Hid (∀ i,i < m -> ns i < N):=hns
 have A1:=hi.at_
 clear h hg hK hcl hnk hi hns
 go_enter Tryz.func79,Tryz.ntmps79
 go_wp2_with (first | (at_make;refine wpList_make_own _ rfl _ _ 25 rfl w.heap.size 3 i0 (.int .i64 0) 1 Tryz.underlying25 hi0 hz0 hz1 .i64 .i64 _ m rfl rfl (by rfl) (by rw [hz2];omega) (by unfold maxLen;omega) (Nat.le_refl _) ?_;intro w0 hown0 hgrow0))
 have ST : Num w0 nb kb mb bs ov D sv gv cv st cl (Keep2 keep (.slice (some ⟨w.heap.size,0,none⟩) 0 m)):=by
  have h0:=HH.out.later hgrow0.size (fun k hp=>hgrow0.block k (HH.out.part_lt hp) (fun e=>by cases e))
  refine h0.rekeep (fun k hk=>?_)
  rcases hk with hk | hk
  ·exact h0.far_part hk
  ·have ck : k = w.heap.size:=by simpa [Value.ownBlock] using hk
   subst ck
   exact ⟨(hown0.lt _ rfl).2,fun hp=>by have:=HH.out.part_lt hp;omega⟩
 have KP0 : Kept keep w w0:=⟨hgrow0.os,hgrow0.tape,hgrow0.output,hgrow0.size,fun k hk=>hgrow0.block k (HH.out.far_part hk).1 (fun e=>by cases e)⟩
 clear hgrow0
 go_loopw [5,13] (fun l i wr=>∃ (k : Nat) (ov' : Value) (D' : DataW Unit) (sv' : Value),k <= m /\ i = .int .i64 k /\ wr.ownsRow w.heap.size 3 1 l k (icells (numsTill G cl f ns st k)) /\ Num wr nb kb mb bs ov' D' sv' gv cv (allTill G cl f ns st k) cl (Keep2 keep l) /\ Kept keep w wr) (fun _ i _=>m - (intOf i).toNat)
 case atStart=>exact ⟨0,_,_,_,Nat.zero_le _,rfl,hown0,ST,KP0⟩
 case round=>
  obtain ⟨k,ov',D',sv',hk,rfl,hown,hNu,hKp⟩:=hrel
  clear ST KP0 hown0
  obtain ⟨oa,cap,rfl⟩:=own_form hown
  by_cases hlt : k < m
  case neg=>
   have hkk : k = m:=by omega
   subst hkk
   have FIN : Hid (wr.ownsRow w.heap.size 3 1 (.slice oa k cap) k (icells (numsTill G cl f ns st k)) /\ Num wr nb kb mb bs ov' D' sv' gv cv (allTill G cl f ns st k) cl (Keep2 keep (.slice oa k cap)) /\ Kept keep w wr):=⟨hown,hNu,hKp⟩
   clear hown hNu hKp
   go_wp2
   go_ret
   exact ⟨_,_,_,_,rfl,FIN.out⟩
  have e1:=A1 (by omega)
  subst e1
  have hkn : ns k < N:=HNS.out k hlt
  have eg:=hgv (by omega)
  have ec:=hcv (by omega)
  subst eg ec
  have gx : wr.cell? ⟨nl,no + k,none⟩ = some (.int .i64 (ns k : Int)):=(hKp.cell (a:=⟨nl,no + k,none⟩) (hik (by omega))).trans (HI.out.cell k hlt)
  have hup:=allTill_ok HK.out HNS.out hl hf k (by omega)
  have HGR : Hid (Gin wr (Keep2 keep (.slice oa k cap)) (some ⟨b,o,none⟩) b o N p G (some ⟨cb,co,none⟩) cb co cl):=((HG.out (by omega)).later hKp).more (fun _ q=>Or.inl q)
  have HNu : Hid (Num wr nb kb mb bs ov' D' sv' (.slice (some ⟨b,o,none⟩) N gc) (.slice (some ⟨cb,co,none⟩) N cc) (allTill G cl f ns st k) cl (Keep2 keep (.slice oa k cap))):=hNu
  have l2 : (k : Int) < (m : Int):=by omega
  obtain ⟨x,hx⟩ : ∃ x,(addI ((allTill G cl f ns st k).map cl) (cl (ns k))).idxOf (cl (ns k)) = x:=⟨_,rfl⟩
  have HX:=numsTill_succ G cl f ns st k
  have HA:=allTill_succ G cl f ns st k
  rw [hx] at HX
  clear hNu
  go_wp2_with fail
  refine (c90 HK.out HC.out hN HNK.out f (allTill G cl f ns st k) (ns k) ov' D' sv' _ hkn hup.1 hup.2 HNu.out HGR.out).mono ?_
  rintro e w' ⟨ov2,D2,sv2,rfl,hN2,hK2⟩
  rw [hx]
  have OWN : w'.ownsRow w.heap.size 3 1 (.slice oa k cap) k (icells (numsTill G cl f ns st k)):=own_block hown (fun j e=>hK2.block j (Or.inr e))
  have hbs : w.heap.size <= w'.heap.size:=Nat.le_trans hKp.size hK2.size
  have HN2 : Hid (Num w' nb kb mb bs ov2 D2 sv2 (.slice (some ⟨b,o,none⟩) N gc) (.slice (some ⟨cb,co,none⟩) N cc) (allTill G cl f ns st (k + 1)) cl (Keep2 keep (.slice oa k cap))):=by
   rw [HA];exact hN2
  have KP2 : Kept keep w w':=hKp.trans (hK2.less (fun _ q=>Or.inl q))
  have HKW : Hid (∀ j,keep j -> j < w.heap.size):=fun j hj=>(HH.out.far_part hj).1
  have HXX : Hid (numsTill G cl f ns st (k + 1) = numsTill G cl f ns st k ++ [x]):=HX
  clear hN2 hK2 hown hx HX HA hKp gx
  go_wp2_with (first | (at_builtin;refine wpList_append_lies _ rfl _ _ 25 rfl w.heap.size 3 i0 (.int .i64 0) 1 8 Tryz.underlying25 hi0 hz0 hz1 hz2 rfl (by omega) (.slice oa k cap) k (icells (numsTill G cl f ns st k)) rfl (OWN.alloc _) ⟨w'.heap.size,0,none⟩ 1 1 [.int .i64 (x : Int)] rfl rfl (cell_one_new _ _ _) (ints_oneCell .i64 [(x : Int)]) (by omega) (by unfold maxLen;omega) (by omega) (by simp;omega) (w'.heap.size + 1) (by simp) ?_;intro gg cap3 w3 hown3 hg3 hat hlt3))
  have FIN:=HN2.out.grow hown3 hg3 hat
  have hown4 : w3.ownsRow w.heap.size 3 1 (.slice (some ⟨gg,0,none⟩) (k + 1) cap3) (k + 1) (icells (numsTill G cl f ns st (k + 1))):=by
   rw [HXX.out,icells_snoc];exact hown3
  have hsz : w'.heap.size <= w3.heap.size:=by have:=hg3.size;simp at this;omega
  have KP3 : Kept keep w w3:=⟨hg3.os.trans KP2.os,hg3.tape.trans KP2.tape,hg3.output.trans KP2.output,by omega,fun j hj=>(FIN.2 j (by have:=HKW.out j hj;omega) (fun e=>by have h1:=(OWN.lt j e.symm).1;have h2:=HKW.out j hj;omega)).trans (KP2.block j hj)⟩
  have FN:=FIN.1
  clear hown3 hg3 hat OWN FIN HN2 KP2 HXX
  go_wp2
  go_roundw
  case rel=>exact ⟨k + 1,ov2,D2,sv2,by omega,by go_num,hown4,FN,KP3⟩
  case measure=>simp [intOf];omega
end Go.Proofs.YtpbpbppimkeodaaGreatDoor
namespace Go.Proofs.YtpbpbppimkeodaaGreatDoor
def numOf (cl : Nat -> Nat) (S : List Nat) (n : Nat) : Nat:=(S.map cl).idxOf (cl n)
theorem addI_old {cl : Nat -> Nat} {S : List Nat} {n : Nat} (h : stands cl S n = true) : addI (S.map cl) (cl n) = S.map cl:=by
 unfold addI;rw [contains_stands,h];rfl
theorem addI_new {cl : Nat -> Nat} {S : List Nat} {n : Nat} (h : stands cl S n = false) : addI (S.map cl) (cl n) = (S ++ [n]).map cl:=by
 unfold addI;rw [contains_stands,h];simp
theorem idx_more {α : Type} [BEq α] [LawfulBEq α] {A : List α} {a : α} (h : a ∈ A) (B : List α) : (A ++ B).idxOf a = A.idxOf a:=by
 rw [List.idxOf_append,if_pos h]
theorem num_vis {G : Nat -> ND} {cl : Nat -> Nat} {f : Nat} {S : List Nat} {n : Nat} {T : List Nat} (hT : ∃ t,T = vis G cl (f + 1) S n ++ t) : (addI (S.map cl) (cl n)).idxOf (cl n) = numOf cl T n:=by
 obtain ⟨t,rfl⟩:=hT
 cases hs : stands cl S n
 ·rw [addI_new hs,vis_new hs]
  obtain ⟨u,hu⟩ : ∃ u,upTo G cl f n S (G n).nk = (S ++ [n]) ++ u:=by
   unfold upTo
   refine foldl_keeps (Q:=fun s=>∃ u,s = (S ++ [n]) ++ u) _ _ ⟨[],by simp⟩ (fun c j _ hc=>?_)
   obtain ⟨u,rfl⟩:=hc
   obtain ⟨v,e⟩:=vis_prefix (G:=G) (cl:=cl) f (S ++ [n] ++ u) (kid (G n) j)
   exact ⟨u ++ v,by rw [e,List.append_assoc]⟩
  rw [hu]
  unfold numOf
  rw [List.append_assoc (S ++ [n]),List.map_append (l₁:=S ++ [n]),idx_more (A:=(S ++ [n]).map cl) (List.mem_map.2 ⟨n,by simp,rfl⟩)]
 ·rw [addI_old hs,vis_old hs]
  unfold numOf
  obtain ⟨s,h1,h2⟩:=stands_iff.1 hs
  rw [List.map_append,idx_more (List.mem_map.2 ⟨s,h1,h2⟩)]
theorem allTill_prefix {G : Nat -> ND} {cl : Nat -> Nat} {f : Nat} {ns : Nat -> Nat} {S : List Nat} {k : Nat} : ∀ d,∃ t,allTill G cl f ns S (k + d) = allTill G cl f ns S k ++ t
 | 0=>⟨[],by simp⟩
 | d + 1=>by
   obtain ⟨t,e⟩:=allTill_prefix (G:=G) (cl:=cl) (f:=f) (ns:=ns) (S:=S) (k:=k) d
   obtain ⟨u,e2⟩:=vis_prefix (G:=G) (cl:=cl) f (allTill G cl f ns S (k + d)) (ns (k + d))
   exact ⟨t ++ u,by rw [<- Nat.add_assoc,allTill_succ,e2,e,List.append_assoc]⟩
theorem numsTill_all {G : Nat -> ND} {cl : Nat -> Nat} {f : Nat} {ns : Nat -> Nat} {S : List Nat} {m : Nat} : numsTill G cl (f + 1) ns S m = (List.range m).map fun i=>numOf cl (allTill G cl (f + 1) ns S m) (ns i):=by
 unfold numsTill
 refine List.map_congr_left (fun i hi=>?_)
 have hm:=List.mem_range.1 hi
 refine num_vis (G:=G) (f:=f) ?_
 obtain ⟨t,e⟩:=allTill_prefix (G:=G) (cl:=cl) (f:=f + 1) (ns:=ns) (S:=S) (k:=i + 1) (m - (i + 1))
 rw [show i + 1 + (m - (i + 1)) = m from by omega] at e
 exact ⟨t,by rw [e,allTill_succ]⟩
theorem allTill_full {N : Nat} {G : Nat -> ND} {cl : Nat -> Nat} (hK : Kids N G) {f : Nat} {ns : Nat -> Nat} {m : Nat} (hn : ∀ i,i < m -> ns i < N) (hf : N < f) : ∀ k,k <= m ->
  (∀ s,s ∈ allTill G cl f ns [] k -> s < N) /\ (∀ i,i < k -> stands cl (allTill G cl f ns [] k) (ns i) = true) /\ ∀ s,s ∈ allTill G cl f ns [] k -> Covered G cl (allTill G cl f ns [] k) s
 | 0,_=>⟨fun s h=>by simp [allTill] at h,fun i hi=>absurd hi (Nat.not_lt_zero _),fun s h=>by simp [allTill] at h⟩
 | k + 1,hk=>by
   obtain ⟨h1,h2,h3⟩:=allTill_full hK hn hf k (by omega)
   have hnk:=hn k (by omega)
   have hmi:=missing_all N cl (allTill G cl f ns [] k)
   obtain ⟨v1,v2⟩:=vis_full (cl:=cl) hK f (allTill G cl f ns [] k) (ns k) hnk h1 (by omega)
   rw [allTill_succ]
   refine ⟨vis_lt hK f _ _ hnk h1,fun i hi=>?_,fun s hs=>?_⟩
   ·by_cases e : i = k
    ·subst e;exact v1
    ·exact stands_more (fun s q=>vis_sub f _ _ q) (h2 i (by omega))
   ·rcases v2 s hs with q | q
    ·exact (h3 s q).more (fun x hx=>vis_sub f _ _ hx)
    ·exact q
end Go.Proofs.YtpbpbppimkeodaaGreatDoor
namespace Go.Proofs.YtpbpbppimkeodaaGreatDoor
open Go.RowKit Go.Maps
def ClonePost (w : World) (n : Nat) (S : Nat -> ByteArray) (e : Ending) (w' : World) : Prop:=
 ∃ (ao' : Option Addr) (b' c' : Nat),e = .returned (.slice ao' n c') /\ StrsAt w' ao' b' 0 n S /\ (0 < n -> w.heap.size <= b' /\ b' < w'.heap.size) /\ (0 < n -> n <= c') /\ (0 < n -> Wr w' b') /\ Below w.heap.size w w'
set_option maxHeartbeats 2000000 in
theorem c70 (ao : Option Addr) (b o n c : Nat) (S : Nat -> ByteArray) (w : World) (h : StrsAt w ao b o n S) (hn : n <= 1048576) :
  Calls Tryz.prog 80 #[.slice ao n c] w (ClonePost w n S):=by
 have HS : Hid (StrsAt w ao b o n S):=h
 have A1:=h.at_
 clear h
 have hnil:=fun (w : World) (a : Option Addr) (n c n' c' : Nat)=>Go.Lib.run_eql_slice_nil (P:=Tryz.prog) w 46 9 a n c n' c' Tryz.underlying46
 cases ao with
 | none=>
   have h0 : n = 0:=by
    rcases Nat.eq_zero_or_pos n with q | q
    ·exact q
    ·cases A1 q
   subst h0
   go_enter Tryz.func80,Tryz.ntmps80
   go_wp2
   go_ret
   exact ⟨none,0,_,rfl,⟨fun q=>absurd q (Nat.lt_irrefl _),fun i hi=>absurd hi (Nat.not_lt_zero _),HS.out.size,HS.out.len⟩,fun q=>absurd q (Nat.lt_irrefl _),fun q=>absurd q (Nat.lt_irrefl _),fun q=>absurd q (Nat.lt_irrefl _),below_drewN' w 0⟩
 | some ad=>
   obtain ⟨i0,hi0,hz0,hz1,hz2⟩:=info_parts Tryz.info9
   have OWN : (w.alloc (.cells #[] 9)).ownsRow w.heap.size 9 1 (.slice (some ⟨w.heap.size,0,none⟩) 0 0) 0 []:=World.ownsRow_made w #[] 0 (Nat.le_refl _) (by unfold maxLen;omega) rfl
   rcases Nat.eq_zero_or_pos n with h0 | h0
   ·subst h0
    go_enter Tryz.func80,Tryz.ntmps80
    go_wp2
    go_ret
    exact ⟨_,0,_,rfl,⟨fun q=>absurd q (Nat.lt_irrefl _),fun i hi=>absurd hi (Nat.not_lt_zero _),HS.out.size,HS.out.len⟩,fun q=>absurd q (Nat.lt_irrefl _),fun q=>absurd q (Nat.lt_irrefl _),fun q=>absurd q (Nat.lt_irrefl _),bel1 w _⟩
   ·have e1:=A1 h0
    cases e1
    have CE : ∀ j u,((List.range n).map fun i=>Value.string (S i))[j]? = some u -> (w.alloc (.cells #[] 9)).cell? ((⟨b,o,none⟩ : Addr).add j) = some u:=fun j u hu=>by
     simp only [List.getElem?_map,Option.map_eq_some_iff] at hu
     obtain ⟨i,hi,rfl⟩:=hu
     have hj : j < n:=by
      rcases Nat.lt_or_ge j n with q | q
      ·exact q
      ·rw [List.getElem?_eq_none (by simpa using q)] at hi;cases hi
     rw [List.getElem?_range hj] at hi
     cases hi
     have hc:=HS.out.cell j hj
     have hadd : (⟨b,o,none⟩ : Addr).add j = ⟨b,o + j,none⟩:=by unfold Addr.add;split <;> simp_all
     rw [hadd]
     exact (World.cell?_of_block (w:=w) (Below.heap_alloc _ _ _ (blt hc))).trans hc
    go_enter Tryz.func80,Tryz.ntmps80
    go_wp2_with (first | (at_builtin;refine wpList_append_lies _ rfl _ _ 46 rfl w.heap.size 9 i0 (.string ByteArray.empty) 1 16 Tryz.underlying46 hi0 hz0 hz1 hz2 rfl (by omega) (.slice (some ⟨w.heap.size,0,none⟩) 0 0) 0 [] rfl OWN ⟨b,o,none⟩ n c ((List.range n).map fun i=>Value.string (S i)) rfl (by simp) CE (fun u hu=>by obtain ⟨i,_,rfl⟩:=List.mem_map.1 hu;rfl) h0 (by unfold maxLen;omega) (by omega) (by simp) (w.heap.size + 1) (by simp) ?_;intro gg cap3 w3 hown3 hg3 hat hlt3))
    have FIN : Hid (StrsAt w3 (some ⟨gg,0,none⟩) gg 0 n S /\ (0 < n -> w.heap.size <= gg /\ gg < w3.heap.size) /\ (0 < n -> n <= cap3) /\ (0 < n -> Wr w3 gg) /\ Below w.heap.size w w3):=by
     rw [Nat.zero_add] at hown3
     refine ⟨⟨fun _=>rfl,fun i hi=>?_,HS.out.size,HS.out.len⟩,fun _=>hown3.lt gg rfl,fun _=>?_,fun _=>?_,?_⟩
     ·rw [Nat.zero_add,hown3.cellAt i (by omega)]
      simp [hi]
     ·rcases hown3.2 with ⟨z,_⟩ | ⟨g,c,cur,z,_,_,z2,_⟩
      ·simp at z
      ·simp only [Value.slice.injEq,true_and] at z;rw [z.2];exact z2
     ·rcases hown3.2 with ⟨z,_⟩ | ⟨g,c,cur,z,_,z2,_⟩
      ·simp at z
      ·simp only [Value.slice.injEq,Option.some.injEq,Addr.mk.injEq,and_true,true_and] at z
       rw [z.1];exact ⟨_,_,z2⟩
     ·have hs3:=hg3.size
      simp only [World.size_alloc] at hs3
      exact ⟨hg3.os,hg3.tape,hg3.output,by omega,fun k hk=>(hg3.block k (by simp;omega) (fun e=>by simp [Value.ownBlock] at e;omega)).trans (Below.heap_alloc _ _ _ hk)⟩
    clear hown3 hg3 hat
    go_ret
    exact ⟨_,gg,_,rfl,FIN.out⟩
theorem far_cell {w : World} {a c : Addr} {v : Value} (h : c.block ≠ a.block) : (w.setCell a v).cell? c = w.cell? c:=World.cell?_setCell_other _ _ _ _ (fun e=>h (by have:=congrArg Addr.block e;first | exact this | exact this.symm))
theorem row4 (w : World) (a b c d : Value) (t : TypeId) : (w.alloc (.cells #[a,b,c,d] t)).rowIs w.heap.size t 4 (v4 a b c d):=
 World.rowIs_alloc w #[a,b,c,d] t _ (fun i hi=>by
  match i,hi with
  | 0,_=>rfl
  | 1,_=>rfl
  | 2,_=>rfl
  | 3,_=>rfl)
theorem num_behind {w1 : World} {kb mb : Nat} {gv cv : Value} {cl : Nat -> Nat} {keep : Nat -> Prop} (hk : KnI w1 kb mb (.slice none 0 0) (.map []) [] keep) :
  Num (w1.alloc (.cells #[gv,cv,.pointer (some ⟨kb,0,none⟩),.slice none 0 0] 107)) w1.heap.size kb mb (w1.heap.size + 1) (.slice none 0 0) (.map []) (.slice none 0 0) gv cv [] cl keep:=by
 have hkl:=hk.row.lt
 have hml:=hk.mlt
 have h2:=hk.later (w':=w1.alloc (.cells #[gv,cv,.pointer (some ⟨kb,0,none⟩),.slice none 0 0] 107)) (by simp) (fun k hk _=>Below.heap_alloc _ _ _ hk)
 refine ⟨row4 w1 _ _ _ _ 107,⟨h2.row,h2.mlt,h2.map,h2.has,h2.val,h2.own,fun k q=>?_⟩,World.ownsRow_nil _ _ _ _,⟨by omega,by omega,by omega,by simp⟩,fun k q=>⟨?_,by simp [Value.ownBlock]⟩⟩
 ·rcases q with q | q | q
  ·exact h2.far k q
  ·subst q
   exact ⟨by simp,by omega,by omega,by simp [Value.ownBlock]⟩
  ·simp [Value.ownBlock] at q
 ·have:=(hk.far k q).1
  omega
theorem num_ahead {w1 : World} {nb kb mb : Nat} {gv cv : Value} {cl : Nat -> Nat} {keep : Nat -> Prop} {f : Nat -> Value} (hr : w1.rowIs nb 107 4 f) (hk : KnI w1 kb mb (.slice none 0 0) (.map []) [] (fun k=>keep k \/ k = nb)) (hn : ∀ k,keep k -> k ≠ nb) :
  Num ((((w1.setCell ⟨nb,0,none⟩ gv).setCell ⟨nb,1,none⟩ cv).setCell ⟨nb,2,none⟩ (.pointer (some ⟨kb,0,none⟩))).setCell ⟨nb,3,none⟩ (.slice none 0 0)) nb kb mb w1.heap.size (.slice none 0 0) (.map []) (.slice none 0 0) gv cv [] cl keep:=by
 have hkl:=hk.row.lt
 have hml:=hk.mlt
 have hnl:=hr.lt
 have hf:=hk.far nb (Or.inr rfl)
 have hss : ((((w1.setCell ⟨nb,0,none⟩ gv).setCell ⟨nb,1,none⟩ cv).setCell ⟨nb,2,none⟩ (.pointer (some ⟨kb,0,none⟩))).setCell ⟨nb,3,none⟩ (.slice none 0 0)).heap.size = w1.heap.size:=by simp [World.setCell]
 have h2:=hk.later (w':=(((w1.setCell ⟨nb,0,none⟩ gv).setCell ⟨nb,1,none⟩ cv).setCell ⟨nb,2,none⟩ (.pointer (some ⟨kb,0,none⟩))).setCell ⟨nb,3,none⟩ (.slice none 0 0)) (by rw [hss];exact Nat.le_refl _) (fun k _ hc=>by
  have hne : k ≠ nb:=fun e=>by
   subst e
   rcases hc with c | c | c
   ·exact hf.2.1 c
   ·exact hf.2.2.1 c
   ·exact hf.2.2.2 c
  rw [Below.heap_setCell _ _ _ _ (by show k ≠ nb;exact hne),Below.heap_setCell _ _ _ _ (by show k ≠ nb;exact hne),Below.heap_setCell _ _ _ _ (by show k ≠ nb;exact hne),Below.heap_setCell _ _ _ _ (by show k ≠ nb;exact hne)])
 refine ⟨((((hr.set 0 _).set 1 _).set 2 _).set 3 _).congr (fun i hi=>?_),⟨h2.row,h2.mlt,h2.map,h2.has,h2.val,h2.own,fun k q=>?_⟩,World.ownsRow_nil _ _ _ _,⟨hnl,hkl,by omega,by rw [hss];exact Nat.le_refl _⟩,fun k q=>⟨hn k q,by simp [Value.ownBlock]⟩⟩
 ·match i,hi with
  | 0,_=>rfl
  | 1,_=>rfl
  | 2,_=>rfl
  | 3,_=>rfl
 ·rcases q with q | q | q
  ·exact h2.far k (Or.inl q)
  ·exact h2.far k (Or.inr q)
  ·simp [Value.ownBlock] at q
theorem gin_start {w w' : World} {keep : Nat -> Prop} {ao : Option Addr} {b o N : Nat} {p : Nat -> NP} {G : Nat -> ND} {ca : Option Addr} {cb co : Nat} {cl : Nat -> Nat} (hG : NodesAt w ao b o N p G) (hC : IntsAt w ca cb co N (fun i=>(cl i : Int))) (hb : Below w.heap.size w w') (hk : ∀ k,k < w.heap.size -> keep k) : Gin w' keep ao b o N p G ca cb co cl:=
 ⟨hG.below hb,fun q=>hk _ (blt (hG.c0 0 q)),fun i hi q=>hk _ (blt ((hG.node i hi).names.cell 0 q)),fun i hi q=>hk _ (blt ((hG.node i hi).kids.cell 0 q)),hC.below hb,fun q=>hk _ (blt (hC.cell 0 q))⟩
theorem Kept.below {w w' : World} {n : Nat} (h : Kept (fun k=>k < n) w w') : Below n w w':=⟨h.os,h.tape,h.output,h.size,fun k hk=>h.block k hk⟩
/-
THE HEAD OF numbered (function 46),as it was walked: behind it two goals stand: newKnown first (close with num_behind),or the alloc first (num_ahead,by rA and hk1).
Its door,with what it hides (the answer is still to be stated where True stands):
theorem c43 {N b o cb co : Nat} {p : Nat -> NP} {G : Nat -> ND} {cl : Nat -> Nat} (ao ra ca : Option Addr) (gc R rc cc rl ro : Nat) (ns : Nat -> Nat) (w : World) (hK : Kids N G) (hcl : ∀ i,i < N -> cl i < 4611686018427387904) (hN : N <= 1048576) (hnk : ∀ i,i < N -> (G i).nn <= 1048576 /\ (G i).nk <= 1048576)
  (hR : R <= 1048576) (hns : ∀ i,i < R -> ns i < N) (hG : NodesAt w ao b o N p G) (hC : IntsAt w ca cb co N (fun i=>(cl i : Int))) (hI : IntsAt w ra rl ro R (fun i=>(ns i : Int))) :
  Calls Tryz.prog 55 #[.agg #[.slice ao N gc],.slice ra R rc,.slice ca N cc] w fun e w'=>True:=by
 have HG : Hid (NodesAt w ao b o N p G):=hG
 have HC : Hid (IntsAt w ca cb co N (fun i=>(cl i : Int))):=hC
 have HI : Hid (IntsAt w ra rl ro R (fun i=>(ns i : Int))):=hI
 have HK : Hid (Kids N G):=hK
 have HCL : Hid (∀ i,i < N -> cl i < 4611686018427387904):=hcl
 have HNK : Hid (∀ i,i < N -> (G i).nn <= 1048576 /\ (G i).nk <= 1048576):=hnk
 have HNS : Hid (∀ i,i < R -> ns i < N):=hns
 have A1 : Hid (0 < N -> ao = some ⟨b,o,none⟩):=hG.at_
 have A2 : Hid (0 < N -> ca = some ⟨cb,co,none⟩):=hC.at_
 clear hG hC hI hK hcl hnk hns
Arguments: #[.agg #[.slice ao N gc],.slice ra R rc,.slice ca N cc].
 have R0 : ((w.alloc (.cells #[.slice ao N gc] 29)).alloc (.cells #[.slice none 0 0] 29)).cell? ⟨w.heap.size,0,none⟩ = some (.slice ao N gc):=((row1 w (.slice ao N gc) 29).alloc (.cells #[.slice none 0 0] 29)).cell (i:=0) (by omega)
 have R1 : (((w.alloc (.cells #[.slice ao N gc] 29)).alloc (.cells #[.slice none 0 0] 29)).alloc (.cells #[.slice none 0 0,.slice none 0 0,.pointer none,.slice none 0 0] 107)).cell? ⟨w.heap.size,0,none⟩ = some (.slice ao N gc):=(((row1 w (.slice ao N gc) 29).alloc (.cells #[.slice none 0 0] 29)).alloc _).cell (i:=0) (by omega)
 have RA : (((w.alloc (.cells #[.slice ao N gc] 29)).alloc (.cells #[.slice none 0 0] 29)).alloc (.cells #[.slice none 0 0,.slice none 0 0,.pointer none,.slice none 0 0] 107)).rowIs (w.heap.size + 1 + 1) 107 4 (v4 (.slice none 0 0) (.slice none 0 0) (.pointer none) (.slice none 0 0)):=by
  have:=World.rowIs_alloc ((w.alloc (.cells #[.slice ao N gc] 29)).alloc (.cells #[.slice none 0 0] 29)) #[.slice none 0 0,.slice none 0 0,.pointer none,.slice none 0 0] 107 (v4 (.slice none 0 0) (.slice none 0 0) (.pointer none) (.slice none 0 0)) (fun i hi=>by
   match i,hi with
   | 0,_=>rfl
   | 1,_=>rfl
   | 2,_=>rfl
   | 3,_=>rfl)
  simpa using this
 go_enter Tryz.func55,Tryz.ntmps55
 go_wp2_with fail
 go_region_held3 (fun w'=>w'.cell? ⟨w.heap.size,0,none⟩ = some (.slice ao N gc)) (first | go_keep | (rw [far_cell (by simp;try omega),far_cell (by simp;try omega),far_cell (by simp;try omega),far_cell (by simp;try omega)];assumption))
  (first
   | (go_at_call 78;refine (c68 _ (fun k=>k < w.heap.size + 3) (fun k hk=>by simp;omega)).mono ?_;rintro e w1 ⟨rfl,hk1,kp1⟩;have z1 : w1.cell? ⟨w.heap.size,0,none⟩ = some (.slice ao N gc):=(kp1.cell (a:=⟨w.heap.size,0,none⟩) (by show w.heap.size < w.heap.size + 3;omega)).trans R1;have rA:=RA.of_block (kp1.block (w.heap.size + 1 + 1) (by show w.heap.size + 1 + 1 < w.heap.size + 3;omega));have y0:=rA.cell (i:=0) (by omega);have y1:=rA.cell (i:=1) (by omega);have y2:=rA.cell (i:=2) (by omega);have y3:=rA.cell (i:=3) (by omega);have x0:=rA.frozen 0;have x1:=rA.frozen 1;have x2:=rA.frozen 2;have x3:=rA.frozen 3)
   | (go_at_call 78;refine (c68 _ (fun k=>k < w.heap.size + 2) (fun k hk=>by simp;omega)).mono ?_;rintro e w1 ⟨rfl,hk1,kp1⟩;have z1 : w1.cell? ⟨w.heap.size,0,none⟩ = some (.slice ao N gc):=(kp1.cell (a:=⟨w.heap.size,0,none⟩) (by show w.heap.size < w.heap.size + 2;omega)).trans R0))
-/
set_option maxHeartbeats 2000000 in
theorem c108o (kb mb : Nat) (ov : Value) (D : DataW Unit) (ord : List Nat) (keep : Nat -> Prop) (a : Nat) (w : World) (h : KnI w kb mb ov D ord keep) (ha : a < 4611686018427387904) (hcon : ord.contains a = true) :
  Calls Tryz.prog 117 #[.pointer (some ⟨kb,0,none⟩),.int .i64 (a : Int)] w fun e w'=>
   e = .returned (.tuple #[.int .i64 (ord.idxOf a : Int),.bool false]) /\ ∃ k,w' = w.drewN k:=by
 obtain ⟨v,hlk,hat0⟩:=look_int h.map ha
 rw [h.has a ha] at hlk
 have hlk0:=hlk 0
 rw [World.drewN_zero] at hlk0
 obtain ⟨oa,cap,rfl⟩:=own_form h.own
 have c0 : w.cell? ⟨kb,0,none⟩ = some (.map (some mb)):=h.row.cell (i:=0) (by omega)
 have HH : Hid (KnI w kb mb (.slice oa ord.length cap) D ord keep):=h
 clear hlk
 have hm : a ∈ ord:=by simpa using hcon
 have HX : Hid (v = (ord.idxOf a : Int)):=by
  have:=HH.out.val a ha hm
  rw [hat0] at this
  show v = (ord.idxOf a : Int)
  simpa using this
 rw [hcon] at hlk0
 clear hcon h hat0 hm
 go_enter Tryz.func117,Tryz.ntmps117
 go_wp2
 go_ret2
 exact ⟨by rw [HX.out];rfl,0,rfl⟩
set_option maxHeartbeats 4000000 in
theorem c90o {N b o nb kb mb bs gc cb co cc : Nat} {p : Nat -> NP} {G : Nat -> ND} {cl : Nat -> Nat} {keep : Nat -> Prop} (hcl : ∀ i,i < N -> cl i < 4611686018427387904) (_hN : N <= 1048576)
  (st : List Nat) (n : Nat) (ov : Value) (D : DataW Unit) (sv : Value) (w : World) (hn : n < N)
  (h : Num w nb kb mb bs ov D sv (.slice (some ⟨b,o,none⟩) N gc) (.slice (some ⟨cb,co,none⟩) N cc) st cl keep) (hg : Gin w keep (some ⟨b,o,none⟩) b o N p G (some ⟨cb,co,none⟩) cb co cl) (hs : stands cl st n = true) :
  Calls Tryz.prog 97 #[.pointer (some ⟨nb,0,none⟩),.int .i64 (n : Int)] w fun e w'=>e = .returned (.int .i64 (numOf cl st n : Int)) /\ Below w.heap.size w w':=by
 have r0:=h.row.cell (i:=0) (by omega)
 have r1:=h.row.cell (i:=1) (by omega)
 have r2:=h.row.cell (i:=2) (by omega)
 have r3:=h.row.cell (i:=3) (by omega)
 simp only [v4,if_true,if_false,show ((1:Nat) = 0) = False from by simp,show ((2:Nat) = 0) = False from by simp,show ((2:Nat) = 1) = False from by simp,show ((3:Nat) = 0) = False from by simp,show ((3:Nat) = 1) = False from by simp,show ((3:Nat) = 2) = False from by simp] at r0 r1 r2 r3
 have g1:=hg.cls.cell n hn
 have l1 : (n : Int) < (N : Int):=by omega
 have hKd:=h.drew.kni
 have hcn:=hcl n hn
 have hcon : (st.map cl).contains (cl n) = true:=by rw [contains_stands];exact hs
 obtain ⟨x,hx⟩ : ∃ x,(st.map cl).idxOf (cl n) = x:=⟨_,rfl⟩
 have HX : Hid (numOf cl st n = x):=hx
 clear h hg hcl hs
 go_enter Tryz.func97,Tryz.ntmps97
 go_wp2_with fail
 go_region_held3 (fun w'=>w'.cell? ⟨nb,2,none⟩ = some (.pointer (some ⟨kb,0,none⟩)) /\ w'.cell? ⟨nb,1,none⟩ = some (.slice (some ⟨cb,co,none⟩) N cc) /\ w'.cell? ⟨cb,co + n,none⟩ = some (.int .i64 (cl n : Int))) (go_keep)
  (first | (go_at_call 117;refine (c108o kb mb ov D (st.map cl) _ (cl n) _ hKd hcn hcon).mono ?_;rintro e w1 ⟨rfl,kk,hw1⟩;rw [hx];have z1 : w1.cell? ⟨nb,2,none⟩ = some (.pointer (some ⟨kb,0,none⟩)):=(by rw [hw1];exact r2);have z2 : w1.cell? ⟨nb,1,none⟩ = some (.slice (some ⟨cb,co,none⟩) N cc):=(by rw [hw1];exact r1);have z3 : w1.cell? ⟨cb,co + n,none⟩ = some (.int .i64 (cl n : Int)):=(by rw [hw1];exact g1)))
 all_goals
  have FIN : Hid (Below w.heap.size w w1):=by
   rw [hw1];exact below_drewN (Below.refl _ _).drew _
  clear z1 z2 z3 r0 r1 r2 r3 g1 hw1 hKd
  go_wp2
  go_ret
  exact ⟨by rw [HX.out];rfl,by first | exact FIN.out | exact below_drewN' w _⟩
set_option maxHeartbeats 4000000 in
theorem c69o {N b o nb kb mb bs gc cb co cc : Nat} {p : Nat -> NP} {G : Nat -> ND} {cl : Nat -> Nat} {keep : Nat -> Prop} {gv cv : Value} (hgv : 0 < N -> gv = .slice (some ⟨b,o,none⟩) N gc) (hcv : 0 < N -> cv = .slice (some ⟨cb,co,none⟩) N cc) (hcl : ∀ i,i < N -> cl i < 4611686018427387904) (hN : N <= 1048576)
  (st : List Nat) (na : Option Addr) (nl no m nc : Nat) (ns : Nat -> Nat) (ov : Value) (D : DataW Unit) (sv : Value) (w : World) (hm : m <= 1048576) (hns : ∀ i,i < m -> ns i < N)
  (h : Num w nb kb mb bs ov D sv gv cv st cl keep) (hg : 0 < N -> Gin w keep (some ⟨b,o,none⟩) b o N p G (some ⟨cb,co,none⟩) cb co cl) (hst : ∀ i,i < m -> stands cl st (ns i) = true)
  (hi : IntsAt w na nl no m (fun i=>(ns i : Int))) :
  Calls Tryz.prog 79 #[.pointer (some ⟨nb,0,none⟩),.slice na m nc] w fun e w'=>∃ lv,e = .returned lv /\ w'.ownsRow w.heap.size 3 1 lv m (icells ((List.range m).map fun i=>numOf cl st (ns i))) /\ Below w.heap.size w w':=by
 obtain ⟨i0,hi0,hz0,hz1,hz2⟩:=info_parts Tryz.info3
 have HH : Hid (Num w nb kb mb bs ov D sv gv cv st cl keep):=h
 have HG : Hid (0 < N -> Gin w keep (some ⟨b,o,none⟩) b o N p G (some ⟨cb,co,none⟩) cb co cl):=hg
 have HC : Hid (∀ i,i < N -> cl i < 4611686018427387904):=hcl
 have HI : Hid (IntsAt w na nl no m (fun i=>(ns i : Int))):=hi
 have HNS : Hid (∀ i,i < m -> ns i < N):=hns
 have HST : Hid (∀ i,i < m -> stands cl st (ns i) = true):=hst
 have A1:=hi.at_
 clear h hg hcl hi hns hst
 go_enter Tryz.func79,Tryz.ntmps79
 go_wp2_with (first | (at_make;refine wpList_make_own _ rfl _ _ 25 rfl w.heap.size 3 i0 (.int .i64 0) 1 Tryz.underlying25 hi0 hz0 hz1 .i64 .i64 _ m rfl rfl (by rfl) (by rw [hz2];omega) (by unfold maxLen;omega) (Nat.le_refl _) ?_;intro w0 hown0 hgrow0))
 have B0 : Below w.heap.size w w0:=⟨hgrow0.os,hgrow0.tape,hgrow0.output,hgrow0.size,fun k hk=>hgrow0.block k hk (fun e=>by cases e)⟩
 clear hgrow0
 go_loopw [5,13] (fun l i wr=>∃ k : Nat,k <= m /\ i = .int .i64 k /\ wr.ownsRow w.heap.size 3 1 l k (icells ((List.range k).map fun i=>numOf cl st (ns i))) /\ Below w.heap.size w wr) (fun _ i _=>m - (intOf i).toNat)
 case atStart=>exact ⟨0,Nat.zero_le _,rfl,hown0,B0⟩
 case round=>
  obtain ⟨k,hk,rfl,hown,hb⟩:=hrel
  clear B0 hown0
  obtain ⟨oa,cap,rfl⟩:=own_form hown
  by_cases hlt : k < m
  case neg=>
   have hkk : k = m:=by omega
   subst hkk
   have FIN : Hid (wr.ownsRow w.heap.size 3 1 (.slice oa k cap) k (icells ((List.range k).map fun i=>numOf cl st (ns i))) /\ Below w.heap.size w wr):=⟨hown,hb⟩
   clear hown hb
   go_wp2
   go_ret
   exact ⟨_,rfl,FIN.out⟩
  have e1:=A1 (by omega)
  subst e1
  have hkn : ns k < N:=HNS.out k hlt
  have eg:=hgv (by omega)
  have ec:=hcv (by omega)
  subst eg ec
  have gx : wr.cell? ⟨nl,no + k,none⟩ = some (.int .i64 (ns k : Int)):=(HI.out.below hb).cell k hlt
  have hbl : ∀ q,q < w.heap.size -> wr.heap[q]? = w.heap[q]?:=fun q hq=>hb.block q hq
  have HNu : Hid (Num wr nb kb mb bs ov D sv (.slice (some ⟨b,o,none⟩) N gc) (.slice (some ⟨cb,co,none⟩) N cc) st cl keep):=HH.out.later hb.size (fun q hq=>hb.block q (HH.out.part_lt hq))
  have HGR : Hid (Gin wr keep (some ⟨b,o,none⟩) b o N p G (some ⟨cb,co,none⟩) cb co cl):=(HG.out (by omega)).later ⟨hb.os,hb.tape,hb.output,hb.size,fun q hq=>hb.block q (HH.out.far_part hq).1⟩
  have l2 : (k : Int) < (m : Int):=by omega
  obtain ⟨x,hx⟩ : ∃ x,numOf cl st (ns k) = x:=⟨_,rfl⟩
  have HXX : Hid (((List.range (k + 1)).map fun i=>numOf cl st (ns i)) = ((List.range k).map fun i=>numOf cl st (ns i)) ++ [x]):=by
   show _ = _
   rw [List.range_succ,List.map_append];simp [hx]
  go_wp2_with fail
  refine (c90o HC.out hN st (ns k) ov D sv _ hkn HNu.out HGR.out (HST.out k hlt)).mono ?_
  rintro e w' ⟨rfl,hb2⟩
  rw [hx]
  have OWN : w'.ownsRow w.heap.size 3 1 (.slice oa k cap) k (icells ((List.range k).map fun i=>numOf cl st (ns i))):=own_block hown (fun j e=>hb2.block j (hown.lt j e.symm).2)
  have B2 : Below w.heap.size w w':=hb.trans (hb2.mono hb.size)
  have hbs : w.heap.size <= w'.heap.size:=B2.size
  clear hown hx hb hb2 gx hbl
  go_wp2_with (first | (at_builtin;refine wpList_append_lies _ rfl _ _ 25 rfl w.heap.size 3 i0 (.int .i64 0) 1 8 Tryz.underlying25 hi0 hz0 hz1 hz2 rfl (by omega) (.slice oa k cap) k (icells ((List.range k).map fun i=>numOf cl st (ns i))) rfl (OWN.alloc _) ⟨w'.heap.size,0,none⟩ 1 1 [.int .i64 (x : Int)] rfl rfl (cell_one_new _ _ _) (ints_oneCell .i64 [(x : Int)]) (by omega) (by unfold maxLen;omega) (by omega) (by simp;omega) (w'.heap.size + 1) (by simp) ?_;intro gg cap3 w3 hown3 hg3 hat hlt3))
  have hown4 : w3.ownsRow w.heap.size 3 1 (.slice (some ⟨gg,0,none⟩) (k + 1) cap3) (k + 1) (icells ((List.range (k + 1)).map fun i=>numOf cl st (ns i))):=by
   rw [HXX.out,icells_snoc];exact hown3
  have BA : Below w.heap.size w (w'.alloc (.cells #[.int .i64 (x : Int)] 3)):=B2.alloc hbs _
  have B3 : Below w.heap.size w w3:=⟨hg3.os.trans BA.os,hg3.tape.trans BA.tape,hg3.output.trans BA.output,Nat.le_trans BA.size hg3.size,fun q hq=>(hg3.block q (Nat.lt_of_lt_of_le hq BA.size) (fun e=>by have:=(OWN.lt q e.symm).1;omega)).trans (BA.block q hq)⟩
  clear hown3 hg3 hat OWN HXX BA B2
  go_wp2
  go_roundw
  case rel=>exact ⟨k + 1,by omega,by go_num,hown4,B3⟩
  case measure=>simp [intOf];omega
theorem own_ints {w : World} {base : Nat} {oa : Option Addr} {n cap : Nat} {l : List Nat} (h : w.ownsRow base 3 1 (.slice oa n cap) n (icells l)) : ∃ g,IntsAt w oa g 0 n (fun i=>(l.getD i 0 : Int)) /\ (0 < n -> base <= g /\ g < w.heap.size):=by
 obtain ⟨h1,h2⟩:=h
 have hl : l.length = n:=by simpa [icells] using h1
 rcases h2 with ⟨hv,hn⟩ | ⟨g,cap',cur,hv,hb,hh,hc,hm,hs,ht⟩
 ·exact ⟨0,⟨fun q=>absurd q (by omega),fun i q=>absurd q (by omega),by omega⟩,fun q=>absurd q (by omega)⟩
 ·simp only [Value.slice.injEq] at hv
  refine ⟨g,⟨fun _=>hv.1,fun i hi=>?_,by unfold maxLen at hm;omega⟩,fun _=>⟨hb,(Array.getElem?_eq_some_iff.1 hh).1⟩⟩
  have e : (icells l)[i]? = some (.int .i64 (l.getD i 0 : Int)):=by
   have hi' : i < l.length:=by omega
   simp [icells,List.getD,List.getElem?_eq_getElem hi']
  rw [<- ht] at e
  rw [List.getElem?_take,if_pos (by omega),Array.getElem?_toList] at e
  simp [World.cell?,hh,e]
theorem own_wr {w : World} {base : Nat} {e : TypeId} {sz : Nat} {oa : Option Addr} {n cap g : Nat} {xs : List Value} (h : w.ownsRow base e sz (.slice oa n cap) n xs) (ha : oa = some ⟨g,0,none⟩) : Wr w g:=by
 rcases h.2 with ⟨hv,hn⟩ | ⟨g',cap',cur,hv,hb,hh,_⟩
 ·rw [ha] at hv;simp at hv
 ·rw [ha] at hv
  simp only [Value.slice.injEq,Option.some.injEq,Addr.mk.injEq,and_true,true_and] at hv
  rw [hv.1];exact ⟨_,_,hh⟩
theorem IntsAt.congr {w : World} {ao : Option Addr} {b o n : Nat} {D D' : Nat -> Int} (h : IntsAt w ao b o n D) (hd : ∀ i,i < n -> D i = D' i) : IntsAt w ao b o n D':=
 ⟨h.at_,fun i hi=>by rw [<- hd i hi];exact h.cell i hi,h.len⟩
theorem IntsAt.later {w w' : World} {ao : Option Addr} {b o n : Nat} {D : Nat -> Int} (h : IntsAt w ao b o n D) (hb : 0 < n -> w'.heap[b]? = w.heap[b]?) : IntsAt w' ao b o n D:=
 ⟨h.at_,fun i hi=>(World.cell?_of_block (w:=w) (hb (by omega))).trans (h.cell i hi),h.len⟩
theorem StrsAt.later {w w' : World} {ao : Option Addr} {b o n : Nat} {S : Nat -> ByteArray} (h : StrsAt w ao b o n S) (hb : 0 < n -> w'.heap[b]? = w.heap[b]?) : StrsAt w' ao b o n S:=
 ⟨h.at_,fun i hi=>(World.cell?_of_block (w:=w) (hb (by omega))).trans (h.cell i hi),h.size,h.len⟩
theorem NodeAt.later {w w' : World} {p : NP} {d : ND} (h : NodeAt w p d) (h1 : 0 < d.nn -> w'.heap[p.b1]? = w.heap[p.b1]?) (h2 : 0 < d.nk -> w'.heap[p.b2]? = w.heap[p.b2]?) : NodeAt w' p d:=
 ⟨h.names.later h1,h.kids.later h2⟩
def ncells (q : Nat -> NP) (G : Nat -> ND) (k : Nat) : List Value:=(List.range k).flatMap fun i=>[.int .i64 (G i).kind,.slice (q i).a1 (G i).nn (q i).c1,.slice (q i).a2 (G i).nk (q i).c2]
theorem ncells_succ (q : Nat -> NP) (G : Nat -> ND) (k : Nat) : ncells q G (k + 1) = ncells q G k ++ [.int .i64 (G k).kind,.slice (q k).a1 (G k).nn (q k).c1,.slice (q k).a2 (G k).nk (q k).c2]:=by
 unfold ncells;rw [List.range_succ,List.flatMap_append];simp
theorem ncells_len (q : Nat -> NP) (G : Nat -> ND) : ∀ k,(ncells q G k).length = k * 3
 | 0=>rfl
 | k + 1=>by rw [ncells_succ,List.length_append,ncells_len q G k];simp;omega
theorem ncells_congr {q q' : Nat -> NP} {G : Nat -> ND} : ∀ k,(∀ i,i < k -> q i = q' i) -> ncells q G k = ncells q' G k
 | 0,_=>rfl
 | k + 1,h=>by rw [ncells_succ,ncells_succ,ncells_congr k (fun i hi=>h i (by omega)),h k (by omega)]
theorem ncells_at (q : Nat -> NP) (G : Nat -> ND) : ∀ k i,i < k -> (ncells q G k)[i * 3]? = some (.int .i64 (G i).kind) /\ (ncells q G k)[i * 3 + 1]? = some (.slice (q i).a1 (G i).nn (q i).c1) /\ (ncells q G k)[i * 3 + 2]? = some (.slice (q i).a2 (G i).nk (q i).c2)
 | 0,i,hi=>absurd hi (Nat.not_lt_zero _)
 | k + 1,i,hi=>by
   have hl:=ncells_len q G k
   rw [ncells_succ]
   by_cases e : i = k
   ·subst e
    refine ⟨?_,?_,?_⟩
    ·rw [List.getElem?_append_right (by omega),hl,Nat.sub_self];rfl
    ·rw [List.getElem?_append_right (by omega),hl,show i * 3 + 1 - i * 3 = 1 from by omega];rfl
    ·rw [List.getElem?_append_right (by omega),hl,show i * 3 + 2 - i * 3 = 2 from by omega];rfl
   ·obtain ⟨h0,h1,h2⟩:=ncells_at q G k i (by omega)
    exact ⟨by rw [List.getElem?_append_left (by omega)];exact h0,by rw [List.getElem?_append_left (by omega)];exact h1,by rw [List.getElem?_append_left (by omega)];exact h2⟩
structure Lp (w1 wr : World) (v : Value) (k : Nat) (q : Nat -> NP) (G : Nat -> ND) : Prop where
 own : wr.ownsRow w1.heap.size 48 3 v k (ncells q G k)
 below : Below w1.heap.size w1 wr
 node : ∀ i,i < k -> NodeAt wr (q i) (G i) /\ (0 < (G i).nn -> w1.heap.size <= (q i).b1 /\ (q i).b1 < wr.heap.size /\ some (q i).b1 ≠ v.ownBlock) /\ (0 < (G i).nk -> w1.heap.size <= (q i).b2 /\ (q i).b2 < wr.heap.size /\ some (q i).b2 ≠ v.ownBlock)
 live : ∀ i,i < k -> (0 < (G i).nn -> Wr wr (q i).b1) /\ (0 < (G i).nk -> Wr wr (q i).b2)
 sep : ∀ i j,i < k -> j < k -> SepIJ q G i j
theorem lp_step {w1 wr w4 w5 : World} {oa : Option Addr} {cap gg cap3 k : Nat} {q : Nat -> NP} {G : Nat -> ND} {o2 : Obj} (h : Lp w1 wr (.slice oa k cap) k q G) (hb : Below wr.heap.size wr w4) (p : NP) (hp : NodeAt w4 p (G k))
  (h1 : 0 < (G k).nn -> wr.heap.size <= p.b1 /\ p.b1 < w4.heap.size) (h2 : 0 < (G k).nk -> wr.heap.size <= p.b2 /\ p.b2 < w4.heap.size) (h3 : (0 < (G k).nn -> Wr w4 p.b1) /\ (0 < (G k).nk -> Wr w4 p.b2)) (h4 : 0 < (G k).nn -> 0 < (G k).nk -> p.b1 ≠ p.b2)
  (hown : w5.ownsRow w1.heap.size 48 3 (.slice (some ⟨gg,0,none⟩) (k + 1) cap3) (k + 1) (ncells q G k ++ [.int .i64 (G k).kind,.slice p.a1 (G k).nn p.c1,.slice p.a2 (G k).nk p.c2]))
  (hg : (w4.alloc o2).grownBy w5 (Value.slice oa k cap).ownBlock) (hat : (Value.slice oa k cap).ownBlock = some gg \/ gg = w4.heap.size + 1) :
  Lp w1 w5 (.slice (some ⟨gg,0,none⟩) (k + 1) cap3) (k + 1) (fun i=>if i = k then p else q i) G:=by
 have hz:=hg.size
 have e4 : (w4.alloc o2).heap.size = w4.heap.size + 1:=by simp
 have b5 : ∀ j,j < w4.heap.size -> some j ≠ (Value.slice oa k cap).ownBlock -> w5.heap[j]? = w4.heap[j]?:=fun j hj hn=>(hg.block j (by rw [e4];omega) hn).trans (Below.heap_alloc _ _ _ hj)
 have hs:=hb.size
 have hs1:=h.below.size
 refine ⟨?_,⟨hg.os.trans (hb.os.trans h.below.os),hg.tape.trans (hb.tape.trans h.below.tape),hg.output.trans (hb.output.trans h.below.output),by omega,fun j hj=>?_⟩,fun i hi=>?_,fun i hi=>?_,fun i j hi hj=>?_⟩
 ·rw [ncells_succ,if_pos rfl,ncells_congr (q:=fun i=>if i = k then p else q i) (q':=q) k (fun i hi=>by rw [if_neg (by omega)])];exact hown
 ·rw [b5 j (by omega) (fun e=>by have:=(h.own.lt j e.symm).1;omega),hb.block j (by omega)]
  exact h.below.block j hj
 ·have fr : ∀ x,x < w4.heap.size -> some x ≠ (Value.slice oa k cap).ownBlock -> some x ≠ (Value.slice (some ⟨gg,0,none⟩) (k + 1) cap3).ownBlock:=fun x hx hn e=>by
   have : x = gg:=by simpa [Value.ownBlock] using e
   subst this
   rcases hat with q | q
   ·exact hn q.symm
   ·omega
  by_cases e : i = k
  ·subst e
   simp only [if_true]
   have ne : ∀ x,wr.heap.size <= x -> some x ≠ (Value.slice oa i cap).ownBlock:=fun x hx e=>by have:=(h.own.lt x e.symm).2;omega
   exact ⟨hp.later (fun z=>b5 _ (h1 z).2 (ne _ (h1 z).1)) (fun z=>b5 _ (h2 z).2 (ne _ (h2 z).1)),fun z=>⟨by have:=h1 z;omega,by have:=h1 z;omega,fr _ (h1 z).2 (ne _ (h1 z).1)⟩,fun z=>⟨by have:=h2 z;omega,by have:=h2 z;omega,fr _ (h2 z).2 (ne _ (h2 z).1)⟩⟩
  ·simp only [if_neg e]
   obtain ⟨n0,n1,n2⟩:=h.node i (by omega)
   refine ⟨n0.later (fun z=>?_) (fun z=>?_),fun z=>?_,fun z=>?_⟩
   ·obtain ⟨a1,a2,a3⟩:=n1 z
    exact (b5 _ (by omega) a3).trans (hb.block _ a2)
   ·obtain ⟨a1,a2,a3⟩:=n2 z
    exact (b5 _ (by omega) a3).trans (hb.block _ a2)
   ·obtain ⟨a1,a2,a3⟩:=n1 z
    exact ⟨a1,by omega,fr _ (by omega) a3⟩
   ·obtain ⟨a1,a2,a3⟩:=n2 z
    exact ⟨a1,by omega,fr _ (by omega) a3⟩
 ·by_cases e : i = k
  ·subst e
   simp only [if_true]
   have ne : ∀ x,wr.heap.size <= x -> some x ≠ (Value.slice oa i cap).ownBlock:=fun x hx e=>by have:=(h.own.lt x e.symm).2;omega
   exact ⟨fun z=>(h3.1 z).of (b5 _ (h1 z).2 (ne _ (h1 z).1)),fun z=>(h3.2 z).of (b5 _ (h2 z).2 (ne _ (h2 z).1))⟩
  ·simp only [if_neg e]
   obtain ⟨_,n1,n2⟩:=h.node i (by omega)
   obtain ⟨l1,l2⟩:=h.live i (by omega)
   refine ⟨fun z=>(l1 z).of ?_,fun z=>(l2 z).of ?_⟩
   ·obtain ⟨a1,a2,a3⟩:=n1 z
    exact (b5 _ (by omega) a3).trans (hb.block _ a2)
   ·obtain ⟨a1,a2,a3⟩:=n2 z
    exact (b5 _ (by omega) a3).trans (hb.block _ a2)
 ·unfold SepIJ
  by_cases ei : i = k
  ·by_cases ej : j = k
   ·subst ei
    subst ej
    simp only [if_true]
    exact ⟨fun q=>absurd rfl q,fun q=>absurd rfl q,h4⟩
   ·subst ei
    simp only [if_true,if_neg ej]
    obtain ⟨_,n1,n2⟩:=h.node j (by omega)
    exact ⟨fun _ z1 z2=>by have:=h1 z1;have:=n1 z2;omega,fun _ z1 z2=>by have:=h2 z1;have:=n2 z2;omega,fun z1 z2=>by have:=h1 z1;have:=n2 z2;omega⟩
  ·by_cases ej : j = k
   ·subst ej
    simp only [if_true,if_neg ei]
    obtain ⟨_,n1,n2⟩:=h.node i (by omega)
    exact ⟨fun _ z1 z2=>by have:=n1 z1;have:=h1 z2;omega,fun _ z1 z2=>by have:=n2 z1;have:=h2 z2;omega,fun z1 z2=>by have:=n1 z1;have:=h2 z2;omega⟩
   ·simp only [if_neg ei,if_neg ej]
    exact h.sep i j (by omega) (by omega)
theorem lp_nodes {w1 wr : World} {oa : Option Addr} {cap k : Nat} {q : Nat -> NP} {G : Nat -> ND} (h : Lp w1 wr (.slice oa k cap) k q G) (hk : k <= 9223372036854775807) : ∃ b,NodesAt wr oa b 0 k q G /\ w1.heap.size <= b /\ (0 < k -> b < wr.heap.size):=by
 obtain ⟨h1,h2⟩:=h.own
 rcases h2 with ⟨hv,hn⟩ | ⟨g,cap',cur,hv,hb,hh,hc,hm,hs,ht⟩
 ·exact ⟨w1.heap.size,⟨fun z=>absurd z (by omega),fun i z=>absurd z (by omega),fun i z=>absurd z (by omega),fun i z=>absurd z (by omega),fun i z=>absurd z (by omega),hk⟩,Nat.le_refl _,fun z=>absurd z (by omega)⟩
 ·simp only [Value.slice.injEq] at hv
  have key : ∀ j u,j < k * 3 -> (ncells q G k)[j]? = some u -> wr.cell? ⟨g,0 + j,none⟩ = some u:=fun j u hj hu=>by
   rw [<- ht,List.getElem?_take,if_pos hj,Array.getElem?_toList] at hu
   simp [World.cell?,hh,hu]
  refine ⟨g,⟨fun _=>hv.1,fun i hi=>key (i * 3) _ (by omega) (ncells_at q G k i hi).1,fun i hi=>key (i * 3 + 1) _ (by omega) (ncells_at q G k i hi).2.1,fun i hi=>key (i * 3 + 2) _ (by omega) (ncells_at q G k i hi).2.2,fun i hi=>(h.node i hi).1,hk⟩,hb,fun _=>(Array.getElem?_eq_some_iff.1 hh).1⟩
end Go.Proofs.YtpbpbppimkeodaaGreatDoor
