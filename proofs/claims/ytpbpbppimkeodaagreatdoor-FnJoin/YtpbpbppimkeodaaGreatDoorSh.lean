/-
  MC ML
-/
import Derived.Test.YtpbpbppimkeodaaGreatDoorSg
import Derived.Test.YtpbpbppimkeodaaGreatDoorSf
import Derived.Test.YtpbpbppimkeodaaGreatDoorSa
set_option maxRecDepth 100000
namespace Go.Proofs.YtpbpbppimkeodaaGreatDoor
open Go.RowKit Go.Maps
structure Mp (w : World) (b n : Nat) (D : DataW Unit) (g : Nat -> Option Nat) : Prop where
 map : w.ownsMap Tryz.prog 3 (plainElem Tryz.prog 3) b n D
 has : ∀ a : Nat,a < 4611686018427387904 -> Maps.has D (.int .i64 (a : Int)) = (g a).isSome
 val : ∀ a : Nat,a < 4611686018427387904 -> D.atKey (.int .i64 (a : Int)) (.lit (.int .i64 0)) = .lit (.int .i64 (((g a).getD 0 : Nat) : Int))
theorem mp_made (w : World) : Mp (w.alloc (.map #[] 0)) w.heap.size 0 (.map []) (fun _=>none):=
 ⟨World.ownsMap_made w Tryz.prog 3 (plainElem Tryz.prog 3),fun _ _=>rfl,fun _ _=>rfl⟩
theorem Mp.later {w w' : World} {b n : Nat} {D : DataW Unit} {g : Nat -> Option Nat} (h : Mp w b n D g) (hb : w'.heap[b]? = w.heap[b]?) : Mp w' b n D g:=by
 obtain ⟨es,clock,he,F,hn,hD⟩:=h.map
 exact ⟨⟨es,clock,hb.trans he,F,hn,hD⟩,h.has,h.val⟩
theorem Mp.lt {w : World} {b n : Nat} {D : DataW Unit} {g : Nat -> Option Nat} (h : Mp w b n D g) : b < w.heap.size:=h.map.lt
theorem Mp.put {w : World} {b n : Nat} {D : DataW Unit} {g : Nat -> Option Nat} (h : Mp w b n D g) {a v : Nat} (ha : a < 4611686018427387904) (hv : v < 4611686018427387904) (hn : n < 4611686018427387904) :
  ∃ w',(Instr.mapUpdate 132 (.map (some b)) (.int .i64 (a : Int)) (.int .i64 (v : Int))).run Tryz.prog w = .ok () w' /\ Mp w' b (n + 1) (D.put (.int .i64 (a : Int)) (.lit (.int .i64 (v : Int)))) (upd g a (some v)) /\ w.grownBy w' (some b):=by
 obtain ⟨w2,hrun,hown,hg⟩:=h.map.update Tryz.law3 Tryz.underlying132 (by unfold maxLen;omega) (key_int ha) (plainElem_int Tryz.underlying3 (a:=(v : Int)) (WalkArith.wf_i64 (by omega)))
 have hne : ∀ x : Nat,x ≠ a -> (Lit.int .i64 (x : Int)) ≠ Lit.int .i64 (a : Int):=fun x q e=>q (by simp at e;omega)
 refine ⟨w2,hrun,⟨hown,fun x hx=>?_,fun x hx=>?_⟩,hg⟩
 ·by_cases q : x = a
  ·subst q
   rw [Maps.has_put_same h.map.isMap (Tryz.law3.key (key_int hx)),upd_same];rfl
  ·rw [Maps.has_put_other (hne x q),h.has x hx,upd_other _ _ q]
 ·by_cases q : x = a
  ·subst q
   rw [Maps.atKey_put_same h.map.isMap (Tryz.law3.key (key_int hx)),upd_same];rfl
  ·rw [Maps.atKey_put_other (hne x q),h.val x hx,upd_other _ _ q]
theorem Mp.ask {w : World} {b n : Nat} {D : DataW Unit} {g : Nat -> Option Nat} (h : Mp w b n D g) {a : Nat} (ha : a < 4611686018427387904) (m : Nat) :
  (Instr.lookup 132 (.map (some b)) (.int .i64 (a : Int)) true).run Tryz.prog (w.drewN m) = .ok (.tuple #[.int .i64 (((g a).getD 0 : Nat) : Int),.bool (g a).isSome]) (w.drewN m):=by
 obtain ⟨v,hrun,hat⟩:=look_int h.map ha
 rw [hrun m,h.has a ha]
 have:=h.val a ha
 rw [hat] at this
 simp only [DataW.lit.injEq,Lit.int.injEq,true_and] at this
 rw [this]
theorem Mp.read {w : World} {b n : Nat} {D : DataW Unit} {g : Nat -> Option Nat} (h : Mp w b n D g) {a : Nat} (ha : a < 4611686018427387904) (m : Nat) :
  (Instr.lookup 132 (.map (some b)) (.int .i64 (a : Int)) false).run Tryz.prog (w.drewN m) = .ok (.int .i64 (((g a).getD 0 : Nat) : Int)) (w.drewN m):=by
 have h' : (w.drewN m).ownsMap Tryz.prog 3 (plainElem Tryz.prog 3) b n D:=h.map
 obtain ⟨c,hrun,hat,_⟩:=h'.lookup_int Tryz.law3 Tryz.underlying132 Tryz.underlying3 (Tryz.zero3 _) (key_int ha)
 rw [hrun]
 have:=h.val a ha
 rw [hat] at this
 simp only [DataW.lit.injEq,Lit.int.injEq,true_and] at this
 rw [this]
structure EdgesAt (w : World) (ea : Option Addr) (eb eo m : Nat) (es : Nat -> Nat × Nat) : Prop where
 at_ : 0 < m -> ea = some ⟨eb,eo,none⟩
 c0 : ∀ i,i < m -> w.cell? ⟨eb,eo + i * 2,none⟩ = some (.int .i64 ((es i).1 : Int))
 c1 : ∀ i,i < m -> w.cell? ⟨eb,eo + i * 2 + 1,none⟩ = some (.int .i64 ((es i).2 : Int))
theorem EdgesAt.later {w w' : World} {ea : Option Addr} {eb eo m : Nat} {es : Nat -> Nat × Nat} (h : EdgesAt w ea eb eo m es) (hb : 0 < m -> w'.heap[eb]? = w.heap[eb]?) : EdgesAt w' ea eb eo m es:=
 ⟨h.at_,fun i hi=>(World.cell?_of_block (w:=w) (hb (by omega))).trans (h.c0 i hi),fun i hi=>(World.cell?_of_block (w:=w) (hb (by omega))).trans (h.c1 i hi)⟩
def cnt (s : PS) (es : Nat -> Nat × Nat) (k q : Nat) : Nat:=((List.range k).filter fun i=>s.of (es i).2 == q).length
theorem cnt_succ (s : PS) (es : Nat -> Nat × Nat) (k q : Nat) : cnt s es (k + 1) q = cnt s es k q + if s.of (es k).2 = q then 1 else 0:=by
 unfold cnt
 rw [List.range_succ,List.filter_append,List.length_append]
 by_cases e : s.of (es k).2 = q
 ·rw [if_pos e];simp [e]
 ·rw [if_neg e];simp [e]
theorem cnt_le (s : PS) (es : Nat -> Nat × Nat) (k q : Nat) : cnt s es k q <= k:=by
 unfold cnt
 exact Nat.le_trans (List.length_filter_le _ _) (by simp)
theorem cnt_all (s : PS) (es : Nat -> Nat × Nat) (k q : Nat) : cnt s es k q = ((((List.range k).map fun i=>(es i).2)).filter fun x=>s.of x == q).length:=by
 unfold cnt
 rw [List.filter_map,List.length_map];rfl
end Go.Proofs.YtpbpbppimkeodaaGreatDoor
namespace Go.Proofs.YtpbpbppimkeodaaGreatDoor
structure Wf (N : Nat) (s : PS) : Prop where
 lt : ∀ x,x < N -> s.of x < s.nr
 here : ∀ x,x < N -> (s.rows (s.of x))[s.loc x]? = some x
 row : ∀ q i x,q < s.nr -> (s.rows q)[i]? = some x -> x < N /\ s.of x = q /\ s.loc x = i
def takeS (s : PS) (x last : Nat) : PS:={ s with loc:=upd s.loc last (s.loc x),rows:=upd s.rows (s.of x) ((s.rows (s.of x)).set (s.loc x) last).dropLast }
def putS (s : PS) (x part : Nat) : PS:={ s with of:=upd s.of x part,loc:=upd s.loc x (s.rows part).length,rows:=upd s.rows part (s.rows part ++ [x]) }
theorem set_drop {r : List Nat} {i L last k : Nat} (hL : r.length = L + 1) : ((r.set i last).dropLast)[k]? = if k < L then (if i = k then some last else r[k]?) else none:=by
 rw [List.dropLast_eq_take,List.length_set,hL,List.getElem?_take]
 by_cases h : k < L
 ·rw [if_pos (by omega),if_pos h,List.getElem?_set]
  by_cases e : i = k
  ·subst e
   rw [if_pos rfl,if_pos rfl,if_pos (by omega)]
  ·rw [if_neg e,if_neg e]
 ·rw [if_neg (by omega),if_neg h]
theorem move_wf {N : Nat} {s : PS} (h : Wf N s) {x to last L : Nat} (hx : x < N) (ht : to < s.nr) (hne : to ≠ s.of x) (hL : (s.rows (s.of x)).length = L + 1) (hl : (s.rows (s.of x))[L]? = some last) : Wf N (putS (takeS s x last) x to):=by
 obtain ⟨lN,lof,lloc⟩:=h.row (s.of x) L last (h.lt x hx) hl
 have hi:=h.here x hx
 have iL : s.loc x < L + 1:=by
  have:=(List.getElem?_eq_some_iff.1 hi).1
  omega
 have rto : (takeS s x last).rows to = s.rows to:=upd_other _ _ hne
 have lx : last = x -> s.loc x = L:=fun e=>by rw [e] at lloc;exact lloc
 have nl : s.loc x < L -> last ≠ x:=fun q e=>by have:=lx e;omega
 have R : ∀ q,(putS (takeS s x last) x to).rows q = if q = to then s.rows to ++ [x] else if q = s.of x then ((s.rows (s.of x)).set (s.loc x) last).dropLast else s.rows q:=fun q=>by
  show upd (takeS s x last).rows to _ q = _
  by_cases e : q = to
  ·subst e;rw [upd_same,if_pos rfl,rto]
  ·rw [upd_other _ _ e,if_neg e]
   show upd s.rows (s.of x) _ q = _
   by_cases e2 : q = s.of x
   ·subst e2;rw [upd_same,if_pos rfl]
   ·rw [upd_other _ _ e2,if_neg e2]
 have O : ∀ y,(putS (takeS s x last) x to).of y = if y = x then to else s.of y:=fun y=>rfl
 have Lc : ∀ y,(putS (takeS s x last) x to).loc y = if y = x then (s.rows to).length else if y = last then s.loc x else s.loc y:=fun y=>by
  show upd (upd s.loc last (s.loc x)) x ((takeS s x last).rows to).length y = _
  rw [rto];rfl
 refine ⟨fun y hy=>?_,fun y hy=>?_,fun q k y hq hk=>?_⟩
 ·show (putS (takeS s x last) x to).of y < s.nr
  rw [O]
  by_cases e : y = x
  ·rw [if_pos e];exact ht
  ·rw [if_neg e];exact h.lt y hy
 ·rw [O,Lc]
  by_cases e : y = x
  ·rw [if_pos e,if_pos e,R,if_pos rfl,e];simp
  ·rw [if_neg e,if_neg e,R]
   have hy0:=h.here y hy
   by_cases e1 : s.of y = to
   ·have hnl : y ≠ last:=fun q=>hne (by rw [<- e1,q,lof])
    rw [if_pos e1,if_neg hnl]
    rw [e1] at hy0
    rw [List.getElem?_append_left ((List.getElem?_eq_some_iff.1 hy0).1)]
    exact hy0
   ·rw [if_neg e1]
    by_cases e2 : s.of y = s.of x
    ·rw [if_pos e2,set_drop hL]
     by_cases e3 : y = last
     ·have : s.loc x < L:=by
       by_cases q : s.loc x = L
       ·rw [q,hl] at hi
        have : last = x:=by simpa using hi
        exact absurd (e3.trans this) e
       ·omega
      rw [if_pos e3,if_pos this,if_pos rfl,e3]
     ·rw [if_neg e3]
      rw [e2] at hy0
      have k1:=(List.getElem?_eq_some_iff.1 hy0).1
      have k2 : s.loc y ≠ L:=fun q=>by rw [q,hl] at hy0;exact e3 (by simpa using hy0.symm)
      have k3 : ¬ s.loc x = s.loc y:=fun q=>by rw [<- q,hi] at hy0;exact e (by simpa using hy0.symm)
      rw [if_pos (by omega),if_neg k3]
      exact hy0
    ·have hnl : y ≠ last:=fun q=>e2 (by rw [q,lof])
     rw [if_neg e2,if_neg hnl]
     exact hy0
 ·rw [R] at hk
  rw [O,Lc]
  by_cases e : q = to
  ·rw [if_pos e] at hk
   by_cases kl : k < (s.rows to).length
   ·rw [List.getElem?_append_left kl] at hk
    obtain ⟨a1,a2,a3⟩:=h.row to k y ht hk
    have ny : y ≠ x:=fun z=>hne (by rw [<- a2,z])
    have nl2 : y ≠ last:=fun z=>hne (by rw [<- a2,z,lof])
    rw [if_neg ny,if_neg ny,if_neg nl2]
    exact ⟨a1,a2.trans e.symm,a3⟩
   ·have hk1:=(List.getElem?_eq_some_iff.1 hk).1
    have k0 : k = (s.rows to).length:=by simp at hk1;omega
    subst k0
    have : y = x:=by simpa using hk.symm
    rw [if_pos this,if_pos this]
    exact ⟨by rw [this];exact hx,e.symm,rfl⟩
  ·rw [if_neg e] at hk
   by_cases e2 : q = s.of x
   ·rw [if_pos e2,set_drop hL] at hk
    by_cases kL : k < L
    ·rw [if_pos kL] at hk
     by_cases e3 : s.loc x = k
     ·rw [if_pos e3] at hk
      have yl : last = y:=by simpa using hk
      have ny : y ≠ x:=fun z=>nl (by omega) (yl.trans z)
      rw [if_neg ny,if_neg ny,if_pos yl.symm]
      exact ⟨by rw [<- yl];exact lN,by rw [<- yl,lof,e2],e3⟩
     ·rw [if_neg e3] at hk
      obtain ⟨a1,a2,a3⟩:=h.row (s.of x) k y (h.lt x hx) hk
      have ny : y ≠ x:=fun z=>e3 (by rw [<- z];exact a3)
      have nl2 : y ≠ last:=fun z=>by rw [z] at a3;omega
      rw [if_neg ny,if_neg ny,if_neg nl2]
      exact ⟨a1,a2.trans e2.symm,a3⟩
    ·rw [if_neg kL] at hk;cases hk
   ·rw [if_neg e2] at hk
    obtain ⟨a1,a2,a3⟩:=h.row q k y hq hk
    have ny : y ≠ x:=fun z=>e2 (by rw [<- a2,z])
    have nl2 : y ≠ last:=fun z=>e2 (by rw [<- a2,z,lof])
    rw [if_neg ny,if_neg ny,if_neg nl2]
    exact ⟨a1,a2,a3⟩
def addS' (s : PS) : PS:={ s with nr:=s.nr + 1,rows:=upd s.rows s.nr [],waits:=upd s.waits s.nr false }
theorem add_wf {N : Nat} {s : PS} (h : Wf N s) : Wf N (addS' s):=by
 refine ⟨fun x hx=>?_,fun x hx=>?_,fun q i x hq hi=>?_⟩
 ·have:=h.lt x hx
  show s.of x < s.nr + 1
  omega
 ·have:=h.lt x hx
  show (upd s.rows s.nr [] (s.of x))[s.loc x]? = some x
  rw [upd_other _ _ (by omega)]
  exact h.here x hx
 ·have hi' : (upd s.rows s.nr [] q)[i]? = some x:=hi
  by_cases e : q = s.nr
  ·subst e;rw [upd_same] at hi';simp at hi'
  ·rw [upd_other _ _ e] at hi'
   have hq' : q < s.nr + 1:=hq
   exact h.row q i x (by omega) hi'
structure SpS where
 s : PS
 np : Nat -> Option Nat
 dv : List (Nat × Nat)
def settle (lv : Nat -> Nat) (st : SpS) (old : Nat) : SpS:=
 if (st.np old).isSome then st else if lv old < (st.s.rows old).length then ⟨addS' st.s,upd st.np old (some st.s.nr),st.dv ++ [(old,st.s.nr)]⟩ else ⟨st.s,upd st.np old (some old),st.dv⟩
def goes (st : SpS) (x : Nat) : SpS:=
 if (st.np (st.s.of x)).getD (st.s.of x) = st.s.of x then st else ⟨putS (takeS st.s x ((st.s.rows (st.s.of x)).getLastD 0)) x ((st.np (st.s.of x)).getD (st.s.of x)),st.np,st.dv⟩
structure SI (N : Nat) (s0 : PS) (lv : Nat -> Nat) (ys : List Nat) (st : SpS) : Prop where
 wf : Wf N st.s
 of_ : ∀ x,x < N -> st.s.of x = if x ∈ ys then (st.np (s0.of x)).getD (s0.of x) else s0.of x
 seen : ∀ y,y ∈ ys -> (st.np (s0.of y)).isSome = true
 old : ∀ q,q < s0.nr -> st.np q = none -> st.s.rows q = s0.rows q
 np : ∀ q t,st.np q = some t -> q < s0.nr /\ (t = q \/ (s0.nr <= t /\ t < st.s.nr)) /\ (t ≠ q ↔ lv q < (s0.rows q).length)
 inj : ∀ q q' t,st.np q = some t -> st.np q' = some t -> t ≠ q -> t ≠ q' -> q = q'
 nr : s0.nr <= st.s.nr
 waits : ∀ q,q < s0.nr -> st.s.waits q = s0.waits q
 fresh : ∀ q,s0.nr <= q -> q < st.s.nr -> st.s.waits q = false
 waiting : st.s.waiting = s0.waiting
 dv : ∀ q t,(q,t) ∈ st.dv ↔ st.np q = some t /\ t ≠ q
theorem si_start {N : Nat} {s0 : PS} {lv : Nat -> Nat} (h : Wf N s0) : SI N s0 lv [] ⟨s0,fun _=>none,[]⟩:=
 ⟨h,fun x _=>(by simp),fun y hy=>(by cases hy),fun q _ _=>rfl,fun q t e=>(by cases e),fun q q' t e=>(by cases e),Nat.le_refl _,fun q _=>rfl,fun q h1 h2=>absurd h2 (by show ¬ q < s0.nr;omega),rfl,fun q t=>(by simp)⟩
theorem si_settle {N : Nat} {s0 : PS} {lv : Nat -> Nat} {ys : List Nat} {st : SpS} (h : SI N s0 lv ys st) {q0 : Nat} (hq : q0 < s0.nr) : SI N s0 lv ys (settle lv st q0) /\ ((settle lv st q0).np q0).isSome = true /\ (settle lv st q0).s.of = st.s.of /\ (∀ q,q < s0.nr -> (settle lv st q0).s.rows q = st.s.rows q):=by
 unfold settle
 by_cases h1 : (st.np q0).isSome = true
 ·rw [if_pos h1];exact ⟨h,h1,rfl,fun _ _=>rfl⟩
 ·rw [if_neg h1]
  have hn : st.np q0 = none:=by simpa using h1
  have hr:=h.old q0 hq hn
  have hnr:=h.nr
  have ys0 : ∀ y,y ∈ ys -> s0.of y ≠ q0:=fun y hy e=>by have:=h.seen y hy;rw [e,hn] at this;cases this
  by_cases h2 : lv q0 < (st.s.rows q0).length
  ·rw [if_pos h2]
   refine ⟨⟨add_wf h.wf,fun x hx=>?_,fun y hy=>?_,fun q hq' e=>?_,fun q t e=>?_,fun q q' t e1 e2 n1 n2=>?_,?_,fun q hq'=>?_,fun q a b=>?_,h.waiting,fun q t=>?_⟩,by simp [upd_same],rfl,fun q hq'=>upd_other _ _ (by omega)⟩
   ·show st.s.of x = if x ∈ ys then (upd st.np q0 (some st.s.nr) (s0.of x)).getD (s0.of x) else s0.of x
    rw [h.of_ x hx]
    by_cases e : x ∈ ys
    ·rw [if_pos e,if_pos e,upd_other _ _ (ys0 x e)]
    ·rw [if_neg e,if_neg e]
   ·show (upd st.np q0 (some st.s.nr) (s0.of y)).isSome = true
    rw [upd_other _ _ (ys0 y hy)];exact h.seen y hy
   ·have e' : upd st.np q0 (some st.s.nr) q = none:=e
    show upd st.s.rows st.s.nr [] q = s0.rows q
    rw [upd_other _ _ (by omega)]
    by_cases e2 : q = q0
    ·subst e2;rw [upd_same] at e';cases e'
    ·rw [upd_other _ _ e2] at e';exact h.old q hq' e'
   ·have e' : upd st.np q0 (some st.s.nr) q = some t:=e
    show q < s0.nr /\ (t = q \/ (s0.nr <= t /\ t < st.s.nr + 1)) /\ _
    by_cases e2 : q = q0
    ·subst e2
     rw [upd_same] at e'
     cases e'
     refine ⟨hq,Or.inr ⟨hnr,by omega⟩,⟨fun _=>by rw [<- hr];exact h2,fun _=>by omega⟩⟩
    ·rw [upd_other _ _ e2] at e'
     obtain ⟨a1,a2,a3⟩:=h.np q t e'
     exact ⟨a1,by omega,a3⟩
   ·have e1' : upd st.np q0 (some st.s.nr) q = some t:=e1
    have e2' : upd st.np q0 (some st.s.nr) q' = some t:=e2
    by_cases a : q = q0
    ·by_cases b : q' = q0
     ·omega
     ·rw [a,upd_same] at e1'
      rw [upd_other _ _ b] at e2'
      cases e1'
      have:=(h.np q' _ e2').2.1
      omega
    ·by_cases b : q' = q0
     ·rw [b,upd_same] at e2'
      rw [upd_other _ _ a] at e1'
      cases e2'
      have:=(h.np q _ e1').2.1
      omega
     ·rw [upd_other _ _ a] at e1'
      rw [upd_other _ _ b] at e2'
      exact h.inj q q' t e1' e2' n1 n2
   ·show s0.nr <= st.s.nr + 1;omega
   ·show upd st.s.waits st.s.nr false q = s0.waits q
    rw [upd_other _ _ (by omega)];exact h.waits q hq'
   ·have b' : q < st.s.nr + 1:=b
    show upd st.s.waits st.s.nr false q = false
    by_cases e : q = st.s.nr
    ·subst e;rw [upd_same]
    ·rw [upd_other _ _ e];exact h.fresh q a (by omega)
   ·show (q,t) ∈ st.dv ++ [(q0,st.s.nr)] ↔ upd st.np q0 (some st.s.nr) q = some t /\ t ≠ q
    rw [List.mem_append,List.mem_singleton,h.dv]
    by_cases e : q = q0
    ·subst e
     rw [upd_same,hn]
     constructor
     ·rintro (⟨z,_⟩ | z)
      ·cases z
      ·simp at z;subst z;exact ⟨rfl,by omega⟩
     ·rintro ⟨z,_⟩
      right
      cases z;rfl
    ·rw [upd_other _ _ e]
     constructor
     ·rintro (z | z)
      ·exact z
      ·simp at z;exact absurd z.1 e
     ·exact fun z=>Or.inl z
  ·rw [if_neg h2]
   refine ⟨⟨h.wf,fun x hx=>?_,fun y hy=>?_,fun q hq' e=>?_,fun q t e=>?_,fun q q' t e1 e2 n1 n2=>?_,hnr,h.waits,h.fresh,h.waiting,fun q t=>?_⟩,by simp [upd_same],rfl,fun _ _=>rfl⟩
   ·show st.s.of x = if x ∈ ys then (upd st.np q0 (some q0) (s0.of x)).getD (s0.of x) else s0.of x
    rw [h.of_ x hx]
    by_cases e : x ∈ ys
    ·rw [if_pos e,if_pos e,upd_other _ _ (ys0 x e)]
    ·rw [if_neg e,if_neg e]
   ·show (upd st.np q0 (some q0) (s0.of y)).isSome = true
    rw [upd_other _ _ (ys0 y hy)];exact h.seen y hy
   ·have e' : upd st.np q0 (some q0) q = none:=e
    by_cases e2 : q = q0
    ·subst e2;rw [upd_same] at e';cases e'
    ·rw [upd_other _ _ e2] at e';exact h.old q hq' e'
   ·have e' : upd st.np q0 (some q0) q = some t:=e
    by_cases e2 : q = q0
    ·subst e2
     rw [upd_same] at e'
     cases e'
     exact ⟨hq,Or.inl rfl,⟨fun z=>absurd rfl z,fun z=>absurd z (by rw [<- hr];exact h2)⟩⟩
    ·rw [upd_other _ _ e2] at e'
     exact h.np q t e'
   ·have e1' : upd st.np q0 (some q0) q = some t:=e1
    have e2' : upd st.np q0 (some q0) q' = some t:=e2
    by_cases a : q = q0
    ·rw [a,upd_same] at e1';cases e1';exact absurd a.symm n1
    ·by_cases b : q' = q0
     ·rw [b,upd_same] at e2';cases e2';exact absurd b.symm n2
     ·rw [upd_other _ _ a] at e1'
      rw [upd_other _ _ b] at e2'
      exact h.inj q q' t e1' e2' n1 n2
   ·show (q,t) ∈ st.dv ↔ upd st.np q0 (some q0) q = some t /\ t ≠ q
    rw [h.dv]
    by_cases e : q = q0
    ·subst e
     rw [upd_same,hn]
     constructor
     ·rintro ⟨z,_⟩;cases z
     ·rintro ⟨z,w⟩;cases z;exact absurd rfl w
    ·rw [upd_other _ _ e]
theorem last_of {r : List Nat} {i x : Nat} (h : r[i]? = some x) : ∃ L,r.length = L + 1 /\ r[L]? = some (r.getLastD 0):=by
 have hl:=(List.getElem?_eq_some_iff.1 h).1
 refine ⟨r.length - 1,by omega,?_⟩
 have hne : r ≠ []:=fun e=>by rw [e] at hl;simp at hl
 rw [List.getLastD_eq_getLast?,List.getLast?_eq_getElem?]
 have : r.length - 1 < r.length:=by omega
 simp [List.getElem?_eq_getElem this]
theorem si_goes {N : Nat} {s0 : PS} {lv : Nat -> Nat} {ys : List Nat} {st : SpS} (h : SI N s0 lv ys st) {x : Nat} (hx : x < N) (hn : x ∉ ys) (hs : (st.np (s0.of x)).isSome = true) : SI N s0 lv (ys ++ [x]) (goes st x):=by
 have ho : st.s.of x = s0.of x:=by rw [h.of_ x hx,if_neg hn]
 have seen : ∀ y,y ∈ ys ++ [x] -> (st.np (s0.of y)).isSome = true:=fun y hy=>by
  rcases List.mem_append.1 hy with q | q
  ·exact h.seen y q
  ·simp at q;rw [q];exact hs
 have mem : ∀ y,y ≠ x -> (y ∈ ys ++ [x] ↔ y ∈ ys):=fun y hy=>by simp [hy]
 unfold goes
 by_cases e : (st.np (st.s.of x)).getD (st.s.of x) = st.s.of x
 ·rw [if_pos e]
  refine ⟨h.wf,fun y hy=>?_,seen,h.old,h.np,h.inj,h.nr,h.waits,h.fresh,h.waiting,h.dv⟩
  by_cases q : y = x
  ·subst q
   rw [if_pos (by simp),<- ho,e]
  ·rw [h.of_ y hy]
   by_cases z : y ∈ ys
   ·rw [if_pos z,if_pos ((mem y q).2 z)]
   ·rw [if_neg z,if_neg (fun c=>z ((mem y q).1 c))]
 ·rw [if_neg e]
  obtain ⟨t,ht⟩:=Option.isSome_iff_exists.1 hs
  have et : (st.np (st.s.of x)).getD (st.s.of x) = t:=by rw [ho,ht];rfl
  rw [et] at e ⊢
  obtain ⟨a1,a2,a3⟩:=h.np _ _ ht
  have tq : t ≠ s0.of x:=fun c=>e (by rw [ho];exact c)
  have t2 : s0.nr <= t /\ t < st.s.nr:=by
   rcases a2 with c | c
   ·exact absurd c tq
   ·exact c
  obtain ⟨L,hL,hl⟩:=last_of (h.wf.here x hx)
  have W:=move_wf h.wf hx t2.2 (fun c=>e c) hL hl
  refine ⟨W,fun y hy=>?_,seen,fun q hq c=>?_,h.np,h.inj,h.nr,h.waits,h.fresh,h.waiting,h.dv⟩
  ·show upd st.s.of x t y = _
   by_cases q : y = x
   ·subst q
    rw [upd_same,if_pos (by simp),ht];rfl
   ·rw [upd_other _ _ q,h.of_ y hy]
    by_cases z : y ∈ ys
    ·rw [if_pos z,if_pos ((mem y q).2 z)]
    ·rw [if_neg z,if_neg (fun c=>z ((mem y q).1 c))]
  ·have c' : st.np q = none:=c
   have q1 : q ≠ t:=by omega
   have q2 : q ≠ st.s.of x:=fun z=>by rw [z,ho,ht] at c';cases c'
   show upd (upd st.s.rows (st.s.of x) _) t _ q = s0.rows q
   rw [upd_other _ _ q1,upd_other _ _ q2]
   exact h.old q hq c'
def splAll (lv : Nat -> Nat) (st : SpS) (xs : List Nat) : SpS:=xs.foldl (fun st x=>goes (settle lv st (st.s.of x)) x) st
theorem si_all {N : Nat} {s0 : PS} {lv : Nat -> Nat} (h0 : Wf N s0) : ∀ (zs ys : List Nat) (st : SpS),SI N s0 lv ys st -> (∀ z,z ∈ zs -> z < N) -> (ys ++ zs).Nodup -> SI N s0 lv (ys ++ zs) (splAll lv st zs)
 | [],ys,st,h,_,_=>by rw [List.append_nil];exact h
 | x :: zs,ys,st,h,hz,hd=>by
   have hx:=hz x List.mem_cons_self
   have hn : x ∉ ys:=fun c=>by
    have:=(List.nodup_append.1 hd).2.2 x c x List.mem_cons_self
    exact this rfl
   have ho : st.s.of x = s0.of x:=by rw [h.of_ x hx,if_neg hn]
   obtain ⟨s1,s2,s3,_⟩:=si_settle h (h0.lt x hx)
   have s4:=si_goes s1 hx hn s2
   have:=si_all h0 zs (ys ++ [x]) _ s4 (fun z c=>hz z (List.mem_cons_of_mem _ c)) (by rw [List.append_assoc];exact hd)
   rw [List.append_assoc] at this
   show SI N s0 lv (ys ++ ([x] ++ zs)) (splAll lv (goes (settle lv st (st.s.of x)) x) zs)
   rw [ho];exact this
def Stab (N : Nat) (G : Nat -> ND) (of : Nat -> Nat) (waits : Nat -> Prop) (C pend : Nat -> Prop) : Prop:=
 ∀ x y,x < N -> y < N -> of x = of y -> ∀ j,j < (G x).nk -> (∀ q,waits q -> (of (kid (G x) j) = q ↔ of (kid (G y) j) = q)) -> (pend j -> (C (kid (G x) j) ↔ C (kid (G y) j))) -> of (kid (G x) j) = of (kid (G y) j)
structure Parts (N : Nat) (G : Nat -> ND) (of : Nat -> Nat) : Prop where
 lab : ∀ x y,x < N -> y < N -> of x = of y -> Lab (G x) (G y)
 same : ∀ x y,x < N -> y < N -> Same N G x y -> of x = of y
structure Split (N : Nat) (of of' : Nat -> Nat) (waits waits' : Nat -> Prop) (X : Nat -> Prop) : Prop where
 part : ∀ x y,x < N -> y < N -> (of' x = of' y ↔ of x = of y /\ (X x ↔ X y))
 old : ∀ x,x < N -> waits (of x) -> waits' (of' x)
 one : ∀ x y,x < N -> y < N -> of x = of y -> of' x ≠ of' y -> waits' (of' x) \/ waits' (of' y)
theorem Stab.start {N : Nat} {G : Nat -> ND} {of : Nat -> Nat} {waits : Nat -> Prop} {C : Nat -> Prop} (hK : Kids N G) (h : ∀ x,x < N -> waits (of x)) : Stab N G of waits C (fun _=>False):=
 fun _ _ hx _ _ _ hj hw _=>((hw _ (h _ (hK.lt hx hj))).1 rfl).symm
theorem Stab.pop {N : Nat} {G : Nat -> ND} {of : Nat -> Nat} {waits : Nat -> Prop} {C : Nat -> Prop} (h : Stab N G of waits C (fun _=>False)) (P : Nat) : Stab N G of (fun q=>waits q /\ q ≠ P) (fun u=>of u = P) (fun _=>True):=
 fun x y hx hy e j hj hw hc=>h x y hx hy e j hj (fun q hq=>by
  by_cases e' : q = P
  ·subst e';exact hc trivial
  ·exact hw q ⟨hq,e'⟩) (fun f=>f.elim)
theorem Stab.split {N : Nat} {G : Nat -> ND} {of of' : Nat -> Nat} {waits waits' : Nat -> Prop} {C pend : Nat -> Prop} {j0 : Nat} (hK : Kids N G) (hP : Parts N G of) (h : Stab N G of waits C pend)
  (s : Split N of of' waits waits' (fun x=>j0 < (G x).nk /\ C (kid (G x) j0))) : Stab N G of' waits' C (fun j=>pend j /\ j ≠ j0):=by
 intro x y hx hy e j hj hw hc
 obtain ⟨e1,hX⟩:=(s.part x y hx hy).1 e
 have hl:=hP.lab x y hx hy e1
 have hj' : j < (G y).nk:=by rw [<- hl.nk];exact hj
 have hu:=hK.lt hx hj
 have hv:=hK.lt hy hj'
 have old : of (kid (G x) j) = of (kid (G y) j):=by
  refine h x y hx hy e1 j hj (fun q hq=>?_) (fun hp=>?_)
  ·constructor
   ·intro hq1
    subst hq1
    have w1:=s.old _ hu hq
    have r:=(hw _ w1).1 rfl
    exact ((s.part _ _ hv hu).1 r).1
   ·intro hq1
    subst hq1
    have w1:=s.old _ hv hq
    have r:=(hw _ w1).2 rfl
    exact ((s.part _ _ hu hv).1 r).1
  ·by_cases ej : j = j0
   ·subst ej
    constructor
    ·intro c;exact (hX.1 ⟨hj,c⟩).2
    ·intro c;exact (hX.2 ⟨hj',c⟩).2
   ·exact hc ⟨hp,ej⟩
 by_cases hne : of' (kid (G x) j) = of' (kid (G y) j)
 ·exact hne
 ·rcases s.one _ _ hu hv old hne with w1 | w1
  ·exact ((hw _ w1).1 rfl).symm
  ·exact (hw _ w1).2 rfl
theorem Parts.split {N : Nat} {G : Nat -> ND} {of of' : Nat -> Nat} {waits waits' : Nat -> Prop} {C : Nat -> Prop} {j0 : Nat} (hK : Kids N G) (hP : Parts N G of) (hC : ∀ u v,u < N -> v < N -> Same N G u v -> (C u ↔ C v))
  (s : Split N of of' waits waits' (fun x=>j0 < (G x).nk /\ C (kid (G x) j0))) : Parts N G of':=by
 refine ⟨fun x y hx hy e=>hP.lab x y hx hy ((s.part x y hx hy).1 e).1,fun x y hx hy hs=>(s.part x y hx hy).2 ⟨hP.same x y hx hy hs,?_⟩⟩
 have hl:=hs.lab hx hy
 constructor
 ·rintro ⟨h1,h2⟩
  have h1' : j0 < (G y).nk:=by rw [<- hl.nk];exact h1
  exact ⟨h1',(hC _ _ (hK.lt hx h1) (hK.lt hy h1') (hs.kid hx hy h1)).1 h2⟩
 ·rintro ⟨h1,h2⟩
  have h1' : j0 < (G x).nk:=by rw [hl.nk];exact h1
  exact ⟨h1',(hC _ _ (hK.lt hx h1') (hK.lt hy h1) (hs.kid hx hy h1')).2 h2⟩
theorem Stab.done {N : Nat} {G : Nat -> ND} {of : Nat -> Nat} {waits : Nat -> Prop} {C : Nat -> Prop} (hP : Parts N G of) (h : Stab N G of waits C (fun _=>False)) (hw : ∀ q,¬ waits q) : ∀ x y,x < N -> y < N -> (of x = of y ↔ Same N G x y):=by
 refine fun x y hx hy=>⟨fun e=>⟨fun u v=>of u = of v,fun u v hu hv euv=>⟨hP.lab u v hu hv euv,fun j hj=>h u v hu hv euv j hj (fun q hq=>absurd hq (hw q)) (fun f=>f.elim)⟩,e⟩,hP.same x y hx hy⟩
theorem len_le {α : Type} [BEq α] [LawfulBEq α] : ∀ (l1 l2 : List α),l1.Nodup -> (∀ a,a ∈ l1 -> a ∈ l2) -> l1.length <= l2.length
 | [],_,_,_=>Nat.zero_le _
 | a :: l1,l2,hd,hs=>by
   have ha:=hs a List.mem_cons_self
   obtain ⟨hn,hd'⟩:=List.nodup_cons.1 hd
   have:=len_le l1 (l2.erase a) hd' (fun b hb=>(List.mem_erase_of_ne (fun e=>hn (by rw [<- e];exact hb))).2 (hs b (List.mem_cons_of_mem _ hb)))
   rw [List.length_erase_of_mem ha] at this
   have:=List.length_pos_of_mem ha
   simp only [List.length_cons]
   omega
theorem all_in {α : Type} [BEq α] [LawfulBEq α] {l1 l2 : List α} (hd : l1.Nodup) (hs : ∀ a,a ∈ l1 -> a ∈ l2) (hl : l2.length <= l1.length) : ∀ b,b ∈ l2 -> b ∈ l1:=by
 intro b hb
 by_cases h : b ∈ l1
 ·exact h
 ·have:=len_le (b :: l1) l2 (List.nodup_cons.2 ⟨h,hd⟩) (fun a ha=>by
   rcases List.mem_cons.1 ha with e | e
   ·rw [e];exact hb
   ·exact hs a e)
  simp only [List.length_cons] at this
  omega
theorem row_nodup {N : Nat} {s : PS} (h : Wf N s) {q : Nat} (hq : q < s.nr) : (s.rows q).Nodup:=by
 rw [List.Nodup,List.pairwise_iff_getElem]
 intro i j hi hj hij e
 have l1:=(h.row q i _ hq (List.getElem?_eq_getElem hi)).2.2
 have l2:=(h.row q j _ hq (List.getElem?_eq_getElem hj)).2.2
 rw [e] at l1
 omega
def leaves (s0 : PS) (xs : List Nat) (q : Nat) : Nat:=(xs.filter fun x=>s0.of x == q).length
theorem nobody_stays {N : Nat} {s0 : PS} (h0 : Wf N s0) {xs : List Nat} (hx : ∀ x,x ∈ xs -> x < N) (hd : xs.Nodup) {q : Nat} (hl : ¬ leaves s0 xs q < (s0.rows q).length) {y : Nat} (hy : y < N) (ho : s0.of y = q) : y ∈ xs:=by
 have hrow : ∀ x,x < N -> s0.of x = q -> x ∈ s0.rows q:=fun x hx' e=>by
  have:=h0.here x hx'
  rw [e] at this
  exact List.mem_of_getElem? this
 have:=all_in (l1:=xs.filter fun x=>s0.of x == q) (l2:=s0.rows q) (hd.filter _) (fun a ha=>by
  obtain ⟨m,e⟩:=List.mem_filter.1 ha
  exact hrow a (hx a m) (by simpa using e)) (by unfold leaves at hl;omega) y (hrow y hy ho)
 exact (List.mem_filter.1 this).1
theorem split_part {N : Nat} {s0 : PS} (h0 : Wf N s0) {xs : List Nat} {st : SpS} (hx : ∀ x,x ∈ xs -> x < N) (hd : xs.Nodup) (h : SI N s0 (leaves s0 xs) xs st) : ∀ x y,x < N -> y < N -> (st.s.of x = st.s.of y ↔ s0.of x = s0.of y /\ (x ∈ xs ↔ y ∈ xs)):=by
 have form : ∀ x,x < N -> (st.s.of x = s0.of x /\ (x ∈ xs -> ∀ y,y < N -> s0.of y = s0.of x -> y ∈ xs)) \/ (x ∈ xs /\ ∃ t,st.np (s0.of x) = some t /\ t ≠ s0.of x /\ s0.nr <= t /\ st.s.of x = t):=fun x hxN=>by
  rw [h.of_ x hxN]
  by_cases e : x ∈ xs
  ·rw [if_pos e]
   obtain ⟨t,ht⟩:=Option.isSome_iff_exists.1 (h.seen x e)
   obtain ⟨a1,a2,a3⟩:=h.np _ _ ht
   rw [ht]
   by_cases c : t = s0.of x
   ·left
    refine ⟨c,fun _ y hy ho=>nobody_stays h0 hx hd (fun z=>?_) hy ho⟩
    exact (a3.2 z) c
   ·right
    refine ⟨e,t,rfl,c,?_,rfl⟩
    rcases a2 with z | z
    ·exact absurd z c
    ·exact z.1
  ·rw [if_neg e]
   exact Or.inl ⟨rfl,fun c=>absurd c e⟩
 intro x y hxN hyN
 have lx:=h0.lt x hxN
 have ly:=h0.lt y hyN
 rcases form x hxN with ⟨ex,cx⟩ | ⟨mx,t,nx,tx,rx,ex⟩
 ·rcases form y hyN with ⟨ey,cy⟩ | ⟨my,u,ny,ty,ry,ey⟩
  ·rw [ex,ey]
   exact ⟨fun e=>⟨e,fun m=>cx m y hyN e.symm,fun m=>cy m x hxN e⟩,fun e=>e.1⟩
  ·rw [ex,ey]
   constructor
   ·intro e;omega
   ·rintro ⟨e,m⟩
    have mx:=m.2 my
    have hq:=(h.np _ _ ny).2.2.1 ty
    have al:=cx mx
    have:=len_le (s0.rows (s0.of x)) (xs.filter fun z=>s0.of z == s0.of x) ?_ ?_
    ·unfold leaves at hq;rw [<- e] at hq;omega
    ·exact row_nodup h0 lx
    ·intro a ha
     obtain ⟨i,hi⟩:=List.getElem?_of_mem ha
     obtain ⟨r1,r2,_⟩:=h0.row (s0.of x) i a lx hi
     exact List.mem_filter.2 ⟨al a r1 r2,by simp [r2]⟩
 ·rcases form y hyN with ⟨ey,cy⟩ | ⟨my,u,ny,ty,ry,ey⟩
  ·rw [ex,ey]
   constructor
   ·intro e;omega
   ·rintro ⟨e,m⟩
    have my:=m.1 mx
    have hq:=(h.np _ _ nx).2.2.1 tx
    have al:=cy my
    have:=len_le (s0.rows (s0.of y)) (xs.filter fun z=>s0.of z == s0.of y) ?_ ?_
    ·unfold leaves at hq;rw [e] at hq;omega
    ·exact row_nodup h0 ly
    ·intro a ha
     obtain ⟨i,hi⟩:=List.getElem?_of_mem ha
     obtain ⟨r1,r2,_⟩:=h0.row (s0.of y) i a ly hi
     exact List.mem_filter.2 ⟨al a r1 r2,by simp [r2]⟩
  ·rw [ex,ey]
   constructor
   ·intro e
    refine ⟨?_,⟨fun _=>my,fun _=>mx⟩⟩
    rw [e] at nx
    exact h.inj _ _ u nx ny (by rw [<- e];exact tx) ty
   ·rintro ⟨e,_⟩
    rw [e,ny] at nx
    exact (Option.some.inj nx).symm
def waitS (s : PS) (q : Nat) : PS:=if s.waits q then s else { s with waits:=upd s.waits q true,waiting:=s.waiting ++ [q] }
theorem waitS_same (s : PS) (q : Nat) : (waitS s q).of = s.of /\ (waitS s q).rows = s.rows /\ (waitS s q).nr = s.nr /\ (waitS s q).loc = s.loc:=by
 unfold waitS
 split <;> exact ⟨rfl,rfl,rfl,rfl⟩
theorem waitS_here (s : PS) (q : Nat) : (waitS s q).waits q = true:=by
 unfold waitS
 split
 ·assumption
 ·exact upd_same _ _ _
theorem waitS_more {s : PS} {q p : Nat} (h : s.waits p = true) : (waitS s q).waits p = true:=by
 unfold waitS
 split
 ·exact h
 ·show upd s.waits q true p = true
  unfold upd
  split
  ·rfl
  ·exact h
def waitOne (s : PS) (d : Nat × Nat) : PS:=if s.waits d.1 || decide ((s.rows d.2).length <= (s.rows d.1).length) then waitS s d.2 else waitS s d.1
def waitAll (s : PS) (dv : List (Nat × Nat)) : PS:=dv.foldl waitOne s
theorem waitOne_more {s : PS} {d : Nat × Nat} {p : Nat} (h : s.waits p = true) : (waitOne s d).waits p = true:=by
 unfold waitOne;split <;> exact waitS_more h
theorem waitOne_same (s : PS) (d : Nat × Nat) : (waitOne s d).of = s.of /\ (waitOne s d).rows = s.rows /\ (waitOne s d).nr = s.nr /\ (waitOne s d).loc = s.loc:=by
 unfold waitOne;split <;> exact waitS_same _ _
theorem waitAll_more : ∀ (dv : List (Nat × Nat)) {s : PS} {p : Nat},s.waits p = true -> (waitAll s dv).waits p = true
 | [],_,_,h=>h
 | _ :: dv,_,_,h=>waitAll_more dv (waitOne_more h)
theorem waitAll_same : ∀ (dv : List (Nat × Nat)) (s : PS),(waitAll s dv).of = s.of /\ (waitAll s dv).rows = s.rows /\ (waitAll s dv).nr = s.nr /\ (waitAll s dv).loc = s.loc
 | [],_=>⟨rfl,rfl,rfl,rfl⟩
 | d :: dv,s=>by
   obtain ⟨a1,a2,a3,a4⟩:=waitAll_same dv (waitOne s d)
   obtain ⟨b1,b2,b3,b4⟩:=waitOne_same s d
   exact ⟨a1.trans b1,a2.trans b2,a3.trans b3,a4.trans b4⟩
theorem waitAll_pairs : ∀ (dv : List (Nat × Nat)) (s : PS) (q t : Nat),(q,t) ∈ dv -> ((waitAll s dv).waits q = true \/ (waitAll s dv).waits t = true) /\ (s.waits q = true -> (waitAll s dv).waits t = true)
 | [],_,_,_,h=>by cases h
 | d :: dv,s,q,t,h=>by
   rcases List.mem_cons.1 h with e | e
   ·subst e
    show ((waitAll (waitOne s (q,t)) dv).waits q = true \/ (waitAll (waitOne s (q,t)) dv).waits t = true) /\ (s.waits q = true -> (waitAll (waitOne s (q,t)) dv).waits t = true)
    unfold waitOne
    by_cases c : (s.waits (q,t).1 || decide ((s.rows (q,t).2).length <= (s.rows (q,t).1).length)) = true
    ·rw [if_pos c]
     have:=waitAll_more dv (waitS_here s t)
     exact ⟨Or.inr this,fun _=>this⟩
    ·rw [if_neg c]
     have:=waitAll_more dv (waitS_here s q)
     refine ⟨Or.inl this,fun w=>?_⟩
     exfalso
     apply c
     show (s.waits q || _) = true
     rw [w];rfl
   ·obtain ⟨a,b⟩:=waitAll_pairs dv (waitOne s d) q t e
    exact ⟨a,fun w=>b (waitOne_more w)⟩
theorem split_ok {N : Nat} {s0 : PS} (h0 : Wf N s0) {xs : List Nat} {st : SpS} (hx : ∀ x,x ∈ xs -> x < N) (hd : xs.Nodup) (h : SI N s0 (leaves s0 xs) xs st) :
  Split N s0.of (waitAll st.s st.dv).of (fun q=>s0.waits q = true) (fun q=>(waitAll st.s st.dv).waits q = true) (fun x=>x ∈ xs):=by
 have so:=(waitAll_same st.dv st.s).1
 have sp:=split_part h0 hx hd h
 have key : ∀ x,x < N -> st.s.of x = s0.of x \/ (s0.of x,st.s.of x) ∈ st.dv:=fun x hxN=>by
  rw [h.of_ x hxN]
  by_cases e : x ∈ xs
  ·rw [if_pos e]
   obtain ⟨t,ht⟩:=Option.isSome_iff_exists.1 (h.seen x e)
   rw [ht]
   by_cases c : t = s0.of x
   ·exact Or.inl c
   ·exact Or.inr ((h.dv _ _).2 ⟨ht,c⟩)
  ·rw [if_neg e];exact Or.inl rfl
 refine ⟨fun x y hxN hyN=>by rw [so];exact sp x y hxN hyN,fun x hxN w=>?_,fun x y hxN hyN e ne=>?_⟩
 ·have w' : st.s.waits (s0.of x) = true:=by rw [h.waits _ (h0.lt x hxN)];exact w
  show (waitAll st.s st.dv).waits ((waitAll st.s st.dv).of x) = true
  rw [so]
  rcases key x hxN with c | c
  ·rw [c];exact waitAll_more _ w'
  ·exact (waitAll_pairs st.dv st.s _ _ c).2 w'
 ·show (waitAll st.s st.dv).waits ((waitAll st.s st.dv).of x) = true \/ (waitAll st.s st.dv).waits ((waitAll st.s st.dv).of y) = true
  rw [so] at ne ⊢
  rcases key x hxN with c | c
  ·rcases key y hyN with d | d
   ·rw [c,d] at ne;exact absurd e ne
   ·rw [c,e];exact (waitAll_pairs st.dv st.s _ _ d).1
  ·rcases key y hyN with d | d
   ·rw [d,<- e];exact ((waitAll_pairs st.dv st.s _ _ c).1).symm
   ·have h1:=((h.dv _ _).1 c).1
    have h2:=((h.dv _ _).1 d).1
    rw [e,h2] at h1
    exact absurd (Option.some.inj h1).symm ne
theorem wait_wf {N : Nat} {s : PS} (h : Wf N s) (dv : List (Nat × Nat)) : Wf N (waitAll s dv):=by
 obtain ⟨a1,a2,a3,a4⟩:=waitAll_same dv s
 exact ⟨fun x hx=>by rw [a1,a3];exact h.lt x hx,fun x hx=>by rw [a1,a2,a4];exact h.here x hx,fun q i x hq hi=>by rw [a1,a4];rw [a3] at hq;rw [a2] at hi;exact h.row q i x hq hi⟩
def cg (s : PS) (es : Nat -> Nat × Nat) (k q : Nat) : Option Nat:=if cnt s es k q = 0 then none else some (cnt s es k q)
theorem cg_get (s : PS) (es : Nat -> Nat × Nat) (k q : Nat) : (cg s es k q).getD 0 = cnt s es k q:=by
 unfold cg;split <;> simp_all
theorem cg_succ (s : PS) (es : Nat -> Nat × Nat) (k : Nat) : cg s es (k + 1) = upd (cg s es k) (s.of (es k).2) (some (cnt s es k (s.of (es k).2) + 1)):=by
 funext q
 unfold cg upd
 rw [cnt_succ]
 by_cases e : q = s.of (es k).2
 ·rw [if_pos e,if_pos e.symm,e];simp
 ·have e' : ¬ s.of (es k).2 = q:=fun c=>e c.symm
  simp [e,e']
def nodesOf (es : Nat -> Nat × Nat) (j : Nat) : List Nat:=(List.range j).map fun i=>(es i).2
theorem nodes_succ (es : Nat -> Nat × Nat) (j : Nat) : nodesOf es (j + 1) = nodesOf es j ++ [(es j).2]:=by
 unfold nodesOf;rw [List.range_succ,List.map_append];rfl
theorem nodes_mem {es : Nat -> Nat × Nat} {j x : Nat} (h : x ∈ nodesOf es j) : ∃ i,i < j /\ (es i).2 = x:=by
 unfold nodesOf at h
 obtain ⟨i,h1,h2⟩:=List.mem_map.1 h
 exact ⟨i,List.mem_range.1 h1,h2⟩
theorem nodes_all {es : Nat -> Nat × Nat} {N m j : Nat} (hf : ∀ i,i < m -> (es i).2 < N) (hj : j <= m) : ∀ x,x ∈ nodesOf es j -> x < N:=fun x hx=>by
 obtain ⟨i,h1,rfl⟩:=nodes_mem hx
 exact hf i (by omega)
theorem nodes_pre {es : Nat -> Nat × Nat} {m : Nat} (hd : (nodesOf es m).Nodup) : ∀ d j,j + d = m -> (nodesOf es j).Nodup
 | 0,j,e=>by subst e;exact hd
 | d + 1,j,e=>by
   have:=nodes_pre hd d (j + 1) (by omega)
   rw [nodes_succ] at this
   exact (List.nodup_append.1 this).1
theorem cnt_leaves (s : PS) (es : Nat -> Nat × Nat) (m : Nat) : cnt s es m = leaves s (nodesOf es m):=by
 funext q;rw [cnt_all];rfl
def stAt (s : PS) (es : Nat -> Nat × Nat) (m j : Nat) : SpS:=splAll (cnt s es m) ⟨s,fun _=>none,[]⟩ (nodesOf es j)
theorem stAt_succ (s : PS) (es : Nat -> Nat × Nat) (m j : Nat) : stAt s es m (j + 1) = goes (settle (cnt s es m) (stAt s es m j) ((stAt s es m j).s.of (es j).2)) (es j).2:=by
 unfold stAt
 rw [nodes_succ]
 unfold splAll
 rw [List.foldl_append];rfl
theorem stAt_si {N : Nat} {s : PS} {es : Nat -> Nat × Nat} {m j : Nat} (hW : Wf N s) (hf : ∀ i,i < m -> (es i).2 < N) (hd : (nodesOf es m).Nodup) (hj : j <= m) : SI N s (cnt s es m) (nodesOf es j) (stAt s es m j):=by
 have:=si_all (lv:=cnt s es m) hW (nodesOf es j) [] _ (si_start hW) (nodes_all hf hj) (by rw [List.nil_append];exact nodes_pre hd (m - j) j (by omega))
 rw [List.nil_append] at this
 exact this
theorem stAt_of {N : Nat} {s : PS} {es : Nat -> Nat × Nat} {m j : Nat} (hW : Wf N s) (hf : ∀ i,i < m -> (es i).2 < N) (hd : (nodesOf es m).Nodup) (hj : j < m) : (stAt s es m j).s.of (es j).2 = s.of (es j).2:=by
 have h:=stAt_si hW hf hd (Nat.le_of_lt hj)
 rw [h.of_ _ (hf j hj),if_neg]
 intro c
 have:=nodes_pre hd (m - (j + 1)) (j + 1) (by omega)
 rw [nodes_succ] at this
 exact (List.nodup_append.1 this).2.2 _ c _ (List.mem_singleton.2 rfl) rfl
theorem settle_nr (lv : Nat -> Nat) (st : SpS) (q : Nat) : (settle lv st q).s.nr <= st.s.nr + 1:=by
 unfold settle
 split
 ·omega
 ·split
  ·exact Nat.le_refl _
  ·exact Nat.le_succ _
theorem goes_nr (st : SpS) (x : Nat) : (goes st x).s.nr = st.s.nr:=by
 unfold goes
 split <;> rfl
theorem stAt_nr (s : PS) (es : Nat -> Nat × Nat) (m : Nat) : ∀ j,(stAt s es m j).s.nr <= s.nr + j
 | 0=>Nat.le_refl _
 | j + 1=>by
   have:=stAt_nr s es m j
   rw [stAt_succ,goes_nr]
   have:=settle_nr (cnt s es m) (stAt s es m j) ((stAt s es m j).s.of (es j).2)
   omega
theorem row_len {N : Nat} {s : PS} (h : Wf N s) {q : Nat} (hq : q < s.nr) : (s.rows q).length <= N:=by
 have:=len_le (s.rows q) (List.range N) (row_nodup h hq) (fun a ha=>by
  obtain ⟨i,hi⟩:=List.mem_iff_getElem?.1 ha
  exact List.mem_range.2 (h.row q i a hq hi).1)
 rwa [List.length_range] at this
theorem way_stay {lv : Nat -> Nat} {st : SpS} {x old : Nat} (ho : st.s.of x = old) (hn : st.np old = some old) : goes (settle lv st old) x = st:=by
 have e : settle lv st old = st:=by unfold settle;rw [hn];rfl
 rw [e];unfold goes;rw [ho,hn];exact if_pos rfl
theorem way_go {lv : Nat -> Nat} {st : SpS} {x old t : Nat} (ho : st.s.of x = old) (hn : st.np old = some t) (ht : t ≠ old) : goes (settle lv st old) x = ⟨putS (takeS st.s x ((st.s.rows old).getLastD 0)) x t,st.np,st.dv⟩:=by
 have e : settle lv st old = st:=by unfold settle;rw [hn];rfl
 rw [e];unfold goes;rw [ho,hn];exact if_neg ht
theorem way_all {lv : Nat -> Nat} {st : SpS} {x old : Nat} (ho : st.s.of x = old) (hn : st.np old = none) (hl : ¬ lv old < (st.s.rows old).length) : goes (settle lv st old) x = ⟨st.s,upd st.np old (some old),st.dv⟩:=by
 have e : settle lv st old = ⟨st.s,upd st.np old (some old),st.dv⟩:=by
  unfold settle;rw [hn,if_neg (by simp),if_neg hl]
 rw [e];unfold goes
 show (if (upd st.np old (some old) (st.s.of x)).getD (st.s.of x) = st.s.of x then _ else _) = _
 rw [ho,upd_same];exact if_pos rfl
theorem way_new {lv : Nat -> Nat} {st : SpS} {x old : Nat} (ho : st.s.of x = old) (hn : st.np old = none) (hl : lv old < (st.s.rows old).length) (hq : old < st.s.nr) :
  goes (settle lv st old) x = ⟨putS (takeS (addS' st.s) x ((st.s.rows old).getLastD 0)) x st.s.nr,upd st.np old (some st.s.nr),st.dv ++ [(old,st.s.nr)]⟩:=by
 have e : settle lv st old = ⟨addS' st.s,upd st.np old (some st.s.nr),st.dv ++ [(old,st.s.nr)]⟩:=by
  unfold settle;rw [hn,if_neg (by simp),if_pos hl]
 have eo : (addS' st.s).of x = old:=ho
 have er : (addS' st.s).rows old = st.s.rows old:=upd_other _ _ (by omega)
 rw [e];unfold goes
 show (if (upd st.np old (some st.s.nr) ((addS' st.s).of x)).getD ((addS' st.s).of x) = (addS' st.s).of x then _ else (⟨putS (takeS (addS' st.s) x (((addS' st.s).rows ((addS' st.s).of x)).getLastD 0)) x ((upd st.np old (some st.s.nr) ((addS' st.s).of x)).getD ((addS' st.s).of x)),upd st.np old (some st.s.nr),st.dv ++ [(old,st.s.nr)]⟩ : SpS)) = _
 rw [eo,er,upd_same]
 exact if_neg (by show ¬ st.s.nr = old;omega)
theorem last_node {N : Nat} {s : PS} (h : Wf N s) {x : Nat} (hx : x < N) : ∃ L,(s.rows (s.of x)).length = L + 1 /\ s.loc x < L + 1 /\ (s.rows (s.of x))[L]? = some ((s.rows (s.of x)).getLastD 0) /\ (s.rows (s.of x)).getLastD 0 < N:=by
 have h0:=h.here x hx
 obtain ⟨L,h1,h2⟩:=last_of h0
 have h3:=(List.getElem?_eq_some_iff.1 h0).1
 exact ⟨L,h1,by omega,h2,(h.row _ _ _ (h.lt x hx) h2).1⟩
end Go.Proofs.YtpbpbppimkeodaaGreatDoor
namespace Go.Proofs.YtpbpbppimkeodaaGreatDoor
open Go.RowKit Go.Maps
def Off (blk : Nat -> Option Nat) (b : Nat) : Prop:=∀ i,blk i ≠ some b
theorem Fr.off {base : Nat} {w w' : World} {blk blk' : Nat -> Option Nat} (h : Fr base w w' blk blk') {b : Nat} (hb : b < w.heap.size) (ho : Off blk b) : Off blk' b:=fun i e=>by
 rcases h.fresh i b e with ⟨j,q⟩ | q
 ·exact ho j q
 ·omega
theorem Fr.of_below {base : Nat} {w w' : World} (blk : Nat -> Option Nat) (hb : base <= w.heap.size) (h : Below w.heap.size w w') : Fr base w w' blk blk:=
 ⟨⟨h.os,h.tape,h.output,h.size,fun k hk=>h.block k (by omega)⟩,fun k hk _=>h.block k hk,fun i x e=>Or.inl ⟨i,e⟩⟩
theorem Fr.touch {base : Nat} {w w1 w2 : World} {blk blk1 : Nat -> Option Nat} {row : Option Nat} (h : Fr base w w1 blk blk1) (hb : base <= w.heap.size) (g : w1.grownBy w2 row) (hr : ∀ b,row = some b -> w.heap.size <= b) : Fr base w w2 blk blk1:=by
 have hs:=h.below.size
 have ne : ∀ k,k < w.heap.size -> some k ≠ row:=fun k hk e=>by have:=hr k e.symm;omega
 exact ⟨⟨g.os.trans h.below.os,g.tape.trans h.below.tape,g.output.trans h.below.output,Nat.le_trans hs g.size,fun k hk=>(g.block k (by omega) (ne k (by omega))).trans (h.below.block k hk)⟩,
  fun k hk hn=>(g.block k (by omega) (ne k hk)).trans (h.frame k hk hn),h.fresh⟩
theorem Pt.grown {w w' : World} {base pb bo ba N : Nat} {rv wv qv : Value} {rvs : Nat -> Value} {s : PS} {row : Option Nat} (h : Pt w base pb bo ba N rv wv qv rvs s) (g : w.grownBy w' row) (ho : ∀ b,row = some b -> Off (pblk pb bo ba rv wv qv rvs s.nr) b) : Pt w' base pb bo ba N rv wv qv rvs s:=
 h.later g.size (fun i x e=>g.block x (h.blk_lt i x e).2 (fun q=>ho x q.symm i e))
theorem Mp.grown {w w' : World} {b n : Nat} {D : DataW Unit} {g : Nat -> Option Nat} {row : Option Nat} (h : Mp w b n D g) (hg : w.grownBy w' row) (hne : row ≠ some b) : Mp w' b n D g:=
 h.later (hg.block b h.lt (fun e=>hne e.symm))
structure Held (w wr : World) (base pb bo ba N : Nat) (blk0 : Nat -> Option Nat) (lb nl : Nat) (Dl : DataW Unit) (lv : Nat -> Option Nat) (nb n2 : Nat) (D2 : DataW Unit) (dvv rv wv qv : Value) (rvs : Nat -> Value) (st : SpS) : Prop where
 pt : Pt wr base pb bo ba N rv wv qv rvs st.s
 lv_ : Mp wr lb nl Dl lv
 np_ : Mp wr nb n2 D2 st.np
 dv_ : wr.ownsRow (nb + 1) 69 2 dvv st.dv.length (pcells st.dv)
 offL : Off (pblk pb bo ba rv wv qv rvs st.s.nr) lb
 offN : Off (pblk pb bo ba rv wv qv rvs st.s.nr) nb
 offD : ∀ x,dvv.ownBlock = some x -> Off (pblk pb bo ba rv wv qv rvs st.s.nr) x
 at_ : w.heap.size <= lb /\ lb < nb
 base_ : base <= w.heap.size
 fr : Fr base w wr blk0 (pblk pb bo ba rv wv qv rvs st.s.nr)
section
variable {w wr w' : World} {base pb bo ba N : Nat} {blk0 : Nat -> Option Nat} {lb nl : Nat} {Dl : DataW Unit} {lv : Nat -> Option Nat} {nb n2 : Nat} {D2 : DataW Unit} {dvv rv wv qv : Value} {rvs : Nat -> Value} {st : SpS}
theorem Held.below (h : Held w wr base pb bo ba N blk0 lb nl Dl lv nb n2 D2 dvv rv wv qv rvs st) (hb : Below wr.heap.size wr w') : Held w w' base pb bo ba N blk0 lb nl Dl lv nb n2 D2 dvv rv wv qv rvs st:=
 ⟨h.pt.below hb,h.lv_.later (hb.block _ h.lv_.lt),h.np_.later (hb.block _ h.np_.lt),own_block h.dv_ (fun k e=>hb.block k (h.dv_.lt k e.symm).2),h.offL,h.offN,h.offD,h.at_,h.base_,
  h.fr.trans (Fr.of_below _ h.pt.big.2.2.2 hb)⟩
theorem Held.call {rv' wv' qv' : Value} {rvs' : Nat -> Value} {s' : PS} (h : Held w wr base pb bo ba N blk0 lb nl Dl lv nb n2 D2 dvv rv wv qv rvs st) (hp : Pt w' base pb bo ba N rv' wv' qv' rvs' s') (hf : Fr base wr w' (pblk pb bo ba rv wv qv rvs st.s.nr) (pblk pb bo ba rv' wv' qv' rvs' s'.nr)) :
  Held w w' base pb bo ba N blk0 lb nl Dl lv nb n2 D2 dvv rv' wv' qv' rvs' ⟨s',st.np,st.dv⟩:=
 ⟨hp,h.lv_.later (hf.frame _ h.lv_.lt h.offL),h.np_.later (hf.frame _ h.np_.lt h.offN),own_block h.dv_ (fun k e=>hf.frame k (h.dv_.lt k e.symm).2 (h.offD k e.symm)),
  hf.off h.lv_.lt h.offL,hf.off h.np_.lt h.offN,fun x e=>hf.off (h.dv_.lt x e).2 (h.offD x e),h.at_,h.base_,h.fr.trans hf⟩
theorem Held.wrote {D3 : DataW Unit} {n3 : Nat} {np' : Nat -> Option Nat} (h : Held w wr base pb bo ba N blk0 lb nl Dl lv nb n2 D2 dvv rv wv qv rvs st) (g : wr.grownBy w' (some nb)) (hm : Mp w' nb n3 D3 np') :
  Held w w' base pb bo ba N blk0 lb nl Dl lv nb n3 D3 dvv rv wv qv rvs ⟨st.s,np',st.dv⟩:=
 ⟨h.pt.grown g (fun b e=>by cases e;exact h.offN),h.lv_.grown g (fun e=>by have:=h.at_;simp at e;omega),hm,own_kept h.dv_ g (fun k e=>by cases e;omega),h.offL,h.offN,h.offD,h.at_,h.base_,
  h.fr.touch h.base_ g (fun b e=>by have:=h.at_;cases e;omega)⟩
theorem Held.longer {dvv' : Value} {dv' : List (Nat × Nat)} (h : Held w wr base pb bo ba N blk0 lb nl Dl lv nb n2 D2 dvv rv wv qv rvs st) (g : wr.grownBy w' dvv.ownBlock) (ho : w'.ownsRow (nb + 1) 69 2 dvv' dv'.length (pcells dv')) (hx : ∀ x,dvv'.ownBlock = some x -> dvv.ownBlock = some x \/ wr.heap.size <= x) :
  Held w w' base pb bo ba N blk0 lb nl Dl lv nb n2 D2 dvv' rv wv qv rvs ⟨st.s,st.np,dv'⟩:=
 ⟨h.pt.grown g (fun b e=>h.offD b e),h.lv_.grown g (fun e=>by have:=h.at_;have:=(h.dv_.lt _ e).1;omega),h.np_.grown g (fun e=>by have:=(h.dv_.lt _ e).1;omega),ho,h.offL,h.offN,fun x e i q=>by
   rcases hx x e with c | c
   ·exact h.offD x c i q
   ·have:=(h.pt.blk_lt i x q).2;omega,h.at_,h.base_,
  h.fr.touch h.base_ g (fun b e=>by have:=h.at_;have:=(h.dv_.lt _ e).1;omega)⟩
end
end Go.Proofs.YtpbpbppimkeodaaGreatDoor
namespace Go.Proofs.YtpbpbppimkeodaaGreatDoor
def Full (N : Nat) (s : PS) : Prop:=∀ q,q < s.nr -> ∃ x,x < N /\ s.of x = q
theorem full_le {N : Nat} {s : PS} (h : Full N s) : s.nr <= N:=by
 have:=len_le (List.range s.nr) ((List.range N).map s.of) List.nodup_range (fun q hq=>by
  obtain ⟨x,hx,e⟩:=h q (List.mem_range.1 hq)
  exact List.mem_map.2 ⟨x,List.mem_range.2 hx,e⟩)
 simpa using this
structure Sett (s0 : PS) (ys : List Nat) (st : SpS) : Prop where
 new : ∀ t,s0.nr <= t -> t < st.s.nr -> ∃ q,st.np q = some t
 by_ : ∀ q t,st.np q = some t -> ∃ y,y ∈ ys /\ s0.of y = q
theorem goes_np (st : SpS) (x : Nat) : (goes st x).np = st.np /\ (goes st x).s.nr = st.s.nr /\ (goes st x).s.waiting = st.s.waiting /\ (goes st x).dv = st.dv:=by
 unfold goes
 split
 ·exact ⟨rfl,rfl,rfl,rfl⟩
 ·exact ⟨rfl,rfl,rfl,rfl⟩
theorem sett_step {s0 : PS} {lv : Nat -> Nat} {ys : List Nat} {st : SpS} (h : Sett s0 ys st) (x : Nat) : Sett s0 (ys ++ [x]) (goes (settle lv st (s0.of x)) x):=by
 obtain ⟨e1,e2,_,_⟩:=goes_np (settle lv st (s0.of x)) x
 refine ⟨fun t h1 h2=>?_,fun q t e=>?_⟩
 ·rw [e1]
  rw [e2] at h2
  revert h2
  unfold settle
  by_cases a : (st.np (s0.of x)).isSome = true
  ·rw [if_pos a];exact h.new t h1
  ·rw [if_neg a]
   have hn : st.np (s0.of x) = none:=by simpa using a
   by_cases b : lv (s0.of x) < (st.s.rows (s0.of x)).length
   ·rw [if_pos b]
    intro h2
    have h2' : t < st.s.nr + 1:=h2
    by_cases c : t = st.s.nr
    ·exact ⟨s0.of x,by rw [c];exact upd_same _ _ _⟩
    ·obtain ⟨q,hq⟩:=h.new t h1 (by omega)
     exact ⟨q,by show upd st.np _ _ q = _;rw [upd_other _ _ (fun e=>by rw [e,hn] at hq;cases hq)];exact hq⟩
   ·rw [if_neg b]
    intro h2
    obtain ⟨q,hq⟩:=h.new t h1 h2
    exact ⟨q,by show upd st.np _ _ q = _;rw [upd_other _ _ (fun e=>by rw [e,hn] at hq;cases hq)];exact hq⟩
 ·rw [e1] at e
  by_cases c : q = s0.of x
  ·exact ⟨x,by simp,c.symm⟩
  ·have : st.np q = some t:=by
    revert e
    unfold settle
    split
    ·exact id
    ·split
     ·intro e
      have e' : upd st.np (s0.of x) (some st.s.nr) q = some t:=e
      rw [upd_other _ _ c] at e';exact e'
     ·intro e
      have e' : upd st.np (s0.of x) (some (s0.of x)) q = some t:=e
      rw [upd_other _ _ c] at e';exact e'
   obtain ⟨y,hy,ey⟩:=h.by_ q t this
   exact ⟨y,List.mem_append.2 (Or.inl hy),ey⟩
theorem sett_all {N : Nat} {s : PS} {es : Nat -> Nat × Nat} {m : Nat} (hW : Wf N s) (hf : ∀ i,i < m -> (es i).2 < N) (hd : (nodesOf es m).Nodup) : ∀ j,j <= m -> Sett s (nodesOf es j) (stAt s es m j)
 | 0,_=>⟨fun t h1 h2=>by
   have h2' : t < s.nr:=h2
   omega,fun q t e=>by cases e⟩
 | j + 1,h=>by
   have:=sett_all hW hf hd j (by omega)
   rw [stAt_succ,nodes_succ,stAt_of hW hf hd (by omega)]
   exact sett_step this _
theorem full_split {N : Nat} {s : PS} {es : Nat -> Nat × Nat} {m : Nat} (hW : Wf N s) (hF : Full N s) (hf : ∀ i,i < m -> (es i).2 < N) (hd : (nodesOf es m).Nodup) : Full N (waitAll (stAt s es m m).s (stAt s es m m).dv):=by
 obtain ⟨a1,_,a3,_⟩:=waitAll_same (stAt s es m m).dv (stAt s es m m).s
 have h:=stAt_si hW hf hd (Nat.le_refl m)
 have g:=sett_all hW hf hd m (Nat.le_refl m)
 intro q hq
 rw [a3] at hq
 rw [a1]
 by_cases c : q < s.nr
 ·obtain ⟨x,hx,ex⟩:=hF q c
  cases hn : (stAt s es m m).np q with
  | none=>
    refine ⟨x,hx,?_⟩
    rw [h.of_ x hx,if_neg (fun e=>?_)]
    ·exact ex
    ·have:=h.seen x e
     rw [ex,hn] at this;cases this
  | some t=>
    by_cases ht : t = q
    ·subst ht
     refine ⟨x,hx,?_⟩
     rw [h.of_ x hx,ex,hn]
     simp
    ·have hl:=(h.np q t hn).2.2.1 ht
     rw [cnt_leaves] at hl
     by_cases all : ∀ y,y ∈ s.rows q -> y ∈ nodesOf es m
     ·exfalso
      have:=len_le (s.rows q) ((nodesOf es m).filter fun z=>s.of z == q) (row_nodup hW c) (fun a ha=>by
       obtain ⟨i,hi⟩:=List.getElem?_of_mem ha
       obtain ⟨r1,r2,_⟩:=hW.row q i a c hi
       exact List.mem_filter.2 ⟨all a ha,by simp [r2]⟩)
      unfold leaves at hl
      omega
     ·simp only [Classical.not_forall] at all
      obtain ⟨y,hy,hny⟩:=all
      obtain ⟨i,hi⟩:=List.getElem?_of_mem hy
      obtain ⟨r1,r2,_⟩:=hW.row q i y c hi
      exact ⟨y,r1,by rw [h.of_ y r1,if_neg hny];exact r2⟩
 ·obtain ⟨p,hp⟩:=g.new q (by omega) hq
  obtain ⟨y,hy,ey⟩:=g.by_ p q hp
  have hyN:=nodes_all hf (Nat.le_refl m) y hy
  exact ⟨y,hyN,by rw [h.of_ y hyN,if_pos hy,ey,hp];rfl⟩
structure Wq (s : PS) : Prop where
 lt : ∀ q,q ∈ s.waiting -> q < s.nr
 iff : ∀ q,q < s.nr -> (s.waits q = true ↔ q ∈ s.waiting)
 nodup : s.waiting.Nodup
theorem wq_wait {s : PS} (h : Wq s) {q : Nat} (hq : q < s.nr) : Wq (waitS s q):=by
 unfold waitS
 by_cases c : s.waits q = true
 ·rw [if_pos c];exact h
 ·rw [if_neg c]
  have hn : q ∉ s.waiting:=fun e=>c ((h.iff q hq).2 e)
  refine ⟨fun p hp=>?_,fun p hp=>?_,?_⟩
  ·rcases List.mem_append.1 hp with e | e
   ·exact h.lt p e
   ·have : p = q:=by simpa using e
    rw [this];exact hq
  ·show upd s.waits q true p = true ↔ p ∈ s.waiting ++ [q]
   by_cases e : p = q
   ·subst e;rw [upd_same];simp
   ·rw [upd_other _ _ e,h.iff p hp]
    simp [e]
  ·show (s.waiting ++ [q]).Nodup
   rw [List.nodup_append]
   refine ⟨h.nodup,by simp,fun a ha b hb e=>?_⟩
   have : b = q:=by simpa using hb
   exact hn (by rw [<- this,<- e];exact ha)
theorem waitS_len (s : PS) (q : Nat) : (waitS s q).waiting.length <= s.waiting.length + 1:=by
 unfold waitS
 split
 ·omega
 ·show (s.waiting ++ [q]).length <= _;simp
theorem waitOne_len (s : PS) (d : Nat × Nat) : (waitOne s d).waiting.length <= s.waiting.length + 1:=by
 unfold waitOne;split <;> exact waitS_len _ _
theorem waitAll_len : ∀ (dv : List (Nat × Nat)) (s : PS),(waitAll s dv).waiting.length <= s.waiting.length + dv.length
 | [],_=>Nat.le_refl _
 | d :: dv,s=>by
   have h1:=waitAll_len dv (waitOne s d)
   have h2:=waitOne_len s d
   show (waitAll (waitOne s d) dv).waiting.length <= _
   simp only [List.length_cons]
   omega
theorem wq_waitOne {s : PS} (h : Wq s) {d : Nat × Nat} (h1 : d.1 < s.nr) (h2 : d.2 < s.nr) : Wq (waitOne s d):=by
 unfold waitOne;split
 ·exact wq_wait h h2
 ·exact wq_wait h h1
theorem wq_waitAll : ∀ (dv : List (Nat × Nat)) {s : PS},Wq s -> (∀ d,d ∈ dv -> d.1 < s.nr /\ d.2 < s.nr) -> Wq (waitAll s dv)
 | [],_,h,_=>h
 | d :: dv,s,h,hd=>by
   have h0:=hd d (by simp)
   refine wq_waitAll dv (wq_waitOne h h0.1 h0.2) (fun e he=>?_)
   rw [(waitOne_same s d).2.2.1]
   exact hd e (List.mem_cons_of_mem _ he)
end Go.Proofs.YtpbpbppimkeodaaGreatDoor
namespace Go.Proofs.YtpbpbppimkeodaaGreatDoor
open Go.RowKit Go.Maps
structure Into (w : World) (base bi N : Nat) (evs : Nat -> Value) (E : Nat -> List (Nat × Nat)) : Prop where
 row : w.rowIs bi 117 N evs
 inner : ∀ k,k < N -> w.ownsRow base 144 2 (evs k) (E k).length (pcells (E k))
 dis : ∀ k l x,k < N -> l < N -> (evs k).ownBlock = some x -> (evs l).ownBlock = some x -> k = l
 far : ∀ k x,k < N -> (evs k).ownBlock = some x -> x ≠ bi
 big : base <= bi /\ base <= w.heap.size
theorem Into.below {w w' : World} {base bi N : Nat} {evs : Nat -> Value} {E : Nat -> List (Nat × Nat)} (h : Into w base bi N evs E) (hb : Below w.heap.size w w') : Into w' base bi N evs E:=
 ⟨h.row.of_block (hb.block _ h.row.lt),fun k hk=>own_block (h.inner k hk) (fun x e=>hb.block x ((h.inner k hk).lt x e.symm).2),h.dis,h.far,⟨h.big.1,Nat.le_trans h.big.2 hb.size⟩⟩
theorem Into.put {w w3 : World} {base bi N cap gg cap3 k a b : Nat} {oa : Option Addr} {evs : Nat -> Value} {E : Nat -> List (Nat × Nat)} {o2 : Obj} (h : Into w base bi N evs E) (hk : k < N) (hv : evs k = .slice oa (E k).length cap)
  (hown3 : w3.ownsRow base 144 2 (.slice (some ⟨gg,0,none⟩) ((E k).length + 1) cap3) ((E k).length + 1) (pcells (E k) ++ [.int .i64 (a : Int),.int .i64 (b : Int)]))
  (hg3 : (w.alloc o2).grownBy w3 (Value.slice oa (E k).length cap).ownBlock) (hat : (Value.slice oa (E k).length cap).ownBlock = some gg \/ gg = w.heap.size + 1) :
  Into (w3.setCell ⟨bi,k,none⟩ (.slice (some ⟨gg,0,none⟩) ((E k).length + 1) cap3)) base bi N (upd evs k (.slice (some ⟨gg,0,none⟩) ((E k).length + 1) cap3)) (upd E k (E k ++ [(a,b)])) /\ Below base w (w3.setCell ⟨bi,k,none⟩ (.slice (some ⟨gg,0,none⟩) ((E k).length + 1) cap3)):=by
 have z3:=hg3.size
 have e3 : (w.alloc o2).heap.size = w.heap.size + 1:=by simp
 have hbl:=h.row.lt
 have b3 : ∀ x,x < w.heap.size -> some x ≠ (Value.slice oa (E k).length cap).ownBlock -> w3.heap[x]? = w.heap[x]?:=fun x hx hn=>(hg3.block x (by rw [e3];omega) hn).trans (Below.heap_alloc _ _ _ hx)
 have b4 : ∀ x,x ≠ bi -> (w3.setCell ⟨bi,k,none⟩ (.slice (some ⟨gg,0,none⟩) ((E k).length + 1) cap3)).heap[x]? = w3.heap[x]?:=fun x hx=>Below.heap_setCell _ _ _ _ (by show x ≠ bi;exact hx)
 have nbi : some bi ≠ (Value.slice oa (E k).length cap).ownBlock:=fun e=>h.far k bi hk (by rw [hv];exact e.symm) rfl
 have ggb : gg ≠ bi:=fun e=>by
  rcases hat with q | q
  ·exact nbi (by rw [q,e])
  ·omega
 have old : ∀ l x,l < N -> l ≠ k -> (evs l).ownBlock = some x -> x ≠ gg:=fun l x hl hne hx e=>by
  rcases hat with q | q
  ·exact hne (h.dis l k x hl hk hx (by rw [hv,q,e]))
  ·have:=((h.inner l hl).lt x hx).2;omega
 refine ⟨⟨?_,fun l hl=>?_,fun l m x hl hm h1 h2=>?_,fun l x hl hx=>?_,⟨h.big.1,by have:=h.big.2;simp only [World.size_setCell];omega⟩⟩,⟨hg3.os,hg3.tape,hg3.output,by simp only [World.size_setCell];omega,fun x hx=>?_⟩⟩
 ·exact ((h.row.of_block (b3 bi hbl nbi)).set k _).congr (fun i _=>rfl)
 ·by_cases e : l = k
  ·subst e
   rw [upd_same,upd_same,List.length_append,pcells_snoc]
   exact own_block hown3 (fun x e=>b4 x (by
    have : x = gg:=by simpa [Value.ownBlock] using e
    omega))
  ·rw [upd_other evs _ e,upd_other E _ e]
   exact own_block (h.inner l hl) (fun x q=>by
    have hx:=((h.inner l hl).lt x q.symm).2
    rw [b4 x (h.far l x hl q.symm),b3 x hx (fun c=>e (h.dis l k x hl hk q.symm (by rw [hv];exact c.symm)))])
 ·by_cases e1 : l = k
  ·by_cases e2 : m = k
   ·omega
   ·rw [e1,upd_same] at h1
    rw [upd_other evs _ e2] at h2
    have : gg = x:=by simpa [Value.ownBlock] using h1
    exact absurd this.symm (old m x hm e2 h2)
  ·by_cases e2 : m = k
   ·rw [e2,upd_same] at h2
    rw [upd_other evs _ e1] at h1
    have : gg = x:=by simpa [Value.ownBlock] using h2
    exact absurd this.symm (old l x hl e1 h1)
   ·rw [upd_other evs _ e1] at h1
    rw [upd_other evs _ e2] at h2
    exact h.dis l m x hl hm h1 h2
 ·by_cases e : l = k
  ·rw [e,upd_same] at hx
   have : gg = x:=by simpa [Value.ownBlock] using hx
   omega
  ·rw [upd_other evs _ e] at hx
   exact h.far l x hl hx
 ·have h1:=h.big.1
  have h2:=h.big.2
  rw [b4 x (by omega),b3 x (by omega) (fun e=>by have:=((h.inner k hk).lt x (by rw [hv];exact e.symm)).1;omega)]
def edgesTill (G : Nat -> ND) (i j k : Nat) : List (Nat × Nat):=
 ((List.range i).flatMap fun x=>((List.range (G x).nk).filter fun y=>kid (G x) y == k).map fun y=>(y,x)) ++ (((List.range j).filter fun y=>kid (G i) y == k).map fun y=>(y,i))
theorem edgesTill_step (G : Nat -> ND) (i j : Nat) : (fun k=>edgesTill G i (j + 1) k) = upd (fun k=>edgesTill G i j k) (kid (G i) j) (edgesTill G i j (kid (G i) j) ++ [(j,i)]):=by
 funext k
 unfold edgesTill upd
 rw [List.range_succ (n:=j),List.filter_append,List.map_append]
 by_cases e : k = kid (G i) j
 ·subst e
  simp
 ·rw [if_neg e]
  have : (kid (G i) j == k) = false:=by rw [beq_eq_false_iff_ne];exact fun q=>e q.symm
  simp [this]
theorem edgesTill_next (G : Nat -> ND) (i k : Nat) : edgesTill G i (G i).nk k = edgesTill G (i + 1) 0 k:=by
 unfold edgesTill
 rw [List.range_succ (n:=i),List.flatMap_append]
 simp
theorem mem_edges {G : Nat -> ND} {N k j x : Nat} : (j,x) ∈ edgesTill G N 0 k ↔ x < N /\ j < (G x).nk /\ kid (G x) j = k:=by
 unfold edgesTill
 simp [and_assoc]
 constructor
 ·rintro ⟨a,h1,b,h2,h3,rfl,rfl⟩
  exact ⟨h1,h2,h3⟩
 ·rintro ⟨h1,h2,h3⟩
  exact ⟨x,h1,j,h2,h3,rfl,rfl⟩
theorem edgesTill_len {G : Nat -> ND} (k : Nat) : ∀ i j,(∀ x,x < i -> (G x).nk <= 1048576) -> (edgesTill G i j k).length <= i * 1048576 + j
 | 0,j,_=>by
   unfold edgesTill
   simp
   exact Nat.le_trans (List.length_filter_le _ _) (by simp)
 | i + 1,j,h=>by
   have ih:=edgesTill_len k i (G i).nk (fun x hx=>h x (by omega))
   rw [edgesTill_next] at ih
   have hi:=h i (by omega)
   have e : (edgesTill G (i + 1) j k).length <= (edgesTill G (i + 1) 0 k).length + j:=by
    unfold edgesTill
    simp only [List.length_append,List.length_map,List.range_zero,List.filter_nil,List.length_nil,Nat.add_zero]
    have:=List.length_filter_le (fun y=>kid (G (i + 1)) y == k) (List.range j)
    rw [List.length_range] at this
    omega
   omega
theorem Tryz.info117 : (Tryz.prog.info? 117).map (fun i=>(i.zero,i.size,i.bytes)) = some (some (.slice none 0 0),1,24):=by kernel_rfl
theorem Tryz.info144 : (Tryz.prog.info? 144).map (fun i=>(i.zero,i.size,i.bytes)) = some (some (.agg #[.int .i64 0,.int .i64 0]),2,16):=by kernel_rfl
set_option maxHeartbeats 4000000 in
theorem c72 {N b o : Nat} {p : Nat -> NP} {G : Nat -> ND} (ao : Option Addr) (gc : Nat) (w : World) (hK : Kids N G) (hN : N <= 1048576) (hnk : ∀ i,i < N -> (G i).nk <= 1048576) (hG : NodesAt w ao b o N p G) :
  Calls Tryz.prog 82 #[.agg #[.slice ao N gc]] w fun e w'=>∃ bi evs,e = .returned (.slice (some ⟨bi,0,none⟩) N N) /\ Into w' w.heap.size bi N evs (fun k=>edgesTill G N 0 k) /\ Below w.heap.size w w':=by
 have HG : Hid (NodesAt w ao b o N p G):=hG
 have HK : Hid (Kids N G):=hK
 have HNK : Hid (∀ i,i < N -> (G i).nk <= 1048576):=hnk
 have A1:=hG.at_
 have hmk:=run_make_row' (P:=Tryz.prog) 110 117 (.slice none 0 0) 24 Tryz.underlying110 Tryz.info117 rfl .i64 .i64 N (by omega) (by omega)
 clear hG hK hnk
 obtain ⟨i0,hi0,hz0,hz1,hz2⟩:=info_parts Tryz.info144
 go_enter Tryz.func82,Tryz.ntmps82
 go_wp2
 clear hmk
 have ST : Into ((w.alloc (.cells #[.slice ao N gc] 29)).alloc (.cells (madeCells #[.slice none 0 0] N) 117)) w.heap.size (w.heap.size + 1) N (fun _=>.slice none 0 0) (fun k=>edgesTill G 0 0 k):=by
  have R:=World.rowIs_made (w.alloc (.cells #[.slice ao N gc] 29)) (.slice none 0 0) N 117
  simp only [World.size_alloc] at R
  exact ⟨R,fun k _=>World.ownsRow_nil _ _ _ _,fun k l x _ _ h _=>(by cases h),fun k x _ h=>(by cases h),⟨by omega,by simp;omega⟩⟩
 have B0:=bel2 w (.cells #[.slice ao N gc] 29) (.cells (madeCells #[.slice none 0 0] N) 117)
 go_loopw [15] (fun i wr=>∃ (k : Nat) (evs : Nat -> Value),k <= N /\ i = .int .i64 k /\ Into wr w.heap.size (w.heap.size + 1) N evs (fun x=>edgesTill G k 0 x) /\ Below w.heap.size w wr) (fun i _=>N - (intOf i).toNat)
 case atStart=>exact ⟨0,_,Nat.zero_le _,rfl,ST,B0⟩
 case round=>
  rename World=>w0
  obtain ⟨k,evs,hk,rfl,hI,hb⟩:=hrel
  clear ST B0
  by_cases hlt : k < N
  case neg=>
   have hkk : k = N:=by omega
   subst hkk
   have FIN : Hid (Into w0 w.heap.size (w.heap.size + 1) k evs (fun x=>edgesTill G k 0 x) /\ Below w.heap.size w w0):=⟨hI,hb⟩
   clear hI hb
   go_wp2
   go_ret
   exact ⟨w.heap.size + 1,evs,rfl,FIN.out⟩
  have e1:=A1 (by omega)
  subst e1
  have NG:=HG.out.below hb
  have g0:=NG.c0 k hlt
  have g1:=NG.c1 k hlt
  have g2:=NG.c2 k hlt
  have HKD : Hid (IntsAt w0 (p k).a2 (p k).b2 (p k).o2 (G k).nk (fun j=>(kid (G k) j : Int))):=(NG.node k hlt).kids.congr (fun j hj=>by have:=HK.out k hlt j hj;unfold kid;omega)
  have HI0 : Hid (Into w0 w.heap.size (w.heap.size + 1) N evs (fun x=>edgesTill G k 0 x)):=hI
  have hnkk:=HNK.out k hlt
  obtain ⟨a2,ha2⟩ : ∃ a2,(p k).a2 = a2:=⟨_,rfl⟩
  rw [ha2] at g2
  have HA2 : Hid (0 < (G k).nk -> a2 = some ⟨(p k).b2,(p k).o2,none⟩):=by
   have:=HKD.out.at_;rw [ha2] at this;exact this
  clear NG hI ha2
  go_wp2
  have ST : Into (w0.alloc (.cells #[.int .i64 (G k).kind,.slice (p k).a1 (G k).nn (p k).c1,.slice a2 (G k).nk (p k).c2] 48)) w.heap.size (w.heap.size + 1) N evs (fun x=>edgesTill G k 0 x):=HI0.out.below (bel1 _ _)
  have BW : Below w.heap.size w (w0.alloc (.cells #[.int .i64 (G k).kind,.slice (p k).a1 (G k).nn (p k).c1,.slice a2 (G k).nk (p k).c2] 48)):=hb.trans ((bel1 w0 _).mono hb.size)
  clear hb g0 g1 g2
  go_loopw [23] (fun i wr=>∃ (j : Nat) (evs' : Nat -> Value),j <= (G k).nk /\ i = .int .i64 j /\ Into wr w.heap.size (w.heap.size + 1) N evs' (fun x=>edgesTill G k j x) /\ Below w.heap.size w wr) (fun i _=>(G k).nk - (intOf i).toNat)
  case atStart=>exact ⟨0,_,Nat.zero_le _,rfl,ST,BW⟩
  case round=>
   obtain ⟨j,ev2,hj,rfl,hI2,hb2⟩:=hrel
   clear ST BW
   by_cases hjl : j < (G k).nk
   case neg=>
    have hjj : j = (G k).nk:=by omega
    have FIN : Hid (Into wr w.heap.size (w.heap.size + 1) N ev2 (fun x=>edgesTill G (k + 1) 0 x) /\ Below w.heap.size w wr):=by
     refine ⟨?_,hb2⟩
     have e : (fun x=>edgesTill G k j x) = (fun x=>edgesTill G (k + 1) 0 x):=by funext x;rw [hjj];exact edgesTill_next G k x
     rw [<- e];exact hI2
    clear hI2 hb2 hjj
    go_wp2
    go_roundw
    case rel=>exact ⟨k + 1,ev2,by omega,by go_num,FIN.out⟩
    case measure=>simp [intOf];omega
   have hkN : kid (G k) j < N:=HK.out.lt hlt hjl
   obtain ⟨q,hq⟩ : ∃ q,q = kid (G k) j:=⟨_,rfl⟩
   have HQ : Hid (q = kid (G k) j):=hq
   have ea:=HA2.out (by omega)
   subst ea
   have gk : wr.cell? ⟨(p k).b2,(p k).o2 + j,none⟩ = some (.int .i64 (q : Int)):=by
    have h1:=((HG.out.below hb2).node k hlt).kids.cell j hjl
    rw [h1,hq]
    have:=HK.out k hlt j hjl
    congr 2
    unfold kid;omega
   rw [<- hq] at hkN
   obtain ⟨oa,cap,hv⟩:=own_form (hI2.inner q hkN)
   have HV : Hid (ev2 q = .slice oa (edgesTill G k j q).length cap):=hv
   obtain ⟨L,hL⟩ : ∃ L,L = (edgesTill G k j q).length:=⟨_,rfl⟩
   have HL : Hid (L = (edgesTill G k j q).length):=hL
   have hLb : L <= 1099512676352:=by
    have h1:=edgesTill_len (G:=G) q k j (fun x hx=>HNK.out x (by omega))
    have h2 : k * 1048576 <= 1048576 * 1048576:=Nat.mul_le_mul_right _ (by omega)
    omega
   have OWN:=hI2.inner q hkN
   rw [hv,<- hL] at OWN
   have c0 : wr.cell? ⟨w.heap.size + 1,q,none⟩ = some (.slice oa L cap):=by rw [hI2.row.cell hkN,hv,<- hL]
   have c1:=hI2.row.frozen q
   have nbi : some (w.heap.size + 1) ≠ (Value.slice oa L cap).ownBlock:=fun e=>hI2.far q _ hkN (by rw [hv,<- hL];exact e.symm) rfl
   have hbl:=hI2.row.lt
   have hbase : w.heap.size <= wr.heap.size:=hb2.size
   have HI2 : Hid (Into wr w.heap.size (w.heap.size + 1) N ev2 (fun x=>edgesTill G k j x)):=hI2
   have HB2 : Hid (Below w.heap.size w wr):=hb2
   have hqN : (q : Int) < (N : Int):=by omega
   have hjn : (j : Int) < ((G k).nk : Int):=by omega
   clear hq hv hL hI2 hb2
   go_wp2_with (first | (at_builtin;refine wpList_append_lies _ rfl _ _ 117 rfl w.heap.size 144 i0 _ 2 16 Tryz.underlying117 hi0 hz0 hz1 hz2 rfl (by omega) (.slice oa L cap) L (pcells (edgesTill G k j q)) rfl (OWN.alloc _) ⟨wr.heap.size,0,none⟩ 1 1 [.int .i64 (j : Int),.int .i64 (k : Int)] rfl rfl (World.news_of_block (cs:=#[.int .i64 (j : Int),.int .i64 (k : Int)]) (t:=144) (fr:=(0,0)) (heap_alloc_new wr _)) (by simp [Value.oneCell']) (by omega) (by unfold maxLen;omega) (by omega) (by simp;omega) (wr.heap.size + 1) (by simp) ?_;intro gg cap3 w3 hown3 hg3 hat hlt3;have R3 : w3.heap[w.heap.size + 1]? = wr.heap[w.heap.size + 1]?:=(hg3.block _ (by simp;omega) nbi).trans (Below.heap_alloc _ _ _ hbl);have y0 : w3.cell? ⟨w.heap.size + 1,q,none⟩ = some (.slice oa L cap):=(World.cell?_of_block R3).trans c0;have y1 : w3.frozen? ⟨w.heap.size + 1,q,none⟩ = false:=(World.frozen?_of_block R3).trans c1))
   have FIN : Hid (Into (w3.setCell ⟨w.heap.size + 1,q,none⟩ (.slice (some ⟨gg,0,none⟩) (L + 1) cap3)) w.heap.size (w.heap.size + 1) N (upd ev2 q (.slice (some ⟨gg,0,none⟩) (L + 1) cap3)) (fun x=>edgesTill G k (j + 1) x) /\ Below w.heap.size w (w3.setCell ⟨w.heap.size + 1,q,none⟩ (.slice (some ⟨gg,0,none⟩) (L + 1) cap3))):=by
    rw [HL.out] at hown3 hg3 hat ⊢
    have h1:=Into.put (a:=j) (b:=k) (o2:=.cells #[.int .i64 (j : Int),.int .i64 (k : Int)] 144) HI2.out hkN HV.out hown3 ⟨hg3.os,hg3.tape,hg3.output,hg3.size,hg3.block⟩ hat
    have e:=edgesTill_step G k j
    rw [<- HQ.out] at e
    rw [e]
    exact ⟨h1.1,HB2.out.trans h1.2⟩
   clear hown3 hg3 hat R3 y0 y1 c0 c1 OWN gk
   go_wp2
   go_roundw
   case rel=>exact ⟨j + 1,_,by omega,by go_num,FIN.out⟩
   case measure=>simp [intOf];omega
end Go.Proofs.YtpbpbppimkeodaaGreatDoor
namespace Go.Proofs.YtpbpbppimkeodaaGreatDoor
def splitS (s : PS) (es : Nat -> Nat × Nat) (m : Nat) : PS:=waitAll (stAt s es m m).s (stAt s es m m).dv
def wt (s : PS) (q : Nat) : Prop:=q < s.nr /\ s.waits q = true
structure Ok (N : Nat) (s : PS) : Prop where
 wf : Wf N s
 full : Full N s
 wq : Wq s
theorem settle_cnt (lv : Nat -> Nat) (st : SpS) (q : Nat) : (settle lv st q).s.nr + st.dv.length = st.s.nr + (settle lv st q).dv.length:=by
 unfold settle
 split
 ·rfl
 ·split
  ·show st.s.nr + 1 + st.dv.length = st.s.nr + (st.dv ++ [_]).length
   simp;omega
  ·rfl
theorem stAt_count (s : PS) (es : Nat -> Nat × Nat) (m : Nat) : ∀ j,(stAt s es m j).s.nr = s.nr + (stAt s es m j).dv.length
 | 0=>rfl
 | j + 1=>by
   have h:=stAt_count s es m j
   rw [stAt_succ]
   obtain ⟨_,e2,_,e4⟩:=goes_np (settle (cnt s es m) (stAt s es m j) ((stAt s es m j).s.of (es j).2)) (es j).2
   rw [e2,e4]
   have:=settle_cnt (cnt s es m) (stAt s es m j) ((stAt s es m j).s.of (es j).2)
   omega
section
variable {N : Nat} {s : PS} {es : Nat -> Nat × Nat} {m : Nat}
theorem split_nr : (splitS s es m).nr = s.nr + (stAt s es m m).dv.length:=by
 unfold splitS
 rw [(waitAll_same _ _).2.2.1]
 exact stAt_count s es m m
theorem dv_lt (hW : Wf N s) (hf : ∀ i,i < m -> (es i).2 < N) (hd : (nodesOf es m).Nodup) : ∀ d,d ∈ (stAt s es m m).dv -> d.1 < (stAt s es m m).s.nr /\ d.2 < (stAt s es m m).s.nr:=by
 have h:=stAt_si hW hf hd (Nat.le_refl m)
 rintro ⟨q,t⟩ hm
 obtain ⟨h1,h2⟩:=(h.dv q t).1 hm
 obtain ⟨a1,a2,_⟩:=h.np q t h1
 have:=h.nr
 refine ⟨by show q < _;omega,?_⟩
 rcases a2 with c | c
 ·exact absurd c h2
 ·exact c.2
theorem stAt_wq (hW : Wf N s) (hq : Wq s) (hf : ∀ i,i < m -> (es i).2 < N) (hd : (nodesOf es m).Nodup) : Wq (stAt s es m m).s:=by
 have h:=stAt_si hW hf hd (Nat.le_refl m)
 have hn:=h.nr
 refine ⟨fun q e=>?_,fun q hlt=>?_,by rw [h.waiting];exact hq.nodup⟩
 ·rw [h.waiting] at e
  have:=hq.lt q e
  omega
 ·rw [h.waiting]
  by_cases c : q < s.nr
  ·rw [h.waits q c];exact hq.iff q c
  ·rw [h.fresh q (by omega) hlt]
   exact ⟨fun e=>(by cases e),fun e=>absurd (hq.lt q e) c⟩
theorem split_okay (h : Ok N s) (hf : ∀ i,i < m -> (es i).2 < N) (hd : (nodesOf es m).Nodup) : Ok N (splitS s es m):=
 ⟨wait_wf (stAt_si h.wf hf hd (Nat.le_refl m)).wf _,full_split h.wf h.full hf hd,wq_waitAll _ (stAt_wq h.wf h.wq hf hd) (dv_lt h.wf hf hd)⟩
theorem split_waiting (hW : Wf N s) (hf : ∀ i,i < m -> (es i).2 < N) (hd : (nodesOf es m).Nodup) : (splitS s es m).waiting.length + s.nr <= s.waiting.length + (splitS s es m).nr:=by
 have h1:=waitAll_len (stAt s es m m).dv (stAt s es m m).s
 rw [(stAt_si hW hf hd (Nat.le_refl m)).waiting] at h1
 have h2:=split_nr (s:=s) (es:=es) (m:=m)
 show (waitAll (stAt s es m m).s (stAt s es m m).dv).waiting.length + _ <= _
 omega
theorem split_is (h : Ok N s) (hf : ∀ i,i < m -> (es i).2 < N) (hd : (nodesOf es m).Nodup) {X : Nat -> Prop} (hX : ∀ x,x < N -> (x ∈ nodesOf es m ↔ X x)) :
  Split N s.of (splitS s es m).of (wt s) (wt (splitS s es m)) X:=by
 have hs:=stAt_si h.wf hf hd (Nat.le_refl m)
 rw [cnt_leaves] at hs
 have k:=split_ok h.wf (nodes_all hf (Nat.le_refl m)) hd hs
 have o:=(split_okay h hf hd).wf
 refine ⟨fun x y hx hy=>?_,fun x hx w=>⟨o.lt x hx,k.old x hx w.2⟩,fun x y hx hy e ne=>?_⟩
 ·rw [<- hX x hx,<- hX y hy];exact k.part x y hx hy
 ·rcases k.one x y hx hy e ne with c | c
  ·exact Or.inl ⟨o.lt x hx,c⟩
  ·exact Or.inr ⟨o.lt y hy,c⟩
end
theorem Stab.over2 {N : Nat} {G : Nat -> ND} {of : Nat -> Nat} {waits : Nat -> Prop} {C pend C' : Nat -> Prop} (hP : Parts N G of) (h : Stab N G of waits C pend) (hn : ∀ j,pend j -> ∀ x,x < N -> j < (G x).nk -> ¬ C (kid (G x) j)) : Stab N G of waits C' (fun _=>False):=
 fun x y hx hy e j hj hw _=>h x y hx hy e j hj hw (fun hp=>by
  have hj' : j < (G y).nk:=by rw [<- (hP.lab x y hx hy e).nk];exact hj
  exact ⟨fun c=>absurd c (hn j hp x hx hj),fun c=>absurd c (hn j hp y hy hj')⟩)
structure Edges (N : Nat) (G : Nat -> ND) (C : Nat -> Prop) (m : Nat) (es : Nat -> Nat × Nat) : Prop where
 into : ∀ i,i < m -> (es i).2 < N /\ (es i).1 < (G (es i).2).nk /\ C (kid (G (es i).2) (es i).1)
 all : ∀ x j,x < N -> j < (G x).nk -> C (kid (G x) j) -> ∃ i,i < m /\ es i = (j,x)
 once : ∀ i k,i < m -> k < m -> es i = es k -> i = k
 sorted : ∀ i k,i < k -> k < m -> (es i).1 <= (es k).1
structure Run (N : Nat) (G : Nat -> ND) (C : Nat -> Prop) (m : Nat) (es : Nat -> Nat × Nat) (s : PS) (r : Nat) : Prop where
 ok : Ok N s
 parts : Parts N G s.of
 stab : Stab N G s.of (wt s) C (fun j=>∀ i,i < r -> (es i).1 ≠ j)
 cut : ∀ i,i < r -> r < m -> (es i).1 < (es r).1
 le : r <= m
theorem run_nodup {N : Nat} {G : Nat -> ND} {C : Nat -> Prop} {m : Nat} {es : Nat -> Nat × Nat} (hE : Edges N G C m es) {r e : Nat} (he : e <= m) (hr : r <= e) (hp : ∀ i,r <= i -> i < e -> (es i).1 = (es r).1) : (nodesOf (fun i=>es (r + i)) (e - r)).Nodup:=by
 unfold nodesOf
 rw [List.Nodup,List.pairwise_iff_getElem]
 intro i j hi hj hij
 simp only [List.length_map,List.length_range] at hi hj
 simp only [List.getElem_map,List.getElem_range]
 intro c
 have h1:=hp (r + i) (by omega) (by omega)
 have h2:=hp (r + j) (by omega) (by omega)
 have:=hE.once (r + i) (r + j) (by omega) (by omega) (Prod.ext (h1.trans h2.symm) c)
 omega
theorem run_step {N : Nat} {G : Nat -> ND} {C : Nat -> Prop} {m : Nat} {es : Nat -> Nat × Nat} {s : PS} {r e : Nat} (hK : Kids N G) (hC : ∀ u v,u < N -> v < N -> Same N G u v -> (C u ↔ C v)) (hE : Edges N G C m es) (h : Run N G C m es s r) (hr : r < e) (he : e <= m)
  (hp : ∀ i,r <= i -> i < e -> (es i).1 = (es r).1) (hend : e < m -> (es e).1 ≠ (es r).1) : Run N G C m es (splitS s (fun i=>es (r + i)) (e - r)) e:=by
 have hf : ∀ i,i < e - r -> (es (r + i)).2 < N:=fun i hi=>(hE.into (r + i) (by omega)).1
 have hd:=run_nodup hE he (Nat.le_of_lt hr) hp
 have hX : ∀ x,x < N -> (x ∈ nodesOf (fun i=>es (r + i)) (e - r) ↔ (es r).1 < (G x).nk /\ C (kid (G x) (es r).1)):=by
  intro x hx
  constructor
  ·intro hm
   obtain ⟨i,hi,rfl⟩:=nodes_mem hm
   obtain ⟨_,h2,h3⟩:=hE.into (r + i) (by omega)
   rw [hp (r + i) (by omega) (by omega)] at h2 h3
   exact ⟨h2,h3⟩
  ·rintro ⟨h1,h2⟩
   obtain ⟨i,hi,ei⟩:=hE.all x (es r).1 hx h1 h2
   have p1 : (es i).1 = (es r).1:=by rw [ei]
   have g1 : r <= i:=by
    apply Classical.byContradiction
    intro c
    have:=h.cut i (by omega) (by omega)
    omega
   have g2 : i < e:=by
    apply Classical.byContradiction
    intro c
    have k1:=hE.sorted r e hr (by omega)
    have k2:=hend (by omega)
    by_cases ce : i = e
    ·subst ce;exact k2 p1
    ·have:=hE.sorted e i (by omega) hi
     omega
   refine List.mem_map.2 ⟨i - r,List.mem_range.2 (by omega),?_⟩
   show (es (r + (i - r))).2 = x
   rw [show r + (i - r) = i by omega,ei]
 have sp:=split_is h.ok hf hd hX
 refine ⟨split_okay h.ok hf hd,h.parts.split hK hC sp,?_,fun i hi hlt=>?_,he⟩
 ·have:=h.stab.split hK h.parts sp
  intro x y hx hy e1 j hj hw hc
  refine this x y hx hy e1 j hj hw (fun hpd=>hc (fun i hi=>?_))
  by_cases c : i < r
  ·exact hpd.1 i c
  ·rw [hp i (by omega) hi];exact fun c'=>hpd.2 c'.symm
 ·have k1:=hE.sorted r e hr hlt
  have k2:=hend hlt
  by_cases c : i < r
  ·have:=h.cut i c (by omega)
   omega
  ·rw [hp i (by omega) hi];omega
def popS (s : PS) (P : Nat) : PS:={ s with waits:=upd s.waits P false,waiting:=s.waiting.dropLast }
theorem pop_ok {N : Nat} {s : PS} (h : Ok N s) {P : Nat} (hl : s.waiting.getLast? = some P) : Ok N (popS s P):=by
 obtain ⟨ys,hy⟩ : ∃ ys,s.waiting = ys ++ [P]:=List.getLast?_eq_some_iff.1 hl
 have hn:=h.wq.nodup
 rw [hy,List.nodup_append] at hn
 have hd : s.waiting.dropLast = ys:=by rw [hy];simp
 refine ⟨⟨h.wf.lt,h.wf.here,h.wf.row⟩,h.full,⟨fun q hq=>?_,fun q hq=>?_,?_⟩⟩
 ·have hq' : q ∈ ys:=by rw [<- hd];exact hq
  exact h.wq.lt q (by rw [hy];exact List.mem_append.2 (Or.inl hq'))
 ·show upd s.waits P false q = true ↔ q ∈ s.waiting.dropLast
  rw [hd]
  by_cases c : q = P
  ·subst c
   rw [upd_same]
   exact ⟨fun e=>(by cases e),fun e=>absurd rfl (hn.2.2 q e q (by simp))⟩
  ·rw [upd_other _ _ c,h.wq.iff q hq,hy]
   simp [c]
 ·show s.waiting.dropLast.Nodup
  rw [hd];exact hn.1
theorem pop_run {N : Nat} {G : Nat -> ND} {s : PS} {m : Nat} {es : Nat -> Nat × Nat} {C0 : Nat -> Prop} (h : Ok N s) (hp : Parts N G s.of) (hs : Stab N G s.of (wt s) C0 (fun _=>False)) {P : Nat} (hl : s.waiting.getLast? = some P) : Run N G (fun u=>s.of u = P) m es (popS s P) 0:=by
 refine ⟨pop_ok h hl,hp,?_,fun i hi=>absurd hi (Nat.not_lt_zero _),Nat.zero_le _⟩
 have:=hs.pop P
 intro x y hx hy e j hj hw hc
 refine this x y hx hy e j hj (fun q hq=>?_) (fun _=>hc (fun i hi=>absurd hi (Nat.not_lt_zero _)))
 exact hw q ⟨hq.1.1,by show upd s.waits P false q = true;rw [upd_other _ _ hq.2];exact hq.1.2⟩
theorem run_over {N : Nat} {G : Nat -> ND} {C C' : Nat -> Prop} {m : Nat} {es : Nat -> Nat × Nat} {s : PS} (hE : Edges N G C m es) (h : Run N G C m es s m) : Stab N G s.of (wt s) C' (fun _=>False):=
 h.stab.over2 h.parts (fun j hp x hx hj c=>by
  obtain ⟨i,hi,e⟩:=hE.all x j hx hj c
  exact hp i hi (by rw [e]))
end Go.Proofs.YtpbpbppimkeodaaGreatDoor
namespace Go.Proofs.YtpbpbppimkeodaaGreatDoor
open Go.RowKit Go.Maps
theorem pcells_at {ord : List (Nat × Nat)} : ∀ {i : Nat} {q : Nat × Nat},ord[i]? = some q -> (pcells ord)[i * 2]? = some (.int .i64 (q.1 : Int)) /\ (pcells ord)[i * 2 + 1]? = some (.int .i64 (q.2 : Int)):=by
 induction ord with
 | nil=>intro i q h;simp at h
 | cons z t ih=>
   intro i q h
   cases i with
   | zero=>simp at h;subst h;simp [pcells]
   | succ i=>
     have h' : t[i]? = some q:=by simpa using h
     obtain ⟨h1,h2⟩:=ih h'
     have e : pcells (z :: t) = .int .i64 (z.1 : Int) :: .int .i64 (z.2 : Int) :: pcells t:=by simp [pcells]
     rw [e]
     refine ⟨?_,?_⟩
     ·rw [show (i + 1) * 2 = i * 2 + 1 + 1 from by omega];simpa using h1
     ·rw [show (i + 1) * 2 + 1 = i * 2 + 1 + 1 + 1 from by omega];simpa using h2
theorem own_pair {w : World} {base : Nat} {e : TypeId} {ov : Value} {ord : List (Nat × Nat)} (h : w.ownsRow base e 2 ov ord.length (pcells ord)) {i : Nat} {q : Nat × Nat} (hq : ord[i]? = some q) :
  ∃ g cap,ov = .slice (some ⟨g,0,none⟩) ord.length cap /\ w.cell? ⟨g,i * 2,none⟩ = some (.int .i64 (q.1 : Int)) /\ w.cell? ⟨g,i * 2 + 1,none⟩ = some (.int .i64 (q.2 : Int)):=by
 obtain ⟨hlt,_⟩:=List.getElem?_eq_some_iff.1 hq
 rcases h.2 with ⟨_,h0⟩ | ⟨g,cap,_,rfl,_⟩
 ·omega
 ·have hc:=pcells_at hq
  exact ⟨g,cap,rfl,by rw [h.cellAt _ (by omega)];exact hc.1,by rw [h.cellAt _ (by omega)];exact hc.2⟩
theorem c96 (base pb bo ba N : Nat) (rv wv qv : Value) (rvs : Nat -> Value) (s : PS) (part : Nat) (w : World) (h : Pt w base pb bo ba N rv wv qv rvs s) (hp : part < s.nr) (hr : s.nr <= 1048576) (hq : s.waiting.length <= 1048576) :
  Calls Tryz.prog 103 #[.pointer (some ⟨pb,0,none⟩),.int .i64 (part : Int)] w fun e w'=>e = .returned (.tuple #[]) /\ ∃ qv',Pt w' base pb bo ba N rv wv qv' rvs (waitS s part) /\ Fr base w w' (pblk pb bo ba rv wv qv rvs s.nr) (pblk pb bo ba rv wv qv' rvs (waitS s part).nr):=by
 cases hw : s.waits part
 ·have e : waitS s part = { s with waits:=upd s.waits part true,waiting:=s.waiting ++ [part] }:=by unfold waitS;rw [if_neg (by rw [hw];exact Bool.false_ne_true)]
  rw [e]
  exact c96n base pb bo ba N rv wv qv rvs s part w h hp hr hq hw
 ·have e : waitS s part = s:=by unfold waitS;rw [if_pos hw]
  rw [e]
  refine (c96o base pb bo ba N rv wv qv rvs s part w h hp hr hw).mono ?_
  rintro e' w' ⟨rfl,k,rfl⟩
  have B : Below w.heap.size w (w.drewN k):=below_drewN (Below.refl _ _) k
  exact ⟨rfl,qv,h.below B,Fr.of_below _ h.big.2.2.2 B⟩
theorem waitAll_take {dv : List (Nat × Nat)} {k : Nat} {d : Nat × Nat} (h : dv[k]? = some d) (s : PS) : waitAll s (dv.take (k + 1)) = waitOne (waitAll s (dv.take k)) d:=by
 have hk:=(List.getElem?_eq_some_iff.1 h).1
 have e : dv.take (k + 1) = dv.take k ++ [d]:=by
  rw [List.take_add_one,h];rfl
 unfold waitAll
 rw [e,List.foldl_append];rfl
theorem waitOne_yes {s : PS} {d : Nat × Nat} (h : s.waits d.1 = true \/ (s.rows d.2).length <= (s.rows d.1).length) : waitOne s d = waitS s d.2:=by
 unfold waitOne
 rw [if_pos]
 rcases h with h | h <;> simp [h]
theorem waitOne_no {s : PS} {d : Nat × Nat} (h1 : s.waits d.1 = false) (h2 : ¬ (s.rows d.2).length <= (s.rows d.1).length) : waitOne s d = waitS s d.1:=by
 unfold waitOne
 rw [if_neg]
 simp [h1];omega
theorem waitAll_take_len (dv : List (Nat × Nat)) (s : PS) (k : Nat) : (waitAll s (dv.take k)).waiting.length <= s.waiting.length + dv.length:=by
 have h1:=waitAll_len (dv.take k) s
 have h2 : (dv.take k).length <= dv.length:=by rw [List.length_take];exact Nat.min_le_right _ _
 omega
end Go.Proofs.YtpbpbppimkeodaaGreatDoor
