/-
  YeH
-/
import Derived.Test.YtihedobejcaapaaGreatDoorE2
import Derived.Deep.CutBlock
import Derived.Deep.DeepCutAuto
import Derived.BigRegion
set_option maxHeartbeats 4000000
set_option maxRecDepth 100000
namespace Go.Proofs.YtihedobejcaapaaGreatDoor
open Go.RowKit
def tF (w : World) (ff : Option Fm) (e : Ending) (w' : World) : Prop:=Bw w w' /\ ∃ (L : Int) (ta : Option Addr) (tn tc : Nat) (na : Option Addr) (n nc : Nat) (ok : Bool),e = .returned (.tuple #[.agg #[.int .i64 L,.slice na n nc,.slice ta tn tc],.bool ok]) /\ n <= 1048576 /\ ok = ff.isSome /\
 ∀ f,ff = some f -> ∃ (nb tb : Nat),Value.agg #[.int .i64 L,.slice na n nc,.slice ta tn tc] = y8 f na ta nc tc /\ jT w' f na ta nb tb /\ f.needs.length <= nc /\ f.texts.length <= tc /\ w.heap.size <= nb /\ w.heap.size <= tb
structure R3 (w W : World) (X : Nat) (bt : TypeId) (bn : Nat) (bv fv : Nat -> Value) : Prop where
 box : W.rowIs X bt bn bv
 res : W.rowIs (X + 1) 112 3 (v3 (.int .i64 0) (.slice none 0 0) (.slice none 0 0))
 frm : W.rowIs (X + 1 + 1) 112 3 fv
 bel : Bw w W
 le : w.heap.size <= X
theorem R3.size {w W : World} {X : Nat} {bt : TypeId} {bn : Nat} {bv fv : Nat -> Value} (h : R3 w W X bt bn bv fv) : X + 3 <= W.heap.size:=h.frm.lt
theorem R3.alloc {w W : World} {X : Nat} {bt : TypeId} {bn : Nat} {bv fv : Nat -> Value} (h : R3 w W X bt bn bv fv) (o : Obj) : R3 w (W.alloc o) X bt bn bv fv:=⟨h.box.alloc o,h.res.alloc o,h.frm.alloc o,h.bel.alloc h.bel.size _,h.le⟩
theorem R3.drewN {w W : World} {X : Nat} {bt : TypeId} {bn : Nat} {bv fv : Nat -> Value} (h : R3 w W X bt bn bv fv) (k : Nat) : R3 w (W.drewN k) X bt bn bv fv:=⟨h.box,h.res,h.frm,below_drewN h.bel k,h.le⟩
theorem R3.drew {w W : World} {X : Nat} {bt : TypeId} {bn : Nat} {bv fv : Nat -> Value} (h : R3 w W X bt bn bv fv) : R3 w W.drew X bt bn bv fv:=⟨h.box,h.res,h.frm,h.bel.drew,h.le⟩
theorem R3.below {w W : World} {X : Nat} {bt : TypeId} {bn : Nat} {bv fv : Nat -> Value} {W' : World} (h : R3 w W X bt bn bv fv) (hb : Below (X + 3) W W') : R3 w W' X bt bn bv fv:=
 ⟨h.box.of_block (hb.block _ (by omega)),h.res.of_block (hb.block _ (by omega)),h.frm.of_block (hb.block _ (by omega)),h.bel.trans (hb.mono (by have:=h.le;omega)),h.le⟩
theorem R3.setB {w W : World} {X : Nat} {bt : TypeId} {bn : Nat} {bv fv : Nat -> Value} (h : R3 w W X bt bn bv fv) (i : Nat) (v : Value) : R3 w (W.setCell ⟨X,i,none⟩ v) X bt bn (fun j=>if j = i then v else bv j) fv:=
 ⟨h.box.set i v,h.res.setOther (by show X + 1 ≠ X;omega) v,h.frm.setOther (by show X + 1 + 1 ≠ X;omega) v,h.bel.setCell (p:=⟨X,i,none⟩) h.le v,h.le⟩
theorem R3.setF {w W : World} {X : Nat} {bt : TypeId} {bn : Nat} {bv fv : Nat -> Value} (h : R3 w W X bt bn bv fv) (i : Nat) (v : Value) : R3 w (W.setCell ⟨X + 1 + 1,i,none⟩ v) X bt bn bv (fun j=>if j = i then v else fv j):=
 ⟨h.box.setOther (by show X ≠ X + 1 + 1;omega) v,h.res.setOther (by show X + 1 ≠ X + 1 + 1;omega) v,h.frm.set i v,h.bel.setCell (p:=⟨X + 1 + 1,i,none⟩) (by show w.heap.size <= X + 1 + 1;have:=h.le;omega) v,h.le⟩
theorem R3.congr {w W : World} {X : Nat} {bt : TypeId} {bn : Nat} {bv fv : Nat -> Value} {bv' fv' : Nat -> Value} (h : R3 w W X bt bn bv fv) (hb : ∀ i,i < bn -> bv i = bv' i) (hf : ∀ i,i < 3 -> fv i = fv' i) : R3 w W X bt bn bv' fv':=⟨h.box.congr hb,h.res,h.frm.congr hf,h.bel,h.le⟩
theorem R3.setF2 {w W : World} {X : Nat} {bt : TypeId} {bn : Nat} {bv : Nat -> Value} {a b c : Value} (h : R3 w W X bt bn bv (v3 a b c)) (v : Value) : R3 w (W.setCell ⟨X + 1 + 1,2,none⟩ v) X bt bn bv (v3 a b v):=(h.setF 2 v).congr (fun _ _=>rfl) (uV _ _ _ _)
theorem R3.setF3 {w W : World} {X : Nat} {bt : TypeId} {bn : Nat} {bv fv : Nat -> Value} (h : R3 w W X bt bn bv fv) (a b c : Value) : R3 w (((W.setCell ⟨X + 1 + 1,0,none⟩ a).setCell ⟨X + 1 + 1,1,none⟩ b).setCell ⟨X + 1 + 1,2,none⟩ c) X bt bn bv (v3 a b c):=(((h.setF 0 a).setF 1 b).setF 2 c).congr (fun _ _=>rfl) fun i hi=>by
 match i,hi with
 | 0,_=>rfl
 | 1,_=>rfl
 | 2,_=>rfl
def kU (X : Nat) (wc : World) (ff : Option Fm) (L : Int) (ta : Option Addr) (tn tc : Nat) (na : Option Addr) (nn nc : Nat) : Prop:=∀ f,ff = some f -> ∃ (nb tb : Nat),Value.agg #[.int .i64 L,.slice na nn nc,.slice ta tn tc] = y8 f na ta nc tc /\ jT wc f na ta nb tb /\ f.needs.length <= nc /\ f.texts.length <= tc /\ X + 1 + 1 < nb /\ X + 1 + 1 < tb
structure Cl (w : World) (t : TI) (wc : World) (ok : Bool) (md' nm' : ByteArray) (a' : Option Addr) (n' c' : Nat) (L : Int) (ta : Option Addr) (tn tc : Nat) (na : Option Addr) (nn nc : Nat) : Prop where
 r : R3 w wc w.heap.size 80 4 (v4 (.int .i64 t.op) (.string md') (.string nm') (.slice a' n' c')) (v3 (.int .i64 L) (.slice na nn nc) (.slice ta tn tc))
 n : nn <= 1048576
 is : (ok && decide (md'.size = 0) && decide (nm'.size = 0) && decide (n' = 0)) = (fT t).isSome
 fm : kU w.heap.size wc (fT t) L ta tn tc na nn nc
theorem je {V : World} {X : Nat} {a b c d : Value} (r : V.rowIs X 112 3 (v3 a b c)) (tmps : Array Value) (h2 : tmps[2]?.getD undef = .pointer (some ⟨X,0,none⟩)) (h3 : tmps[3]?.getD undef = d) :
  (results Tryz.f45 tmps).run Tryz.prog V = .ok (.tuple #[.agg #[a,b,c],d]) V:=by
 have e : V.cell? ⟨X,0,none⟩ = some a:=r.cell (i:=0) (by omega);have f : V.cell? ⟨X,1,none⟩ = some b:=r.cell (i:=1) (by omega);have g : V.cell? ⟨X,2,none⟩ = some c:=r.cell (i:=2) (by omega);unfold results;rw [show Tryz.f45.results = #[.cell 2 112,.tmp 3] from rfl];simp [go_sem,h2,h3,e,f,g]
theorem jT.drew {w : World} {f : Fm} {na ta : Option Addr} {nb tb : Nat} (h : jT w f na ta nb tb) : jT w.drew f na ta nb tb:=⟨h.nAt,h.need,h.tAt,h.text⟩
theorem tF.drew {w w' : World} {ff : Option Fm} {e : Ending} (h : tF w ff e w') : tF w ff e w'.drew:=by
 obtain ⟨b,L,m,q,p,j,n,l,ok,c,d,g,i⟩:=h;refine ⟨b.drew,L,m,q,p,j,n,l,ok,c,d,g,fun f hf=>?_⟩;obtain ⟨k,o,a,F,r⟩:=i f hf;exact ⟨k,o,a,F.drew,r⟩
theorem R3.give {w W : World} {X : Nat} {bt : TypeId} {bn : Nat} {bv : Nat -> Value} {L : Int} {ta : Option Addr} {tn tc : Nat} {na : Option Addr} {nn nc : Nat} {ff : Option Fm} (h : R3 w W X bt bn bv (v3 (.int .i64 L) (.slice na nn nc) (.slice ta tn tc))) (hn : nn <= 1048576) (hf : kU X W ff L ta tn tc na nn nc) {b : Bool} (hb : b = ff.isSome) :
  (((W.setCell ⟨X + 1,0,none⟩ (.int .i64 L)).setCell ⟨X + 1,1,none⟩ (.slice na nn nc)).setCell ⟨X + 1,2,none⟩ (.slice ta tn tc)).rowIs (X + 1) 112 3 (v3 (.int .i64 L) (.slice na nn nc) (.slice ta tn tc)) /\
  tF w ff (.returned (.tuple #[.agg #[.int .i64 L,.slice na nn nc,.slice ta tn tc],.bool b])) (((W.setCell ⟨X + 1,0,none⟩ (.int .i64 L)).setCell ⟨X + 1,1,none⟩ (.slice na nn nc)).setCell ⟨X + 1,2,none⟩ (.slice ta tn tc)):=by
 have q : w.heap.size <= X + 1:=by have:=h.le;omega
 refine ⟨(((h.res.set 0 (.int .i64 L)).set 1 _).set 2 (.slice ta tn tc)).congr fun i hi=>?_,((h.bel.setCell (p:=⟨X + 1,0,none⟩) q _).setCell (p:=⟨X + 1,1,none⟩) q _).setCell (p:=⟨X + 1,2,none⟩) q _,L,ta,tn,tc,na,nn,nc,b,rfl,hn,hb,fun f hf'=>?_⟩
 ·match i,hi with
  | 0,_=>rfl
  | 1,_=>rfl
  | 2,_=>rfl
 ·obtain ⟨c,d,e,F,g,k,l,m⟩:=hf f hf'
  have blk : ∀ b,X + 1 + 1 < b -> (((W.setCell ⟨X + 1,0,none⟩ (.int .i64 L)).setCell ⟨X + 1,1,none⟩ (.slice na nn nc)).setCell ⟨X + 1,2,none⟩ (.slice ta tn tc)).heap[b]? = W.heap[b]?:=fun b hb=>by
   have a : ∀ j,b ≠ (⟨X + 1,j,none⟩ : Addr).block:=fun j=>by show b ≠ X + 1;omega
   rw [Below.heap_setCell _ _ _ _ (a 2),Below.heap_setCell _ _ _ _ (a 1),Below.heap_setCell _ _ _ _ (a 0)]
  have:=h.le;exact ⟨c,d,e,F.of_blocks (blk c l) (blk d m),g,k,by omega,by omega⟩
def jM (t : TI) (F : Fm) : Prop:=fT t = if t.md.size = 0 /\ t.nm.size = 0 /\ t.ns.length = 0 then some F else none
theorem jV {t : TI} {o : Int} (ho : t.op = o) : (o = 1 -> jM t ⟨1,[],[jD]⟩) /\ (o = 2 -> jM t ⟨1,[],[eB]⟩) /\ (o = 3 -> jM t ⟨1,[],[iC]⟩) /\ (o = 6 -> jM t ⟨0,[1,0],[e0,iu,e0]⟩):=by
 unfold jM fT;rw [ho];refine ⟨?_,?_,?_,?_⟩ <;>
 ·intro e
  subst e;by_cases a : t.md.size = 0 <;> by_cases b : t.nm.size = 0 <;> by_cases c : t.ns.length = 0 <;> simp [a,b,c]
theorem yu {t : TI} (ho : t.op = 4) : fT t = if aI t.md t.nm && decide (t.ns.length = 0) then some ⟨1,[],[ia t.md t.nm]⟩ else none:=by
 unfold fT;rw [if_pos ho]
theorem xg {t : TI} (ho : t.op = 5) : fT t = if t.md.size = 0 /\ t.nm.size = 0 then (if dN t.ns then some (fF t.ns dz 1) else none) else none:=by
 unfold fT;rw [ho];simp
theorem yx {t : TI} (h : ¬ t.op = 1 /\ ¬ t.op = 2 /\ ¬ t.op = 3 /\ ¬ t.op = 4 /\ ¬ t.op = 5 /\ ¬ t.op = 6) : fT t = none:=by
 unfold fT;rw [if_neg h.2.2.2.1,if_neg h.2.2.2.2.1,if_neg h.1,if_neg h.2.1,if_neg h.2.2.1,if_neg h.2.2.2.2.2]
 split
 ·split <;> rfl
 ·rfl
theorem rC {t : TI} {F : Fm} (h : jM t F) : (true && decide (t.md.size = 0) && decide (t.nm.size = 0) && decide (t.ns.length = 0)) = (fT t).isSome:=by
 rw [h];by_cases a : t.md.size = 0 <;> by_cases b : t.nm.size = 0 <;> by_cases c : t.ns.length = 0 <;> simp [a,b,c]
theorem rW {t : TI} {F f : Fm} (h : jM t F) (hf : fT t = some f) : f = F:=by
 rw [h] at hf
 split at hf
 ·cases hf;rfl
 ·cases hf
theorem Ab {W : World} {lev : Nat} {x : ByteArray} {na : Option Addr} {X : Nat} (hc : W.cell? ⟨X,0,none⟩ = some (.string x)) : jT W ⟨lev,[],[x]⟩ na (some ⟨X,0,none⟩) X X:=
 ⟨fun h=>absurd h (Nat.lt_irrefl _),fun k h=>absurd h (Nat.not_lt_zero _),fun _=>rfl,fun k h=>by
  have hk : k = 0:=by
   have : k < 1:=h;omega
  subst hk;exact hc⟩
theorem kU.one {X : Nat} {W : World} {lev : Nat} {x : ByteArray} {Y : Nat} {ff : Option Fm} (hc : W.cell? ⟨Y,0,none⟩ = some (.string x)) (hY : X + 1 + 1 < Y) (hff : ∀ f,ff = some f -> f = ⟨lev,[],[x]⟩) : kU X W ff (lev : Int) (some ⟨Y,0,none⟩) 1 1 none 0 0:=fun f hf=>by
 rw [hff f hf];exact ⟨Y,Y,rfl,Ab hc,Nat.zero_le _,nlr _,hY,hY⟩
theorem eE (W : World) (l : List Value) (t : TypeId) : (W.alloc (.cells l.toArray t)).rowIs W.heap.size t l.length (fun i=>l.getD i undef):=by
 have:=World.rowIs_alloc W l.toArray t (fun i=>l.getD i undef) (fun i hi=>by
  have a : i < l.length:=by simpa using hi
  rw [List.getElem?_toArray,List.getD_eq_getElem?_getD,List.getElem?_eq_getElem a];rfl)
 simpa using this
theorem fh {w W : World} {X : Nat} {bt : TypeId} {bn : Nat} {bv fv : Nat -> Value} {ff : Option Fm} (h : R3 w W X bt bn bv fv) (lev : Nat) (ns : List Nat) (ts : List ByteArray) (hff : ∀ f,ff = some f -> f = ⟨lev,ns,ts⟩) (W1 : World)
  (hW : W1 = ((((W.alloc (.cells (ns.map fun n : Nat=>Value.int .i64 (n : Int)).toArray 3)).alloc (.cells (ts.map Value.string).toArray 9)).setCell ⟨X + 1 + 1,0,none⟩ (.int .i64 (lev : Int))).setCell ⟨X + 1 + 1,1,none⟩ (.slice (some ⟨W.heap.size,0,none⟩) ns.length ns.length)).setCell ⟨X + 1 + 1,2,none⟩ (.slice (some ⟨W.heap.size + 1,0,none⟩) ts.length ts.length)) :
  R3 w W1 X bt bn bv (v3 (.int .i64 (lev : Int)) (.slice (some ⟨W.heap.size,0,none⟩) ns.length ns.length) (.slice (some ⟨W.heap.size + 1,0,none⟩) ts.length ts.length)) /\ kU X W1 ff (lev : Int) (some ⟨W.heap.size + 1,0,none⟩) ts.length ts.length (some ⟨W.heap.size,0,none⟩) ns.length ns.length:=by
 have i:=h.size;refine ⟨by rw [hW];exact ((h.alloc _).alloc _).setF3 _ _ _,fun f hf=>?_⟩;rw [hff f hf];have d:=(eE W (ns.map fun n : Nat=>Value.int .i64 (n : Int)) 3).alloc (.cells (ts.map Value.string).toArray 9);have c:=eE (W.alloc (.cells (ns.map fun n : Nat=>Value.int .i64 (n : Int)).toArray 3)) (ts.map Value.string) 9;rw [World.size_alloc] at c;rw [List.length_map] at d c;have a : ∀ b j,X + 1 + 1 < b -> b ≠ (⟨X + 1 + 1,j,none⟩ : Addr).block:=fun b j hb=>by show b ≠ X + 1 + 1;omega
 have e:=((d.setOther (a _ 0 (by omega)) (.int .i64 (lev : Int))).setOther (a _ 1 (by omega)) (.slice (some ⟨W.heap.size,0,none⟩) ns.length ns.length)).setOther (a _ 2 (by omega)) (.slice (some ⟨W.heap.size + 1,0,none⟩) ts.length ts.length);have g:=((c.setOther (a _ 0 (by omega)) (.int .i64 (lev : Int))).setOther (a _ 1 (by omega)) (.slice (some ⟨W.heap.size,0,none⟩) ns.length ns.length)).setOther (a _ 2 (by omega)) (.slice (some ⟨W.heap.size + 1,0,none⟩) ts.length ts.length);rw [<- hW] at e g;refine ⟨W.heap.size,W.heap.size + 1,rfl,⟨fun _=>rfl,fun k hk=>?_,fun _=>rfl,fun k hk=>?_⟩,nlr _,nlr _,by omega,by omega⟩
 ·rw [e.cell hk,List.getD_eq_getElem?_getD,List.getElem?_map,List.getElem?_eq_getElem hk]
  rfl
 ·rw [g.cell hk,List.getD_eq_getElem?_getD,List.getElem?_map,List.getElem?_eq_getElem hk]
  rfl
theorem qp {W : World} {x : ByteArray} {a : Addr} (v : Value) (ha : a.block < W.heap.size) : ((W.alloc (.cells #[.string x] 9)).setCell a v).cell? ⟨W.heap.size,0,none⟩ = some (.string x):=
 ((aK W (.string x) 9).setOther (by omega) v).cell (i:=0) (by omega)
theorem qG {w W0 : World} {t : TI} {p : NPl} {op : Int} {x : ByteArray} (hop : t.op = op) (h : R3 w W0 w.heap.size 80 4 (v4 (.int .i64 op) (.string t.md) (.string t.nm) (.slice p.a t.ns.length p.c)) (v3 (.int .i64 1) (.slice none 0 0) (.slice none 0 0))) (hb : jM t ⟨1,[],[x]⟩) (hsz : W0.heap.size = w.heap.size + 3) :
  Cl w t ((W0.alloc (.cells #[.string x] 9)).setCell ⟨w.heap.size + 1 + 1,2,none⟩ (.slice (some ⟨W0.heap.size,0,none⟩) 1 1)) true t.md t.nm p.a t.ns.length p.c 1 (some ⟨W0.heap.size,0,none⟩) 1 1 none 0 0:=
 ⟨by rw [hop];exact (h.alloc _).setF2 _,by omega,rC hb,kU.one (lev:=1) (qp _ (by show w.heap.size + 1 + 1 < _;omega)) (by omega) (fun f hf=>rW hb hf)⟩
theorem pP (w : World) {t : TI} {p : NPl} (h : yT w t p) : Calls Tryz.prog 45 #[Cn t p] w (tF w (fT t)):=by
 have HT : Hid (∀ W,Bw w W -> yT W t p):=fun W M=>h.below M;have hm:=h.md;have hn:=h.nm;have hl:=h.len;unfold Cn;obtain ⟨A,Q⟩:=xe (t.op);have l : Hid (t.op = A):=Q.symm;obtain ⟨d,O⟩:=xe (((w.alloc (.cells #[.int .i64 A,.string t.md,.string t.nm,.slice p.a t.ns.length p.c] 80)).alloc (.cells #[.int .i64 0,.slice none 0 0,.slice none 0 0] 112)).alloc (.cells #[.int .i64 1,.slice none 0 0,.slice none 0 0] 112))
 have m : Hid (R3 w d w.heap.size 80 4 (v4 (.int .i64 A) (.string t.md) (.string t.nm) (.slice p.a t.ns.length p.c)) (v3 (.int .i64 1) (.slice none 0 0) (.slice none 0 0))):=by
  have r1:=fK w (.int .i64 A) (.string t.md) (.string t.nm) (.slice p.a t.ns.length p.c) 80;have r2:=ej (w.alloc (.cells #[.int .i64 A,.string t.md,.string t.nm,.slice p.a t.ns.length p.c] 80)) (.int .i64 0) (.slice none 0 0) (.slice none 0 0) 112;have r3:=ej ((w.alloc (.cells #[.int .i64 A,.string t.md,.string t.nm,.slice p.a t.ns.length p.c] 80)).alloc (.cells #[.int .i64 0,.slice none 0 0,.slice none 0 0] 112)) (.int .i64 1) (.slice none 0 0) (.slice none 0 0) 112;simp only [World.size_alloc] at r2 r3;rw [O];exact ⟨(r1.alloc _).alloc _,r2.alloc _,r3,(eM _ _ _).alloc (by simp;omega) _,nlr _⟩
 have K : Hid (d.heap.size = w.heap.size + 3):=by show _ = _;rw [O];simp
 rw [<- Q];clear Q h;go_enter Tryz.func45,Tryz.ntmps45
 go_upto_block 0 with fail
 rw [<- O];clear O
 go_cut [5] (fun s5 wc=>∃ (ok : Bool) (E H : ByteArray) (a' : Option Addr) (U c' : Nat) (L : Int) (s : Option Addr) (Y v : Nat) (o : Option Addr) (nn q : Nat),s5 = .bool ok /\ Hid (Cl w t wc ok E H a' U c' L s Y v o nn q))
 case first=>
  have y1 : d.cell? ⟨w.heap.size,1,none⟩ = some (.string t.md):=m.out.box.cell (i:=1) (by omega);have y2 : d.cell? ⟨w.heap.size,2,none⟩ = some (.string t.nm):=m.out.box.cell (i:=2) (by omega);have y3 : d.cell? ⟨w.heap.size,3,none⟩ = some (.slice p.a t.ns.length p.c):=m.out.box.cell (i:=3) (by omega);by_cases o1 : A = 1
  ·subst o1
   have q2 : (d.alloc (.cells #[.string ⟨#[105,110,116]⟩] 9)).cell? ⟨w.heap.size + 1 + 1,2,none⟩ = some (.slice none 0 0):=(m.out.frm.alloc _).cell (i:=2) (by omega);have q3:=(m.out.frm.alloc (.cells #[.string ⟨#[105,110,116]⟩] 9)).frozen 2;go_wp2;go_meet
   case rel=>exact ⟨true,t.md,t.nm,p.a,t.ns.length,p.c,1,some ⟨d.heap.size,0,none⟩,1,1,none,0,0,rfl,qG l.out m.out ((jV l.out).1 rfl) K.out⟩
  by_cases o2 : A = 2
  ·subst o2
   have q2 : (d.alloc (.cells #[.string ⟨#[98,111,111,108]⟩] 9)).cell? ⟨w.heap.size + 1 + 1,2,none⟩ = some (.slice none 0 0):=(m.out.frm.alloc _).cell (i:=2) (by omega);have q3:=(m.out.frm.alloc (.cells #[.string ⟨#[98,111,111,108]⟩] 9)).frozen 2;go_wp2;go_meet
   case rel=>exact ⟨true,t.md,t.nm,p.a,t.ns.length,p.c,1,some ⟨d.heap.size,0,none⟩,1,1,none,0,0,rfl,qG l.out m.out ((jV l.out).2.1 rfl) K.out⟩
  by_cases o3 : A = 3
  ·subst o3
   have q2 : (d.alloc (.cells #[.string ⟨#[63]⟩] 9)).cell? ⟨w.heap.size + 1 + 1,2,none⟩ = some (.slice none 0 0):=(m.out.frm.alloc _).cell (i:=2) (by omega);have q3:=(m.out.frm.alloc (.cells #[.string ⟨#[63]⟩] 9)).frozen 2;go_wp2;go_meet
   case rel=>exact ⟨true,t.md,t.nm,p.a,t.ns.length,p.c,1,some ⟨d.heap.size,0,none⟩,1,1,none,0,0,rfl,qG l.out m.out ((jV l.out).2.2.1 rfl) K.out⟩
  by_cases o6 : A = 6
  ·subst o6
   have bs:=(jV l.out).2.2.2 rfl;have SF:=fh (ff:=fT t) m.out 0 [1,0] [e0,iu,e0] (fun f D=>rW bs D) _ rfl;have an : Hid _:=SF;have a4 : Hid _:=bs;clear SF bs;have N:=(m.out.frm.alloc (.cells #[.int .i64 1,.int .i64 0] 3)).alloc (.cells #[.string ⟨#[]⟩,.string ⟨#[32,45,62,32]⟩,.string ⟨#[]⟩] 9);have q0:=N.cell (i:=0) (by omega);have q1:=N.cell (i:=1) (by omega);have q2:=N.cell (i:=2) (by omega);have g0:=N.frozen 0;have g1:=N.frozen 1;have g2:=N.frozen 2;clear N;go_wp2;go_meet
   case rel=>
    refine ⟨true,t.md,t.nm,p.a,t.ns.length,p.c,0,some ⟨d.heap.size + 1,0,none⟩,3,3,some ⟨d.heap.size,0,none⟩,2,2,rfl,?_⟩;have s1:=an.out.1;exact ⟨by rw [l.out];exact s1,by omega,rC a4.out,an.out.2⟩
  by_cases o4 : A = 4
  ·subst o4
   obtain ⟨x,hx⟩:=xe (ia t.md t.nm);obtain ⟨b,M⟩:=xe (aI t.md t.nm);have C1 : Hid (∀ W,Calls Tryz.prog 71 #[.string t.md,.string t.nm] W fun e C=>e = .returned (.string x) /\ C = W):=fun W=>by rw [hx];exact ip W t.md t.nm hm hn
   have C2 : Hid (∀ W,Calls Tryz.prog 72 #[.string t.md,.string t.nm] W fun e C=>e = .returned (.bool b) /\ C = W):=fun W=>by rw [M];exact ko W t.md t.nm hm hn
   have P : Hid (∀ (V : World),V = ((((d.alloc (.cells #[.string x] 9)).setCell ⟨w.heap.size + 1 + 1,2,none⟩ (.slice (some ⟨d.heap.size,0,none⟩) 1 1)).setCell ⟨w.heap.size,1,none⟩ (.string ⟨#[]⟩)).setCell ⟨w.heap.size,2,none⟩ (.string ⟨#[]⟩)) -> Cl w t V.drew b ⟨#[]⟩ ⟨#[]⟩ p.a t.ns.length p.c 1 (some ⟨d.heap.size,0,none⟩) 1 1 none 0 0):=fun V hV=>by
    have e:=yu l.out;rw [<- hx,<- M] at e;refine ⟨?_,by omega,?_,kU.one (lev:=1) (x:=x) ?_ (by have:=K.out;omega) fun f D=>?_⟩
    ·rw [hV,l.out]
     exact (((((m.out.alloc _).setF2 _).setB 1 _).setB 2 _).congr (fun i hi=>by
      match i,hi with
      | 0,_=>rfl
      | 1,_=>rfl
      | 2,_=>rfl
      | 3,_=>rfl) (fun _ _=>rfl)).drew
    ·rw [e]
     rw [show decide ((⟨#[]⟩ : ByteArray).size = 0) = true from rfl];cases b <;> by_cases z : t.ns.length = 0 <;> simp [z]
    ·have:=K.out
     have r:=((((aK d (.string x) 9).setOther (a:=⟨w.heap.size + 1 + 1,2,none⟩) (by show d.heap.size ≠ w.heap.size + 1 + 1;omega) (.slice (some ⟨d.heap.size,0,none⟩) 1 1)).setOther (a:=⟨w.heap.size,1,none⟩) (by show d.heap.size ≠ w.heap.size;omega) (.string ⟨#[]⟩)).setOther (a:=⟨w.heap.size,2,none⟩) (by show d.heap.size ≠ w.heap.size;omega) (.string ⟨#[]⟩));rw [hV];exact r.cell (i:=0) (by omega)
    ·rw [e] at D
     split at D
     ·cases D;rfl
     ·cases D
   clear hx M;have N:=m.out.frm.alloc (.cells #[.string x] 9);have X:=m.out.box.alloc (.cells #[.string x] 9);have q2 : (d.alloc (.cells #[.string x] 9)).cell? ⟨w.heap.size + 1 + 1,2,none⟩ = some (.slice none 0 0):=N.cell (i:=2) (by omega);have g2:=N.frozen 2;have b1 : (d.alloc (.cells #[.string x] 9)).cell? ⟨w.heap.size,1,none⟩ = some (.string t.md):=X.cell (i:=1) (by omega);have b2 : (d.alloc (.cells #[.string x] 9)).cell? ⟨w.heap.size,2,none⟩ = some (.string t.nm):=X.cell (i:=2) (by omega);have b3:=X.frozen 1;have b4:=X.frozen 2
   have HK : Hid (((d.alloc (.cells #[.string x] 9)).setCell ⟨w.heap.size + 1 + 1,2,none⟩ (.slice (some ⟨d.heap.size,0,none⟩) 1 1)).cell? ⟨w.heap.size,1,none⟩ = some (.string t.md) /\ ((d.alloc (.cells #[.string x] 9)).setCell ⟨w.heap.size + 1 + 1,2,none⟩ (.slice (some ⟨d.heap.size,0,none⟩) 1 1)).cell? ⟨w.heap.size,2,none⟩ = some (.string t.nm)):=by
    have r:=X.setOther (a:=⟨w.heap.size + 1 + 1,2,none⟩) (by show w.heap.size ≠ w.heap.size + 1 + 1;omega) (.slice (some ⟨d.heap.size,0,none⟩) 1 1);exact ⟨r.cell (i:=1) (by omega),r.cell (i:=2) (by omega)⟩
   clear N X;go_wp2
   go_region_held3 (fun C=>C.cell? ⟨w.heap.size,1,none⟩ = some (.string t.md) /\ C.cell? ⟨w.heap.size,2,none⟩ = some (.string t.nm)) (first | exact HK.out | exact HK.out.1 | exact HK.out.2 | go_keep) (first
    | (go_at_call 71;(with_reducible refine (C1.out _).mono ?_);rintro r0 u0 ⟨rfl,rfl⟩)
    | (go_at_call 72;(with_reducible refine (C2.out _).mono ?_);rintro r1 u1 ⟨rfl,rfl⟩))
   all_goals
    go_wp2;go_meet
    case rel=>
     exact ⟨b,⟨#[]⟩,⟨#[]⟩,p.a,t.ns.length,p.c,1,some ⟨d.heap.size,0,none⟩,1,1,none,0,0,rfl,P.out _ rfl⟩
  by_cases o5 : A = 5
  ·subst o5
   obtain ⟨f,D⟩:=xe (fF t.ns dz 1);obtain ⟨b,M⟩:=xe (dN t.ns)
   have E1 : Hid (∀ W,R3 w W w.heap.size 80 4 (v4 (.int .i64 5) (.string t.md) (.string t.nm) (.slice p.a t.ns.length p.c)) (v3 (.int .i64 1) (.slice none 0 0) (.slice none 0 0)) -> Calls Tryz.prog 73 #[.slice p.a t.ns.length p.c,.string ⟨#[58,32]⟩,.int .i64 1] W fun e C=>∃ (o s : Option Addr) (I J q v : Nat),e = .returned (.agg #[.int .i64 (f.lev : Int),.slice o f.needs.length q,.slice s f.texts.length v]) /\ Hid (R3 w C w.heap.size 80 4 (v4 (.int .i64 5) (.string t.md) (.string t.nm) (.slice p.a t.ns.length p.c)) (v3 (.int .i64 1) (.slice none 0 0) (.slice none 0 0))) /\ Hid (jT C f o s I J /\ f.needs.length <= q /\ f.texts.length <= v /\ w.heap.size + 1 + 1 < I /\ w.heap.size + 1 + 1 < J)):=fun W hR=>by
    have T:=HT.out W hR.bel;have hs:=hR.size;refine (nW W T.ns T.len T.sz T.cap dz (by decide) 1).mono ?_;rintro e C ⟨o,s,I,J,q,v,rfl,F,n1,n2,n3,n4,B⟩;rw [<- D] at F n1 n2;exact ⟨o,s,I,J,q,v,by rw [D];rfl,hR.below (B.mono (by omega)),F,n1,n2,by omega,by omega⟩
   have E2 : Hid (∀ W,R3 w W w.heap.size 80 4 (v4 (.int .i64 5) (.string t.md) (.string t.nm) (.slice p.a t.ns.length p.c)) (v3 (.int .i64 1) (.slice none 0 0) (.slice none 0 0)) -> Calls Tryz.prog 74 #[.slice p.a t.ns.length p.c] W fun e C=>e = .returned (.bool b) /\ Hid (R3 w C w.heap.size 80 4 (v4 (.int .i64 5) (.string t.md) (.string t.nm) (.slice p.a t.ns.length p.c)) (v3 (.int .i64 1) (.slice none 0 0) (.slice none 0 0))) /\ Hid (Bw W C)):=fun W hR=>by
    have T:=HT.out W hR.bel;have hs:=hR.size;refine (jO W T.ns T.len T.sz rfl T.cap).mono ?_;rintro e C ⟨rfl,B⟩;exact ⟨by rw [M],hR.below (B.mono (by omega)),B⟩
   have P : Hid (∀ (V u : World) (o s : Option Addr) (I J q v : Nat),R3 w u w.heap.size 80 4 (v4 (.int .i64 5) (.string t.md) (.string t.nm) (.slice p.a t.ns.length p.c)) (v3 (.int .i64 1) (.slice none 0 0) (.slice none 0 0)) -> (jT u f o s I J /\ f.needs.length <= q /\ f.texts.length <= v /\ w.heap.size + 1 + 1 < I /\ w.heap.size + 1 + 1 < J) -> V = ((((u.setCell ⟨w.heap.size + 1 + 1,0,none⟩ (.int .i64 (f.lev : Int))).setCell ⟨w.heap.size + 1 + 1,1,none⟩ (.slice o f.needs.length q)).setCell ⟨w.heap.size + 1 + 1,2,none⟩ (.slice s f.texts.length v)).setCell ⟨w.heap.size,3,none⟩ (.slice none 0 0)) -> Cl w t V b t.md t.nm none 0 0 (f.lev : Int) s f.texts.length v o f.needs.length q):=fun V u o s I J q v hR hF hV=>by
    have e:=xg l.out;rw [<- D,<- M] at e;obtain ⟨F,n1,n2,n3,n4⟩:=hF;refine ⟨?_,?_,?_,fun g hg=>?_⟩
    ·rw [hV,l.out]
     exact (((hR.setF3 _ _ _).setB 3 _).congr (fun i hi=>by
      match i,hi with
      | 0,_=>rfl
      | 1,_=>rfl
      | 2,_=>rfl
      | 3,_=>rfl) (fun _ _=>rfl))
    ·rw [D,(bq _ _ _).2.1];exact hl
    ·rw [e]
     cases b <;> by_cases z1 : t.md.size = 0 <;> by_cases z2 : t.nm.size = 0 <;> simp [z1,z2]
    ·have bf : g = f:=by
      rw [e] at hg
      split at hg
      ·split at hg
       ·cases hg;rfl
       ·cases hg
      ·cases hg
     rw [bf]
     have blk : ∀ k,w.heap.size + 1 + 1 < k -> V.heap[k]? = u.heap[k]?:=fun k hk=>by
      have ne : ∀ j,k ≠ (⟨w.heap.size + 1 + 1,j,none⟩ : Addr).block:=fun j=>by show k ≠ w.heap.size + 1 + 1;omega
      have bx : k ≠ (⟨w.heap.size,3,none⟩ : Addr).block:=by show k ≠ w.heap.size;omega
      rw [hV,Below.heap_setCell _ _ _ _ bx,Below.heap_setCell _ _ _ _ (ne 2),Below.heap_setCell _ _ _ _ (ne 1),Below.heap_setCell _ _ _ _ (ne 0)]
     exact ⟨I,J,rfl,F.of_blocks (blk I n3) (blk J n4),n1,n2,n3,n4⟩
   have Z : Hid (∀ u,R3 w u w.heap.size 80 4 (v4 (.int .i64 5) (.string t.md) (.string t.nm) (.slice p.a t.ns.length p.c)) (v3 (.int .i64 1) (.slice none 0 0) (.slice none 0 0)) -> (u.cell? ⟨w.heap.size,3,none⟩ = some (.slice p.a t.ns.length p.c) /\ u.frozen? ⟨w.heap.size,3,none⟩ = false) /\ (u.cell? ⟨w.heap.size + 1 + 1,0,none⟩ = some (.int .i64 1) /\ u.cell? ⟨w.heap.size + 1 + 1,1,none⟩ = some (.slice none 0 0) /\ u.cell? ⟨w.heap.size + 1 + 1,2,none⟩ = some (.slice none 0 0)) /\ u.frozen? ⟨w.heap.size + 1 + 1,0,none⟩ = false /\ u.frozen? ⟨w.heap.size + 1 + 1,1,none⟩ = false /\ u.frozen? ⟨w.heap.size + 1 + 1,2,none⟩ = false):=fun u h=>
    ⟨⟨h.box.cell (i:=3) (by omega),h.box.frozen 3⟩,⟨h.frm.cell (i:=0) (by omega),h.frm.cell (i:=1) (by omega),h.frm.cell (i:=2) (by omega)⟩,h.frm.frozen 0,h.frm.frozen 1,h.frm.frozen 2⟩
   have a6 : Hid (∀ (u : World) (x y z : Value),R3 w u w.heap.size 80 4 (v4 (.int .i64 5) (.string t.md) (.string t.nm) (.slice p.a t.ns.length p.c)) (v3 (.int .i64 1) (.slice none 0 0) (.slice none 0 0)) -> (((u.setCell ⟨w.heap.size + 1 + 1,0,none⟩ x).setCell ⟨w.heap.size + 1 + 1,1,none⟩ y).setCell ⟨w.heap.size + 1 + 1,2,none⟩ z).cell? ⟨w.heap.size,3,none⟩ = some (.slice p.a t.ns.length p.c)):=fun u x y z h=>(h.setF3 x y z).box.cell (i:=3) (by omega);clear D M;go_wp2
   go_region_held3 (fun C=>C.cell? ⟨w.heap.size,3,none⟩ = some (.slice p.a t.ns.length p.c)) (first | (with_reducible exact a6.out _ _ _ _ R1.out) | go_keep) (first
    | (go_at_call 73;(with_reducible refine (E1.out _ (by first | (with_reducible exact m.out) | (with_reducible exact m.out.drew))).mono ?_);rintro r0 u0 ⟨o,s,I,J,q,v,rfl,R0,F0⟩;obtain ⟨⟨m0,m1⟩,⟨m2,m3,m4⟩,m5,m6,m7⟩:=Z.out u0 R0.out)
    | (go_at_call 74;(with_reducible refine (E2.out _ (by first | (with_reducible exact R0.out) | (with_reducible exact R0.out.drew))).mono ?_);rintro r1 u1 ⟨rfl,R1,V1⟩;obtain ⟨⟨l0,l1⟩,⟨l2,l3,l4⟩,l5,l6,l7⟩:=Z.out u1 R1.out))
   all_goals
    go_wp2;go_meet
    case rel=>
     exact ⟨b,t.md,t.nm,none,0,0,(f.lev : Int),s,f.texts.length,v,o,f.needs.length,q,rfl,P.out _ u1 o s I J q v R1.out ⟨F0.out.1.below V1.out,F0.out.2⟩ rfl⟩
  ·have c1 : (A == 1) = false:=bn2 o1
   have c2 : (A == 2) = false:=bn2 o2;have c3 : (A == 3) = false:=bn2 o3;have c4 : (A == 4) = false:=bn2 o4;have c5 : (A == 5) = false:=bn2 o5;have c6 : (A == 6) = false:=bn2 o6;have ab : Hid (fT t = none):=yx (by rw [l.out];exact ⟨o1,o2,o3,o4,o5,o6⟩);go_wp2;go_meet
   case rel=>exact ⟨false,t.md,t.nm,p.a,t.ns.length,p.c,1,none,0,0,none,0,0,rfl,⟨by rw [l.out];exact m.out,by omega,by rw [ab.out];rfl,fun f D=>by rw [ab.out] at D;cases D⟩⟩
 case rest=>
  obtain ⟨ok,E,H,a',U,c',L,s,Y,v,o,nn,q,rfl,S⟩:=hcut;have R:=S.out.r;have k1 : wc.cell? ⟨w.heap.size,1,none⟩ = some (.string E):=R.box.cell (i:=1) (by omega);have k2 : wc.cell? ⟨w.heap.size,2,none⟩ = some (.string H):=R.box.cell (i:=2) (by omega);have k3 : wc.cell? ⟨w.heap.size,3,none⟩ = some (.slice a' U c'):=R.box.cell (i:=3) (by omega);have f0 : wc.cell? ⟨w.heap.size + 1 + 1,0,none⟩ = some (.int .i64 L):=R.frm.cell (i:=0) (by omega);have f1 : wc.cell? ⟨w.heap.size + 1 + 1,1,none⟩ = some (.slice o nn q):=R.frm.cell (i:=1) (by omega);have f2 : wc.cell? ⟨w.heap.size + 1 + 1,2,none⟩ = some (.slice s Y v):=R.frm.cell (i:=2) (by omega);have r0 : wc.cell? ⟨w.heap.size + 1,0,none⟩ = some (.int .i64 0):=R.res.cell (i:=0) (by omega);have r1 : wc.cell? ⟨w.heap.size + 1,1,none⟩ = some (.slice none 0 0):=R.res.cell (i:=1) (by omega);have r2 : wc.cell? ⟨w.heap.size + 1,2,none⟩ = some (.slice none 0 0):=R.res.cell (i:=2) (by omega);have t0:=R.res.frozen 0;have t1:=R.res.frozen 1;have t2:=R.res.frozen 2
  have HG : Hid (∀ (b : Bool),b = (ok && decide (E.size = 0) && decide (H.size = 0) && decide (U = 0)) -> ∀ V : World,V = (((wc.setCell ⟨w.heap.size + 1,0,none⟩ (.int .i64 L)).setCell ⟨w.heap.size + 1,1,none⟩ (.slice o nn q)).setCell ⟨w.heap.size + 1,2,none⟩ (.slice s Y v)) -> V.drew.rowIs (w.heap.size + 1) 112 3 (v3 (.int .i64 L) (.slice o nn q) (.slice s Y v)) /\ tF w (fT t) (.returned (.tuple #[.agg #[.int .i64 L,.slice o nn q,.slice s Y v],.bool b])) V.drew):=fun b M V hV=>by
   have G:=S.out.r.give S.out.n S.out.fm (b:=b) (by rw [M,S.out.is]);rw [hV];exact ⟨G.1.drew,G.2.drew⟩
  clear R m S
  cases ok with
  | false=>
    go_wp2
    go_region
    all_goals
     go_wp2;have G:=HG.out false (by show _ = _;rfl) _ rfl;exact bodyPost_ret (je G.1 _ rfl rfl) rfl G.2
  | true=>
    by_cases z1 : E.size = 0
    ·have e1 : E = ByteArray.empty:=bJ z1
     subst e1;by_cases z2 : H.size = 0
     ·have e2 : H = ByteArray.empty:=bJ z2
      subst e2;by_cases z3 : U = 0
      ·subst z3
       go_wp2
       go_region
       all_goals
        go_wp2;have G:=HG.out true (by show _ = _;rfl) _ rfl;exact bodyPost_ret (je G.1 _ rfl rfl) rfl G.2
      ·have z4 : ((U : Int) == 0) = false:=bn2 (by omega)
       go_wp2
       go_region
       all_goals
        go_wp2;have G:=HG.out false (by show _ = _;rw [decide_eq_false z3];simp) _ rfl;exact bodyPost_ret (je G.1 _ rfl rfl) rfl G.2
     ·have e2:=gL z2
      go_wp2
      go_region
      all_goals
       go_wp2;have G:=HG.out false (by show _ = _;rw [decide_eq_false z2];simp) _ rfl;exact bodyPost_ret (je G.1 _ rfl rfl) rfl G.2
    ·have e1:=gL z1
     go_wp2
     go_region
     all_goals
      go_wp2;have G:=HG.out false (by show _ = _;rw [decide_eq_false z1];simp) _ rfl;exact bodyPost_ret (je G.1 _ rfl rfl) rfl G.2
end Go.Proofs.YtihedobejcaapaaGreatDoor
