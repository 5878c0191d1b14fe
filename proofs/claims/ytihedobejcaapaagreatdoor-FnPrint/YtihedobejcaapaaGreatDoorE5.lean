/-
  YeL
-/
import Derived.Test.YtihedobejcaapaaGreatDoorE4
set_option maxHeartbeats 16000000
set_option maxRecDepth 100000
namespace Go.Proofs.YtihedobejcaapaaGreatDoor
open Go.RowKit
structure lO (w : World) (op : Int) (ff : Option Fm) (wc : World) (ok : Bool) (num' : Int) (md' nm' : ByteArray) (a' : Option Addr) (n' c' : Nat) (b' : Option Addr) (m' d' : Nat) (L : Int) (ta : Option Addr) (tn tc : Nat) (na : Option Addr) (nn nc : Nat) : Prop where
 r : R3 w wc (w.heap.size + 1) 65 6 (v6 (.int .i64 op) (.int .i64 num') (.string md') (.string nm') (.slice a' n' c') (.slice b' m' d')) (v3 (.int .i64 L) (.slice na nn nc) (.slice ta tn tc))
 n : nn <= 1048576
 is : iX ok num' md' nm' n' m' = ff.isSome
 fm : kU (w.heap.size + 1) wc ff L ta tn tc na nn nc
theorem fA {V : World} {X : Nat} {a b c d : Value} (r : V.rowIs X 112 3 (v3 a b c)) (tmps : Array Value) (h2 : tmps[4]?.getD undef = .pointer (some ⟨X,0,none⟩)) (h3 : tmps[5]?.getD undef = d) :
  (results Tryz.f47 tmps).run Tryz.prog V = .ok (.tuple #[.agg #[a,b,c],d]) V:=by
 have g : V.cell? ⟨X,0,none⟩ = some a:=r.cell (i:=0) (by omega);have f : V.cell? ⟨X,1,none⟩ = some b:=r.cell (i:=1) (by omega);have e : V.cell? ⟨X,2,none⟩ = some c:=r.cell (i:=2) (by omega);unfold results;rw [show Tryz.f47.results = #[.cell 4 112,.tmp 5] from rfl];simp [go_sem,h2,h3,g,f,e]
theorem iG {f : Nat -> Value} {a b c d e g : Value} (h0 : f 0 = a) (h1 : f 1 = b) (h2 : f 2 = c) (h3 : f 3 = d) (h4 : f 4 = e) (h5 : f 5 = g) : ∀ i,i < 6 -> f i = v6 a b c d e g i:=fun i hi=>by
 match i,hi with
 | 0,_=>exact h0
 | 1,_=>exact h1
 | 2,_=>exact h2
 | 3,_=>exact h3
 | 4,_=>exact h4
 | 5,_=>exact h5
theorem s9 {w W : World} {X : Nat} {bt : TypeId} {bn : Nat} {bv fv : Nat -> Value} {ff : Option Fm} (h : R3 w W X bt bn bv fv) (lev : Nat) (ns : List Nat) (ts : List ByteArray) (hff : ∀ f,ff = some f -> f = ⟨lev,ns,ts⟩) (W1 : World)
  (hW : W1 = ((((W.alloc (.cells (ts.map Value.string).toArray 9)).alloc (.cells (ns.map fun n : Nat=>Value.int .i64 (n : Int)).toArray 3)).setCell ⟨X + 1 + 1,0,none⟩ (.int .i64 (lev : Int))).setCell ⟨X + 1 + 1,1,none⟩ (.slice (some ⟨W.heap.size + 1,0,none⟩) ns.length ns.length)).setCell ⟨X + 1 + 1,2,none⟩ (.slice (some ⟨W.heap.size,0,none⟩) ts.length ts.length)) :
  R3 w W1 X bt bn bv (v3 (.int .i64 (lev : Int)) (.slice (some ⟨W.heap.size + 1,0,none⟩) ns.length ns.length) (.slice (some ⟨W.heap.size,0,none⟩) ts.length ts.length)) /\ kU X W1 ff (lev : Int) (some ⟨W.heap.size,0,none⟩) ts.length ts.length (some ⟨W.heap.size + 1,0,none⟩) ns.length ns.length:=by
 have i:=h.size;refine ⟨by rw [hW];exact ((h.alloc _).alloc _).setF3 _ _ _,fun f hf=>?_⟩;rw [hff f hf];have c:=eE (W.alloc (.cells (ts.map Value.string).toArray 9)) (ns.map fun n : Nat=>Value.int .i64 (n : Int)) 3;have g:=(eE W (ts.map Value.string) 9).alloc (.cells (ns.map fun n : Nat=>Value.int .i64 (n : Int)).toArray 3);rw [World.size_alloc] at c;rw [List.length_map] at c g;have a : ∀ b j,X + 1 + 1 < b -> b ≠ (⟨X + 1 + 1,j,none⟩ : Addr).block:=fun b j hb=>by show b ≠ X + 1 + 1;omega
 have e:=((c.setOther (a _ 0 (by omega)) (.int .i64 (lev : Int))).setOther (a _ 1 (by omega)) (.slice (some ⟨W.heap.size + 1,0,none⟩) ns.length ns.length)).setOther (a _ 2 (by omega)) (.slice (some ⟨W.heap.size,0,none⟩) ts.length ts.length);have d:=((g.setOther (a _ 0 (by omega)) (.int .i64 (lev : Int))).setOther (a _ 1 (by omega)) (.slice (some ⟨W.heap.size + 1,0,none⟩) ns.length ns.length)).setOther (a _ 2 (by omega)) (.slice (some ⟨W.heap.size,0,none⟩) ts.length ts.length);rw [<- hW] at e d;refine ⟨W.heap.size + 1,W.heap.size,rfl,⟨fun _=>rfl,fun k hk=>?_,fun _=>rfl,fun k hk=>?_⟩,nlr _,nlr _,by omega,by omega⟩
 ·rw [e.cell hk,List.getD_eq_getElem?_getD,List.getElem?_map,List.getElem?_eq_getElem hk]
  rfl
 ·rw [d.cell hk,List.getD_eq_getElem?_getD,List.getElem?_map,List.getElem?_eq_getElem hk]
  rfl
theorem lO.of {w wc : World} {op : Int} {ff : Option Fm} {ok : Bool} {num' : Int} {md' nm' : ByteArray} {a' : Option Addr} {n' c' : Nat} {b' : Option Addr} {m' d' : Nat} {L : Int} {ta : Option Addr} {tn tc : Nat} {na : Option Addr} {nn nc : Nat} {F : Fm}
  (r : R3 w wc (w.heap.size + 1) 65 6 (v6 (.int .i64 op) (.int .i64 num') (.string md') (.string nm') (.slice a' n' c') (.slice b' m' d')) (v3 (.int .i64 L) (.slice na nn nc) (.slice ta tn tc))) (n : nn <= 1048576) (hff : ff = if iX ok num' md' nm' n' m' then some F else none) (fm : kU (w.heap.size + 1) wc ff L ta tn tc na nn nc) : lO w op ff wc ok num' md' nm' a' n' c' b' m' d' L ta tn tc na nn nc:=
 ⟨r,n,db hff,fm⟩
theorem kU.drew {X : Nat} {wc : World} {ff : Option Fm} {L : Int} {ta : Option Addr} {tn tc : Nat} {na : Option Addr} {nn nc : Nat} (h : kU X wc ff L ta tn tc na nn nc) : kU X wc.drew ff L ta tn tc na nn nc:=fun f hf=>by
 obtain ⟨nb,tb,e,F,r⟩:=h f hf;exact ⟨nb,tb,e,F.drew,r⟩
theorem kU.of_blocks {X : Nat} {W wc : World} {ff : Option Fm} {L : Int} {ta : Option Addr} {tn tc : Nat} {na : Option Addr} {nn nc : Nat} (h : kU X W ff L ta tn tc na nn nc) (hb : ∀ b,X + 1 + 1 < b -> wc.heap[b]? = W.heap[b]?) : kU X wc ff L ta tn tc na nn nc:=fun f hf=>by
 obtain ⟨nb,tb,e,F,h1,h2,h3,h4⟩:=h f hf;exact ⟨nb,tb,e,F.of_blocks (hb nb h3) (hb tb h4),h1,h2,h3,h4⟩
theorem qa (w : World) {e : EI} {p : EPl} (h : Av w e p) {ta0 : Option Addr} {tc0 : Nat} (htv : p.tv = .slice ta0 e.ty.length tc0) (hnum : fG e.num) (hten : sq w) (hcost : bQ e.ty <= 1048576) (lim : Nat) (hlim : lim <= 1000000) :
  Calls Tryz.prog 47 #[.agg #[.int .i64 (lim : Int)],.agg #[.int .i64 e.op,.int .i64 e.num,.string e.md,.string e.nm,.slice p.np.a e.ns.length p.np.c,.slice ta0 e.ty.length tc0]] w (tF w (ir lim e)):=by
 have HT : Hid (∀ W,Bw w W -> Av W e p):=fun W C=>h.below C;have f6:=hQx htv;have de : Hid (∀ W,Bw w W -> sq W):=fun W C=>hten.below C;have ex:=hQx hcost;have dn:=hQx hnum;have hm:=h.md;have hn:=h.nm;have hl:=h.len;obtain ⟨A,cb⟩:=xe (ir lim e);have N : Hid (A = ir lim e):=cb;obtain ⟨op,b0⟩:=xe (e.op);have M : Hid (e.op = op):=b0.symm;obtain ⟨d,a9⟩:=xe ((((w.alloc (.cells #[.int .i64 (lim : Int)] 56)).alloc (.cells #[.int .i64 op,.int .i64 e.num,.string e.md,.string e.nm,.slice p.np.a e.ns.length p.np.c,.slice ta0 e.ty.length tc0] 65)).alloc (.cells #[.int .i64 0,.slice none 0 0,.slice none 0 0] 112)).alloc (.cells #[.int .i64 4,.slice none 0 0,.slice none 0 0] 112))
 have s : Hid (R3 w d (w.heap.size + 1) 65 6 (v6 (.int .i64 op) (.int .i64 e.num) (.string e.md) (.string e.nm) (.slice p.np.a e.ns.length p.np.c) (.slice ta0 e.ty.length tc0)) (v3 (.int .i64 4) (.slice none 0 0) (.slice none 0 0))):=by
  have r1:=ls (w.alloc (.cells #[.int .i64 (lim : Int)] 56)) (.int .i64 op) (.int .i64 e.num) (.string e.md) (.string e.nm) (.slice p.np.a e.ns.length p.np.c) (.slice ta0 e.ty.length tc0) 65;have r2:=ej ((w.alloc (.cells #[.int .i64 (lim : Int)] 56)).alloc (.cells #[.int .i64 op,.int .i64 e.num,.string e.md,.string e.nm,.slice p.np.a e.ns.length p.np.c,.slice ta0 e.ty.length tc0] 65)) (.int .i64 0) (.slice none 0 0) (.slice none 0 0) 112;have r3:=ej (((w.alloc (.cells #[.int .i64 (lim : Int)] 56)).alloc (.cells #[.int .i64 op,.int .i64 e.num,.string e.md,.string e.nm,.slice p.np.a e.ns.length p.np.c,.slice ta0 e.ty.length tc0] 65)).alloc (.cells #[.int .i64 0,.slice none 0 0,.slice none 0 0] 112)) (.int .i64 4) (.slice none 0 0) (.slice none 0 0) 112;simp only [World.size_alloc] at r1 r2 r3;rw [a9];exact ⟨(r1.alloc _).alloc _,r2.alloc _,r3,((eM _ _ _).alloc (by simp;omega) _).alloc (by simp;omega) _,by omega⟩
 have dt : Hid (d.rowIs w.heap.size 56 1 (fun _=>.int .i64 (lim : Int))):=by rw [a9];exact (((aK w (.int .i64 (lim : Int)) 56).alloc _).alloc _).alloc _
 have d0 : Hid (d.heap.size = w.heap.size + 4):=by show _ = _;rw [a9];simp
 rw [<- b0,<- cb];clear b0 h htv hten hcost hnum cb;go_enter Tryz.func47,Tryz.ntmps47
 go_upto_block 0 with fail
 rw [<- a9];clear a9
 go_cut [7] (fun s7 wc=>∃ (ok : Bool) (U : Int) (a3 a2 : ByteArray) (a' : Option Addr) (n' c' : Nat) (b' : Option Addr) (m' d' : Nat) (L : Int) (I : Option Addr) (tn H : Nat) (E : Option Addr) (nn J : Nat),s7 = .bool ok /\ Hid (lO w op A wc ok U a3 a2 a' n' c' b' m' d' L I tn H E nn J))
 case first=>
  have y1 : d.cell? ⟨w.heap.size + 1,1,none⟩ = some (.int .i64 e.num):=s.out.box.cell (i:=1) (by omega);have y2 : d.cell? ⟨w.heap.size + 1,2,none⟩ = some (.string e.md):=s.out.box.cell (i:=2) (by omega);have y3 : d.cell? ⟨w.heap.size + 1,3,none⟩ = some (.string e.nm):=s.out.box.cell (i:=3) (by omega);have y4 : d.cell? ⟨w.heap.size + 1,4,none⟩ = some (.slice p.np.a e.ns.length p.np.c):=s.out.box.cell (i:=4) (by omega);have y5 : d.cell? ⟨w.heap.size + 1,5,none⟩ = some (.slice ta0 e.ty.length tc0):=s.out.box.cell (i:=5) (by omega);by_cases o7 : op = 7
  ·subst o7
   have m:=(wY (lim:=lim) M.out).1 rfl;rw [<- N.out] at m;have D : Hid _:=m;have O : Hid _:=fh (ff:=A) s.out 3 [3,0] [e0,sL,sR] (fun f hf2=>eP m hf2) _ rfl;clear m;have t:=(s.out.frm.alloc (.cells #[.int .i64 3,.int .i64 0] 3)).alloc (.cells #[.string ⟨#[]⟩,.string ⟨#[40]⟩,.string ⟨#[41]⟩] 9);have q0:=t.cell (i:=0) (by omega);have q1:=t.cell (i:=1) (by omega);have q2:=t.cell (i:=2) (by omega);have g0:=t.frozen 0;have g1:=t.frozen 1;have g2:=t.frozen 2;clear t;go_wp2;go_meet
   case rel=>
    exact ⟨true,e.num,e.md,e.nm,p.np.a,e.ns.length,p.np.c,ta0,e.ty.length,tc0,3,some ⟨d.heap.size + 1,0,none⟩,3,3,some ⟨d.heap.size,0,none⟩,2,2,rfl,⟨O.out.1,by omega,db D.out,O.out.2⟩⟩
  by_cases o8 : op = 8
  ·subst o8
   have m:=(wY (lim:=lim) M.out).2.1 rfl;rw [<- N.out] at m;have D : Hid _:=m;have O : Hid _:=fh (ff:=A) s.out 0 [0,0,0] [wP,il,iq,e0] (fun f hf2=>eP m hf2) _ rfl;clear m;have t:=(s.out.frm.alloc (.cells #[.int .i64 0,.int .i64 0,.int .i64 0] 3)).alloc (.cells #[.string ⟨#[105,102,32]⟩,.string ⟨#[32,116,104,101,110,32]⟩,.string ⟨#[32,101,108,115,101,32]⟩,.string ⟨#[]⟩] 9);have q0:=t.cell (i:=0) (by omega);have q1:=t.cell (i:=1) (by omega);have q2:=t.cell (i:=2) (by omega);have g0:=t.frozen 0;have g1:=t.frozen 1;have g2:=t.frozen 2;clear t;go_wp2;go_meet
   case rel=>
    exact ⟨true,e.num,e.md,e.nm,p.np.a,e.ns.length,p.np.c,ta0,e.ty.length,tc0,0,some ⟨d.heap.size + 1,0,none⟩,4,4,some ⟨d.heap.size,0,none⟩,3,3,rfl,⟨O.out.1,by omega,db D.out,O.out.2⟩⟩
  by_cases o9 : op = 9
  ·subst o9
   have m:=(wY (lim:=lim) M.out).2.2.1 rfl;rw [<- N.out] at m;have D : Hid _:=m;have O : Hid _:=fh (ff:=A) s.out 2 [2,3] [e0,mK,e0] (fun f hf2=>eP m hf2) _ rfl;clear m;have t:=(s.out.frm.alloc (.cells #[.int .i64 2,.int .i64 3] 3)).alloc (.cells #[.string ⟨#[]⟩,.string ⟨#[32,43,32]⟩,.string ⟨#[]⟩] 9);have q0:=t.cell (i:=0) (by omega);have q1:=t.cell (i:=1) (by omega);have q2:=t.cell (i:=2) (by omega);have g0:=t.frozen 0;have g1:=t.frozen 1;have g2:=t.frozen 2;clear t;go_wp2;go_meet
   case rel=>
    exact ⟨true,e.num,e.md,e.nm,p.np.a,e.ns.length,p.np.c,ta0,e.ty.length,tc0,2,some ⟨d.heap.size + 1,0,none⟩,3,3,some ⟨d.heap.size,0,none⟩,2,2,rfl,⟨O.out.1,by omega,db D.out,O.out.2⟩⟩
  by_cases bv : op = 10
  ·subst bv
   have m:=(wY (lim:=lim) M.out).2.2.2 rfl;rw [<- N.out] at m;have D : Hid _:=m;have O : Hid _:=fh (ff:=A) s.out 1 [2,2] [e0,iR,e0] (fun f hf2=>eP m hf2) _ rfl;clear m;have t:=(s.out.frm.alloc (.cells #[.int .i64 2,.int .i64 2] 3)).alloc (.cells #[.string ⟨#[]⟩,.string ⟨#[32,60,32]⟩,.string ⟨#[]⟩] 9);have q0:=t.cell (i:=0) (by omega);have q1:=t.cell (i:=1) (by omega);have q2:=t.cell (i:=2) (by omega);have g0:=t.frozen 0;have g1:=t.frozen 1;have g2:=t.frozen 2;clear t;go_wp2;go_meet
   case rel=>
    exact ⟨true,e.num,e.md,e.nm,p.np.a,e.ns.length,p.np.c,ta0,e.ty.length,tc0,1,some ⟨d.heap.size + 1,0,none⟩,3,3,some ⟨d.heap.size,0,none⟩,2,2,rfl,⟨O.out.1,by omega,db D.out,O.out.2⟩⟩
  by_cases o3 : op = 3
  ·subst o3
   obtain ⟨x,P⟩:=xe (ia e.md e.nm);obtain ⟨b,C⟩:=xe (aI e.md e.nm);have Z : Hid (∀ W,Calls Tryz.prog 71 #[.string e.md,.string e.nm] W fun r q=>r = .returned (.string x) /\ q = W):=fun W=>by rw [P];exact ip W e.md e.nm hm hn
   have C2 : Hid (∀ W,Calls Tryz.prog 72 #[.string e.md,.string e.nm] W fun r q=>r = .returned (.bool b) /\ q = W):=fun W=>by rw [C];exact ko W e.md e.nm hm hn
   have m:=De (lim:=lim) M.out;rw [<- N.out,<- P,<- C] at m
   have Q : Hid (∀ (V : World),V = ((((d.alloc (.cells #[.string x] 9)).setCell ⟨w.heap.size + 1 + 1 + 1,2,none⟩ (.slice (some ⟨d.heap.size,0,none⟩) 1 1)).setCell ⟨w.heap.size + 1,2,none⟩ (.string ⟨#[]⟩)).setCell ⟨w.heap.size + 1,3,none⟩ (.string ⟨#[]⟩)) -> lO w 3 A V.drew b e.num ⟨#[]⟩ ⟨#[]⟩ p.np.a e.ns.length p.np.c ta0 e.ty.length tc0 4 (some ⟨d.heap.size,0,none⟩) 1 1 none 0 0):=fun V hV=>by
    have hz:=d0.out;refine lO.of (F:=⟨4,[],[x]⟩) ?_ (by omega) m (kU.one (lev:=4) (x:=x) ?_ (by omega) fun f hf2=>eP m hf2)
    ·rw [hV]
     exact (((((s.out.alloc _).setF2 _).setB 2 _).setB 3 _).congr (iG rfl rfl rfl rfl rfl rfl) (fun _ _=>rfl)).drew
    ·have r:=((((aK d (.string x) 9).setOther (a:=⟨w.heap.size + 1 + 1 + 1,2,none⟩) (by show d.heap.size ≠ w.heap.size + 1 + 1 + 1;omega) (.slice (some ⟨d.heap.size,0,none⟩) 1 1)).setOther (a:=⟨w.heap.size + 1,2,none⟩) (by show d.heap.size ≠ w.heap.size + 1;omega) (.string ⟨#[]⟩)).setOther (a:=⟨w.heap.size + 1,3,none⟩) (by show d.heap.size ≠ w.heap.size + 1;omega) (.string ⟨#[]⟩))
     rw [hV];exact r.cell (i:=0) (by omega)
   clear P C m;have t:=s.out.frm.alloc (.cells #[.string x] 9);have qb:=s.out.box.alloc (.cells #[.string x] 9);have q2 : (d.alloc (.cells #[.string x] 9)).cell? ⟨w.heap.size + 1 + 1 + 1,2,none⟩ = some (.slice none 0 0):=t.cell (i:=2) (by omega);have g2:=t.frozen 2;have b1 : (d.alloc (.cells #[.string x] 9)).cell? ⟨w.heap.size + 1,2,none⟩ = some (.string e.md):=qb.cell (i:=2) (by omega);have b2 : (d.alloc (.cells #[.string x] 9)).cell? ⟨w.heap.size + 1,3,none⟩ = some (.string e.nm):=qb.cell (i:=3) (by omega);have b3:=qb.frozen 2;have b4:=qb.frozen 3
   have HK : Hid (((d.alloc (.cells #[.string x] 9)).setCell ⟨w.heap.size + 1 + 1 + 1,2,none⟩ (.slice (some ⟨d.heap.size,0,none⟩) 1 1)).cell? ⟨w.heap.size + 1,2,none⟩ = some (.string e.md) /\ ((d.alloc (.cells #[.string x] 9)).setCell ⟨w.heap.size + 1 + 1 + 1,2,none⟩ (.slice (some ⟨d.heap.size,0,none⟩) 1 1)).cell? ⟨w.heap.size + 1,3,none⟩ = some (.string e.nm)):=by
    have r:=qb.setOther (a:=⟨w.heap.size + 1 + 1 + 1,2,none⟩) (by show w.heap.size + 1 ≠ w.heap.size + 1 + 1 + 1;omega) (.slice (some ⟨d.heap.size,0,none⟩) 1 1);exact ⟨r.cell (i:=2) (by omega),r.cell (i:=3) (by omega)⟩
   clear t qb;go_wp2
   go_region_held3 (fun q=>q.cell? ⟨w.heap.size + 1,2,none⟩ = some (.string e.md) /\ q.cell? ⟨w.heap.size + 1,3,none⟩ = some (.string e.nm)) (first | exact HK.out | exact HK.out.1 | exact HK.out.2 | go_keep) (first
    | (go_at_call 71;(with_reducible refine (Z.out _).mono ?_);rintro r0 u0 ⟨rfl,rfl⟩)
    | (go_at_call 72;(with_reducible refine (C2.out _).mono ?_);rintro r1 u1 ⟨rfl,rfl⟩))
   all_goals
    go_wp2;go_meet
    case rel=>exact ⟨b,e.num,⟨#[]⟩,⟨#[]⟩,p.np.a,e.ns.length,p.np.c,ta0,e.ty.length,tc0,4,some ⟨d.heap.size,0,none⟩,1,1,none,0,0,rfl,Q.out _ rfl⟩
  by_cases o4 : op = 4
  ·subst o4
   obtain ⟨f,a5⟩:=xe (fF e.ns ft 4);obtain ⟨b,C⟩:=xe (dN e.ns);have m:=Cx (lim:=lim) M.out;rw [<- N.out,<- a5,<- C] at m
   have E1 : Hid (∀ W,R3 w W (w.heap.size + 1) 65 6 (v6 (.int .i64 4) (.int .i64 e.num) (.string e.md) (.string e.nm) (.slice p.np.a e.ns.length p.np.c) (.slice ta0 e.ty.length tc0)) (v3 (.int .i64 4) (.slice none 0 0) (.slice none 0 0)) -> Calls Tryz.prog 73 #[.slice p.np.a e.ns.length p.np.c,.string ⟨#[32,61,32]⟩,.int .i64 4] W fun r q=>∃ (E I : Option Addr) (nb tb J H : Nat),r = .returned (.agg #[.int .i64 (f.lev : Int),.slice E f.needs.length J,.slice I f.texts.length H]) /\ Hid (R3 w q (w.heap.size + 1) 65 6 (v6 (.int .i64 4) (.int .i64 e.num) (.string e.md) (.string e.nm) (.slice p.np.a e.ns.length p.np.c) (.slice ta0 e.ty.length tc0)) (v3 (.int .i64 4) (.slice none 0 0) (.slice none 0 0))) /\ Hid (jT q f E I nb tb /\ f.needs.length <= J /\ f.texts.length <= H /\ w.heap.size + 1 + 1 + 1 < nb /\ w.heap.size + 1 + 1 + 1 < tb)):=fun W hR=>by
    have T:=HT.out W hR.bel;have hs:=hR.size;refine (nW W T.ns T.len T.sz T.cap ft (by decide) 4).mono ?_;rintro r q ⟨E,I,nb,tb,J,H,rfl,F,n1,n2,n3,n4,B⟩;rw [<- a5] at F n1 n2;exact ⟨E,I,nb,tb,J,H,by rw [a5];rfl,hR.below (B.mono (by omega)),F,n1,n2,by omega,by omega⟩
   have E2 : Hid (∀ W,R3 w W (w.heap.size + 1) 65 6 (v6 (.int .i64 4) (.int .i64 e.num) (.string e.md) (.string e.nm) (.slice p.np.a e.ns.length p.np.c) (.slice ta0 e.ty.length tc0)) (v3 (.int .i64 4) (.slice none 0 0) (.slice none 0 0)) -> Calls Tryz.prog 74 #[.slice p.np.a e.ns.length p.np.c] W fun r q=>r = .returned (.bool b) /\ Hid (R3 w q (w.heap.size + 1) 65 6 (v6 (.int .i64 4) (.int .i64 e.num) (.string e.md) (.string e.nm) (.slice p.np.a e.ns.length p.np.c) (.slice ta0 e.ty.length tc0)) (v3 (.int .i64 4) (.slice none 0 0) (.slice none 0 0))) /\ Hid (Bw W q)):=fun W hR=>by
    have T:=HT.out W hR.bel;have hs:=hR.size;refine (jO W T.ns T.len T.sz rfl T.cap).mono ?_;rintro r q ⟨rfl,B⟩;exact ⟨by rw [C],hR.below (B.mono (by omega)),B⟩
   have Q : Hid (∀ (V u : World) (E I : Option Addr) (nb tb J H : Nat),R3 w u (w.heap.size + 1) 65 6 (v6 (.int .i64 4) (.int .i64 e.num) (.string e.md) (.string e.nm) (.slice p.np.a e.ns.length p.np.c) (.slice ta0 e.ty.length tc0)) (v3 (.int .i64 4) (.slice none 0 0) (.slice none 0 0)) -> (jT u f E I nb tb /\ f.needs.length <= J /\ f.texts.length <= H /\ w.heap.size + 1 + 1 + 1 < nb /\ w.heap.size + 1 + 1 + 1 < tb) -> V = ((((u.setCell ⟨w.heap.size + 1 + 1 + 1,0,none⟩ (.int .i64 (f.lev : Int))).setCell ⟨w.heap.size + 1 + 1 + 1,1,none⟩ (.slice E f.needs.length J)).setCell ⟨w.heap.size + 1 + 1 + 1,2,none⟩ (.slice I f.texts.length H)).setCell ⟨w.heap.size + 1,4,none⟩ (.slice none 0 0)) -> lO w 4 A V b e.num e.md e.nm none 0 0 ta0 e.ty.length tc0 (f.lev : Int) I f.texts.length H E f.needs.length J):=fun V u E I nb tb J H hR hF hV=>by
    obtain ⟨F,n1,n2,n3,n4⟩:=hF;refine lO.of (F:=f) ?_ ?_ m fun g hg=>?_
    ·rw [hV]
     exact ((hR.setF3 _ _ _).setB 4 _).congr (iG rfl rfl rfl rfl rfl rfl) (fun _ _=>rfl)
    ·rw [a5,(bq _ _ _).2.1];exact hl
    ·rw [eP m hg]
     have blk : ∀ k,w.heap.size + 1 + 1 + 1 < k -> V.heap[k]? = u.heap[k]?:=fun k hk=>by
      have ne : ∀ j,k ≠ (⟨w.heap.size + 1 + 1 + 1,j,none⟩ : Addr).block:=fun j=>by show k ≠ w.heap.size + 1 + 1 + 1;omega
      have bn : k ≠ (⟨w.heap.size + 1,4,none⟩ : Addr).block:=by show k ≠ w.heap.size + 1;omega
      rw [hV,Below.heap_setCell _ _ _ _ bn,Below.heap_setCell _ _ _ _ (ne 2),Below.heap_setCell _ _ _ _ (ne 1),Below.heap_setCell _ _ _ _ (ne 0)]
     exact ⟨nb,tb,rfl,F.of_blocks (blk nb n3) (blk tb n4),n1,n2,n3,n4⟩
   have a0 : Hid (∀ u,R3 w u (w.heap.size + 1) 65 6 (v6 (.int .i64 4) (.int .i64 e.num) (.string e.md) (.string e.nm) (.slice p.np.a e.ns.length p.np.c) (.slice ta0 e.ty.length tc0)) (v3 (.int .i64 4) (.slice none 0 0) (.slice none 0 0)) -> (u.cell? ⟨w.heap.size + 1,4,none⟩ = some (.slice p.np.a e.ns.length p.np.c) /\ u.frozen? ⟨w.heap.size + 1,4,none⟩ = false) /\ (u.cell? ⟨w.heap.size + 1 + 1 + 1,0,none⟩ = some (.int .i64 4) /\ u.cell? ⟨w.heap.size + 1 + 1 + 1,1,none⟩ = some (.slice none 0 0) /\ u.cell? ⟨w.heap.size + 1 + 1 + 1,2,none⟩ = some (.slice none 0 0)) /\ u.frozen? ⟨w.heap.size + 1 + 1 + 1,0,none⟩ = false /\ u.frozen? ⟨w.heap.size + 1 + 1 + 1,1,none⟩ = false /\ u.frozen? ⟨w.heap.size + 1 + 1 + 1,2,none⟩ = false):=fun u h=>
    ⟨⟨h.box.cell (i:=4) (by omega),h.box.frozen 4⟩,⟨h.frm.cell (i:=0) (by omega),h.frm.cell (i:=1) (by omega),h.frm.cell (i:=2) (by omega)⟩,h.frm.frozen 0,h.frm.frozen 1,h.frm.frozen 2⟩
   have X : Hid (∀ (u : World) (x y z : Value),R3 w u (w.heap.size + 1) 65 6 (v6 (.int .i64 4) (.int .i64 e.num) (.string e.md) (.string e.nm) (.slice p.np.a e.ns.length p.np.c) (.slice ta0 e.ty.length tc0)) (v3 (.int .i64 4) (.slice none 0 0) (.slice none 0 0)) -> (((u.setCell ⟨w.heap.size + 1 + 1 + 1,0,none⟩ x).setCell ⟨w.heap.size + 1 + 1 + 1,1,none⟩ y).setCell ⟨w.heap.size + 1 + 1 + 1,2,none⟩ z).cell? ⟨w.heap.size + 1,4,none⟩ = some (.slice p.np.a e.ns.length p.np.c)):=fun u x y z h=>(h.setF3 x y z).box.cell (i:=4) (by omega);clear a5 C m;go_wp2
   go_region_held3 (fun q=>q.cell? ⟨w.heap.size + 1,4,none⟩ = some (.slice p.np.a e.ns.length p.np.c)) (first | (with_reducible exact X.out _ _ _ _ R1.out) | go_keep) (first
    | (go_at_call 73;(with_reducible refine (E1.out _ (by first | (with_reducible exact s.out) | (with_reducible exact s.out.drew))).mono ?_);rintro r0 u0 ⟨E,I,nb,tb,J,H,rfl,R0,F0⟩;obtain ⟨⟨m0,m1⟩,⟨m2,m3,m4⟩,m5,m6,m7⟩:=a0.out u0 R0.out)
    | (go_at_call 74;(with_reducible refine (E2.out _ (by first | (with_reducible exact R0.out) | (with_reducible exact R0.out.drew))).mono ?_);rintro r1 u1 ⟨rfl,R1,V1⟩;obtain ⟨⟨l0,l1⟩,⟨l2,l3,l4⟩,l5,l6,l7⟩:=a0.out u1 R1.out))
   all_goals
    go_wp2;go_meet
    case rel=>exact ⟨b,e.num,e.md,e.nm,none,0,0,ta0,e.ty.length,tc0,(f.lev : Int),I,f.texts.length,H,E,f.needs.length,J,rfl,Q.out _ u1 E I nb tb J H R1.out ⟨F0.out.1.below V1.out,F0.out.2⟩ rfl⟩
  by_cases o5 : op = 5
  ·subst o5
   have m:=CV (lim:=lim) M.out;rw [<- N.out] at m;have z1 : (⟨#[46]⟩ : ByteArray).size = 1:=rfl;have c1:=rsa (⟨#[46]⟩ : ByteArray) e.nm (by omega);obtain ⟨x,P⟩:=xe ((⟨#[46]⟩ : ByteArray) ++ e.nm);rw [<- P] at c1;obtain ⟨b,C⟩:=xe (gn e.nm);have Z : Hid (∀ W,Calls Tryz.prog 43 #[.string e.nm] W fun r q=>r = .returned (.bool b) /\ q = W):=fun W=>by rw [C];exact tG e.nm W (by omega)
   rw [<- C] at m;have cc : ∀ f,A = some f -> f = ⟨3,[3],[e0,x]⟩:=fun f hf2=>by rw [eP m hf2,P];rfl
   have bb:=fh (ff:=A) s.out 3 [3] [e0,x] cc _ rfl;have a8:=s9 (ff:=A) s.out 3 [3] [e0,x] cc _ rfl
   have dd : Hid (∀ V : World,V = (((((d.alloc (.cells #[.int .i64 3] 3)).alloc (.cells #[.string ⟨#[]⟩,.string x] 9)).setCell ⟨w.heap.size + 1 + 1 + 1,0,none⟩ (.int .i64 3)).setCell ⟨w.heap.size + 1 + 1 + 1,1,none⟩ (.slice (some ⟨d.heap.size,0,none⟩) 1 1)).setCell ⟨w.heap.size + 1 + 1 + 1,2,none⟩ (.slice (some ⟨d.heap.size + 1,0,none⟩) 2 2)).setCell ⟨w.heap.size + 1,3,none⟩ (.string ⟨#[]⟩) -> Hid (lO w 5 A V.drew b e.num e.md ⟨#[]⟩ p.np.a e.ns.length p.np.c ta0 e.ty.length tc0 3 (some ⟨d.heap.size + 1,0,none⟩) 2 2 (some ⟨d.heap.size,0,none⟩) 1 1)):=fun V hV=>by
    rw [hV];show lO _ _ _ _ _ _ _ _ _ _ _ _ _ _ _ _ _ _ _ _ _;refine lO.of ?_ (by omega) m (kU.drew (kU.of_blocks bb.2 fun k hk=>?_))
    ·exact ((bb.1.setB 3 _).congr (iG rfl rfl rfl rfl rfl rfl) (fun _ _=>rfl)).drew
    ·rw [Below.heap_setCell _ _ _ _ (by show k ≠ w.heap.size + 1;omega)]
     rfl
   have ct : Hid (∀ V : World,V = (((((d.alloc (.cells #[.string ⟨#[]⟩,.string x] 9)).alloc (.cells #[.int .i64 3] 3)).setCell ⟨w.heap.size + 1 + 1 + 1,0,none⟩ (.int .i64 3)).setCell ⟨w.heap.size + 1 + 1 + 1,1,none⟩ (.slice (some ⟨d.heap.size + 1,0,none⟩) 1 1)).setCell ⟨w.heap.size + 1 + 1 + 1,2,none⟩ (.slice (some ⟨d.heap.size,0,none⟩) 2 2)).setCell ⟨w.heap.size + 1,3,none⟩ (.string ⟨#[]⟩) -> Hid (lO w 5 A V.drew b e.num e.md ⟨#[]⟩ p.np.a e.ns.length p.np.c ta0 e.ty.length tc0 3 (some ⟨d.heap.size,0,none⟩) 2 2 (some ⟨d.heap.size + 1,0,none⟩) 1 1)):=fun V hV=>by
    rw [hV];show lO _ _ _ _ _ _ _ _ _ _ _ _ _ _ _ _ _ _ _ _ _;refine lO.of ?_ (by omega) m (kU.drew (kU.of_blocks a8.2 fun k hk=>?_))
    ·exact ((a8.1.setB 3 _).congr (iG rfl rfl rfl rfl rfl rfl) (fun _ _=>rfl)).drew
    ·rw [Below.heap_setCell _ _ _ _ (by show k ≠ w.heap.size + 1;omega)]
     rfl
   have cx : Hid ((((((d.alloc (.cells #[.int .i64 3] 3)).alloc (.cells #[.string ⟨#[]⟩,.string x] 9)).setCell ⟨w.heap.size + 1 + 1 + 1,0,none⟩ (.int .i64 3)).setCell ⟨w.heap.size + 1 + 1 + 1,1,none⟩ (.slice (some ⟨d.heap.size,0,none⟩) 1 1)).setCell ⟨w.heap.size + 1 + 1 + 1,2,none⟩ (.slice (some ⟨d.heap.size + 1,0,none⟩) 2 2)).drew.cell? ⟨w.heap.size + 1,3,none⟩ = some (.string e.nm)):=bb.1.box.cell (i:=3) (by omega);have cs : Hid ((((((d.alloc (.cells #[.string ⟨#[]⟩,.string x] 9)).alloc (.cells #[.int .i64 3] 3)).setCell ⟨w.heap.size + 1 + 1 + 1,0,none⟩ (.int .i64 3)).setCell ⟨w.heap.size + 1 + 1 + 1,1,none⟩ (.slice (some ⟨d.heap.size + 1,0,none⟩) 1 1)).setCell ⟨w.heap.size + 1 + 1 + 1,2,none⟩ (.slice (some ⟨d.heap.size,0,none⟩) 2 2)).drew.cell? ⟨w.heap.size + 1,3,none⟩ = some (.string e.nm)):=a8.1.box.cell (i:=3) (by omega);have gN : Hid ((((((d.alloc (.cells #[.int .i64 3] 3)).alloc (.cells #[.string ⟨#[]⟩,.string x] 9)).setCell ⟨w.heap.size + 1 + 1 + 1,0,none⟩ (.int .i64 3)).setCell ⟨w.heap.size + 1 + 1 + 1,1,none⟩ (.slice (some ⟨d.heap.size,0,none⟩) 1 1)).setCell ⟨w.heap.size + 1 + 1 + 1,2,none⟩ (.slice (some ⟨d.heap.size + 1,0,none⟩) 2 2)).drew.frozen? ⟨w.heap.size + 1,3,none⟩ = false):=bb.1.box.frozen 3;have ec : Hid ((((((d.alloc (.cells #[.string ⟨#[]⟩,.string x] 9)).alloc (.cells #[.int .i64 3] 3)).setCell ⟨w.heap.size + 1 + 1 + 1,0,none⟩ (.int .i64 3)).setCell ⟨w.heap.size + 1 + 1 + 1,1,none⟩ (.slice (some ⟨d.heap.size + 1,0,none⟩) 1 1)).setCell ⟨w.heap.size + 1 + 1 + 1,2,none⟩ (.slice (some ⟨d.heap.size,0,none⟩) 2 2)).drew.frozen? ⟨w.heap.size + 1,3,none⟩ = false):=a8.1.box.frozen 3;clear m C cc bb a8 P z1;have an:=(s.out.frm.alloc (.cells #[.int .i64 3] 3)).alloc (.cells #[.string ⟨#[]⟩,.string x] 9);have b7:=(s.out.box.alloc (.cells #[.int .i64 3] 3)).alloc (.cells #[.string ⟨#[]⟩,.string x] 9);have gm : ((d.alloc (.cells #[.int .i64 3] 3)).alloc (.cells #[.string ⟨#[]⟩,.string x] 9)).cell? ⟨w.heap.size + 1 + 1 + 1,0,none⟩ = some (.int .i64 4):=an.cell (i:=0) (by omega);have gb : ((d.alloc (.cells #[.int .i64 3] 3)).alloc (.cells #[.string ⟨#[]⟩,.string x] 9)).cell? ⟨w.heap.size + 1 + 1 + 1,1,none⟩ = some (.slice none 0 0):=an.cell (i:=1) (by omega);have eR : ((d.alloc (.cells #[.int .i64 3] 3)).alloc (.cells #[.string ⟨#[]⟩,.string x] 9)).cell? ⟨w.heap.size + 1 + 1 + 1,2,none⟩ = some (.slice none 0 0):=an.cell (i:=2) (by omega);have e6:=an.frozen 0;have eT:=an.frozen 1;have et:=an.frozen 2;have ba0 : ((d.alloc (.cells #[.int .i64 3] 3)).alloc (.cells #[.string ⟨#[]⟩,.string x] 9)).cell? ⟨w.heap.size + 1,3,none⟩ = some (.string e.nm):=b7.cell (i:=3) (by omega);have ge:=b7.frozen 3;clear an b7;have ao:=(s.out.frm.alloc (.cells #[.string ⟨#[]⟩,.string x] 9)).alloc (.cells #[.int .i64 3] 3);have b6:=(s.out.box.alloc (.cells #[.string ⟨#[]⟩,.string x] 9)).alloc (.cells #[.int .i64 3] 3);have ee : ((d.alloc (.cells #[.string ⟨#[]⟩,.string x] 9)).alloc (.cells #[.int .i64 3] 3)).cell? ⟨w.heap.size + 1 + 1 + 1,0,none⟩ = some (.int .i64 4):=ao.cell (i:=0) (by omega);have e9 : ((d.alloc (.cells #[.string ⟨#[]⟩,.string x] 9)).alloc (.cells #[.int .i64 3] 3)).cell? ⟨w.heap.size + 1 + 1 + 1,1,none⟩ = some (.slice none 0 0):=ao.cell (i:=1) (by omega);have gd : ((d.alloc (.cells #[.string ⟨#[]⟩,.string x] 9)).alloc (.cells #[.int .i64 3] 3)).cell? ⟨w.heap.size + 1 + 1 + 1,2,none⟩ = some (.slice none 0 0):=ao.cell (i:=2) (by omega);have gv:=ao.frozen 0;have ep:=ao.frozen 1;have fz:=ao.frozen 2;have el : ((d.alloc (.cells #[.string ⟨#[]⟩,.string x] 9)).alloc (.cells #[.int .i64 3] 3)).cell? ⟨w.heap.size + 1,3,none⟩ = some (.string e.nm):=b6.cell (i:=3) (by omega);have gr:=b6.frozen 3;clear ao b6;go_wp2
   go_region_held3 (fun q=>q.cell? ⟨w.heap.size + 1,3,none⟩ = some (.string e.nm)) (first | (with_reducible exact cx.out) | (with_reducible exact cs.out) | go_keep) (first
    | (go_at_call 43;(with_reducible refine (Z.out _).mono ?_);rintro r0 u0 ⟨rfl,rfl⟩))
   all_goals
    clear gm gb eR e6 eT et ba0 ge ee e9 gd gv ep fz el gr c1 y1 y2 y3 y4 y5 Z;have k1:=cx.out;have k2:=cs.out;have k3:=gN.out;have k4:=ec.out;go_wp2;clear k1 k2 k3 k4;go_meet
    case rel=>first
     | (with_reducible exact ⟨b,e.num,e.md,⟨#[]⟩,p.np.a,e.ns.length,p.np.c,ta0,e.ty.length,tc0,3,some ⟨d.heap.size + 1,0,none⟩,2,2,some ⟨d.heap.size,0,none⟩,1,1,rfl,dd.out _ rfl⟩)
     | (with_reducible exact ⟨b,e.num,e.md,⟨#[]⟩,p.np.a,e.ns.length,p.np.c,ta0,e.ty.length,tc0,3,some ⟨d.heap.size,0,none⟩,2,2,some ⟨d.heap.size + 1,0,none⟩,1,1,rfl,ct.out _ rfl⟩)
  by_cases o6 : op = 6
  ·subst o6
   have m:=Cy (lim:=lim) M.out;rw [<- N.out] at m;have T:=HT.out d s.out.bel;have dl : p.zs.length = e.ty.length:=by rw [<- T.is,List.length_map]
   have Z:=sW d e.nm hn (a:=ta0) (c:=tc0) (xs:=p.zs) (by have:=T.ty;rw [f6.out,<- dl] at this;exact this) T.is ex.out lim hlim;rw [dl] at Z;have p0 : d.cell? ⟨w.heap.size,0,none⟩ = some (.int .i64 (lim : Int)):=dt.out.cell (i:=0) (by omega);obtain ⟨gg,bL⟩:=xe (mI e.nm (fP (fun i=>(e.ty[i]?).bind fT) lim e.ty.length));have ds : Hid (∀ g,gg = some g -> g = ⟨0,[0],[gu ++ e.nm ++ dz ++ fW e.ty ++ ij,e0]⟩):=fun g hg=>BO (lim:=lim) (by rw [<- bL];exact hg);rw [<- bL] at Z m;have D : Hid _:=m;clear m bL T;go_wp2_with fail;refine Z.mono ?_;rintro r w2 ⟨B2,L,I,tn,H,E,fl,J,ok,rfl,fi,d1,HF⟩;clear Z;have R2:=s.out.below (B2.mono s.out.size);have q0 : w2.cell? ⟨w.heap.size + 1 + 1 + 1,0,none⟩ = some (.int .i64 4):=R2.frm.cell (i:=0) (by omega);have q1 : w2.cell? ⟨w.heap.size + 1 + 1 + 1,1,none⟩ = some (.slice none 0 0):=R2.frm.cell (i:=1) (by omega);have q2 : w2.cell? ⟨w.heap.size + 1 + 1 + 1,2,none⟩ = some (.slice none 0 0):=R2.frm.cell (i:=2) (by omega);have g0:=R2.frm.frozen 0;have g1:=R2.frm.frozen 1;have g2:=R2.frm.frozen 2;have b3 : w2.cell? ⟨w.heap.size + 1,3,none⟩ = some (.string e.nm):=R2.box.cell (i:=3) (by omega);have b5 : w2.cell? ⟨w.heap.size + 1,5,none⟩ = some (.slice ta0 e.ty.length tc0):=R2.box.cell (i:=5) (by omega);have k3:=R2.box.frozen 3;have k5:=R2.box.frozen 5
   have Q : Hid (∀ V : World,V = ((((w2.setCell ⟨w.heap.size + 1 + 1 + 1,0,none⟩ (.int .i64 L)).setCell ⟨w.heap.size + 1 + 1 + 1,1,none⟩ (.slice E fl J)).setCell ⟨w.heap.size + 1 + 1 + 1,2,none⟩ (.slice I tn H)).setCell ⟨w.heap.size + 1,3,none⟩ (.string ⟨#[]⟩)).setCell ⟨w.heap.size + 1,5,none⟩ (.slice none 0 0) -> lO w 6 A V ok e.num e.md ⟨#[]⟩ p.np.a e.ns.length p.np.c none 0 0 L I tn H E fl J):=fun V hV=>by
    refine lO.of ?_ fi (by rw [d1];exact D.out) fun f hf2=>?_
    ·rw [hV]
     exact ((((R2.setF3 _ _ _).setB 3 _).setB 5 _).congr (iG rfl rfl rfl rfl rfl rfl) (fun _ _=>rfl))
    ·have e1:=eP D.out hf2
     have ca : iX gg.isSome e.num e.md ⟨#[]⟩ e.ns.length 0 = true:=by
      have:=db D.out;rw [this,hf2];rfl
     have eQ : ∃ g,gg = some g:=by
      cases hgx : gg with
      | none=>
        rw [hgx] at ca;unfold iX at ca;simp at ca
      | some g=>exact ⟨g,rfl⟩
     obtain ⟨g,hg⟩:=eQ;have e2:=ds.out g hg;have e3 : gg = some f:=by rw [hg,e2,e1]
     obtain ⟨nb,tb,ev,F,h1,h2,h3,h4⟩:=HF f e3;have g8:=d0.out
     have blk : ∀ k,w.heap.size + 1 + 1 + 1 < k -> V.heap[k]? = w2.heap[k]?:=fun k hk=>by
      have ne : ∀ j,k ≠ (⟨w.heap.size + 1 + 1 + 1,j,none⟩ : Addr).block:=fun j=>by show k ≠ w.heap.size + 1 + 1 + 1;omega
      have bn : ∀ j,k ≠ (⟨w.heap.size + 1,j,none⟩ : Addr).block:=fun j=>by show k ≠ w.heap.size + 1;omega
      rw [hV,Below.heap_setCell _ _ _ _ (bn 5),Below.heap_setCell _ _ _ _ (bn 3),Below.heap_setCell _ _ _ _ (ne 2),Below.heap_setCell _ _ _ _ (ne 1),Below.heap_setCell _ _ _ _ (ne 0)]
     exact ⟨nb,tb,ev,F.of_blocks (blk nb (by omega)) (blk tb (by omega)),h1,h2,by omega,by omega⟩
   clear R2 d1 HF D ds;go_wp2;go_meet
   case rel=>exact ⟨ok,e.num,e.md,⟨#[]⟩,p.np.a,e.ns.length,p.np.c,none,0,0,L,I,tn,H,E,fl,J,rfl,Q.out _ rfl⟩
  by_cases o1 : op = 1
  ·subst o1
   have m:=C9 (lim:=lim) M.out;rw [<- N.out] at m;obtain ⟨b,C⟩:=xe ((decide (0 <= e.num) && decide (e.num <= 999999999)));rw [<- C] at m
   have Q : Hid (∀ (u V : World) (x : ByteArray),R3 w u (w.heap.size + 1) 65 6 (v6 (.int .i64 1) (.int .i64 e.num) (.string e.md) (.string e.nm) (.slice p.np.a e.ns.length p.np.c) (.slice ta0 e.ty.length tc0)) (v3 (.int .i64 4) (.slice none 0 0) (.slice none 0 0)) -> (∀ f,A = some f -> f = ⟨4,[],[x]⟩) -> V = ((u.alloc (.cells #[.string x] 9)).setCell ⟨w.heap.size + 1 + 1 + 1,2,none⟩ (.slice (some ⟨u.heap.size,0,none⟩) 1 1)).setCell ⟨w.heap.size + 1,1,none⟩ (.int .i64 0) -> lO w 1 A V b 0 e.md e.nm p.np.a e.ns.length p.np.c ta0 e.ty.length tc0 4 (some ⟨u.heap.size,0,none⟩) 1 1 none 0 0):=fun u V x hR P hV=>by
    have hz:=hR.size;refine lO.of (F:=⟨4,[],[hU e.num.toNat]⟩) ?_ (by omega) m (kU.one (lev:=4) (x:=x) ?_ (by omega) P)
    ·rw [hV]
     exact (((hR.alloc _).setF2 _).setB 1 _).congr (iG rfl rfl rfl rfl rfl rfl) (fun _ _=>rfl)
    ·have r:=((aK u (.string x) 9).setOther (a:=⟨w.heap.size + 1 + 1 + 1,2,none⟩) (by show u.heap.size ≠ w.heap.size + 1 + 1 + 1;omega) (.slice (some ⟨u.heap.size,0,none⟩) 1 1)).setOther (a:=⟨w.heap.size + 1,1,none⟩) (by show u.heap.size ≠ w.heap.size + 1;omega) (.int .i64 0)
     rw [hV];exact r.cell (i:=0) (by omega)
   have a0 : Hid (∀ (u : World) (x : ByteArray),R3 w u (w.heap.size + 1) 65 6 (v6 (.int .i64 1) (.int .i64 e.num) (.string e.md) (.string e.nm) (.slice p.np.a e.ns.length p.np.c) (.slice ta0 e.ty.length tc0)) (v3 (.int .i64 4) (.slice none 0 0) (.slice none 0 0)) -> (u.alloc (.cells #[.string x] 9)).cell? ⟨w.heap.size + 1 + 1 + 1,2,none⟩ = some (.slice none 0 0) /\ (u.alloc (.cells #[.string x] 9)).frozen? ⟨w.heap.size + 1 + 1 + 1,2,none⟩ = false /\ (u.alloc (.cells #[.string x] 9)).cell? ⟨w.heap.size + 1,1,none⟩ = some (.int .i64 e.num) /\ (u.alloc (.cells #[.string x] 9)).frozen? ⟨w.heap.size + 1,1,none⟩ = false /\ u.cell? ⟨w.heap.size + 1,1,none⟩ = some (.int .i64 e.num)):=fun u x hR=>
    ⟨(hR.frm.alloc _).cell (i:=2) (by omega),(hR.frm.alloc _).frozen 2,(hR.box.alloc _).cell (i:=1) (by omega),(hR.box.alloc _).frozen 1,hR.box.cell (i:=1) (by omega)⟩
   have X : Hid (∀ (u : World) (x : ByteArray),R3 w u (w.heap.size + 1) 65 6 (v6 (.int .i64 1) (.int .i64 e.num) (.string e.md) (.string e.nm) (.slice p.np.a e.ns.length p.np.c) (.slice ta0 e.ty.length tc0)) (v3 (.int .i64 4) (.slice none 0 0) (.slice none 0 0)) -> ((u.alloc (.cells #[.string x] 9)).setCell ⟨w.heap.size + 1 + 1 + 1,2,none⟩ (.slice (some ⟨u.heap.size,0,none⟩) 1 1)).cell? ⟨w.heap.size + 1,1,none⟩ = some (.int .i64 e.num)):=fun u x hR=>((hR.alloc _).setF2 _).box.cell (i:=1) (by omega);by_cases hp : 0 <= e.num
   ·have Z : Hid (∀ W,R3 w W (w.heap.size + 1) 65 6 (v6 (.int .i64 1) (.int .i64 e.num) (.string e.md) (.string e.nm) (.slice p.np.a e.ns.length p.np.c) (.slice ta0 e.ty.length tc0)) (v3 (.int .i64 4) (.slice none 0 0) (.slice none 0 0)) -> Calls Tryz.prog 75 #[.int .i64 e.num] W fun r q=>r = .returned (.string (hU e.num.toNat)) /\ Hid (R3 w q (w.heap.size + 1) 65 6 (v6 (.int .i64 1) (.int .i64 e.num) (.string e.md) (.string e.nm) (.slice p.np.a e.ns.length p.np.c) (.slice ta0 e.ty.length tc0)) (v3 (.int .i64 4) (.slice none 0 0) (.slice none 0 0)))):=fun W hR=>by
     have hs:=hR.size;refine (uE e.num dn.out W (de.out W hR.bel)).mono ?_;rintro r q ⟨⟨x,rfl,P⟩,B⟩;exact ⟨by rw [P hp],hR.below (B.mono (by omega))⟩
    have HX : Hid (∀ f,A = some f -> f = ⟨4,[],[hU e.num.toNat]⟩):=fun f hf2=>eP m hf2;have ab : Hid (b = decide (e.num <= 999999999)):=by show _ = _;rw [C,decide_eq_true hp,Bool.true_and]
    obtain ⟨x,P⟩:=xe (hU e.num.toNat);rw [<- P] at Z HX;clear m C P;go_wp2
    go_region_held3 (fun q=>q.cell? ⟨w.heap.size + 1,1,none⟩ = some (.int .i64 e.num)) (first | (with_reducible exact X.out _ _ U0.out) | go_keep) (first
     | (go_at_call 75;(with_reducible refine (Z.out _ (by first | (with_reducible exact s.out) | (with_reducible exact s.out.drew))).mono ?_);rintro r0 u0 ⟨rfl,U0⟩;obtain ⟨m0,m1,m2,m3,m4⟩:=a0.out u0 x U0.out))
    all_goals
     go_wp2;go_meet
     case rel=>
      exact ⟨decide (e.num <= 999999999),0,e.md,e.nm,p.np.a,e.ns.length,p.np.c,ta0,e.ty.length,tc0,4,some ⟨u0.heap.size,0,none⟩,1,1,none,0,0,rfl,by rw [<- ab.out];exact Q.out u0 _ x U0.out HX.out rfl⟩
   ·have Z : Hid (∀ W,R3 w W (w.heap.size + 1) 65 6 (v6 (.int .i64 1) (.int .i64 e.num) (.string e.md) (.string e.nm) (.slice p.np.a e.ns.length p.np.c) (.slice ta0 e.ty.length tc0)) (v3 (.int .i64 4) (.slice none 0 0) (.slice none 0 0)) -> Calls Tryz.prog 75 #[.int .i64 e.num] W fun r q=>∃ x : ByteArray,r = .returned (.string x) /\ Hid (R3 w q (w.heap.size + 1) 65 6 (v6 (.int .i64 1) (.int .i64 e.num) (.string e.md) (.string e.nm) (.slice p.np.a e.ns.length p.np.c) (.slice ta0 e.ty.length tc0)) (v3 (.int .i64 4) (.slice none 0 0) (.slice none 0 0)))):=fun W hR=>by
     have hs:=hR.size;refine (uE e.num dn.out W (de.out W hR.bel)).mono ?_;rintro r q ⟨⟨x,rfl,_⟩,B⟩;exact ⟨x,rfl,hR.below (B.mono (by omega))⟩
    have bs : b = false:=by rw [C,decide_eq_false hp,Bool.false_and]
    have HX : Hid (∀ (x : ByteArray) f,A = some f -> f = ⟨4,[],[x]⟩):=fun x f hf2=>by
     rw [m,bs] at hf2;cases hf2
    have ab:=hQx bs;have hw : decide (0 <= e.num) = false:=decide_eq_false hp;clear m C bs hp;go_wp2;refine wp_region_held_drew (S:=(fun q=>q.cell? ⟨w.heap.size + 1,1,none⟩ = some (.int .i64 e.num))) (by kernel_rfl) ?_ (fun o=>?_)
    ·(try dsimp only);(first | (with_reducible exact X.out _ _ U0.out) | go_keep)
    refine wpAnyH_take (i:=0) (oi:=⟨some 13,_,_,_,_,_⟩) (v:=?_) rfl (by kernel_rfl) (by kernel_rfl) (by kernel_rfl) (fun _ _ _ h=>h) (Or.inl ⟨by kernel_rfl,?_⟩) (by assumption) ?_
    rotate_left
    ·(intro Y l;(try dsimp only at l);(go_simp <;> with_reducible rfl))
    (try simp only [Act.put]);(try simp only [List.setIfInBounds_toArray]);(try simp only [List.set_cons_succ]);(try simp only [List.set_cons_zero])
    refine wpAnyH_take (i:=1) (oi:=⟨some 14,_,_,_,_,_⟩) (v:=?_) rfl (by kernel_rfl) (by kernel_rfl) (by kernel_rfl) (fun _ _ _ h=>h) (Or.inl ⟨by kernel_rfl,?_⟩) (by assumption) ?_
    rotate_left
    ·(intro Y l;(try dsimp only at l);(go_simp <;> with_reducible rfl))
    (try simp only [Act.put]);(try simp only [List.setIfInBounds_toArray]);(try simp only [List.set_cons_succ]);(try simp only [List.set_cons_zero])
    refine wpAnyH_take (i:=4) (oi:=⟨some 17,_,_,_,_,_⟩) (v:=?_) rfl (by kernel_rfl) (by kernel_rfl) (by kernel_rfl) (fun _ _ _ h=>h) (Or.inl ⟨by kernel_rfl,?_⟩) (by assumption) ?_
    rotate_left
    ·(intro Y l;(try dsimp only at l);(go_simp <;> with_reducible rfl))
    (try simp only [Act.put]);(try simp only [List.setIfInBounds_toArray]);(try simp only [List.set_cons_succ]);(try simp only [List.set_cons_zero])
    refine wpAnyH_take (i:=5) (oi:=⟨some 18,_,_,_,_,_⟩) (v:=?_) rfl (by kernel_rfl) (by kernel_rfl) (by kernel_rfl) (fun _ _ _ h=>h) (Or.inl ⟨by kernel_rfl,?_⟩) (by assumption) ?_
    rotate_left
    ·(intro Y l;(try dsimp only at l);(go_simp <;> with_reducible rfl))
    (try simp only [Act.put]);(try simp only [List.setIfInBounds_toArray]);(try simp only [List.set_cons_succ]);(try simp only [List.set_cons_zero])
    refine wpAnyH_take (i:=6) (oi:=⟨some 19,_,_,_,_,_⟩) (v:=?_) rfl (by kernel_rfl) (by kernel_rfl) (by kernel_rfl) (fun _ _ _ h=>h) (Or.inl ⟨by kernel_rfl,?_⟩) (by assumption) ?_
    rotate_left
    ·(intro Y l;(try dsimp only at l);(go_simp <;> with_reducible rfl))
    (try simp only [Act.put]);(try simp only [List.setIfInBounds_toArray]);(try simp only [List.set_cons_succ]);(try simp only [List.set_cons_zero])
    refine wpAnyH_ready (rs:=[2]) (by kernel_rfl) (by simp) ?_;refine AllReadyH.cons rfl (fun K hK=>?_) AllReadyH.nil
    go_simp
    go_wp2_with (first | (go_at_call 75;(with_reducible refine (Z.out _ (by first | (with_reducible exact s.out) | (with_reducible exact s.out.drew))).mono ?_);rintro r0 u0 ⟨x,rfl,U0⟩;obtain ⟨m0,m1,m2,m3,m4⟩:=a0.out u0 x U0.out));refine hK.out _ _ ?_ (fun hHeld2=>?_)
    ·(try dsimp only);(first | (with_reducible exact X.out _ _ U0.out) | go_keep)
    clear hK K o;have o:=hHeld2;clear hHeld2;refine wpAnyH_take (i:=7) (oi:=⟨some 20,_,_,_,_,_⟩) (v:=?_) rfl (by kernel_rfl) (by kernel_rfl) (by kernel_rfl) (fun _ _ _ h=>h) (Or.inl ⟨by kernel_rfl,?_⟩) (by assumption) ?_
    rotate_left
    ·(intro Y l;(try dsimp only at l);(go_simp <;> with_reducible rfl))
    (try simp only [Act.put]);(try simp only [List.setIfInBounds_toArray]);(try simp only [List.set_cons_succ]);(try simp only [List.set_cons_zero])
    refine wpAnyH_take (i:=8) (oi:=⟨some 21,_,_,_,_,_⟩) (v:=undef) rfl (by kernel_rfl) (by kernel_rfl) (by kernel_rfl) (fun _ _ _ h=>h) (Or.inr ⟨by kernel_rfl,rfl⟩) (by assumption) ?_
    (try simp only [Act.put]);(try simp only [List.setIfInBounds_toArray]);(try simp only [List.set_cons_succ]);(try simp only [List.set_cons_zero])
    refine wpAnyH_take (i:=9) (oi:=⟨some 22,_,_,_,_,_⟩) (v:=undef) rfl (by kernel_rfl) (by kernel_rfl) (by kernel_rfl) (fun _ _ _ h=>h) (Or.inr ⟨by kernel_rfl,rfl⟩) (by assumption) ?_
    (try simp only [Act.put]);(try simp only [List.setIfInBounds_toArray]);(try simp only [List.set_cons_succ]);(try simp only [List.set_cons_zero])
    refine wpAnyH_take (i:=10) (oi:=⟨some 23,_,_,_,_,_⟩) (v:=undef) rfl (by kernel_rfl) (by kernel_rfl) (by kernel_rfl) (fun _ _ _ h=>h) (Or.inr ⟨by kernel_rfl,rfl⟩) (by assumption) ?_
    (try simp only [Act.put]);(try simp only [List.setIfInBounds_toArray]);(try simp only [List.set_cons_succ]);(try simp only [List.set_cons_zero])
    refine wpAnyH_take (i:=11) (oi:=⟨some 24,_,_,_,_,_⟩) (v:=?_) rfl (by kernel_rfl) (by kernel_rfl) (by kernel_rfl) (fun _ _ _ h=>h) (Or.inl ⟨by kernel_rfl,?_⟩) (by assumption) ?_
    rotate_left
    ·(intro Y l;(try dsimp only at l);(go_simp <;> with_reducible rfl))
    (try simp only [Act.put]);(try simp only [List.setIfInBounds_toArray]);(try simp only [List.set_cons_succ]);(try simp only [List.set_cons_zero])
    refine wpAnyH_ready (rs:=[3]) (by kernel_rfl) (by simp) ?_;refine AllReadyH.cons rfl (fun K hK=>?_) AllReadyH.nil
    go_simp
    refine hK.out _ _ ?_ (fun hHeld2=>?_)
    ·(try dsimp only);(first | (with_reducible exact X.out _ _ U0.out) | go_keep)
    clear hK K o;have o:=hHeld2;clear hHeld2;refine wpAnyH_take (i:=12) (oi:=⟨some 25,_,_,_,_,_⟩) (v:=?_) rfl (by kernel_rfl) (by kernel_rfl) (by kernel_rfl) (fun _ _ _ h=>h) (Or.inl ⟨by kernel_rfl,?_⟩) (by assumption) ?_
    rotate_left
    ·(intro Y l;(try dsimp only at l);(go_simp <;> with_reducible rfl))
    (try simp only [Act.put]);(try simp only [List.setIfInBounds_toArray]);(try simp only [List.set_cons_succ]);(try simp only [List.set_cons_zero])
    refine wpAnyH_ready (rs:=[13]) (by kernel_rfl) (by simp) ?_;refine AllReadyH.cons rfl (fun K hK=>?_) AllReadyH.nil
    go_simp
    refine hK.out _ _ ?_ (fun hHeld2=>?_)
    ·(try dsimp only);(first | (with_reducible exact X.out _ _ U0.out) | go_keep)
    clear hK K o;have o:=hHeld2;clear hHeld2;refine wpAnyH_take (i:=14) (oi:=⟨some 7,_,_,_,_,_⟩) (v:=?_) rfl (by kernel_rfl) (by kernel_rfl) (by kernel_rfl) (fun _ _ _ h=>h) (Or.inl ⟨by kernel_rfl,?_⟩) (by assumption) ?_
    rotate_left
    ·(intro Y l;(try dsimp only at l);(go_simp <;> with_reducible rfl))
    (try simp only [Act.put]);(try simp only [List.setIfInBounds_toArray]);(try simp only [List.set_cons_succ]);(try simp only [List.set_cons_zero])
    refine wpAnyH_done (by kernel_rfl) ?_ _;go_wp2;go_meet
    case rel=>
     have G:=Q.out u0 _ x U0.out (HX.out x) rfl;rw [ab.out] at G;exact ⟨false,0,e.md,e.nm,p.np.a,e.ns.length,p.np.c,ta0,e.ty.length,tc0,4,some ⟨u0.heap.size,0,none⟩,1,1,none,0,0,rfl,G⟩
  by_cases o2 : op = 2
  ·subst o2
   have m:=Db (lim:=lim) M.out;rw [<- N.out] at m;obtain ⟨b,C⟩:=xe ((decide (e.num = 0) || decide (e.num = 1)));rw [<- C] at m
   have Q : Hid (∀ (u V : World) (x : ByteArray),R3 w u (w.heap.size + 1) 65 6 (v6 (.int .i64 2) (.int .i64 e.num) (.string e.md) (.string e.nm) (.slice p.np.a e.ns.length p.np.c) (.slice ta0 e.ty.length tc0)) (v3 (.int .i64 4) (.slice none 0 0) (.slice none 0 0)) -> (∀ f,A = some f -> f = ⟨4,[],[x]⟩) -> V = ((u.alloc (.cells #[.string x] 9)).setCell ⟨w.heap.size + 1 + 1 + 1,2,none⟩ (.slice (some ⟨u.heap.size,0,none⟩) 1 1)).setCell ⟨w.heap.size + 1,1,none⟩ (.int .i64 0) -> lO w 2 A V b 0 e.md e.nm p.np.a e.ns.length p.np.c ta0 e.ty.length tc0 4 (some ⟨u.heap.size,0,none⟩) 1 1 none 0 0):=fun u V x hR P hV=>by
    have hz:=hR.size;refine lO.of  ?_ (by omega) m (kU.one (lev:=4) (x:=x) ?_ (by omega) P)
    ·rw [hV]
     exact (((hR.alloc _).setF2 _).setB 1 _).congr (iG rfl rfl rfl rfl rfl rfl) (fun _ _=>rfl)
    ·have r:=((aK u (.string x) 9).setOther (a:=⟨w.heap.size + 1 + 1 + 1,2,none⟩) (by show u.heap.size ≠ w.heap.size + 1 + 1 + 1;omega) (.slice (some ⟨u.heap.size,0,none⟩) 1 1)).setOther (a:=⟨w.heap.size + 1,1,none⟩) (by show u.heap.size ≠ w.heap.size + 1;omega) (.int .i64 0)
     rw [hV];exact r.cell (i:=0) (by omega)
   have a0 : Hid (∀ (u : World) (x : ByteArray),R3 w u (w.heap.size + 1) 65 6 (v6 (.int .i64 2) (.int .i64 e.num) (.string e.md) (.string e.nm) (.slice p.np.a e.ns.length p.np.c) (.slice ta0 e.ty.length tc0)) (v3 (.int .i64 4) (.slice none 0 0) (.slice none 0 0)) -> (u.alloc (.cells #[.string x] 9)).cell? ⟨w.heap.size + 1 + 1 + 1,2,none⟩ = some (.slice none 0 0) /\ (u.alloc (.cells #[.string x] 9)).frozen? ⟨w.heap.size + 1 + 1 + 1,2,none⟩ = false /\ (u.alloc (.cells #[.string x] 9)).cell? ⟨w.heap.size + 1,1,none⟩ = some (.int .i64 e.num) /\ (u.alloc (.cells #[.string x] 9)).frozen? ⟨w.heap.size + 1,1,none⟩ = false /\ u.cell? ⟨w.heap.size + 1,1,none⟩ = some (.int .i64 e.num)):=fun u x hR=>
    ⟨(hR.frm.alloc _).cell (i:=2) (by omega),(hR.frm.alloc _).frozen 2,(hR.box.alloc _).cell (i:=1) (by omega),(hR.box.alloc _).frozen 1,hR.box.cell (i:=1) (by omega)⟩
   have X : Hid (∀ (u : World) (x : ByteArray),R3 w u (w.heap.size + 1) 65 6 (v6 (.int .i64 2) (.int .i64 e.num) (.string e.md) (.string e.nm) (.slice p.np.a e.ns.length p.np.c) (.slice ta0 e.ty.length tc0)) (v3 (.int .i64 4) (.slice none 0 0) (.slice none 0 0)) -> ((u.alloc (.cells #[.string x] 9)).setCell ⟨w.heap.size + 1 + 1 + 1,2,none⟩ (.slice (some ⟨u.heap.size,0,none⟩) 1 1)).cell? ⟨w.heap.size + 1,1,none⟩ = some (.int .i64 e.num)):=fun u x hR=>((hR.alloc _).setF2 _).box.cell (i:=1) (by omega);obtain ⟨x,P⟩:=xe (if e.num = 0 then cg else d9);have Z : Hid (∀ W,Calls Tryz.prog 76 #[.int .i64 e.num] W fun r q=>r = .returned (.string x) /\ q = W):=fun W=>by rw [P];exact lh W e.num
   rw [<- P] at m
   have cz : Hid (∀ V : World,V = ((d.alloc (.cells #[.string x] 9)).setCell ⟨w.heap.size + 1 + 1 + 1,2,none⟩ (.slice (some ⟨d.heap.size,0,none⟩) 1 1)).setCell ⟨w.heap.size + 1,1,none⟩ (.int .i64 0) -> lO w 2 A V.drew b 0 e.md e.nm p.np.a e.ns.length p.np.c ta0 e.ty.length tc0 4 (some ⟨d.heap.size,0,none⟩) 1 1 none 0 0):=fun V hV=>by
    have G:=Q.out d V x s.out (fun f hf2=>eP m hf2) hV;exact ⟨G.r.drew,G.n,G.is,G.fm.drew⟩
   have a6 : Hid (((d.alloc (.cells #[.string x] 9)).setCell ⟨w.heap.size + 1 + 1 + 1,2,none⟩ (.slice (some ⟨d.heap.size,0,none⟩) 1 1)).drew.cell? ⟨w.heap.size + 1,1,none⟩ = some (.int .i64 e.num)):=X.out d x s.out;obtain ⟨m0,m1,m2,m3,m4⟩:=a0.out d x s.out;by_cases hz : e.num = 0
   ·have ab : Hid (b = true):=by show _ = _;rw [C,decide_eq_true hz,Bool.true_or]
    have hq : (e.num == 0) = true:=beq_iff_eq.2 hz;clear m C P hz;go_wp2;refine wp_region_held_drew (S:=(fun q=>q.cell? ⟨w.heap.size + 1,1,none⟩ = some (.int .i64 e.num))) (by kernel_rfl) ?_ (fun o=>?_)
    ·(try dsimp only);(first | (with_reducible exact a6.out) | go_keep)
    refine wpAnyH_take (i:=0) (oi:=⟨some 29,_,_,_,_,_⟩) (v:=?_) rfl (by kernel_rfl) (by kernel_rfl) (by kernel_rfl) (fun _ _ _ h=>h) (Or.inl ⟨by kernel_rfl,?_⟩) (by assumption) ?_
    rotate_left
    ·(intro Y l;(try dsimp only at l);(go_simp <;> with_reducible rfl))
    (try simp only [Act.put]);(try simp only [List.setIfInBounds_toArray]);(try simp only [List.set_cons_succ]);(try simp only [List.set_cons_zero])
    refine wpAnyH_take (i:=1) (oi:=⟨some 30,_,_,_,_,_⟩) (v:=?_) rfl (by kernel_rfl) (by kernel_rfl) (by kernel_rfl) (fun _ _ _ h=>h) (Or.inl ⟨by kernel_rfl,?_⟩) (by assumption) ?_
    rotate_left
    ·(intro Y l;(try dsimp only at l);(go_simp <;> with_reducible rfl))
    (try simp only [Act.put]);(try simp only [List.setIfInBounds_toArray]);(try simp only [List.set_cons_succ]);(try simp only [List.set_cons_zero])
    refine wpAnyH_take (i:=4) (oi:=⟨some 33,_,_,_,_,_⟩) (v:=?_) rfl (by kernel_rfl) (by kernel_rfl) (by kernel_rfl) (fun _ _ _ h=>h) (Or.inl ⟨by kernel_rfl,?_⟩) (by assumption) ?_
    rotate_left
    ·(intro Y l;(try dsimp only at l);(go_simp <;> with_reducible rfl))
    (try simp only [Act.put]);(try simp only [List.setIfInBounds_toArray]);(try simp only [List.set_cons_succ]);(try simp only [List.set_cons_zero])
    refine wpAnyH_take (i:=5) (oi:=⟨some 34,_,_,_,_,_⟩) (v:=?_) rfl (by kernel_rfl) (by kernel_rfl) (by kernel_rfl) (fun _ _ _ h=>h) (Or.inl ⟨by kernel_rfl,?_⟩) (by assumption) ?_
    rotate_left
    ·(intro Y l;(try dsimp only at l);(go_simp <;> with_reducible rfl))
    (try simp only [Act.put]);(try simp only [List.setIfInBounds_toArray]);(try simp only [List.set_cons_succ]);(try simp only [List.set_cons_zero])
    refine wpAnyH_take (i:=6) (oi:=⟨some 35,_,_,_,_,_⟩) (v:=?_) rfl (by kernel_rfl) (by kernel_rfl) (by kernel_rfl) (fun _ _ _ h=>h) (Or.inl ⟨by kernel_rfl,?_⟩) (by assumption) ?_
    rotate_left
    ·(intro Y l;(try dsimp only at l);(go_simp <;> with_reducible rfl))
    (try simp only [Act.put]);(try simp only [List.setIfInBounds_toArray]);(try simp only [List.set_cons_succ]);(try simp only [List.set_cons_zero])
    refine wpAnyH_ready (rs:=[2]) (by kernel_rfl) (by simp) ?_;refine AllReadyH.cons rfl (fun K hK=>?_) AllReadyH.nil
    go_simp
    go_wp2_with (first | (go_at_call 76;(with_reducible refine (Z.out _).mono ?_);rintro r0 u0 ⟨rfl,rfl⟩));refine hK.out _ _ ?_ (fun hHeld2=>?_)
    ·(try dsimp only);(first | (with_reducible exact a6.out) | go_keep)
    clear hK K o;have o:=hHeld2;clear hHeld2;refine wpAnyH_take (i:=7) (oi:=⟨some 36,_,_,_,_,_⟩) (v:=?_) rfl (by kernel_rfl) (by kernel_rfl) (by kernel_rfl) (fun _ _ _ h=>h) (Or.inl ⟨by kernel_rfl,?_⟩) (by assumption) ?_
    rotate_left
    ·(intro Y l;(try dsimp only at l);(go_simp <;> with_reducible rfl))
    (try simp only [Act.put]);(try simp only [List.setIfInBounds_toArray]);(try simp only [List.set_cons_succ]);(try simp only [List.set_cons_zero])
    refine wpAnyH_take (i:=8) (oi:=⟨some 37,_,_,_,_,_⟩) (v:=undef) rfl (by kernel_rfl) (by kernel_rfl) (by kernel_rfl) (fun _ _ _ h=>h) (Or.inr ⟨by kernel_rfl,rfl⟩) (by assumption) ?_
    (try simp only [Act.put]);(try simp only [List.setIfInBounds_toArray]);(try simp only [List.set_cons_succ]);(try simp only [List.set_cons_zero])
    refine wpAnyH_take (i:=9) (oi:=⟨some 38,_,_,_,_,_⟩) (v:=undef) rfl (by kernel_rfl) (by kernel_rfl) (by kernel_rfl) (fun _ _ _ h=>h) (Or.inr ⟨by kernel_rfl,rfl⟩) (by assumption) ?_
    (try simp only [Act.put]);(try simp only [List.setIfInBounds_toArray]);(try simp only [List.set_cons_succ]);(try simp only [List.set_cons_zero])
    refine wpAnyH_take (i:=10) (oi:=⟨some 39,_,_,_,_,_⟩) (v:=undef) rfl (by kernel_rfl) (by kernel_rfl) (by kernel_rfl) (fun _ _ _ h=>h) (Or.inr ⟨by kernel_rfl,rfl⟩) (by assumption) ?_
    (try simp only [Act.put]);(try simp only [List.setIfInBounds_toArray]);(try simp only [List.set_cons_succ]);(try simp only [List.set_cons_zero])
    refine wpAnyH_take (i:=11) (oi:=⟨some 40,_,_,_,_,_⟩) (v:=?_) rfl (by kernel_rfl) (by kernel_rfl) (by kernel_rfl) (fun _ _ _ h=>h) (Or.inl ⟨by kernel_rfl,?_⟩) (by assumption) ?_
    rotate_left
    ·(intro Y l;(try dsimp only at l);(go_simp <;> with_reducible rfl))
    (try simp only [Act.put]);(try simp only [List.setIfInBounds_toArray]);(try simp only [List.set_cons_succ]);(try simp only [List.set_cons_zero])
    refine wpAnyH_ready (rs:=[3]) (by kernel_rfl) (by simp) ?_;refine AllReadyH.cons rfl (fun K hK=>?_) AllReadyH.nil
    go_simp
    refine hK.out _ _ ?_ (fun hHeld2=>?_)
    ·(try dsimp only);(first | (with_reducible exact a6.out) | go_keep)
    clear hK K o;have o:=hHeld2;clear hHeld2;refine wpAnyH_take (i:=12) (oi:=⟨some 41,_,_,_,_,_⟩) (v:=?_) rfl (by kernel_rfl) (by kernel_rfl) (by kernel_rfl) (fun _ _ _ h=>h) (Or.inl ⟨by kernel_rfl,?_⟩) (by assumption) ?_
    rotate_left
    ·(intro Y l;(try dsimp only at l);(go_simp <;> with_reducible rfl))
    (try simp only [Act.put]);(try simp only [List.setIfInBounds_toArray]);(try simp only [List.set_cons_succ]);(try simp only [List.set_cons_zero])
    refine wpAnyH_ready (rs:=[13]) (by kernel_rfl) (by simp) ?_;refine AllReadyH.cons rfl (fun K hK=>?_) AllReadyH.nil
    go_simp
    refine hK.out _ _ ?_ (fun hHeld2=>?_)
    ·(try dsimp only);(first | (with_reducible exact a6.out) | go_keep)
    clear hK K o;have o:=hHeld2;clear hHeld2;refine wpAnyH_take (i:=14) (oi:=⟨some 7,_,_,_,_,_⟩) (v:=?_) rfl (by kernel_rfl) (by kernel_rfl) (by kernel_rfl) (fun _ _ _ h=>h) (Or.inl ⟨by kernel_rfl,?_⟩) (by assumption) ?_
    rotate_left
    ·(intro Y l;(try dsimp only at l);(go_simp <;> with_reducible rfl))
    (try simp only [Act.put]);(try simp only [List.setIfInBounds_toArray]);(try simp only [List.set_cons_succ]);(try simp only [List.set_cons_zero])
    refine wpAnyH_done (by kernel_rfl) ?_ _;go_wp2;go_meet
    case rel=>
     have G:=cz.out _ rfl;rw [ab.out] at G;exact ⟨true,0,e.md,e.nm,p.np.a,e.ns.length,p.np.c,ta0,e.ty.length,tc0,4,some ⟨d.heap.size,0,none⟩,1,1,none,0,0,rfl,G⟩
   ·have ab : Hid (b = (e.num == 1)):=by
     show _ = _;rw [C,decide_eq_false hz,Bool.false_or];by_cases h1 : e.num = 1
     ·rw [decide_eq_true h1,beq_iff_eq.2 h1]
     ·rw [decide_eq_false h1,bn2 h1]
    have hq : (e.num == 0) = false:=bn2 hz;clear m C P hz;go_wp2
    go_region_held3 (fun q=>q.cell? ⟨w.heap.size + 1,1,none⟩ = some (.int .i64 e.num)) (first | (with_reducible exact a6.out) | go_keep) (first | (go_at_call 76;(with_reducible refine (Z.out _).mono ?_);rintro r0 u0 ⟨rfl,rfl⟩))
    all_goals
     go_wp2;go_meet
     case rel=>
      have G:=cz.out _ rfl;rw [ab.out] at G;exact ⟨(e.num == 1),0,e.md,e.nm,p.np.a,e.ns.length,p.np.c,ta0,e.ty.length,tc0,4,some ⟨d.heap.size,0,none⟩,1,1,none,0,0,rfl,G⟩
  ·have di : Hid (A = none):=by show _ = _;rw [N.out];exact xb (by rw [M.out];exact ⟨o1,o2,o3,o4,o5,o6,o7,o8,o9,bv⟩)
   have c1 : (op == 1) = false:=bn2 o1;have c2 : (op == 2) = false:=bn2 o2;have c3 : (op == 3) = false:=bn2 o3;have c4 : (op == 4) = false:=bn2 o4;have c5 : (op == 5) = false:=bn2 o5;have c6 : (op == 6) = false:=bn2 o6;have c7 : (op == 7) = false:=bn2 o7;have c8 : (op == 8) = false:=bn2 o8;have c9 : (op == 9) = false:=bn2 o9;have hE : (op == 10) = false:=bn2 bv;go_wp2;go_meet
   case rel=>exact ⟨false,e.num,e.md,e.nm,p.np.a,e.ns.length,p.np.c,ta0,e.ty.length,tc0,4,none,0,0,none,0,0,rfl,⟨s.out,by omega,by rw [di.out];rfl,fun f m=>by rw [di.out] at m;cases m⟩⟩
 case rest=>
  obtain ⟨ok,U,a3,a2,a',n',c',b',m',d',L,I,tn,H,E,nn,J,rfl,HX⟩:=hcut;have R:=HX.out.r;have k1 : wc.cell? ⟨w.heap.size + 1,1,none⟩ = some (.int .i64 U):=R.box.cell (i:=1) (by omega);have k2 : wc.cell? ⟨w.heap.size + 1,2,none⟩ = some (.string a3):=R.box.cell (i:=2) (by omega);have k3 : wc.cell? ⟨w.heap.size + 1,3,none⟩ = some (.string a2):=R.box.cell (i:=3) (by omega);have k4 : wc.cell? ⟨w.heap.size + 1,4,none⟩ = some (.slice a' n' c'):=R.box.cell (i:=4) (by omega);have k5 : wc.cell? ⟨w.heap.size + 1,5,none⟩ = some (.slice b' m' d'):=R.box.cell (i:=5) (by omega);have f0 : wc.cell? ⟨w.heap.size + 1 + 1 + 1,0,none⟩ = some (.int .i64 L):=R.frm.cell (i:=0) (by omega);have f1 : wc.cell? ⟨w.heap.size + 1 + 1 + 1,1,none⟩ = some (.slice E nn J):=R.frm.cell (i:=1) (by omega);have f2 : wc.cell? ⟨w.heap.size + 1 + 1 + 1,2,none⟩ = some (.slice I tn H):=R.frm.cell (i:=2) (by omega);have r0 : wc.cell? ⟨w.heap.size + 1 + 1,0,none⟩ = some (.int .i64 0):=R.res.cell (i:=0) (by omega);have r1 : wc.cell? ⟨w.heap.size + 1 + 1,1,none⟩ = some (.slice none 0 0):=R.res.cell (i:=1) (by omega);have r2 : wc.cell? ⟨w.heap.size + 1 + 1,2,none⟩ = some (.slice none 0 0):=R.res.cell (i:=2) (by omega);have t0:=R.res.frozen 0;have t1:=R.res.frozen 1;have t2:=R.res.frozen 2
  have HG : Hid (∀ (b : Bool),b = iX ok U a3 a2 n' m' -> ∀ V : World,V = (((wc.setCell ⟨w.heap.size + 1 + 1,0,none⟩ (.int .i64 L)).setCell ⟨w.heap.size + 1 + 1,1,none⟩ (.slice E nn J)).setCell ⟨w.heap.size + 1 + 1,2,none⟩ (.slice I tn H)) -> V.drew.rowIs (w.heap.size + 1 + 1) 112 3 (v3 (.int .i64 L) (.slice E nn J) (.slice I tn H)) /\ tF w A (.returned (.tuple #[.agg #[.int .i64 L,.slice E nn J,.slice I tn H],.bool b])) V.drew):=fun b C V hV=>by
   have G:=HX.out.r.give HX.out.n HX.out.fm (b:=b) (by rw [C,HX.out.is]);rw [hV];exact ⟨G.1.drew,G.2.drew⟩
  clear R s HX dt
  cases ok with
  | false=>
    go_wp2
    go_region
    all_goals
     go_wp2;have G:=HG.out false (by show _ = _;unfold iX;simp) _ rfl;exact bodyPost_ret (fA G.1 _ rfl rfl) rfl G.2
  | true=>
    by_cases z1 : U = 0
    ·subst z1
     by_cases z2 : a3.size = 0
     ·have e2 : a3 = ByteArray.empty:=bJ z2
      subst e2;by_cases z3 : a2.size = 0
      ·have e3 : a2 = ByteArray.empty:=bJ z3
       subst e3;by_cases z4 : n' = 0
       ·subst z4
        by_cases z5 : m' = 0
        ·subst z5
         go_wp2
         go_region
         all_goals
          go_wp2;have G:=HG.out true (by show _ = _;unfold iX;rfl) _ rfl;exact bodyPost_ret (fA G.1 _ rfl rfl) rfl G.2
        ·have q5 : ((m' : Int) == 0) = false:=bn2 (by omega)
         go_wp2
         go_region
         all_goals
          go_wp2;have G:=HG.out false (by show _ = _;unfold iX;rw [decide_eq_false z5];simp) _ rfl;exact bodyPost_ret (fA G.1 _ rfl rfl) rfl G.2
       ·have q4 : ((n' : Int) == 0) = false:=bn2 (by omega)
        go_wp2
        go_region
        all_goals
         go_wp2;have G:=HG.out false (by show _ = _;unfold iX;rw [decide_eq_false z4];simp) _ rfl;exact bodyPost_ret (fA G.1 _ rfl rfl) rfl G.2
      ·have q3:=gL z3
       go_wp2
       go_region
       all_goals
        go_wp2;have G:=HG.out false (by show _ = _;unfold iX;rw [decide_eq_false z3];simp) _ rfl;exact bodyPost_ret (fA G.1 _ rfl rfl) rfl G.2
     ·have q2:=gL z2
      go_wp2
      go_region
      all_goals
       go_wp2;have G:=HG.out false (by show _ = _;unfold iX;rw [decide_eq_false z2];simp) _ rfl;exact bodyPost_ret (fA G.1 _ rfl rfl) rfl G.2
    ·have q1 : (U == 0) = false:=bn2 z1
     go_wp2
     go_region
     all_goals
      go_wp2;have G:=HG.out false (by show _ = _;unfold iX;rw [decide_eq_false z1];simp) _ rfl;exact bodyPost_ret (fA G.1 _ rfl rfl) rfl G.2
end Go.Proofs.YtihedobejcaapaaGreatDoor
