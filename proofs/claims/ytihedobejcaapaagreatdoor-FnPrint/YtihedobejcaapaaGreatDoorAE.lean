/-
  PfE
-/
import Derived.Test.YtihedobejcaapaaGreatDoorAD
set_option maxHeartbeats 4000000
set_option maxRecDepth 100000
namespace Go.Proofs.YtihedobejcaapaaGreatDoor
open Go.RowKit
theorem Tryz.infoDC : (Tryz.prog.info? 37).map (fun i=>(i.zero,i.size,i.bytes)) = some (some (.agg #[.int .i64 0,.string ByteArray.empty,.slice none 0 0,.slice none 0 0]),4,72):=by kernel_rfl
def xd (w : World) (ds : List DC) (e : Ending) (w' : World) : Prop:=Bw w w' /\ ∃ v xs,e = .returned (.agg #[v]) /\ OD w.heap.size w' v xs /\ xs.map Prod.fst = ds
structure eC (w : World) (s : ByteArray) (us : List TK) (ao : Option Addr) (c : Nat) (v : Value) (xs : List (DC × DPl)) (wr : World) : Prop where
 below : Bw w wr
 box : wr.rowIs w.heap.size 25 1 (fun _=>.slice none 0 0)
 mod : wr.rowIs (w.heap.size + 1) 25 1 (fun _=>v)
 own : OD (w.heap.size + 2) wr v xs
 tk : 0 < us.length -> ∃ tb o,dq wr tb o us /\ ao = some ⟨tb,o,none⟩ /\ tb < wr.heap.size /\ w.heap.size + 2 <= tb /\ v.ownBlock ≠ some tb
 ok : iD us
 cap : us.length <= c /\ c <= 9223372036854775807
 is : xs.map Prod.fst ++ cF true (us.length + 1) us = cF true ((bB s).length + 1) (bB s)
 few : xs.length + us.length <= 1000
theorem eC.on {w wr w1 : World} {s : ByteArray} {us : List TK} {ao : Option Addr} {c : Nat} {v : Value} {xs : List (DC × DPl)} (h : eC w s us ao c v xs wr) (hb : Bw wr w1) : eC w s us ao c v xs w1:=by
 have d : ai [] wr w1:=⟨hb.os,hb.tape,hb.output,hb.size,fun k hk _=>hb.block k hk⟩;refine ⟨h.below.trans (hb.mono h.below.size),h.box.of_block (hb.block _ h.box.lt),h.mod.of_block (hb.block _ h.mod.lt),h.own.low d (by simp),fun z=>?_,h.ok,h.cap,h.is,h.few⟩;obtain ⟨f,o,b,e,a,g⟩:=h.tk z;exact ⟨f,o,b.below hb,e,Nat.lt_of_lt_of_le a hb.size,g⟩
theorem dq.drew {w : World} {tb o : Nat} {ts : List TK} (h : dq w tb o ts) : dq w.drew tb o ts:=⟨h.c0,h.c1,h.c2,h.len,h.sz,h.gd⟩
theorem vt {W : World} {X : Nat} {f : Nat -> Value} (R : W.rowIs X 25 1 f) (a : Value) (tmps : Array Value) (h2 : tmps[2]?.getD undef = .pointer (some ⟨X,0,none⟩)) :
  (results Tryz.f8 tmps).run Tryz.prog (W.setCell ⟨X,0,none⟩ a) = .ok (.agg #[a]) (W.setCell ⟨X,0,none⟩ a):=by
 have r:=R.set 0 a;obtain ⟨V,b⟩:=xe (W.setCell ⟨X,0,none⟩ a);rw [<- b] at r ⊢;clear b R;have c : V.cell? ⟨X,0,none⟩ = some a:=r.cell (i:=0) (by omega);unfold results;rw [show Tryz.f8.results = #[.cell 2 25] from rfl];simp [go_sem,h2,c]
theorem eC.done {w wr : World} {s : ByteArray} {ao : Option Addr} {c : Nat} {v : Value} {xs : List (DC × DPl)} {us : List TK} (h : eC w s us ao c v xs wr) (he : us.length = 0) : xd w (cF true ((bB s).length + 1) (bB s)) (.returned (.agg #[v])) (wr.setCell ⟨w.heap.size,0,none⟩ v):=by
 have e : us = []:=List.length_eq_zero_iff.1 he;have d : ai [w.heap.size] wr (wr.setCell ⟨w.heap.size,0,none⟩ v):=(ai.refl _ _).set (fun _=>by simp) 0 v;refine ⟨?_,v,xs,rfl,(h.own.low d (fun b d=>by have:=ms1 d;omega)).mono (by omega),?_⟩
 ·have a:=h.below
  exact ⟨a.os,a.tape,a.output,by rw [World.size_setCell];exact a.size,fun k hk=>(d.block k (Nat.lt_of_lt_of_le hk a.size) (by simp;omega)).trans (a.block k hk)⟩
 ·rw [<- h.is,e,oB,List.append_nil]
theorem eC.next {w wr w2 w3 : World} {s : ByteArray} {ao ao' : Option Addr} {c c' : Nat} {v : Value} {xs : List (DC × DPl)} {us us' : List TK} {x : DC × DPl} {o : Obj} {gg cap3 : Nat} (h : eC w s us ao c v xs wr) (hb : Bw wr w2)
  (hown : w3.ownsRow (w.heap.size + 2) 37 4 (.slice (some ⟨gg,0,none⟩) (xs.length + 1) cap3) (xs.length + 1) (bj xs ++ fU x)) (hg : (w2.alloc o).grownBy w3 v.ownBlock) (hat : v.ownBlock = some gg \/ gg = w2.heap.size + 1)
  (hx : fa wr.heap.size w2 x.1 x.2) (hl : us'.length < us.length) (hok : iD us') (hc : us'.length <= c' /\ c' <= 9223372036854775807) (his : cF true (us.length + 1) us = x.1 :: cF true (us'.length + 1) us')
  (htk : 0 < us'.length -> ∀ tb o,dq wr tb o us -> ao = some ⟨tb,o,none⟩ -> ∃ o',dq wr tb o' us' /\ ao' = some ⟨tb,o',none⟩) :
  eC w s us' ao' c' (.slice (some ⟨gg,0,none⟩) (xs.length + 1) cap3) (xs ++ [x]) (w3.setCell ⟨w.heap.size + 1,0,none⟩ (.slice (some ⟨gg,0,none⟩) (xs.length + 1) cap3)):=by
 have D:=h.below.size;have r:=h.mod.lt;have g:=h.on hb;have d:=dS hg;have t:=g.own.push hown hg hat (hx.mono (by omega)) (M:=wr.heap.size) (fun b hb=>(hx.lt hb).1) (fun b e=>(h.own.own.lt b e).2) (fun b e=>(h.own.lt e).2);have m : ∀ b,b < w.heap.size + 2 -> v.ownBlock ≠ some b:=fun b hb e=>by have:=(h.own.own.lt b e).1;omega
 obtain ⟨V,n⟩ : ∃ V : Value,V = .slice (some ⟨gg,0,none⟩) (xs.length + 1) cap3:=⟨_,rfl⟩;have B : V.ownBlock = some gg:=by rw [n];rfl
 rw [<- n] at t ⊢;have a : ai [w.heap.size + 1] w3 (w3.setCell ⟨w.heap.size + 1,0,none⟩ V):=(ai.refl _ _).set (fun _=>by simp) 0 _;have l : ∀ b,b < w2.heap.size -> v.ownBlock ≠ some b -> w3.heap[b]? = w2.heap[b]?:=fun b hb hn=>d.block b hb (by simp only [Option.mem_toList];exact hn);have j:=g.mod.of_block (l _ g.mod.lt (m _ (by omega)));have f:=g.box.of_block (l _ g.box.lt (m _ (by omega)))
 refine ⟨?_,f.of_block (a.block _ f.lt (by simp)),(j.set 0 V).congr (fun k hk=>by
  match k,hk with
  | 0,_=>rfl),t.low a (fun b hb=>by have:=ms1 hb;omega),fun z=>?_,hok,hc,?_,?_⟩
 ·have i:=g.below
  refine ⟨a.os.trans (d.os.trans i.os),a.tape.trans (d.tape.trans i.tape),a.output.trans (d.output.trans i.output),Nat.le_trans i.size (Nat.le_trans d.size a.size),fun k hk=>?_⟩;have:=i.size;have:=d.size;rw [a.block k (by omega) (by simp;omega),l k (by omega) (m _ (by omega)),i.block k hk]
 ·obtain ⟨tb,o,u,y,H,C,p⟩:=h.tk (by omega)
  obtain ⟨o',F,A⟩:=htk z tb o u y;have G:=hb.size;have E:=d.size;refine ⟨tb,o',((F.below hb).but d (by simp only [Option.mem_toList];exact p)).but a (by simp;omega),A,by have:=a.size;omega,C,?_⟩;intro e;rw [B] at e;cases e;rcases hat with q | q
  ·exact p q
  ·omega
 ·rw [<- h.is,his,List.map_append,List.append_assoc];rfl
 ·have:=h.few;rw [lap];simp;omega
theorem yg (s : ByteArray) (m : Int) (w : World) (hs : s.size <= 9223372036854775807) (hm : w.cell? ⟨1,0,none⟩ = some (.int .i64 m)) {eT : TypeId} {eV : Value} (hev : w.cell? ⟨0,0,none⟩ = some (.iface eT eV)) :
  Calls Tryz.prog 8 #[.string s] w (xd w (cF true ((bB s).length + 1) (bB s))):=by
 obtain ⟨i0,a5,a3,a2,an⟩:=info_parts Tryz.infoDC;obtain ⟨W2,H⟩:=xe ((w.alloc (.cells #[.slice none 0 0] 25)).alloc (.cells #[.slice none 0 0] 25));have B2 : Bw w W2:=by rw [H];exact (bel1 _ _).alloc (by simp) _
 have RX : W2.rowIs w.heap.size 25 1 (fun _=>.slice none 0 0):=by rw [H];exact (aK _ _ _).alloc _
 have RM : W2.rowIs (w.heap.size + 1) 25 1 (fun _=>.slice none 0 0):=by
  have:=aK (w.alloc (.cells #[.slice none 0 0] 25)) (.slice none 0 0) 25;simp only [World.size_alloc] at this;rw [H];exact this
 have s2 : W2.heap.size = w.heap.size + 2:=by rw [H];simp
 have h0:=blt hev;have h1:=blt hm;have C6 : Hid (Calls Tryz.prog 14 #[.string s] W2 fun e w'=>∃ v,e = .returned v /\ pO W2 w' v (bB s)):=c6 s m W2 hs ((B2.cell (p:=⟨1,0,none⟩) h1).trans hm);have b9 : Hid (∀ W,Bw w W -> W.cell? ⟨0,0,none⟩ = some (.iface eT eV)):=fun W hb=>(hb.cell (p:=⟨0,0,none⟩) h0).trans hev;have l:=hQx B2;have HX:=hQx RX;have HM:=hQx RM;have bs:=hQx s2;clear B2 RX RM hm hev s2;go_enter Tryz.func8,Tryz.ntmps8;go_wp2_with fail;rw [<- H];clear H;refine C6.out.mono ?_;rintro e w3 ⟨v0,rfl,hO⟩
 have HL : ∃ ao c,v0 = .slice ao (bB s).length c /\ Hid (eC w s (bB s) ao c (.slice none 0 0) [] w3):=by
  obtain ⟨ao,c,rfl⟩:=ad hO.own;refine ⟨ao,c,rfl,?_⟩;have hb:=hO.below;have hl:=i6 s;have e2:=bs.out;refine ⟨l.out.trans (hb.mono (by omega)),HX.out.of_block (hb.block _ HX.out.lt),HM.out.of_block (hb.block _ HM.out.lt),OD.nil _ _,?_,rO s,?_,by simp,by simp;omega⟩
  ·intro hp
   obtain ⟨g,J,e,hg,A,_⟩:=au hO.own hp;cases e;exact ⟨g,0,dq.of_own hO,rfl,A,by omega,by simp [Value.ownBlock]⟩
  ·rcases hO.own.2 with ⟨e,z⟩ | ⟨g,c9,ef,e,_,_,h5,h6,_⟩
   ·simp only [Value.slice.injEq] at e;omega
   ·simp only [Value.slice.injEq] at e;unfold maxLen at h6;omega
 obtain ⟨ao,c,rfl,bo⟩:=HL;clear hO C6 l HX HM bs;go_wp2
 go_loopw [4] (fun r wr=>∃ (d : List TK) (ao : Option Addr) (c : Nat) (v : Value) (q : List (DC × DPl)),r = .slice ao d.length c /\ Hid (eC w s d ao c v q wr)) (fun r _=>match r with | .slice _ n _=>n | _=>0)
 case atStart=>exact ⟨_,_,_,_,_,rfl,bo⟩
 case round=>
  obtain ⟨d,a1,J,v,q,rfl,E⟩:=hrel;clear bo;by_cases A : 0 < d.length
  case neg=>
   have HZ : Hid (d.length = 0):=by show _ = _;omega
   obtain ⟨n,hn⟩:=xe (d.length);have ch : n = 0:=by omega
   rw [<- hn];clear hn A;subst ch;have cm:=E.out.mod.cell (i:=0) (by omega);have cx:=E.out.box.cell (i:=0) (by omega);have zx:=E.out.box.frozen 0;obtain ⟨I,G,hv⟩:=ad E.out.own.own;subst hv;go_wp2;exact bodyPost_ret (vt E.out.box _ _ rfl) rfl (E.out.done HZ.out)
  obtain ⟨tb,o,u,e,ds,d0,de⟩:=E.out.tk A;subst e;have CI : Hid (Calls Tryz.prog 15 #[.slice (some ⟨tb,o,none⟩) d.length J,.func (.func 16) #[] #[]] wr fun e w'=>Hid (Bw wr w') /\ ((e = .returned (.int .i64 (-1)) /\ Hid (semi d = none)) \/ ∃ i : Nat,e = .returned (.int .i64 (i : Int)) /\ i < d.length /\ Hid (semi d = some i))):=wU u (fun _=>rfl);obtain ⟨I,G,hv⟩:=ad E.out.own.own;subst hv;have ct:=E.out.few;have cp:=E.out.cap;clear u;go_wp2_with fail;refine CI.out.mono ?_;rintro e L ⟨a0,(⟨rfl,Z⟩ | ⟨k,rfl,hk,Z⟩)⟩
  ·have a : Hid (eC w s d (some ⟨tb,o,none⟩) J (.slice I q.length G) q L):=E.out.on a0.out
   have b7:=a.out.below.size;have cm:=a.out.mod.cell (i:=0) (by omega);have cx:=a.out.box.cell (i:=0) (by omega);have zx:=a.out.box.frozen 0;have dl:=a.out.box.lt;have cc:=a.out.mod.lt;clear E CI a0;go_wp2_with (first | (at_builtin;refine wpList_append_lies _ rfl _ _ 23 rfl (w.heap.size + 2) 37 i0 _ 4 72 Tryz.underlying23 a5 a3 a2 an rfl (by omega) (.slice I q.length G) q.length (bj q) rfl (a.out.own.own.alloc _) ⟨L.heap.size,0,none⟩ 1 1 [.int .i64 0,.string ⟨#[]⟩,.slice none 0 0,.slice none 0 0] rfl rfl (World.news_of_block (cs:=#[.int .i64 0,.string ⟨#[]⟩,.slice none 0 0,.slice none 0 0]) (t:=37) (fr:=(0,0)) (heap_alloc_new L _)) (by simp [Value.oneCell']) (by omega) (by unfold maxLen;omega) (by omega) (by simp;omega) (L.heap.size + 1) (by simp) ?_;intro gg O w3 b j f R;have D : w3.rowIs (w.heap.size + 1) 25 1 (fun _=>.slice I q.length G):=(a.out.mod.alloc _).of_block (j.block _ (by simp;omega) (fun e=>by have:=(a.out.own.own.lt _ e.symm).1;omega));have c3:=D.cell (i:=0) (by omega);have z3:=D.frozen 0;have x3 : w3.rowIs w.heap.size 25 1 (fun _=>.slice none 0 0):=(a.out.box.alloc _).of_block (j.block _ (by simp;omega) (fun e=>by have:=(a.out.own.own.lt _ e.symm).1;omega));have c4:=x3.cell (i:=0) (by omega);have z4:=x3.frozen 0));have HN : Hid (d ≠ []):=fun e=>by rw [e] at A;exact absurd A (by decide)
   have X:=a.out.next (us':=[]) (ao':=none) (c':=0) (x:=(cK,pN)) (w2:=L) (Below.refl _ _) b j f (j0 _ _ _ _) (by simpa using A) ⟨(fun t ht=>by cases ht),(fun t ht=>by cases ht),(fun t ht=>by cases ht),(fun t ht=>by cases ht)⟩ (by simp) (by rw [sK HN.out Z.out,oB]) (fun z=>absurd z (by decide));exact bodyPost_ret (vt X.box _ _ rfl) rfl (X.done rfl)
  ·have a : Hid (eC w s d (some ⟨tb,o,none⟩) J (.slice I q.length G) q L):=E.out.on a0.out
   have b7:=a.out.below.size;have cm:=a.out.mod.cell (i:=0) (by omega);have zm:=a.out.mod.frozen 0;have cc:=a.out.mod.lt
   have CP : Hid (Calls Tryz.prog 17 #[.slice (some ⟨tb,o,none⟩) k J] L.drew (Dg L (bM true (d.take k)))):=by
    have hl : (d.take k).length = k:=by rw [List.length_take];omega
    obtain ⟨bb,o',u,e,bx,_⟩:=a.out.tk A;cases e;have:=vx (w:=L.drew) (c:=J) (ao:=some ⟨tb,o,none⟩) (Ck (a.out.ok.take k)) (tb:=tb) (o:=o) (u.take k).drew bx (fun _=>rfl) (by omega) (b9.out L a.out.below);rw [hl] at this;refine this.mono ?_;rintro e w' ⟨p,M,Q,P,U,N,Y,en,T,he,h1,h2,h3⟩;exact ⟨p,M,Q,P,U,N,Y,en,T,he,h1,h2,⟨h3.out.os,h3.out.tape,h3.out.output,h3.out.size,h3.out.block⟩⟩
   have dt : ¬ (k : Int) < 0:=by omega
   have d2 : k <= J:=by omega
   clear E CI a0;go_wp2;refine wp_region_held_drew (S:=fun _=>True) (by kernel_rfl) trivial (fun hHeld=>?_);refine wpAnyH_take (i:=0) (oi:=⟨some 21,_,_,_,_,_⟩) (v:=?_) rfl (by kernel_rfl) (by kernel_rfl) (by kernel_rfl) (fun _ _ _ h=>h) (Or.inl ⟨by kernel_rfl,?_⟩) (by assumption) ?_
   rotate_left
   ·(intro wS C;(try dsimp only at C);(go_simp <;> with_reducible rfl))
   (try simp only [Act.put]);(try simp only [List.setIfInBounds_toArray]);(try simp only [List.set_cons_succ]);(try simp only [List.set_cons_zero])
   refine wpAnyH_take (i:=2) (oi:=⟨some 23,_,_,_,_,_⟩) (v:=?_) rfl (by kernel_rfl) (by kernel_rfl) (by kernel_rfl) (fun _ _ _ h=>h) (Or.inl ⟨by kernel_rfl,?_⟩) (by assumption) ?_
   rotate_left
   ·(intro wS C;(try dsimp only at C);(go_simp <;> with_reducible rfl))
   (try simp only [Act.put]);(try simp only [List.setIfInBounds_toArray]);(try simp only [List.set_cons_succ]);(try simp only [List.set_cons_zero])
   refine wpAnyH_take (i:=3) (oi:=⟨some 24,_,_,_,_,_⟩) (v:=?_) rfl (by kernel_rfl) (by kernel_rfl) (by kernel_rfl) (fun _ _ _ h=>h) (Or.inl ⟨by kernel_rfl,?_⟩) (by assumption) ?_
   rotate_left
   ·(intro wS C;(try dsimp only at C);(go_simp <;> with_reducible rfl))
   (try simp only [Act.put]);(try simp only [List.setIfInBounds_toArray]);(try simp only [List.set_cons_succ]);(try simp only [List.set_cons_zero])
   refine wpAnyH_take (i:=4) (oi:=⟨some 25,_,_,_,_,_⟩) (v:=?_) rfl (by kernel_rfl) (by kernel_rfl) (by kernel_rfl) (fun _ _ _ h=>h) (Or.inl ⟨by kernel_rfl,?_⟩) (by assumption) ?_
   rotate_left
   ·(intro wS C;(try dsimp only at C);(go_simp <;> with_reducible rfl))
   (try simp only [Act.put]);(try simp only [List.setIfInBounds_toArray]);(try simp only [List.set_cons_succ]);(try simp only [List.set_cons_zero])
   refine wpAnyH_ready (rs:=[1,5]) (by kernel_rfl) (by simp) ?_;refine AllReadyH.cons rfl (fun K hK=>?_) ?_
   ·go_simp
    refine hK.out _ _ trivial (fun hHeld2=>?_);clear hK K;refine wpAnyH_ready (rs:=[5]) (by kernel_rfl) (by simp) ?_;refine AllReadyH.cons rfl (fun K hK=>?_) AllReadyH.nil
    go_simp
    go_wp2_with (first | (go_at_call 17;refine CP.out.mono ?_;rintro e B ⟨p,M,Q,P,U,N,Y,en,T,rfl,HC,HX,l⟩));have B2 : Bw L B:=⟨l.out.os,l.out.tape,l.out.output,l.out.size,fun k hk=>l.out.block k hk (by simp)⟩;have F:=a.out.on B2;have ca:=F.mod.cell (i:=0) (by omega);have bv:=(F.mod.alloc (.cells #[.int .i64 M,.string Q,.slice P U N,.slice Y en T] 37)).cell (i:=0) (by omega);have bp:=F.below.size;have b0:=F.mod.lt;have y : Hid (eC w s d (some ⟨tb,o,none⟩) J (.slice I q.length G) q B):=F;clear F;refine hK.out _ _ trivial (fun hHeld2=>?_);clear hK K;refine wpAnyH_ready (rs:=[6]) (by kernel_rfl) (by simp) ?_;refine AllReadyH.cons rfl (fun K hK=>?_) AllReadyH.nil
    go_simp
    refine hK.out _ _ trivial (fun hHeld2=>?_);clear hK K;refine wpAnyH_ready (rs:=[7]) (by kernel_rfl) (by simp) ?_;refine AllReadyH.cons rfl (fun K hK=>?_) AllReadyH.nil;refine step_append_lies _ (by rfl) _ _ _ (by rfl) (w.heap.size + 2) 37 i0 _ 4 72 Tryz.underlying23 a5 a3 a2 an rfl (by omega) (.slice I q.length G) q.length (bj q) (by rfl) (y.out.own.own.alloc _) ⟨B.heap.size,0,none⟩ 1 1 [.int .i64 M,.string Q,.slice P U N,.slice Y en T] (by rfl) (by rfl) (World.news_of_block (cs:=#[.int .i64 M,.string Q,.slice P U N,.slice Y en T]) (t:=37) (fr:=(0,0)) (heap_alloc_new B _)) (by simp [Value.oneCell']) (by omega) (by unfold maxLen;have:=a.out.few;omega) (by have:=a.out.few;omega) (by simp;omega) (B.heap.size + 1) (by simp) ?_;intro gg O w3 b j f R;have X:=fun (us' : List TK) (ao'' : Option Addr) (c'' : Nat) hl hok hc his u=>a.out.next (us':=us') (ao':=ao'') (c':=c'') (x:=(bM true (d.take k),p)) B2 (by rw [HC.out];exact b) j f HX.out hl hok hc his u;have V : Hid (∀ (us' : List TK) (ao'' : Option Addr) (c'' : Nat),_):=X;clear X;have D : w3.rowIs (w.heap.size + 1) 25 1 (fun _=>.slice I q.length G):=(y.out.mod.alloc _).of_block (j.block _ (by simp;omega) (fun e=>by have:=(y.out.own.own.lt _ e.symm).1;omega));have c3:=D.cell (i:=0) (by omega);have z3:=D.frozen 0;clear D b j f;refine hK.out _ _ trivial (fun hHeld2=>?_);clear hK K;refine wpAnyH_ready (rs:=[8]) (by kernel_rfl) (by simp) ?_;refine AllReadyH.cons rfl (fun K hK=>?_) AllReadyH.nil
    go_simp
    refine hK.out _ _ trivial (fun hHeld2=>?_);clear hK K;refine wpAnyH_ready (rs:=[9]) (by kernel_rfl) (by simp) ?_;refine AllReadyH.cons rfl (fun K hK=>?_) AllReadyH.nil
    go_simp
    refine hK.out _ _ trivial (fun hHeld2=>?_);clear hK K;refine wpAnyH_done (by kernel_rfl) ?_ _;clear CP hHeld;go_wp2;exact ⟨⟨d.drop (k + 1),_,_,_,_,by rw [List.length_drop],V.out (d.drop (k + 1)) _ _ (by rw [List.length_drop];omega) (a.out.ok.drop _) (by rw [List.length_drop];omega) (jx hk Z.out) (fun z bb o' h e=>by cases e;refine ⟨o + (k + 1) * 3,h.drop (k + 1),?_⟩;rw [List.length_drop] at z;rw [if_neg (by omega)])⟩,by show d.length - (k + 1) < d.length;omega⟩
   refine AllReadyH.cons rfl (fun K hK=>?_) AllReadyH.nil
   go_simp
   go_wp2_with (first | (go_at_call 17;refine CP.out.mono ?_;rintro e B ⟨p,M,Q,P,U,N,Y,en,T,rfl,HC,HX,l⟩));have B2 : Bw L B:=⟨l.out.os,l.out.tape,l.out.output,l.out.size,fun k hk=>l.out.block k hk (by simp)⟩;have F:=a.out.on B2;have ca:=F.mod.cell (i:=0) (by omega);have bv:=(F.mod.alloc (.cells #[.int .i64 M,.string Q,.slice P U N,.slice Y en T] 37)).cell (i:=0) (by omega);have bp:=F.below.size;have b0:=F.mod.lt;have y : Hid (eC w s d (some ⟨tb,o,none⟩) J (.slice I q.length G) q B):=F;clear F;refine hK.out _ _ trivial (fun hHeld2=>?_);clear hK K;refine wpAnyH_ready (rs:=[1,6]) (by kernel_rfl) (by simp) ?_;refine AllReadyH.cons rfl (fun K hK=>?_) ?_
   ·go_simp
    refine hK.out _ _ trivial (fun hHeld2=>?_);clear hK K;refine wpAnyH_ready (rs:=[6]) (by kernel_rfl) (by simp) ?_;refine AllReadyH.cons rfl (fun K hK=>?_) AllReadyH.nil
    go_simp
    refine hK.out _ _ trivial (fun hHeld2=>?_);clear hK K;refine wpAnyH_ready (rs:=[7]) (by kernel_rfl) (by simp) ?_;refine AllReadyH.cons rfl (fun K hK=>?_) AllReadyH.nil;refine step_append_lies _ (by rfl) _ _ _ (by rfl) (w.heap.size + 2) 37 i0 _ 4 72 Tryz.underlying23 a5 a3 a2 an rfl (by omega) (.slice I q.length G) q.length (bj q) (by rfl) (y.out.own.own.alloc _) ⟨B.heap.size,0,none⟩ 1 1 [.int .i64 M,.string Q,.slice P U N,.slice Y en T] (by rfl) (by rfl) (World.news_of_block (cs:=#[.int .i64 M,.string Q,.slice P U N,.slice Y en T]) (t:=37) (fr:=(0,0)) (heap_alloc_new B _)) (by simp [Value.oneCell']) (by omega) (by unfold maxLen;have:=a.out.few;omega) (by have:=a.out.few;omega) (by simp;omega) (B.heap.size + 1) (by simp) ?_;intro gg O w3 b j f R;have X:=fun (us' : List TK) (ao'' : Option Addr) (c'' : Nat) hl hok hc his u=>a.out.next (us':=us') (ao':=ao'') (c':=c'') (x:=(bM true (d.take k),p)) B2 (by rw [HC.out];exact b) j f HX.out hl hok hc his u;have V : Hid (∀ (us' : List TK) (ao'' : Option Addr) (c'' : Nat),_):=X;clear X;have D : w3.rowIs (w.heap.size + 1) 25 1 (fun _=>.slice I q.length G):=(y.out.mod.alloc _).of_block (j.block _ (by simp;omega) (fun e=>by have:=(y.out.own.own.lt _ e.symm).1;omega));have c3:=D.cell (i:=0) (by omega);have z3:=D.frozen 0;clear D b j f;refine hK.out _ _ trivial (fun hHeld2=>?_);clear hK K;refine wpAnyH_ready (rs:=[8]) (by kernel_rfl) (by simp) ?_;refine AllReadyH.cons rfl (fun K hK=>?_) AllReadyH.nil
    go_simp
    refine hK.out _ _ trivial (fun hHeld2=>?_);clear hK K;refine wpAnyH_ready (rs:=[9]) (by kernel_rfl) (by simp) ?_;refine AllReadyH.cons rfl (fun K hK=>?_) AllReadyH.nil
    go_simp
    refine hK.out _ _ trivial (fun hHeld2=>?_);clear hK K;refine wpAnyH_done (by kernel_rfl) ?_ _;clear CP hHeld;go_wp2;exact ⟨⟨d.drop (k + 1),_,_,_,_,by rw [List.length_drop],V.out (d.drop (k + 1)) _ _ (by rw [List.length_drop];omega) (a.out.ok.drop _) (by rw [List.length_drop];omega) (jx hk Z.out) (fun z bb o' h e=>by cases e;refine ⟨o + (k + 1) * 3,h.drop (k + 1),?_⟩;rw [List.length_drop] at z;rw [if_neg (by omega)])⟩,by show d.length - (k + 1) < d.length;omega⟩
   refine AllReadyH.cons rfl (fun K hK=>?_) AllReadyH.nil
   go_simp
   refine hK.out _ _ trivial (fun hHeld2=>?_);clear hK K;refine wpAnyH_ready (rs:=[1]) (by kernel_rfl) (by simp) ?_;refine AllReadyH.cons rfl (fun K hK=>?_) AllReadyH.nil
   go_simp
   refine hK.out _ _ trivial (fun hHeld2=>?_);clear hK K;refine wpAnyH_ready (rs:=[7]) (by kernel_rfl) (by simp) ?_;refine AllReadyH.cons rfl (fun K hK=>?_) AllReadyH.nil;refine step_append_lies _ (by rfl) _ _ _ (by rfl) (w.heap.size + 2) 37 i0 _ 4 72 Tryz.underlying23 a5 a3 a2 an rfl (by omega) (.slice I q.length G) q.length (bj q) (by rfl) (y.out.own.own.alloc _) ⟨B.heap.size,0,none⟩ 1 1 [.int .i64 M,.string Q,.slice P U N,.slice Y en T] (by rfl) (by rfl) (World.news_of_block (cs:=#[.int .i64 M,.string Q,.slice P U N,.slice Y en T]) (t:=37) (fr:=(0,0)) (heap_alloc_new B _)) (by simp [Value.oneCell']) (by omega) (by unfold maxLen;have:=a.out.few;omega) (by have:=a.out.few;omega) (by simp;omega) (B.heap.size + 1) (by simp) ?_;intro gg O w3 b j f R;have X:=fun (us' : List TK) (ao'' : Option Addr) (c'' : Nat) hl hok hc his u=>a.out.next (us':=us') (ao':=ao'') (c':=c'') (x:=(bM true (d.take k),p)) B2 (by rw [HC.out];exact b) j f HX.out hl hok hc his u;have V : Hid (∀ (us' : List TK) (ao'' : Option Addr) (c'' : Nat),_):=X;clear X;have D : w3.rowIs (w.heap.size + 1) 25 1 (fun _=>.slice I q.length G):=(y.out.mod.alloc _).of_block (j.block _ (by simp;omega) (fun e=>by have:=(y.out.own.own.lt _ e.symm).1;omega));have c3:=D.cell (i:=0) (by omega);have z3:=D.frozen 0;clear D b j f;refine hK.out _ _ trivial (fun hHeld2=>?_);clear hK K;refine wpAnyH_ready (rs:=[8]) (by kernel_rfl) (by simp) ?_;refine AllReadyH.cons rfl (fun K hK=>?_) AllReadyH.nil
   go_simp
   refine hK.out _ _ trivial (fun hHeld2=>?_);clear hK K;refine wpAnyH_ready (rs:=[9]) (by kernel_rfl) (by simp) ?_;refine AllReadyH.cons rfl (fun K hK=>?_) AllReadyH.nil
   go_simp
   refine hK.out _ _ trivial (fun hHeld2=>?_);clear hK K;refine wpAnyH_done (by kernel_rfl) ?_ _;clear CP hHeld;go_wp2;exact ⟨⟨d.drop (k + 1),_,_,_,_,by rw [List.length_drop],V.out (d.drop (k + 1)) _ _ (by rw [List.length_drop];omega) (a.out.ok.drop _) (by rw [List.length_drop];omega) (jx hk Z.out) (fun z bb o' h e=>by cases e;refine ⟨o + (k + 1) * 3,h.drop (k + 1),?_⟩;rw [List.length_drop] at z;rw [if_neg (by omega)])⟩,by show d.length - (k + 1) < d.length;omega⟩
end Go.Proofs.YtihedobejcaapaaGreatDoor
