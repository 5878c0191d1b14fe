/-
  QbB QbC
-/
import Derived.Test.YtcehppndpccldaaGreatDoorSC
set_option maxHeartbeats 4000000
set_option maxRecDepth 100000
namespace Go.Proofs.YtcehppndpccldaaGreatDoor
open Go.RowKit
theorem quiet_two {P : Program} {f : FuncId} {args : Array Value} {w : World} {n0 n : Nat} {v : Value}
  (h : Calls P f args (w.drewN (n0 + n)) fun e w'=>e = .returned v /\ ∃ m,w' = (w.drewN (n0 + n)).drewN m) : Calls P f args (w.drewN (n0 + n)) fun e w''=>e = .returned v /\ ∃ m,w'' = w.drewN (n0 + m):=
 h.mono fun _ _ ⟨he,m,hm⟩=>⟨he,n + m,by rw [hm,World.drewN_drewN,Nat.add_assoc]⟩
theorem s_names (w : World) {B1 B2 : Nat} {ns : List ByteArray} {p q : NPl} (h1 : NmOK B1 w ns p) (h2 : NmOK B2 w ns q) {n : Nat} (hn : n = ns.length) (hl : n <= 1000000) :
  Calls Tryz.prog 47 #[.slice p.a n p.c,.slice q.a n q.c] w fun e w'=>e = .returned (.bool true) /\ ∃ k,w' = w.drewN k:=by
 have HC : Hid (∀ k,k < n -> (p.a = some ⟨p.b,0,none⟩ /\ w.cell? ⟨p.b,k,none⟩ = some (.string (ns.getD k e0))) /\ (q.a = some ⟨q.b,0,none⟩ /\ w.cell? ⟨q.b,k,none⟩ = some (.string (ns.getD k e0)))):=fun k hk=>by
  have hne : ns ≠ []:=by rintro rfl;simp at hn;omega
  obtain ⟨e1,_,N1,f1,r1,l1,g1⟩:=h1 hne
  obtain ⟨e2,_,N2,f2,r2,l2,g2⟩:=h2 hne
  refine ⟨⟨e1,?_⟩,e2,?_⟩
  ·rw [r1.cell (by omega),g1 k (by omega)]
  ·rw [r2.cell (by omega),g2 k (by omega)]
 clear h1 h2 hn
 go_enter Tryz.func47,Tryz.ntmps47
 go_wp2
 go_loopw [5] (fun i wr=>∃ k : Nat,k <= n /\ i = .int .i64 k /\ ∃ m,wr = w.drewN m) (fun i _=>n - (intOf i).toNat)
 case atStart=>exact ⟨0,Nat.zero_le _,rfl,0,rfl⟩
 case round=>
  obtain ⟨k,hk,rfl,m,rfl⟩:=hrel
  by_cases hlt : k < n
  ·obtain ⟨⟨e1,g1⟩,e2,g2⟩:=HC.out k hlt
   obtain ⟨s,hs⟩:=xe (ns.getD k e0)
   rw [<- hs] at g1 g2
   rw [e1,e2]
   clear e1 e2 hs
   go_wp2
   go_quiet (fail)
   go_wp2
   go_roundw
   case rel=>exact ⟨k + 1,by omega,by go_num,_,rfl⟩
   case measure=>simp [intOf];omega
  ·go_wp2
   go_ret
   exact ⟨rfl,_,rfl⟩
theorem s_items (w : World) {B1 B2 : Nat} {v1 v2 : Value} {xs ys : List (TI × NPl)} (h1 : RT B1 w v1 xs) (h2 : RT B2 w v2 ys) (he : xs.map Prod.fst = ys.map Prod.fst) (hs : ∀ x,x ∈ xs -> SmT 1000000 x.1) (hl : xs.length <= 1000000) :
  Calls Tryz.prog 46 #[v1,v2] w fun e w'=>e = .returned (.bool true) /\ ∃ k,w' = w.drewN k:=by
 obtain ⟨a1,c1,rfl⟩:=own_form h1.own
 obtain ⟨a2,c2,rfl⟩:=own_form h2.own
 have hxy : ys.length = xs.length:=by have:=congrArg List.length he;simpa using this.symm
 rw [hxy]
 have HB : Hid (∀ w',Bw w w' -> RT B1 w' (.slice a1 xs.length c1) xs /\ RT B2 w' (.slice a2 ys.length c2) ys):=fun w' hb=>⟨h1.below hb,h2.below hb⟩
 have HE : Hid (xs.map Prod.fst = ys.map Prod.fst /\ ∀ x,x ∈ xs -> SmT 1000000 x.1):=⟨he,hs⟩
 have HL : Hid (ys.length = xs.length):=hxy
 obtain ⟨n,hn⟩:=xe (xs.length)
 rw [<- hn] at hl ⊢
 have HN : Hid (n = xs.length):=hn
 have HIT : Hid (∀ k,k < n -> ∀ wr,Bw w wr -> ∃ (g1 g2 : Nat) (x : TI) (p q : NPl),a1 = some ⟨g1,0,none⟩ /\ a2 = some ⟨g2,0,none⟩ /\ wr.cell? ⟨g1,k * 4,none⟩ = some (Value.int .i64 x.op) /\ wr.cell? ⟨g1,k * 4 + 1,none⟩ = some (Value.string x.md) /\ wr.cell? ⟨g1,k * 4 + 2,none⟩ = some (Value.string x.nm) /\ wr.cell? ⟨g1,k * 4 + 3,none⟩ = some (Value.slice p.a x.ns.length p.c) /\ wr.cell? ⟨g2,k * 4,none⟩ = some (Value.int .i64 x.op) /\ wr.cell? ⟨g2,k * 4 + 1,none⟩ = some (Value.string x.md) /\ wr.cell? ⟨g2,k * 4 + 2,none⟩ = some (Value.string x.nm) /\ wr.cell? ⟨g2,k * 4 + 3,none⟩ = some (Value.slice q.a x.ns.length q.c) /\ Hid (NmOK B1 wr x.ns p /\ NmOK B2 wr x.ns q) /\ x.ns.length <= 1000000):=fun k hk wr hb=>by
  have k1 : k < xs.length:=by omega
  have k2 : k < ys.length:=by omega
  obtain ⟨R1,R2⟩:=HB.out wr hb
  obtain ⟨g1,gc1,ev1,_⟩:=own_blk R1.own (show 0 < xs.length by omega)
  obtain ⟨g2,gc2,ev2,_⟩:=own_blk R2.own (show 0 < ys.length by omega)
  simp only [Value.slice.injEq] at ev1 ev2
  obtain ⟨rfl,-,rfl⟩:=ev1
  obtain ⟨rfl,-,rfl⟩:=ev2
  have ee:=map_get he k1 k2
  have hx:=List.getElem_mem k1
  have hy:=List.getElem_mem k2
  have N1:=R1.nm _ hx
  have N2:=R2.nm _ hy
  rw [<- ee] at N2
  refine ⟨g1,g2,xs[k].1,xs[k].2,ys[k].2,rfl,rfl,own_at (f:=tiC) tiC_len R1.own (j:=k) (r:=0) rfl k1 (by omega) rfl,own_at (f:=tiC) tiC_len R1.own rfl k1 (by omega) rfl,own_at (f:=tiC) tiC_len R1.own rfl k1 (by omega) rfl,own_at (f:=tiC) tiC_len R1.own rfl k1 (by omega) rfl,?_,?_,?_,?_,⟨N1,N2⟩,hs _ hx⟩
  ·rw [ee];exact own_at (f:=tiC) tiC_len R2.own (j:=k) (r:=0) rfl k2 (by omega) rfl
  ·rw [ee];exact own_at (f:=tiC) tiC_len R2.own rfl k2 (by omega) rfl
  ·rw [ee];exact own_at (f:=tiC) tiC_len R2.own rfl k2 (by omega) rfl
  ·rw [ee];exact own_at (f:=tiC) tiC_len R2.own rfl k2 (by omega) rfl
 clear h1 h2 he hs hxy hn
 go_enter Tryz.func46,Tryz.ntmps46
 go_wp2
 go_loopw [5] (fun i wr=>∃ k : Nat,k <= n /\ i = .int .i64 k /\ ∃ m,wr = w.drewN m) (fun i _=>n - (intOf i).toNat)
 case atStart=>exact ⟨0,Nat.zero_le _,rfl,0,rfl⟩
 case round=>
  obtain ⟨k,hk,rfl,m,rfl⟩:=hrel
  by_cases hlt : k < n
  ·obtain ⟨g1,g2,x,p,q,rfl,rfl,y0,y1,y2,y3,z0,z1,z2,z3,HNM,hxl⟩:=HIT.out k hlt w (Below.refl _ _)
   obtain ⟨ml,hml⟩:=xe (x.ns.length)
   rw [<- hml] at y3 z3 hxl
   have C : Hid (∀ j,Calls Tryz.prog 47 #[.slice p.a ml p.c,.slice q.a ml q.c] (w.drewN j) fun e w'=>e = .returned (.bool true) /\ ∃ k,w' = (w.drewN j).drewN k):=fun j=>s_names (w.drewN j) (HNM.out.1.below (w':=w.drewN j) ⟨rfl,rfl,rfl,nlr _,fun _ _=>rfl⟩) (HNM.out.2.below (w':=w.drewN j) ⟨rfl,rfl,rfl,nlr _,fun _ _=>rfl⟩) hml hxl
   clear HB HIT HNM hml
   go_wp2
   go_quiet (first | (go_at_call 47;first | (exact Calls.quiet_of (C.out _)) | (exact quiet_two (C.out _))))
   go_wp2
   go_roundw
   case rel=>exact ⟨k + 1,by omega,by go_num,_,rfl⟩
   case measure=>simp [intOf];omega
  ·go_wp2
   go_ret
   exact ⟨rfl,_,rfl⟩
theorem hidQ {p : Prop} (h : p) : Hid p:=h
structure TwoE (wr : World) (a1 a2 : Option Addr) (k g1 g2 : Nat) (x : EI) (p q : NPl) (ml : Nat) (u1 u2 : Option Addr) (m1 m2 d1 d2 : Nat) : Prop where
 at1 : a1 = some ⟨g1,0,none⟩
 at2 : a2 = some ⟨g2,0,none⟩
 c1 : wr.cell? ⟨g1,k * 6,none⟩ = some (Value.int .i64 x.op) /\ wr.cell? ⟨g1,k * 6 + 1,none⟩ = some (Value.int .i64 x.num) /\ wr.cell? ⟨g1,k * 6 + 2,none⟩ = some (Value.string x.md) /\ wr.cell? ⟨g1,k * 6 + 3,none⟩ = some (Value.string x.nm) /\ wr.cell? ⟨g1,k * 6 + 4,none⟩ = some (Value.slice p.a ml p.c) /\ wr.cell? ⟨g1,k * 6 + 5,none⟩ = some (Value.slice u1 m1 d1)
 c2 : wr.cell? ⟨g2,k * 6,none⟩ = some (Value.int .i64 x.op) /\ wr.cell? ⟨g2,k * 6 + 1,none⟩ = some (Value.int .i64 x.num) /\ wr.cell? ⟨g2,k * 6 + 2,none⟩ = some (Value.string x.md) /\ wr.cell? ⟨g2,k * 6 + 3,none⟩ = some (Value.string x.nm) /\ wr.cell? ⟨g2,k * 6 + 4,none⟩ = some (Value.slice q.a ml q.c) /\ wr.cell? ⟨g2,k * 6 + 5,none⟩ = some (Value.slice u2 m2 d2)
 cn : ∀ W,Bw wr W -> Calls Tryz.prog 47 #[.slice p.a ml p.c,.slice q.a ml q.c] W fun e w'=>e = .returned (.bool true) /\ ∃ k,w' = W.drewN k
 ct : ∀ W,Bw wr W -> Calls Tryz.prog 46 #[.slice u1 m1 d1,.slice u2 m2 d2] W fun e w'=>e = .returned (.bool true) /\ ∃ k,w' = W.drewN k
theorem two_e {wr : World} {B1 B2 n : Nat} {a1 a2 : Option Addr} {c1 c2 : Nat} {xs ys : List (EI × EPl)} (R1 : RE B1 wr (.slice a1 xs.length c1) xs) (R2 : RE B2 wr (.slice a2 ys.length c2) ys) (he : xs.map Prod.fst = ys.map Prod.fst) (hs : ∀ x,x ∈ xs -> SmE 1000000 x.1) (hn : n = xs.length) {k : Nat} (hk : k < n) :
  ∃ g1 g2 x p q ml u1 u2 m1 m2 d1 d2,TwoE wr a1 a2 k g1 g2 x p q ml u1 u2 m1 m2 d1 d2:=by
 have hxy : ys.length = xs.length:=by have:=congrArg List.length he;simpa using this.symm
 have k1 : k < xs.length:=by omega
 have k2 : k < ys.length:=by omega
 obtain ⟨g1,gc1,ev1,_⟩:=own_blk R1.own (show 0 < xs.length by omega)
 obtain ⟨g2,gc2,ev2,_⟩:=own_blk R2.own (show 0 < ys.length by omega)
 simp only [Value.slice.injEq] at ev1 ev2
 obtain ⟨rfl,-,rfl⟩:=ev1
 obtain ⟨rfl,-,rfl⟩:=ev2
 have ee:=map_get he k1 k2
 have hx:=List.getElem_mem k1
 have hy:=List.getElem_mem k2
 have N1:=R1.ok _ hx
 have N2:=R2.ok _ hy
 obtain ⟨u1,d1,e1⟩:=own_form N1.ty.own
 obtain ⟨u2,d2,e2⟩:=own_form N2.ty.own
 have is2:=N2.is
 have nm2:=N2.nm
 rw [<- ee] at is2 nm2
 have sm:=hs _ hx
 refine ⟨g1,g2,xs[k].1,xs[k].2.np,ys[k].2.np,xs[k].1.ns.length,u1,u2,xs[k].2.zs.length,ys[k].2.zs.length,d1,d2,rfl,rfl,⟨own_at (f:=eiC) eiC_len R1.own (j:=k) (r:=0) rfl k1 (by omega) rfl,own_at (f:=eiC) eiC_len R1.own rfl k1 (by omega) rfl,own_at (f:=eiC) eiC_len R1.own rfl k1 (by omega) rfl,own_at (f:=eiC) eiC_len R1.own rfl k1 (by omega) rfl,own_at (f:=eiC) eiC_len R1.own rfl k1 (by omega) rfl,own_at (f:=eiC) eiC_len R1.own rfl k1 (by omega) (by rw [<- e1];rfl)⟩,⟨?_,?_,?_,?_,?_,?_⟩,fun W hb=>?_,fun W hb=>?_⟩
 ·rw [ee];exact own_at (f:=eiC) eiC_len R2.own (j:=k) (r:=0) rfl k2 (by omega) rfl
 ·rw [ee];exact own_at (f:=eiC) eiC_len R2.own rfl k2 (by omega) rfl
 ·rw [ee];exact own_at (f:=eiC) eiC_len R2.own rfl k2 (by omega) rfl
 ·rw [ee];exact own_at (f:=eiC) eiC_len R2.own rfl k2 (by omega) rfl
 ·rw [ee];exact own_at (f:=eiC) eiC_len R2.own rfl k2 (by omega) rfl
 ·exact own_at (f:=eiC) eiC_len R2.own rfl k2 (by omega) (by rw [<- e2];rfl)
 ·exact s_names W (N1.nm.below hb) (nm2.below hb) rfl sm.1
 ·have C:=s_items W (N1.ty.below hb) (N2.ty.below hb) (N1.is.trans is2.symm) (fun x hx=>sm.2.2 _ (by rw [<- N1.is];exact List.mem_map_of_mem hx)) (by have:=congrArg List.length N1.is;rw [List.length_map] at this;rw [this];exact sm.2.1)
  rw [e1,e2] at C
  exact C
theorem s_decl (w : World) {B1 B2 : Nat} {d : DC} {p q : DPl} (h1 : RdOK B1 w d p) (h2 : RdOK B2 w d q) (sm : SmD 1000000 d) :
  Calls Tryz.prog 22 #[.agg #[.int .i64 d.kind,.string d.nm,p.tv,p.ev],.agg #[.int .i64 d.kind,.string d.nm,q.tv,q.ev]] w fun e w'=>e = .returned (.bool true) /\ Bw w w':=by
 have HT : Hid (∀ W,Bw w W -> Calls Tryz.prog 46 #[p.tv,q.tv] W fun e w'=>e = .returned (.bool true) /\ ∃ k,w' = W.drewN k):=fun W hb=>s_items W (h1.ty.below hb) (h2.ty.below hb) (h1.isT.trans h2.isT.symm) (fun x hx=>sm.2.1 _ (by rw [<- h1.isT];exact List.mem_map_of_mem hx)) (by have:=congrArg List.length h1.isT;rw [List.length_map] at this;rw [this];exact sm.1)
 obtain ⟨a1,c1,e1⟩:=own_form h1.ty.own
 obtain ⟨a2,c2,e2⟩:=own_form h2.ty.own
 obtain ⟨a3,c3,e3⟩:=own_form h1.ex.own
 obtain ⟨a4,c4,e4⟩:=own_form h2.ex.own
 have hel : p.es.length = d.ex.length:=by rw [<- h1.isE,List.length_map]
 have hel2 : q.es.length = d.ex.length:=by rw [<- h2.isE,List.length_map]
 have hnb : d.ex.length <= 1000000:=sm.2.2.1
 have HIT : Hid (∀ W,Bw w W -> ∀ k,k < d.ex.length -> ∃ g1 g2 x p q ml u1 u2 m1 m2 d1 d2,TwoE W a3 a4 k g1 g2 x p q ml u1 u2 m1 m2 d1 d2):=fun W hb k hk=>by
  have R1:=h1.ex.below hb
  have R2:=h2.ex.below hb
  rw [e3] at R1
  rw [e4] at R2
  exact two_e R1 R2 (h1.isE.trans h2.isE.symm) (fun x hx=>sm.2.2.2 _ (by rw [<- h1.isE];exact List.mem_map_of_mem hx)) hel.symm hk
 obtain ⟨kd,hkd⟩:=xe (d.kind)
 obtain ⟨nm,hnm⟩:=xe (d.nm)
 obtain ⟨n,hn⟩:=xe (d.ex.length)
 obtain ⟨n1,hn1⟩:=xe (p.zs.length)
 obtain ⟨n2,hn2⟩:=xe (q.zs.length)
 rw [e1,e2,<- hn1,<- hn2] at HT
 rw [<- hn] at HIT hnb
 rw [e1,e2,e3,e4,hel,hel2,<- hkd,<- hnm,<- hn,<- hn1,<- hn2]
 clear h1 h2 sm e1 e2 e3 e4 hkd hnm hel hel2 hn hn1 hn2
 obtain ⟨W0,hW0⟩:=xe ((w.alloc (.cells #[.int .i64 kd,.string nm,.slice a1 n1 c1,.slice a3 n c3] 46)).alloc (.cells #[.int .i64 kd,.string nm,.slice a2 n2 c2,.slice a4 n c4] 46))
 have HB0 : Hid (Bw w W0):=by rw [hW0];exact bel2 _ _ _
 have HR1 : Hid (W0.rowIs w.heap.size 46 4 (v4 (.int .i64 kd) (.string nm) (.slice a1 n1 c1) (.slice a3 n c3))):=by rw [hW0];exact (row4 w _ _ _ _ _).alloc _
 have HR2 : Hid (W0.rowIs (w.heap.size + 1) 46 4 (v4 (.int .i64 kd) (.string nm) (.slice a2 n2 c2) (.slice a4 n c4))):=by
  have r:=row4 (w.alloc (.cells #[.int .i64 kd,.string nm,.slice a1 n1 c1,.slice a3 n c3] 46)) (.int .i64 kd) (.string nm) (.slice a2 n2 c2) (.slice a4 n c4) 46
  rw [World.size_alloc] at r
  rw [hW0]
  exact r
 have C0:=HT.out W0 HB0.out
 have HCL : Hid (∀ W,Bw W0 W -> W.cell? ⟨w.heap.size,3,none⟩ = some (.slice a3 n c3) /\ W.cell? ⟨w.heap.size + 1,3,none⟩ = some (.slice a4 n c4)):=fun W hb=>⟨(HR1.out.of_block (hb.block _ HR1.out.lt)).cell (i:=3) (by omega),(HR2.out.of_block (hb.block _ HR2.out.lt)).cell (i:=3) (by omega)⟩
 go_enter Tryz.func22,Tryz.ntmps22
 go_wp2_with fail
 rw [<- hW0]
 clear hW0
 refine C0.mono ?_
 rintro e w2 ⟨rfl,kk,rfl⟩
 obtain ⟨q1,q2⟩:=HCL.out (W0.drewN kk) (below_drewN' _ _)
 clear C0 HT
 go_wp2
 go_loopw [5] (fun i wr=>∃ k : Nat,k <= n /\ i = .int .i64 k /\ Hid (Bw W0 wr)) (fun i _=>n - (intOf i).toNat)
 case atStart=>exact ⟨0,Nat.zero_le _,rfl,below_drewN' _ _⟩
 case round=>
  obtain ⟨k,hk,rfl,HW⟩:=hrel
  obtain ⟨q3,q4⟩:=HCL.out wr HW.out
  have HWw : Hid (Bw w wr):=HB0.out.trans (HW.out.mono HB0.out.size)
  by_cases hlt : k < n
  ·obtain ⟨g1,g2,x,p,q,ml,u1,u2,m1,m2,d1,d2,T⟩:=HIT.out wr HWw.out k hlt
   obtain ⟨y0,y1,y2,y3,y4,y5⟩:=T.c1
   obtain ⟨z0,z1,z2,z3,z4,z5⟩:=T.c2
   have ea1:=T.at1
   have ea2:=T.at2
   have HCN:=hidQ T.cn
   have HCT:=hidQ T.ct
   clear T
   subst ea1 ea2
   have hkl : (k : Int) < (n : Int):=by omega
   have hk0 : (0 : Int) <= (k : Int):=by omega
   have CK : ∀ (b o : Nat) (v : Value),wr.cell? ⟨b,o,none⟩ = some v -> (wr.alloc (.cells #[.int .i64 x.op,.int .i64 x.num,.string x.md,.string x.nm,.slice p.a ml p.c,.slice u1 m1 d1] 70)).cell? ⟨b,o,none⟩ = some v:=fun b o v h=>((bel1 wr _).cell (p:=⟨b,o,none⟩) (blt h)).trans h
   have x9:=CK _ _ _ q4
   have x0:=CK _ _ _ z0
   have x1:=CK _ _ _ z1
   have x2:=CK _ _ _ z2
   have x3:=CK _ _ _ z3
   have x4:=CK _ _ _ z4
   have x5:=CK _ _ _ z5
   clear CK
   have C1:=HCN.out ((wr.alloc (.cells #[.int .i64 x.op,.int .i64 x.num,.string x.md,.string x.nm,.slice p.a ml p.c,.slice u1 m1 d1] 70)).alloc (.cells #[.int .i64 x.op,.int .i64 x.num,.string x.md,.string x.nm,.slice q.a ml q.c,.slice u2 m2 d2] 70)) (bel2 _ _ _)
   have C2 : Hid (∀ j,Calls Tryz.prog 46 #[.slice u1 m1 d1,.slice u2 m2 d2] (((wr.alloc (.cells #[.int .i64 x.op,.int .i64 x.num,.string x.md,.string x.nm,.slice p.a ml p.c,.slice u1 m1 d1] 70)).alloc (.cells #[.int .i64 x.op,.int .i64 x.num,.string x.md,.string x.nm,.slice q.a ml q.c,.slice u2 m2 d2] 70)).drewN j) fun e w'=>e = .returned (.bool true) /\ ∃ k,w' = (((wr.alloc (.cells #[.int .i64 x.op,.int .i64 x.num,.string x.md,.string x.nm,.slice p.a ml p.c,.slice u1 m1 d1] 70)).alloc (.cells #[.int .i64 x.op,.int .i64 x.num,.string x.md,.string x.nm,.slice q.a ml q.c,.slice u2 m2 d2] 70)).drewN j).drewN k):=fun j=>HCT.out _ (bel2d _ _ _ j)
   clear HCN HCT
   go_wp2_with fail
   refine C1.mono ?_
   rintro e w' ⟨rfl,k1,rfl⟩
   clear C1
   go_wp2_with fail
   refine (C2.out _).mono ?_
   rintro e w' ⟨rfl,k2,rfl⟩
   have HW3 : Hid (Bw W0 (((wr.alloc (.cells #[.int .i64 x.op,.int .i64 x.num,.string x.md,.string x.nm,.slice p.a ml p.c,.slice u1 m1 d1] 70)).alloc (.cells #[.int .i64 x.op,.int .i64 x.num,.string x.md,.string x.nm,.slice q.a ml q.c,.slice u2 m2 d2] 70)).drewN (k1 + k2))):=HW.out.trans ((bel2d wr _ _ (k1 + k2)).mono HW.out.size)
   clear C2
   go_wp2
   go_roundw
   case rel=>exact ⟨k + 1,by omega,by go_num,HW3⟩
   case measure=>simp [intOf];omega
  ·have hkn : k = n:=by omega
   subst hkn
   have hkl : ¬ (k : Int) < (k : Int):=by omega
   go_wp2
   go_ret
   exact ⟨rfl,HWw.out⟩
end Go.Proofs.YtcehppndpccldaaGreatDoor
