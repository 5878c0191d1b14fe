/-
  PeH PfD YaR YbA RdM
-/
import Derived.Test.YtihedobejcaapaaGreatDoorAC
import Derived.Test.YtihedobejcaapaaGreatDoorShelf
import Derived.Test.YtihedobejcaapaaGreatDoorA4
import Derived.Laws.Bits64
set_option maxHeartbeats 2000000
set_option maxRecDepth 100000
namespace Go.Proofs.YtihedobejcaapaaGreatDoor
open Go.RowKit
theorem Ck {ts : List TK} (h : iD ts) : iB ts:=fun i w hi hn hs=>by
 obtain ⟨n0,n9,nd⟩:=h.number hi hn
 have CA : Hid (Calls Tryz.prog 121 #[.string (tx ts i)] w fun e w'=>e = .returned (.tuple #[.int .i64 (ib (tx ts i).data.toList),.nilIface]) /\ Hid (Bw w w')):=by
  refine (Tryz.strconv_Atoi (tx ts i) (ib (tx ts i).data.toList) ?_ (vy n0 nd) w).mono fun e w' ⟨he,t,hw⟩=>⟨he,?_⟩
  ·have : (tx ts i).size = (tx ts i).data.toList.length:=(Array.length_toList).symm
   omega
  ·rw [hw];exact Lib.bytesWorld_below _ _ _
 obtain ⟨s,a⟩:=xe (tx ts i);obtain ⟨v,b⟩:=xe (ib (tx ts i).data.toList);rw [<- b] at CA ⊢;rw [<- a] at CA ⊢;clear n0 n9 nd hs hn a b;go_enter Tryz.func112,Tryz.ntmps112;go_wp2_with fail;refine CA.out.mono ?_;rintro e d ⟨rfl,c⟩;go_wp2;go_ret;exact ⟨rfl,c.out⟩
theorem kg {α : Type} (f : α -> List Value) (k : Nat) (hk : ∀ x,(f x).length = k) : ∀ (l : List α) (j r : Nat) (hj : j < l.length),r < k -> (l.flatMap f)[j * k + r]? = (f l[j])[r]?
 | [],j,r,hj,_=>absurd hj (Nat.not_lt_zero _)
 | x :: l,0,r,hj,hr=>by
   rw [List.flatMap_cons,Nat.zero_mul,Nat.zero_add,List.getElem?_append_left (by rw [hk];exact hr)];rfl
 | x :: l,j + 1,r,hj,hr=>by
   rw [List.flatMap_cons,List.getElem?_append_right (by rw [hk,Nat.succ_mul];omega),hk];have e : (j + 1) * k + r - k = j * k + r:=by rw [Nat.succ_mul];omega
   rw [e,kg f k hk l j r (by simpa using hj) hr];rfl
theorem ks {α : Type} (f : α -> List Value) (k : Nat) (hk : ∀ x,(f x).length = k) : ∀ (l : List α),(l.flatMap f).length = l.length * k
 | []=>by simp
 | x :: l=>by rw [List.flatMap_cons,lap,ks f k hk l,hk,List.length_cons,Nat.succ_mul,Nat.add_comm]
theorem af {B : Nat} {w : World} {t : TypeId} {k : Nat} {v : Value} {α : Type} {f : α -> List Value} (hk : ∀ x,(f x).length = k) {l : List α} (h : w.ownsRow B t k v l.length (l.flatMap f)) {g : Nat} (hg : v.ownBlock = some g) {j r : Nat} {u : Value} (hj : j < l.length) (hr : r < k) (hu : (f l[j])[r]? = some u) : w.cell? ⟨g,j * k + r,none⟩ = some u:=by
 have:=h.cells hg (j * k + r) u (by rw [kg f k hk l j r hj hr];exact hu);rw [<- this];congr 1;unfold Addr.add;simp
theorem au {B : Nat} {w : World} {t : TypeId} {k n : Nat} {v : Value} {xs : List Value} (h : w.ownsRow B t k v n xs) (hn : 0 < n) : ∃ g c,v = .slice (some ⟨g,0,none⟩) n c /\ B <= g /\ g < w.heap.size /\ n <= c:=by
 obtain ⟨o,f⟩:=h;rcases f with ⟨_,m⟩ | ⟨g,a,d,l,i,j,e,_⟩
 ·omega
 ·refine ⟨g,a,l,i,?_,e⟩
  obtain ⟨b,_⟩:=Array.getElem?_eq_some_iff.1 j;exact b
theorem gG {ts : List TK} {j : Nat} (hj : j < ts.length) : ts[j] = aA ts j:=(ey hj).symm
theorem dq.of_own {w wr : World} {s : ByteArray} {g c : Nat} (h : pO w wr (.slice (some ⟨g,0,none⟩) (bB s).length c) (bB s)) : dq wr g 0 (bB s):=by
 have b : ∀ t : TK,([Value.int .i64 t.cls,.string t.txt,.int .i64 (t.loc : Int)]).length = 3:=fun _=>rfl;have ok:=rO s
 have a : ∀ j (hj : j < (bB s).length) (r : Nat) (u : Value),r < 3 -> ([Value.int .i64 (bB s)[j].cls,.string (bB s)[j].txt,.int .i64 ((bB s)[j].loc : Int)])[r]? = some u -> wr.cell? ⟨g,j * 3 + r,none⟩ = some u:=fun j hj r u hr hu=>
  af (f:=fun t : TK=>[Value.int .i64 t.cls,.string t.txt,.int .i64 (t.loc : Int)]) b h.own rfl hj hr hu
 refine ⟨fun j hj=>?_,fun j hj=>?_,fun j hj=>?_,i6 s,fun j hj=>?_,fun j hj=>?_⟩
 ·rw [<- gG hj,Nat.zero_add];exact a j hj 0 _ (by omega) rfl
 ·rw [<- gG hj,Nat.zero_add];exact a j hj 1 _ (by omega) rfl
 ·rw [<- gG hj,Nat.zero_add];exact a j hj 2 _ (by omega) rfl
 ·rw [<- gG hj];exact ok.sz _ (List.getElem_mem hj)
 ·rw [<- gG hj];exact ok.gd _ (List.getElem_mem hj)
theorem gA {ts : List TK} {k j : Nat} (hj : j < (ts.drop k).length) : aA (ts.drop k) j = aA ts (k + j):=by
 have a : k + j < ts.length:=by simp at hj;omega
 rw [ey hj,ey a,List.getElem_drop]
theorem gH {ts : List TK} {k j : Nat} (hj : j < (ts.take k).length) : aA (ts.take k) j = aA ts j:=by
 have a : j < ts.length:=by simp at hj;omega
 rw [ey hj,ey a,List.getElem_take]
theorem dq.drop {w : World} {tb o : Nat} {ts : List TK} (h : dq w tb o ts) (k : Nat) : dq w tb (o + k * 3) (ts.drop k):=by
 have a : (ts.drop k).length = ts.length - k:=List.length_drop;refine ⟨fun j hj=>?_,fun j hj=>?_,fun j hj=>?_,by have:=h.len;omega,fun j hj=>?_,fun j hj=>?_⟩
 ·rw [gA hj,<- h.c0 (k + j) (by omega)];congr 2;omega
 ·rw [gA hj,<- h.c1 (k + j) (by omega)];congr 2;omega
 ·rw [gA hj,<- h.c2 (k + j) (by omega)];congr 2;omega
 ·rw [gA hj];exact h.sz (k + j) (by omega)
 ·rw [gA hj];exact h.gd (k + j) (by omega)
theorem dq.take {w : World} {tb o : Nat} {ts : List TK} (h : dq w tb o ts) (k : Nat) : dq w tb o (ts.take k):=by
 have a : (ts.take k).length = min k ts.length:=List.length_take;refine ⟨fun j hj=>?_,fun j hj=>?_,fun j hj=>?_,by have:=h.len;omega,fun j hj=>?_,fun j hj=>?_⟩
 ·rw [gH hj];exact h.c0 j (by omega)
 ·rw [gH hj];exact h.c1 j (by omega)
 ·rw [gH hj];exact h.c2 j (by omega)
 ·rw [gH hj];exact h.sz j (by omega)
 ·rw [gH hj];exact h.gd j (by omega)
theorem iD.take {ts : List TK} (h : iD ts) (k : Nat) : iD (ts.take k):=h.sub fun _ ht=>List.mem_of_mem_take ht
theorem iD.drop {ts : List TK} (h : iD ts) (k : Nat) : iD (ts.drop k):=h.sub fun _ ht=>List.mem_of_mem_drop ht
theorem dq.below {w w' : World} {tb o : Nat} {ts : List TK} (h : dq w tb o ts) (hb : Bw w w') : dq w' tb o ts:=
 h.but (S:=[]) ⟨hb.os,hb.tape,hb.output,hb.size,fun k hk _=>hb.block k hk⟩ (by simp)
structure RT (B : Nat) (w : World) (v : Value) (xs : List (TI × NPl)) : Prop where
 own : w.ownsRow B 80 4 v xs.length (bg xs)
 nm : ∀ x,x ∈ xs -> aD B w x.1.ns x.2
structure ga (B : Nat) (w : World) (x : EI × EPl) : Prop where
 nm : aD B w x.1.ns x.2.np
 ty : RT B w x.2.tv x.2.zs
 is : x.2.zs.map Prod.fst = x.1.ty
structure RE (B : Nat) (w : World) (v : Value) (xs : List (EI × EPl)) : Prop where
 own : w.ownsRow B 65 6 v xs.length (eisC xs)
 ok : ∀ x,x ∈ xs -> ga B w x
structure da (B : Nat) (w : World) (d : DC) (p : DPl) : Prop where
 ty : RT B w p.tv p.zs
 isT : p.zs.map Prod.fst = d.ty
 ex : RE B w p.ev p.es
 isE : p.es.map Prod.fst = d.ex
structure RD (B : Nat) (w : World) (v : Value) (xs : List (DC × DPl)) : Prop where
 own : w.ownsRow B 37 4 v xs.length (bj xs)
 ok : ∀ x,x ∈ xs -> da B w x.1 x.2
theorem OT.rt {B : Nat} {w : World} {v : Value} {xs : List (TI × NPl)} (h : OT B w v xs) : RT B w v xs:=⟨h.own,h.nm⟩
theorem OE.re {B : Nat} {w : World} {v : Value} {xs : List (EI × EPl)} (h : OE B w v xs) : RE B w v xs:=⟨h.own,fun x hx=>⟨(h.ok x hx).nm,(h.ok x hx).ty.rt,(h.ok x hx).is⟩⟩
theorem fa.rd {B : Nat} {w : World} {d : DC} {p : DPl} (h : fa B w d p) : da B w d p:=⟨h.ty.rt,h.isT,h.ex.re,h.isE⟩
theorem OD.rd {B : Nat} {w : World} {v : Value} {xs : List (DC × DPl)} (h : OD B w v xs) : RD B w v xs:=⟨h.own,fun x hx=>(h.ok x hx).rd⟩
def Kp (t : TypeId) (w w' : World) : Prop:=∀ (k : Nat) (c : Array Value) (t' : TypeId) (fr : Nat × Nat),w.heap[k]? = some (Obj.cells c t' fr) -> t' ≠ t -> w'.heap[k]? = w.heap[k]?
theorem cA {t t' : TypeId} {w w' : World} {b n : Nat} {f : Nat -> Value} (h : w.rowIs b t' n f) (hk : Kp t w w') (hne : t' ≠ t) : w'.rowIs b t' n f:=by
 obtain ⟨c,a,r⟩:=h;exact ⟨c,(hk b c t' _ a hne).trans a,r⟩
theorem az {t t' : TypeId} {w w' : World} {B n size : Nat} {v : Value} {xs : List Value} (h : w.ownsRow B t' size v n xs) (hk : Kp t w w') (hne : t' ≠ t) : w'.ownsRow B t' size v n xs:=by
 obtain ⟨f,b⟩:=h;refine ⟨f,?_⟩;rcases b with b | ⟨g,d,a,i,c,e,r⟩
 ·exact Or.inl b
 ·exact Or.inr ⟨g,d,a,i,c,(hk g a t' _ e hne).trans e,r⟩
theorem aD.kp {t : TypeId} {B : Nat} {w w' : World} {ns : List ByteArray} {p : NPl} (h : aD B w ns p) (hk : Kp t w w') (hne : 9 ≠ t) : aD B w' ns p:=fun hn=>by
 obtain ⟨h0,h1,N,f,hr,r⟩:=h hn;exact ⟨h0,h1,N,f,cA hr hk hne,r⟩
theorem RT.kp {t : TypeId} {B : Nat} {w w' : World} {v : Value} {xs : List (TI × NPl)} (h : RT B w v xs) (hk : Kp t w w') (h1 : 80 ≠ t) (h2 : 9 ≠ t) : RT B w' v xs:=
 ⟨az h.own hk h1,fun x hx=>(h.nm x hx).kp hk h2⟩
theorem ga.kp {t : TypeId} {B : Nat} {w w' : World} {x : EI × EPl} (h : ga B w x) (hk : Kp t w w') (h1 : 80 ≠ t) (h2 : 9 ≠ t) : ga B w' x:=
 ⟨h.nm.kp hk h2,h.ty.kp hk h1 h2,h.is⟩
theorem RE.kp {t : TypeId} {B : Nat} {w w' : World} {v : Value} {xs : List (EI × EPl)} (h : RE B w v xs) (hk : Kp t w w') (h0 : 65 ≠ t) (h1 : 80 ≠ t) (h2 : 9 ≠ t) : RE B w' v xs:=
 ⟨az h.own hk h0,fun x hx=>(h.ok x hx).kp hk h1 h2⟩
theorem da.kp {t : TypeId} {B : Nat} {w w' : World} {d : DC} {p : DPl} (h : da B w d p) (hk : Kp t w w') (h0 : 65 ≠ t) (h1 : 80 ≠ t) (h2 : 9 ≠ t) : da B w' d p:=
 ⟨h.ty.kp hk h1 h2,h.isT,h.ex.kp hk h0 h1 h2,h.isE⟩
theorem ax {w w' : World} (hb : Bw w w') : Kp 0 w w':=fun k c t' fr hk _=>by
 obtain ⟨hlt,_⟩:=Array.getElem?_eq_some_iff.1 hk;exact hb.block k hlt
theorem RT.below {B : Nat} {w w' : World} {v : Value} {xs : List (TI × NPl)} (h : RT B w v xs) (hb : Bw w w') : RT B w' v xs:=h.kp (ax hb) (by decide) (by decide)
theorem RE.below {B : Nat} {w w' : World} {v : Value} {xs : List (EI × EPl)} (h : RE B w v xs) (hb : Bw w w') : RE B w' v xs:=h.kp (ax hb) (by decide) (by decide) (by decide)
theorem da.below {B : Nat} {w w' : World} {d : DC} {p : DPl} (h : da B w d p) (hb : Bw w w') : da B w' d p:=h.kp (ax hb) (by decide) (by decide) (by decide)
theorem RD.below {B : Nat} {w w' : World} {v : Value} {xs : List (DC × DPl)} (h : RD B w v xs) (hb : Bw w w') : RD B w' v xs:=⟨az h.own (ax hb) (by decide),fun x hx=>(h.ok x hx).below hb⟩
theorem aD.below {B : Nat} {w w' : World} {ns : List ByteArray} {p : NPl} (h : aD B w ns p) (hb : Bw w w') : aD B w' ns p:=h.kp (ax hb) (by decide)
theorem RT.mono {B B' : Nat} {w : World} {v : Value} {xs : List (TI × NPl)} (h : RT B w v xs) (hb : B' <= B) : RT B' w v xs:=⟨aq h.own hb,fun x hx=>(h.nm x hx).mono hb⟩
theorem ga.mono {B B' : Nat} {w : World} {x : EI × EPl} (h : ga B w x) (hb : B' <= B) : ga B' w x:=⟨h.nm.mono hb,h.ty.mono hb,h.is⟩
theorem RE.mono {B B' : Nat} {w : World} {v : Value} {xs : List (EI × EPl)} (h : RE B w v xs) (hb : B' <= B) : RE B' w v xs:=⟨aq h.own hb,fun x hx=>(h.ok x hx).mono hb⟩
theorem bF {w w3 : World} {B n size : Nat} {v : Value} {xs : List Value} {t : TypeId} (h : w.ownsRow B t size v n xs) (hg : w.grownBy w3 v.ownBlock) : Kp t w w3:=fun k c t' fr hk hne=>by
 obtain ⟨hlt,_⟩:=Array.getElem?_eq_some_iff.1 hk;refine hg.block k hlt (fun e=>?_);rcases h.2 with ⟨rfl,_⟩ | ⟨g,cap,cur,rfl,_,hh,_⟩
 ·cases e
 ·have eg : k = g:=by simpa [Value.ownBlock] using e
  subst eg;rw [hh] at hk;simp only [Option.some.injEq,Obj.cells.injEq] at hk;exact hne hk.2.1.symm
theorem Kp.trans {t : TypeId} {w w1 w2 : World} (h : Kp t w w1) (h' : Kp t w1 w2) : Kp t w w2:=fun k c t' fr hk hne=>by
 have e:=h k c t' fr hk hne;rw [h' k c t' fr (e.trans hk) hne,e]
theorem bG (t : TypeId) (w : World) (o : Obj) : Kp t w (w.alloc o):=fun k c t' fr hk _=>by
 obtain ⟨hlt,_⟩:=Array.getElem?_eq_some_iff.1 hk;exact Below.heap_alloc _ _ _ hlt
theorem RT.push {B : Nat} {w w3 : World} {v : Value} {xs : List (TI × NPl)} {x : TI × NPl} {o : Obj} {gg cap3 : Nat} (h : RT B w v xs)
  (hown : w3.ownsRow B 80 4 (.slice (some ⟨gg,0,none⟩) (xs.length + 1) cap3) (xs.length + 1) (bg xs ++ ei x)) (hg : (w.alloc o).grownBy w3 v.ownBlock) (hx : aD B w x.1.ns x.2) :
  RT B w3 (.slice (some ⟨gg,0,none⟩) (xs.length + 1) cap3) (xs ++ [x]):=by
 have a : Kp 80 w w3:=(bG _ w o).trans (bF (h.own.alloc o) hg);refine ⟨by rw [cH,lap];exact hown,fun y hy=>?_⟩;rcases List.mem_append.1 hy with z | z
 ·exact (h.nm y z).kp a (by decide)
 ·rw [ms1 z];exact hx.kp a (by decide)
theorem aw (x : TI × NPl) : (ei x).length = 4:=rfl
theorem av (x : EI × EPl) : (cU x).length = 6:=rfl
theorem bz (x : DC × DPl) : (fU x).length = 4:=rfl
theorem pK (w : World) {B : Nat} (hB : B <= w.heap.size) (op : Int) (md nm : ByteArray) : RT B (w.alloc (.cells #[.int .i64 op,.string md,.string nm,.slice none 0 0] 80)) (.slice (some ⟨w.heap.size,0,none⟩) 1 1) [(⟨op,md,nm,[]⟩,⟨none,0,0⟩)]:=
 ⟨aq (World.ownsRow_lit w #[.int .i64 op,.string md,.string nm,.slice none 0 0] 1 (nlr _) (by unfold maxLen;omega) (by rfl)) hB,fun x hx=>by
  rw [ms1 hx];exact aD.nil _ _ _⟩
theorem ae {w wr w5 : World} {o : Obj} {row : Option Nat} (h : Bw w wr) (hg : (wr.alloc o).grownBy w5 row) (hr : ∀ b,row = some b -> w.heap.size <= b) : Bw w w5:=
 ⟨hg.os.trans h.os,hg.tape.trans h.tape,hg.output.trans h.output,by have:=hg.size;have:=h.size;simp only [World.size_alloc] at *;omega,fun k hk=>by
  rw [hg.block k (by have:=h.size;simp only [World.size_alloc];omega) (fun e=>by have:=hr k e.symm;omega)];exact (Below.heap_alloc _ _ _ (by have:=h.size;omega)).trans (h.block k hk)⟩
theorem mv {B : Nat} (w : World) {v1 v2 : Value} {xs ys : List (TI × NPl)} (h1 : RT B w v1 xs) (h2 : RT B w v2 ys) (hl : xs.length + ys.length <= 100000) (hB : B <= w.heap.size) :
  Calls Tryz.prog 40 #[v1,v2] w fun e w'=>(∃ va n c,e = .returned (.slice va n c) /\ Hid (RT B w' (.slice va n c) (xs ++ ys))) /\ Hid (Bw w w'):=by
 obtain ⟨T,I,F,E,D⟩:=info_parts Tryz.infoTI;obtain ⟨a1,X,rfl⟩:=ad h1.own;obtain ⟨a2,Z,rfl⟩:=ad h2.own;have L : Hid (RT B w (.slice a1 xs.length X) xs):=h1;have N : Hid (RT B w (.slice a2 ys.length Z) ys):=h2;have S : Hid ((w.alloc (.cells #[] 80)).ownsRow w.heap.size 80 4 (.slice (some ⟨w.heap.size,0,none⟩) 0 0) 0 (bg (xs.take 0))):=World.ownsRow_lit w #[] 0 (nlr _) (by unfold maxLen;omega) (by rfl);clear h1 h2;go_enter Tryz.func40,Tryz.ntmps40;go_wp2
 go_loopw [5,6] (fun v i wr=>∃ k : Nat,k <= xs.length /\ i = .int .i64 k /\ wr.ownsRow w.heap.size 80 4 v k (bg (xs.take k)) /\ Hid (Bw w wr)) (fun _ i _=>xs.length - (intOf i).toNat)
 case atStart=>exact ⟨0,Nat.zero_le _,rfl,S.out,bel1 _ _⟩
 case round=>
  clear S;obtain ⟨k,U,rfl,m,o⟩:=hrel;obtain ⟨va,J,rfl⟩:=ad m;have G:=o.out.size;by_cases d : k < xs.length
  case pos=>
   obtain ⟨g,W,A,Q,O,q⟩:=au L.out.own (show 0 < xs.length by omega);simp only [Value.slice.injEq] at A;obtain ⟨rfl,-,rfl⟩:=A;have p:=L.out.below o.out;obtain ⟨x,l⟩:=xe (xs[k])
   have M : Hid (xs.take (k + 1) = xs.take k ++ [x]):=by
    show _ = _;rw [List.take_add_one,List.getElem?_eq_getElem d,l];rfl
   have y0 : wr.cell? ⟨g,k * 4,none⟩ = some (Value.int .i64 x.1.op):=af (f:=ei) aw p.own (j:=k) (r:=0) rfl d (by omega) (by rw [<- l];rfl);have y1 : wr.cell? ⟨g,k * 4 + 1,none⟩ = some (Value.string x.1.md):=af (f:=ei) aw p.own rfl d (by omega) (by rw [<- l];rfl);have y2 : wr.cell? ⟨g,k * 4 + 2,none⟩ = some (Value.string x.1.nm):=af (f:=ei) aw p.own rfl d (by omega) (by rw [<- l];rfl);have y3 : wr.cell? ⟨g,k * 4 + 3,none⟩ = some (Value.slice x.2.a x.1.ns.length x.2.c):=af (f:=ei) aw p.own rfl d (by omega) (by rw [<- l];rfl);obtain ⟨Y,hz⟩:=xe (x.1.op);clear p l;go_wp2_with (first | (at_builtin;refine wpList_append_lies _ rfl _ _ 34 rfl w.heap.size 80 T _ 4 64 Tryz.underlying34 I F E D rfl (by omega) (.slice va k J) k (bg (xs.take k)) rfl (m.alloc _) ⟨wr.heap.size,0,none⟩ 1 1 [Value.int .i64 x.1.op,Value.string x.1.md,Value.string x.1.nm,Value.slice x.2.a x.1.ns.length x.2.c] rfl rfl (World.news_of_block (cs:=#[Value.int .i64 x.1.op,Value.string x.1.md,Value.string x.1.nm,Value.slice x.2.a x.1.ns.length x.2.c]) (t:=80) (fr:=(0,0)) (heap_alloc_new wr _)) (by simp [Value.oneCell']) (by omega) (by unfold maxLen;omega) (by omega) (by simp only [World.size_alloc];omega) (wr.heap.size + 1) (by simp) ?_;intro gg H P h q K C));have R : Hid (Bw w P):=ae o.out q (fun b e=>(m.lt b e).1);refine ⟨⟨k + 1,by omega,by go_num,?_,R⟩,by simp [intOf];omega⟩;rw [M.out,cH];exact h
  have s : k = xs.length:=by omega
  subst s
  have u : Hid (wr.ownsRow w.heap.size 80 4 (.slice va xs.length J) (xs.length + 0) (bg (xs ++ ys.take 0))):=by
   show World.ownsRow _ _ _ _ _ _ _;rw [List.take_zero,List.append_nil,Nat.add_zero];rw [List.take_length] at m;exact m
  have y : Hid (Bw w wr):=o;clear m o d U G;go_wp2
  go_loopw [5,7] (fun v i wr=>∃ k : Nat,k <= ys.length /\ i = .int .i64 k /\ wr.ownsRow w.heap.size 80 4 v (xs.length + k) (bg (xs ++ ys.take k)) /\ Hid (Bw w wr)) (fun _ i _=>ys.length - (intOf i).toNat)
  case atStart=>exact ⟨0,Nat.zero_le _,rfl,u.out,y⟩
  case round=>
   rename World=>wr;clear u y;obtain ⟨k,U,rfl,m,o⟩:=hrel;obtain ⟨va,J,rfl⟩:=ad m;have G:=o.out.size;by_cases d : k < ys.length
   case pos=>
    obtain ⟨g,W,A,Q,O,q⟩:=au N.out.own (show 0 < ys.length by omega);simp only [Value.slice.injEq] at A;obtain ⟨rfl,-,rfl⟩:=A;have p:=N.out.below o.out;obtain ⟨x,l⟩:=xe (ys[k])
    have M : Hid (ys.take (k + 1) = ys.take k ++ [x]):=by
     show _ = _;rw [List.take_add_one,List.getElem?_eq_getElem d,l];rfl
    have y0 : wr.cell? ⟨g,k * 4,none⟩ = some (Value.int .i64 x.1.op):=af (f:=ei) aw p.own (j:=k) (r:=0) rfl d (by omega) (by rw [<- l];rfl);have y1 : wr.cell? ⟨g,k * 4 + 1,none⟩ = some (Value.string x.1.md):=af (f:=ei) aw p.own rfl d (by omega) (by rw [<- l];rfl);have y2 : wr.cell? ⟨g,k * 4 + 2,none⟩ = some (Value.string x.1.nm):=af (f:=ei) aw p.own rfl d (by omega) (by rw [<- l];rfl);have y3 : wr.cell? ⟨g,k * 4 + 3,none⟩ = some (Value.slice x.2.a x.1.ns.length x.2.c):=af (f:=ei) aw p.own rfl d (by omega) (by rw [<- l];rfl);obtain ⟨Y,hz⟩:=xe (x.1.op);clear p l;go_wp2_with (first | (at_builtin;refine wpList_append_lies _ rfl _ _ 34 rfl w.heap.size 80 T _ 4 64 Tryz.underlying34 I F E D rfl (by omega) (.slice va (xs.length + k) J) (xs.length + k) (bg (xs ++ ys.take k)) rfl (m.alloc _) ⟨wr.heap.size,0,none⟩ 1 1 [Value.int .i64 x.1.op,Value.string x.1.md,Value.string x.1.nm,Value.slice x.2.a x.1.ns.length x.2.c] rfl rfl (World.news_of_block (cs:=#[Value.int .i64 x.1.op,Value.string x.1.md,Value.string x.1.nm,Value.slice x.2.a x.1.ns.length x.2.c]) (t:=80) (fr:=(0,0)) (heap_alloc_new wr _)) (by simp [Value.oneCell']) (by omega) (by unfold maxLen;omega) (by omega) (by simp only [World.size_alloc];omega) (wr.heap.size + 1) (by simp) ?_;intro gg H P h q K C));have R : Hid (Bw w P):=ae o.out q (fun b e=>(m.lt b e).1);refine ⟨⟨k + 1,by omega,by go_num,?_,R⟩,by simp [intOf];omega⟩;rw [M.out,<- List.append_assoc,cH];exact h
   have s : k = ys.length:=by omega
   subst s
   have V : Hid (RT B wr (.slice va (xs.length + ys.length) J) (xs ++ ys)):=by
    rw [List.take_length] at m;refine ⟨by rw [lap];exact aq m hB,fun x l=>?_⟩;rcases List.mem_append.1 l with z | z
    ·exact (L.out.below o.out).nm x z
    ·exact (N.out.below o.out).nm x z
   clear m;go_wp2;go_ret;exact ⟨⟨_,_,_,rfl,V⟩,o⟩
theorem uR {W : World} {X n : Nat} {t : TypeId} {f : Nat -> Value} (R : W.rowIs X t n f) (k : Nat) (v : Value) : Kp t W (W.setCell ⟨X,k,none⟩ v):=fun b c t' fr hb hne=>by
 refine Below.heap_setCell _ _ _ _ ?_;show b ≠ X;rintro rfl;obtain ⟨c',hc',_⟩:=R;rw [hc'] at hb;simp only [Option.some.injEq,Obj.cells.injEq] at hb;exact hne hb.2.1.symm
def ii (ns : List ByteArray) : List Value:=ns.flatMap fun s=>[.string s]
theorem jd (ns : List ByteArray) (s : ByteArray) : ii (ns ++ [s]) = ii ns ++ [.string s]:=by simp [ii]
theorem xU (s : ByteArray) : ([Value.string s]).length = 1:=rfl
theorem aW {B : Nat} {w : World} {va : Option Addr} {n c : Nat} {ns : List ByteArray} (hn : n = ns.length) (h : w.ownsRow B 9 1 (.slice va n c) n (ii ns)) : ∃ g,aD B w ns ⟨va,g,c⟩:=by
 subst hn;by_cases b : ns = []
 ·exact ⟨0,by rw [b];exact aD.nil _ _ _⟩
 ·have f : 0 < ns.length:=List.length_pos_iff.2 b
  obtain ⟨t,m⟩:=h;rcases m with ⟨_,r⟩ | ⟨g,p,a,e,o,q,u,x,v,l⟩
  ·omega
  ·simp only [Value.slice.injEq] at e
   obtain ⟨rfl,-,rfl⟩:=e;refine ⟨g,fun _=>⟨rfl,o,a.size,fun j=>a[j]?.getD default,⟨a,q,rfl,fun i hi=>?_⟩,by omega,fun j hj=>?_⟩⟩
   ·show a[i]? = some (a[i]?.getD default)
    rw [Array.getElem?_eq_getElem hi];rfl
   ·have d : (ii ns)[j]? = some (.string (ns.getD j e0)):=by
     have:=kg (fun s : ByteArray=>[Value.string s]) 1 xU ns j 0 hj (by omega);rw [Nat.mul_one,Nat.add_zero] at this;unfold ii;rw [this,List.getD_eq_getElem?_getD,List.getElem?_eq_getElem hj];rfl
    rw [<- l,List.getElem?_take,if_pos (by omega)] at d;have k : a[j]? = some (.string (ns.getD j e0)):=by rw [<- d];simp
    show a[j]?.getD default = _;rw [k];rfl
theorem sd {w : World} {B n m k cp : Nat} {a : Option Addr} {xs : List Value} {t : TypeId} (h : w.ownsRow B t k (.slice a n cp) m xs) : n = m:=by
 rcases h.2 with ⟨e,z⟩ | ⟨g,c,b,e,_⟩
 ·simp only [Value.slice.injEq] at e;omega
 ·simp only [Value.slice.injEq] at e;omega
theorem RT.drew {B : Nat} {w : World} {v : Value} {xs : List (TI × NPl)} (h : RT B w v xs) : RT B w.drew v xs:=⟨h.own,h.nm⟩
structure am (w : World) (ao : Option Addr) (b o n : Nat) (C : Nat -> Nat) : Prop where
 at_ : 0 < n -> ao = some ⟨b,o,none⟩
 cell : ∀ i,i < n -> w.cell? ⟨b,o + i,none⟩ = some (.int .u8 (C i : Int))
 rng : ∀ i,i < n -> C i <= 255
 len : n <= 9223372036854775807
theorem am.below {w w' : World} {ao : Option Addr} {b o n : Nat} {C : Nat -> Nat} (h : am w ao b o n C) (hb : Bw w w') : am w' ao b o n C:=
 ⟨h.at_,fun i hi=>by rw [hb.cell (p:=⟨b,o + i,none⟩) (blt (h.cell i hi))];exact h.cell i hi,h.rng,h.len⟩
theorem xF (a b : Nat) (ha : a < 4611686018427387904) (hb : b < 4611686018427387904) : bits .xor .i64 (a : Int) (b : Int) = ((a ^^^ b : Nat) : Int) /\ a ^^^ b < 4611686018427387904:=by
 have e : a ^^^ b < 2 ^ 62:=Nat.xor_lt_two_pow (by omega) (by omega)
 have d : (BitVec.ofInt 64 (a : Int)).toNat = a:=by
  rw [BitVec.ofInt_natCast,BitVec.toNat_ofNat];exact Nat.mod_eq_of_lt (by omega)
 have c : (BitVec.ofInt 64 (b : Int)).toNat = b:=by
  rw [BitVec.ofInt_natCast,BitVec.toNat_ofNat];exact Nat.mod_eq_of_lt (by omega)
 refine ⟨?_,by omega⟩;show IntKind.i64.wrap ((BitVec.ofInt 64 (a : Int) ^^^ BitVec.ofInt 64 (b : Int)).toNat : Int) = _;rw [BitVec.toNat_xor,d,c];rw [IntKind.wrap_i64];omega
def vl (C : Nat -> Nat) (L p : Nat) : Nat:=C (p % L) * 131 + C ((p * 7 + 3) % L) * 1117 + p * 29 + p / L * 53
def tk (C : Nat -> Nat) (L p n : Nat) : Nat:=if n < 1 \/ L = 0 then 0 else if p < L then C p % n else (vl C L p ^^^ (vl C L p / 64)) % n
theorem cd {C : Nat -> Nat} {L p n : Nat} (h : 0 < n) : tk C L p n < n:=by
 unfold tk
 split
 ·exact h
 ·split
  ·exact Nat.mod_lt _ h
  ·exact Nat.mod_lt _ h
theorem bl (a b : Nat) : Int.tmod (a : Int) (b : Int) = ((a % b : Nat) : Int):=rfl
theorem kw (a b : Nat) : Int.tdiv (a : Int) (b : Int) = ((a / b : Nat) : Int):=rfl
theorem aO (ca : Option Addr) (cb co L cc p n : Nat) (C : Nat -> Nat) (w : World) (h : am w ca cb co L C) (hL : L <= 1048576) (hp : p <= 1073741824) (hn : n <= 1073741824) :
  Calls Tryz.prog 18 #[.slice ca L cc,.int .i64 (p : Int),.int .i64 (n : Int)] w fun e w'=>e = .returned (.tuple #[.int .i64 (tk C L p n : Int),.int .i64 ((p + 1 : Nat) : Int)]) /\ w = w':=by
 by_cases M : n < 1
 ·have c : Hid (tk C L p n = 0):=by unfold tk;exact (if_pos (Or.inl M))
  clear h;go_enter Tryz.func18,Tryz.ntmps18;go_wp2;exact bodyPost_ret (v:=.tuple #[.int .i64 0,.int .i64 ((p : Int) + 1)]) (by simp [results,Tryz.results18,go_sem]) rfl ⟨by rw [c.out] <;> rfl,rfl⟩
 by_cases z : L = 0
 ·have c : Hid (tk C L p n = 0):=by unfold tk;exact (if_pos (Or.inr z))
  subst z;clear h;go_enter Tryz.func18,Tryz.ntmps18;go_wp2;exact bodyPost_ret (v:=.tuple #[.int .i64 0,.int .i64 ((p : Int) + 1)]) (by simp [results,Tryz.results18,go_sem]) rfl ⟨by rw [c.out] <;> rfl,rfl⟩
 have Q : ¬ (n : Int) = 0:=by omega
 have t : ¬ (L : Int) = 0:=by omega
 have bL : ((L : Int) == 0) = false:=bn2 t;have N:=h.at_ (by omega);have hl:=h.len;subst N;by_cases l : p < L
 ·have c : Hid (tk C L p n = C p % n):=by show tk C L p n = _;unfold tk;rw [if_neg (by omega),if_pos l]
  have S:=h.cell p l;have R:=h.rng p l;have r : (p : Int) < (L : Int):=by omega
  obtain ⟨x,j⟩:=xe (C p);rw [<- j] at S R c;clear h j;have X:=bl x n;go_enter Tryz.func18,Tryz.ntmps18;go_wp2;exact bodyPost_ret (v:=.tuple #[.int .i64 ((x % n : Nat) : Int),.int .i64 ((p : Int) + 1)]) (by simp [results,Tryz.results18,go_sem]) rfl ⟨by rw [c.out] <;> rfl,rfl⟩
 ·have c : Hid (tk C L p n = (vl C L p ^^^ (vl C L p / 64)) % n):=by show tk C L p n = _;unfold tk;rw [if_neg (by omega),if_neg l]
  have r : ¬ (p : Int) < (L : Int):=by omega
  obtain ⟨q,o⟩:=xe (p % L);obtain ⟨i,d⟩:=xe ((p * 7 + 3) % L);have F : q < L:=by rw [o];exact Nat.mod_lt _ (by omega)
  have E : i < L:=by rw [d];exact Nat.mod_lt _ (by omega)
  have I:=h.cell q F;have J:=h.cell i E;have K:=h.rng q F;have P:=h.rng i E;have m1 : Int.tmod (p : Int) (L : Int) = (q : Int):=by rw [bl,o]
  have V : Int.tmod ((p : Int) * 7 + 3) (L : Int) = (i : Int):=by rw [d,<- bl];rfl
  obtain ⟨m,f⟩:=xe (p / L);have Z : Int.tdiv (p : Int) (L : Int) = (m : Int):=by rw [kw,f]
  have W : m <= p:=by rw [f];exact Nat.div_le_self _ _
  obtain ⟨x,j⟩:=xe (vl C L p);have g : x = C q * 131 + C i * 1117 + p * 29 + m * 53:=by rw [j,o,d,f];rfl
  obtain ⟨a,A⟩:=xe (C q);obtain ⟨b,D⟩:=xe (C i);rw [<- A] at I K g;rw [<- D] at J P g;rw [<- j] at c;have U : (a : Int) * 131 + (b : Int) * 1117 + (p : Int) * 29 + (m : Int) * 53 = (x : Int):=by rw [g];omega
  have u : x < 4611686018427387904:=by omega
  have T : Int.tdiv (x : Int) 64 = ((x / 64 : Nat) : Int):=rfl;obtain ⟨k,s⟩:=xF x (x / 64) u (by omega);obtain ⟨y,B⟩:=xe (x ^^^ (x / 64));rw [<- B] at k s c
  have G : bits .xor .i64 (x : Int) ((x : Int) / 64) = (y : Int):=by
   have e : ((x : Int) / 64) = ((x / 64 : Nat) : Int):=by omega
   rw [e];exact k
  have Y:=bl y n;have O : (q : Int) < (L : Int):=by omega
  have H : (i : Int) < (L : Int):=by omega
  clear h o d f j A D B g;go_enter Tryz.func18,Tryz.ntmps18;go_wp2;exact bodyPost_ret (v:=.tuple #[.int .i64 ((y % n : Nat) : Int),.int .i64 ((p : Int) + 1)]) (by simp [results,Tryz.results18,go_sem]) rfl ⟨by rw [c.out] <;> rfl,rfl⟩

end Go.Proofs.YtihedobejcaapaaGreatDoor
