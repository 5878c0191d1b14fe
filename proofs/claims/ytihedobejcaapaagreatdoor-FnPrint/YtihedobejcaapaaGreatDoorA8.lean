/-
  PdA PdC PdD
-/
import Derived.Test.YtihedobejcaapaaGreatDoorA7
set_option maxHeartbeats 4000000
set_option maxRecDepth 100000
namespace Go.Proofs.YtihedobejcaapaaGreatDoor
open Go.RowKit
structure EPl where
 np : NPl
 tv : Value
 zs : List (TI × NPl)
def im : EPl:=⟨⟨none,0,0⟩,.slice none 0 0,[]⟩
theorem OT.nil (B : Nat) (w : World) : OT B w (.slice none 0 0) []:=⟨World.ownsRow_nil _ _ _ _,(fun x hx=>by cases hx),List.nodup_nil⟩
def cU (x : EI × EPl) : List Value:=[.int .i64 x.1.op,.int .i64 x.1.num,.string x.1.md,.string x.1.nm,.slice x.2.np.a x.1.ns.length x.2.np.c,x.2.tv]
def eisC (xs : List (EI × EPl)) : List Value:=xs.flatMap cU
theorem fe (xs : List (EI × EPl)) (x : EI × EPl) : eisC (xs ++ [x]) = eisC xs ++ cU x:=by simp [eisC]
def jt (x : EI × EPl) : List Nat:=(if x.1.ns = [] then [] else [x.2.np.b]) ++ (x.2.tv.ownBlock.toList ++ aS x.2.zs)
def bd (xs : List (EI × EPl)) : List Nat:=xs.flatMap jt
theorem cI (xs ys : List (EI × EPl)) : bd (xs ++ ys) = bd xs ++ bd ys:=by simp [bd]
structure ic (B : Nat) (w : World) (x : EI × EPl) : Prop where
 nm : aD B w x.1.ns x.2.np
 ty : OT B w x.2.tv x.2.zs
 is : x.2.zs.map Prod.fst = x.1.ty
theorem mem_eiB {x : EI × EPl} {b : Nat} (h : b ∈ jt x) : (x.1.ns ≠ [] /\ x.2.np.b = b) \/ x.2.tv.ownBlock = some b \/ b ∈ aS x.2.zs:=by
 unfold jt at h;rcases List.mem_append.1 h with h | h
 ·split at h
  ·cases h
  ·exact Or.inl ⟨‹_›,(ms1 h).symm⟩
 ·rcases List.mem_append.1 h with h | h
  ·exact Or.inr (Or.inl (by simpa using h))
  ·exact Or.inr (Or.inr h)
theorem gE {xs : List (EI × EPl)} {b : Nat} (h : b ∈ bd xs) : ∃ x,x ∈ xs /\ b ∈ jt x:=by
 unfold bd at h;obtain ⟨x,c,a⟩:=List.mem_flatMap.1 h;exact ⟨x,c,a⟩
theorem vw {xs : List (EI × EPl)} {x : EI × EPl} {b : Nat} (hx : x ∈ xs) (hb : b ∈ jt x) : b ∈ bd xs:=List.mem_flatMap.2 ⟨x,hx,hb⟩
theorem Bb {x : EI × EPl} (hn : x.1.ns ≠ []) : x.2.np.b ∈ jt x:=by unfold jt;rw [if_neg hn];simp
theorem zA {x : EI × EPl} {b : Nat} (h : x.2.tv.ownBlock = some b) : b ∈ jt x:=by unfold jt;simp [h]
theorem Ai {x : EI × EPl} {b : Nat} (h : b ∈ aS x.2.zs) : b ∈ jt x:=by unfold jt;simp [h]
theorem ic.lt {B : Nat} {w : World} {x : EI × EPl} (h : ic B w x) {b : Nat} (hb : b ∈ jt x) : B <= b /\ b < w.heap.size:=by
 rcases mem_eiB hb with ⟨a,rfl⟩ | e | e
 ·exact h.nm.lt a
 ·exact h.ty.own.lt b e
 ·exact h.ty.names e
theorem ic.but {S : List Nat} {B : Nat} {w w' : World} {x : EI × EPl} (h : ic B w x) (hb : ai S w w') (hS : ∀ b,b ∈ jt x -> b ∉ S) : ic B w' x:=
 ⟨h.nm.but hb (fun hn=>hS _ (Bb hn)),h.ty.but hb (fun b e=>hS b (zA e)) (fun b e=>hS b (Ai e)),h.is⟩
structure OE (B : Nat) (w : World) (v : Value) (xs : List (EI × EPl)) : Prop where
 own : w.ownsRow B 65 6 v xs.length (eisC xs)
 ok : ∀ x,x ∈ xs -> ic B w x
 nd : (bd xs).Nodup
theorem OE.names {B : Nat} {w : World} {v : Value} {xs : List (EI × EPl)} (h : OE B w v xs) {b : Nat} (hb : b ∈ bd xs) : B <= b /\ b < w.heap.size:=by
 obtain ⟨x,a,hb⟩:=gE hb;exact (h.ok x a).lt hb
theorem vo {B : Nat} {w : World} {v : Value} {n size : Nat} {xs : List Value} {t : TypeId} (h : w.ownsRow B t size v n xs) (h1 : t ≠ 9) (h2 : t ≠ 80) {x : EI × EPl} (hx : ic B w x) {b : Nat} (hb : b ∈ jt x) : v.ownBlock ≠ some b:=by
 rcases mem_eiB hb with ⟨c,rfl⟩ | e | e
 ·exact j9 h h1 hx.nm c
 ·exact qP hx.ty.own h (fun z=>h2 z.symm) e
 ·obtain ⟨y,d,a,rfl⟩:=cL e
  exact j9 h h1 (hx.ty.nm y d) a
theorem OE.but {S : List Nat} {B : Nat} {w w' : World} {v : Value} {xs : List (EI × EPl)} (h : OE B w v xs) (hb : ai S w w') (h1 : ∀ b,v.ownBlock = some b -> b ∉ S) (h2 : ∀ b,b ∈ bd xs -> b ∉ S) : OE B w' v xs:=
 ⟨aG h.own (fun k e=>hb.block k (h.own.lt k e.symm).2 (h1 k e.symm)),fun x hx=>(h.ok x hx).but hb (fun b z=>h2 b (vw hx z)),h.nd⟩
theorem OE.low {S : List Nat} {B : Nat} {w w' : World} {v : Value} {xs : List (EI × EPl)} (h : OE B w v xs) (hb : ai S w w') (hS : ∀ b,b ∈ S -> b < B \/ w.heap.size <= b) : OE B w' v xs:=
 h.but hb (fun b e z=>by have:=h.own.lt b e;have:=hS b z;omega) (fun b e z=>by have:=h.names e;have:=hS b z;omega)
theorem Ad {B : Nat} {w : World} {x : EI × EPl} {t' : TypeId} {N X : Nat} {f : Nat -> Value} (h : ic B w x) (hX : w.rowIs X t' N f) (h1 : 80 ≠ t') (h2 : t' ≠ 9) {b : Nat} (hb : b ∈ jt x) : b ≠ X:=by
 rcases mem_eiB hb with ⟨c,rfl⟩ | e | e
 ·exact mw h.nm c hX h2
 ·intro z;subst z;exact own_box h.ty.own hX h1 e
 ·obtain ⟨y,d,a,rfl⟩:=cL e
  exact mw (h.ty.nm y d) a hX h2
theorem OE.box {B : Nat} {w : World} {v : Value} {xs : List (EI × EPl)} {t' : TypeId} {N X : Nat} {f : Nat -> Value} (h : OE B w v xs) (hX : w.rowIs X t' N f) (h1 : 65 ≠ t' /\ 80 ≠ t') (h2 : t' ≠ 9) (u : Value) (k : Nat) : OE B (w.setCell ⟨X,k,none⟩ u) v xs:=
 h.but (S:=[X]) ((ai.refl _ _).set (fun _=>by simp) k u) (fun b e z=>own_box h.own hX h1.1 (by rw [e,ms1 z])) (fun b hb z=>by
  obtain ⟨x,hx,hb⟩:=gE hb;exact Ad (h.ok x hx) hX h1.2 h2 hb (ms1 z))
theorem OE.push {B : Nat} {w w3 : World} {v : Value} {xs : List (EI × EPl)} {x : EI × EPl} {o : Obj} {gg cap3 : Nat} (h : OE B w v xs)
  (hown : w3.ownsRow B 65 6 (.slice (some ⟨gg,0,none⟩) (xs.length + 1) cap3) (xs.length + 1) (eisC xs ++ cU x)) (hg : (w.alloc o).grownBy w3 v.ownBlock) (hx : ic B w x) (hn : ∀ b,b ∈ jt x -> b ∉ bd xs) (hd : (jt x).Nodup) :
  OE B w3 (.slice (some ⟨gg,0,none⟩) (xs.length + 1) cap3) (xs ++ [x]):=by
 have c:=dS hg;have far : ∀ y,ic B w y -> ic B w3 y:=fun y hy=>hy.but c (fun b z=>by simp only [Option.mem_toList];exact vo h.own (by decide) (by decide) hy z);refine ⟨by rw [fe,lap];exact hown,fun y hy=>?_,?_⟩
 ·rcases List.mem_append.1 hy with z | z
  ·exact far y (h.ok y z)
  ·rw [ms1 z]
   exact far x hx
 ·rw [cI]
  have d : bd [x] = jt x:=by simp [bd]
  rw [d];refine List.nodup_append.2 ⟨h.nd,hd,fun a ha b c e=>?_⟩;subst e;exact hn a c ha
def iK (B P tb o : Nat) (ts : List TK) (eT : TypeId) (eV : Value) (w : World) (v : Value) (xs : List (EI × EPl)) (r : Option (List EI × Nat)) (e : Ending) (w' : World) : Prop:=
 ai (P :: v.ownBlock.toList) w w' /\ match r with
 | none=>e = .panicked [{ v:=.iface eT eV,recovered:=false }]
 | some (l,j)=>∃ v' ys,e = .returned v' /\ OE B w' v' (xs ++ ys) /\ ys.map Prod.fst = l /\ ag w' P tb o j ts eT eV /\ (∀ b,v'.ownBlock = some b -> v.ownBlock = some b \/ w.heap.size <= b) /\ ∀ b,b ∈ bd ys -> w.heap.size <= b
def lo (B P tb o : Nat) (ts : List TK) (eT : TypeId) (eV : Value) (f : Nat) : Prop:=
 ∀ (i : Nat) (w : World) (v : Value) (xs : List (EI × EPl)),ag w P tb o i ts eT eV -> OE B w v xs -> xs.length <= i -> ts.length - i < f -> B <= w.heap.size -> Calls Tryz.prog 63 #[.pointer (some ⟨P,0,none⟩),v] w (iK B P tb o ts eT eV w v xs (ay true ts f i))
theorem Tryz.infoEI : (Tryz.prog.info? 65).map (fun i=>(i.zero,i.size,i.bytes)) = some (some (.agg #[.int .i64 0,.int .i64 0,.string ByteArray.empty,.string ByteArray.empty,.slice none 0 0,.slice none 0 0]),6,96):=by kernel_rfl
theorem rM {B : Nat} {w : World} {v : Value} {xs : List (EI × EPl)} {kb mb : Nat} {ov : Value} {ord : List (List UInt8)} (h : OE B w v xs) (hk : fH w kb mb ov ord) (hs : ∀ b,ov.ownBlock = some b -> b ∉ bd xs) : (∀ b,v.ownBlock = some b -> b ∉ kb :: mb :: ov.ownBlock.toList) /\ ∀ b,b ∈ bd xs -> b ∉ kb :: mb :: ov.ownBlock.toList:=
 ⟨fun b e=>nH h.own hk (by decide) (by decide) e,fun b hb=>by
  obtain ⟨x,hx,hbx⟩:=gE hb;have ok:=h.ok x hx;rcases mem_eiB hbx with ⟨hn,rfl⟩ | e | e
  ·exact qw ok.nm hn hk (fun e=>hs _ e hb)
  ·exact nH ok.ty.own hk (by decide) (by decide) e
  ·obtain ⟨y,hy,hyn,rfl⟩:=cL e
   exact qw (ok.ty.nm y hy) hyn hk (fun e=>hs _ e hb)⟩
theorem iw {B P tb o : Nat} {ts : List TK} {eT : TypeId} {eV : Value} (hP : P < B) (htb : tb < B) {j : Nat} {w w4 w5 : World} {v v1 : Value} {xs ys : List (EI × EPl)} {x : EI × EPl} {gg cap3 : Nat} {ob : Obj}
  (hot : OE B w4 v1 (xs ++ ys)) (hps : ag w4 P tb o j ts eT eV) (hbt : ai (P :: v.ownBlock.toList) w w4) (hgr : ∀ b,v1.ownBlock = some b -> v.ownBlock = some b \/ w.heap.size <= b)
  (hown : w5.ownsRow B 65 6 (.slice (some ⟨gg,0,none⟩) ((xs ++ ys).length + 1) cap3) ((xs ++ ys).length + 1) (eisC (xs ++ ys) ++ cU x)) (hg : (w4.alloc ob).grownBy w5 v1.ownBlock) (hat : v1.ownBlock = some gg \/ gg = w4.heap.size + 1)
  (hx : ic B w4 x) (hn : ∀ b,b ∈ jt x -> b ∉ bd (xs ++ ys)) (hd : (jt x).Nodup) (hnew : ∀ b,b ∈ bd ys -> w.heap.size <= b) (hxn : ∀ b,b ∈ jt x -> w.heap.size <= b) :
  iK B P tb o ts eT eV w v xs (some (ys.map Prod.fst ++ [x.1],j)) (.returned (.slice (some ⟨gg,0,none⟩) ((xs ++ ys).length + 1) cap3)) w5:=by
 have a:=dS hg
 have low : ∀ k,k < B -> k ∉ v1.ownBlock.toList:=fun k hk z=>by
  have:=hot.own.lt k (by simpa using z);omega
 have d:=hps.pos;refine ⟨hbt.trans a (fun k z hk=>?_),_,ys ++ [x],rfl,?_,by simp,hps.but a (low P hP) (low tb htb) (low 0 (by omega)),fun b e=>?_,fun b hb=>?_⟩
 ·rcases hgr k (by simpa using z) with q | q
  ·simp [q]
  ·omega
 ·rw [<- List.append_assoc]
  exact hot.push hown hg hx hn hd
 ·have c : gg = b:=by simpa [Value.ownBlock] using e
  subst c;rcases hat with q | q
  ·exact hgr gg q
  ·have:=hbt.size
   exact Or.inr (by omega)
 ·rw [cI] at hb
  rcases List.mem_append.1 hb with z | z
  ·exact hnew b z
  ·exact hxn b (by simpa [bd] using z)
theorem iS (B : Nat) (w : World) {x : EI} (h1 : x.ns = []) (h2 : x.ty = []) : ic B w (x,im) /\ jt (x,im) = []:=by
 refine ⟨⟨by show aD B w x.ns _;rw [h1];exact aD.nil _ _ _,OT.nil _ _,by show [] = x.ty;rw [h2]⟩,?_⟩;unfold jt im;rw [if_pos h1];rfl
def CR (B P tb o : Nat) (ts : List TK) (eT : TypeId) (eV : Value) (X : Nat) (w : World) (v : Value) (xs : List (EI × EPl)) (r : Option (List EI × Nat)) (e : Ending) (w' : World) : Prop:=
 ai (P :: X :: v.ownBlock.toList) w w' /\ match r with
 | none=>e = .panicked [{ v:=.iface eT eV,recovered:=false }]
 | some (l,j)=>∃ v' ys,e = .returned (.tuple #[]) /\ w'.rowIs X 35 1 (fun _=>v') /\ OE B w' v' (xs ++ ys) /\ ys.map Prod.fst = l /\ ag w' P tb o j ts eT eV /\ (∀ b,v'.ownBlock = some b -> v.ownBlock = some b \/ w.heap.size <= b) /\ ∀ b,b ∈ bd ys -> w.heap.size <= b
theorem A5 {B P tb o : Nat} {ts : List TK} {eT : TypeId} {eV : Value} {f : Nat} (IH : lo B P tb o ts eT eV f) {i Q X : Nat} {w : World} {v : Value} {xs : List (EI × EPl)} (hps : ag w P tb o i ts eT eV) (hQ : w.rowIs Q 69 1 (fun _=>.pointer (some ⟨P,0,none⟩))) (hX : w.rowIs X 35 1 (fun _=>v)) (hot : OE B w v xs) (hxi : xs.length <= i) (hf : ts.length - i < f) (hB : B <= w.heap.size) (hPX : P ≠ X) (htX : tb ≠ X) (hX0 : 0 ≠ X) :
  Calls Tryz.prog 113 #[.pointer (some ⟨Q,0,none⟩),.pointer (some ⟨X,0,none⟩)] w (CR B P tb o ts eT eV X w v xs (ay true ts f i)):=by
 have V:=hQ.cell (i:=0) (by omega);have W:=hX.cell (i:=0) (by omega);have T : v.ownBlock ≠ some X:=own_box hot.own hX (by decide);have p:=IH i w v xs hps hot hxi hf hB;have O:=hQx hot;clear IH hps hot;go_enter Tryz.func113,Tryz.ntmps113;go_wp2_with fail;refine p.mono ?_;clear p;intro e n h;obtain ⟨x,h⟩:=h;obtain ⟨r,F⟩:=xe (ay true ts f i);have K : Hid (ay true ts f i = r):=F.symm;rw [<- F] at h;clear F;have s : Hid (ai (P :: X :: v.ownBlock.toList) w n):=x.more (fun k z=>by simp only [List.mem_cons] at z ⊢;exact z.imp_right Or.inr)
 have d:=hX.of_block (x.block X hX.lt (fun z=>by
  simp only [List.mem_cons,Option.mem_toList] at z;rcases z with z | z
  ·exact hPX z.symm
  ·exact T z))
 cases r with
 | none=>
   have h : e = .panicked [{ v:=.iface eT eV,recovered:=false }]:=h;subst h;clear x;go_wp2;exact ⟨rfl,by rw [K.out];exact ⟨s.out,rfl⟩⟩
 | some r=>
   obtain ⟨l,j⟩:=r;obtain ⟨R,q,rfl,G,L,I,J,M⟩:=h;have S : Hid (q.map Prod.fst = l):=L;have H : Hid (∀ b,R.ownBlock = some b -> v.ownBlock = some b \/ w.heap.size <= b):=J;have D : Hid (∀ b,b ∈ bd q -> w.heap.size <= b):=M;obtain ⟨a,c,t⟩:=ad G.own;obtain ⟨m,u⟩:=xe ((xs ++ q).length);rw [<- u] at t;subst t;clear u L J M x;have U:=d.cell (i:=0) (by omega);have N:=d.frozen 0;have g : ai [X] n (n.setCell ⟨X,0,none⟩ (.slice a m c)):=(ai.refl _ _).set (fun _=>by simp) 0 _;have y : Hid (ai (P :: X :: v.ownBlock.toList) w (n.setCell ⟨X,0,none⟩ (.slice a m c))):=s.out.trans g (fun k z _=>by rw [ms1 z];simp);have E : Hid (ag (n.setCell ⟨X,0,none⟩ (.slice a m c)) P tb o j ts eT eV):=I.but g (by simpa using hPX) (by simpa using htX) (by simpa using hX0);have A : Hid (OE B (n.setCell ⟨X,0,none⟩ (.slice a m c)) (.slice a m c) (xs ++ q)):=G.box d (by decide) (by decide) _ _
   have C : Hid ((n.setCell ⟨X,0,none⟩ (.slice a m c)).rowIs X 35 1 (fun _=>.slice a m c)):=(d.set 0 _).congr (fun k hk=>by
    match k,hk with
    | 0,_=>rfl)
   clear g G I d;go_wp2
   go_end0
   rw [K.out];exact ⟨y.out,_,q,rfl,C.out,A.out,S.out,E.out,H.out,D.out⟩
def zO (B P tb o : Nat) (ts : List TK) (eT : TypeId) (eV : Value) (X : Nat) (w : World) (v : Value) (xs : List (EI × EPl)) (r : Option (List EI × List ByteArray × Nat)) (e : Ending) (w' : World) : Prop:=
 ai (P :: X :: v.ownBlock.toList) w w' /\ match r with
 | none=>e = .panicked [{ v:=.iface eT eV,recovered:=false }]
 | some (l,ns,j)=>∃ v' ys p,e = .returned (.slice p.a ns.length p.c) /\ w'.rowIs X 35 1 (fun _=>v') /\ OE B w' v' (xs ++ ys) /\ ys.map Prod.fst = l /\ ag w' P tb o j ts eT eV /\ (∀ b,v'.ownBlock = some b -> v.ownBlock = some b \/ w.heap.size <= b) /\ (∀ b,b ∈ bd ys -> w.heap.size <= b) /\ aD w.heap.size w' ns p /\ (ns ≠ [] -> p.b ∉ bd (xs ++ ys))
structure yU (B P tb o : Nat) (ts : List TK) (eT : TypeId) (eV : Value) (Q X : Nat) (w : World) (v : Value) (xs : List (EI × EPl)) (T : Nat -> Option (List EI × Nat)) (i : Nat) (wr : World) (j g : Nat) (ns : List ByteArray) (v1 : Value) (ys : List (EI × EPl)) (ov : Value) : Prop where
 eq : aH ts T gh i = cX ts T gh g j ns (ys.map Prod.fst)
 fuel : ts.length < g + j
 ps : ag wr P tb o j ts eT eV
 rq : wr.rowIs Q 69 1 (fun _=>.pointer (some ⟨P,0,none⟩))
 rx : wr.rowIs X 35 1 (fun _=>v1)
 ot : OE B wr v1 (xs ++ ys)
 gr : ∀ b,v1.ownBlock = some b -> v.ownBlock = some b \/ w.heap.size <= b
 nw : ∀ b,b ∈ bd ys -> w.heap.size <= b
 but : ai (P :: X :: v.ownBlock.toList) w wr
 kn : fH wr (w.heap.size + 1) w.heap.size ov (ns.map fun s=>s.data.toList)
 sep : ∀ b,ov.ownBlock = some b -> b ∉ bd (xs ++ ys)
 len : (xs ++ ys).length <= j
 nl : ns.length <= j
 far : i <= j
theorem yU.named {B P tb o : Nat} {ts : List TK} {eT : TypeId} {eV : Value} {Q X : Nat} {w : World} {v : Value} {xs : List (EI × EPl)} {T : Nat -> Option (List EI × Nat)} {i : Nat} {wr w1 w2 : World} {j g : Nat} {ns : List ByteArray} {v1 : Value} {ys : List (EI × EPl)} {ov : Value} (h : yU B P tb o ts eT eV Q X w v xs T i wr j g ns v1 ys ov) (hP : P < B) (htb : tb < B) (hB : B <= w.heap.size) (hXw : X < w.heap.size) (hQw : Q < w.heap.size) (hXB : B <= X) (hQB : B <= Q)
  (b1 : ai [P] wr w1) (p1 : ag w1 P tb o (j + 1) ts eT eV) (b2 : ai ((w.heap.size + 1) :: w.heap.size :: ov.ownBlock.toList) w1 w2) :
  ag w2 P tb o (j + 1) ts eT eV /\ w2.rowIs Q 69 1 (fun _=>.pointer (some ⟨P,0,none⟩)) /\ w2.rowIs X 35 1 (fun _=>v1) /\ OE B w2 v1 (xs ++ ys) /\ ai (P :: X :: v.ownBlock.toList) w w2:=by
 obtain ⟨n,p,c⟩:=h.kn.ids
 have a : ∀ k,k < w.heap.size -> k ∉ (w.heap.size + 1) :: w.heap.size :: ov.ownBlock.toList:=fun k hk z=>by
  simp only [List.mem_cons,Option.mem_toList] at z;rcases z with z | z | z
  ·omega
  ·omega
  ·have:=(c k z).1;omega
 have q:=p1.pos;have d : OE B w1 v1 (xs ++ ys):=h.ot.low b1 (fun b z=>by rw [ms1 z];exact Or.inl hP);have f : fH w1 (w.heap.size + 1) w.heap.size ov (ns.map fun s=>s.data.toList):=h.kn.but b1 (by simp;omega) (by simp;omega) (fun b e=>by have:=(c b e).1;simp;omega);obtain ⟨l,m⟩:=rM d f h.sep;refine ⟨p1.but b2 (a P (by omega)) (a tb (by omega)) (a 0 (by omega)),(h.rq.of_block (b1.block Q h.rq.lt (by simp;omega))).of_block (b2.block Q (Nat.lt_of_lt_of_le h.rq.lt b1.size) (a Q hQw)),(h.rx.of_block (b1.block X h.rx.lt (by simp;omega))).of_block (b2.block X (Nat.lt_of_lt_of_le h.rx.lt b1.size) (a X hXw)),d.but b2 l m,?_⟩;exact (h.but.trans b1 (fun k z _=>by rw [ms1 z];simp)).trans b2 (fun k z hk=>absurd z (a k hk))
theorem yU.parted {B P X : Nat} {w : World} {v : Value} {xs : List (EI × EPl)} {w3 w4 : World} {v1 v2 : Value} {ys zs : List (EI × EPl)} {ov : Value} {ord : List (List UInt8)} (hP : P < B) (hB : B <= w.heap.size) (hXw : X < w.heap.size)
  (o3 : OE B w3 v1 (xs ++ ys)) (k3 : fH w3 (w.heap.size + 1) w.heap.size ov ord) (s3 : ∀ b,ov.ownBlock = some b -> b ∉ bd (xs ++ ys)) (g3 : ∀ b,v1.ownBlock = some b -> v.ownBlock = some b \/ w.heap.size <= b) (n3 : ∀ b,b ∈ bd ys -> w.heap.size <= b) (b3 : ai (P :: X :: v.ownBlock.toList) w w3)
  (b4 : ai (P :: X :: v1.ownBlock.toList) w3 w4) (g4 : ∀ b,v2.ownBlock = some b -> v1.ownBlock = some b \/ w3.heap.size <= b) (n4 : ∀ b,b ∈ bd zs -> w3.heap.size <= b) :
  fH w4 (w.heap.size + 1) w.heap.size ov ord /\ (∀ b,ov.ownBlock = some b -> b ∉ bd (xs ++ (ys ++ zs))) /\ (∀ b,v2.ownBlock = some b -> v.ownBlock = some b \/ w.heap.size <= b) /\ (∀ b,b ∈ bd (ys ++ zs) -> w.heap.size <= b) /\ ai (P :: X :: v.ownBlock.toList) w w4:=by
 obtain ⟨g,h,c⟩:=k3.ids;obtain ⟨f,_⟩:=rM o3 k3 s3;have s:=b3.size
 have a : ∀ k,k ∈ (w.heap.size + 1) :: w.heap.size :: ov.ownBlock.toList -> k ∉ P :: X :: v1.ownBlock.toList:=fun k hk z=>by
  have d : w.heap.size <= k:=by
   simp only [List.mem_cons,Option.mem_toList] at hk;rcases hk with q | q | q
   ·omega
   ·omega
   ·have:=(c k q).1;omega
  simp only [List.mem_cons,Option.mem_toList] at z;rcases z with z | z | z
  ·omega
  ·omega
  ·exact f k z hk
 refine ⟨k3.but b4 (a _ (by simp)) (a _ (by simp)) (fun b e=>a b (by simp [e])),fun b e z=>?_,fun b e=>?_,fun b z=>?_,b3.trans b4 (fun k z hk=>?_)⟩
 ·rw [<- List.append_assoc,cI] at z
  rcases List.mem_append.1 z with q | q
  ·exact s3 b e q
  ·have:=n4 b q
   have:=(c b e).2;omega
 ·rcases g4 b e with q | q
  ·exact g3 b q
  ·exact Or.inr (by omega)
 ·rw [cI] at z
  rcases List.mem_append.1 z with q | q
  ·exact n3 b q
  ·have:=n4 b q
   omega
 ·simp only [List.mem_cons,Option.mem_toList] at z ⊢
  rcases z with z | z | z
  ·exact Or.inl z
  ·exact Or.inr (Or.inl z)
  ·rcases g3 k z with q | q
   ·exact Or.inr (Or.inr q)
   ·omega
theorem uQ {B P tb o : Nat} {ts : List TK} {eT : TypeId} {eV : Value} {f : Nat} (IH : lo B P tb o ts eT eV f) (hP : P < B) (htb : tb < B) {i Q X : Nat} {w : World} {v : Value} {xs : List (EI × EPl)} (hps : ag w P tb o i ts eT eV) (hQ : w.rowIs Q 69 1 (fun _=>.pointer (some ⟨P,0,none⟩))) (hX : w.rowIs X 35 1 (fun _=>v)) (hot : OE B w v xs) (hxi : xs.length <= i) (hf : ts.length - i < f) (hB : B <= w.heap.size) (hXB : B <= X) (hQB : B <= Q) :
  Calls Tryz.prog 96 #[.pointer (some ⟨P,0,none⟩),.string ⟨#[61]⟩,.func (.func 113) #[] #[.pointer (some ⟨Q,0,none⟩),.pointer (some ⟨X,0,none⟩)]] w (zO B P tb o ts eT eV X w v xs (aH ts (ay true ts f) gh i)):=by
 have ch:=hQx IH;have N:=hX.lt;have bv:=hQ.lt;have hn:=hps.tk.len;have h0:=hps.pos;have de:=hQx hps;have bx:=hQx hot;have HQ:=hQx hQ;have HX:=hQx hX;clear IH hps hot hQ hX;go_enter Tryz.func96,Tryz.ntmps96;go_wp2_with fail;refine (qi w).mono ?_;rintro e C ⟨rfl,bL,F⟩;have a5 : Hid (fH C (w.heap.size + 1) w.heap.size (.slice none 0 0) []):=bL;have S : Hid (ag C P tb o i ts eT eV):=de.out.but F (by simp) (by simp) (by simp);have A : Hid (ai [] w C):=F;clear bL F;go_wp2_with fail;cases hs : isT ts i cw
 case true=>
  refine (bK ⟨#[125]⟩ C S.out hs).mono ?_;rintro e u ⟨rfl,p2,V⟩;have D : Hid (aH ts (ay true ts f) gh i = some ([],[],i + 1)):=by show _ = _;unfold aH;rw [if_pos hs]
  have K2 : fH u (w.heap.size + 1) w.heap.size (.slice none 0 0) (([] : List ByteArray).map fun s=>s.data.toList):=a5.out.but V (by simp;omega) (by simp;omega) (fun b e=>by cases e);obtain ⟨p,e1,c1,_,_⟩:=i7 K2;have m : Hid (ai [P] w u):=(A.out.more (S':=[P]) (fun _ z=>by simp at z)).then_ V
  have O : Hid (zO B P tb o ts eT eV X w v xs (some ([],[],i + 1)) (.returned (.slice none 0 0)) u):=by
   refine ⟨m.out.more (fun k z=>by rw [ms1 z];simp),v,[],⟨none,0,0⟩,rfl,HX.out.of_block (m.out.block X N (by simp;omega)),?_,rfl,p2,fun b e=>Or.inl e,(fun b z=>by cases z),aD.nil _ _ _,fun h=>absurd rfl h⟩;rw [List.append_nil];exact bx.out.low m.out (fun b z=>by rw [ms1 z];exact Or.inl hP)
  clear hs p2 V K2 e1;go_wp2;go_ret;rw [D.out];exact O.out
 refine (aN ⟨#[125]⟩ C S.out hs).mono ?_;rintro e u ⟨rfl,rfl⟩
 have HL : Hid (yU B P tb o ts eT eV Q X w v xs (ay true ts f) i C i (ts.length + 1) [] v [] (.slice none 0 0)):=by
  refine ⟨by unfold aH;rw [hs];rfl,by omega,S.out,HQ.out.of_block (A.out.block Q bv (by simp)),HX.out.of_block (A.out.block X N (by simp)),?_,fun b e=>Or.inl e,(fun b z=>by cases z),A.out.more (fun k z=>by simp at z),a5.out,(fun b e=>by cases e),by simpa using hxi,Nat.zero_le _,nlr _⟩;rw [List.append_nil];exact bx.out.low A.out (fun b z=>by simp at z)
 clear hs a5 S A;go_wp2
 go_loopw [8] (fun _ wr=>∃ (j g : Nat) (n : List ByteArray) (v1 : Value) (t : List (EI × EPl)) (ov : Value),Hid (yU B P tb o ts eT eV Q X w v xs (ay true ts f) i wr j g n v1 t ov)) (fun _ wr=>dW wr P 0)
 case atStart=>exact ⟨i,ts.length + 1,[],v,[],.slice none 0 0,HL⟩
 case round=>
  obtain ⟨j,g,n,v1,t,ov,H⟩:=hrel;clear HL;have ff:=H.out.ps.le;have hg : 0 < g:=by have:=H.out.fuel;omega
  have x : Hid (aH ts (ay true ts f) gh i = _):=H.out.eq.trans (pt hg);have cn : Hid (dW wr P 0 = ts.length - j):=fC H.out.ps;go_wp2_with fail;cases hc : cr ts j 1
  case false=>
   have D : Hid (aH ts (ay true ts f) gh i = none):=by show _ = _;rw [x.out,hc];rfl
   refine (cJ wr H.out.ps hc).mono ?_;rintro e C ⟨rfl,F⟩;have c5 : Hid (ai (P :: X :: v.ownBlock.toList) w C):=H.out.but.trans F (fun k z _=>by rw [ms1 z];simp);clear hc F;go_wp2;exact ⟨rfl,by rw [D.out];exact ⟨c5.out,rfl⟩⟩
  refine (fY wr H.out.ps hc).mono ?_;rintro e C ⟨rfl,p1,F⟩;have bf:=d4 hc;go_wp2_with fail
  have co : (tx ts j).data.toList.length <= maxLen:=by
   have:=H.out.ps.tk.sz j bf;rw [dx bf];unfold maxLen;show (aA ts j).txt.data.size <= _;have e : (aA ts j).txt.data.size = (aA ts j).txt.size:=rfl;omega
  have K1 : fH C (w.heap.size + 1) w.heap.size ov (n.map fun s=>s.data.toList):=H.out.kn.but F (by simp;omega) (by simp;omega) (fun b e=>by have:=(H.out.kn.ids.2.2 b e).1;simp;omega);have e7:=H.out.nl;have CN:=jr (w.heap.size + 1) w.heap.size ov (n.map fun s=>s.data.toList) (tx ts j).data.toList C K1 co (by rw [List.length_map];omega);rw [lI,bZ] at CN;refine CN.mono ?_;clear CN;rintro e u ⟨xx,d,rfl,K2,V,a7⟩;obtain ⟨P2,Q2,X2,O2,B2⟩:=H.out.named hP htb hB N bv hXB hQB F p1 V;have m : Hid (ai (P :: X :: v.ownBlock.toList) w u):=B2;have ck:=P2.ev;have e2 : C.heap.size <= u.heap.size:=V.size;have e9 : wr.heap.size <= C.heap.size:=F.size;cases hh : bC n (tx ts j)
  case true=>
   have D : Hid (aH ts (ay true ts f) gh i = none):=by show _ = _;rw [x.out,hc,hh];rfl
   clear hc hh p1 F K1 V a7 P2 Q2 X2 O2 B2 K2;go_wp2;exact ⟨rfl,by rw [D.out];exact ⟨m.out,rfl⟩⟩
  have a8 : Hid (fH u (w.heap.size + 1) w.heap.size d ((n ++ [tx ts j]).map fun s=>s.data.toList)):=by
   have e : iA (n.map fun s=>s.data.toList) (tx ts j).data.toList = (n ++ [tx ts j]).map fun s=>s.data.toList:=by
    unfold iA;rw [bZ,hh];simp
   rw [e] at K2;exact K2
  have a4 : Hid (∀ b,d.ownBlock = some b -> b ∉ bd (xs ++ t)):=fun b e=>by
   rcases a7 b e with q | q
   ·exact H.out.sep b q
   ·intro z
    have:=(H.out.ot.names z).2;omega
  have a0 : Hid (u.rowIs Q 69 1 (fun _=>.pointer (some ⟨P,0,none⟩))):=Q2;have Z : Hid (u.rowIs X 35 1 (fun _=>v1)):=X2;have b7 : Hid (OE B u v1 (xs ++ t)):=O2;have a2 : Hid (ag u P tb o (j + 1) ts eT eV):=P2;clear p1 F K1 V a7 P2 Q2 X2 O2 B2 K2 ck;go_wp2_with fail;cases hsg : isT ts (j + 1) gh
  case false=>
   have D : Hid (aH ts (ay true ts f) gh i = none):=by show _ = _;rw [x.out,hc,hh,hsg];rfl
   refine (aP ⟨#[61]⟩ u a2.out hsg).mono ?_;rintro e T ⟨rfl,rfl⟩;clear hc hh hsg;go_wp2;exact ⟨rfl,by rw [D.out];exact ⟨m.out,rfl⟩⟩
  refine (cG ⟨#[61]⟩ u a2.out hsg).mono ?_;rintro e T ⟨rfl,p3,b3⟩;have bn : Hid (ag T P tb o (j + 2) ts eT eV):=p3;have y : Hid (T.rowIs Q 69 1 (fun _=>.pointer (some ⟨P,0,none⟩))):=a0.out.of_block (b3.block Q a0.out.lt (by simp;omega));have a1 : Hid (T.rowIs X 35 1 (fun _=>v1)):=Z.out.of_block (b3.block X Z.out.lt (by simp;omega));have L : Hid (OE B T v1 (xs ++ t)):=b7.out.low b3 (fun b z=>by rw [ms1 z];exact Or.inl hP);have U : Hid (ai (P :: X :: v.ownBlock.toList) w T):=m.out.trans b3 (fun k z _=>by rw [ms1 z];simp);have ah : Hid (fH T (w.heap.size + 1) w.heap.size d ((n ++ [tx ts j]).map fun s=>s.data.toList)):=a8.out.but b3 (by simp;omega) (by simp;omega) (fun b e=>by have:=(a8.out.ids.2.2 b e).1;simp;omega);have eQ : u.heap.size <= T.heap.size:=b3.size;have eO : w.heap.size <= T.heap.size:=U.out.size;have b0:=H.out.len;have el:=H.out.far;clear p3 b3 a0 Z b7 m a8 a2;go_wp2_with fail;refine (A5 ch.out bn.out y.out a1.out L.out (by omega) (by omega) (by omega) (by omega) (by omega) (by omega)).mono ?_;intro e M hT;obtain ⟨b4,hT⟩:=hT;obtain ⟨r,hr⟩:=xe (ay true ts f (j + 2));have J : Hid (ay true ts f (j + 2) = r):=hr.symm;rw [<- hr] at hT;clear hr
  cases r with
  | none=>
    have hT : e = .panicked [{ v:=.iface eT eV,recovered:=false }]:=hT;subst hT;have D : Hid (aH ts (ay true ts f) gh i = none):=by show _ = _;rw [x.out,hc,hh,hsg,J.out];rfl
    have E : Hid (ai (P :: X :: v.ownBlock.toList) w M):=(yU.parted hP hB N L.out ah.out a4.out H.out.gr H.out.nw U.out b4 (v2:=.slice none 0 0) (zs:=[]) (fun b e=>by cases e) (fun b z=>by cases z)).2.2.2.2;clear hc hh hsg b4;go_wp2;exact ⟨rfl,by rw [D.out];exact ⟨E.out,rfl⟩⟩
  | some r=>
    obtain ⟨l,k⟩:=r;obtain ⟨v2,R,rfl,X4,O4,hl,P4,g4,n4⟩:=hT;obtain ⟨K4,S4,G4,N4,B4⟩:=yU.parted hP hB N L.out ah.out a4.out H.out.gr H.out.nw U.out b4 g4 n4;obtain ⟨f1,f2,f3⟩:=bS f _ _ _ J.out;have e5 : R.length = l.length:=by rw [<- hl,List.length_map]
    have cx : (xs ++ (t ++ R)).length <= k:=by
     simp only [lap] at b0 ⊢;omega
    have HY : Hid ((t ++ R).map Prod.fst = t.map Prod.fst ++ l):=by show _ = _;rw [List.map_append,hl]
    have ab : Hid (M.rowIs Q 69 1 (fun _=>.pointer (some ⟨P,0,none⟩))):=y.out.of_block (b4.block Q y.out.lt (fun z=>by
     simp only [List.mem_cons,Option.mem_toList] at z;rcases z with z | z | z
     ·omega
     ·have r1:=y.out
      have r2:=a1.out;obtain ⟨c1,q1,_⟩:=r1;obtain ⟨c2,q2,_⟩:=r2;rw [z,q2] at q1;simp only [Option.some.injEq,Obj.cells.injEq] at q1;exact absurd q1.2.1 (by decide)
     ·exact own_box L.out.own y.out (by decide) z))
    rw [List.append_assoc] at O4;have G : Hid (M.rowIs X 35 1 (fun _=>v2)):=X4;have a6 : Hid (OE B M v2 (xs ++ (t ++ R))):=O4;have K : Hid (ag M P tb o k ts eT eV):=P4;have I : Hid (fH M (w.heap.size + 1) w.heap.size d ((n ++ [tx ts j]).map fun s=>s.data.toList)):=K4;have an : Hid (∀ b,d.ownBlock = some b -> b ∉ bd (xs ++ (t ++ R))):=S4;have W : Hid (∀ b,v2.ownBlock = some b -> v.ownBlock = some b \/ w.heap.size <= b):=G4;have a9 : Hid (∀ b,b ∈ bd (t ++ R) -> w.heap.size <= b):=N4;have E : Hid (ai (P :: X :: v.ownBlock.toList) w M):=B4;clear X4 O4 hl P4 g4 n4 K4 S4 G4 N4 B4 b4 y a1 L ah U bn a4;go_wp2_with fail;cases hsh : isT ts k cw
    case true=>
     refine (bK ⟨#[125]⟩ M K.out hsh).mono ?_;rintro e w5 ⟨rfl,p5,b5⟩
     have D : Hid (aH ts (ay true ts f) gh i = some (t.map Prod.fst ++ l,n ++ [tx ts j],k + 1)):=by
      show _ = _;rw [x.out,hc,hh,hsg,J.out];show (if isT ts k cw = true then _ else _) = _;rw [hsh];rfl
     have K5:=I.out.but b5 (by simp;omega) (by simp;omega) (fun b e=>by have:=(I.out.ids.2.2 b e).1;simp;omega);obtain ⟨p,ep,cp,np,bp⟩:=i7 K5;have c0 : Hid (ai (P :: X :: v.ownBlock.toList) w w5):=E.out.trans b5 (fun k z _=>by rw [ms1 z];simp)
     have O : Hid (zO B P tb o ts eT eV X w v xs (some (t.map Prod.fst ++ l,n ++ [tx ts j],k + 1)) (.returned d) w5):=by
      refine ⟨c0.out,v2,t ++ R,p,by rw [ep],G.out.of_block (b5.block X G.out.lt (by simp;omega)),a6.out.low b5 (fun b z=>by rw [ms1 z];exact Or.inl hP),HY.out,p5,W.out,a9.out,np.base (by omega),fun hne z=>?_⟩;exact an.out _ (bp hne) z
     rw [ep] at cp;have bs : d = .slice p.a (n ++ [tx ts j]).length p.c:=ep;obtain ⟨m9,Y⟩:=xe ((n ++ [tx ts j]).length);have bo : Hid (d = .slice p.a m9 p.c):=by show _ = _;rw [bs,Y]
     rw [<- Y] at cp;clear hc hh hsg hsh p5 b5 K5 ep np bp bs Y;go_wp2;go_ret;rw [D.out];have z:=O.out;rw [bo.out] at z;exact z
    refine (aN ⟨#[125]⟩ M K.out hsh).mono ?_;rintro e w5 ⟨rfl,rfl⟩;go_wp2_with fail;cases hcm : isT ts k eK
    case false=>
     have D : Hid (aH ts (ay true ts f) gh i = none):=by
      show _ = _;rw [x.out,hc,hh,hsg,J.out];show (if isT ts k cw = true then _ else if isT ts k eK = true then _ else _) = _;rw [hsh,hcm];rfl
     refine (aP ⟨#[44]⟩ M K.out hcm).mono ?_;rintro e w6 ⟨rfl,rfl⟩;clear hc hh hsg hsh hcm;go_wp2;exact ⟨rfl,by rw [D.out];exact ⟨E.out,rfl⟩⟩
    refine (cG ⟨#[44]⟩ M K.out hcm).mono ?_;rintro e w6 ⟨rfl,p6,b6⟩
    have HL : Hid (yU B P tb o ts eT eV Q X w v xs (ay true ts f) i w6 (k + 1) (g - 1) (n ++ [tx ts j]) v2 (t ++ R) d):=by
     refine ⟨?_,by have:=H.out.fuel;omega,p6,ab.out.of_block (b6.block Q ab.out.lt (by simp;omega)),G.out.of_block (b6.block X G.out.lt (by simp;omega)),a6.out.low b6 (fun b z=>by rw [ms1 z];exact Or.inl hP),W.out,a9.out,E.out.trans b6 (fun k z _=>by rw [ms1 z];simp),I.out.but b6 (by simp;omega) (by simp;omega) (fun b e=>by have:=(I.out.ids.2.2 b e).1;simp;omega),an.out,by omega,by simp;omega,by omega⟩;rw [x.out,hc,hh,hsg,J.out,HY.out];show (if isT ts k cw = true then _ else if isT ts k eK = true then _ else _) = _;rw [hsh,hcm];rfl
    have cm : Hid (dW w6 P 0 = ts.length - (k + 1)):=fC p6;clear hc hh hsg hsh hcm p6 b6 ab G a6 K I an W a9 E;go_wp2
    go_roundw
    case rel=>exact ⟨k + 1,g - 1,n ++ [tx ts j],v2,t ++ R,d,HL⟩
    case measure=>rw [cm.out,cn.out];omega
end Go.Proofs.YtihedobejcaapaaGreatDoor
