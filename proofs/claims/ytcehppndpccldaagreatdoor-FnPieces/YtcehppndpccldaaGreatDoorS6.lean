/-
  M7
-/
import Derived.Test.YtcehppndpccldaaGreatDoorS5
set_option maxHeartbeats 4000000
set_option maxRecDepth 100000
namespace Go.Proofs.YtcehppndpccldaaGreatDoor
open Go.RowKit
structure EPl where
 np : NPl
 tv : Value
 zs : List (TI × NPl)
def ep0 : EPl:=⟨⟨none,0,0⟩,.slice none 0 0,[]⟩
theorem OT.nil (B : Nat) (w : World) : OT B w (.slice none 0 0) []:=⟨World.ownsRow_nil _ _ _ _,(fun x hx=>by cases hx),List.nodup_nil⟩
def eiC (x : EI × EPl) : List Value:=[.int .i64 x.1.op,.int .i64 x.1.num,.string x.1.md,.string x.1.nm,.slice x.2.np.a x.1.ns.length x.2.np.c,x.2.tv]
def eisC (xs : List (EI × EPl)) : List Value:=xs.flatMap eiC
theorem eisC_snoc (xs : List (EI × EPl)) (x : EI × EPl) : eisC (xs ++ [x]) = eisC xs ++ eiC x:=by simp [eisC]
def eiB (x : EI × EPl) : List Nat:=(if x.1.ns = [] then [] else [x.2.np.b]) ++ (x.2.tv.ownBlock.toList ++ tisB x.2.zs)
def eisB (xs : List (EI × EPl)) : List Nat:=xs.flatMap eiB
theorem eisB_append (xs ys : List (EI × EPl)) : eisB (xs ++ ys) = eisB xs ++ eisB ys:=by simp [eisB]
structure EiOK (B : Nat) (w : World) (x : EI × EPl) : Prop where
 nm : NmOK B w x.1.ns x.2.np
 ty : OT B w x.2.tv x.2.zs
 is : x.2.zs.map Prod.fst = x.1.ty
theorem mem_eiB {x : EI × EPl} {b : Nat} (h : b ∈ eiB x) : (x.1.ns ≠ [] /\ x.2.np.b = b) \/ x.2.tv.ownBlock = some b \/ b ∈ tisB x.2.zs:=by
 unfold eiB at h
 rcases List.mem_append.1 h with h | h
 ·split at h
  ·cases h
  ·exact Or.inl ⟨‹_›,(ms1 h).symm⟩
 ·rcases List.mem_append.1 h with h | h
  ·exact Or.inr (Or.inl (by simpa using h))
  ·exact Or.inr (Or.inr h)
theorem mem_eisB {xs : List (EI × EPl)} {b : Nat} (h : b ∈ eisB xs) : ∃ x,x ∈ xs /\ b ∈ eiB x:=by
 unfold eisB at h
 obtain ⟨x,hx,hb⟩:=List.mem_flatMap.1 h
 exact ⟨x,hx,hb⟩
theorem eisB_mem {xs : List (EI × EPl)} {x : EI × EPl} {b : Nat} (hx : x ∈ xs) (hb : b ∈ eiB x) : b ∈ eisB xs:=List.mem_flatMap.2 ⟨x,hx,hb⟩
theorem eiB_nm {x : EI × EPl} (hn : x.1.ns ≠ []) : x.2.np.b ∈ eiB x:=by unfold eiB;rw [if_neg hn];simp
theorem eiB_ty {x : EI × EPl} {b : Nat} (h : x.2.tv.ownBlock = some b) : b ∈ eiB x:=by unfold eiB;simp [h]
theorem eiB_zs {x : EI × EPl} {b : Nat} (h : b ∈ tisB x.2.zs) : b ∈ eiB x:=by unfold eiB;simp [h]
theorem EiOK.lt {B : Nat} {w : World} {x : EI × EPl} (h : EiOK B w x) {b : Nat} (hb : b ∈ eiB x) : B <= b /\ b < w.heap.size:=by
 rcases mem_eiB hb with ⟨hn,rfl⟩ | e | e
 ·exact h.nm.lt hn
 ·exact h.ty.own.lt b e
 ·exact h.ty.names e
theorem EiOK.but {S : List Nat} {B : Nat} {w w' : World} {x : EI × EPl} (h : EiOK B w x) (hb : But S w w') (hS : ∀ b,b ∈ eiB x -> b ∉ S) : EiOK B w' x:=
 ⟨h.nm.but hb (fun hn=>hS _ (eiB_nm hn)),h.ty.but hb (fun b e=>hS b (eiB_ty e)) (fun b e=>hS b (eiB_zs e)),h.is⟩
structure OE (B : Nat) (w : World) (v : Value) (xs : List (EI × EPl)) : Prop where
 own : w.ownsRow B 70 6 v xs.length (eisC xs)
 ok : ∀ x,x ∈ xs -> EiOK B w x
 nd : (eisB xs).Nodup
theorem OE.names {B : Nat} {w : World} {v : Value} {xs : List (EI × EPl)} (h : OE B w v xs) {b : Nat} (hb : b ∈ eisB xs) : B <= b /\ b < w.heap.size:=by
 obtain ⟨x,hx,hb⟩:=mem_eisB hb
 exact (h.ok x hx).lt hb
theorem own_ei {B : Nat} {w : World} {v : Value} {n size : Nat} {xs : List Value} {t : TypeId} (h : w.ownsRow B t size v n xs) (h1 : t ≠ 9) (h2 : t ≠ 99) {x : EI × EPl} (hx : EiOK B w x) {b : Nat} (hb : b ∈ eiB x) : v.ownBlock ≠ some b:=by
 rcases mem_eiB hb with ⟨hn,rfl⟩ | e | e
 ·exact own_nm h h1 hx.nm hn
 ·exact own_own hx.ty.own h (fun z=>h2 z.symm) e
 ·obtain ⟨y,hy,hyn,rfl⟩:=mem_tisB e
  exact own_nm h h1 (hx.ty.nm y hy) hyn
theorem OE.but {S : List Nat} {B : Nat} {w w' : World} {v : Value} {xs : List (EI × EPl)} (h : OE B w v xs) (hb : But S w w') (h1 : ∀ b,v.ownBlock = some b -> b ∉ S) (h2 : ∀ b,b ∈ eisB xs -> b ∉ S) : OE B w' v xs:=
 ⟨own_block h.own (fun k e=>hb.block k (h.own.lt k e.symm).2 (h1 k e.symm)),fun x hx=>(h.ok x hx).but hb (fun b z=>h2 b (eisB_mem hx z)),h.nd⟩
theorem OE.low {S : List Nat} {B : Nat} {w w' : World} {v : Value} {xs : List (EI × EPl)} (h : OE B w v xs) (hb : But S w w') (hS : ∀ b,b ∈ S -> b < B \/ w.heap.size <= b) : OE B w' v xs:=
 h.but hb (fun b e z=>by have:=h.own.lt b e;have:=hS b z;omega) (fun b e z=>by have:=h.names e;have:=hS b z;omega)
theorem ei_box {B : Nat} {w : World} {x : EI × EPl} {t' : TypeId} {N X : Nat} {f : Nat -> Value} (h : EiOK B w x) (hX : w.rowIs X t' N f) (h1 : 99 ≠ t') (h2 : t' ≠ 9) {b : Nat} (hb : b ∈ eiB x) : b ≠ X:=by
 rcases mem_eiB hb with ⟨hn,rfl⟩ | e | e
 ·exact nm_box h.nm hn hX h2
 ·intro z;subst z;exact own_box h.ty.own hX h1 e
 ·obtain ⟨y,hy,hyn,rfl⟩:=mem_tisB e
  exact nm_box (h.ty.nm y hy) hyn hX h2
theorem OE.box {B : Nat} {w : World} {v : Value} {xs : List (EI × EPl)} {t' : TypeId} {N X : Nat} {f : Nat -> Value} (h : OE B w v xs) (hX : w.rowIs X t' N f) (h1 : 70 ≠ t' /\ 99 ≠ t') (h2 : t' ≠ 9) (u : Value) (k : Nat) : OE B (w.setCell ⟨X,k,none⟩ u) v xs:=
 h.but (S:=[X]) ((But.refl _ _).set (fun _=>by simp) k u) (fun b e z=>own_box h.own hX h1.1 (by rw [e,ms1 z])) (fun b hb z=>by
  obtain ⟨x,hx,hb⟩:=mem_eisB hb
  exact ei_box (h.ok x hx) hX h1.2 h2 hb (ms1 z))
theorem OE.push {B : Nat} {w w3 : World} {v : Value} {xs : List (EI × EPl)} {x : EI × EPl} {o : Obj} {gg cap3 : Nat} (h : OE B w v xs)
  (hown : w3.ownsRow B 70 6 (.slice (some ⟨gg,0,none⟩) (xs.length + 1) cap3) (xs.length + 1) (eisC xs ++ eiC x)) (hg : (w.alloc o).grownBy w3 v.ownBlock) (hx : EiOK B w x) (hn : ∀ b,b ∈ eiB x -> b ∉ eisB xs) (hd : (eiB x).Nodup) :
  OE B w3 (.slice (some ⟨gg,0,none⟩) (xs.length + 1) cap3) (xs ++ [x]):=by
 have hb:=grown_but hg
 have far : ∀ y,EiOK B w y -> EiOK B w3 y:=fun y hy=>hy.but hb (fun b z=>by simp only [Option.mem_toList];exact own_ei h.own (by decide) (by decide) hy z)
 refine ⟨by rw [eisC_snoc,lap];exact hown,fun y hy=>?_,?_⟩
 ·rcases List.mem_append.1 hy with z | z
  ·exact far y (h.ok y z)
  ·rw [ms1 z]
   exact far x hx
 ·rw [eisB_append]
  have e1 : eisB [x] = eiB x:=by simp [eisB]
  rw [e1]
  refine List.nodup_append.2 ⟨h.nd,hd,fun a ha b hb e=>?_⟩
  subst e
  exact hn a hb ha
def ExR (B P tb o : Nat) (ts : List TK) (eT : TypeId) (eV : Value) (w : World) (v : Value) (xs : List (EI × EPl)) (r : Option (List EI × Nat)) (e : Ending) (w' : World) : Prop:=
 But (P :: v.ownBlock.toList) w w' /\ match r with
 | none=>e = .panicked [{ v:=.iface eT eV,recovered:=false }]
 | some (l,j)=>∃ v' ys,e = .returned v' /\ OE B w' v' (xs ++ ys) /\ ys.map Prod.fst = l /\ PsAt w' P tb o j ts eT eV /\ (∀ b,v'.ownBlock = some b -> v.ownBlock = some b \/ w.heap.size <= b) /\ ∀ b,b ∈ eisB ys -> w.heap.size <= b
def ExC (B P tb o : Nat) (ts : List TK) (eT : TypeId) (eV : Value) (f : Nat) : Prop:=
 ∀ (i : Nat) (w : World) (v : Value) (xs : List (EI × EPl)),PsAt w P tb o i ts eT eV -> OE B w v xs -> xs.length <= i -> ts.length - i < f -> B <= w.heap.size -> Calls Tryz.prog 83 #[.pointer (some ⟨P,0,none⟩),v] w (ExR B P tb o ts eT eV w v xs (exP true ts f i))
theorem Tryz.infoEI : (Tryz.prog.info? 70).map (fun i=>(i.zero,i.size,i.bytes)) = some (some (.agg #[.int .i64 0,.int .i64 0,.string ByteArray.empty,.string ByteArray.empty,.slice none 0 0,.slice none 0 0]),6,96):=by kernel_rfl
theorem e_apart {B : Nat} {w : World} {v : Value} {xs : List (EI × EPl)} {kb mb : Nat} {ov : Value} {ord : List (List UInt8)} (h : OE B w v xs) (hk : KnT w kb mb ov ord) (hs : ∀ b,ov.ownBlock = some b -> b ∉ eisB xs) : (∀ b,v.ownBlock = some b -> b ∉ kb :: mb :: ov.ownBlock.toList) /\ ∀ b,b ∈ eisB xs -> b ∉ kb :: mb :: ov.ownBlock.toList:=
 ⟨fun b e=>own_map h.own hk (by decide) (by decide) e,fun b hb=>by
  obtain ⟨x,hx,hbx⟩:=mem_eisB hb
  have ok:=h.ok x hx
  rcases mem_eiB hbx with ⟨hn,rfl⟩ | e | e
  ·exact nm_map ok.nm hn hk (fun e=>hs _ e hb)
  ·exact own_map ok.ty.own hk (by decide) (by decide) e
  ·obtain ⟨y,hy,hyn,rfl⟩:=mem_tisB e
   exact nm_map (ok.ty.nm y hy) hyn hk (fun e=>hs _ e hb)⟩
theorem ex_end {B P tb o : Nat} {ts : List TK} {eT : TypeId} {eV : Value} (hP : P < B) (htb : tb < B) {j : Nat} {w w4 w5 : World} {v v1 : Value} {xs ys : List (EI × EPl)} {x : EI × EPl} {gg cap3 : Nat} {ob : Obj}
  (hot : OE B w4 v1 (xs ++ ys)) (hps : PsAt w4 P tb o j ts eT eV) (hbt : But (P :: v.ownBlock.toList) w w4) (hgr : ∀ b,v1.ownBlock = some b -> v.ownBlock = some b \/ w.heap.size <= b)
  (hown : w5.ownsRow B 70 6 (.slice (some ⟨gg,0,none⟩) ((xs ++ ys).length + 1) cap3) ((xs ++ ys).length + 1) (eisC (xs ++ ys) ++ eiC x)) (hg : (w4.alloc ob).grownBy w5 v1.ownBlock) (hat : v1.ownBlock = some gg \/ gg = w4.heap.size + 1)
  (hx : EiOK B w4 x) (hn : ∀ b,b ∈ eiB x -> b ∉ eisB (xs ++ ys)) (hd : (eiB x).Nodup) (hnew : ∀ b,b ∈ eisB ys -> w.heap.size <= b) (hxn : ∀ b,b ∈ eiB x -> w.heap.size <= b) :
  ExR B P tb o ts eT eV w v xs (some (ys.map Prod.fst ++ [x.1],j)) (.returned (.slice (some ⟨gg,0,none⟩) ((xs ++ ys).length + 1) cap3)) w5:=by
 have b5:=grown_but hg
 have low : ∀ k,k < B -> k ∉ v1.ownBlock.toList:=fun k hk z=>by
  have:=hot.own.lt k (by simpa using z)
  omega
 have p0:=hps.pos
 refine ⟨hbt.trans b5 (fun k z hk=>?_),_,ys ++ [x],rfl,?_,by simp,hps.but b5 (low P hP) (low tb htb) (low 0 (by omega)),fun b e=>?_,fun b hb=>?_⟩
 ·rcases hgr k (by simpa using z) with q | q
  ·simp [q]
  ·omega
 ·rw [<- List.append_assoc]
  exact hot.push hown hg hx hn hd
 ·have eb : gg = b:=by simpa [Value.ownBlock] using e
  subst eb
  rcases hat with q | q
  ·exact hgr gg q
  ·have:=hbt.size
   exact Or.inr (by omega)
 ·rw [eisB_append] at hb
  rcases List.mem_append.1 hb with z | z
  ·exact hnew b z
  ·exact hxn b (by simpa [eisB] using z)
theorem ei_bare (B : Nat) (w : World) {x : EI} (h1 : x.ns = []) (h2 : x.ty = []) : EiOK B w (x,ep0) /\ eiB (x,ep0) = []:=by
 refine ⟨⟨by show NmOK B w x.ns _;rw [h1];exact NmOK.nil _ _ _,OT.nil _ _,by show [] = x.ty;rw [h2]⟩,?_⟩
 unfold eiB ep0
 rw [if_pos h1]
 rfl
def EPtR (B P tb o : Nat) (ts : List TK) (eT : TypeId) (eV : Value) (X : Nat) (w : World) (v : Value) (xs : List (EI × EPl)) (r : Option (List EI × Nat)) (e : Ending) (w' : World) : Prop:=
 But (P :: X :: v.ownBlock.toList) w w' /\ match r with
 | none=>e = .panicked [{ v:=.iface eT eV,recovered:=false }]
 | some (l,j)=>∃ v' ys,e = .returned (.tuple #[]) /\ w'.rowIs X 44 1 (fun _=>v') /\ OE B w' v' (xs ++ ys) /\ ys.map Prod.fst = l /\ PsAt w' P tb o j ts eT eV /\ (∀ b,v'.ownBlock = some b -> v.ownBlock = some b \/ w.heap.size <= b) /\ ∀ b,b ∈ eisB ys -> w.heap.size <= b
theorem e_part {B P tb o : Nat} {ts : List TK} {eT : TypeId} {eV : Value} {f : Nat} (IH : ExC B P tb o ts eT eV f) {i Q X : Nat} {w : World} {v : Value} {xs : List (EI × EPl)} (hps : PsAt w P tb o i ts eT eV) (hQ : w.rowIs Q 79 1 (fun _=>.pointer (some ⟨P,0,none⟩))) (hX : w.rowIs X 44 1 (fun _=>v)) (hot : OE B w v xs) (hxi : xs.length <= i) (hf : ts.length - i < f) (hB : B <= w.heap.size) (hPX : P ≠ X) (htX : tb ≠ X) (hX0 : 0 ≠ X) :
  Calls Tryz.prog 158 #[.pointer (some ⟨Q,0,none⟩),.pointer (some ⟨X,0,none⟩)] w (EPtR B P tb o ts eT eV X w v xs (exP true ts f i)):=by
 have cq:=hQ.cell (i:=0) (by omega)
 have cx:=hX.cell (i:=0) (by omega)
 have nX : v.ownBlock ≠ some X:=own_box hot.own hX (by decide)
 have HIH:=IH i w v xs hps hot hxi hf hB
 have HOT : Hid (OE B w v xs):=hot
 clear IH hps hot
 go_enter Tryz.func158,Tryz.ntmps158
 go_wp2_with fail
 refine HIH.mono ?_
 clear HIH
 intro e w1 hT
 obtain ⟨b1,hT⟩:=hT
 obtain ⟨r,hr⟩:=xe (exP true ts f i)
 have HR : Hid (exP true ts f i = r):=hr.symm
 rw [<- hr] at hT
 clear hr
 have HB1 : Hid (But (P :: X :: v.ownBlock.toList) w w1):=b1.more (fun k z=>by simp only [List.mem_cons] at z ⊢;exact z.imp_right Or.inr)
 have RX1:=hX.of_block (b1.block X hX.lt (fun z=>by
  simp only [List.mem_cons,Option.mem_toList] at z
  rcases z with z | z
  ·exact hPX z.symm
  ·exact nX z))
 cases r with
 | none=>
   have hT : e = .panicked [{ v:=.iface eT eV,recovered:=false }]:=hT
   subst hT
   clear b1
   go_wp2
   exact ⟨rfl,by rw [HR.out];exact ⟨HB1.out,rfl⟩⟩
 | some r=>
   obtain ⟨l,j⟩:=r
   obtain ⟨v',ys,rfl,O1,hl,P1,gr,nw⟩:=hT
   have HY : Hid (ys.map Prod.fst = l):=hl
   have HGR : Hid (∀ b,v'.ownBlock = some b -> v.ownBlock = some b \/ w.heap.size <= b):=gr
   have HNW : Hid (∀ b,b ∈ eisB ys -> w.heap.size <= b):=nw
   obtain ⟨va',vc',hv'⟩:=own_form O1.own
   obtain ⟨n',hn'⟩:=xe ((xs ++ ys).length)
   rw [<- hn'] at hv'
   subst hv'
   clear hn' hl gr nw b1
   have cx1:=RX1.cell (i:=0) (by omega)
   have cf1:=RX1.frozen 0
   have b12 : But [X] w1 (w1.setCell ⟨X,0,none⟩ (.slice va' n' vc')):=(But.refl _ _).set (fun _=>by simp) 0 _
   have HB2 : Hid (But (P :: X :: v.ownBlock.toList) w (w1.setCell ⟨X,0,none⟩ (.slice va' n' vc'))):=HB1.out.trans b12 (fun k z _=>by rw [ms1 z];simp)
   have HP2 : Hid (PsAt (w1.setCell ⟨X,0,none⟩ (.slice va' n' vc')) P tb o j ts eT eV):=P1.but b12 (by simpa using hPX) (by simpa using htX) (by simpa using hX0)
   have HO2 : Hid (OE B (w1.setCell ⟨X,0,none⟩ (.slice va' n' vc')) (.slice va' n' vc') (xs ++ ys)):=O1.box RX1 (by decide) (by decide) _ _
   have HX2 : Hid ((w1.setCell ⟨X,0,none⟩ (.slice va' n' vc')).rowIs X 44 1 (fun _=>.slice va' n' vc')):=(RX1.set 0 _).congr (fun k hk=>by
    match k,hk with
    | 0,_=>rfl)
   clear b12 O1 P1 RX1
   go_wp2
   go_end0
   rw [HR.out]
   exact ⟨HB2.out,_,ys,rfl,HX2.out,HO2.out,HY.out,HP2.out,HGR.out,HNW.out⟩
def EFdR (B P tb o : Nat) (ts : List TK) (eT : TypeId) (eV : Value) (X : Nat) (w : World) (v : Value) (xs : List (EI × EPl)) (r : Option (List EI × List ByteArray × Nat)) (e : Ending) (w' : World) : Prop:=
 But (P :: X :: v.ownBlock.toList) w w' /\ match r with
 | none=>e = .panicked [{ v:=.iface eT eV,recovered:=false }]
 | some (l,ns,j)=>∃ v' ys p,e = .returned (.slice p.a ns.length p.c) /\ w'.rowIs X 44 1 (fun _=>v') /\ OE B w' v' (xs ++ ys) /\ ys.map Prod.fst = l /\ PsAt w' P tb o j ts eT eV /\ (∀ b,v'.ownBlock = some b -> v.ownBlock = some b \/ w.heap.size <= b) /\ (∀ b,b ∈ eisB ys -> w.heap.size <= b) /\ NmOK w.heap.size w' ns p /\ (ns ≠ [] -> p.b ∉ eisB (xs ++ ys))
structure EFL (B P tb o : Nat) (ts : List TK) (eT : TypeId) (eV : Value) (Q X : Nat) (w : World) (v : Value) (xs : List (EI × EPl)) (T : Nat -> Option (List EI × Nat)) (i : Nat) (wr : World) (j g : Nat) (ns : List ByteArray) (v1 : Value) (ys : List (EI × EPl)) (ov : Value) : Prop where
 eq : fldsP ts T sEq i = floop ts T sEq g j ns (ys.map Prod.fst)
 fuel : ts.length < g + j
 ps : PsAt wr P tb o j ts eT eV
 rq : wr.rowIs Q 79 1 (fun _=>.pointer (some ⟨P,0,none⟩))
 rx : wr.rowIs X 44 1 (fun _=>v1)
 ot : OE B wr v1 (xs ++ ys)
 gr : ∀ b,v1.ownBlock = some b -> v.ownBlock = some b \/ w.heap.size <= b
 nw : ∀ b,b ∈ eisB ys -> w.heap.size <= b
 but : But (P :: X :: v.ownBlock.toList) w wr
 kn : KnT wr (w.heap.size + 1) w.heap.size ov (ns.map fun s=>s.data.toList)
 sep : ∀ b,ov.ownBlock = some b -> b ∉ eisB (xs ++ ys)
 len : (xs ++ ys).length <= j
 nl : ns.length <= j
 far : i <= j
theorem EFL.named {B P tb o : Nat} {ts : List TK} {eT : TypeId} {eV : Value} {Q X : Nat} {w : World} {v : Value} {xs : List (EI × EPl)} {T : Nat -> Option (List EI × Nat)} {i : Nat} {wr w1 w2 : World} {j g : Nat} {ns : List ByteArray} {v1 : Value} {ys : List (EI × EPl)} {ov : Value} (h : EFL B P tb o ts eT eV Q X w v xs T i wr j g ns v1 ys ov) (hP : P < B) (htb : tb < B) (hB : B <= w.heap.size) (hXw : X < w.heap.size) (hQw : Q < w.heap.size) (hXB : B <= X) (hQB : B <= Q)
  (b1 : But [P] wr w1) (p1 : PsAt w1 P tb o (j + 1) ts eT eV) (b2 : But ((w.heap.size + 1) :: w.heap.size :: ov.ownBlock.toList) w1 w2) :
  PsAt w2 P tb o (j + 1) ts eT eV /\ w2.rowIs Q 79 1 (fun _=>.pointer (some ⟨P,0,none⟩)) /\ w2.rowIs X 44 1 (fun _=>v1) /\ OE B w2 v1 (xs ++ ys) /\ But (P :: X :: v.ownBlock.toList) w w2:=by
 obtain ⟨i1,i2,i3⟩:=h.kn.ids
 have kK : ∀ k,k < w.heap.size -> k ∉ (w.heap.size + 1) :: w.heap.size :: ov.ownBlock.toList:=fun k hk z=>by
  simp only [List.mem_cons,Option.mem_toList] at z
  rcases z with z | z | z
  ·omega
  ·omega
  ·have:=(i3 k z).1;omega
 have p0:=p1.pos
 have o1 : OE B w1 v1 (xs ++ ys):=h.ot.low b1 (fun b z=>by rw [ms1 z];exact Or.inl hP)
 have k1 : KnT w1 (w.heap.size + 1) w.heap.size ov (ns.map fun s=>s.data.toList):=h.kn.but b1 (by simp;omega) (by simp;omega) (fun b e=>by have:=(i3 b e).1;simp;omega)
 obtain ⟨a1,a2⟩:=e_apart o1 k1 h.sep
 refine ⟨p1.but b2 (kK P (by omega)) (kK tb (by omega)) (kK 0 (by omega)),(h.rq.of_block (b1.block Q h.rq.lt (by simp;omega))).of_block (b2.block Q (Nat.lt_of_lt_of_le h.rq.lt b1.size) (kK Q hQw)),(h.rx.of_block (b1.block X h.rx.lt (by simp;omega))).of_block (b2.block X (Nat.lt_of_lt_of_le h.rx.lt b1.size) (kK X hXw)),o1.but b2 a1 a2,?_⟩
 exact (h.but.trans b1 (fun k z _=>by rw [ms1 z];simp)).trans b2 (fun k z hk=>absurd z (kK k hk))
theorem EFL.parted {B P X : Nat} {w : World} {v : Value} {xs : List (EI × EPl)} {w3 w4 : World} {v1 v2 : Value} {ys zs : List (EI × EPl)} {ov : Value} {ord : List (List UInt8)} (hP : P < B) (hB : B <= w.heap.size) (hXw : X < w.heap.size)
  (o3 : OE B w3 v1 (xs ++ ys)) (k3 : KnT w3 (w.heap.size + 1) w.heap.size ov ord) (s3 : ∀ b,ov.ownBlock = some b -> b ∉ eisB (xs ++ ys)) (g3 : ∀ b,v1.ownBlock = some b -> v.ownBlock = some b \/ w.heap.size <= b) (n3 : ∀ b,b ∈ eisB ys -> w.heap.size <= b) (b3 : But (P :: X :: v.ownBlock.toList) w w3)
  (b4 : But (P :: X :: v1.ownBlock.toList) w3 w4) (g4 : ∀ b,v2.ownBlock = some b -> v1.ownBlock = some b \/ w3.heap.size <= b) (n4 : ∀ b,b ∈ eisB zs -> w3.heap.size <= b) :
  KnT w4 (w.heap.size + 1) w.heap.size ov ord /\ (∀ b,ov.ownBlock = some b -> b ∉ eisB (xs ++ (ys ++ zs))) /\ (∀ b,v2.ownBlock = some b -> v.ownBlock = some b \/ w.heap.size <= b) /\ (∀ b,b ∈ eisB (ys ++ zs) -> w.heap.size <= b) /\ But (P :: X :: v.ownBlock.toList) w w4:=by
 obtain ⟨i1,i2,i3⟩:=k3.ids
 obtain ⟨a1,_⟩:=e_apart o3 k3 s3
 have s:=b3.size
 have kn : ∀ k,k ∈ (w.heap.size + 1) :: w.heap.size :: ov.ownBlock.toList -> k ∉ P :: X :: v1.ownBlock.toList:=fun k hk z=>by
  have hk9 : w.heap.size <= k:=by
   simp only [List.mem_cons,Option.mem_toList] at hk
   rcases hk with q | q | q
   ·omega
   ·omega
   ·have:=(i3 k q).1;omega
  simp only [List.mem_cons,Option.mem_toList] at z
  rcases z with z | z | z
  ·omega
  ·omega
  ·exact a1 k z hk
 refine ⟨k3.but b4 (kn _ (by simp)) (kn _ (by simp)) (fun b e=>kn b (by simp [e])),fun b e z=>?_,fun b e=>?_,fun b z=>?_,b3.trans b4 (fun k z hk=>?_)⟩
 ·rw [<- List.append_assoc,eisB_append] at z
  rcases List.mem_append.1 z with q | q
  ·exact s3 b e q
  ·have:=n4 b q
   have:=(i3 b e).2
   omega
 ·rcases g4 b e with q | q
  ·exact g3 b q
  ·exact Or.inr (by omega)
 ·rw [eisB_append] at z
  rcases List.mem_append.1 z with q | q
  ·exact n3 b q
  ·have:=n4 b q
   omega
 ·simp only [List.mem_cons,Option.mem_toList] at z ⊢
  rcases z with z | z | z
  ·exact Or.inl z
  ·exact Or.inr (Or.inl z)
  ·rcases g3 k z with q | q
   ·exact Or.inr (Or.inr q)
   ·omega
theorem e_fields {B P tb o : Nat} {ts : List TK} {eT : TypeId} {eV : Value} {f : Nat} (IH : ExC B P tb o ts eT eV f) (hP : P < B) (htb : tb < B) {i Q X : Nat} {w : World} {v : Value} {xs : List (EI × EPl)} (hps : PsAt w P tb o i ts eT eV) (hQ : w.rowIs Q 79 1 (fun _=>.pointer (some ⟨P,0,none⟩))) (hX : w.rowIs X 44 1 (fun _=>v)) (hot : OE B w v xs) (hxi : xs.length <= i) (hf : ts.length - i < f) (hB : B <= w.heap.size) (hXB : B <= X) (hQB : B <= Q) :
  Calls Tryz.prog 138 #[.pointer (some ⟨P,0,none⟩),.string ⟨#[61]⟩,.func (.func 158) #[] #[.pointer (some ⟨Q,0,none⟩),.pointer (some ⟨X,0,none⟩)]] w (EFdR B P tb o ts eT eV X w v xs (fldsP ts (exP true ts f) sEq i)):=by
 have HIH : Hid (ExC B P tb o ts eT eV f):=IH
 have hXw:=hX.lt
 have hQw:=hQ.lt
 have hn:=hps.tk.len
 have h0:=hps.pos
 have HPS : Hid (PsAt w P tb o i ts eT eV):=hps
 have HOT : Hid (OE B w v xs):=hot
 have HQ : Hid (w.rowIs Q 79 1 (fun _=>.pointer (some ⟨P,0,none⟩))):=hQ
 have HX : Hid (w.rowIs X 44 1 (fun _=>v)):=hX
 clear IH hps hot hQ hX
 go_enter Tryz.func138,Tryz.ntmps138
 go_wp2_with fail
 refine (kt_new w).mono ?_
 rintro e w1 ⟨rfl,hk1,b1⟩
 have HK1 : Hid (KnT w1 (w.heap.size + 1) w.heap.size (.slice none 0 0) []):=hk1
 have HP1 : Hid (PsAt w1 P tb o i ts eT eV):=HPS.out.but b1 (by simp) (by simp) (by simp)
 have HB1 : Hid (But [] w w1):=b1
 clear hk1 b1
 go_wp2_with fail
 cases hs : isT ts i sShut
 case true=>
  refine (p_comes ⟨#[125]⟩ w1 HP1.out hs).mono ?_
  rintro e w2 ⟨rfl,p2,b2⟩
  have HR : Hid (fldsP ts (exP true ts f) sEq i = some ([],[],i + 1)):=by show _ = _;unfold fldsP;rw [if_pos hs]
  have K2 : KnT w2 (w.heap.size + 1) w.heap.size (.slice none 0 0) (([] : List ByteArray).map fun s=>s.data.toList):=HK1.out.but b2 (by simp;omega) (by simp;omega) (fun b e=>by cases e)
  obtain ⟨p,e1,c1,_,_⟩:=kn_names K2
  have HB2 : Hid (But [P] w w2):=(HB1.out.more (S':=[P]) (fun _ z=>by simp at z)).then_ b2
  have HFIN : Hid (EFdR B P tb o ts eT eV X w v xs (some ([],[],i + 1)) (.returned (.slice none 0 0)) w2):=by
   refine ⟨HB2.out.more (fun k z=>by rw [ms1 z];simp),v,[],⟨none,0,0⟩,rfl,HX.out.of_block (HB2.out.block X hXw (by simp;omega)),?_,rfl,p2,fun b e=>Or.inl e,(fun b z=>by cases z),NmOK.nil _ _ _,fun h=>absurd rfl h⟩
   rw [List.append_nil]
   exact HOT.out.low HB2.out (fun b z=>by rw [ms1 z];exact Or.inl hP)
  clear hs p2 b2 K2 e1
  go_wp2
  go_ret
  rw [HR.out]
  exact HFIN.out
 refine (p_comes_no ⟨#[125]⟩ w1 HP1.out hs).mono ?_
 rintro e w2 ⟨rfl,rfl⟩
 have HL : Hid (EFL B P tb o ts eT eV Q X w v xs (exP true ts f) i w1 i (ts.length + 1) [] v [] (.slice none 0 0)):=by
  refine ⟨by unfold fldsP;rw [hs];rfl,by omega,HP1.out,HQ.out.of_block (HB1.out.block Q hQw (by simp)),HX.out.of_block (HB1.out.block X hXw (by simp)),?_,fun b e=>Or.inl e,(fun b z=>by cases z),HB1.out.more (fun k z=>by simp at z),HK1.out,(fun b e=>by cases e),by simpa using hxi,Nat.zero_le _,nlr _⟩
  rw [List.append_nil]
  exact HOT.out.low HB1.out (fun b z=>by simp at z)
 clear hs HK1 HP1 HB1
 go_wp2
 go_loopw [8] (fun _ wr=>∃ (j g : Nat) (ns : List ByteArray) (v1 : Value) (ys : List (EI × EPl)) (ov : Value),Hid (EFL B P tb o ts eT eV Q X w v xs (exP true ts f) i wr j g ns v1 ys ov)) (fun _ wr=>lenAt wr P 0)
 case atStart=>exact ⟨i,ts.length + 1,[],v,[],.slice none 0 0,HL⟩
 case round=>
  obtain ⟨j,g,ns,v1,ys,ov,H⟩:=hrel
  clear HL
  have hjn:=H.out.ps.le
  have hg : 0 < g:=by have:=H.out.fuel;omega
  have HEQ : Hid (fldsP ts (exP true ts f) sEq i = _):=H.out.eq.trans (floop_go hg)
  have HME : Hid (lenAt wr P 0 = ts.length - j):=ps_len H.out.ps
  go_wp2_with fail
  cases hc : isC ts j 1
  case false=>
   have HR : Hid (fldsP ts (exP true ts f) sEq i = none):=by show _ = _;rw [HEQ.out,hc];rfl
   refine (p_name_no wr H.out.ps hc).mono ?_
   rintro e w1 ⟨rfl,b1⟩
   have HBB : Hid (But (P :: X :: v.ownBlock.toList) w w1):=H.out.but.trans b1 (fun k z _=>by rw [ms1 z];simp)
   clear hc b1
   go_wp2
   exact ⟨rfl,by rw [HR.out];exact ⟨HBB.out,rfl⟩⟩
  refine (p_name wr H.out.ps hc).mono ?_
  rintro e w1 ⟨rfl,p1,b1⟩
  have hjl:=isC_lt hc
  go_wp2_with fail
  have hsz : (tx ts j).data.toList.length <= maxLen:=by
   have:=H.out.ps.tk.sz j hjl
   rw [tx_at hjl]
   unfold maxLen
   show (tkA ts j).txt.data.size <= _
   have e : (tkA ts j).txt.data.size = (tkA ts j).txt.size:=rfl
   omega
  have K1 : KnT w1 (w.heap.size + 1) w.heap.size ov (ns.map fun s=>s.data.toList):=H.out.kn.but b1 (by simp;omega) (by simp;omega) (fun b e=>by have:=(H.out.kn.ids.2.2 b e).1;simp;omega)
  have hnl:=H.out.nl
  have CN:=kt_number (w.heap.size + 1) w.heap.size ov (ns.map fun s=>s.data.toList) (tx ts j).data.toList w1 K1 hsz (by rw [List.length_map];omega)
  rw [bytes_eta,has_contains] at CN
  refine CN.mono ?_
  clear CN
  rintro e w2 ⟨xx,ov',rfl,K2,b2,go2⟩
  obtain ⟨P2,Q2,X2,O2,B2⟩:=H.out.named hP htb hB hXw hQw hXB hQB b1 p1 b2
  have HB2 : Hid (But (P :: X :: v.ownBlock.toList) w w2):=B2
  have hev:=P2.ev
  have hs2 : w1.heap.size <= w2.heap.size:=b2.size
  have hs1 : wr.heap.size <= w1.heap.size:=b1.size
  cases hh : hasN ns (tx ts j)
  case true=>
   have HR : Hid (fldsP ts (exP true ts f) sEq i = none):=by show _ = _;rw [HEQ.out,hc,hh];rfl
   clear hc hh p1 b1 K1 b2 go2 P2 Q2 X2 O2 B2 K2
   go_wp2
   exact ⟨rfl,by rw [HR.out];exact ⟨HB2.out,rfl⟩⟩
  have HOV : Hid (KnT w2 (w.heap.size + 1) w.heap.size ov' ((ns ++ [tx ts j]).map fun s=>s.data.toList)):=by
   have e : addS (ns.map fun s=>s.data.toList) (tx ts j).data.toList = (ns ++ [tx ts j]).map fun s=>s.data.toList:=by
    unfold addS
    rw [has_contains,hh]
    simp
   rw [e] at K2
   exact K2
  have HSP : Hid (∀ b,ov'.ownBlock = some b -> b ∉ eisB (xs ++ ys)):=fun b e=>by
   rcases go2 b e with q | q
   ·exact H.out.sep b q
   ·intro z
    have:=(H.out.ot.names z).2
    omega
  have HQ2 : Hid (w2.rowIs Q 79 1 (fun _=>.pointer (some ⟨P,0,none⟩))):=Q2
  have HX2 : Hid (w2.rowIs X 44 1 (fun _=>v1)):=X2
  have HO2 : Hid (OE B w2 v1 (xs ++ ys)):=O2
  have HP2 : Hid (PsAt w2 P tb o (j + 1) ts eT eV):=P2
  clear p1 b1 K1 b2 go2 P2 Q2 X2 O2 B2 K2 hev
  go_wp2_with fail
  cases hsg : isT ts (j + 1) sEq
  case false=>
   have HR : Hid (fldsP ts (exP true ts f) sEq i = none):=by show _ = _;rw [HEQ.out,hc,hh,hsg];rfl
   refine (p_need_no ⟨#[61]⟩ w2 HP2.out hsg).mono ?_
   rintro e w3 ⟨rfl,rfl⟩
   clear hc hh hsg
   go_wp2
   exact ⟨rfl,by rw [HR.out];exact ⟨HB2.out,rfl⟩⟩
  refine (p_need ⟨#[61]⟩ w2 HP2.out hsg).mono ?_
  rintro e w3 ⟨rfl,p3,b3⟩
  have HP3 : Hid (PsAt w3 P tb o (j + 2) ts eT eV):=p3
  have HQ3 : Hid (w3.rowIs Q 79 1 (fun _=>.pointer (some ⟨P,0,none⟩))):=HQ2.out.of_block (b3.block Q HQ2.out.lt (by simp;omega))
  have HX3 : Hid (w3.rowIs X 44 1 (fun _=>v1)):=HX2.out.of_block (b3.block X HX2.out.lt (by simp;omega))
  have HO3 : Hid (OE B w3 v1 (xs ++ ys)):=HO2.out.low b3 (fun b z=>by rw [ms1 z];exact Or.inl hP)
  have HB3 : Hid (But (P :: X :: v.ownBlock.toList) w w3):=HB2.out.trans b3 (fun k z _=>by rw [ms1 z];simp)
  have HK3 : Hid (KnT w3 (w.heap.size + 1) w.heap.size ov' ((ns ++ [tx ts j]).map fun s=>s.data.toList)):=HOV.out.but b3 (by simp;omega) (by simp;omega) (fun b e=>by have:=(HOV.out.ids.2.2 b e).1;simp;omega)
  have hs3 : w2.heap.size <= w3.heap.size:=b3.size
  have hsw : w.heap.size <= w3.heap.size:=HB3.out.size
  have hlen:=H.out.len
  have hfar:=H.out.far
  clear p3 b3 HQ2 HX2 HO2 HB2 HOV HP2
  go_wp2_with fail
  refine (e_part HIH.out HP3.out HQ3.out HX3.out HO3.out (by omega) (by omega) (by omega) (by omega) (by omega) (by omega)).mono ?_
  intro e w4 hT
  obtain ⟨b4,hT⟩:=hT
  obtain ⟨r,hr⟩:=xe (exP true ts f (j + 2))
  have HRT : Hid (exP true ts f (j + 2) = r):=hr.symm
  rw [<- hr] at hT
  clear hr
  cases r with
  | none=>
    have hT : e = .panicked [{ v:=.iface eT eV,recovered:=false }]:=hT
    subst hT
    have HR : Hid (fldsP ts (exP true ts f) sEq i = none):=by show _ = _;rw [HEQ.out,hc,hh,hsg,HRT.out];rfl
    have HB4 : Hid (But (P :: X :: v.ownBlock.toList) w w4):=(EFL.parted hP hB hXw HO3.out HK3.out HSP.out H.out.gr H.out.nw HB3.out b4 (v2:=.slice none 0 0) (zs:=[]) (fun b e=>by cases e) (fun b z=>by cases z)).2.2.2.2
    clear hc hh hsg b4
    go_wp2
    exact ⟨rfl,by rw [HR.out];exact ⟨HB4.out,rfl⟩⟩
  | some r=>
    obtain ⟨l,k⟩:=r
    obtain ⟨v2,zs,rfl,X4,O4,hl,P4,g4,n4⟩:=hT
    obtain ⟨K4,S4,G4,N4,B4⟩:=EFL.parted hP hB hXw HO3.out HK3.out HSP.out H.out.gr H.out.nw HB3.out b4 g4 n4
    obtain ⟨f1,f2,f3⟩:=ex_far f _ _ _ HRT.out
    have hzl : zs.length = l.length:=by rw [<- hl,List.length_map]
    have hlen4 : (xs ++ (ys ++ zs)).length <= k:=by
     simp only [lap] at hlen ⊢
     omega
    have HY : Hid ((ys ++ zs).map Prod.fst = ys.map Prod.fst ++ l):=by show _ = _;rw [List.map_append,hl]
    have HQ4 : Hid (w4.rowIs Q 79 1 (fun _=>.pointer (some ⟨P,0,none⟩))):=HQ3.out.of_block (b4.block Q HQ3.out.lt (fun z=>by
     simp only [List.mem_cons,Option.mem_toList] at z
     rcases z with z | z | z
     ·omega
     ·have r1:=HQ3.out
      have r2:=HX3.out
      obtain ⟨c1,q1,_⟩:=r1
      obtain ⟨c2,q2,_⟩:=r2
      rw [z,q2] at q1
      simp only [Option.some.injEq,Obj.cells.injEq] at q1
      exact absurd q1.2.1 (by decide)
     ·exact own_box HO3.out.own HQ3.out (by decide) z))
    rw [List.append_assoc] at O4
    have HX4 : Hid (w4.rowIs X 44 1 (fun _=>v2)):=X4
    have HO4 : Hid (OE B w4 v2 (xs ++ (ys ++ zs))):=O4
    have HP4 : Hid (PsAt w4 P tb o k ts eT eV):=P4
    have HK4 : Hid (KnT w4 (w.heap.size + 1) w.heap.size ov' ((ns ++ [tx ts j]).map fun s=>s.data.toList)):=K4
    have HS4 : Hid (∀ b,ov'.ownBlock = some b -> b ∉ eisB (xs ++ (ys ++ zs))):=S4
    have HG4 : Hid (∀ b,v2.ownBlock = some b -> v.ownBlock = some b \/ w.heap.size <= b):=G4
    have HN4 : Hid (∀ b,b ∈ eisB (ys ++ zs) -> w.heap.size <= b):=N4
    have HB4 : Hid (But (P :: X :: v.ownBlock.toList) w w4):=B4
    clear X4 O4 hl P4 g4 n4 K4 S4 G4 N4 B4 b4 HQ3 HX3 HO3 HK3 HB3 HP3 HSP
    go_wp2_with fail
    cases hsh : isT ts k sShut
    case true=>
     refine (p_comes ⟨#[125]⟩ w4 HP4.out hsh).mono ?_
     rintro e w5 ⟨rfl,p5,b5⟩
     have HR : Hid (fldsP ts (exP true ts f) sEq i = some (ys.map Prod.fst ++ l,ns ++ [tx ts j],k + 1)):=by
      show _ = _
      rw [HEQ.out,hc,hh,hsg,HRT.out]
      show (if isT ts k sShut = true then _ else _) = _
      rw [hsh]
      rfl
     have K5:=HK4.out.but b5 (by simp;omega) (by simp;omega) (fun b e=>by have:=(HK4.out.ids.2.2 b e).1;simp;omega)
     obtain ⟨p,ep,cp,np,bp⟩:=kn_names K5
     have HB5 : Hid (But (P :: X :: v.ownBlock.toList) w w5):=HB4.out.trans b5 (fun k z _=>by rw [ms1 z];simp)
     have HFIN : Hid (EFdR B P tb o ts eT eV X w v xs (some (ys.map Prod.fst ++ l,ns ++ [tx ts j],k + 1)) (.returned ov') w5):=by
      refine ⟨HB5.out,v2,ys ++ zs,p,by rw [ep],HX4.out.of_block (b5.block X HX4.out.lt (by simp;omega)),HO4.out.low b5 (fun b z=>by rw [ms1 z];exact Or.inl hP),HY.out,p5,HG4.out,HN4.out,np.base (by omega),fun hne z=>?_⟩
      exact HS4.out _ (bp hne) z
     rw [ep] at cp
     have hep : ov' = .slice p.a (ns ++ [tx ts j]).length p.c:=ep
     obtain ⟨m9,hm9⟩:=xe ((ns ++ [tx ts j]).length)
     have HOVE : Hid (ov' = .slice p.a m9 p.c):=by show _ = _;rw [hep,hm9]
     rw [<- hm9] at cp
     clear hc hh hsg hsh p5 b5 K5 ep np bp hep hm9
     go_wp2
     go_ret
     rw [HR.out]
     have z:=HFIN.out
     rw [HOVE.out] at z
     exact z
    refine (p_comes_no ⟨#[125]⟩ w4 HP4.out hsh).mono ?_
    rintro e w5 ⟨rfl,rfl⟩
    go_wp2_with fail
    cases hcm : isT ts k sComma
    case false=>
     have HR : Hid (fldsP ts (exP true ts f) sEq i = none):=by
      show _ = _
      rw [HEQ.out,hc,hh,hsg,HRT.out]
      show (if isT ts k sShut = true then _ else if isT ts k sComma = true then _ else _) = _
      rw [hsh,hcm]
      rfl
     refine (p_need_no ⟨#[44]⟩ w4 HP4.out hcm).mono ?_
     rintro e w6 ⟨rfl,rfl⟩
     clear hc hh hsg hsh hcm
     go_wp2
     exact ⟨rfl,by rw [HR.out];exact ⟨HB4.out,rfl⟩⟩
    refine (p_need ⟨#[44]⟩ w4 HP4.out hcm).mono ?_
    rintro e w6 ⟨rfl,p6,b6⟩
    have HL : Hid (EFL B P tb o ts eT eV Q X w v xs (exP true ts f) i w6 (k + 1) (g - 1) (ns ++ [tx ts j]) v2 (ys ++ zs) ov'):=by
     refine ⟨?_,by have:=H.out.fuel;omega,p6,HQ4.out.of_block (b6.block Q HQ4.out.lt (by simp;omega)),HX4.out.of_block (b6.block X HX4.out.lt (by simp;omega)),HO4.out.low b6 (fun b z=>by rw [ms1 z];exact Or.inl hP),HG4.out,HN4.out,HB4.out.trans b6 (fun k z _=>by rw [ms1 z];simp),HK4.out.but b6 (by simp;omega) (by simp;omega) (fun b e=>by have:=(HK4.out.ids.2.2 b e).1;simp;omega),HS4.out,by omega,by simp;omega,by omega⟩
     rw [HEQ.out,hc,hh,hsg,HRT.out,HY.out]
     show (if isT ts k sShut = true then _ else if isT ts k sComma = true then _ else _) = _
     rw [hsh,hcm]
     rfl
    have HM6 : Hid (lenAt w6 P 0 = ts.length - (k + 1)):=ps_len p6
    clear hc hh hsg hsh hcm p6 b6 HQ4 HX4 HO4 HP4 HK4 HS4 HG4 HN4 HB4
    go_wp2
    go_roundw
    case rel=>exact ⟨k + 1,g - 1,ns ++ [tx ts j],v2,ys ++ zs,ov',HL⟩
    case measure=>rw [HM6.out,HME.out];omega
end Go.Proofs.YtcehppndpccldaaGreatDoor
