/-
  PcC PcD PcE
-/
import Derived.Test.YtihedobejcaapaaGreatDoorA6
set_option maxHeartbeats 4000000
set_option maxRecDepth 100000
namespace Go.Proofs.YtihedobejcaapaaGreatDoor
open Go.RowKit
def dW (w : World) (b o : Nat) : Nat:=match w.cell? ⟨b,o,none⟩ with
 | some (.slice _ n _)=>n
 | _=>0
theorem fC {w : World} {P tb o i : Nat} {ts : List TK} {eT : TypeId} {eV : Value} (h : ag w P tb o i ts eT eV) : dW w P 0 = ts.length - i:=by
 obtain ⟨b,c,a,_⟩:=h.box;unfold dW;rw [a.cell (i:=0) (by omega)]
theorem qP {B B' : Nat} {w : World} {v v' : Value} {n n' size size' : Nat} {xs xs' : List Value} {t t' : TypeId} (h : w.ownsRow B t size v n xs) (h' : w.ownsRow B' t' size' v' n' xs') (hne : t ≠ t') {b : Nat} (e : v.ownBlock = some b) : v'.ownBlock ≠ some b:=fun e'=>by
 rcases h.2 with ⟨rfl,rfl⟩ | ⟨g,cap,cur,rfl,_,hh,_⟩
 ·cases e
 ·rcases h'.2 with ⟨rfl,rfl⟩ | ⟨g',cap',cur',rfl,_,hh',_⟩
  ·cases e'
  ·have e1 : g = b:=by simpa [Value.ownBlock] using e
   have a : g' = b:=by simpa [Value.ownBlock] using e'
   rw [e1] at hh;rw [a,hh] at hh';simp only [Option.some.injEq,Obj.cells.injEq] at hh';exact hne hh'.2.1
theorem nH {B : Nat} {w : World} {v : Value} {n size : Nat} {xs : List Value} {t : TypeId} {kb mb : Nat} {ov : Value} {ord : List (List UInt8)} (h : w.ownsRow B t size v n xs) (hk : fH w kb mb ov ord) (h1 : t ≠ 141) (h2 : t ≠ 9) {b : Nat} (e : v.ownBlock = some b) : b ∉ kb :: mb :: ov.ownBlock.toList:=by
 obtain ⟨D,hk⟩:=hk;simp only [List.mem_cons,Option.mem_toList,not_or];refine ⟨fun z=>own_box h hk.row h1 (by rw [e,z]),fun z=>?_,qP h hk.own h2 e⟩;obtain ⟨k,a,f,_⟩:=hk.map;rcases h.2 with ⟨rfl,rfl⟩ | ⟨g,i,d,rfl,_,c,_⟩
 ·cases e
 ·have j : g = b:=by simpa [Value.ownBlock] using e
  rw [j,z,f] at c;cases c
theorem qw {B : Nat} {w : World} {ns : List ByteArray} {p : NPl} {kb mb : Nat} {ov : Value} {ord : List (List UInt8)} (h : aD B w ns p) (hn : ns ≠ []) (hk : fH w kb mb ov ord) (ho : ov.ownBlock ≠ some p.b) : p.b ∉ kb :: mb :: ov.ownBlock.toList:=by
 obtain ⟨D,hk⟩:=hk;simp only [List.mem_cons,Option.mem_toList,not_or];refine ⟨mw h hn hk.row (by decide),fun z=>?_,ho⟩;obtain ⟨g,a,e,_⟩:=hk.map;obtain ⟨_,_,N,f,⟨c,d,_⟩,_⟩:=h hn;rw [z,e] at d;cases d
theorem aD.base {B B' : Nat} {w : World} {ns : List ByteArray} {p : NPl} (h : aD B w ns p) (hB : B' <= B) : aD B' w ns p:=fun hn=>by
 obtain ⟨h0,h1,r⟩:=h hn;exact ⟨h0,by omega,r⟩
theorem i7 {w : World} {kb mb : Nat} {ov : Value} {ns : List ByteArray} (h : fH w kb mb ov (ns.map fun s=>s.data.toList)) : ∃ p : NPl,ov = .slice p.a ns.length p.c /\ w.cell? ⟨kb,1,none⟩ = some ov /\ aD (kb + 1) w ns p /\ (ns ≠ [] -> ov.ownBlock = some p.b):=by
 obtain ⟨D,h⟩:=h;have m : w.cell? ⟨kb,1,none⟩ = some ov:=h.row.cell (i:=1) (by omega);have n:=h.own;rw [List.length_map] at n;rcases n.2 with ⟨e,k⟩ | ⟨g,l,d,e,q,r,f,u,t,o⟩
 ·exact ⟨⟨none,0,0⟩,by rw [e,k],m,fun hn=>absurd (List.length_eq_zero_iff.1 k) hn,fun hn=>absurd (List.length_eq_zero_iff.1 k) hn⟩
 ·refine ⟨⟨some ⟨g,0,none⟩,g,l⟩,e,m,fun hn=>⟨rfl,q,d.size,fun i=>d[i]!,⟨d,r,rfl,fun i hi=>by simp [hi]⟩,by rw [t];simpa using f,fun j hj=>?_⟩,fun hn=>by rw [e];rfl⟩
  have e0 : (fy (ns.map fun s=>s.data.toList))[j]? = some (.string (ns.getD j e0)):=by
   unfold fy;rw [List.map_map,List.getElem?_map,List.getElem?_eq_getElem hj];simp [List.getD,List.getElem?_eq_getElem hj]
  rw [<- o,List.getElem?_take,if_pos (by omega),Array.getElem?_toList] at e0;show d[j]! = _;rw [getElem!_def,e0]
theorem bZ (ns : List ByteArray) (x : ByteArray) : (ns.map fun s=>s.data.toList).contains x.data.toList = bC ns x:=by
 unfold bC
 induction ns with
 | nil=>rfl
 | cons a l ih=>
   rw [List.map_cons,List.contains_cons,List.any_cons,ih];congr 1;rw [Bool.eq_iff_iff];simp only [beq_iff_eq];exact eq_comm
theorem lI (x : ByteArray) : (⟨x.data.toList.toArray⟩ : ByteArray) = x:=by cases x;simp
theorem pt {α : Type} {ts : List TK} {T : Nat -> Option (List α × Nat)} {sg : List UInt8} {g j : Nat} {ns : List ByteArray} {its : List α} (hg : 0 < g) : cX ts T sg g j ns its =
  if cr ts j 1 then if bC ns (tx ts j) then none else if isT ts (j + 1) sg then
   (match T (j + 2) with
    | none=>none
    | some (l,k)=>if isT ts k cw then some (its ++ l,ns ++ [tx ts j],k + 1) else if isT ts k eK then cX ts T sg (g - 1) (k + 1) (ns ++ [tx ts j]) (its ++ l) else none)
   else none else none:=by
 cases g with
 | zero=>omega
 | succ g=>rw [cX];rfl
def Dy (B P tb o : Nat) (ts : List TK) (eT : TypeId) (eV : Value) (X : Nat) (w : World) (v : Value) (xs : List (TI × NPl)) (r : Option (List TI × Nat)) (e : Ending) (w' : World) : Prop:=
 ai (P :: X :: v.ownBlock.toList) w w' /\ match r with
 | none=>e = .panicked [{ v:=.iface eT eV,recovered:=false }]
 | some (l,j)=>∃ v' ys,e = .returned (.tuple #[]) /\ w'.rowIs X 34 1 (fun _=>v') /\ OT B w' v' (xs ++ ys) /\ ys.map Prod.fst = l /\ ag w' P tb o j ts eT eV /\ (∀ b,v'.ownBlock = some b -> v.ownBlock = some b \/ w.heap.size <= b) /\ ∀ b,b ∈ aS ys -> w.heap.size <= b
theorem zE {B P tb o : Nat} {ts : List TK} {eT : TypeId} {eV : Value} {f : Nat} (IH : tD B P tb o ts eT eV f) {i Q X : Nat} {w : World} {v : Value} {xs : List (TI × NPl)} (hps : ag w P tb o i ts eT eV) (hQ : w.rowIs Q 69 1 (fun _=>.pointer (some ⟨P,0,none⟩))) (hX : w.rowIs X 34 1 (fun _=>v)) (hot : OT B w v xs) (hxi : xs.length <= i) (hf : ts.length - i < f) (hB : B <= w.heap.size) (hPX : P ≠ X) (htX : tb ≠ X) (hX0 : 0 ≠ X) :
  Calls Tryz.prog 97 #[.pointer (some ⟨Q,0,none⟩),.pointer (some ⟨X,0,none⟩)] w (Dy B P tb o ts eT eV X w v xs (tyP true ts f i)):=by
 have V:=hQ.cell (i:=0) (by omega);have W:=hX.cell (i:=0) (by omega);have T : v.ownBlock ≠ some X:=own_box hot.own hX (by decide);have p:=IH i w v xs hps hot hxi hf hB;have O:=hQx hot;clear IH hps hot;go_enter Tryz.func97,Tryz.ntmps97;go_wp2_with fail;refine p.mono ?_;clear p;intro e n h;obtain ⟨x,h⟩:=h;obtain ⟨r,F⟩:=xe (tyP true ts f i);have K : Hid (tyP true ts f i = r):=F.symm;rw [<- F] at h;clear F;have s : Hid (ai (P :: X :: v.ownBlock.toList) w n):=x.more (fun k z=>by simp only [List.mem_cons] at z ⊢;exact z.imp_right Or.inr)
 have d:=hX.of_block (x.block X hX.lt (fun z=>by
  simp only [List.mem_cons,Option.mem_toList] at z;rcases z with z | z
  ·exact hPX z.symm
  ·exact T z))
 cases r with
 | none=>
   have h : e = .panicked [{ v:=.iface eT eV,recovered:=false }]:=h;subst h;clear x;go_wp2;exact ⟨rfl,by rw [K.out];exact ⟨s.out,rfl⟩⟩
 | some r=>
   obtain ⟨l,j⟩:=r;obtain ⟨R,q,rfl,G,L,I,J,M⟩:=h;have S : Hid (q.map Prod.fst = l):=L;have H : Hid (∀ b,R.ownBlock = some b -> v.ownBlock = some b \/ w.heap.size <= b):=J;have D : Hid (∀ b,b ∈ aS q -> w.heap.size <= b):=M;obtain ⟨a,c,t⟩:=ad G.own;obtain ⟨m,u⟩:=xe ((xs ++ q).length);rw [<- u] at t;subst t;clear u L J M x;have U:=d.cell (i:=0) (by omega);have N:=d.frozen 0;have g : ai [X] n (n.setCell ⟨X,0,none⟩ (.slice a m c)):=(ai.refl _ _).set (fun _=>by simp) 0 _;have y : Hid (ai (P :: X :: v.ownBlock.toList) w (n.setCell ⟨X,0,none⟩ (.slice a m c))):=s.out.trans g (fun k z _=>by rw [ms1 z];simp);have E : Hid (ag (n.setCell ⟨X,0,none⟩ (.slice a m c)) P tb o j ts eT eV):=I.but g (by simpa using hPX) (by simpa using htX) (by simpa using hX0);have A : Hid (OT B (n.setCell ⟨X,0,none⟩ (.slice a m c)) (.slice a m c) (xs ++ q)):=G.box d (by decide) (by decide) _ _
   have C : Hid ((n.setCell ⟨X,0,none⟩ (.slice a m c)).rowIs X 34 1 (fun _=>.slice a m c)):=(d.set 0 _).congr (fun k hk=>by
    match k,hk with
    | 0,_=>rfl)
   clear g G I d;go_wp2
   go_end0
   rw [K.out];exact ⟨y.out,_,q,rfl,C.out,A.out,S.out,E.out,H.out,D.out⟩
def CW (B P tb o : Nat) (ts : List TK) (eT : TypeId) (eV : Value) (X : Nat) (w : World) (v : Value) (xs : List (TI × NPl)) (r : Option (List TI × List ByteArray × Nat)) (e : Ending) (w' : World) : Prop:=
 ai (P :: X :: v.ownBlock.toList) w w' /\ match r with
 | none=>e = .panicked [{ v:=.iface eT eV,recovered:=false }]
 | some (l,ns,j)=>∃ v' ys p,e = .returned (.slice p.a ns.length p.c) /\ w'.rowIs X 34 1 (fun _=>v') /\ OT B w' v' (xs ++ ys) /\ ys.map Prod.fst = l /\ ag w' P tb o j ts eT eV /\ (∀ b,v'.ownBlock = some b -> v.ownBlock = some b \/ w.heap.size <= b) /\ (∀ b,b ∈ aS ys -> w.heap.size <= b) /\ aD w.heap.size w' ns p /\ (ns ≠ [] -> p.b ∉ aS (xs ++ ys))
structure FL (B P tb o : Nat) (ts : List TK) (eT : TypeId) (eV : Value) (Q X : Nat) (w : World) (v : Value) (xs : List (TI × NPl)) (T : Nat -> Option (List TI × Nat)) (i : Nat) (wr : World) (j g : Nat) (ns : List ByteArray) (v1 : Value) (ys : List (TI × NPl)) (ov : Value) : Prop where
 eq : aH ts T aB i = cX ts T aB g j ns (ys.map Prod.fst)
 fuel : ts.length < g + j
 ps : ag wr P tb o j ts eT eV
 rq : wr.rowIs Q 69 1 (fun _=>.pointer (some ⟨P,0,none⟩))
 rx : wr.rowIs X 34 1 (fun _=>v1)
 ot : OT B wr v1 (xs ++ ys)
 gr : ∀ b,v1.ownBlock = some b -> v.ownBlock = some b \/ w.heap.size <= b
 nw : ∀ b,b ∈ aS ys -> w.heap.size <= b
 but : ai (P :: X :: v.ownBlock.toList) w wr
 kn : fH wr (w.heap.size + 1) w.heap.size ov (ns.map fun s=>s.data.toList)
 sep : ∀ b,ov.ownBlock = some b -> b ∉ aS (xs ++ ys)
 len : (xs ++ ys).length <= j
 nl : ns.length <= j
 far : i <= j
theorem ru {B : Nat} {w : World} {v : Value} {xs : List (TI × NPl)} {kb mb : Nat} {ov : Value} {ord : List (List UInt8)} (h : OT B w v xs) (hk : fH w kb mb ov ord) (hs : ∀ b,ov.ownBlock = some b -> b ∉ aS xs) : (∀ b,v.ownBlock = some b -> b ∉ kb :: mb :: ov.ownBlock.toList) /\ ∀ b,b ∈ aS xs -> b ∉ kb :: mb :: ov.ownBlock.toList:=
 ⟨fun b e=>nH h.own hk (by decide) (by decide) e,fun b hb=>by
  obtain ⟨x,hx,hn,rfl⟩:=cL hb;exact qw (h.nm x hx) hn hk (fun e=>hs _ e hb)⟩
theorem FL.named {B P tb o : Nat} {ts : List TK} {eT : TypeId} {eV : Value} {Q X : Nat} {w : World} {v : Value} {xs : List (TI × NPl)} {T : Nat -> Option (List TI × Nat)} {i : Nat} {wr w1 w2 : World} {j g : Nat} {ns : List ByteArray} {v1 : Value} {ys : List (TI × NPl)} {ov : Value} (h : FL B P tb o ts eT eV Q X w v xs T i wr j g ns v1 ys ov) (hP : P < B) (htb : tb < B) (hB : B <= w.heap.size) (hXw : X < w.heap.size) (hQw : Q < w.heap.size) (hXB : B <= X) (hQB : B <= Q)
  (b1 : ai [P] wr w1) (p1 : ag w1 P tb o (j + 1) ts eT eV) (b2 : ai ((w.heap.size + 1) :: w.heap.size :: ov.ownBlock.toList) w1 w2) :
  ag w2 P tb o (j + 1) ts eT eV /\ w2.rowIs Q 69 1 (fun _=>.pointer (some ⟨P,0,none⟩)) /\ w2.rowIs X 34 1 (fun _=>v1) /\ OT B w2 v1 (xs ++ ys) /\ ai (P :: X :: v.ownBlock.toList) w w2:=by
 obtain ⟨n,p,c⟩:=h.kn.ids
 have a : ∀ k,k < w.heap.size -> k ∉ (w.heap.size + 1) :: w.heap.size :: ov.ownBlock.toList:=fun k hk z=>by
  simp only [List.mem_cons,Option.mem_toList] at z;rcases z with z | z | z
  ·omega
  ·omega
  ·have:=(c k z).1;omega
 have q:=p1.pos;have d : OT B w1 v1 (xs ++ ys):=h.ot.low b1 (fun b z=>by rw [ms1 z];exact Or.inl hP);have f : fH w1 (w.heap.size + 1) w.heap.size ov (ns.map fun s=>s.data.toList):=h.kn.but b1 (by simp;omega) (by simp;omega) (fun b e=>by have:=(c b e).1;simp;omega);obtain ⟨l,m⟩:=ru d f h.sep;refine ⟨p1.but b2 (a P (by omega)) (a tb (by omega)) (a 0 (by omega)),(h.rq.of_block (b1.block Q h.rq.lt (by simp;omega))).of_block (b2.block Q (Nat.lt_of_lt_of_le h.rq.lt b1.size) (a Q hQw)),(h.rx.of_block (b1.block X h.rx.lt (by simp;omega))).of_block (b2.block X (Nat.lt_of_lt_of_le h.rx.lt b1.size) (a X hXw)),d.but b2 l m,?_⟩;exact (h.but.trans b1 (fun k z _=>by rw [ms1 z];simp)).trans b2 (fun k z hk=>absurd z (a k hk))
theorem FL.parted {B P X : Nat} {w : World} {v : Value} {xs : List (TI × NPl)} {w3 w4 : World} {v1 v2 : Value} {ys zs : List (TI × NPl)} {ov : Value} {ord : List (List UInt8)} (hP : P < B) (hB : B <= w.heap.size) (hXw : X < w.heap.size)
  (o3 : OT B w3 v1 (xs ++ ys)) (k3 : fH w3 (w.heap.size + 1) w.heap.size ov ord) (s3 : ∀ b,ov.ownBlock = some b -> b ∉ aS (xs ++ ys)) (g3 : ∀ b,v1.ownBlock = some b -> v.ownBlock = some b \/ w.heap.size <= b) (n3 : ∀ b,b ∈ aS ys -> w.heap.size <= b) (b3 : ai (P :: X :: v.ownBlock.toList) w w3)
  (b4 : ai (P :: X :: v1.ownBlock.toList) w3 w4) (g4 : ∀ b,v2.ownBlock = some b -> v1.ownBlock = some b \/ w3.heap.size <= b) (n4 : ∀ b,b ∈ aS zs -> w3.heap.size <= b) :
  fH w4 (w.heap.size + 1) w.heap.size ov ord /\ (∀ b,ov.ownBlock = some b -> b ∉ aS (xs ++ (ys ++ zs))) /\ (∀ b,v2.ownBlock = some b -> v.ownBlock = some b \/ w.heap.size <= b) /\ (∀ b,b ∈ aS (ys ++ zs) -> w.heap.size <= b) /\ ai (P :: X :: v.ownBlock.toList) w w4:=by
 obtain ⟨g,h,c⟩:=k3.ids;obtain ⟨f,_⟩:=ru o3 k3 s3;have s:=b3.size
 have a : ∀ k,k ∈ (w.heap.size + 1) :: w.heap.size :: ov.ownBlock.toList -> k ∉ P :: X :: v1.ownBlock.toList:=fun k hk z=>by
  have d : w.heap.size <= k:=by
   simp only [List.mem_cons,Option.mem_toList] at hk;rcases hk with q | q | q
   ·omega
   ·omega
   ·have:=(c k q).1;omega
  simp only [List.mem_cons,Option.mem_toList] at z;rcases z with z | z | z
  ·omega
  ·omega
  ·exact f k z hk
 refine ⟨k3.but b4 (a _ (by simp)) (a _ (by simp)) (fun b e=>a b (by simp [e])),fun b e z=>?_,fun b e=>?_,fun b z=>?_,b3.trans b4 (fun k z hk=>?_)⟩
 ·rw [<- List.append_assoc,dy] at z
  rcases List.mem_append.1 z with q | q
  ·exact s3 b e q
  ·have:=n4 b q
   have:=(c b e).2;omega
 ·rcases g4 b e with q | q
  ·exact g3 b q
  ·exact Or.inr (by omega)
 ·rw [dy] at z
  rcases List.mem_append.1 z with q | q
  ·exact n3 b q
  ·have:=n4 b q
   omega
 ·simp only [List.mem_cons,Option.mem_toList] at z ⊢
  rcases z with z | z | z
  ·exact Or.inl z
  ·exact Or.inr (Or.inl z)
  ·rcases g3 k z with q | q
   ·exact Or.inr (Or.inr q)
   ·omega
theorem vH {B P tb o : Nat} {ts : List TK} {eT : TypeId} {eV : Value} {f : Nat} (IH : tD B P tb o ts eT eV f) (hP : P < B) (htb : tb < B) {i Q X : Nat} {w : World} {v : Value} {xs : List (TI × NPl)} (hps : ag w P tb o i ts eT eV) (hQ : w.rowIs Q 69 1 (fun _=>.pointer (some ⟨P,0,none⟩))) (hX : w.rowIs X 34 1 (fun _=>v)) (hot : OT B w v xs) (hxi : xs.length <= i) (hf : ts.length - i < f) (hB : B <= w.heap.size) (hXB : B <= X) (hQB : B <= Q) :
  Calls Tryz.prog 96 #[.pointer (some ⟨P,0,none⟩),.string ⟨#[58]⟩,.func (.func 97) #[] #[.pointer (some ⟨Q,0,none⟩),.pointer (some ⟨X,0,none⟩)]] w (CW B P tb o ts eT eV X w v xs (aH ts (tyP true ts f) aB i)):=by
 have ch:=hQx IH;have N:=hX.lt;have bv:=hQ.lt;have hn:=hps.tk.len;have h0:=hps.pos;have de:=hQx hps;have bx:=hQx hot;have HQ:=hQx hQ;have HX:=hQx hX;clear IH hps hot hQ hX;go_enter Tryz.func96,Tryz.ntmps96;go_wp2_with fail;refine (qi w).mono ?_;rintro e C ⟨rfl,bL,F⟩;have a5 : Hid (fH C (w.heap.size + 1) w.heap.size (.slice none 0 0) []):=bL;have S : Hid (ag C P tb o i ts eT eV):=de.out.but F (by simp) (by simp) (by simp);have A : Hid (ai [] w C):=F;clear bL F;go_wp2_with fail;cases hs : isT ts i cw
 case true=>
  refine (bK ⟨#[125]⟩ C S.out hs).mono ?_;rintro e u ⟨rfl,p2,V⟩;have D : Hid (aH ts (tyP true ts f) aB i = some ([],[],i + 1)):=by show _ = _;unfold aH;rw [if_pos hs]
  have K2 : fH u (w.heap.size + 1) w.heap.size (.slice none 0 0) (([] : List ByteArray).map fun s=>s.data.toList):=a5.out.but V (by simp;omega) (by simp;omega) (fun b e=>by cases e);obtain ⟨p,e1,c1,_,_⟩:=i7 K2;have m : Hid (ai [P] w u):=(A.out.more (S':=[P]) (fun _ z=>by simp at z)).then_ V
  have O : Hid (CW B P tb o ts eT eV X w v xs (some ([],[],i + 1)) (.returned (.slice none 0 0)) u):=by
   refine ⟨m.out.more (fun k z=>by rw [ms1 z];simp),v,[],⟨none,0,0⟩,rfl,HX.out.of_block (m.out.block X N (by simp;omega)),?_,rfl,p2,fun b e=>Or.inl e,(fun b z=>by cases z),aD.nil _ _ _,fun h=>absurd rfl h⟩;rw [List.append_nil];exact bx.out.low m.out (fun b z=>by rw [ms1 z];exact Or.inl hP)
  clear hs p2 V K2 e1;go_wp2;go_ret;rw [D.out];exact O.out
 refine (aN ⟨#[125]⟩ C S.out hs).mono ?_;rintro e u ⟨rfl,rfl⟩
 have HL : Hid (FL B P tb o ts eT eV Q X w v xs (tyP true ts f) i C i (ts.length + 1) [] v [] (.slice none 0 0)):=by
  refine ⟨by unfold aH;rw [hs];rfl,by omega,S.out,HQ.out.of_block (A.out.block Q bv (by simp)),HX.out.of_block (A.out.block X N (by simp)),?_,fun b e=>Or.inl e,(fun b z=>by cases z),A.out.more (fun k z=>by simp at z),a5.out,(fun b e=>by cases e),by simpa using hxi,Nat.zero_le _,nlr _⟩;rw [List.append_nil];exact bx.out.low A.out (fun b z=>by simp at z)
 clear hs a5 S A;go_wp2
 go_loopw [8] (fun _ wr=>∃ (j g : Nat) (n : List ByteArray) (v1 : Value) (t : List (TI × NPl)) (ov : Value),Hid (FL B P tb o ts eT eV Q X w v xs (tyP true ts f) i wr j g n v1 t ov)) (fun _ wr=>dW wr P 0)
 case atStart=>exact ⟨i,ts.length + 1,[],v,[],.slice none 0 0,HL⟩
 case round=>
  obtain ⟨j,g,n,v1,t,ov,H⟩:=hrel;clear HL;have ff:=H.out.ps.le;have hg : 0 < g:=by have:=H.out.fuel;omega
  have x : Hid (aH ts (tyP true ts f) aB i = _):=H.out.eq.trans (pt hg);have cn : Hid (dW wr P 0 = ts.length - j):=fC H.out.ps;go_wp2_with fail;cases hc : cr ts j 1
  case false=>
   have D : Hid (aH ts (tyP true ts f) aB i = none):=by show _ = _;rw [x.out,hc];rfl
   refine (cJ wr H.out.ps hc).mono ?_;rintro e C ⟨rfl,F⟩;have c5 : Hid (ai (P :: X :: v.ownBlock.toList) w C):=H.out.but.trans F (fun k z _=>by rw [ms1 z];simp);clear hc F;go_wp2;exact ⟨rfl,by rw [D.out];exact ⟨c5.out,rfl⟩⟩
  refine (fY wr H.out.ps hc).mono ?_;rintro e C ⟨rfl,p1,F⟩;have bf:=d4 hc;go_wp2_with fail
  have co : (tx ts j).data.toList.length <= maxLen:=by
   have:=H.out.ps.tk.sz j bf;rw [dx bf];unfold maxLen;show (aA ts j).txt.data.size <= _;have e : (aA ts j).txt.data.size = (aA ts j).txt.size:=rfl;omega
  have K1 : fH C (w.heap.size + 1) w.heap.size ov (n.map fun s=>s.data.toList):=H.out.kn.but F (by simp;omega) (by simp;omega) (fun b e=>by have:=(H.out.kn.ids.2.2 b e).1;simp;omega);have e7:=H.out.nl;have CN:=jr (w.heap.size + 1) w.heap.size ov (n.map fun s=>s.data.toList) (tx ts j).data.toList C K1 co (by rw [List.length_map];omega);rw [lI,bZ] at CN;refine CN.mono ?_;clear CN;rintro e u ⟨xx,d,rfl,K2,V,a7⟩;obtain ⟨P2,Q2,X2,O2,B2⟩:=H.out.named hP htb hB N bv hXB hQB F p1 V;have m : Hid (ai (P :: X :: v.ownBlock.toList) w u):=B2;have ck:=P2.ev;have e2 : C.heap.size <= u.heap.size:=V.size;have e9 : wr.heap.size <= C.heap.size:=F.size;cases hh : bC n (tx ts j)
  case true=>
   have D : Hid (aH ts (tyP true ts f) aB i = none):=by show _ = _;rw [x.out,hc,hh];rfl
   clear hc hh p1 F K1 V a7 P2 Q2 X2 O2 B2 K2;go_wp2;exact ⟨rfl,by rw [D.out];exact ⟨m.out,rfl⟩⟩
  have a8 : Hid (fH u (w.heap.size + 1) w.heap.size d ((n ++ [tx ts j]).map fun s=>s.data.toList)):=by
   have e : iA (n.map fun s=>s.data.toList) (tx ts j).data.toList = (n ++ [tx ts j]).map fun s=>s.data.toList:=by
    unfold iA;rw [bZ,hh];simp
   rw [e] at K2;exact K2
  have a4 : Hid (∀ b,d.ownBlock = some b -> b ∉ aS (xs ++ t)):=fun b e=>by
   rcases a7 b e with q | q
   ·exact H.out.sep b q
   ·intro z
    have:=(H.out.ot.names z).2;omega
  have a0 : Hid (u.rowIs Q 69 1 (fun _=>.pointer (some ⟨P,0,none⟩))):=Q2;have Z : Hid (u.rowIs X 34 1 (fun _=>v1)):=X2;have b7 : Hid (OT B u v1 (xs ++ t)):=O2;have a2 : Hid (ag u P tb o (j + 1) ts eT eV):=P2;clear p1 F K1 V a7 P2 Q2 X2 O2 B2 K2 ck;go_wp2_with fail;cases hsg : isT ts (j + 1) aB
  case false=>
   have D : Hid (aH ts (tyP true ts f) aB i = none):=by show _ = _;rw [x.out,hc,hh,hsg];rfl
   refine (aP ⟨#[58]⟩ u a2.out hsg).mono ?_;rintro e T ⟨rfl,rfl⟩;clear hc hh hsg;go_wp2;exact ⟨rfl,by rw [D.out];exact ⟨m.out,rfl⟩⟩
  refine (cG ⟨#[58]⟩ u a2.out hsg).mono ?_;rintro e T ⟨rfl,p3,b3⟩;have bn : Hid (ag T P tb o (j + 2) ts eT eV):=p3;have y : Hid (T.rowIs Q 69 1 (fun _=>.pointer (some ⟨P,0,none⟩))):=a0.out.of_block (b3.block Q a0.out.lt (by simp;omega));have a1 : Hid (T.rowIs X 34 1 (fun _=>v1)):=Z.out.of_block (b3.block X Z.out.lt (by simp;omega));have L : Hid (OT B T v1 (xs ++ t)):=b7.out.low b3 (fun b z=>by rw [ms1 z];exact Or.inl hP);have U : Hid (ai (P :: X :: v.ownBlock.toList) w T):=m.out.trans b3 (fun k z _=>by rw [ms1 z];simp);have ah : Hid (fH T (w.heap.size + 1) w.heap.size d ((n ++ [tx ts j]).map fun s=>s.data.toList)):=a8.out.but b3 (by simp;omega) (by simp;omega) (fun b e=>by have:=(a8.out.ids.2.2 b e).1;simp;omega);have eQ : u.heap.size <= T.heap.size:=b3.size;have eO : w.heap.size <= T.heap.size:=U.out.size;have b0:=H.out.len;have el:=H.out.far;clear p3 b3 a0 Z b7 m a8 a2;go_wp2_with fail;refine (zE ch.out bn.out y.out a1.out L.out (by omega) (by omega) (by omega) (by omega) (by omega) (by omega)).mono ?_;intro e M hT;obtain ⟨b4,hT⟩:=hT;obtain ⟨r,hr⟩:=xe (tyP true ts f (j + 2));have J : Hid (tyP true ts f (j + 2) = r):=hr.symm;rw [<- hr] at hT;clear hr
  cases r with
  | none=>
    have hT : e = .panicked [{ v:=.iface eT eV,recovered:=false }]:=hT;subst hT;have D : Hid (aH ts (tyP true ts f) aB i = none):=by show _ = _;rw [x.out,hc,hh,hsg,J.out];rfl
    have E : Hid (ai (P :: X :: v.ownBlock.toList) w M):=(FL.parted hP hB N L.out ah.out a4.out H.out.gr H.out.nw U.out b4 (v2:=.slice none 0 0) (zs:=[]) (fun b e=>by cases e) (fun b z=>by cases z)).2.2.2.2;clear hc hh hsg b4;go_wp2;exact ⟨rfl,by rw [D.out];exact ⟨E.out,rfl⟩⟩
  | some r=>
    obtain ⟨l,k⟩:=r;obtain ⟨v2,R,rfl,X4,O4,hl,P4,g4,n4⟩:=hT;obtain ⟨K4,S4,G4,N4,B4⟩:=FL.parted hP hB N L.out ah.out a4.out H.out.gr H.out.nw U.out b4 g4 n4;obtain ⟨f1,f2,f3⟩:=dE f _ _ _ J.out;have e5 : R.length = l.length:=by rw [<- hl,List.length_map]
    have cx : (xs ++ (t ++ R)).length <= k:=by
     simp only [lap] at b0 ⊢;omega
    have HY : Hid ((t ++ R).map Prod.fst = t.map Prod.fst ++ l):=by show _ = _;rw [List.map_append,hl]
    have ab : Hid (M.rowIs Q 69 1 (fun _=>.pointer (some ⟨P,0,none⟩))):=y.out.of_block (b4.block Q y.out.lt (fun z=>by
     simp only [List.mem_cons,Option.mem_toList] at z;rcases z with z | z | z
     ·omega
     ·have r1:=y.out
      have r2:=a1.out;obtain ⟨c1,q1,_⟩:=r1;obtain ⟨c2,q2,_⟩:=r2;rw [z,q2] at q1;simp only [Option.some.injEq,Obj.cells.injEq] at q1;exact absurd q1.2.1 (by decide)
     ·exact own_box L.out.own y.out (by decide) z))
    rw [List.append_assoc] at O4;have G : Hid (M.rowIs X 34 1 (fun _=>v2)):=X4;have a6 : Hid (OT B M v2 (xs ++ (t ++ R))):=O4;have K : Hid (ag M P tb o k ts eT eV):=P4;have I : Hid (fH M (w.heap.size + 1) w.heap.size d ((n ++ [tx ts j]).map fun s=>s.data.toList)):=K4;have an : Hid (∀ b,d.ownBlock = some b -> b ∉ aS (xs ++ (t ++ R))):=S4;have W : Hid (∀ b,v2.ownBlock = some b -> v.ownBlock = some b \/ w.heap.size <= b):=G4;have a9 : Hid (∀ b,b ∈ aS (t ++ R) -> w.heap.size <= b):=N4;have E : Hid (ai (P :: X :: v.ownBlock.toList) w M):=B4;clear X4 O4 hl P4 g4 n4 K4 S4 G4 N4 B4 b4 y a1 L ah U bn a4;go_wp2_with fail;cases hsh : isT ts k cw
    case true=>
     refine (bK ⟨#[125]⟩ M K.out hsh).mono ?_;rintro e w5 ⟨rfl,p5,b5⟩
     have D : Hid (aH ts (tyP true ts f) aB i = some (t.map Prod.fst ++ l,n ++ [tx ts j],k + 1)):=by
      show _ = _;rw [x.out,hc,hh,hsg,J.out];show (if isT ts k cw = true then _ else _) = _;rw [hsh];rfl
     have K5:=I.out.but b5 (by simp;omega) (by simp;omega) (fun b e=>by have:=(I.out.ids.2.2 b e).1;simp;omega);obtain ⟨p,ep,cp,np,bp⟩:=i7 K5;have c0 : Hid (ai (P :: X :: v.ownBlock.toList) w w5):=E.out.trans b5 (fun k z _=>by rw [ms1 z];simp)
     have O : Hid (CW B P tb o ts eT eV X w v xs (some (t.map Prod.fst ++ l,n ++ [tx ts j],k + 1)) (.returned d) w5):=by
      refine ⟨c0.out,v2,t ++ R,p,by rw [ep],G.out.of_block (b5.block X G.out.lt (by simp;omega)),a6.out.low b5 (fun b z=>by rw [ms1 z];exact Or.inl hP),HY.out,p5,W.out,a9.out,np.base (by omega),fun hne z=>?_⟩;exact an.out _ (bp hne) z
     rw [ep] at cp;have bs : d = .slice p.a (n ++ [tx ts j]).length p.c:=ep;obtain ⟨m9,Y⟩:=xe ((n ++ [tx ts j]).length);have bo : Hid (d = .slice p.a m9 p.c):=by show _ = _;rw [bs,Y]
     rw [<- Y] at cp;clear hc hh hsg hsh p5 b5 K5 ep np bp bs Y;go_wp2;go_ret;rw [D.out];have z:=O.out;rw [bo.out] at z;exact z
    refine (aN ⟨#[125]⟩ M K.out hsh).mono ?_;rintro e w5 ⟨rfl,rfl⟩;go_wp2_with fail;cases hcm : isT ts k eK
    case false=>
     have D : Hid (aH ts (tyP true ts f) aB i = none):=by
      show _ = _;rw [x.out,hc,hh,hsg,J.out];show (if isT ts k cw = true then _ else if isT ts k eK = true then _ else _) = _;rw [hsh,hcm];rfl
     refine (aP ⟨#[44]⟩ M K.out hcm).mono ?_;rintro e w6 ⟨rfl,rfl⟩;clear hc hh hsg hsh hcm;go_wp2;exact ⟨rfl,by rw [D.out];exact ⟨E.out,rfl⟩⟩
    refine (cG ⟨#[44]⟩ M K.out hcm).mono ?_;rintro e w6 ⟨rfl,p6,b6⟩
    have HL : Hid (FL B P tb o ts eT eV Q X w v xs (tyP true ts f) i w6 (k + 1) (g - 1) (n ++ [tx ts j]) v2 (t ++ R) d):=by
     refine ⟨?_,by have:=H.out.fuel;omega,p6,ab.out.of_block (b6.block Q ab.out.lt (by simp;omega)),G.out.of_block (b6.block X G.out.lt (by simp;omega)),a6.out.low b6 (fun b z=>by rw [ms1 z];exact Or.inl hP),W.out,a9.out,E.out.trans b6 (fun k z _=>by rw [ms1 z];simp),I.out.but b6 (by simp;omega) (by simp;omega) (fun b e=>by have:=(I.out.ids.2.2 b e).1;simp;omega),an.out,by omega,by simp;omega,by omega⟩;rw [x.out,hc,hh,hsg,J.out,HY.out];show (if isT ts k cw = true then _ else if isT ts k eK = true then _ else _) = _;rw [hsh,hcm];rfl
    have cm : Hid (dW w6 P 0 = ts.length - (k + 1)):=fC p6;clear hc hh hsg hsh hcm p6 b6 ab G a6 K I an W a9 E;go_wp2
    go_roundw
    case rel=>exact ⟨k + 1,g - 1,n ++ [tx ts j],v2,t ++ R,d,HL⟩
    case measure=>rw [cm.out,cn.out];omega
theorem ui {B P tb o : Nat} {ts : List TK} {eT : TypeId} {eV : Value} {f : Nat} (IH : tD B P tb o ts eT eV f) (hP : P < B) (htb : tb < B) {i : Nat} {w : World} {v : Value} {xs : List (TI × NPl)} (hps : ag w P tb o i ts eT eV) (hot : OT B w v xs) (hxi : xs.length <= i) (hB : B <= w.heap.size) (hf : ts.length - i < f + 1) (hc : cr ts i 1 = false) (hs : isT ts i dI = true) :
  Calls Tryz.prog 86 #[.pointer (some ⟨P,0,none⟩),v] w (pG B P tb o ts eT eV w v xs (aF true ts (tyP true ts f) i)):=by
 have hi:=aL hs;have a2:=hQx IH;clear IH
 have HR : Hid (∀ r,aH ts (tyP true ts f) aB (i + 1) = r -> aF true ts (tyP true ts f) i = r.map fun z=>(z.1 ++ [⟨5,e0,e0,z.2.1⟩],z.2.2)):=by
  show ∀ r,_;intro r T;unfold aF;rw [hc,if_neg (by decide)];rw [bi hs (s':=jb) (by decide),if_neg (by decide)];rw [bi hs (s':=fL) (by decide),if_neg (by decide)];rw [bi hs (s':=lA) (by decide),if_neg (by decide)];rw [if_pos hs,T]
  cases r with
  | none=>rfl
  | some z=>rfl
 have q0 : ((aA ts i).txt.toList == [105,110,116]) = false:=aM hs _ (by decide);have q1 : ((aA ts i).txt.toList == [98,111,111,108]) = false:=aM hs _ (by decide);have q2 : ((aA ts i).txt.toList == [63]) = false:=aM hs _ (by decide);have q3 : ((aA ts i).txt.toList == [123]) = true:=aY hs;rw [bT hi] at hc;clear hs;have c2 : ∀ (fn : Fn) (first cap : Array Value) (w : World),(Instr.makeFunc fn first cap).run Tryz.prog w = .ok (.func fn first cap) w:=fun _ _ _ _=>rfl;have HP:=hQx hps;obtain ⟨n,m,rfl⟩:=ad hot.own;have HO : Hid (OT B w (.slice n xs.length m) xs):=hot;have hn:=hps.tk.len;have cn:=hps.le;clear hps hot;obtain ⟨W2,g⟩:=xe ((w.alloc (.cells #[.pointer (some ⟨P,0,none⟩)] 69)).alloc (.cells #[.slice n xs.length m] 34));have F : Hid (ai [] w W2):=by show ai [] w W2;rw [g];exact ((ai.refl _ _).alloc _).alloc _
 have RQ : W2.rowIs w.heap.size 69 1 (fun _=>.pointer (some ⟨P,0,none⟩)):=by rw [g];exact (aK _ _ _).alloc _
 have RX : W2.rowIs (w.heap.size + 1) 34 1 (fun _=>.slice n xs.length m):=by
  have:=aK (w.alloc (.cells #[.pointer (some ⟨P,0,none⟩)] 69)) (.slice n xs.length m) 34;simp only [World.size_alloc] at this;rw [g];exact this
 obtain ⟨i0,bp,bf,be,a1⟩:=info_parts Tryz.infoTI;go_enter Tryz.func86,Tryz.ntmps86;go_wp2_with fail;rw [<- g];clear g;refine (bm W2 (HP.out.but F.out (by simp) (by simp) (by simp)) hi).mono ?_;rintro e S ⟨rfl,h1,W⟩;unfold km;obtain ⟨R,M⟩:=xe ((aA ts i).cls);obtain ⟨N,E⟩:=xe ((aA ts i).txt);obtain ⟨U,ar⟩:=xe (((aA ts i).loc : Int));have c9 : Hid (tx ts i = N):=by show _ = _;rw [E,dx hi]
 rw [<- M] at hc;rw [<- E] at q0 q1 q2 q3;rw [<- M,<- E,<- ar];clear M E ar;have A : Hid (ai [P] w (S.alloc (.cells #[.int .i64 R,.string N,.int .i64 U] 45))):=((F.out.more (S':=[P]) (fun _ z=>by simp at z)).then_ W).alloc _;have G:=(RQ.of_block (W.block _ RQ.lt (by simp;omega))).alloc (.cells #[.int .i64 R,.string N,.int .i64 U] 45);have D:=(RX.of_block (W.block _ RX.lt (by simp;omega))).alloc (.cells #[.int .i64 R,.string N,.int .i64 U] 45);have K : Hid (ag (S.alloc (.cells #[.int .i64 R,.string N,.int .i64 U] 45)) P tb o (i + 1) ts eT eV):=h1.but ((ai.refl ([] : List Nat) S).alloc _) (by simp) (by simp) (by simp);have ao : Hid (OT B (S.alloc (.cells #[.int .i64 R,.string N,.int .i64 U] 45)) (.slice n xs.length m) xs):=HO.out.low A.out (fun b z=>by rw [ms1 z];exact Or.inl hP);have cq:=G.cell (i:=0) (by omega);have cx:=D.cell (i:=0) (by omega);have ce:=K.out.ev;have c5 : w.heap.size <= S.heap.size:=Nat.le_trans F.out.size W.size;clear h1 W RQ RX HP F;go_wp2_with fail;obtain ⟨W3,X⟩:=xe (S.alloc (.cells #[.int .i64 R,.string N,.int .i64 U] 45));rw [<- X] at A G D K ao cq cx ce ⊢;clear X;have ck:=A.out.size;refine (vH a2.out hP htb K.out G D ao.out (by omega) (by omega) (by omega) (by omega) (by omega)).mono ?_;intro e H L;obtain ⟨b4,L⟩:=L;obtain ⟨r,T⟩:=xe (aH ts (tyP true ts f) aB (i + 1));have ab : Hid (aF true ts (tyP true ts f) i = r.map fun z=>(z.1 ++ [⟨5,e0,e0,z.2.1⟩],z.2.2)):=HR.out r T.symm;have bv : Hid (aH ts (tyP true ts f) aB (i + 1) = r):=T.symm;rw [<- T] at L;clear T
 have O : Hid (ai (P :: (Value.slice n xs.length m).ownBlock.toList) w H):=A.out.more (S':=P :: (Value.slice n xs.length m).ownBlock.toList) (fun k z=>by rw [ms1 z];simp) |>.trans b4 (fun k z hk=>by
  simp only [List.mem_cons] at z ⊢;rcases z with z | z | z
  ·exact Or.inl z
  ·omega
  ·exact Or.inr z)
 cases r with
 | none=>
   have L : e = .panicked [{ v:=.iface eT eV,recovered:=false }]:=L;subst L;clear b4;go_wp2;exact ⟨rfl,by rw [ab.out];exact ⟨O.out,rfl⟩⟩
 | some r=>
   obtain ⟨l,Q,j⟩:=r;obtain ⟨v',h,p,rfl,X4,O4,hl,P4,gr,nw,np,ni⟩:=L;obtain ⟨C,s,Z⟩:=ad O4.own;obtain ⟨y,u⟩:=xe ((xs ++ h).length);have J : Hid (y = (xs ++ h).length):=u;have cp:=fd (dE f) bv.out
   have cM : y <= 2000:=by
    have : h.length = l.length:=by rw [<- hl,List.length_map]
    rw [u,lap];omega
   rw [<- u] at Z;subst Z;clear u;have c0:=X4.cell (i:=0) (by omega);have bn : Hid (OT B H (.slice C y s) (xs ++ h)):=O4;have a8 : Hid (ag H P tb o j ts eT eV):=P4;have HY : Hid (h.map Prod.fst = l):=hl
   have bb : Hid (∀ b,(Value.slice C y s).ownBlock = some b -> (Value.slice n xs.length m).ownBlock = some b \/ w.heap.size <= b):=fun b e=>by
    rcases gr b e with q | q
    ·exact Or.inl q
    ·exact Or.inr (by omega)
   have bs : Hid (∀ b,b ∈ aS h -> w.heap.size <= b):=fun b hb=>by have:=nw b hb;omega
   have V : Hid (aD W3.heap.size H Q p):=np;have a9 : Hid (Q ≠ [] -> p.b ∉ aS (xs ++ h)):=ni;have cz:=O.out.size;have a7 : Hid (H.ownsRow B 80 4 (.slice C y s) y (bg (xs ++ h))):=by have z:=O4.own;rw [<- J.out] at z;exact z
   clear b4 X4 O4 hl P4 gr nw np ni D G cq cx ce;go_wp2_with (first | (at_builtin;refine wpList_append_lies _ rfl _ _ 34 rfl B 80 i0 _ 4 64 Tryz.underlying34 bp bf be a1 rfl (by omega) (.slice C y s) (y) (bg (xs ++ h)) rfl (a7.out.alloc _) ⟨H.heap.size,0,none⟩ 1 1 [.int .i64 5,.string ⟨#[]⟩,.string ⟨#[]⟩,.slice p.a Q.length p.c] rfl rfl (World.news_of_block (cs:=#[.int .i64 5,.string ⟨#[]⟩,.string ⟨#[]⟩,.slice p.a Q.length p.c]) (t:=80) (fr:=(0,0)) (heap_alloc_new H _)) (by simp [Value.oneCell']) (by omega) (by unfold maxLen;omega) (by omega) (by simp;omega) (H.heap.size + 1) (by simp) ?_;intro gg Y w5 d ah I b3))
   have a4 : Hid (pG B P tb o ts eT eV w (.slice n xs.length m) xs (some (l ++ [⟨5,e0,e0,Q⟩],j)) (.returned (.slice (some ⟨gg,0,none⟩) (y + 1) Y)) w5):=by
    have z:=jz (ys:=h) (x:=(⟨5,e0,e0,Q⟩,p)) hP htb (v:=.slice n xs.length m) bn.out a8.out O.out bb.out (by rw [<- J.out];exact d) ah I (V.out.base (by omega)) a9.out bs.out (fun hne=>by have:=(V.out.lt hne).1;show w.heap.size <= p.b;omega);rw [<- J.out,HY.out] at z;exact z
   clear d ah I;go_wp2;go_ret;rw [ab.out];exact a4.out
theorem AD {B P tb o : Nat} {ts : List TK} {eT : TypeId} {eV : Value} {f : Nat} (IH : tD B P tb o ts eT eV f) (hP : P < B) (htb : tb < B) {i : Nat} {w : World} {v : Value} {xs : List (TI × NPl)} (hps : ag w P tb o i ts eT eV) (hot : OT B w v xs) (hxi : xs.length <= i) (hB : B <= w.heap.size) (hf : ts.length - i < f + 1) :
  Calls Tryz.prog 86 #[.pointer (some ⟨P,0,none⟩),v] w (pG B P tb o ts eT eV w v xs (aF true ts (tyP true ts f) i)):=by
 cases hc : cr ts i 1 with
 | true=>exact sD hP htb hps hot hxi hB hc
 | false=>
   cases h0 : isT ts i jb with
   | true=>exact vT hP htb hps hot hxi hB hc h0
   | false=>
     cases h1 : isT ts i fL with
     | true=>exact sJ hP htb hps hot hxi hB hc h1
     | false=>
       cases h2 : isT ts i lA with
       | true=>exact wy hP htb hps hot hxi hB hc h2
       | false=>
         cases h3 : isT ts i dI with
         | true=>exact ui IH hP htb hps hot hxi hB hf hc h3
         | false=>
           cases h4 : isT ts i cQ with
           | true=>exact tU IH hP htb hps hot hxi hB hf hc h4
           | false=>exact sf hP htb hps hot hxi hB hc h0 h1 h2 h3 h4
theorem xY {B P tb o : Nat} {ts : List TK} {eT : TypeId} {eV : Value} {f : Nat} (IH : tD B P tb o ts eT eV f) (hP : P < B) (htb : tb < B) : tD B P tb o ts eT eV (f + 1):=by
 intro i w v m J M a7 hf hB;have a0:=hQx IH;have CB:=AD IH hP htb J M a7 hB hf;have hn:=J.tk.len;clear IH J;have co : Hid (OT B w v m):=M;clear M;obtain ⟨i0,be,bb,a9,ar⟩:=info_parts Tryz.infoTI;go_enter Tryz.func62,Tryz.ntmps62;go_wp2_with fail;refine CB.mono ?_;clear CB;intro e V c;obtain ⟨b1,c⟩:=c;obtain ⟨r,H⟩:=xe (aF true ts (tyP true ts f) i);have g : Hid (aF true ts (tyP true ts f) i = r):=H.symm;rw [<- H] at c;clear H;have y : Hid (ai (P :: v.ownBlock.toList) w V):=b1;clear b1
 cases r with
 | none=>
   have c : e = .panicked [{ v:=.iface eT eV,recovered:=false }]:=c;subst c;have K : Hid (tyP true ts (f + 1) i = none):=by show _ = _;rw [tyP,g.out]
   go_wp2;exact ⟨rfl,by rw [K.out];exact ⟨y.out,rfl⟩⟩
 | some r=>
   obtain ⟨l,j⟩:=r;obtain ⟨Z,a,rfl,O1,hl,P1,gr,nw⟩:=c;obtain ⟨f1,f2,f3⟩:=pj (dE f) _ _ _ g.out;have O : Hid (OT B V Z (m ++ a)):=O1;have D : Hid (ag V P tb o j ts eT eV):=P1;have HY : Hid (a.map Prod.fst = l):=hl;have L : Hid (∀ b,Z.ownBlock = some b -> v.ownBlock = some b \/ w.heap.size <= b):=gr;have ah : Hid (∀ b,b ∈ aS a -> w.heap.size <= b):=nw;have cm : a.length = l.length:=by rw [<- hl,List.length_map]
   have cn:=y.out.size;clear O1 hl P1 gr nw;go_wp2_with fail;cases ha : isT ts j iF
   case false=>
    have K : Hid (tyP true ts (f + 1) i = some (l,j)):=by
     show _ = _;rw [tyP,g.out];show (if isT ts j iF = true then _ else _) = _;rw [ha];rfl
    refine (aN ⟨#[45,62]⟩ V D.out ha).mono ?_;rintro e w2 ⟨rfl,rfl⟩;clear ha;go_wp2;go_ret;rw [K.out];exact ⟨y.out,Z,a,rfl,O.out,HY.out,D.out,L.out,ah.out⟩
   refine (bK ⟨#[45,62]⟩ V D.out ha).mono ?_;rintro e w2 ⟨rfl,p2,b2⟩;have a8 : Hid (OT B w2 Z (m ++ a)):=O.out.low b2 (fun b z=>by rw [ms1 z];exact Or.inl hP);have Y : Hid (ai (P :: v.ownBlock.toList) w w2):=y.out.then_ (b2.more (fun k z=>by rw [ms1 z];simp));have ca:=Y.out.size;have C2:=a0.out (j + 1) w2 Z (m ++ a) p2 a8.out (by rw [lap];omega) (by omega) (by omega);clear p2 b2;go_wp2_with fail;refine C2.mono ?_;clear C2;intro e G c;obtain ⟨b3,c⟩:=c;obtain ⟨r,H⟩:=xe (tyP true ts f (j + 1));have N : Hid (tyP true ts f (j + 1) = r):=H.symm;rw [<- H] at c;clear H
   have I : Hid (ai (P :: v.ownBlock.toList) w G):=Y.out.trans b3 (fun k z hk=>by
    simp only [List.mem_cons,Option.mem_toList] at z ⊢;rcases z with z | z
    ·exact Or.inl z
    ·rcases L.out k z with q | q
     ·exact Or.inr q
     ·omega)
   clear b3
   cases r with
   | none=>
     have c : e = .panicked [{ v:=.iface eT eV,recovered:=false }]:=c;subst c
     have K : Hid (tyP true ts (f + 1) i = none):=by
      show _ = _;rw [tyP,g.out];show (if isT ts j iF = true then _ else _) = _;rw [ha,N.out];rfl
     clear ha;go_wp2;exact ⟨rfl,by rw [K.out];exact ⟨I.out,rfl⟩⟩
   | some r=>
     obtain ⟨l2,k⟩:=r;obtain ⟨v3,n,rfl,W,E,P3,S,U⟩:=c;obtain ⟨f4,f5,f6⟩:=dE f _ _ _ N.out;have ch : n.length = l2.length:=by rw [<- E,List.length_map]
     have K : Hid (tyP true ts (f + 1) i = some (l ++ l2 ++ [cV 6],k)):=by
      show _ = _;rw [tyP,g.out];show (if isT ts j iF = true then _ else _) = _;rw [ha,N.out];rfl
     rw [List.append_assoc] at W;obtain ⟨A,p,R⟩:=ad W.own;obtain ⟨u,s⟩:=xe ((m ++ (a ++ n)).length);have F : Hid (u = (m ++ (a ++ n)).length):=s
     have cc : u <= 4000:=by
      rw [s,lap,lap];omega
     rw [<- s] at R;subst R;clear s;have a6 : Hid (OT B G (.slice A u p) (m ++ (a ++ n))):=W;have a2 : Hid (ag G P tb o k ts eT eV):=P3;have a3 : Hid ((a ++ n).map Prod.fst = l ++ l2):=by show _ = _;rw [List.map_append,HY.out,E]
     have ab : Hid (∀ b,(Value.slice A u p).ownBlock = some b -> v.ownBlock = some b \/ w.heap.size <= b):=fun b e=>by
      rcases S b e with q | q
      ·exact L.out b q
      ·exact Or.inr (by omega)
     have X : Hid (∀ b,b ∈ aS (a ++ n) -> w.heap.size <= b):=fun b hb=>by
      rw [dy] at hb;rcases List.mem_append.1 hb with q | q
      ·exact ah.out b q
      ·have:=U b q;omega
     have b8:=I.out.size;have a5 : Hid (G.ownsRow B 80 4 (.slice A u p) u (bg (m ++ (a ++ n)))):=by have z:=W.own;rw [<- F.out] at z;exact z
     clear ha W E P3 S U;go_wp2_with (first | (at_builtin;refine wpList_append_lies _ rfl _ _ 34 rfl B 80 i0 _ 4 64 Tryz.underlying34 be bb a9 ar rfl (by omega) (.slice A u p) (u) (bg (m ++ (a ++ n))) rfl (a5.out.alloc _) ⟨G.heap.size,0,none⟩ 1 1 [.int .i64 6,.string ⟨#[]⟩,.string ⟨#[]⟩,.slice none 0 0] rfl rfl (World.news_of_block (cs:=#[.int .i64 6,.string ⟨#[]⟩,.string ⟨#[]⟩,.slice none 0 0]) (t:=80) (fr:=(0,0)) (heap_alloc_new G _)) (by simp [Value.oneCell']) (by omega) (by unfold maxLen;omega) (by omega) (by simp;omega) (G.heap.size + 1) (by simp) ?_;intro gg Q w5 d T C bo))
     have a1 : Hid (pG B P tb o ts eT eV w v m (some (l ++ l2 ++ [cV 6],k)) (.returned (.slice (some ⟨gg,0,none⟩) (u + 1) Q)) w5):=by
      have z:=jz (ys:=a ++ n) (x:=(cV 6,⟨none,0,0⟩)) hP htb (v:=v) a6.out a2.out I.out ab.out (by rw [<- F.out];exact d) T C (aD.nil _ _ _) (fun h=>absurd rfl h) X.out (fun h=>absurd rfl h);rw [<- F.out,a3.out] at z;exact z
     clear d T C;go_wp2;go_ret;rw [K.out];exact a1.out
theorem mn {B P tb o : Nat} {ts : List TK} {eT : TypeId} {eV : Value} (hP : P < B) (htb : tb < B) : ∀ f,tD B P tb o ts eT eV f
 | 0=>fun _ _ _ _ _ _ _ hf=>absurd hf (Nat.not_lt_zero _)
 | f + 1=>xY (mn hP htb f) hP htb
end Go.Proofs.YtihedobejcaapaaGreatDoor
