/-
  YdB
-/
import Derived.Test.YtihedobejcaapaaGreatDoorCF
import Derived.Test.YtihedobejcaapaaGreatDoorD1
import Derived.Test.YtihedobejcaapaaGreatDoorAE
import Derived.BigQuiet
set_option maxHeartbeats 4000000
set_option maxRecDepth 100000
namespace Go.Proofs.YtihedobejcaapaaGreatDoor
open Go.RowKit
def oK (s : ByteArray) : DC:=⟨1,s,[],[]⟩
def cW (C : Nat -> Nat) (Ln : Nat) (Q : List ByteArray) (k4 p : Nat) : Nat -> List ByteArray
 | 0=>[]
 | j + 1=>if bC (cW C Ln Q k4 p j) (Q.getD (tk C Ln (p + 1 + j) Q.length) e0) = true /\ ¬ k4 = 3 then cW C Ln Q k4 p j else cW C Ln Q k4 p j ++ [Q.getD (tk C Ln (p + 1 + j) Q.length) e0]
def gy (b : Bool) (t : Nat) : List ByteArray:=(List.range t).map fun i=>dP i b
theorem lQ (b : Bool) (t : Nat) : gy b (t + 1) = gy b t ++ [dP t b]:=by
 unfold gy;rw [List.range_succ,List.map_append];rfl
def Dm (a : Nat) : DC:=⟨3,⟨#[113]⟩,[⟨3,⟨#[]⟩,⟨#[]⟩,[]⟩],[⟨1,(a : Int),⟨#[]⟩,⟨#[]⟩,[],[]⟩]⟩
def lZ (l : List TI) : Int:=(l.getD (l.length - 1) (cV 0)).op
def Bz (C : Nat -> Nat) (Ln i q : Nat) (t : List TI × Nat) : List DC × Nat:=([⟨2,if tk C Ln q 32 = 30 then ⟨#[116]⟩ else dP i false,if tk C Ln q 32 = 31 \/ (lZ t.1 = 4 /\ tk C Ln q 32 < 16) then t.1 ++ [⟨5,e0,e0,[⟨#[120]⟩]⟩] else t.1,[]⟩],t.2)
def BU (C : Nat -> Nat) (Ln : Nat) (T V M : List ByteArray) (i q : Nat) (t : List TI × Nat) : List DC × Nat:=([⟨3,if tk C Ln q 32 = 30 then ⟨#[102]⟩ else dP i true,t.1,(dL C Ln T V M 5 t.1 (t.1.length - 1) t.2).1⟩],(dL C Ln T V M 5 t.1 (t.1.length - 1) t.2).2)
def nE (C : Nat -> Nat) (Ln : Nat) (T V M : List ByteArray) (n3 i q : Nat) : List DC × Nat:=
 if i < 1 + n3 then Bz C Ln i q (ba C Ln T M 2 (q + 1)) else BU C Ln T V M (i - (1 + n3)) q (ba C Ln T M 2 (q + 1))
theorem yV {C : Nat -> Nat} {Ln : Nat} {T V M : List ByteArray} {n3 i q q2 b : Nat} {t ty : List TI} {nm : ByteArray} (hi : i < 1 + n3) (hb : b = tk C Ln q 32) (hg : ba C Ln T M 2 (q + 1) = (t,q2)) (hn : nm = if b = 30 then ⟨#[116]⟩ else dP i false) (ht : ty = if b = 31 \/ (lZ t = 4 /\ b < 16) then t ++ [⟨5,e0,e0,[⟨#[120]⟩]⟩] else t) : nE C Ln T V M n3 i q = ([⟨2,nm,ty,[]⟩],q2):=by
 unfold nE;rw [if_pos hi,hg];unfold Bz;rw [<- hb,hn,ht]
theorem y7 {C : Nat -> Nat} {Ln : Nat} {T V M : List ByteArray} {n3 i iv q q2 q3 b : Nat} {t : List TI} {es : List EI} {nm : ByteArray} (hi : ¬ i < 1 + n3) (hiv : iv = i - (1 + n3)) (hb : b = tk C Ln q 32) (hg : ba C Ln T M 2 (q + 1) = (t,q2)) (hn : nm = if b = 30 then ⟨#[102]⟩ else dP iv true) (he : dL C Ln T V M 5 t (t.length - 1) q2 = (es,q3)) : nE C Ln T V M n3 i q = ([⟨3,nm,t,es⟩],q3):=by
 unfold nE;rw [if_neg hi,hg];unfold BU;rw [<- hb,<- hiv,hn];show ([(⟨3,_,t,(dL C Ln T V M 5 t (t.length - 1) q2).1⟩ : DC)],(dL C Ln T V M 5 t (t.length - 1) q2).2) = _;rw [he]
def gB : Nat -> List DC -> List DC
 | 0,ds=>ds
 | n + 1,ds=>if fS ds = true then ds else gB n (ds.take n)
theorem vX {ds : List DC} (h : fS ds = true) : ∀ n,gB n ds = ds
 | 0=>rfl
 | n + 1=>by rw [gB,if_pos h]
theorem wg {ds : List DC} {n : Nat} (h : ¬ fS ds = true) : gB (n + 1) ds = gB n (ds.take n):=by rw [gB,if_neg h]
def Da (C : Nat -> Nat) (Ln : Nat) (Q : List ByteArray) (p k4 : Nat) : List DC × Nat:=((cW C Ln Q k4 p k4).map oK ++ (if 0 < tk C Ln (p + 1 + k4) 16 then [Dm (tk C Ln (p + 1 + k4) 16)] else []),p + 1 + k4 + 1)
def wF (C : Nat -> Nat) (Ln : Nat) (Q : List ByteArray) (p n k4 : Nat) : List DC × Nat:=rp (nE C Ln (gy false (1 + n / 3)) (⟨#[113]⟩ :: gy true (n - (1 + n / 3))) (cW C Ln Q k4 p k4) (n / 3)) (Da C Ln Q p k4) n
def uw (C : Nat -> Nat) (Ln : Nat) (Q : List ByteArray) (p n : Nat) : List DC × Nat:=(gB (wF C Ln Q p n (tk C Ln p 4)).1.length (wF C Ln Q p n (tk C Ln p 4)).1,(wF C Ln Q p n (tk C Ln p 4)).2)
def Dk (w : World) (p : Nat) (r : List DC × Nat) (e : Ending) (w' : World) : Prop:=(∃ (va : Option Addr) (m c q : Nat),e = .returned (.tuple #[.agg #[.slice va m c],.int .i64 (q : Int)]) /\ p <= q /\ q <= p + 200000 /\ Hid (∃ xs,fV w' (.slice va m c) xs /\ m = xs.length /\ fS (xs.map Prod.fst) = true /\ r = (xs.map Prod.fst,q) /\ eX (xs.map Prod.fst) <= 700000)) /\ Hid (Bw w w')
def N0 : Nat -> List ByteArray:=fun i=>if i = 1 then [⟨#[113]⟩] else []
def P0 (b : Nat) : Nat -> NPl:=fun i=>if i = 1 then ⟨some ⟨b,0,none⟩,b,1⟩ else ⟨none,0,0⟩
theorem nf (w : World) {k : Int} {nm : ByteArray} : da 0 w ⟨k,nm,[],[]⟩ pN:=⟨⟨World.ownsRow_nil _ _ _ _,fun x hx=>by cases hx⟩,rfl,⟨World.ownsRow_nil _ _ _ _,fun x hx=>by cases hx⟩,rfl⟩
theorem Ap {k : Int} {nm : ByteArray} (h : nm.size <= 12) : so (⟨k,nm,[],[]⟩,pN):=⟨(fun y hy=>by cases hy),(fun y hy=>by cases hy),Nat.zero_le _,by show nm.size + bQ [] + ed [] <= 104000;have : bQ [] = 0:=rfl;have : ed [] = 0:=rfl;omega⟩
def tI (xs : List (DC × DPl)) : Prop:=∀ x,x ∈ xs -> ∃ k s,x = ((⟨k,s,[],[]⟩ : DC),pN)
theorem tI.ok {xs : List (DC × DPl)} (h : tI xs) (w : World) : ∀ x,x ∈ xs -> da 0 w x.1 x.2:=fun x hx=>by
 obtain ⟨k,s,rfl⟩:=h x hx;exact nf w
theorem DL.imp {B Bn m sb i : Nat} {w w4 : World} {va : Option Addr} {n c K : Nat} {xs : List (DC × DPl)} {o : Obj} {nv u : Value} {l : List Value} {f : Nat -> Value} (h : DL B w va n c K xs) (hi : tI xs) (hn : w.ownsRow Bn 9 1 nv m l) (hg : (w.alloc o).grownBy w4 nv.ownBlock) (hb : w.rowIs sb 76 3 f) : DL B (w4.setCell ⟨sb,i,none⟩ u) va n c K xs:=by
 have a : Kp 9 w w4:=(bG _ w o).trans (bF (hn.alloc o) hg);have b:=az h.own a (by decide);have d:=cA hb a (by decide);refine ⟨aG b (fun k hk2=>Below.heap_setCell _ _ _ _ ?_),h.len,hi.ok _,h.sm,h.cost⟩;have:=own_box b d (by decide);intro e;exact this (by rw [<- hk2,e])
theorem ji {P : Program} {ops : Array Oper} {o : Oper} {a : Act} {w : World} {K : Act -> World -> Prop} {Q : Exit -> Act -> World -> Prop} {E : Prop} (hgd : o.guard = none) (f : FuncId) {xa : Array Operand} {xt : Array TypeId} (_ho : o.op = .call { callee:=.value (.func f),args:=xa,argTypes:=xt }) (vs : Array Value) (hx : (execOp a.eval o).run P w = .ok (.enter f vs) w) (v : Value) (hc : Calls P f vs w fun e w'=>e = .returned v /\ w' = w) (h : K (a.put o.dst v) w) : if Region.wanted o (yielded ops a.tmps) = true then Oper.wp P o a w K Q else E:=by
 have b : Region.wanted o (yielded ops a.tmps) = true:=by simp [Region.wanted,hgd]
 rw [if_pos b];unfold Oper.wp;rw [hx,Oper.upon_enter];refine hc.mono ?_;rintro e w' ⟨rfl,rfl⟩;exact h
theorem zr {w : World} {B : Nat} {ta : Option Addr} {tn tc : Nat} {ys : List (TI × NPl)} {s : ByteArray} (hr : RT B w (.slice ta tn tc) ys) (sm : ∀ y,y ∈ ys -> ku y) (hl : ys.length <= 14) (hs : s.size <= 12) :
  da 0 w (⟨2,s,ys.map Prod.fst,[]⟩ : DC) (⟨.slice ta tn tc,ys,.slice none 0 0,[]⟩ : DPl) /\ so ((⟨2,s,ys.map Prod.fst,[]⟩ : DC),(⟨.slice ta tn tc,ys,.slice none 0 0,[]⟩ : DPl)) /\ cD (⟨2,s,ys.map Prod.fst,[]⟩ : DC) <= 950:=by
 have a : cD (⟨2,s,ys.map Prod.fst,[]⟩ : DC) <= 950:=by
  show s.size + bQ (ys.map Prod.fst) + ed [] <= 950;have c:=kB sm;have b : ed [] = 0:=rfl;omega
 exact ⟨⟨hr.mono (Nat.zero_le _),rfl,⟨World.ownsRow_nil _ _ _ _,(fun x hx=>by cases hx)⟩,rfl⟩,⟨sm,(fun x hx=>by cases hx),hl,Nat.le_trans a (by decide)⟩,a⟩
theorem yS {w : World} {B B2 : Nat} {ta ea : Option Addr} {tn tc en ec X : Nat} {ys : List (TI × NPl)} {es : List (EI × EPl)} {s : ByteArray} (hr : RT B w (.slice ta tn tc) ys) (sm : ∀ y,y ∈ ys -> ku y) (hl : ys.length <= 13) (hs : s.size <= 12) (he : GE B2 0 w ea en ec X es) (hX : X <= 102025) :
  da 0 w (⟨3,s,ys.map Prod.fst,es.map Prod.fst⟩ : DC) (⟨.slice ta tn tc,ys,.slice ea en ec,es⟩ : DPl) /\ so ((⟨3,s,ys.map Prod.fst,es.map Prod.fst⟩ : DC),(⟨.slice ta tn tc,ys,.slice ea en ec,es⟩ : DPl)) /\ cD (⟨3,s,ys.map Prod.fst,es.map Prod.fst⟩ : DC) <= 104000:=by
 have a : cD (⟨3,s,ys.map Prod.fst,es.map Prod.fst⟩ : DC) <= 104000:=by
  show s.size + bQ (ys.map Prod.fst) + ed (es.map Prod.fst) <= 104000;have c:=kB sm;have b:=he.cost;omega
 exact ⟨⟨hr.mono (Nat.zero_le _),rfl,he.re,rfl⟩,⟨sm,he.sm,by show ys.length <= 14;omega,a⟩,a⟩
theorem lX : ∀ (st : List (DC × DPl)) (j : Nat),(bj st).take (j * 4) = bj (st.take j)
 | [],j=>by simp [bj]
 | x :: st,0=>by simp [bj]
 | x :: st,j + 1=>by
   show (fU x ++ bj st).take ((j + 1) * 4) = fU x ++ bj (st.take j);rw [<- lX st j,List.take_append,bz,show (j + 1) * 4 - 4 = j * 4 by omega,List.take_of_length_le (by rw [bz];omega)]
theorem DL.cut {B : Nat} {w : World} {va : Option Addr} {n c K : Nat} {xs : List (DC × DPl)} (h : DL B w va (n + 1) c K xs) : DL B w va n c K (xs.take n):=by
 have p:=h.len;refine ⟨⟨?_,?_⟩,by rw [List.length_take];omega,fun x hx=>h.ok x (List.mem_of_mem_take hx),fun x hx=>h.sm x (List.mem_of_mem_take hx),?_⟩
 ·show (bj (xs.take n)).length = n * 4
  unfold bj;rw [ks fU 4 bz,List.length_take];congr 1;omega
 ·rcases h.own.2 with ⟨b,m⟩ | ⟨g,j,a,b,i,d,o,f,k,l⟩
  ·omega
  ·right
   cases b;refine ⟨g,c,a,rfl,i,d,by omega,f,k,?_⟩;rw [<- lX,<- l,List.take_take,Nat.min_eq_left (by omega)]
 ·refine Nat.le_trans ?_ h.cost
  have e : xs.map Prod.fst = (xs.take n).map Prod.fst ++ (xs.drop n).map Prod.fst:=by rw [<- List.map_append,List.take_append_drop]
  rw [e,rQ];omega
theorem DL.kp {t : TypeId} {B : Nat} {w w' : World} {va : Option Addr} {n c K : Nat} {xs : List (DC × DPl)} (h : DL B w va n c K xs) (hk : Kp t w w') (h0 : 37 ≠ t) (h1 : 65 ≠ t) (h2 : 80 ≠ t) (h3 : 9 ≠ t) : DL B w' va n c K xs:=⟨az h.own hk h0,h.len,fun x hx=>(h.ok x hx).kp hk h1 h2 h3,h.sm,h.cost⟩
theorem mB {t : TypeId} {w : World} {b n i : Nat} {f : Nat -> Value} (h : w.rowIs b t n f) (v : Value) : Kp t w (w.setCell ⟨b,i,none⟩ v):=fun k c t' fr hk hne=>by
 refine Below.heap_setCell _ _ _ _ (fun e=>?_);obtain ⟨c2,h2,_⟩:=h;have e : k = b:=e;rw [e,h2] at hk;simp only [Option.some.injEq,Obj.cells.injEq] at hk;exact hne hk.2.1.symm
theorem DL.dsa {B : Nat} {w : World} {va : Option Addr} {n c K : Nat} {xs : List (DC × DPl)} (h : DL B w va n c K xs) (hK : K <= 1048576) : fV w (.slice va n c) xs:=by
 refine ⟨⟨B,?_⟩,fun x hx=>jJ.of_dr (h.ok x hx) (h.sm x hx),Nat.le_trans h.cost hK⟩;have:=h.own;rw [h.len] at this ⊢;exact this
structure DM (w wr : World) (mb : Nat) (va : Option Addr) (j c K : Nat) (xs : List (DC × DPl)) : Prop where
 hmb : w.heap.size < mb
 bel : Bw w wr
 res : wr.rowIs w.heap.size 25 1 (fun _=>.slice none 0 0)
 mod : wr.rowIs mb 25 1 (fun _=>.slice va j c)
 dl : DL w.heap.size wr va j c K xs
theorem DM.below {w wr w' : World} {mb : Nat} {va : Option Addr} {j c K : Nat} {xs : List (DC × DPl)} (h : DM w wr mb va j c K xs) (hb : Bw wr w') : DM w w' mb va j c K xs:=
 ⟨h.hmb,h.bel.trans (hb.mono h.bel.size),h.res.of_block (hb.block _ h.res.lt),h.mod.of_block (hb.block _ h.mod.lt),h.dl.below hb⟩
theorem DM.step {w wr : World} {mb : Nat} {va : Option Addr} {j c K : Nat} {xs : List (DC × DPl)} (h : DM w wr mb va (j + 1) c K xs) : DM w (wr.setCell ⟨mb,0,none⟩ (.slice va j c)) mb va j c K (xs.take j):=by
 have a:=h.hmb;refine ⟨a,h.bel.setCell (p:=⟨mb,0,none⟩) (by show w.heap.size <= mb;omega) _,h.res.of_block (Below.heap_setCell _ _ _ _ (by show w.heap.size ≠ mb;omega)),?_,h.dl.cut.kp (mB h.mod _) (by decide) (by decide) (by decide) (by decide)⟩;refine (h.mod.set 0 (.slice va j c)).congr (fun k hk=>?_);have : k = 0:=by omega
 rw [if_pos this]
def mlen (w : World) (b : Nat) : Nat:=match w.cell? ⟨b,0,none⟩ with
 | some (.slice _ n _)=>n
 | _=>0
theorem DM.mlen {w wr : World} {mb : Nat} {va : Option Addr} {j c K : Nat} {xs : List (DC × DPl)} (h : DM w wr mb va j c K xs) : mlen wr mb = j:=by
 unfold Go.Proofs.YtihedobejcaapaaGreatDoor.mlen;rw [h.mod.cell (i:=0) (by omega)]
theorem p7 (va : Option Addr) (m vc j : Nat) (hj : j <= vc) (W : World) : (Instr.slice 23 (.slice va m vc) none (some (.int .i64 (j : Int))) none).run Tryz.prog W = .ok (.slice va j vc) W:=by
 have h : (j : Int) <= (vc : Int):=by omega
 simp [go_sem,Tryz.underlying23,h]
theorem ye {W : World} {X : Nat} {f : Nat -> Value} (R : W.rowIs X 25 1 f) (a v : Value) (tmps : Array Value) (h8 : tmps[8]?.getD undef = .pointer (some ⟨X,0,none⟩)) (h9 : tmps[9]?.getD undef = v) :
  (results Tryz.f19 tmps).run Tryz.prog (W.setCell ⟨X,0,none⟩ a) = .ok (.tuple #[.agg #[a],v]) (W.setCell ⟨X,0,none⟩ a):=by
 have r:=R.set 0 a;obtain ⟨V,b⟩:=xe (W.setCell ⟨X,0,none⟩ a);rw [<- b] at r ⊢;clear b R;have c : V.cell? ⟨X,0,none⟩ = some a:=r.cell (i:=0) (by omega);unfold results;rw [show Tryz.f19.results = #[.cell 8 25,.tmp 9] from rfl];simp [go_sem,h8,h9,c]
theorem yf : fS [] = true:=rfl
theorem eN {w : World} {sb : Nat} {N : Nat -> List ByteArray} {P : Nat -> NPl} {w0 : World} (h : DS w0 w sb N P) {i : Nat} (hi : i < 3) : w.cell? ⟨sb,i,none⟩ = some (.slice (P i).a (N i).length (P i).c) /\ w.frozen? ⟨sb,i,none⟩ = false /\ sb < w.heap.size /\ some sb ≠ (Value.slice (P i).a (N i).length (P i).c).ownBlock:=
 ⟨h.box.cell hi,h.box.frozen i,h.box.lt,fun e=>own_box (h.own i hi) h.box (by decide) e.symm⟩
theorem tL (w : World) {ca : Option Addr} {cb co Ln cc p : Nat} {C : Nat -> Nat} (hC : am w ca cb co Ln C) (hLn : Ln <= 1048576) (hp : p <= 100000) {Q : List ByteArray} {mq : NPl} {mc : Nat} (hM : lG w mq Q) (gM : ∀ s,s ∈ Q -> gn s = true) (hM0 : 0 < Q.length) (hM1 : Q.length <= 100) {n : Nat} (hn1 : 1 <= n) (hn10 : n <= 10) :
  Calls Tryz.prog 19 #[.slice ca Ln cc,.int .i64 (p : Int),.slice mq.a Q.length mc,.int .i64 (n : Int)] w (Dk w p (uw C Ln Q p n)):=by
 obtain ⟨r,i2⟩:=xe (uw C Ln Q p n);rw [<- i2];have q1 : Hid (r = uw C Ln Q p n):=i2;clear i2;obtain ⟨i0,fl,eV,e7,fm⟩:=info_parts Tryz.infoDC;obtain ⟨i9,hz,lk,gq,kn⟩:=info_parts Tryz.info9;obtain ⟨W4,eb⟩:=xe ((((w.alloc (.cells #[.slice none 0 0] 25)).alloc (.cells #[] 37)).alloc (.cells #[.string ⟨#[113]⟩] 9)).alloc (.cells #[.slice none 0 0,.slice (some ⟨w.heap.size + 1 + 1,0,none⟩) 1 1,.slice none 0 0] 76));obtain ⟨m,k1⟩:=xe (w.heap.size + 1 + 1 + 1)
 have i5 : Hid (DS w W4 m N0 (P0 (w.heap.size + 1 + 1))):=by
  have ho : ∀ i,i < 3 -> W4.ownsRow w.heap.size 9 1 (.slice (P0 (w.heap.size + 1 + 1) i).a (N0 i).length (P0 (w.heap.size + 1 + 1) i).c) (N0 i).length (ii (N0 i)):=fun i hi=>by
   match i,hi with
   | 0,_=>exact World.ownsRow_nil _ _ _ _
   | 2,_=>exact World.ownsRow_nil _ _ _ _
   | 1,_=>
     rw [eb];refine World.ownsRow.alloc ?_ _;have h:=World.ownsRow_lit (e:=9) (size:=1) ((w.alloc (.cells #[.slice none 0 0] 25)).alloc (.cells #[] 37)) #[.string ⟨#[113]⟩] 1 (nlr _) (by unfold maxLen;omega) (by rfl);simp only [World.size_alloc] at h;exact aq h (by omega)
  refine ⟨by omega,?_,?_,?_,ho,fun i j b hi hj hij hb=>?_,fun i hi s hs=>?_,fun i hi=>?_⟩
  ·rw [eb];exact ((eM _ _ _).alloc (by simp;omega) _).alloc (by simp;omega) _
  ·rw [eb];exact (((aK w (.slice none 0 0) 25).alloc _).alloc _).alloc _
  ·rw [eb,k1]
   have h:=ej (((w.alloc (.cells #[.slice none 0 0] 25)).alloc (.cells #[] 37)).alloc (.cells #[.string ⟨#[113]⟩] 9)) (.slice none 0 0) (.slice (some ⟨w.heap.size + 1 + 1,0,none⟩) 1 1) (.slice none 0 0) 76;simp only [World.size_alloc] at h;refine h.congr (fun i hi=>?_)
   match i,hi with
   | 0,_=>rfl
   | 1,_=>rfl
   | 2,_=>rfl
  ·match i,j,hi,hj with
   | 0,_,_,_=>cases hb
   | 2,_,_,_=>cases hb
   | 1,0,_,_=>exact fun e=>by cases e
   | 1,2,_,_=>exact fun e=>by cases e
   | 1,1,_,_=>exact absurd rfl hij
  ·match i,hi with
   | 0,_=>cases hs
   | 2,_=>cases hs
   | 1,_=>rw [ms1 hs];decide
  ·match i,hi with
   | 0,_=>exact Nat.zero_le _
   | 2,_=>exact Nat.zero_le _
   | 1,_=>show 1 <= 100;omega
 have mg : Hid (DL w.heap.size W4 (some ⟨w.heap.size + 1,0,none⟩) 0 0 0 []):=by
  refine ⟨?_,rfl,(fun x hx=>by cases hx),(fun x hx=>by cases hx),nlr _⟩;rw [eb];have h:=World.ownsRow_lit (e:=37) (size:=4) (w.alloc (.cells #[.slice none 0 0] 25)) #[] 0 (nlr _) (by unfold maxLen;omega) (by rfl);simp only [World.size_alloc] at h;exact aq ((h.alloc _).alloc _) (by omega)
 have di : Hid (∀ W,Bw w W -> am W ca cb co Ln C /\ lG W mq Q):=fun W hb=>⟨hC.below hb,hM.below hb⟩;have q4:=hQx gM;have C1:=aO ca cb co Ln cc p 4 C W4 (di.out W4 i5.out.bel).1 hLn (by omega) (by omega);obtain ⟨F,hF⟩:=xe (tk C Ln p 4);have r6 : F < 4:=by rw [hF];exact cd (by omega)
 rw [<- hF] at C1;have eQ : mq.a = some ⟨mq.b,0,none⟩:=hM.at_ hM0;rw [eQ];have tt : (0 : Int) < (Q.length : Int):=by omega
 have qf : Hid (F = tk C Ln p 4):=hF;clear hC hM gM hF eQ;go_enter Tryz.func19,Tryz.ntmps19;go_wp2_with fail;rw [<- eb,<- k1];clear eb k1;refine C1.mono ?_;rintro e w1 ⟨rfl,rfl⟩;clear C1;go_wp2_with fail
 go_loopw [1,13,15] (fun pp o i wr=>∃ (j q n1 c1 : Nat) (va : Option Addr),j <= F /\ i = .int .i64 j /\ pp = .int .i64 (q : Int) /\ p + 1 <= q /\ q <= p + 1 + j /\ o = .slice va n1 c1 /\ n1 <= j /\ Hid (∃ N P d,DS w wr m N P /\ N 0 = [] /\ N 1 = [⟨#[113]⟩] /\ (N 2).length <= j /\ DL w.heap.size wr va n1 c1 (1000 * j) d /\ tI d /\ q = p + 1 + j /\ N 2 = cW C Ln Q F p j /\ d.map Prod.fst = (cW C Ln Q F p j).map oK)) (fun _ _ i _=>F - (intOf i).toNat)
 case atStart=>exact ⟨0,p + 1,0,0,_,Nat.zero_le _,rfl,rfl,by omega,by omega,rfl,Nat.zero_le _,_,_,_,i5.out,rfl,rfl,Nat.zero_le _,mg.out,(fun x hx=>by cases hx),rfl,rfl,rfl⟩
 case round=>
  clear i5 mg;obtain ⟨j,q,n1,c1,va,hj,rfl,rfl,hw,hn,rfl,nr,HG⟩:=hrel;by_cases gc : j < F
  ·have lj : (j : Int) < (F : Int):=by omega
   obtain ⟨N,P,d,S,fz,eT,hZ,D,hI,eq,f3,g6⟩:=HG.out;have fv : Hid (q = p + 1 + j /\ N 2 = cW C Ln Q F p j /\ d.map Prod.fst = (cW C Ln Q F p j).map oK):=⟨eq,f3,g6⟩;have B : Hid (DS w wr m N P /\ N 0 = [] /\ N 1 = [⟨#[113]⟩] /\ DL w.heap.size wr va n1 c1 (1000 * j) d /\ tI d):=⟨S,fz,eT,D,hI⟩;have iE:=di.out wr S.bel;have C2:=aO ca cb co Ln cc q Q.length C wr iE.1 hLn (by omega) (by omega);obtain ⟨a,ha⟩:=xe (tk C Ln q Q.length);have g9 : a < Q.length:=by rw [ha];exact cd hM0
   rw [<- ha] at C2;have yq:=iE.2.cell a g9;have kb:=q4.out (Q.getD a e0) (by rw [List.getD_eq_getElem?_getD,List.getElem?_eq_getElem g9];exact List.getElem_mem g9);obtain ⟨s,hs⟩:=xe (Q.getD a e0);rw [<- hs] at yq kb;have m7 : Hid (s = Q.getD a e0):=hs;have d3 : Hid (gn s = true):=kb;obtain ⟨c2,f2,b1,ar⟩:=eN S (i:=2) (by omega);have ab:=S.own 2 (by omega);obtain ⟨pa,bx⟩:=xe ((P 2).a);obtain ⟨pc,b4⟩:=xe ((P 2).c);obtain ⟨NL,a0⟩:=xe (N 2);obtain ⟨Z,O⟩:=xe (NL.length);rw [<- bx,<- b4,<- a0,<- O] at c2 ar ab;rw [<- a0,<- O] at hZ;have bb : Hid (pa = (P 2).a /\ pc = (P 2).c /\ NL = N 2 /\ Z = NL.length):=⟨bx,b4,a0,O⟩;have r3 : Z <= 100:=by omega
   obtain ⟨g2,c3⟩:=aW O ab;have C3:=jW wr c3.nsa (va:=pa) (n:=Z) (c:=pc) (Nat.le_of_eq O) (fun h=>(c3 (by rintro rfl;simp at O;omega)).1) (by omega) s;obtain ⟨bt,fs⟩:=xe (bC (NL.take Z) s)
   have d5 : Hid (cW C Ln Q F p (j + 1) = if bt = true /\ ¬ F = 3 then cW C Ln Q F p j else cW C Ln Q F p j ++ [s]):=by
    have e1 : bC (cW C Ln Q F p j) (Q.getD (tk C Ln (p + 1 + j) Q.length) e0) = bt:=by rw [<- eq,<- ha,<- hs,fs,O,List.take_length,a0,f3]
    have e2 : Q.getD (tk C Ln (p + 1 + j) Q.length) e0 = s:=by rw [<- eq,<- ha,<- hs]
    show (if bC (cW C Ln Q F p j) (Q.getD (tk C Ln (p + 1 + j) Q.length) e0) = true /\ ¬ F = 3 then cW C Ln Q F p j else cW C Ln Q F p j ++ [Q.getD (tk C Ln (p + 1 + j) Q.length) e0]) = _;rw [e1,e2]
   rw [<- fs] at C3
   have f1 : Hid (∀ j,Calls Tryz.prog 36 #[.slice pa Z pc,.string s] (wr.drewN j) fun e w'=>e = .returned (.bool bt) /\ ∃ k,w' = (wr.drewN j).drewN k):=fun j=>by
    have h:=jW (wr.drewN j) (c3.below (bh _ _)).nsa (va:=pa) (n:=Z) (c:=pc) (Nat.le_of_eq O) (fun h=>(c3 (by rintro rfl;simp at O;omega)).1) (by omega) s;rw [<- fs] at h;exact h.mono fun _ _ h=>⟨h.1,0,h.2⟩
   have wf : (a : Int) < (Q.length : Int):=by omega
   have wh : (0 : Int) <= (a : Int):=by omega
   clear C3 c3 fs bx b4 a0 O hs ha kb iE S D hI fz eT ab eq f3 g6;go_wp2_with fail;refine C2.mono ?_;rintro e w5 ⟨rfl,rfl⟩;clear C2;go_wp2_with fail;by_cases fi : bt = true /\ ¬ F = 3
   ·have b3 : ((F : Int) == 3) = false:=bn2 (by omega)
    have fs:=fi.1;have hh : Hid (cW C Ln Q F p (j + 1) = cW C Ln Q F p j):=by show _ = _;rw [d5.out,if_pos fi]
    clear fi d5;subst fs;go_quiet (first | (go_at_call 36;first | (with_reducible exact Calls.quiet_of (f1.out _)) | (with_reducible exact jA (f1.out _))));obtain ⟨U,b2⟩:=xe (wr.drewN nq);rw [<- b2];have a5 : Hid (Bw wr U):=by rw [b2];exact bh _ _
    clear b2 c2 f2 yq ar b1 f1;go_wp2;refine ⟨⟨j + 1,q + 1,n1,c1,va,by omega,by go_num,rfl,by omega,by omega,rfl,by omega,N,P,d,B.out.1.below a5.out,B.out.2.1,B.out.2.2.1,?_,(B.out.2.2.2.1.below a5.out).mono (by omega),B.out.2.2.2.2,by have:=fv.out.1;omega,by rw [hh.out];exact fv.out.2.1,by rw [hh.out];exact fv.out.2.2⟩,by simp [intOf];omega⟩;rw [<- bb.out.2.2.1,<- bb.out.2.2.2];omega
   ·have hh : Hid (cW C Ln Q F p (j + 1) = cW C Ln Q F p j ++ [s]):=by show _ = _;rw [d5.out,if_neg fi]
    clear d5;cases bt
    all_goals
     try (have b3 : ((F : Int) == 3) = true:=beq_iff_eq.2 (by simp at fi;omega))
     clear fi;go_quiet (first | (go_at_call 36;first | (with_reducible exact Calls.quiet_of (f1.out _)) | (with_reducible exact jA (f1.out _))));obtain ⟨U,b2⟩:=xe (wr.drewN nq);rw [<- b2];have a5 : Hid (Bw wr U):=by rw [b2];exact bh _ _
     clear b2 c2 f2 yq ar b1 f1;have be : Hid (DS w U m N P):=B.out.1.below a5.out;have el : Hid (DL w.heap.size U va n1 c1 (1000 * j) d):=B.out.2.2.2.1.below a5.out;have yq:=(di.out U be.out.bel).2.cell a g9;rw [<- m7.out] at yq;have bn:=el.out.own;have r8:=be.out.bel.size;go_upto_region 11 with (first | (at_builtin;refine wpList_append_lies _ rfl _ _ 23 rfl w.heap.size 37 i0 _ 4 72 Tryz.underlying23 fl eV e7 fm rfl (by omega) (.slice va n1 c1) n1 (bj d) rfl (bn.alloc _) ⟨U.heap.size,0,none⟩ 1 1 [.int .i64 1,.string s,.slice none 0 0,.slice none 0 0] rfl rfl (World.news_of_block (cs:=#[.int .i64 1,.string s,.slice none 0 0,.slice none 0 0]) (t:=37) (fr:=(0,0)) (heap_alloc_new U _)) (by simp [Value.oneCell']) (by omega) (by unfold maxLen;omega) (by omega) (by simp only [World.size_alloc];omega) (U.heap.size + 1) (by simp) ?_;intro gD bp w7 A Y cn ce));have HX : Hid (fU ((⟨1,s,[],[]⟩ : DC),pN) = [.int .i64 1,.string s,.slice none 0 0,.slice none 0 0]):=rfl;have p6 : Hid (DL w.heap.size w7 (some ⟨gD,0,none⟩) (n1 + 1) bp (1000 * (j + 1)) (d ++ [((⟨1,s,[],[]⟩ : DC),pN)])):=el.out.push (x:=((⟨1,s,[],[]⟩ : DC),pN)) (by rw [HX.out];exact A) Y (nf _) (Ap (dr d3.out)) (by show 1000 * j + 1 + (s.size + bQ [] + ed []) <= _;have:=dr d3.out;have : bQ [] = 0:=rfl;have : ed [] = 0:=rfl;omega);have fo : Hid (DS w w7 m N P):=be.out.decl el.out Y
     have n5 : Hid (tI (d ++ [((⟨1,s,[],[]⟩ : DC),pN)])):=fun x hx=>by
      rcases List.mem_append.1 hx with z | z
      ·exact B.out.2.2.2.2 x z
      ·exact ⟨1,s,ms1 z⟩
     clear A Y cn ce bn yq HX;have yq:=(di.out w7 fo.out.bel).2.cell a g9;rw [<- m7.out] at yq;obtain ⟨c2,f2,b1,ar⟩:=eN fo.out (i:=2) (by omega);have ab:=fo.out.own 2 (by omega);rw [<- bb.out.1,<- bb.out.2.1,<- bb.out.2.2.1,<- bb.out.2.2.2] at c2 ar ab;have dd : ((w7.alloc (.cells #[.string s] 9)).drew).cell? ⟨m,2,none⟩ = some (.slice pa Z pc):=(World.cell?_of_block (a:=⟨m,2,none⟩) (Below.heap_alloc w7 _ _ b1)).trans c2;have c7 : ((w7.alloc (.cells #[.string s] 9)).drew).frozen? ⟨m,2,none⟩ = false:=(World.frozen?_of_block (a:=⟨m,2,none⟩) (Below.heap_alloc w7 _ _ b1)).trans f2;have g8 : (Z + 1) * 16 <= 140737488355328:=by omega
     have c9 : Z + 1 <= maxLen:=by unfold maxLen;omega
     have r7:=fo.out.bel.size
     go_region_law (refine step_append_lies _ (by rfl) _ _ _ (by rfl) w.heap.size 9 i9 _ 1 16 Tryz.underlying52 hz lk gq kn rfl (by omega) (.slice pa Z pc) Z (ii NL) (by rfl) ((ab.alloc _).drew) ⟨w7.heap.size,0,none⟩ 1 1 [.string s] (by rfl) (by rfl) (World.news_of_block (cs:=#[.string s]) (t:=9) (fr:=(0,0)) (heap_alloc_new w7 _)) (by simp [Value.oneCell']) (by omega) c9 g8 (by simp;omega) (w7.heap.size + 1) (by simp) ?_;intro gg I w4 G l bL hR;have e1 : w4.cell? ⟨m,2,none⟩ = some (.slice pa Z pc):=(l.cell_far ⟨m,2,none⟩ (by simp;omega) ar).trans dd;have e2 : w4.frozen? ⟨m,2,none⟩ = false:=(l.frozen_far ⟨m,2,none⟩ (by simp;omega) ar).trans c7)
     all_goals
      have a3 : (w7.alloc (.cells #[.string s] 9)).grownBy w4 (Value.slice pa Z pc).ownBlock:=⟨l.os,l.tape,l.output,l.size,l.block⟩
      have gr : Hid (DS w (w4.setCell ⟨m,2,none⟩ (.slice (some ⟨gg,0,none⟩) (Z + 1) I)) m (pE N 2 (N 2 ++ [s])) (pE P 2 ⟨some ⟨gg,0,none⟩,gg,I⟩)):=by
       obtain ⟨e1,e2,e3,e4⟩:=bb.out;rw [e1,e2,e4,e3] at a3 bL;rw [e4,e3] at G;rw [e4,e3];exact fo.out.grow (by omega) d3.out (by rw [<- e3,<- e4];omega) G a3 bL
      have g5 : Hid (DL w.heap.size (w4.setCell ⟨m,2,none⟩ (.slice (some ⟨gg,0,none⟩) (Z + 1) I)) (some ⟨gD,0,none⟩) (n1 + 1) bp (1000 * (j + 1)) (d ++ [((⟨1,s,[],[]⟩ : DC),pN)])):=p6.out.imp n5.out ab a3 fo.out.box;clear a3 G l bL e1 e2 c2 f2 dd c7 ab yq;go_wp2;refine ⟨⟨j + 1,q + 1,n1 + 1,bp,some ⟨gD,0,none⟩,by omega,by go_num,rfl,by omega,by omega,rfl,by omega,pE N 2 (N 2 ++ [s]),pE P 2 ⟨some ⟨gg,0,none⟩,gg,I⟩,_,gr.out,?_,?_,?_,g5.out,n5.out,by have:=fv.out.1;omega,by rw [ci,hh.out,fv.out.2.1],by rw [hh.out,List.map_append,List.map_append,fv.out.2.2];rfl⟩,by simp [intOf];omega⟩
      ·rw [bc _ _ (by omega)];exact B.out.2.1
      ·rw [bc _ _ (by omega)];exact B.out.2.2.1
      ·rw [ci,lap,<- bb.out.2.2.1,<- bb.out.2.2.2]
       show Z + 1 <= j + 1;omega
  ·have lj : ¬ (j : Int) < (F : Int):=by omega
   have hr : j = F:=by omega
   obtain ⟨N,P,d,S,fz,eT,hZ,D,hI,eq,f3,g6⟩:=HG.out;have it : Hid (q = p + 1 + F /\ d.map Prod.fst = (cW C Ln Q F p F).map oK):=⟨by rw [eq,hr],by rw [g6,hr]⟩;have nd : Hid (∃ N P,DS w wr m N P /\ ((N 0).length = 0 /\ (N 1).length = 1 /\ (N 2).length <= 3) /\ DL w.heap.size wr va n1 c1 4000 d /\ tI d /\ N 0 = gy false 0 /\ N 1 = ⟨#[113]⟩ :: gy true 0 /\ N 2 = cW C Ln Q F p F):=⟨N,P,S,⟨by rw [fz];rfl,by rw [eT];rfl,by omega⟩,D.mono (by omega),hI,by rw [fz];rfl,by rw [eT];rfl,by rw [f3,hr]⟩;have m3 : Int.tdiv (n : Int) 3 = ((n / 3 : Nat) : Int):=kw n 3;obtain ⟨E,k2⟩:=xe (n / 3);rw [<- k2] at m3;have st : E <= 3 /\ E < n:=by omega
   have q0 : Hid (E = n / 3):=k2;have l3 : Hid (n - (1 + E) <= 6):=(by omega : n - (1 + E) <= 6);have w3 : IntKind.i64.wrap (1 + (E : Int)) = 1 + (E : Int):=wk (by omega);have m9 : p + 1 <= q /\ q <= p + 1 + 3:=by omega
   have n0 : n1 <= 3:=by omega
   clear S D hI fz eT hZ HG k2 hr nr hw hn eq f3 g6;have HG:=nd;clear nd;go_wp2
   go_loopw [17] (fun i wr=>∃ t : Nat,t <= (1 + E) /\ i = .int .i64 t /\ Hid (∃ N P,DS w wr m N P /\ ((N 0).length = t /\ (N 1).length = 1 /\ (N 2).length <= 3) /\ DL w.heap.size wr va n1 c1 4000 d /\ tI d /\ N 0 = gy false t /\ N 1 = ⟨#[113]⟩ :: gy true 0 /\ N 2 = cW C Ln Q F p F)) (fun i _=>(1 + E) - (intOf i).toNat)
   case atStart=>exact ⟨0,Nat.zero_le _,rfl,HG⟩
   case round=>
    rename World=>wr;clear HG;obtain ⟨t,ht,rfl,HG⟩:=hrel;by_cases gc : t < (1 + E)
    ·have kE : (t : Int) < 1 + (E : Int):=by omega
     obtain ⟨N,P,S,hN,D,hI,cz⟩:=HG.out;have a9 : Hid (N 0 = gy false t /\ N 1 = ⟨#[113]⟩ :: gy true 0 /\ N 2 = cW C Ln Q F p F):=cz;clear cz;have B : Hid (DS w wr m N P /\ (((N 0).length = t /\ (N 1).length = 1 /\ (N 2).length <= 3)) /\ DL w.heap.size wr va n1 c1 4000 d /\ tI d):=⟨S,hN,D,hI⟩;obtain ⟨c2,f2,b1,ar⟩:=eN S (i:=0) (by omega);have ab:=S.own 0 (by omega);have gv : (N 0).length <= 50:=by omega
     obtain ⟨pa,bx⟩:=xe ((P 0).a);obtain ⟨pc,b4⟩:=xe ((P 0).c);obtain ⟨NL,a0⟩:=xe (N 0);obtain ⟨Z,O⟩:=xe (NL.length);rw [<- bx,<- b4,<- a0,<- O] at c2 ar ab;rw [<- a0,<- O] at gv;have bb : Hid (pa = (P 0).a /\ pc = (P 0).c /\ NL = N 0 /\ Z = NL.length):=⟨bx,b4,a0,O⟩;obtain ⟨s,hs⟩:=xe (dP t false);have CD : Hid (∀ W,Calls Tryz.prog 37 #[.int .i64 (t : Int),.bool false] W fun e w'=>e = .returned (.string s) /\ w' = W):=fun W=>by rw [hs];exact mt t false W
     have d3 : Hid (gn s = true):=by rw [hs];exact (jS t false).1
     have dd : ((wr.alloc (.cells #[.string s] 9)).drew).cell? ⟨m,0,none⟩ = some (.slice pa Z pc):=(World.cell?_of_block (a:=⟨m,0,none⟩) (Below.heap_alloc wr _ _ b1)).trans c2;have c7 : ((wr.alloc (.cells #[.string s] 9)).drew).frozen? ⟨m,0,none⟩ = false:=(World.frozen?_of_block (a:=⟨m,0,none⟩) (Below.heap_alloc wr _ _ b1)).trans f2;have g8 : (Z + 1) * 16 <= 140737488355328:=by omega
     have c9 : Z + 1 <= maxLen:=by unfold maxLen;omega
     have na:=S.bel.size;have f8 : Hid (s = dP t false):=hs;clear bx b4 a0 O hs S D hI hN HG;go_wp2
     go_region_law (first | (refine ji (by rfl) 37 (by rfl) #[.int .i64 (t : Int),.bool false] (by kernel_rfl) (.string s) (CD.out _) ?_) | (refine step_append_lies _ (by rfl) _ _ _ (by rfl) w.heap.size 9 i9 _ 1 16 Tryz.underlying52 hz lk gq kn rfl (by omega) (.slice pa Z pc) Z (ii NL) (by rfl) ((ab.alloc _).drew) ⟨wr.heap.size,0,none⟩ 1 1 [.string s] (by rfl) (by rfl) (World.news_of_block (cs:=#[.string s]) (t:=9) (fr:=(0,0)) (heap_alloc_new wr _)) (by simp [Value.oneCell']) (by omega) c9 g8 (by simp;omega) (wr.heap.size + 1) (by simp) ?_;intro gg I w4 G l bL hR;have e1 : w4.cell? ⟨m,0,none⟩ = some (.slice pa Z pc):=(l.cell_far ⟨m,0,none⟩ (by simp;omega) ar).trans dd;have e2 : w4.frozen? ⟨m,0,none⟩ = false:=(l.frozen_far ⟨m,0,none⟩ (by simp;omega) ar).trans c7))
     all_goals
      have a3 : (wr.alloc (.cells #[.string s] 9)).grownBy w4 (Value.slice pa Z pc).ownBlock:=⟨l.os,l.tape,l.output,l.size,l.block⟩
      have gr : Hid (DS w (w4.setCell ⟨m,0,none⟩ (.slice (some ⟨gg,0,none⟩) (Z + 1) I)) m (pE N 0 (N 0 ++ [s])) (pE P 0 ⟨some ⟨gg,0,none⟩,gg,I⟩)):=by
       obtain ⟨e1,e2,e3,e4⟩:=bb.out;rw [e1,e2,e4,e3] at a3 bL;rw [e4,e3] at G;rw [e4,e3];exact B.out.1.grow (by omega) d3.out (by rw [<- e3,<- e4];omega) G a3 bL
      have g5 : Hid (DL w.heap.size (w4.setCell ⟨m,0,none⟩ (.slice (some ⟨gg,0,none⟩) (Z + 1) I)) va n1 c1 4000 d):=B.out.2.2.1.imp B.out.2.2.2 ab a3 B.out.1.box;clear a3 G l bL e1 e2 c2 f2 dd c7 ab;go_wp2;refine ⟨⟨t + 1,by omega,by go_num,pE N 0 (N 0 ++ [s]),pE P 0 ⟨some ⟨gg,0,none⟩,gg,I⟩,gr.out,?_,g5.out,B.out.2.2.2,by rw [ci,a9.out.1,f8.out,lQ],by rw [bc _ _ (by omega)];exact a9.out.2.1,by rw [bc _ _ (by omega)];exact a9.out.2.2⟩,by simp [intOf];omega⟩;obtain ⟨h0,h1,h2⟩:=B.out.2.1;refine ⟨?_,?_,?_⟩
      ·rw [ci,lap,h0];rfl
      ·rw [bc _ _ (by omega)];exact h1
      ·rw [bc _ _ (by omega)];exact h2
    ·have kE : ¬ (t : Int) < 1 + (E : Int):=by omega
     have k0 : t = 1 + E:=by omega
     subst k0;obtain ⟨nv,pb⟩:=xe (n - (1 + E));have sr : 1 + E + nv = n:=by omega
     have wv : IntKind.i64.wrap ((n : Int) - (1 + (E : Int))) = (nv : Int):=wk (by omega);clear pb;go_wp2
     go_loopw [18] (fun i wr=>∃ t : Nat,t <= nv /\ i = .int .i64 t /\ Hid (∃ N P,DS w wr m N P /\ ((N 0).length = 1 + E /\ (N 1).length = 1 + t /\ (N 2).length <= 3) /\ DL w.heap.size wr va n1 c1 4000 d /\ tI d /\ N 0 = gy false (1 + E) /\ N 1 = ⟨#[113]⟩ :: gy true t /\ N 2 = cW C Ln Q F p F)) (fun i _=>nv - (intOf i).toNat)
     case atStart=>exact ⟨0,Nat.zero_le _,rfl,HG⟩
     case round=>
      rename World=>wr;clear HG;obtain ⟨t,ht,rfl,HG⟩:=hrel;by_cases gc : t < nv
      ·have kE : (t : Int) < (nv : Int):=by omega
       obtain ⟨N,P,S,hN,D,hI,cz⟩:=HG.out;have a9 : Hid (N 0 = gy false (1 + E) /\ N 1 = ⟨#[113]⟩ :: gy true t /\ N 2 = cW C Ln Q F p F):=cz;clear cz;have B : Hid (DS w wr m N P /\ (((N 0).length = 1 + E /\ (N 1).length = 1 + t /\ (N 2).length <= 3)) /\ DL w.heap.size wr va n1 c1 4000 d /\ tI d):=⟨S,hN,D,hI⟩;obtain ⟨c2,f2,b1,ar⟩:=eN S (i:=1) (by omega);have ab:=S.own 1 (by omega);have gv : (N 1).length <= 50:=by omega
       obtain ⟨pa,bx⟩:=xe ((P 1).a);obtain ⟨pc,b4⟩:=xe ((P 1).c);obtain ⟨NL,a0⟩:=xe (N 1);obtain ⟨Z,O⟩:=xe (NL.length);rw [<- bx,<- b4,<- a0,<- O] at c2 ar ab;rw [<- a0,<- O] at gv;have bb : Hid (pa = (P 1).a /\ pc = (P 1).c /\ NL = N 1 /\ Z = NL.length):=⟨bx,b4,a0,O⟩;obtain ⟨s,hs⟩:=xe (dP t true);have CD : Hid (∀ W,Calls Tryz.prog 37 #[.int .i64 (t : Int),.bool true] W fun e w'=>e = .returned (.string s) /\ w' = W):=fun W=>by rw [hs];exact mt t true W
       have d3 : Hid (gn s = true):=by rw [hs];exact (jS t true).1
       have dd : ((wr.alloc (.cells #[.string s] 9)).drew).cell? ⟨m,1,none⟩ = some (.slice pa Z pc):=(World.cell?_of_block (a:=⟨m,1,none⟩) (Below.heap_alloc wr _ _ b1)).trans c2;have c7 : ((wr.alloc (.cells #[.string s] 9)).drew).frozen? ⟨m,1,none⟩ = false:=(World.frozen?_of_block (a:=⟨m,1,none⟩) (Below.heap_alloc wr _ _ b1)).trans f2;have g8 : (Z + 1) * 16 <= 140737488355328:=by omega
       have c9 : Z + 1 <= maxLen:=by unfold maxLen;omega
       have na:=S.bel.size;have f8 : Hid (s = dP t true):=hs;clear bx b4 a0 O hs S D hI hN HG;go_wp2
       go_region_law (first | (refine ji (by rfl) 37 (by rfl) #[.int .i64 (t : Int),.bool true] (by kernel_rfl) (.string s) (CD.out _) ?_) | (refine step_append_lies _ (by rfl) _ _ _ (by rfl) w.heap.size 9 i9 _ 1 16 Tryz.underlying52 hz lk gq kn rfl (by omega) (.slice pa Z pc) Z (ii NL) (by rfl) ((ab.alloc _).drew) ⟨wr.heap.size,0,none⟩ 1 1 [.string s] (by rfl) (by rfl) (World.news_of_block (cs:=#[.string s]) (t:=9) (fr:=(0,0)) (heap_alloc_new wr _)) (by simp [Value.oneCell']) (by omega) c9 g8 (by simp;omega) (wr.heap.size + 1) (by simp) ?_;intro gg I w4 G l bL hR;have e1 : w4.cell? ⟨m,1,none⟩ = some (.slice pa Z pc):=(l.cell_far ⟨m,1,none⟩ (by simp;omega) ar).trans dd;have e2 : w4.frozen? ⟨m,1,none⟩ = false:=(l.frozen_far ⟨m,1,none⟩ (by simp;omega) ar).trans c7))
       all_goals
        have a3 : (wr.alloc (.cells #[.string s] 9)).grownBy w4 (Value.slice pa Z pc).ownBlock:=⟨l.os,l.tape,l.output,l.size,l.block⟩
        have gr : Hid (DS w (w4.setCell ⟨m,1,none⟩ (.slice (some ⟨gg,0,none⟩) (Z + 1) I)) m (pE N 1 (N 1 ++ [s])) (pE P 1 ⟨some ⟨gg,0,none⟩,gg,I⟩)):=by
         obtain ⟨e1,e2,e3,e4⟩:=bb.out;rw [e1,e2,e4,e3] at a3 bL;rw [e4,e3] at G;rw [e4,e3];exact B.out.1.grow (by omega) d3.out (by rw [<- e3,<- e4];omega) G a3 bL
        have g5 : Hid (DL w.heap.size (w4.setCell ⟨m,1,none⟩ (.slice (some ⟨gg,0,none⟩) (Z + 1) I)) va n1 c1 4000 d):=B.out.2.2.1.imp B.out.2.2.2 ab a3 B.out.1.box;clear a3 G l bL e1 e2 c2 f2 dd c7 ab;go_wp2;refine ⟨⟨t + 1,by omega,by go_num,pE N 1 (N 1 ++ [s]),pE P 1 ⟨some ⟨gg,0,none⟩,gg,I⟩,gr.out,?_,g5.out,B.out.2.2.2,by rw [bc _ _ (by omega)];exact a9.out.1,by rw [ci,a9.out.2.1,f8.out,lQ];rfl,by rw [bc _ _ (by omega)];exact a9.out.2.2⟩,by simp [intOf];omega⟩;obtain ⟨h0,h1,h2⟩:=B.out.2.1;refine ⟨?_,?_,?_⟩
        ·rw [bc _ _ (by omega)];exact h0
        ·rw [ci,lap,h1];show 1 + t + 1 = 1 + (t + 1);omega
        ·rw [bc _ _ (by omega)];exact h2
      ·have kE : ¬ (t : Int) < (nv : Int):=by omega
       have k0 : t = nv:=by omega
       subst k0;obtain ⟨N,P,S,hN,D,hI,cz⟩:=HG.out;have a9 : Hid (N 0 = gy false (1 + E) /\ N 1 = ⟨#[113]⟩ :: gy true t /\ N 2 = cW C Ln Q F p F):=cz;have p8 : Hid (t = n - (1 + E)):=(by omega : t = n - (1 + E));clear cz
       have nQ : Hid (∀ W,DS w W m N P -> ∃ tp vp mp : NPl,Sc W (N 0) (N 1) (N 2) tp vp mp /\ tp.a = (P 0).a /\ tp.c = (P 0).c /\ vp.a = (P 1).a /\ vp.c = (P 1).c /\ mp.a = (P 2).a /\ mp.c = (P 2).c):=fun W S=>by
        obtain ⟨g0,m0⟩:=aW rfl (S.own 0 (by omega));obtain ⟨g1,m1⟩:=aW rfl (S.own 1 (by omega));obtain ⟨g2,m2⟩:=aW rfl (S.own 2 (by omega));have l0:=S.len 0 (by omega);have l1:=S.len 1 (by omega);have l2:=S.len 2 (by omega);exact ⟨_,_,_,⟨m0.nsa,m1.nsa,m2.nsa,S.good 0 (by omega),S.good 1 (by omega),S.good 2 (by omega),⟨by omega,df (S.own 0 (by omega))⟩,⟨by omega,df (S.own 1 (by omega))⟩,⟨by omega,df (S.own 2 (by omega))⟩⟩,rfl,rfl,rfl,rfl,rfl,rfl⟩
       have m6 : 0 < (N 1).length /\ (N 1).length + 4 <= 1000:=by omega
       have fn : Hid (DS w wr m N P /\ DL w.heap.size wr va n1 c1 4000 d /\ tI d):=⟨S,D,hI⟩;have C6:=aO ca cb co Ln cc q 16 C wr (di.out wr S.bel).1 hLn (by omega) (by omega);obtain ⟨b7,hl⟩:=xe (tk C Ln q 16);rw [<- hl] at C6;obtain ⟨s0,ly⟩:=xe (Da C Ln Q p F);have qk : Hid (s0 = Da C Ln Q p F):=ly;have n6 : Hid (s0 = ((cW C Ln Q F p F).map oK ++ (if 0 < b7 then [Dm b7] else []),q + 1)):=by rw [ly,hl,it.out.1];exact rfl
       clear hl S D hI hN HG ly;go_wp2_with fail;refine C6.mono ?_;rintro e w5 ⟨rfl,rfl⟩;clear C6;go_upto_if 117 with fail
       go_cut [13] (fun o wc=>∃ (va : Option Addr) (n1 c1 : Nat),o = .slice va n1 c1 /\ n1 <= 4 /\ Hid (∃ d,DS w wc m N P /\ DL w.heap.size wc va n1 c1 5000 d /\ s0 = (d.map Prod.fst,q + 1)))
       case first=>
        by_cases h0 : (0 : Int) < (b7 : Int)
        ·obtain ⟨WT,e8⟩:=xe ((wr.alloc (.cells #[.int .i64 3,.string ⟨#[]⟩,.string ⟨#[]⟩,.slice none 0 0] 80)).alloc (.cells #[.int .i64 1,.int .i64 (b7 : Int),.string ⟨#[]⟩,.string ⟨#[]⟩,.slice none 0 0,.slice none 0 0] 65))
         have ob : Hid (Bw wr WT):=by rw [e8];exact eM _ _ _
         have d5 : Hid (DS w WT m N P):=fn.out.1.below ob.out;have i3 : Hid (DL w.heap.size WT va n1 c1 4000 d):=fn.out.2.1.below ob.out;have h8 : WT.heap.size = wr.heap.size + 1 + 1:=by rw [e8];simp
         have t0:=hQx h8
         have p5 : Hid (RT 0 WT (.slice (some ⟨wr.heap.size,0,none⟩) 1 1) [((⟨3,⟨#[]⟩,⟨#[]⟩,[]⟩ : TI),(⟨none,0,0⟩ : NPl))]):=by
          rw [e8];exact (pK wr (Nat.zero_le _) 3 ⟨#[]⟩ ⟨#[]⟩).below (bel1 _ _)
         have hX : Hid (GE 0 0 WT (some ⟨wr.heap.size + 1,0,none⟩) 1 1 25 [((⟨1,(b7 : Int),⟨#[]⟩,⟨#[]⟩,[],[]⟩ : EI),im)]):=by
          rw [e8];have h:=iz (wr.alloc (.cells #[.int .i64 3,.string ⟨#[]⟩,.string ⟨#[]⟩,.slice none 0 0] 80)) (Bi:=0) (X:=25) 1 (b7 : Int) (md:=⟨#[]⟩) (nm:=⟨#[]⟩) (by decide);simp only [World.size_alloc] at h;exact h.mono (Nat.zero_le _) (nlr _) (nlr _)
         have g3 : Hid (∀ j u,([.int .i64 3,.string ⟨#[113]⟩,.slice (some ⟨wr.heap.size,0,none⟩) 1 1,.slice (some ⟨wr.heap.size + 1,0,none⟩) 1 1] : List Value)[j]? = some u -> (WT.alloc (.cells #[.int .i64 3,.string ⟨#[113]⟩,.slice (some ⟨wr.heap.size,0,none⟩) 1 1,.slice (some ⟨wr.heap.size + 1,0,none⟩) 1 1] 37)).cell? ((⟨wr.heap.size + 1 + 1,0,none⟩ : Addr).add j) = some u):=by
          have h:=World.news_of_block (cs:=#[.int .i64 3,.string ⟨#[113]⟩,.slice (some ⟨wr.heap.size,0,none⟩) 1 1,.slice (some ⟨wr.heap.size + 1,0,none⟩) 1 1]) (t:=37) (fr:=(0,0)) (heap_alloc_new WT (.cells #[.int .i64 3,.string ⟨#[113]⟩,.slice (some ⟨wr.heap.size,0,none⟩) 1 1,.slice (some ⟨wr.heap.size + 1,0,none⟩) 1 1] 37));rw [h8] at h;exact h
         have bn : (WT.alloc (.cells #[.int .i64 3,.string ⟨#[113]⟩,.slice (some ⟨wr.heap.size,0,none⟩) 1 1,.slice (some ⟨wr.heap.size + 1,0,none⟩) 1 1] 37)).ownsRow w.heap.size 37 4 (.slice va n1 c1) n1 (bj d):=i3.out.own.alloc _;have r4:=d5.out.bel.size;rw [e8] at bn g3;have tb:=fn.out.1.bel.size;clear h8;go_wp2_with (first | (at_builtin;refine wpList_append_lies _ rfl _ _ 23 rfl w.heap.size 37 i0 _ 4 72 Tryz.underlying23 fl eV e7 fm rfl (by omega) (.slice va n1 c1) n1 (bj d) rfl bn ⟨wr.heap.size + 1 + 1,0,none⟩ 1 1 [.int .i64 3,.string ⟨#[113]⟩,.slice (some ⟨wr.heap.size,0,none⟩) 1 1,.slice (some ⟨wr.heap.size + 1,0,none⟩) 1 1] rfl rfl g3.out (by simp [Value.oneCell']) (by omega) (by unfold maxLen;omega) (by omega) (by simp only [World.size_alloc];omega) (wr.heap.size + 1 + 1 + 1) (by simp) ?_;intro gD bp w7 A Y cn ce));go_meet;rw [<- e8] at Y;have HX : Hid (fU ((⟨3,⟨#[113]⟩,[⟨3,⟨#[]⟩,⟨#[]⟩,[]⟩],[⟨1,(b7 : Int),⟨#[]⟩,⟨#[]⟩,[],[]⟩]⟩ : DC),(⟨.slice (some ⟨wr.heap.size,0,none⟩) 1 1,[((⟨3,⟨#[]⟩,⟨#[]⟩,[]⟩ : TI),(⟨none,0,0⟩ : NPl))],.slice (some ⟨wr.heap.size + 1,0,none⟩) 1 1,[((⟨1,(b7 : Int),⟨#[]⟩,⟨#[]⟩,[],[]⟩ : EI),im)]⟩ : DPl)) = [.int .i64 3,.string ⟨#[113]⟩,.slice (some ⟨wr.heap.size,0,none⟩) 1 1,.slice (some ⟨wr.heap.size + 1,0,none⟩) 1 1]):=rfl;refine ⟨_,_,_,rfl,by omega,_,d5.out.decl i3.out Y,i3.out.push (x:=((⟨3,⟨#[113]⟩,[⟨3,⟨#[]⟩,⟨#[]⟩,[]⟩],[⟨1,(b7 : Int),⟨#[]⟩,⟨#[]⟩,[],[]⟩]⟩ : DC),(⟨.slice (some ⟨wr.heap.size,0,none⟩) 1 1,[((⟨3,⟨#[]⟩,⟨#[]⟩,[]⟩ : TI),(⟨none,0,0⟩ : NPl))],.slice (some ⟨wr.heap.size + 1,0,none⟩) 1 1,[((⟨1,(b7 : Int),⟨#[]⟩,⟨#[]⟩,[],[]⟩ : EI),im)]⟩ : DPl))) (by rw [HX.out];exact A) Y ⟨p5.out,rfl,⟨hX.out.own,hX.out.ok⟩,rfl⟩ ⟨fun y hy=>?_,hX.out.sm,by show (1 : Nat) <= 14;omega,by show (3 : Nat) <= 104000;omega⟩ (by show 4000 + 1 + 3 <= 5000;omega),by rw [n6.out,if_pos (by omega),List.map_append,it.out.2];rfl⟩;rw [ms1 hy];exact mR 3 (by decide) (by decide)
        ·go_wp2_with fail
         go_meet;exact ⟨_,_,_,rfl,by omega,d,fn.out.1,fn.out.2.1.mono (by omega),by rw [n6.out,if_neg (by omega),it.out.2,List.append_nil]⟩
       case rest=>
        obtain ⟨J,n2,c2,rfl,c3,HG⟩:=hcut;clear fn;go_wp2
        go_loopw [1,13,19] (fun pp o i wr=>∃ (i4 q n2 c2 : Nat) (J : Option Addr),i4 <= n /\ i = .int .i64 i4 /\ pp = .int .i64 (q : Int) /\ p + 1 <= q /\ q <= p + 5 + i4 * 9800 /\ o = .slice J n2 c2 /\ n2 <= 4 + i4 /\ Hid (∃ d,DS w wr m N P /\ DL w.heap.size wr J n2 c2 (5000 + 1000 * i4 + 104001 * (i4 - (1 + E))) d /\ (d.map Prod.fst,q) = rp (nE C Ln (N 0) (N 1) (N 2) E) s0 i4)) (fun _ _ i _=>n - (intOf i).toNat)
        case atStart=>
         obtain ⟨qc,S2,D2,q9⟩:=HG.out;exact ⟨0,q + 1,n2,c2,J,Nat.zero_le _,rfl,rfl,by omega,by omega,rfl,by omega,qc,S2,D2.mono (by omega),q9.symm⟩
        case round=>
         rename World=>wr;clear HG;have hQ:=m9;clear m9;obtain ⟨i,q,n2,c2,J,l4,rfl,rfl,hw,hn,rfl,hS,HG⟩:=hrel;by_cases gc : i < n
         ·have li : (i : Int) < (n : Int):=by omega
          obtain ⟨d,S,D,hk⟩:=HG.out;have hq : Hid ((d.map Prod.fst,q) = rp (nE C Ln (N 0) (N 1) (N 2) E) s0 i):=hk;clear hk;have hD : Hid (DS w wr m N P /\ DL w.heap.size wr J n2 c2 (5000 + 1000 * i + 104001 * (i - (1 + E))) d):=⟨S,D⟩
          have ih : q + 1 + 500 * 2 <= 1000000 /\ q <= 1073741824:=by
           have hV : i * 9800 <= 10 * 9800:=Nat.mul_le_mul_right _ (by omega);omega
          have de : Hid (n2 + 1 <= maxLen /\ (n2 + 1) * 72 <= 140737488355328):=by
           refine ⟨?_,?_⟩
           ·unfold maxLen;omega
           ·omega
          have ne : Hid (∀ c,c <= 950 -> i < 1 + E -> 5000 + 1000 * i + 104001 * (i - (1 + E)) + 1 + c <= 5000 + 1000 * (i + 1) + 104001 * (i + 1 - (1 + E))):=fun c hc hi=>by omega
          have l7 : Hid (∀ c,c <= 104000 -> ¬ i < 1 + E -> 5000 + 1000 * i + 104001 * (i - (1 + E)) + 1 + c <= 5000 + 1000 * (i + 1) + 104001 * (i + 1 - (1 + E))):=fun c hc hi=>by omega
          have a8 : Hid (i + 1 <= n /\ n2 + 1 <= 4 + (i + 1) /\ n - (i + 1) < n - i /\ p + 1 <= q /\ q <= p + 5 + i * 9800 /\ q <= 400000):=by
           have hV : i * 9800 <= 10 * 9800:=Nat.mul_le_mul_right _ (by omega);exact ⟨by omega,by omega,by omega,by omega,by omega,by omega⟩
          have sv : i <= 10:=by omega
          clear hw hn hS hQ c3 l4 gc n0;have C7:=aO ca cb co Ln cc q 32 C wr (di.out wr S.bel).1 hLn ih.2 (by decide);obtain ⟨b,hb⟩:=xe (tk C Ln q 32);have sa : b < 32:=by rw [hb];exact cd (by omega)
          rw [<- hb] at C7;have ex : Hid (b = tk C Ln q 32):=hb;obtain ⟨tp,vp,mp,hP,t1,t2,t3,t4,t5,t6⟩:=nQ.out wr S;have C8:=Do wr (di.out wr S.bel).1 (cc:=cc) hLn hP 2 (by decide) wr (q + 1) (Below.refl _ _) ih.1;rw [t1,t2,t3,t4,t5,t6] at C8;have x0:=(eN S (i:=0) (by omega)).1;have x1:=(eN S (i:=1) (by omega)).1;have x2:=(eN S (i:=2) (by omega)).1;clear S D HG hb hP t1 t2 t3 t4 t5 t6;go_wp2_with fail;refine C7.mono ?_;rintro e w5 ⟨rfl,rfl⟩;clear C7;go_wp2_with fail;refine C8.mono ?_;rintro e U ⟨⟨ta,tn,tc,q2,rfl,he,c0,nu⟩,a5⟩;clear C8 x0 x1 x2
          have fx : Hid (p + 1 <= q2 /\ q2 <= p + 5 + i * 9800 + 27 /\ q2 <= 500000):=by
           have p1 : PP 2 = 26:=rfl;rw [p1] at c0;obtain ⟨_,_,_,h4,h5,h6⟩:=a8.out;exact ⟨by omega,by omega,by omega⟩
          clear he c0 ih;obtain ⟨L,G6,np⟩:=nu.out;have hB : Hid (ba C Ln (N 0) (N 2) 2 (q + 1) = (L.map Prod.fst,q2)):=np;clear np;have ma : tn <= 13:=G6.le;have hf:=G6.len;have qm:=G6.pos;have H : Hid (RT wr.heap.size U (.slice ta tn tc) L /\ dH (L.map Prod.fst) = true /\ (∀ y,y ∈ L -> ku y)):=⟨G6.rt,G6.ok,G6.sm⟩;obtain ⟨e1,lP⟩ : ∃ e1,tn = e1 + 1:=⟨tn - 1,by omega⟩;have h9:=G6.rt.own;rw [<- hf] at h9;obtain ⟨tg,wz,ev,tv,_⟩:=au h9 (by omega);simp only [Value.slice.injEq] at ev;obtain ⟨rfl,-,rfl⟩:=ev;have id : e1 < L.length:=by omega
          have y0 : U.cell? ⟨tg,e1 * 4,none⟩ = some (.int .i64 L[e1].1.op):=af (f:=ei) aw G6.rt.own (j:=e1) (r:=0) rfl id (by omega) rfl;obtain ⟨o,ho⟩:=xe (L[e1].1.op);rw [<- ho] at y0
          have nx : Hid (o = lZ (L.map Prod.fst)):=by
           show _ = _;unfold lZ;rw [ho,List.length_map,show L.length - 1 = e1 by omega,List.getD_eq_getElem?_getD,List.getElem?_map,List.getElem?_eq_getElem id];rfl
          have a7 : Hid (tn = L.length /\ tn = e1 + 1):=⟨hf,lP⟩;have pl : IntKind.i64.wrap ((tn : Int) - 1) = (e1 : Int):=wk (by omega);have pm : (e1 : Int) < (tn : Int):=by omega
          have p0 : (0 : Int) <= (e1 : Int):=by omega
          clear G6 nu ho h9 hf qm lP id;have be : Hid (DS w U m N P):=hD.out.1.below a5.out;have el : Hid (DL w.heap.size U J n2 c2 (5000 + 1000 * i + 104001 * (i - (1 + E))) d):=hD.out.2.below a5.out;have v7:=be.out.bel.size;by_cases vk : (i : Int) < 1 + (E : Int)
          ·have ct : Hid (i < 1 + E):=(by omega : i < 1 + E)
           have oc : Hid (q2 <= p + 5 + (i + 1) * 9800):=by
            show _ <= _;rw [Nat.succ_mul];have:=fx.out.2.1;omega
           have CD : Hid (∀ W,Calls Tryz.prog 37 #[.int .i64 (i : Int),.bool false] W fun e w'=>e = .returned (.string (dP i false)) /\ w' = W):=fun W=>mt i false W;have c5 : Hid ((dP i false).size <= 12):=dr (jS i false).1;obtain ⟨sn,ds⟩:=xe (dP i false);rw [<- ds] at CD c5;have c8 : Hid (sn = dP i false):=ds;clear ds;go_upto_region 31 with fail
           go_cut [163] (fun v wx=>∃ cb : Bool,v = .bool cb /\ U = wx /\ Hid (cb = decide (b = 31 \/ (o = 4 /\ b < 16))))
           case first=>
            by_cases gm : b = 31
            ·have q6 : ((b : Int) == 31) = true:=beq_iff_eq.2 (by omega)
             have b9 : Hid (true = decide (b = 31 \/ (o = 4 /\ b < 16))):=(decide_eq_true (Or.inl gm)).symm;clear gm;go_wp2;go_meet;exact ⟨_,rfl,rfl,b9⟩
            ·have q6 : ((b : Int) == 31) = false:=bn2 (by omega)
             by_cases h4 : o = 4
             ·have o4 : (o == 4) = true:=beq_iff_eq.2 h4
              by_cases v0 : (b : Int) < 16
              ·have b9 : Hid (true = decide (b = 31 \/ (o = 4 /\ b < 16))):=(decide_eq_true (Or.inr ⟨h4,by omega⟩)).symm
               clear h4 gm;go_wp2;go_meet;exact ⟨_,rfl,rfl,b9⟩
              ·have b9 : Hid (false = decide (b = 31 \/ (o = 4 /\ b < 16))):=(decide_eq_false (fun h=>by omega)).symm
               clear h4 gm;go_wp2;go_meet;exact ⟨_,rfl,rfl,b9⟩
             ·have o4 : (o == 4) = false:=bn2 h4
              have b9 : Hid (false = decide (b = 31 \/ (o = 4 /\ b < 16))):=(decide_eq_false (fun h=>by omega)).symm;clear h4 gm;go_wp2;go_meet;exact ⟨_,rfl,rfl,b9⟩
           case rest=>
            obtain ⟨cb,rfl,rfl,b9⟩:=hcut;clear y0;go_upto_if 163 with fail
            go_cut [20] (fun v wx=>∃ (ta2 : Option Addr) (ao a4 : Nat),v = .slice ta2 ao a4 /\ Hid (Bw wr wx /\ ∃ zs,RT wr.heap.size wx (.slice ta2 ao a4) zs /\ (∀ y,y ∈ zs -> ku y) /\ zs.length <= 14 /\ ao = zs.length /\ zs.map Prod.fst = if b = 31 \/ (lZ (L.map Prod.fst) = 4 /\ b < 16) then L.map Prod.fst ++ [⟨5,e0,e0,[⟨#[120]⟩]⟩] else L.map Prod.fst))
            case first=>
             cases cb
             ·go_wp2
              go_meet;exact ⟨_,_,_,rfl,a5.out,L,H.out.1,H.out.2.2,by have:=a7.out;omega,a7.out.1,by rw [<- nx.out,if_neg (of_decide_eq_false b9.out.symm)]⟩
             ·obtain ⟨iT,pr,pv,rx,p3⟩:=info_parts Tryz.infoTI
              obtain ⟨WN,gt⟩:=xe (U.alloc (.cells #[.string ⟨#[120]⟩] 9));have lT : Hid (Bw U WN):=by rw [gt];exact bel1 _ _
              have p4 : WN.heap.size = U.heap.size + 1:=by rw [gt];simp
              have nz : Hid (RT wr.heap.size WN (.slice (some ⟨tg,0,none⟩) tn tc) L):=H.out.1.below lT.out
              have a9 : Hid (aD wr.heap.size WN [⟨#[120]⟩] ⟨some ⟨U.heap.size,0,none⟩,U.heap.size,1⟩):=by
               rw [gt];have h:=World.ownsRow_lit (e:=9) (size:=1) U #[.string ⟨#[120]⟩] 1 (nlr _) (by unfold maxLen;omega) (by rfl);obtain ⟨g,hg⟩:=aW (ns:=[⟨#[120]⟩]) (n:=1) rfl h;have eg:=(hg (by simp)).1;simp only [Option.some.injEq,Addr.mk.injEq] at eg;rw [<- eg.1] at hg;exact hg.mono a5.out.size
              have g3 : Hid (∀ j u,([.int .i64 5,.string ⟨#[]⟩,.string ⟨#[]⟩,.slice (some ⟨U.heap.size,0,none⟩) 1 1] : List Value)[j]? = some u -> (WN.alloc (.cells #[.int .i64 5,.string ⟨#[]⟩,.string ⟨#[]⟩,.slice (some ⟨U.heap.size,0,none⟩) 1 1] 80)).cell? ((⟨U.heap.size + 1,0,none⟩ : Addr).add j) = some u):=by
               have h:=World.news_of_block (cs:=#[.int .i64 5,.string ⟨#[]⟩,.string ⟨#[]⟩,.slice (some ⟨U.heap.size,0,none⟩) 1 1]) (t:=80) (fr:=(0,0)) (heap_alloc_new WN (.cells #[.int .i64 5,.string ⟨#[]⟩,.string ⟨#[]⟩,.slice (some ⟨U.heap.size,0,none⟩) 1 1] 80));rw [p4] at h;exact h
              have n4 : (WN.alloc (.cells #[.int .i64 5,.string ⟨#[]⟩,.string ⟨#[]⟩,.slice (some ⟨U.heap.size,0,none⟩) 1 1] 80)).ownsRow wr.heap.size 80 4 (.slice (some ⟨tg,0,none⟩) tn tc) tn (bg L):=by
               have h:=nz.out.own.alloc (.cells #[.int .i64 5,.string ⟨#[]⟩,.string ⟨#[]⟩,.slice (some ⟨U.heap.size,0,none⟩) 1 1] 80);rw [<- a7.out.1] at h;exact h
              have tr:=a5.out.size;rw [gt] at n4 g3;go_wp2_with (first | (at_builtin;refine wpList_append_lies _ rfl _ _ 34 rfl wr.heap.size 80 iT _ 4 64 Tryz.underlying34 pr pv rx p3 rfl (by omega) (.slice (some ⟨tg,0,none⟩) tn tc) tn (bg L) rfl n4 ⟨U.heap.size + 1,0,none⟩ 1 1 [.int .i64 5,.string ⟨#[]⟩,.string ⟨#[]⟩,.slice (some ⟨U.heap.size,0,none⟩) 1 1] rfl rfl g3.out (by simp [Value.oneCell']) (by omega) (by unfold maxLen;omega) (by omega) (by simp only [World.size_alloc];omega) (U.heap.size + 1 + 1) (by simp) ?_;intro gT wt wT ln k5 sx s5));go_meet;rw [<- gt] at k5;have r1 : Hid (ei ((⟨5,e0,e0,[⟨#[120]⟩]⟩ : TI),(⟨some ⟨U.heap.size,0,none⟩,U.heap.size,1⟩ : NPl)) = [.int .i64 5,.string ⟨#[]⟩,.string ⟨#[]⟩,.slice (some ⟨U.heap.size,0,none⟩) 1 1]):=rfl;have hf:=a7.out.1;subst hf;have PT:=nz.out.push (x:=((⟨5,e0,e0,[⟨#[120]⟩]⟩ : TI),(⟨some ⟨U.heap.size,0,none⟩,U.heap.size,1⟩ : NPl))) (by rw [r1.out];exact ln) k5 a9.out;refine ⟨_,_,_,rfl,?_,_,PT,fun y hy=>?_,by rw [lap];show _ + 1 <= 14;omega,by rw [lap];rfl,by rw [<- nx.out,if_pos (of_decide_eq_true b9.out.symm),List.map_append];rfl⟩
              ·exact ae (a5.out.trans (lT.out.mono a5.out.size)) k5 (fun j e=>(H.out.1.own.lt j e).1)
              ·rcases List.mem_append.1 hy with h | h
               ·exact H.out.2.2 y h
               ·rw [ms1 h]
                exact ⟨nlr _,by show (1 : Nat) <= 3;omega,by show (0 : Nat) <= 12;omega,by show (0 : Nat) <= 12;omega,fun s hs=>by rw [ms1 hs];decide⟩
            case rest=>
             obtain ⟨ta,ao,a4,rfl,hH⟩:=hcut;obtain ⟨a6,m4,l5,nX,p2,n9⟩:=hH.out.2;have oa : Hid (a6.map Prod.fst = if b = 31 \/ (lZ (L.map Prod.fst) = 4 /\ b < 16) then L.map Prod.fst ++ [⟨5,e0,e0,[⟨#[120]⟩]⟩] else L.map Prod.fst):=n9;have e9 : Hid (RT wr.heap.size wc (.slice ta ao a4) a6 /\ (∀ y,y ∈ a6 -> ku y) /\ a6.length <= 14):=⟨m4,l5,nX⟩;have gN : Hid (DS w wc m N P):=hD.out.1.below hH.out.1;have cM : Hid (DL w.heap.size wc J n2 c2 (5000 + 1000 * i + 104001 * (i - (1 + E))) d):=hD.out.2.below hH.out.1;have bn:=cM.out.own;have cp:=gN.out.bel.size;clear hH m4 l5 nX p2 n9 H a5 be el a7;by_cases cx : b = 30
             ·have la : ((b : Int) == 30) = true:=beq_iff_eq.2 (by omega)
              have dv : Hid ((⟨#[116]⟩ : ByteArray).size <= 12):=(by decide : (⟨#[116]⟩ : ByteArray).size <= 12);have lz : Hid (nE C Ln (N 0) (N 1) (N 2) E i q = ([⟨2,⟨#[116]⟩,a6.map Prod.fst,[]⟩],q2)):=yV ct.out ex.out hB.out (by rw [if_pos cx]) oa.out;clear cx;go_wp2_with fail;refine (CD.out _).mono ?_;rintro e w5 ⟨rfl,b5⟩;have b2:=b5.symm;clear b5;subst b2;go_wp2_with (first | (at_builtin;refine wpList_append_lies _ rfl _ _ 23 rfl w.heap.size 37 i0 _ 4 72 Tryz.underlying23 fl eV e7 fm rfl (by decide) (.slice J n2 c2) n2 (bj d) rfl (bn.alloc _) ⟨wc.heap.size,0,none⟩ 1 1 [.int .i64 2,.string ⟨#[116]⟩,.slice ta ao a4,.slice none 0 0] rfl rfl (World.news_of_block (cs:=#[.int .i64 2,.string ⟨#[116]⟩,.slice ta ao a4,.slice none 0 0]) (t:=37) (fr:=(0,0)) (heap_alloc_new wc _)) (by simp [Value.oneCell']) (by decide) de.out.1 de.out.2 (by rw [World.size_alloc];exact Nat.le_succ_of_le cp) (wc.heap.size + 1) (by simp) ?_;intro gD bp w7 A Y cn ce));have HX : Hid (fU ((⟨2,⟨#[116]⟩,a6.map Prod.fst,[]⟩ : DC),(⟨.slice ta ao a4,a6,.slice none 0 0,[]⟩ : DPl)) = [.int .i64 2,.string ⟨#[116]⟩,.slice ta ao a4,.slice none 0 0]):=rfl;obtain ⟨d0,ee,dt⟩:=zr (s:=⟨#[116]⟩) e9.out.1 e9.out.2.1 e9.out.2.2 dv.out;refine ⟨⟨i + 1,q2,n2 + 1,bp,some ⟨gD,0,none⟩,a8.out.1,by go_num,rfl,fx.out.1,oc.out,rfl,a8.out.2.1,_,gN.out.decl cM.out Y,cM.out.push (x:=((⟨2,⟨#[116]⟩,a6.map Prod.fst,[]⟩ : DC),(⟨.slice ta ao a4,a6,.slice none 0 0,[]⟩ : DPl))) (by rw [HX.out];exact A) Y d0 ee (ne.out _ dt ct.out),by rw [List.map_append];exact dm hq.out lz.out⟩,by have:=a8.out.2.2.1;simp [intOf];exact this⟩
             ·have la : ((b : Int) == 30) = false:=bn2 (by omega)
              have dv : Hid (sn.size <= 12):=c5;have lz : Hid (nE C Ln (N 0) (N 1) (N 2) E i q = ([⟨2,sn,a6.map Prod.fst,[]⟩],q2)):=yV ct.out ex.out hB.out (by rw [if_neg cx];exact c8) oa.out;clear cx;go_wp2_with fail;refine (CD.out _).mono ?_;rintro e w5 ⟨rfl,b5⟩;have b2:=b5.symm;clear b5;subst b2;go_wp2_with (first | (at_builtin;refine wpList_append_lies _ rfl _ _ 23 rfl w.heap.size 37 i0 _ 4 72 Tryz.underlying23 fl eV e7 fm rfl (by decide) (.slice J n2 c2) n2 (bj d) rfl (bn.alloc _) ⟨wc.heap.size,0,none⟩ 1 1 [.int .i64 2,.string sn,.slice ta ao a4,.slice none 0 0] rfl rfl (World.news_of_block (cs:=#[.int .i64 2,.string sn,.slice ta ao a4,.slice none 0 0]) (t:=37) (fr:=(0,0)) (heap_alloc_new wc _)) (by simp [Value.oneCell']) (by decide) de.out.1 de.out.2 (by rw [World.size_alloc];exact Nat.le_succ_of_le cp) (wc.heap.size + 1) (by simp) ?_;intro gD bp w7 A Y cn ce));have HX : Hid (fU ((⟨2,sn,a6.map Prod.fst,[]⟩ : DC),(⟨.slice ta ao a4,a6,.slice none 0 0,[]⟩ : DPl)) = [.int .i64 2,.string sn,.slice ta ao a4,.slice none 0 0]):=rfl;obtain ⟨d0,ee,dt⟩:=zr (s:=sn) e9.out.1 e9.out.2.1 e9.out.2.2 dv.out;refine ⟨⟨i + 1,q2,n2 + 1,bp,some ⟨gD,0,none⟩,a8.out.1,by go_num,rfl,fx.out.1,oc.out,rfl,a8.out.2.1,_,gN.out.decl cM.out Y,cM.out.push (x:=((⟨2,sn,a6.map Prod.fst,[]⟩ : DC),(⟨.slice ta ao a4,a6,.slice none 0 0,[]⟩ : DPl))) (by rw [HX.out];exact A) Y d0 ee (ne.out _ dt ct.out),by rw [List.map_append];exact dm hq.out lz.out⟩,by have:=a8.out.2.2.1;simp [intOf];exact this⟩
          ·have ct : Hid (¬ i < 1 + E):=(by omega : ¬ i < 1 + E)
           obtain ⟨iv,nb⟩:=xe (i - (1 + E));have v1 : IntKind.i64.wrap ((i : Int) - (1 + (E : Int))) = (iv : Int):=wk (by omega);have CD : Hid (∀ W,Calls Tryz.prog 37 #[.int .i64 (iv : Int),.bool true] W fun e w'=>e = .returned (.string (dP iv true)) /\ w' = W):=fun W=>mt iv true W;have c5 : Hid ((dP iv true).size <= 12):=dr (jS iv true).1;obtain ⟨sn,ds⟩:=xe (dP iv true);rw [<- ds] at CD c5;have c8 : Hid (sn = dP iv true /\ iv = i - (1 + E)):=⟨ds,nb⟩
           have hJ : Hid (Calls Tryz.prog 39 #[.slice ca Ln cc,.int .i64 (q2 : Int),.agg #[.slice (P 0).a (N 0).length (P 0).c,.slice (P 1).a (N 1).length (P 1).c,.slice (P 2).a (N 2).length (P 2).c],.slice (some ⟨tg,0,none⟩) tn tc,.int .i64 (tn : Int),.int .i64 2] U (j8 U (PF 5) (XF 5) q2 (dL C Ln (N 0) (N 1) (N 2) 5 (L.map Prod.fst) e1 q2))):=by
            obtain ⟨tp,vp,mp,hP,t1,t2,t3,t4,t5,t6⟩:=nQ.out U be.out;have R:=H.out.1;rw [a7.out.1] at R;have ma : L.length <= 13:=by have:=a7.out.1;omega
            have h:=Ds (ca:=ca) (cb:=cb) (co:=co) (cc:=cc) (C:=C) hLn (T:=N 0) (V:=N 1) (M:=N 2) (tp:=tp) (vp:=vp) (mp:=mp) m6.1 m6.2 5 (nlr _) U L _ (some ⟨tg,0,none⟩) tc e1 q2 (di.out U be.out.bel).1 hP (fq.of_rt R H.out.2.2 (by omega)) (TH.of_ok H.out.2.1 H.out.2.2 ma) (by have:=a7.out;omega) (by have:=fx.out.2.2;omega);rw [t1,t2,t3,t4,t5,t6,<- a7.out.1,show ((e1 : Int) + 1) = (tn : Int) by have:=a7.out.2;omega,show ((5 : Nat) : Int) - 3 = 2 by rfl] at h;exact h
           have x0:=(eN be.out (i:=0) (by omega)).1;have x1:=(eN be.out (i:=1) (by omega)).1;have x2:=(eN be.out (i:=2) (by omega)).1;clear ds nb y0 pl pm p0;by_cases cx : b = 30
           ·have la : ((b : Int) == 30) = true:=beq_iff_eq.2 (by omega)
            have dv : Hid ((⟨#[102]⟩ : ByteArray).size <= 12):=(by decide : (⟨#[102]⟩ : ByteArray).size <= 12);have kk : Hid ((⟨#[102]⟩ : ByteArray) = if b = 30 then ⟨#[102]⟩ else dP iv true):=by show _ = _;rw [if_pos cx]
            clear cx;go_wp2_with fail;refine (CD.out _).mono ?_;rintro e w5 ⟨rfl,b5⟩;have k3:=b5.symm;clear b5;subst k3;go_wp2_with fail;refine hJ.out.mono ?_;rintro e w8 ⟨⟨ea,en,ec,q3,rfl,he,c0,g4⟩,ef⟩;obtain ⟨es,G8,gs⟩:=g4.out;have lc : Hid (dL C Ln (N 0) (N 1) (N 2) 5 (L.map Prod.fst) ((L.map Prod.fst).length - 1) q2 = (es.map Prod.fst,q3)):=by rw [List.length_map,show L.length - 1 = e1 by have:=a7.out;omega];exact gs
            clear gs;have f6 : Hid (DS w w8 m N P):=be.out.below ef.out;have d2 : Hid (DL w.heap.size w8 J n2 c2 (5000 + 1000 * i + 104001 * (i - (1 + E))) d):=el.out.below ef.out;have bn:=d2.out.own;have cp:=f6.out.bel.size;have lm : Hid (L.length <= 13):=(by have:=a7.out.1;omega : L.length <= 13);have hY:=yS (s:=⟨#[102]⟩) (H.out.1.below ef.out) H.out.2.2 lm.out dv.out G8 (by decide)
            have f7 : Hid (p + 1 <= q3 /\ q3 <= p + 5 + (i + 1) * 9800):=by
             have h7 : PF 5 = 9690:=rfl;rw [h7] at c0;obtain ⟨h1,h2,h3⟩:=fx.out;rw [Nat.succ_mul];exact ⟨by omega,by omega⟩
            clear g4 G8 he c0 x0 x1 x2 hJ CD;go_wp2_with (first | (at_builtin;refine wpList_append_lies _ rfl _ _ 23 rfl w.heap.size 37 i0 _ 4 72 Tryz.underlying23 fl eV e7 fm rfl (by decide) (.slice J n2 c2) n2 (bj d) rfl (bn.alloc _) ⟨w8.heap.size,0,none⟩ 1 1 [.int .i64 3,.string ⟨#[102]⟩,.slice (some ⟨tg,0,none⟩) tn tc,.slice ea en ec] rfl rfl (World.news_of_block (cs:=#[.int .i64 3,.string ⟨#[102]⟩,.slice (some ⟨tg,0,none⟩) tn tc,.slice ea en ec]) (t:=37) (fr:=(0,0)) (heap_alloc_new w8 _)) (by simp [Value.oneCell']) (by decide) de.out.1 de.out.2 (by rw [World.size_alloc];exact Nat.le_succ_of_le cp) (w8.heap.size + 1) (by simp) ?_;intro gD bp w9 A Y cn ce));obtain ⟨d0,ee,dt⟩:=hY;have HX : Hid (fU ((⟨3,⟨#[102]⟩,L.map Prod.fst,es.map Prod.fst⟩ : DC),(⟨.slice (some ⟨tg,0,none⟩) tn tc,L,.slice ea en ec,es⟩ : DPl)) = [.int .i64 3,.string ⟨#[102]⟩,.slice (some ⟨tg,0,none⟩) tn tc,.slice ea en ec]):=rfl;refine ⟨⟨i + 1,q3,n2 + 1,bp,some ⟨gD,0,none⟩,a8.out.1,by go_num,rfl,f7.out.1,f7.out.2,rfl,a8.out.2.1,_,f6.out.decl d2.out Y,d2.out.push (x:=((⟨3,⟨#[102]⟩,L.map Prod.fst,es.map Prod.fst⟩ : DC),(⟨.slice (some ⟨tg,0,none⟩) tn tc,L,.slice ea en ec,es⟩ : DPl))) (by rw [HX.out];exact A) Y d0 ee (l7.out _ dt ct.out),by rw [List.map_append];exact dm hq.out (y7 ct.out c8.out.2 ex.out hB.out kk.out lc.out)⟩,by have:=a8.out.2.2.1;simp [intOf];exact this⟩
           ·have la : ((b : Int) == 30) = false:=bn2 (by omega)
            have dv : Hid (sn.size <= 12):=c5;have kk : Hid (sn = if b = 30 then ⟨#[102]⟩ else dP iv true):=by show _ = _;rw [if_neg cx];exact c8.out.1
            clear cx;go_wp2_with fail;refine (CD.out _).mono ?_;rintro e w5 ⟨rfl,b5⟩;have k3:=b5.symm;clear b5;subst k3;go_wp2_with fail;refine hJ.out.mono ?_;rintro e w8 ⟨⟨ea,en,ec,q3,rfl,he,c0,g4⟩,ef⟩;obtain ⟨es,G8,gs⟩:=g4.out;have lc : Hid (dL C Ln (N 0) (N 1) (N 2) 5 (L.map Prod.fst) ((L.map Prod.fst).length - 1) q2 = (es.map Prod.fst,q3)):=by rw [List.length_map,show L.length - 1 = e1 by have:=a7.out;omega];exact gs
            clear gs;have f6 : Hid (DS w w8 m N P):=be.out.below ef.out;have d2 : Hid (DL w.heap.size w8 J n2 c2 (5000 + 1000 * i + 104001 * (i - (1 + E))) d):=el.out.below ef.out;have bn:=d2.out.own;have cp:=f6.out.bel.size;have lm : Hid (L.length <= 13):=(by have:=a7.out.1;omega : L.length <= 13);have hY:=yS (s:=sn) (H.out.1.below ef.out) H.out.2.2 lm.out dv.out G8 (by decide)
            have f7 : Hid (p + 1 <= q3 /\ q3 <= p + 5 + (i + 1) * 9800):=by
             have h7 : PF 5 = 9690:=rfl;rw [h7] at c0;obtain ⟨h1,h2,h3⟩:=fx.out;rw [Nat.succ_mul];exact ⟨by omega,by omega⟩
            clear g4 G8 he c0 x0 x1 x2 hJ CD;go_wp2_with (first | (at_builtin;refine wpList_append_lies _ rfl _ _ 23 rfl w.heap.size 37 i0 _ 4 72 Tryz.underlying23 fl eV e7 fm rfl (by decide) (.slice J n2 c2) n2 (bj d) rfl (bn.alloc _) ⟨w8.heap.size,0,none⟩ 1 1 [.int .i64 3,.string sn,.slice (some ⟨tg,0,none⟩) tn tc,.slice ea en ec] rfl rfl (World.news_of_block (cs:=#[.int .i64 3,.string sn,.slice (some ⟨tg,0,none⟩) tn tc,.slice ea en ec]) (t:=37) (fr:=(0,0)) (heap_alloc_new w8 _)) (by simp [Value.oneCell']) (by decide) de.out.1 de.out.2 (by rw [World.size_alloc];exact Nat.le_succ_of_le cp) (w8.heap.size + 1) (by simp) ?_;intro gD bp w9 A Y cn ce));obtain ⟨d0,ee,dt⟩:=hY;have HX : Hid (fU ((⟨3,sn,L.map Prod.fst,es.map Prod.fst⟩ : DC),(⟨.slice (some ⟨tg,0,none⟩) tn tc,L,.slice ea en ec,es⟩ : DPl)) = [.int .i64 3,.string sn,.slice (some ⟨tg,0,none⟩) tn tc,.slice ea en ec]):=rfl;refine ⟨⟨i + 1,q3,n2 + 1,bp,some ⟨gD,0,none⟩,a8.out.1,by go_num,rfl,f7.out.1,f7.out.2,rfl,a8.out.2.1,_,f6.out.decl d2.out Y,d2.out.push (x:=((⟨3,sn,L.map Prod.fst,es.map Prod.fst⟩ : DC),(⟨.slice (some ⟨tg,0,none⟩) tn tc,L,.slice ea en ec,es⟩ : DPl))) (by rw [HX.out];exact A) Y d0 ee (l7.out _ dt ct.out),by rw [List.map_append];exact dm hq.out (y7 ct.out c8.out.2 ex.out hB.out kk.out lc.out)⟩,by have:=a8.out.2.2.1;simp [intOf];exact this⟩
         ·have li : ¬ (i : Int) < (n : Int):=by omega
          have rk : i = n:=by omega
          subst rk;obtain ⟨d,S,D,hk⟩:=HG.out
          have gk : Hid (r = (gB n2 (d.map Prod.fst),q)):=by
           have e1 : wF C Ln Q p i F = (d.map Prod.fst,q):=by
            unfold wF;rw [hk,qk.out,a9.out.1,a9.out.2.1,a9.out.2.2,p8.out,q0.out]
           show _ = _;rw [q1.out];unfold uw;rw [<- qf.out,e1,D.len];show (gB (d.map Prod.fst).length (d.map Prod.fst),q) = _;rw [List.length_map]
          clear hk;obtain ⟨K,hK⟩ : ∃ K,K = 5000 + 1000 * i + 104001 * (i - (1 + E)):=⟨_,rfl⟩;rw [<- hK] at D
          have HK : Hid (K <= 1048576):=by
           have:=l3.out;show K <= 1048576;omega
          have r2 : Hid (K <= 700000):=by
           have:=l3.out;show K <= 700000;omega
          have me : p <= q /\ q <= p + 200000:=by
           have hV : i * 9800 <= 10 * 9800:=Nat.mul_le_mul_right _ (by omega);omega
          obtain ⟨WM,hL⟩:=xe (wr.alloc (.cells #[.slice J n2 c2] 25));have ml : Hid (Bw wr WM):=by rw [hL];exact bel1 _ _
          have lb : Hid (DM w WM wr.heap.size J n2 c2 K d):=by
           have hb:=ml.out;refine ⟨by have:=S.res.lt;omega,S.bel.trans (hb.mono S.bel.size),S.res.of_block (hb.block _ S.res.lt),?_,D.below hb⟩;rw [hL];exact aK _ _ _
          clear S D HG hK hw hn hS hQ c3 l4 gc;go_wp2_with fail;rw [<- hL];clear hL;obtain ⟨mb,j1⟩:=xe (wr.heap.size);rw [<- j1] at lb;rw [<- j1];clear j1 ml
          go_loopw [] (fun wr=>∃ j : Nat,Hid (∃ d,DM w wr mb J j c2 K d /\ r = (gB j (d.map Prod.fst),q))) (fun wr=>mlen wr mb)
          case atStart=>exact ⟨n2,d,lb.out,gk.out⟩
          case round=>
           rename World=>wr;clear lb gk;obtain ⟨j,HM⟩:=hrel;obtain ⟨d,M,nc⟩:=HM.out;have gk : Hid (r = (gB j (d.map Prod.fst),q)):=nc;clear nc;have qs:=df M.dl.own;have lv : Hid (DM w wr mb J j c2 K d):=M;have C5:=qK wr (M.dl.dsa HK.out) rfl;have z0:=M.mod.cell (i:=0) (by omega)
           have v9 : j <= 9223372036854775807:=by
            rcases M.dl.own.2 with ⟨e,z⟩ | ⟨g,tl,ty,e,_,_,h5,h6,_⟩
            ·omega
            ·simp only [Value.slice.injEq] at e;unfold maxLen at h6;omega
           obtain ⟨bo,kK⟩:=xe (fS (d.map Prod.fst));rw [<- kK] at C5;have hu : Hid (bo = fS (d.map Prod.fst)):=kK;clear HM M kK;go_wp2_with fail;refine C5.mono ?_;rintro e w5 ⟨rfl,n8⟩;have bs : Hid (DM w w5 mb J j c2 K d):=lv.out.below n8;clear C5 n8 z0;have z0:=bs.out.mod.cell (i:=0) (by omega);have f0:=bs.out.mod.frozen 0;cases bo
           ·have hz : j ≠ 0:=by
             rintro rfl;have h1:=lv.out.dl.len;have h2:=List.eq_nil_of_length_eq_zero h1.symm;have h3:=hu.out;rw [h2] at h3;exact absurd h3 (by rw [List.map_nil,yf];decide)
            obtain ⟨j2,gq⟩ : ∃ j2,j = j2 + 1:=⟨j - 1,by omega⟩;subst gq;have wq : (0 : Int) < ((j2 + 1 : Nat) : Int):=by omega
            have wj : IntKind.i64.wrap (((j2 + 1 : Nat) : Int) - 1) = (j2 : Int):=wk (by omega);have sz : (0 : Int) < (j2 : Int) + 1:=by omega
            have ti : IntKind.i64.wrap ((j2 : Int) + 1 - 1) = (j2 : Int):=wk (by omega);have vd:=p7 J (j2 + 1) c2 j2 (by omega);go_wp2;refine ⟨⟨j2,_,bs.out.step,by rw [gk.out,wg (by rw [<- hu.out];decide),List.map_take]⟩,?_⟩;rw [bs.out.step.mlen,lv.out.mlen];exact Nat.lt_succ_self _
           ·clear qs
            have r0:=bs.out.res.cell (i:=0) (by omega);have ts:=bs.out.res.frozen 0;go_wp2;refine bodyPost_ret (ye bs.out.res _ _ _ rfl rfl) rfl ?_;refine ⟨⟨J,j,c2,q,rfl,me.1,me.2,d,?_,bs.out.dl.len,hu.out.symm,by rw [gk.out,vX hu.out.symm],Nat.le_trans bs.out.dl.cost r2.out⟩,bs.out.bel.setCell (p:=⟨w.heap.size,0,none⟩) (nlr _) _⟩;exact (bs.out.dl.kp (mB bs.out.res _) (by decide) (by decide) (by decide) (by decide)).dsa HK.out
end Go.Proofs.YtihedobejcaapaaGreatDoor
