/-
  VcB VcC VcD
-/
import Derived.Test.YtihedobejcaapaaGreatDoorB3
import Derived.Test.YtihedobejcaapaaGreatDoorB5
set_option maxHeartbeats 4000000
set_option maxRecDepth 100000
namespace Go.Proofs.YtihedobejcaapaaGreatDoor
open Go.RowKit
def CZ (t : EI) : Prop:=t.ns.length <= 1048576 /\ (∀ k,k < t.ns.length -> (t.ns.getD k e0).size <= 1048576) /\ t.md.size <= 1048576 /\ t.nm.size <= 1048576
structure kh (w : World) (v : Value) (xs : List (EI × EPl)) : Prop where
 re : ∃ B,RE B w v xs
 cap : ∀ x,x ∈ xs -> x.1.ns.length <= x.2.np.c
 sz : ∀ x,x ∈ xs -> CZ x.1
 len : xs.length <= 1048576
 ty : ∀ x,x ∈ xs -> (∀ y,y ∈ x.2.zs -> y.1.ns.length <= y.2.c /\ Ca y.1) /\ x.2.zs.length <= 1048576
theorem kh.below {w w' : World} {v : Value} {xs : List (EI × EPl)} (h : kh w v xs) (hb : Bw w w') : kh w' v xs:=⟨by obtain ⟨B,r⟩:=h.re;exact ⟨B,r.below hb⟩,h.cap,h.sz,h.len,h.ty⟩
theorem kh.form {w : World} {v : Value} {xs : List (EI × EPl)} (h : kh w v xs) : ∃ a c,v = .slice a xs.length c:=by obtain ⟨B,r⟩:=h.re;exact ad r.own
theorem kh.item {w : World} {a : Option Addr} {c : Nat} {xs : List (EI × EPl)} (h : kh w (.slice a xs.length c) xs) {k : Nat} (hk : k < xs.length) : ∃ g ta tc,a = some ⟨g,0,none⟩ /\ w.cell? ⟨g,k * 6,none⟩ = some (Value.int .i64 xs[k].1.op) /\ w.cell? ⟨g,k * 6 + 1,none⟩ = some (Value.int .i64 xs[k].1.num) /\ w.cell? ⟨g,k * 6 + 2,none⟩ = some (Value.string xs[k].1.md) /\ w.cell? ⟨g,k * 6 + 3,none⟩ = some (Value.string xs[k].1.nm) /\ w.cell? ⟨g,k * 6 + 4,none⟩ = some (Value.slice xs[k].2.np.a xs[k].1.ns.length xs[k].2.np.c) /\ w.cell? ⟨g,k * 6 + 5,none⟩ = some (Value.slice ta xs[k].1.ty.length tc) /\ Av w xs[k].1 xs[k].2 /\ xs[k].2.tv = .slice ta xs[k].1.ty.length tc:=by
 obtain ⟨B,r⟩:=h.re;obtain ⟨g,m,l,_⟩:=au r.own (show 0 < xs.length by omega);simp only [Value.slice.injEq] at l;obtain ⟨rfl,-,rfl⟩:=l;have e:=List.getElem_mem hk;have d:=h.sz _ e;have ok:=r.ok _ e;obtain ⟨ta,tc,b⟩:=ad ok.ty.own;have i : xs[k].2.zs.length = xs[k].1.ty.length:=by rw [<- ok.is,List.length_map]
 rw [i] at b;have ty:=h.ty _ e;exact ⟨g,ta,tc,rfl,af (f:=cU) av r.own (j:=k) (r:=0) rfl hk (by omega) rfl,af (f:=cU) av r.own rfl hk (by omega) rfl,af (f:=cU) av r.own rfl hk (by omega) rfl,af (f:=cU) av r.own rfl hk (by omega) rfl,af (f:=cU) av r.own rfl hk (by omega) rfl,af (f:=cU) av r.own rfl hk (by omega) (by rw [<- b];rfl),⟨ok.nm.nsa,d.1,d.2.1,h.cap _ e,d.2.2.1,d.2.2.2,⟨⟨B,ok.ty⟩,fun y hy=>(ty.1 y hy).1,fun y hy=>(ty.1 y hy).2,ty.2⟩,ok.is⟩,b⟩
theorem vQ {l : List EI} {xs : List (EI × EPl)} (hl : xs.map Prod.fst = l) {k : Nat} (hk : k < xs.length) : aE l k = (fE xs[k].1).map fun f=>f.needs.length:=by
 unfold aE;rw [<- hl,List.getElem?_map,List.getElem?_eq_getElem hk];rfl
theorem vf (w : World) {v : Value} {xs : List (EI × EPl)} (h : kh w v xs) {l : List EI} (hl : xs.map Prod.fst = l) :
  Calls Tryz.prog 25 #[v] w fun e w'=>e = .returned (.bool (nO l)) /\ Bw w w':=by
 obtain ⟨a,c,rfl⟩:=h.form;have P : Hid (∀ W,Bw w W -> kh W (.slice a xs.length c) xs):=fun W s=>h.below s;have Z:=hQx hl;have M:=h.len;have q : Hid (l.length = xs.length):=by show _ = _;rw [<- hl,List.length_map]
 obtain ⟨b,s⟩:=xe (nO l);have A : Hid (nO l = b):=s.symm;rw [<- s];clear h hl s;go_enter Tryz.func25,Tryz.ntmps25;go_wp2
 go_loopw [3,4] (fun hd i wr=>∃ k m : Nat,k <= xs.length /\ m <= k /\ i = .int .i64 k /\ hd = .int .i64 m /\ Hid (bN (aE l) k = some m) /\ Hid (Bw w wr)) (fun _ i _=>xs.length - (intOf i).toNat)
 case atStart=>exact ⟨0,0,Nat.zero_le _,nlr _,rfl,rfl,rfl,Below.refl _ _⟩
 case round=>
  obtain ⟨k,m,hk,S,rfl,rfl,F,j⟩:=hrel;by_cases u : k < xs.length
  ·obtain ⟨g,H,D,rfl,Y,Q,V,y3,U,R,E,p⟩:=(P.out wr j.out).item u
   have x : Hid (aE l k = (fE xs[k].1).map fun f=>f.needs.length):=vQ Z.out u;obtain ⟨X,L⟩:=xe (xs[k]);rw [<- L] at Y Q V y3 U R E x p;have C : Hid (Calls Tryz.prog 51 #[.agg #[.int .i64 X.1.op,.int .i64 X.1.num,.string X.1.md,.string X.1.nm,.slice X.2.np.a X.1.ns.length X.2.np.c,.slice H X.1.ty.length D]] wr fun e w'=>e = .returned (.int .i64 (dJ (fE X.1))) /\ Bw wr w'):=ux wr E p;clear E p L
   cases hf : fE X.1 with
   | none=>
     have r : Hid (b = false):=by
      show _ = _;rw [<- A.out];have : bN (aE l) (k + 1) = none:=by rw [bN,F.out,x.out,hf];rfl
      unfold nO;rw [gz this (by rw [q.out];omega)];rfl
     rw [hf] at C;have y : Hid (Calls Tryz.prog 51 #[.agg #[.int .i64 X.1.op,.int .i64 X.1.num,.string X.1.md,.string X.1.nm,.slice X.2.np.a X.1.ns.length X.2.np.c,.slice H X.1.ty.length D]] wr fun e w'=>e = .returned (.int .i64 (-1)) /\ Bw wr w'):=C;clear hf C;go_wp2_with (first | (go_at_call 51;refine y.out.mono ?_;rintro e B ⟨rfl,d⟩));go_ret;exact ⟨by rw [r.out];rfl,j.out.trans (d.mono j.out.size)⟩
   | some f=>
     obtain ⟨n,I⟩:=xe (f.needs.length);have K : Hid (bN (aE l) (k + 1) = if n <= m then some (m - n + 1) else none):=by show _ = _;rw [bN,F.out,x.out,hf,I];rfl
     rw [hf] at C;have y : Hid (Calls Tryz.prog 51 #[.agg #[.int .i64 X.1.op,.int .i64 X.1.num,.string X.1.md,.string X.1.nm,.slice X.2.np.a X.1.ns.length X.2.np.c,.slice H X.1.ty.length D]] wr fun e w'=>e = .returned (.int .i64 (n : Int)) /\ Bw wr w'):=by rw [I];exact C
     clear hf C x I;have n0 : ¬ (n : Int) < 0:=by omega
     by_cases t : n <= m
     ·have T : Hid (bN (aE l) (k + 1) = some (m - n + 1)):=by show _ = _;rw [K.out,if_pos t]
      have N : ¬ (m : Int) < (n : Int):=by omega
      have wd : IntKind.i64.wrap ((m : Int) - (n : Int)) = (m : Int) - (n : Int):=wk (by omega);have ab : IntKind.i64.wrap ((m : Int) - (n : Int) + 1) = (m : Int) - (n : Int) + 1:=wk (by omega);go_wp2_with (first | (go_at_call 51;refine y.out.mono ?_;rintro e B ⟨rfl,d⟩));have J : Hid (Bw w B):=j.out.trans (d.mono j.out.size)
      go_roundw
      case rel=>exact ⟨k + 1,m - n + 1,by omega,by omega,by go_num,by congr 1;omega,T,J⟩
      case measure=>simp [intOf];omega
     ·have r : Hid (b = false):=by
       show _ = _;rw [<- A.out];have : bN (aE l) (k + 1) = none:=by rw [K.out,if_neg t]
       unfold nO;rw [gz this (by rw [q.out];omega)];rfl
      have N : (m : Int) < (n : Int):=by omega
      go_wp2_with (first | (go_at_call 51;refine y.out.mono ?_;rintro e B ⟨rfl,d⟩));go_ret;exact ⟨by rw [r.out];rfl,j.out.trans (d.mono j.out.size)⟩
  ·have G : k = xs.length:=by omega
   subst G
   have r : Hid (b = decide (m = 1)):=by
    show _ = _;rw [<- A.out];unfold nO;rw [q.out,F.out];by_cases e : m = 1
    ·subst e;rfl
    ·rw [decide_eq_false e,beq_eq_false_iff_ne];exact fun z=>e (Option.some.inj z)
   by_cases e : m = 1
   ·have O : ((m : Int) == 1) = true:=beq_iff_eq.2 (by omega)
    have o : Hid (b = true):=by show _ = _;rw [r.out,decide_eq_true e]
    clear e;go_wp2;go_ret;exact ⟨by rw [o.out];rfl,j.out⟩
   ·have O : ((m : Int) == 1) = false:=bn2 (by omega)
    have o : Hid (b = false):=by show _ = _;rw [r.out,decide_eq_false e]
    clear e;go_wp2;go_ret;exact ⟨by rw [o.out];rfl,j.out⟩
def Cm (l : List EI) (e : Nat) : Prop:=∀ j,j < e -> aE l j = some (FE l j).needs.length
theorem qO {l : List EI} {xs : List (EI × EPl)} (hl : xs.map Prod.fst = l) {e k : Nat} (h : Cm l e) (hk : k < e) (hx : k < xs.length) : dJ (fE xs[k].1) = ((FE l k).needs.length : Int):=by
 have a:=h k hk;rw [vQ hl hx] at a
 cases hf : fE xs[k].1 with
 | none=>rw [hf] at a;cases a
 | some f=>
   rw [hf] at a;show (f.needs.length : Int) = _;have b : f.needs.length = (FE l k).needs.length:=Option.some.inj a;rw [b]
theorem BB {t : EI} {f : Fm} (h : fE t = some f) (hz : t.ns.length <= 1048576) : f.needs.length <= 1048576:=by
 have a : ∀ {g : Fm},g.needs.length <= 3 -> some g = some f -> f.needs.length <= 1048576:=fun h1 e=>by cases e;omega
 unfold fE at h;refine ac h (fun h=>ac h (a (by simp)) aa) fun h=>?_;refine ac h (fun h=>?_) aa;refine ac h (fun h=>ac h (a (by simp)) aa) fun h=>?_;refine ac h (fun h=>?_) aa;refine ac h (fun h=>ac h (a (by simp)) aa) fun h=>?_;refine ac h (fun h=>?_) aa;refine ac h (fun h=>ac h (fun e=>by cases e;rw [(bq _ _ _).2.1];exact hz) aa) fun h=>?_;refine ac h (fun h=>?_) aa;refine ac h (fun h=>ac h (a (by simp)) aa) fun h=>?_;refine ac h (fun h=>ac h (a (by simp)) (fun h=>ac h (a (by simp)) aa)) fun h=>?_;refine ac h (fun h=>?_) aa;refine ac h (a (by simp)) fun h=>?_;refine ac h (a (by simp)) fun h=>?_;refine ac h (a (by simp)) fun h=>?_;exact ac h (a (by simp)) aa
theorem yO {l : List EI} {xs : List (EI × EPl)} (hl : xs.map Prod.fst = l) (hs : ∀ x,x ∈ xs -> CZ x.1) (k : Nat) : (FE l k).needs.length <= 1048576:=by
 unfold FE
 cases h : (l[k]?).bind fE with
 | none=>exact Nat.zero_le _
 | some f=>
   obtain ⟨t,b,d⟩:=Option.bind_eq_some_iff.1 h;have a : t ∈ l:=List.mem_of_getElem? b;rw [<- hl] at a;obtain ⟨x,c,rfl⟩:=List.mem_map.1 a;exact BB d (hs x c).1
theorem tR (w : World) {v : Value} {xs : List (EI × EPl)} (h : kh w v xs) {l : List EI} (hl : xs.map Prod.fst = l) {e : Nat} (he : e <= xs.length) (har : Cm l e) {z : Int} (hz : z = e) :
  Calls Tryz.prog 80 #[v,.int .i64 z] w fun r w'=>r = .returned (.int .i64 (cl (fun i=>(FE l i).needs.length) e 1 : Nat)) /\ Bw w w':=by
 subst hz;obtain ⟨a,c,rfl⟩:=h.form;have O : Hid (∀ W,Bw w W -> kh W (.slice a xs.length c) xs):=fun W hb=>h.below hb;have N:=h.len;have F : Hid (∀ k (I : k < xs.length),k < e -> dJ (fE xs[k].1) = ((FE l k).needs.length : Int)):=fun k I hke=>qO hl har hke I;have u : Hid (∀ k,(FE l k).needs.length <= 1048576):=yO hl h.sz;obtain ⟨f,d⟩ : ∃ f : Nat -> Nat,f = fun i=>(FE l i).needs.length:=⟨_,rfl⟩;have j : Hid (∀ k,(FE l k).needs.length = f k):=fun k=>by rw [d]
 rw [<- d];obtain ⟨R,x⟩:=xe (cl f e 1);have HR : Hid (cl f e 1 = R):=x.symm;rw [<- x];clear h hl har d x;go_enter Tryz.func80,Tryz.ntmps80;go_wp2
 go_loopw [5,6] (fun nd i wr=>∃ k m : Nat,k <= e /\ m <= 1 + (e - k) * 1048576 /\ i = .int .i64 k /\ nd = .int .i64 m /\ Hid (cl f k m = R) /\ Hid (Bw w wr)) (fun _ i _=>(intOf i).toNat)
 case atStart=>exact ⟨e,1,nlr _,by omega,rfl,rfl,HR,Below.refl _ _⟩
 case round=>
  obtain ⟨k,m,I,V,rfl,rfl,D,s⟩:=hrel;by_cases Z : 0 < k
  ·by_cases ao : 0 < m
   ·obtain ⟨b,rfl⟩ : ∃ b,k = b + 1:=⟨k - 1,by omega⟩
    have L : b < xs.length:=by omega
    obtain ⟨g,ta,Q,rfl,y0,S,y2,y3,Y,T,A,o⟩:=(O.out wr s.out).item L;have q:=F.out b L (by omega);rw [j.out] at q;have G : f b <= 1048576:=by rw [<- j.out];exact u.out b
    obtain ⟨X,M⟩:=xe (xs[b]);rw [<- M] at y0 S y2 y3 Y T A q o;obtain ⟨n,H⟩:=xe (f b);rw [<- H] at q G;have C : Hid (Calls Tryz.prog 51 #[.agg #[.int .i64 X.1.op,.int .i64 X.1.num,.string X.1.md,.string X.1.nm,.slice X.2.np.a X.1.ns.length X.2.np.c,.slice ta X.1.ty.length Q]] wr fun e w'=>e = .returned (.int .i64 (n : Int)) /\ Bw wr w'):=by rw [<- q];exact ux wr A o
    have HN : Hid (cl f b (m - 1 + n) = R):=by
     show _ = _;rw [<- D.out,cl,if_neg (by omega),H]
    have B : m - 1 + n <= 1 + (e - b) * 1048576:=by
     have : (e - b) * 1048576 = (e - (b + 1)) * 1048576 + 1048576:=by
      rw [show e - b = (e - (b + 1)) + 1 by omega,Nat.add_mul,Nat.one_mul]
     omega
    have U : m <= 2000000000000:=by
     have : (e - (b + 1)) * 1048576 <= 1048576 * 1048576:=Nat.mul_le_mul_right _ (by omega);omega
    have kp : (0 : Int) < (b : Int) + 1:=by omega
    have mp : (0 : Int) < (m : Int):=by omega
    have w1 : IntKind.i64.wrap ((b : Int) + 1 - 1) = (b : Int):=wk (by omega);have P : IntKind.i64.wrap (b : Int) = (b : Int):=wk (by omega);have K : IntKind.i64.wrap ((m : Int) - 1) = (m : Int) - 1:=wk (by omega);have w3 : IntKind.i64.wrap ((m : Int) - 1 + (n : Int)) = (m : Int) - 1 + (n : Int):=wk (by omega);have a0 : (b : Int) < (xs.length : Int):=by omega
    have a3 : (0 : Int) <= (b : Int):=by omega
    clear A o M q H V;go_wp2_with (first | (go_at_call 51;refine C.out.mono ?_;rintro e K ⟨rfl,p⟩));have J : Hid (Bw w K):=s.out.trans (p.mono s.out.size);clear p
    go_roundw
    case rel=>exact ⟨b,m - 1 + n,by omega,B,by first | rfl | (congr 1;omega) | go_num,by congr 1;omega,HN,J⟩
    case measure=>simp [intOf]
   ·have y : m = 0:=by omega
    subst y;have t : Hid (R = k):=by show _ = _;rw [<- D.out,jo]
    have kp : (0 : Int) < (k : Int):=by omega
    go_wp2;go_ret;exact ⟨by rw [t.out];rfl,s.out⟩
  ·have E : k = 0:=by omega
   subst E;have t : Hid (R = 0):=by show _ = _;rw [<- D.out];rfl
   go_wp2;go_ret;exact ⟨by rw [t.out];rfl,s.out⟩
theorem dZ (w : World) {v : Value} {xs : List (EI × EPl)} (h : kh w v xs) {l : List EI} (hl : xs.map Prod.fst = l) {e : Nat} (he : e < xs.length) (har : Cm l (e + 1)) {z : Int} (hz : z = ((e + 1 : Nat) : Int)) :
  Calls Tryz.prog 55 #[v,.int .i64 z] w fun r w'=>∃ va cp,r = .returned (.slice va (FE l e).needs.length cp) /\ w'.ownsRow w.heap.size 3 1 (.slice va (FE l e).needs.length cp) (FE l e).needs.length (eh (cC (fun i=>(FE l i).needs.length) (FE l e).needs.length e)) /\ Bw w w':=by
 subst hz;rw [show ((e + 1 : Nat) : Int) = (e : Int) + 1 by omega];obtain ⟨a,c,rfl⟩:=h.form;obtain ⟨i0,bs,bn,bf,Z⟩:=info_parts Tryz.infoInt;have b2:=h.len
 have N : Hid (∀ W,Bw w W -> ∃ g M L,a = some ⟨g,0,none⟩ /\ W.cell? ⟨g,e * 6,none⟩ = some (Value.int .i64 xs[e].1.op) /\ W.cell? ⟨g,e * 6 + 1,none⟩ = some (Value.int .i64 xs[e].1.num) /\ W.cell? ⟨g,e * 6 + 2,none⟩ = some (Value.string xs[e].1.md) /\ W.cell? ⟨g,e * 6 + 3,none⟩ = some (Value.string xs[e].1.nm) /\ W.cell? ⟨g,e * 6 + 4,none⟩ = some (Value.slice xs[e].2.np.a xs[e].1.ns.length xs[e].2.np.c) /\ W.cell? ⟨g,e * 6 + 5,none⟩ = some (Value.slice M xs[e].1.ty.length L) /\ Hid (Calls Tryz.prog 51 #[.agg #[.int .i64 xs[e].1.op,.int .i64 xs[e].1.num,.string xs[e].1.md,.string xs[e].1.nm,.slice xs[e].2.np.a xs[e].1.ns.length xs[e].2.np.c,.slice M xs[e].1.ty.length L]] W fun r w'=>r = .returned (.int .i64 ((FE l e).needs.length : Int)) /\ Hid (Bw W w'))):=fun W hb=>by
  obtain ⟨g,M,L,r1,y0,y1,y2,y3,y4,y5,ti,a1⟩:=(h.below hb).item he;refine ⟨g,M,L,r1,y0,y1,y2,y3,y4,y5,?_⟩;have:=ux W ti a1;rw [qO hl har (Nat.lt_succ_self _) he] at this;exact this
 have K : Hid (∀ (W : World) (k : Nat) (z : Int),Bw w W -> k <= e -> z = k -> Calls Tryz.prog 80 #[.slice a xs.length c,.int .i64 z] W fun r w'=>r = .returned (.int .i64 (cl (fun i=>(FE l i).needs.length) k 1 : Nat)) /\ Bw W w'):=fun W k z hb hk hz=>tR W (h.below hb) hl (by omega) (fun j hj=>har j (by omega)) hz;obtain ⟨X,hX⟩:=xe (xs[e]);obtain ⟨n,V⟩:=xe ((FE l e).needs.length);have co : n <= 1048576:=by rw [V];exact yO hl h.sz e
 obtain ⟨d,u⟩ : ∃ d : Nat -> Nat,d = fun i=>(FE l i).needs.length:=⟨_,rfl⟩;rw [<- u] at K;rw [<- hX,<- V] at N;rw [<- V,<- u];have ST : Hid ((w.alloc (.cells #[] 3)).ownsRow w.heap.size 3 1 (.slice (some ⟨w.heap.size,0,none⟩) 0 0) 0 (eh (cC d 0 e))):=World.ownsRow_lit (e:=3) (size:=1) w #[] 0 (nlr _) (by unfold maxLen;omega) (by rfl);clear h hl har u V hX;go_enter Tryz.func55,Tryz.ntmps55;have b7 : IntKind.i64.wrap ((e : Int) + 1 - 1) = (e : Int):=wk (by omega);have cx : IntKind.i64.wrap (e : Int) = (e : Int):=wk (by omega);have cz : (e : Int) < (xs.length : Int):=by omega
 have ch : (0 : Int) <= (e : Int):=by omega
 go_wp2
 go_loopw [5,6,7,8,9] (fun o at_ i _ _ wr=>∃ (k : Nat) (I : Option Addr) (J : Nat),k <= n /\ i = .int .i64 k /\ at_ = .int .i64 (itB d k e : Nat) /\ o = .slice I k J /\ Hid (wr.ownsRow w.heap.size 3 1 (.slice I k J) k (eh (cC d k e))) /\ Hid (Bw w wr)) (fun _ _ i _ _ _=>n - (intOf i).toNat)
 case atStart=>exact ⟨0,_,_,Nat.zero_le _,rfl,by first | rfl | (simp [itB]),rfl,ST,bel1 _ _⟩
 case round=>
  clear ST;obtain ⟨k,I,J,hk,rfl,rfl,rfl,U,T⟩:=hrel;obtain ⟨g,M,L,rfl,y0,y1,y2,y3,y4,y5,CA⟩:=N.out wr T.out;obtain ⟨s,y⟩:=xe (itB d k e);have be : s <= e:=by rw [y];exact pZ _ _ _
  have S : Hid (itB d k e = s):=y.symm;rw [<- y];clear y;by_cases ck : k < n
  ·have lk : (k : Int) < (n : Int):=by omega
   go_wp2_with fail;refine CA.out.mono ?_;rintro r p ⟨rfl,q⟩;have f : Hid (Bw w p):=T.out.trans (q.out.mono T.out.size);have B : Hid (p.ownsRow w.heap.size 3 1 (.slice I k J) k (eh (cC d k e))):=aG U.out (fun b e=>q.out.block b (U.out.lt b e.symm).2);have a4:=f.out.size
   have O : Hid ((p.alloc (.cells #[.int .i64 (s : Int)] 3)).ownsRow p.heap.size 3 1 (.slice (some ⟨p.heap.size,0,none⟩) 1 1) (0 + 1) (eh (s :: (cC d k e).take 0))):=by
    have:=World.ownsRow_lit (e:=3) (size:=1) p #[.int .i64 (s : Int)] 1 (nlr _) (by unfold maxLen;omega) (by rfl);exact this
   clear CA q y0 y1 y2 y3 y4 y5;go_wp2
   go_loopw [8,9] (fun nx j wr=>∃ (m : Nat) (D : Option Addr) (G : Nat),m <= k /\ j = .int .i64 m /\ nx = .slice D (m + 1) G /\ Hid (wr.ownsRow p.heap.size 3 1 (.slice D (m + 1) G) (m + 1) (eh (s :: (cC d k e).take m))) /\ Hid (Bw p wr)) (fun _ j _=>k - (intOf j).toNat)
   case atStart=>exact ⟨0,_,_,Nat.zero_le _,rfl,rfl,O,bel1 _ _⟩
   case round=>
    rename World=>C;clear O;obtain ⟨m,D,G,hm,rfl,rfl,Y,A⟩:=hrel;have cc:=A.out.size;by_cases ce : m < k
    ·have P : Hid (C.ownsRow w.heap.size 3 1 (.slice I k J) k (eh (cC d k e))):=aG B.out (fun b e=>A.out.block b (B.out.lt b e.symm).2)
     obtain ⟨go,gc,ev,_⟩:=au P.out (show 0 < k by omega);simp only [Value.slice.injEq] at ev;obtain ⟨rfl,-,rfl⟩:=ev;have Q:=bw d k e;have cm : C.cell? ⟨go,m,none⟩ = some (.int .i64 ((cC d k e)[m]'(by omega) : Nat)):=aU (es:=cC d k e) (by rw [Q];exact P.out) rfl (by omega);obtain ⟨x,hx⟩:=xe ((cC d k e)[m]'(by omega));rw [<- hx] at cm
     have a2 : Hid ((cC d k e).take (m + 1) = (cC d k e).take m ++ [x]):=by
      show _ = _;rw [List.take_add_one,List.getElem?_eq_getElem (by omega),hx];rfl
     clear Q hx;go_wp2_with (first | (at_builtin;refine wpList_append_lies _ rfl _ _ 95 rfl p.heap.size 3 i0 _ 1 8 Tryz.underlying95 bs bn bf Z rfl (by omega) (.slice D (m + 1) G) (m + 1) (eh (s :: (cC d k e).take m)) rfl (Y.out.alloc _) ⟨C.heap.size,0,none⟩ 1 1 [.int .i64 (x : Int)] rfl rfl (World.news_of_block (cs:=#[.int .i64 (x : Int)]) (t:=3) (fr:=(0,0)) (heap_alloc_new C _)) (by simp [Value.oneCell']) (by omega) (by unfold maxLen;omega) (by omega) (by simp only [World.size_alloc];omega) (C.heap.size + 1) (by simp) ?_;intro gg bx w5 E a0 b5 bL));have a9 : Hid (Bw p w5):=jc A.out a0 (fun b e=>(Y.out.lt b e).1);refine ⟨⟨m + 1,_,_,by omega,by go_num,rfl,?_,a9⟩,by simp [intOf];omega⟩;show World.ownsRow _ _ _ _ _ _ _;rw [a2.out,show s :: ((cC d k e).take m ++ [x]) = (s :: (cC d k e).take m) ++ [x] from rfl,oY];exact E
    ·have R : m = k:=by omega
     subst R
     have HF : Hid (C.ownsRow w.heap.size 3 1 (.slice D (m + 1) G) (m + 1) (eh (cC d (m + 1) e))):=by
      have:=Y.out;rw [List.take_of_length_le (by rw [bw];exact nlr _),<- S.out,<- kv] at this;exact aq this (by omega)
     have H : Hid (Bw w C):=f.out.trans (A.out.mono a4);have CS:=K.out C s (s : Int) H.out be rfl;have a3 : Hid (cl d s 1 = itB d (m + 1) e):=by show _ = _;rw [<- S.out];rfl
     clear Y;go_wp2_with (first | (go_at_call 80;refine CS.mono ?_;rintro r w6 ⟨rfl,F⟩));have a7 : Hid (w6.ownsRow w.heap.size 3 1 (.slice D (m + 1) G) (m + 1) (eh (cC d (m + 1) e))):=aG HF.out (fun b e=>F.block b (HF.out.lt b e.symm).2);have ao : Hid (Bw w w6):=H.out.trans (F.mono H.out.size);clear F
     go_roundw
     case rel=>exact ⟨m + 1,D,G,by omega,by go_num,by rw [a3.out],rfl,a7,ao⟩
     case measure=>simp [intOf];omega
  ·have bp : k = n:=by omega
   subst bp;have lk : ¬ (k : Int) < (k : Int):=by omega
   go_wp2_with fail;refine CA.out.mono ?_;rintro r p ⟨rfl,q⟩;have f : Hid (Bw w p):=T.out.trans (q.out.mono T.out.size);have B : Hid (p.ownsRow w.heap.size 3 1 (.slice I k J) k (eh (cC d k e))):=aG U.out (fun b e=>q.out.block b (U.out.lt b e.symm).2);go_wp2;go_ret;exact ⟨_,_,rfl,B.out,f.out⟩
theorem zd {a b : ByteArray} (h : a = b) : Ending.returned (.string a) = .returned (.string b):=by rw [h]
theorem AY : ∀ (n : Nat) (w : World),n <= 9223372036854775808 ->
  Calls Tryz.prog 79 #[.int .i64 (-(n : Int))] w fun e w'=>e = .returned (.string (bP n)) /\ ∃ k,w' = w.drewN k:=by
 intro n
 induction n using Nat.strongRecOn with
 | ind n ih=>
   intro w v;obtain ⟨d,b⟩:=xe (n % 10);have a : d < 10:=by omega
   have o : (n : Int) % 10 = (d : Int):=by omega
   have t : (⟨#[48,49,50,51,52,53,54,55,56,57]⟩ : ByteArray).size = 10:=rfl;have p : (d : Int) + 1 <= 10:=by omega
   have u : (0 : Int) <= (d : Int) + 1:=by omega
   have r : (d : Int) <= (d : Int) + 1:=by omega
   have s : ((d : Int) + 1).toNat = d + 1:=by omega
   have q : IntKind.i64.wrap ((d : Int) + 1) = (d : Int) + 1:=wk (by omega);by_cases h : n < 10
   ·have c : Hid (bV.extract d (d + 1) = bP n):=by
     show _ = _;rw [bP,if_pos h,b,Nat.mod_eq_of_lt h]
    clear ih b;go_enter Tryz.func79,Tryz.ntmps79;go_wp2;go_ret;exact ⟨zd c.out,0,rfl⟩
   ·have c : Hid (bP (n / 10) ++ bV.extract d (d + 1) = bP n):=by
     show _ = _;rw [bP.eq_1 n,if_neg h,b]
    have j : (n : Int) / 10 = ((n / 10 : Nat) : Int):=by omega
    have i : (bP (n / 10)).size <= 20:=jw 20 (n / 10) (by omega) (by omega);have l:=jf d a;have g : Hid (∀ w,Calls Tryz.prog 79 #[.int .i64 (-((n / 10 : Nat) : Int))] w fun e w'=>e = .returned (.string (bP (n / 10))) /\ ∃ k,w' = w.drewN k):=fun w=>ih (n / 10) (by omega) w (by omega);obtain ⟨m,f⟩:=xe (n / 10);rw [<- f] at g j i c;have x : Hid (m = n / 10):=f;have wr : IntKind.i64.wrap (-(m : Int)) = -(m : Int):=wk (by omega);clear ih b f;go_enter Tryz.func79,Tryz.ntmps79;go_wp2_with fail;go_quiet (first | (go_at_call 79;exact Calls.quiet_of (g.out _)));go_wp2;go_ret;exact ⟨zd c.out,_,rfl⟩
theorem zS (n : Nat) (w : World) (h2 : n <= 999999999) :
  Calls Tryz.prog 54 #[.int .i64 (n : Int)] w fun e w'=>e = .returned (.string (hU n)) /\ ∃ k,w' = w.drewN k:=by
 have a : Hid (∀ w,Calls Tryz.prog 79 #[.int .i64 (-(n : Int))] w fun e w'=>e = .returned (.string (hU n)) /\ ∃ k,w' = w.drewN k):=fun w=>AY n w (by omega);have h : ¬ (n : Int) < 0:=by omega
 have wr : IntKind.i64.wrap (-(n : Int)) = -(n : Int):=wk (by omega);go_enter Tryz.func54,Tryz.ntmps54;go_wp2_with fail;refine (a.out _).mono ?_;rintro e b ⟨rfl,nq,rfl⟩;go_wp2;go_ret;exact ⟨rfl,_,rfl⟩
def lvE (op : Int) : Nat:=if op = 6 \/ op = 8 then 0 else if op = 10 then 1 else if op = 9 then 2 else if op = 5 \/ op = 7 then 3 else 4
theorem yn (op : Int) (w : World) : Calls Tryz.prog 81 #[.int .i64 op] w fun e w'=>e = .returned (.int .i64 (lvE op : Int)) /\ w' = w:=by
 obtain ⟨r,k⟩:=xe (lvE op);have c : Hid (lvE op = r):=k.symm;rw [<- k];clear k;go_enter Tryz.func81,Tryz.ntmps81;by_cases g : op = 6
 ·have p : (op == 6) = true:=beq_iff_eq.2 g
  have a : Hid (r = 0):=by show _ = _;rw [<- c.out,g];rfl
  clear g;go_wp2;go_ret;exact ⟨by rw [a.out];rfl,rfl⟩
 have p : (op == 6) = false:=bn2 g;by_cases f : op = 8
 ·have n : (op == 8) = true:=beq_iff_eq.2 f
  have a : Hid (r = 0):=by show _ = _;rw [<- c.out,f];rfl
  clear f;go_wp2;go_ret;exact ⟨by rw [a.out];rfl,rfl⟩
 have n : (op == 8) = false:=bn2 f;by_cases b : op = 10
 ·have j : (op == 10) = true:=beq_iff_eq.2 b
  have a : Hid (r = 1):=by show _ = _;rw [<- c.out,b];rfl
  clear b;go_wp2;go_ret;exact ⟨by rw [a.out];rfl,rfl⟩
 have j : (op == 10) = false:=bn2 b;by_cases i : op = 9
 ·have l : (op == 9) = true:=beq_iff_eq.2 i
  have a : Hid (r = 2):=by show _ = _;rw [<- c.out,i];rfl
  clear i;go_wp2;go_ret;exact ⟨by rw [a.out];rfl,rfl⟩
 have l : (op == 9) = false:=bn2 i;by_cases d : op = 5
 ·have m : (op == 5) = true:=beq_iff_eq.2 d
  have a : Hid (r = 3):=by show _ = _;rw [<- c.out,d];rfl
  clear d;go_wp2;go_ret;exact ⟨by rw [a.out];rfl,rfl⟩
 have m : (op == 5) = false:=bn2 d;by_cases h : op = 7
 ·have o : (op == 7) = true:=beq_iff_eq.2 h
  have a : Hid (r = 3):=by show _ = _;rw [<- c.out,h];rfl
  clear h;go_wp2;go_ret;exact ⟨by rw [a.out];rfl,rfl⟩
 have o : (op == 7) = false:=bn2 h;have a : Hid (r = 4):=by show _ = _;rw [<- c.out];unfold lvE;rw [if_neg (by omega),if_neg (by omega),if_neg (by omega),if_neg (by omega)]
 clear g f b i d h;go_wp2;go_ret;exact ⟨by rw [a.out];rfl,rfl⟩
theorem AN {t : EI} {f : Fm} (h : fE t = some f) : f.lev = lvE t.op:=by
 have no : ∀ {g : Fm},g.lev = lvE t.op -> some g = some f -> f.lev = lvE t.op:=fun h1 e=>by cases e;exact h1
 unfold fE at h;refine ak h (fun z h=>ac h (no (by rw [z];rfl)) aa) fun _ h=>?_;refine ac h (fun h=>?_) aa;refine ak h (fun z h=>ac h (no (by rw [z];rfl)) aa) fun _ h=>?_;refine ac h (fun h=>?_) aa;refine ak h (fun z h=>ac h (no (by rw [z];rfl)) aa) fun _ h=>?_;refine ac h (fun h=>?_) aa;refine ak h (fun z h=>ac h (no (by rw [z,(bq _ _ _).2.2];rfl)) aa) fun _ h=>?_;refine ac h (fun h=>?_) aa;refine ak h (fun z h=>ac h (no (by rw [z];rfl)) aa) fun _ h=>?_;refine ak h (fun z h=>ac h (no (by rw [z];rfl)) (fun h=>ac h (no (by rw [z];rfl)) aa)) fun _ h=>?_;refine ac h (fun h=>?_) aa;refine ak h (fun z h=>no (by rw [z];rfl) h) fun _ h=>?_;refine ak h (fun z h=>no (by rw [z];rfl) h) fun _ h=>?_;refine ak h (fun z h=>no (by rw [z];rfl) h) fun _ h=>?_;exact ak h (fun z h=>no (by rw [z];rfl) h) fun _ h=>aa h
def nP (xs : List (EI × EPl)) (l : List EI) (a : Option Addr) (c e : Nat) : Prop:=∀ (W : World) (z : Int),kh W (.slice a xs.length c) xs -> z = (e : Int) + 1 -> Calls Tryz.prog 27 #[.slice a xs.length c,.int .i64 z] W fun r w'=>r = .returned (.string (pw (FE l) (e + 1)).1) /\ Bw W w'
structure mX (xs : List (EI × EPl)) (l : List EI) (e : Nat) : Prop where
 is : xs.map Prod.fst = l
 ar : Cm l (e + 1)
 vk : Vk (fun i=>(FE l i).needs.length) (e + 1)
 sz : ∀ k,k <= e + 1 -> (pw (FE l) k).1.size <= 100000000
 tsz : ∀ x,x ∈ xs -> ∀ k,k <= x.1.ty.length -> (pw (FT x.1.ty) k).1.size <= 100000000
theorem mX.item {xs : List (EI × EPl)} {l : List EI} {e : Nat} (h : mX xs l e) {k : Nat} (hk : k < xs.length) (hke : k <= e) : ∃ f,fE xs[k].1 = some f /\ FE l k = f:=by
 have a:=h.ar k (by omega);rw [vQ h.is hk] at a
 cases hf : fE xs[k].1 with
 | none=>rw [hf] at a;cases a
 | some f=>
   refine ⟨f,rfl,?_⟩;unfold FE;rw [<- h.is,List.getElem?_map,List.getElem?_eq_getElem hk];show (fE xs[k].1).getD wK = f;rw [hf];rfl
theorem gf {l : List EI} {e : Nat} {t : EI} {f : Fm} (ht : l[e]? = some t) (hf : fE t = some f) (hv : Vk (fun i=>(FE l i).needs.length) (e + 1)) : pw (FE l) (e + 1) = (aC f.needs f.texts ((cC (fun i=>(FE l i).needs.length) f.needs.length e).map (pw (FE l))),f.lev):=by
 have a : FE l e = f:=by unfold FE;rw [ht];show (fE t).getD wK = f;rw [hf];rfl
 rw [zo hv,a]
theorem jy {xs : List (EI × EPl)} {l : List EI} {a : Option Addr} {c e : Nat} (H : mX xs l e) (he : e < xs.length) (C : nP xs l a c e) (w : World) (h : kh w (.slice a xs.length c) xs) (least : Nat) {z : Int} (hz : z = (e : Int) + 1) :
  Calls Tryz.prog 56 #[.slice a xs.length c,.int .i64 z,.int .i64 (least : Int)] w fun r w'=>r = .returned (.string (brk least (pw (FE l) (e + 1)))) /\ Bw w w':=by
 subst hz;obtain ⟨f,B,v⟩:=H.item he (nlr _)
 have i : (pw (FE l) (e + 1)).2 = lvE xs[e].1.op:=by
  show (FE l e).lev = _;rw [v];exact AN B
 have u : Hid (Calls Tryz.prog 27 #[.slice a xs.length c,.int .i64 ((e : Int) + 1)] w fun r w'=>r = .returned (.string (pw (FE l) (e + 1)).1) /\ Bw w w'):=C w _ h rfl
 have t : Hid (∀ W,Bw w W -> ∃ g,a = some ⟨g,0,none⟩ /\ W.cell? ⟨g,e * 6,none⟩ = some (Value.int .i64 xs[e].1.op)):=fun W hb=>by
  obtain ⟨g,_,_,I,x,_⟩:=(h.below hb).item he;exact ⟨g,I,x⟩
 have y:=h.len;have sA:=H.sz (e + 1) (nlr _);obtain ⟨A,p⟩:=xe ((pw (FE l) (e + 1)).1);obtain ⟨o,q⟩:=xe (xs[e].1.op);obtain ⟨r,s⟩:=xe (brk least (pw (FE l) (e + 1)));have j : Hid (r = if lvE o < least then sL ++ A ++ sR else A):=by show _ = _;rw [s];unfold brk;rw [i,<- p,<- q]
 rw [<- p] at u sA;rw [<- q] at t;rw [<- s];have G : IntKind.i64.wrap ((e : Int) + 1 - 1) = (e : Int):=wk (by omega);have D : IntKind.i64.wrap (e : Int) = (e : Int):=wk (by omega);have E : (e : Int) < (xs.length : Int):=by omega
 have J : (0 : Int) <= (e : Int):=by omega
 have sl : (⟨#[40]⟩ : ByteArray).size = 1:=rfl;have K : (⟨#[41]⟩ : ByteArray).size = 1:=rfl;clear h H C B v i p q s;go_enter Tryz.func56,Tryz.ntmps56;go_wp2_with fail;refine u.out.mono ?_;rintro L n ⟨rfl,b⟩;obtain ⟨g,rfl,x⟩:=t.out n b;have d : Hid (Bw w n):=b;clear b;go_wp2_with fail;refine (yn o n).mono ?_;rintro M N ⟨rfl,rfl⟩;by_cases k : lvE o < least
 ·have F : ((lvE o : Nat) : Int) < (least : Int):=by omega
  have m : Hid (r = (⟨#[40]⟩ : ByteArray) ++ A ++ (⟨#[41]⟩ : ByteArray)):=by show _ = _;rw [j.out,if_pos k];rfl
  have O:=rsa (⟨#[40]⟩ : ByteArray) A (by rw [sl];omega);have P:=rsa ((⟨#[40]⟩ : ByteArray) ++ A) (⟨#[41]⟩ : ByteArray) (by rw [bsa,sl,K];omega);clear k j;go_wp2;go_ret;exact ⟨by rw [m.out];rfl,d.out⟩
 ·have F : ¬ ((lvE o : Nat) : Int) < (least : Int):=by omega
  have m : Hid (r = A):=by show _ = _;rw [j.out,if_neg k]
  clear k j;go_wp2;go_ret;exact ⟨by rw [m.out];rfl,d.out⟩
theorem fE_cases {t : EI} {f : Fm} (h : fE t = some f) :
  (t.op = 1 /\ 0 <= t.num /\ t.num <= 999999999 /\ f = ⟨4,[],[hU t.num.toNat]⟩) \/ (t.op = 2 /\ t.num = 0 /\ f = ⟨4,[],[cg]⟩) \/ (t.op = 2 /\ t.num = 1 /\ f = ⟨4,[],[d9]⟩) \/ (t.op = 3 /\ f = ⟨4,[],[ia t.md t.nm]⟩) \/ (t.op = 4 /\ f = fF t.ns ft 4) \/ (t.op = 5 /\ f = ⟨3,[3],[e0,gi ++ t.nm]⟩) \/ (t.op = 6 /\ dH t.ty = true /\ f = ⟨0,[0],[gu ++ t.nm ++ dz ++ fW t.ty ++ ij,e0]⟩) \/ (t.op = 7 /\ f = ⟨3,[3,0],[e0,sL,sR]⟩) \/ (t.op = 8 /\ f = ⟨0,[0,0,0],[wP,il,iq,e0]⟩) \/ (t.op = 9 /\ f = ⟨2,[2,3],[e0,mK,e0]⟩) \/ (t.op = 10 /\ f = ⟨1,[2,2],[e0,iR,e0]⟩):=by
 unfold fE at h;refine ak h (fun z h=>ac h (fun e=>by cases e;simp [z]) aa) fun _ h=>?_;refine ac h (fun h=>?_) aa;refine ak h (fun z h=>ak h (fun y e=>by cases e;simp only [Bool.and_eq_true] at y;simp [z,y.1.1.2]) fun _ h=>aa h) fun _ h=>?_;refine ac h (fun h=>?_) aa;refine ak h (fun z h=>ac h (fun e=>by cases e;simp [z]) aa) fun _ h=>?_;refine ac h (fun h=>?_) aa;refine ak h (fun z h=>ac h (fun e=>by cases e;simp [z]) aa) fun _ h=>?_;refine ac h (fun h=>?_) aa;refine ak h (fun z h=>ak h (fun y e=>by cases e;simp [z,y.1,y.2]) fun _ h=>aa h) fun _ h=>?_;refine ak h (fun z h=>ak h (fun y e=>by cases e;simp [z,y]) (fun _ h=>ak h (fun y e=>by cases e;simp [z,y]) fun _ h=>aa h)) fun _ h=>?_;refine ac h (fun h=>?_) aa;refine ak h (fun z e=>by cases e;simp [z]) fun _ h=>?_;refine ak h (fun z e=>by cases e;simp [z]) fun _ h=>?_;refine ak h (fun z e=>by cases e;simp [z]) fun _ h=>?_;exact ak h (fun z e=>by cases e;simp [z]) fun _ h=>aa h
end Go.Proofs.YtihedobejcaapaaGreatDoor
