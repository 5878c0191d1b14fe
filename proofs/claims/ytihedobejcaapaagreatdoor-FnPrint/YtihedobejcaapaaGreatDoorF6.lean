/-
  SpV0 SpD SpV
-/
import Derived.Test.YtihedobejcaapaaGreatDoorF1
import Derived.Test.YtihedobejcaapaaGreatDoorD2
import Derived.Test.YtihedobejcaapaaGreatDoorF3
import Derived.Test.YtihedobejcaapaaGreatDoorF4
import Derived.Test.YtihedobejcaapaaGreatDoorF5
set_option maxHeartbeats 4000000
set_option maxRecDepth 100000
namespace Go.Proofs.YtihedobejcaapaaGreatDoor
open Go.RowKit
def cnt10 (L : Nat) : Nat:=if 10 < 2 + L / 10 then 10 else 2 + L / 10
theorem pB (L : Nat) : 2 <= cnt10 L /\ cnt10 L <= 10:=by
 unfold cnt10
 split <;> omega
theorem sN (ca : Option Addr) (L cc : Nat) (w : World) (hL : L <= 1048576) :
  Calls Tryz.prog 20 #[.slice ca L cc,.int .i64 10,.int .i64 2,.int .i64 10] w fun e w'=>e = .returned (.int .i64 (cnt10 L : Int)) /\ w = w':=by
 have f : Int.tdiv (L : Int) 10 = ((L / 10 : Nat) : Int):=kw L 10;obtain ⟨d,a⟩:=xe (L / 10);have b : Hid (cnt10 L = if 10 < 2 + d then 10 else 2 + d):=by rw [a];exact rfl
 rw [<- a] at f;have c : d <= 1048576:=by omega
 have g : IntKind.i64.wrap (2 + (d : Int)) = 2 + (d : Int):=wk (by omega);clear a;by_cases h : (10 : Int) < 2 + (d : Int)
 ·go_enter Tryz.func20,Tryz.ntmps20
  go_wp2;go_ret;exact ⟨by rw [b.out,if_pos (by omega)];rfl,rfl⟩
 ·go_enter Tryz.func20,Tryz.ntmps20
  go_wp2;go_ret;exact ⟨by rw [b.out,if_neg (by omega)];simp,rfl⟩
def Cq : List ByteArray:=[⟨#[97]⟩,⟨#[98]⟩,⟨#[109]⟩]
def sA : ByteArray:=⟨#[97]⟩
def Bp : ByteArray:=⟨#[97,98]⟩
def hun (b : Bool) : List DC:=oK (if b then Bp else sA) :: List.replicate 99 (oK sA)
def Cu (C : Nat -> Nat) (Ln : Nat) : List DC × Nat:=uw C Ln Cq 1 (cnt10 Ln)
def oQ (C : Nat -> Nat) (Ln : Nat) : List DC:=if 22 <= tk C Ln 0 24 then hun (decide (tk C Ln 0 24 = 23)) else if 15 <= tk C Ln 0 24 then gK C Ln (Cu C Ln).2 (Cu C Ln).1 else (Cu C Ln).1
def ig (ds : List DC) : Prop:=∀ d,d ∈ ds -> ∀ e,e ∈ d.ex -> fG e.num
theorem mem_setF {α : Type} {l : List α} {k : Nat} {f : α -> α} {y : α} (h : y ∈ setF l k f) : y ∈ l \/ ∃ x,x ∈ l /\ y = f x:=by
 unfold setF at h
 split at h
 ·rename_i x hx
  rcases List.mem_or_eq_of_mem_set h with h | h
  ·exact .inl h
  ·exact .inr ⟨x,List.mem_of_getElem? hx,h⟩
 ·exact .inl h
theorem sj (n : Int) : fG (IntKind.i64.wrap n):=by
 unfold fG;rw [IntKind.wrap_i64];omega
theorem yh (a : Nat) {x : EI} (h : fG x.num) : fG (jZ a x).num:=by
 unfold jZ
 split
 ·exact h
 split
 ·exact sj _
 split
 ·show fG 1000000000
  unfold fG;omega
 split
 ·exact h
 split
 ·exact h
 ·exact h
theorem ig.sp {ds : List DC} (h : ig ds) (C : Nat -> Nat) (Ln p : Nat) : ig (gK C Ln p ds):=fun d hd e he=>by
 unfold gK at hd;rcases mem_setF hd with hd | ⟨x,hx,rfl⟩
 ·exact h d hd e he
 ·have he2 : e ∈ setF (lf (tk C Ln p 14) x.ex) (tk C Ln (jX (tk C Ln p 14) (p + 1 + 1) x.ty) (lf (tk C Ln p 14) x.ex).length) (jZ (tk C Ln p 14)):=he
  have hA : ∀ y,y ∈ lf (tk C Ln p 14) x.ex -> fG y.num:=fun y hy=>by
   unfold lf at hy
   split at hy
   ·rcases List.mem_append.1 hy with z | z
    ·exact h x hx y z
    ·rw [ms1 z]
     show fG 0;unfold fG;omega
   ·exact h x hx y hy
  rcases mem_setF he2 with z | ⟨y,hy,rfl⟩
  ·exact hA e z
  ·exact yh _ (hA y hy)
theorem ig.hun (b : Bool) : ig (hun b):=fun d hd e he=>by
 have : d.ex = []:=by
  rcases List.mem_cons.1 hd with rfl | z
  ·rfl
  ·rw [(List.mem_replicate.1 z).2];rfl
 rw [this] at he;cases he
def k7 (s : ByteArray) : DC × DPl:=(oK s,pN)
def fR (k : Nat) : List (DC × DPl):=List.replicate k (k7 sA)
theorem s8 (k : Nat) : fR (k + 1) = fR k ++ [k7 sA]:=List.replicate_succ'
theorem du (k : Nat) : (fR k).length = k:=List.length_replicate
theorem mO (w : World) (s : ByteArray) : da 0 w (k7 s).1 (k7 s).2:=nf w
theorem kO (s : ByteArray) : ms (k7 s).2:=⟨(fun y hy=>by cases hy),(fun y hy=>by cases hy)⟩
theorem s6 (x y : DC × DPl) (l : List (DC × DPl)) : ((((bj (x :: l)).set 0 (.int .i64 y.1.kind)).set 1 (.string y.1.nm)).set 2 y.2.tv).set 3 y.2.ev = bj (y :: l):=rfl
theorem x8 (w : World) {ca : Option Addr} {cb co Ln cc p : Nat} {C : Nat -> Nat} (hC : am w ca cb co Ln C) (hLn : Ln <= 1048576) (hp : p <= 900000) {ma : Option Addr} {mc : Nat} {xs : List (DC × DPl)} (hM : fV w (.slice ma xs.length mc) xs) {ds : List DC} (hds : xs.map Prod.fst = ds) (hkd : ∀ d,d ∈ ds -> 1 <= d.kind /\ d.kind <= 3) (hcost : eX ds <= 700000) :
  Calls Tryz.prog 21 #[.slice ca Ln cc,.int .i64 (p : Int),.agg #[.slice ma xs.length mc]] w fun e w'=>(∃ (va : Option Addr) (m c : Nat),e = .returned (.agg #[.slice va m c]) /\ Hid (∃ ys,DO w.heap.size w' va m c ys /\ ys.map Prod.fst = gK C Ln p ds)) /\ Hid (Bw w w'):=by
 have a : tk C Ln p 14 < 14:=cd (by omega);by_cases b : tk C Ln p 14 < 3
 ·exact wJ w hC hLn hp hM hds hkd hcost ⟨Nat.zero_le _,b⟩
 by_cases f : tk C Ln p 14 < 6
 ·exact uX w hC hLn hp hM hds hkd hcost ⟨by omega,f⟩
 ·exact tW w hC hLn hp hM hds hkd hcost ⟨by omega,a⟩
theorem nV (b : Bool) : eX (hun b) <= 1048576:=by
 cases b
 ·exact Nat.le_of_ble_eq_true rfl
 ·exact Nat.le_of_ble_eq_true rfl
theorem zL : ∀ s,s ∈ Cq -> gn s = true:=fun s hs=>by
 unfold Cq at hs;simp only [List.mem_cons,List.not_mem_nil,or_false] at hs;rcases hs with rfl | rfl | rfl <;> rfl
theorem iV {W : World} {X : Nat} {f : Nat -> Value} (R : W.rowIs X 25 1 f) (a : Value) (tmps : Array Value) (h8 : tmps[2]?.getD undef = .pointer (some ⟨X,0,none⟩)) :
  (results Tryz.f9 tmps).run Tryz.prog (W.setCell ⟨X,0,none⟩ a) = .ok (.agg #[a]) (W.setCell ⟨X,0,none⟩ a):=by
 have r:=R.set 0 a;obtain ⟨V,b⟩:=xe (W.setCell ⟨X,0,none⟩ a);rw [<- b] at r ⊢;clear b R;have c : V.cell? ⟨X,0,none⟩ = some a:=r.cell (i:=0) (by omega);unfold results;rw [show Tryz.f9.results = #[.cell 2 25] from rfl];simp [go_sem,h8,c]
theorem tY {W : World} {X : Nat} {f : Nat -> Value} (R : W.rowIs X 25 1 f) (a : Value) (tmps : Array Value) (h8 : tmps[2]?.getD undef = .pointer (some ⟨X,0,none⟩)) :
  (results Tryz.f4 tmps).run Tryz.prog (W.setCell ⟨X,0,none⟩ a) = .ok (.agg #[a]) (W.setCell ⟨X,0,none⟩ a):=by
 have r:=R.set 0 a;obtain ⟨V,b⟩:=xe (W.setCell ⟨X,0,none⟩ a);rw [<- b] at r ⊢;clear b R;have c : V.cell? ⟨X,0,none⟩ = some a:=r.cell (i:=0) (by omega);unfold results;rw [show Tryz.f4.results = #[.cell 2 25] from rfl];simp [go_sem,h8,c]
theorem fV.kpM {w w' : World} {v : Value} {xs : List (DC × DPl)} (h : fV w v xs) (hk : Kp 25 w w') : fV w' v xs:=by
 obtain ⟨a,r⟩:=h.own;exact ⟨⟨a,az r hk (by decide)⟩,fun x hx=>jJ.of_cap ((h.ok x hx).rdok.kp hk (by decide) (by decide) (by decide)) (h.ok x hx).capP (h.ok x hx).cost,h.cost⟩
def wL (w : World) (ds : List DC) (e : Ending) (w' : World) : Prop:=(∃ (va : Option Addr) (m c : Nat),e = .returned (.agg #[.slice va m c]) /\ Hid (∃ xs,fV w' (.slice va m c) xs /\ m = xs.length /\ xs.map Prod.fst = ds)) /\ Hid (Bw w w')
theorem wL.put {w W : World} {X : Nat} {f : Nat -> Value} (R : W.rowIs X 25 1 f) (hX : w.heap.size <= X) {va : Option Addr} {m c : Nat} {xs : List (DC × DPl)} (hD : fV W (.slice va m c) xs) (hm : m = xs.length) (hb : Bw w W) : wL w (xs.map Prod.fst) (.returned (.agg #[.slice va m c])) (W.setCell ⟨X,0,none⟩ (.slice va m c)):=by
 have a : Bw w (W.setCell ⟨X,0,none⟩ (.slice va m c)):=hb.setCell (p:=⟨X,0,none⟩) hX _;exact ⟨⟨va,m,c,rfl,xs,hD.kpM (mB R _),hm,rfl⟩,a⟩
theorem xJ (w : World) {ca : Option Addr} {cb co Ln cc : Nat} {C : Nat -> Nat} (hC : am w ca cb co Ln C) (hLn : Ln <= 1048576) :
  Calls Tryz.prog 9 #[.slice ca Ln cc] w fun e w'=>wL w (oQ C Ln) e w' /\ ig (oQ C Ln):=by
 obtain ⟨i0,cq,b2,b7,b4⟩:=info_parts Tryz.infoDC;obtain ⟨G,O⟩:=xe (w.alloc (.cells #[.slice none 0 0] 25));have J : Hid (Bw w G):=by rw [O];exact bel1 _ _
 have R : Hid (∀ W,Bw G W -> W.rowIs w.heap.size 25 1 (fun _=>.slice none 0 0)):=fun W hb=>by
  have h : G.rowIs w.heap.size 25 1 (fun _=>.slice none 0 0):=by rw [O];exact aK _ _ _
  exact h.of_block (hb.block _ h.lt)
 have HC : Hid (∀ W,Bw w W -> am W ca cb co Ln C):=fun W hb=>hC.below hb;have C1:=aO ca cb co Ln cc 0 24 C G (HC.out G J.out) hLn (by omega) (by omega);obtain ⟨Y,ah⟩:=xe (tk C Ln 0 24);obtain ⟨rs,I⟩:=xe (Cu C Ln);have H : Hid (oQ C Ln = if 22 <= Y then hun (decide (Y = 23)) else if 15 <= Y then gK C Ln rs.2 rs.1 else rs.1):=by rw [ah,I];exact rfl
 rw [<- ah] at C1;obtain ⟨P,S⟩:=xe (G.alloc (.cells #[.string ⟨#[97]⟩,.string ⟨#[98]⟩,.string ⟨#[109]⟩] 9));have U : Hid (Bw G P):=by rw [S];exact bel1 _ _
 have V : Hid (Bw w P):=J.out.trans (U.out.mono J.out.size)
 have a4 : lG P ⟨some ⟨G.heap.size,0,none⟩,G.heap.size,3⟩ Cq:=by
  have r : P.rowIs G.heap.size 9 3 (v3 (.string ⟨#[97]⟩) (.string ⟨#[98]⟩) (.string ⟨#[109]⟩)):=by rw [S];exact ej _ _ _ _ _
  refine ⟨fun _=>rfl,fun k hk=>?_⟩
  match k,hk with
  | 0,_=>exact r.cell (i:=0) (by omega)
  | 1,_=>exact r.cell (i:=1) (by omega)
  | 2,_=>exact r.cell (i:=2) (by omega)
 have C2:=sN ca Ln cc P hLn;have C3:=tL P (HC.out P V.out) (cc:=cc) (p:=1) hLn (by omega) (mc:=3) a4 zL (by decide) (by decide) (n:=cnt10 Ln) (by have:=pB Ln;omega) (pB Ln).2;have an : Calls Tryz.prog 19 #[.slice ca Ln cc,.int .i64 ((1 : Nat) : Int),.slice (some ⟨G.heap.size,0,none⟩) 3 3,.int .i64 (cnt10 Ln : Int)] P (Dk P 1 rs):=by rw [I];exact C3
 obtain ⟨n0,bn⟩:=xe (cnt10 Ln);rw [<- bn] at C2 an;clear hC ah I a4 C3 bn;go_enter Tryz.func9,Tryz.ntmps9;go_upto_region 1 with fail;rw [<- O];clear O;go_wp2_with fail;refine C1.mono ?_;rintro e w1 ⟨rfl,rfl⟩;clear C1;go_wp2_with fail;rw [<- S];clear S;refine C2.mono ?_;rintro e w1 ⟨rfl,rfl⟩;clear C2;go_wp2_with fail;refine an.mono ?_;rintro e w3 ⟨⟨X,m,c,q,rfl,ew,d2,HX⟩,a9⟩;clear an;have L : Hid (Bw G w3):=U.out.trans (a9.out.mono U.out.size);obtain ⟨o,M⟩:=xe (w3.alloc (.cells #[.slice X m c] 25));have K : Hid (Bw w3 o):=by rw [M];exact bel1 _ _
 have b : Hid (Bw G o):=L.out.trans (K.out.mono L.out.size);have a : Hid (Bw w o):=J.out.trans (b.out.mono J.out.size);have ar : Hid (o.rowIs w3.heap.size 25 1 (fun _=>.slice X m c)):=by rw [M];exact aK _ _ _
 have Z : Hid (∃ D,fV o (.slice X m c) D /\ m = D.length /\ fS (D.map Prod.fst) = true /\ rs = (D.map Prod.fst,q) /\ eX (D.map Prod.fst) <= 700000):=by
  obtain ⟨D,h1,h2,h3,h4,h5⟩:=HX.out;exact ⟨D,h1.below K.out,h2,h3,h4,h5⟩
 clear HX a9 K L U V;go_upto_region 3 with fail;rw [<- M];clear M;by_cases d1 : (22 : Int) <= (Y : Int)
 ·have u : Hid (oQ C Ln = hun (decide (Y = 23))):=by show _ = _;rw [H.out,if_pos (by omega)]
  have ST : Hid ((o.alloc (.cells #[] 37)).ownsRow o.heap.size 37 4 (.slice (some ⟨o.heap.size,0,none⟩) 0 0) 0 (bj (fR 0))):=World.ownsRow_lit o #[] 0 (nlr _) (by unfold maxLen;omega) (by rfl);clear Z ar H;go_wp2
  go_loopw [7] (fun v wr=>∃ (k c1 : Nat) (X : Option Addr),k <= 100 /\ v = .slice X k c1 /\ Hid (wr.ownsRow o.heap.size 37 4 (.slice X k c1) k (bj (fR k))) /\ Hid (Bw o wr)) (fun v _=>match v with | .slice _ n _=>100 - n | _=>0)
  case atStart=>exact ⟨0,0,_,by omega,rfl,ST,bel1 _ _⟩
  case round=>
   clear ST;obtain ⟨k,c1,vb,hk,rfl,HO,HW⟩:=hrel;by_cases b6 : (k : Int) < 100
   ·have F:=HO.out
    have dl:=HW.out.size;go_wp2_with (first | (at_builtin;refine wpList_append_lies _ rfl _ _ 23 rfl o.heap.size 37 i0 _ 4 72 Tryz.underlying23 cq b2 b7 b4 rfl (by decide) (.slice vb k c1) k (bj (fR k)) rfl (F.alloc _) ⟨wr.heap.size,0,none⟩ 1 1 [.int .i64 1,.string ⟨#[97]⟩,.slice none 0 0,.slice none 0 0] rfl rfl (World.news_of_block (cs:=#[.int .i64 1,.string ⟨#[97]⟩,.slice none 0 0,.slice none 0 0]) (t:=37) (fr:=(0,0)) (heap_alloc_new wr _)) (by simp [Value.oneCell']) (by decide) (by unfold maxLen;omega) (by omega) (by simp only [World.size_alloc];omega) (wr.heap.size + 1) (by simp) ?_;intro gD b3 w7 ao b5 dd c7));have ch : Bw o w7:=ae HW.out b5 (fun j e=>(F.lt j e).1);refine ⟨⟨k + 1,b3,_,by omega,rfl,?_,ch⟩,by show 100 - (k + 1) < 100 - k;omega⟩;rw [s8,gU];exact ao
   ·have ce : k = 100:=by omega
    subst ce;clear b6;have cp : Hid (Bw w wr):=a.out.trans (HW.out.mono a.out.size);have a6 : Hid (Bw G wr):=b.out.trans (HW.out.mono b.out.size);by_cases a0 : Y = 23
    ·subst a0
     obtain ⟨g,gc,ev,dv⟩:=au HO.out (by omega);simp only [Value.slice.injEq] at ev;obtain ⟨rfl,-,rfl⟩:=ev;have F:=HO.out;have Q : o.heap.size <= g:=(F.lt g rfl).1;have y0 : wr.cell? ⟨g,0,none⟩ = some (.int .i64 1):=af (f:=fU) bz (l:=fR 100) (by rw [du];exact F) (j:=0) (r:=0) rfl (by rw [du];omega) (by omega) rfl;have y1 : wr.cell? ⟨g,1,none⟩ = some (.string sA):=af (f:=fU) bz (l:=fR 100) (by rw [du];exact F) (j:=0) (r:=1) rfl (by rw [du];omega) (by omega) rfl;have y2 : wr.cell? ⟨g,2,none⟩ = some (.slice none 0 0):=af (f:=fU) bz (l:=fR 100) (by rw [du];exact F) (j:=0) (r:=2) rfl (by rw [du];omega) (by omega) rfl;have y3 : wr.cell? ⟨g,3,none⟩ = some (.slice none 0 0):=af (f:=fU) bz (l:=fR 100) (by rw [du];exact F) (j:=0) (r:=3) rfl (by rw [du];omega) (by omega) rfl;have f0:=F.frozenAt 0;have f1:=F.frozenAt 1;have f2:=F.frozenAt 2;have f3:=F.frozenAt 3;go_upto_region 9 with fail;obtain ⟨W9,N⟩:=xe ((((wr.setCell ⟨g,0,none⟩ (.int .i64 1)).setCell ⟨g,1,none⟩ (.string ⟨#[97,98]⟩)).setCell ⟨g,2,none⟩ (.slice none 0 0)).setCell ⟨g,3,none⟩ (.slice none 0 0));rw [<- N]
     have b1 : Hid (W9.ownsRow o.heap.size 37 4 (.slice (some ⟨g,0,none⟩) 100 c1) 100 (bj (k7 Bp :: fR 99))):=by
      rw [N,<- s6 (k7 sA) (k7 Bp) (fR 99)];exact g7 (g7 (g7 (g7 F (by omega)) (by omega)) (by omega)) (by omega)
     have bb : Hid (Bw o W9):=by
      rw [N];exact (((HW.out.setCell (p:=⟨g,0,none⟩) Q _).setCell (p:=⟨g,1,none⟩) Q _).setCell (p:=⟨g,2,none⟩) Q _).setCell (p:=⟨g,3,none⟩) Q _
     have bo : Hid (Bw w W9):=a.out.trans (bb.out.mono a.out.size);have y:=R.out W9 (b.out.trans (bb.out.mono b.out.size));have r0:=y.cell (i:=0) (by omega);have T:=y.frozen 0;have s : Hid (W9.rowIs w.heap.size 25 1 (fun _=>.slice none 0 0)):=y
     have E : Hid (fV W9 (.slice (some ⟨g,0,none⟩) 100 c1) (k7 Bp :: fR 99) /\ (k7 Bp :: fR 99).map Prod.fst = oQ C Ln /\ ig (oQ C Ln)):=by
      have e : (k7 Bp :: fR 99).map Prod.fst = oQ C Ln:=by rw [u.out];rfl
      refine ⟨DO.dsa (B:=o.heap.size) ⟨b1.out,rfl,fun x hx=>?_,fun x hx=>?_⟩ (by rw [e,u.out];exact nV _),e,by rw [u.out];exact ig.hun _⟩
      ·rcases List.mem_cons.1 hx with z | z
       ·rw [z];exact mO _ _
       ·rw [(List.mem_replicate.1 z).2];exact mO _ _
      ·rcases List.mem_cons.1 hx with z | z
       ·rw [z];exact kO _
       ·rw [(List.mem_replicate.1 z).2];exact kO _
     clear y N y0 y1 y2 y3 f0 f1 f2 f3 F;go_wp2;refine bodyPost_ret (iV s.out _ _ rfl) rfl ?_;refine ⟨?_,E.out.2.2⟩;rw [<- E.out.2.1];exact wL.put s.out (nlr _) E.out.1 rfl bo.out
    ·have el : ((Y : Int) == 23) = false:=bn2 (by omega)
     have y:=R.out wr a6.out;have r0:=y.cell (i:=0) (by omega);have T:=y.frozen 0;have s : Hid (wr.rowIs w.heap.size 25 1 (fun _=>.slice none 0 0)):=y
     have E : Hid (fV wr (.slice vb 100 c1) (fR 100) /\ (fR 100).map Prod.fst = oQ C Ln /\ ig (oQ C Ln)):=by
      have e : (fR 100).map Prod.fst = oQ C Ln:=by rw [u.out,decide_eq_false a0];rfl
      refine ⟨DO.dsa (B:=o.heap.size) ⟨HO.out,rfl,fun x hx=>?_,fun x hx=>?_⟩ (by rw [e,u.out];exact nV _),e,by rw [u.out];exact ig.hun _⟩
      ·rw [(List.mem_replicate.1 hx).2];exact mO _ _
      ·rw [(List.mem_replicate.1 hx).2];exact kO _
     clear y a0;go_wp2;refine bodyPost_ret (iV s.out _ _ rfl) rfl ?_;refine ⟨?_,E.out.2.2⟩;rw [<- E.out.2.1];exact wL.put s.out (nlr _) E.out.1 rfl cp.out
 ·obtain ⟨D,hD,hm,bs,I,bf⟩:=Z.out
  subst hm;have y:=R.out o b.out;have z0:=ar.out.cell (i:=0) (by omega);have r0:=y.cell (i:=0) (by omega);have T:=y.frozen 0;have s : Hid (o.rowIs w.heap.size 25 1 (fun _=>.slice none 0 0)):=y;have A : Hid (fV o (.slice X D.length c) D /\ fS (D.map Prod.fst) = true /\ rs = (D.map Prod.fst,q) /\ eX (D.map Prod.fst) <= 700000):=⟨hD,bs,I,bf⟩;clear y hD bs I bf Z ar;by_cases ep : (15 : Int) <= (Y : Int)
  ·have C5:=x8 o (HC.out o a.out) (cc:=cc) (p:=q) hLn (by omega) (ma:=X) (mc:=c) A.out.1 rfl (fun d hd=>uH (rE A.out.2.1 d hd)) A.out.2.2.2
   have u : Hid (oQ C Ln = gK C Ln q (D.map Prod.fst)):=by show _ = _;rw [H.out,if_neg (by omega),if_pos (by omega),A.out.2.2.1]
   have b8 : Hid (∀ W,Bw o W -> W.rowIs w.heap.size 25 1 (fun _=>.slice none 0 0)):=fun W hb=>R.out W (b.out.trans (hb.mono b.out.size));clear r0 T H;go_wp2_with fail;refine C5.mono ?_;rintro e w5 ⟨⟨vb,m5,c5,rfl,HY⟩,a8⟩;clear C5;have y:=b8.out w5 a8.out;have r0:=y.cell (i:=0) (by omega);have T:=y.frozen 0;have s : Hid (w5.rowIs w.heap.size 25 1 (fun _=>.slice none 0 0)):=y;have a5 : Hid (Bw w w5):=a.out.trans (a8.out.mono a.out.size);clear y z0;go_wp2;refine bodyPost_ret (iV s.out _ _ rfl) rfl ?_;obtain ⟨ys,DY,a7⟩:=HY.out;have be : ig (oQ C Ln):=by rw [u.out];exact ig.sp (qS A.out.2.1) C Ln q
   refine ⟨?_,be⟩
   have a1 : eX (ys.map Prod.fst) <= 1048576:=by
    rw [a7];have h1:=A3 C Ln q (D.map Prod.fst);have h2:=A.out.2.2.2;omega
   rw [u.out,<- a7];exact wL.put s.out (nlr _) (DY.dsa a1) DY.len a5.out
  ·have u : Hid (oQ C Ln = D.map Prod.fst):=by show _ = _;rw [H.out,if_neg (by omega),if_neg (by omega),A.out.2.2.1]
   clear H;go_wp2;refine bodyPost_ret (iV s.out _ _ rfl) rfl ?_;rw [u.out];exact ⟨wL.put s.out (nlr _) A.out.1 rfl a.out,qS A.out.2.1⟩
theorem vY (w : World) {ca : Option Addr} {cb co Ln cc : Nat} {C : Nat -> Nat} (hC : am w ca cb co Ln C) (hLn : Ln <= 1048576) :
  Calls Tryz.prog 4 #[.slice ca Ln cc] w fun e w'=>wL w (oQ C Ln) e w' /\ ig (oQ C Ln):=by
 obtain ⟨j,a⟩:=xe (w.alloc (.cells #[.slice none 0 0] 25));have b : Hid (Bw w j):=by rw [a];exact bel1 _ _
 have n : Hid (∀ W,Bw j W -> W.rowIs w.heap.size 25 1 (fun _=>.slice none 0 0)):=fun W hb=>by
  have h : j.rowIs w.heap.size 25 1 (fun _=>.slice none 0 0):=by rw [a];exact aK _ _ _
  exact h.of_block (hb.block _ h.lt)
 have o:=xJ j (hC.below b.out) (cc:=cc) hLn;clear hC;go_enter Tryz.func4,Tryz.ntmps4;go_upto_region 1 with fail;rw [<- a];clear a;go_wp2_with fail;refine o.mono ?_;rintro e l ⟨⟨⟨v,x,u,rfl,r⟩,f⟩,p⟩;clear o;have k : Hid (ig (oQ C Ln)):=p;have g:=n.out l f.out;have y:=g.cell (i:=0) (by omega);have t:=g.frozen 0;have d : Hid (l.rowIs w.heap.size 25 1 (fun _=>.slice none 0 0)):=g;have c : Hid (Bw w l):=b.out.trans (f.out.mono b.out.size);clear g p;go_wp2;refine bodyPost_ret (tY d.out _ _ rfl) rfl ?_;obtain ⟨z,q,s,m⟩:=r.out;refine ⟨?_,k.out⟩;rw [<- m];exact wL.put d.out (nlr _) q s c.out
end Go.Proofs.YtihedobejcaapaaGreatDoor
