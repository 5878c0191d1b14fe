/-
  YbD YbE YbF
-/
import Derived.Test.YtihedobejcaapaaGreatDoorAD
import Derived.Test.YtihedobejcaapaaGreatDoorB9
import Derived.BigRegion
set_option maxHeartbeats 4000000
set_option maxRecDepth 100000
namespace Go.Proofs.YtihedobejcaapaaGreatDoor
open Go.RowKit
def letters : ByteArray:=⟨#[97,98,99,100,101,102,103,104,120,121,122]⟩
def dK (i : Nat) : ByteArray:=letters.extract i (i + 1)
theorem kj : ∀ i : Fin 11,gn (dK i.val) = true /\ (dK i.val).size = 1:=by decide
theorem yD : ∀ i : Fin 7,dK i.val ≠ ⟨#[120]⟩ /\ dK i.val ≠ ⟨#[121]⟩:=by decide
theorem j6 (i : Nat) (w : World) (hi : i < 11) : Calls Tryz.prog 66 #[.int .i64 (i : Int)] w fun e w'=>e = .returned (.string (dK i)) /\ w' = w:=by
 have a : Int.tmod (i : Int) 11 = (i : Int):=by rw [show (11 : Int) = ((11 : Nat) : Int) from rfl,bl,Nat.mod_eq_of_lt hi]
 have d : ¬ (11 : Int) <= (i : Int):=by omega
 have b : IntKind.i64.wrap (i : Int) = (i : Int):=wk (by omega);have c : IntKind.i64.wrap ((i : Int) + 1) = (i : Int) + 1:=wk (by omega);go_enter Tryz.func66,Tryz.ntmps66;go_wp2;go_ret;exact ⟨rfl,rfl⟩
def fldN (i k : Nat) : ByteArray:=if k = 0 then ⟨#[120]⟩ else if k = 1 then ⟨#[121]⟩ else dK (i % 7)
theorem j3 (i k : Nat) : gn (fldN i k) = true /\ (fldN i k).size = 1:=by
 unfold fldN
 split
 ·decide
 ·split
  ·decide
  ·have h:=kj ⟨i % 7,by omega⟩
   exact h
theorem nM (i j : Nat) : fldN i 0 ≠ fldN j 1 /\ fldN i 0 ≠ fldN j 2 /\ fldN i 1 ≠ fldN j 2:=by
 have h:=yD ⟨j % 7,by omega⟩;exact ⟨show (⟨#[120]⟩ : ByteArray) ≠ ⟨#[121]⟩ by decide,fun e=>h.1 e.symm,fun e=>h.2 e.symm⟩
theorem nD (i k : Nat) (w : World) : Calls Tryz.prog 64 #[.int .i64 (i : Int),.int .i64 (k : Int)] w fun e w'=>e = .returned (.string (fldN i k)) /\ w' = w:=by
 by_cases b : k = 0
 ·subst b
  go_enter Tryz.func64,Tryz.ntmps64;go_wp2;go_ret;exact ⟨rfl,rfl⟩
 ·by_cases a : k = 1
  ·subst a
   go_enter Tryz.func64,Tryz.ntmps64;go_wp2;go_ret;exact ⟨rfl,rfl⟩
  ·have c : Hid (fldN i k = dK (i % 7)):=by show _ = _;unfold fldN;rw [if_neg b,if_neg a]
   have g : ((k : Int) == 0) = false:=bn2 (by omega);have f : ((k : Int) == 1) = false:=bn2 (by omega);have d : Int.tmod (i : Int) 7 = ((i % 7 : Nat) : Int):=bl i 7;have h : IntKind.i64.wrap ((i % 7 : Nat) : Int) = ((i % 7 : Nat) : Int):=wk (by omega);have C:=j6 (i % 7) w (by omega);clear b a;go_enter Tryz.func64,Tryz.ntmps64;go_wp2_with fail;refine C.mono ?_;rintro e w' ⟨rfl,rfl⟩;go_wp2;go_ret;exact ⟨by rw [c.out];rfl,rfl⟩
def AR : ByteArray:=⟨#[116,117,119,114,121,122]⟩
def zB : ByteArray:=⟨#[102,103,104,107,100,101]⟩
def dP (i : Nat) (b : Bool) : ByteArray:=if b then zB.extract (i % 6) (i % 6 + 1) else AR.extract (i % 6) (i % 6 + 1)
theorem xP : ∀ i : Fin 6,(gn (AR.extract i.val (i.val + 1)) = true /\ (AR.extract i.val (i.val + 1)).size = 1) /\ gn (zB.extract i.val (i.val + 1)) = true /\ (zB.extract i.val (i.val + 1)).size = 1:=by decide
theorem jS (i : Nat) (b : Bool) : gn (dP i b) = true /\ (dP i b).size = 1:=by
 have h:=xP ⟨i % 6,by omega⟩;cases b
 ·exact h.1
 ·exact h.2
theorem mt (i : Nat) (b : Bool) (w : World) : Calls Tryz.prog 37 #[.int .i64 (i : Int),.bool b] w fun e w'=>e = .returned (.string (dP i b)) /\ w' = w:=by
 have d : Int.tmod (i : Int) 6 = ((i % 6 : Nat) : Int):=bl i 6;obtain ⟨m,a⟩:=xe (i % 6);have c : m < 6:=by omega
 have f : Hid (m = i % 6):=a;rw [<- a] at d;have h : IntKind.i64.wrap (m : Int) = (m : Int):=wk (by omega);have g : IntKind.i64.wrap ((m : Int) + 1) = (m : Int) + 1:=wk (by omega);clear a;cases b <;>
 ·go_enter Tryz.func37,Tryz.ntmps37
  go_wp2;go_ret;exact ⟨by unfold dP;rw [<- f.out];rfl,rfl⟩
end Go.Proofs.YtihedobejcaapaaGreatDoor
namespace Go.Proofs.YtihedobejcaapaaGreatDoor
theorem xk {a b : List TI} {i : Nat} (h : i < a.length) : aT (a ++ b) i = aT a i:=by
 unfold aT;rw [List.getElem?_append_left h]
theorem oI (a b : List TI) (j : Nat) : aT (a ++ b) (a.length + j) = aT b j:=by
 unfold aT;rw [List.getElem?_append_right (by omega),Nat.add_sub_cancel_left]
theorem ki {a b : List TI} : ∀ k,k <= a.length -> bN (aT (a ++ b)) k = bN (aT a) k
 | 0,_=>rfl
 | k + 1,h=>by
   rw [bN,bN,ki k (by omega),xk (by omega)]
theorem rg {a b : List TI} {h : Nat} (ha : bN (aT a) a.length = some h) : ∀ (j g : Nat),bN (aT b) j = some g -> bN (aT (a ++ b)) (a.length + j) = some (h + g)
 | 0,g,hb=>by
   cases hb;rw [Nat.add_zero,ki _ (nlr _),ha];rfl
 | j + 1,g,hb=>by
   rw [bN] at hb;show bN (aT (a ++ b)) (a.length + j + 1) = _;rw [bN,oI]
   cases hv : bN (aT b) j with
   | none=>rw [hv] at hb;cases hb
   | some g0=>
     rw [hv] at hb;rw [rg ha j g0 hv]
     cases ht : aT b j with
     | none=>rw [ht] at hb;cases hb
     | some m=>
       rw [ht] at hb
       dsimp only at hb ⊢
       split at hb
       ·rename_i hm
        cases hb;rw [if_pos (by omega)];congr 1;omega
       ·cases hb
theorem pM {a : List TI} (h : dH a = true) : bN (aT a) a.length = some 1:=by
 unfold dH at h;exact beq_iff_eq.1 h
theorem we {a b : List TI} {h : Nat} (ha : bN (aT a) a.length = some h) (hb : dH b = true) : bN (aT (a ++ b)) (a ++ b).length = some (h + 1):=by
 rw [lap];exact rg ha b.length 1 (pM hb)
theorem mx {a : List TI} {h : Nat} (ha : bN (aT a) a.length = some h) {t : TI} {f : Fm} (hf : fT t = some f) (hn : f.needs.length = h) : dH (a ++ [t]) = true:=by
 unfold dH;have e : (a ++ [t]).length = a.length + 1:=by rw [lap];rfl
 rw [e,bN,ki _ (nlr _),ha]
 have b : aT (a ++ [t]) a.length = some f.needs.length:=by
  have:=oI a [t] 0;rw [Nat.add_zero] at this;rw [this];unfold aT;show ((some t).bind fT).map _ = _;rw [Option.bind_some,hf];rfl
 rw [b]
 dsimp only
 rw [if_pos (by omega)];have : h - f.needs.length + 1 = 1:=by omega
 rw [this];rfl
theorem mH {t : TI} {f : Fm} (hf : fT t = some f) (hn : f.needs.length = 0) : dH [t] = true:=mx (a:=[]) (h:=0) rfl hf hn
theorem kJ : dH [cV 1] = true /\ dH [cV 2] = true /\ dH [cV 3] = true:=⟨mH (f:=⟨1,[],[jD]⟩) rfl rfl,mH (f:=⟨1,[],[eB]⟩) rfl rfl,mH (f:=⟨1,[],[iC]⟩) rfl rfl⟩
theorem At {a b : List TI} (ha : dH a = true) (hb : dH b = true) : dH (a ++ b ++ [cV 6]) = true:=mx (we (pM ha) hb) (f:=⟨0,[1,0],[e0,iu,e0]⟩) rfl rfl
theorem A9 {a : List TI} {ns : List ByteArray} (ha : bN (aT a) a.length = some ns.length) (hn : dN ns = true) : dH (a ++ [⟨5,e0,e0,ns⟩]) = true:=by
 have b : fT ⟨5,e0,e0,ns⟩ = some (fF ns dz 1):=by
  unfold fT;show (if (5 : Int) = 4 then _ else if e0.size = 0 /\ e0.size = 0 then _ else _) = _;rw [if_neg (by decide),if_pos ⟨rfl,rfl⟩,if_pos rfl,if_pos hn]
 exact mx ha b (bq _ _ _).2.1
theorem rG {md nm : ByteArray} (h : aI md nm = true) : dH [⟨4,md,nm,[]⟩] = true:=by
 have a : fT ⟨4,md,nm,[]⟩ = some ⟨1,[],[ia md nm]⟩:=by
  unfold fT;show (if (4 : Int) = 4 then (if aI md nm && decide (([] : List ByteArray).length = 0) then _ else _) else _) = _;rw [if_pos rfl,h];rfl
 exact mH a rfl
end Go.Proofs.YtihedobejcaapaaGreatDoor
namespace Go.Proofs.YtihedobejcaapaaGreatDoor
open Go.RowKit
structure ku (x : TI × NPl) : Prop where
 cap : x.1.ns.length <= x.2.c
 len : x.1.ns.length <= 3
 md : x.1.md.size <= 12
 nm : x.1.nm.size <= 12
 nms : ∀ s,s ∈ x.1.ns -> s.size <= 12
structure GT (B : Nat) (w : World) (va : Option Addr) (n c L : Nat) (xs : List (TI × NPl)) : Prop where
 rt : RT B w (.slice va n c) xs
 len : n = xs.length
 pos : 1 <= n
 le : n <= L
 ok : dH (xs.map Prod.fst) = true
 sm : ∀ x,x ∈ xs -> ku x
def LL : Nat -> Nat
 | 0=>1
 | d + 1=>3 * LL d + 1
def PP : Nat -> Nat
 | 0=>2
 | d + 1=>2 + 3 * PP d
def nmsG (b k : Nat) : List ByteArray:=(List.range k).map fun j=>fldN ((b / 4 + j * 3) % 7) j
def rp {α : Type} (f : Nat -> Nat -> List α × Nat) (s : List α × Nat) : Nat -> List α × Nat
 | 0=>s
 | k + 1=>((rp f s k).1 ++ (f k (rp f s k).2).1,(f k (rp f s k).2).2)
theorem dm {α : Type} {f : Nat -> Nat -> List α × Nat} {s : List α × Nat} {k q q2 : Nat} {xs ys : List α} (h : (xs,q) = rp f s k) (h2 : f k q = (ys,q2)) : (xs ++ ys,q2) = rp f s (k + 1):=by
 show _ = ((rp f s k).1 ++ (f k (rp f s k).2).1,(f k (rp f s k).2).2);rw [<- h];show _ = (xs ++ (f k q).1,(f k q).2);rw [h2]
def iU (a b : Nat) (T M : List ByteArray) : List TI:=
 if a < 3 then [cV 1] else if a = 3 then [cV 2] else if a = 4 then [cV 3]
 else if a < 8 /\ 0 < T.length then [⟨4,e0,T.getD (b % T.length) e0,[]⟩]
 else if a < 10 /\ 0 < M.length /\ 0 < T.length then [⟨4,M.getD (b % M.length) e0,T.getD (b / 8 % T.length) e0,[]⟩]
 else [cV 1]
def ba (C : Nat -> Nat) (Ln : Nat) (T M : List ByteArray) : Nat -> Nat -> List TI × Nat
 | 0,p=>(iU (tk C Ln p 16) (tk C Ln (p + 1) 64) T M,p + 1 + 1)
 | d + 1,p=>
   if tk C Ln p 16 < 5 \/ (tk C Ln p 16 < 8 /\ 0 < T.length) \/ (tk C Ln p 16 < 10 /\ 0 < M.length /\ 0 < T.length) then (iU (tk C Ln p 16) (tk C Ln (p + 1) 64) T M,p + 1 + 1)
   else if tk C Ln p 16 < 13 then ((ba C Ln T M d (p + 1 + 1)).1 ++ (ba C Ln T M d (ba C Ln T M d (p + 1 + 1)).2).1 ++ [cV 6],(ba C Ln T M d (ba C Ln T M d (p + 1 + 1)).2).2)
   else ((rp (fun _ q=>ba C Ln T M d q) ([],p + 1 + 1) (tk C Ln (p + 1) 64 % 4)).1 ++ [⟨5,e0,e0,nmsG (tk C Ln (p + 1) 64) (tk C Ln (p + 1) 64 % 4)⟩],(rp (fun _ q=>ba C Ln T M d q) ([],p + 1 + 1) (tk C Ln (p + 1) 64 % 4)).2)
def AF (w : World) (d p : Nat) (r : List TI × Nat) (e : Ending) (w' : World) : Prop:=(∃ (va : Option Addr) (n c q : Nat),e = .returned (.tuple #[.slice va n c,.int .i64 (q : Int)]) /\ p <= q /\ q <= p + PP d /\ Hid (∃ xs,GT w.heap.size w' va n c (LL d) xs /\ r = (xs.map Prod.fst,q))) /\ Hid (Bw w w')
structure Sc (w : World) (T V M : List ByteArray) (tp vp mp : NPl) : Prop where
 t : lG w tp T
 v : lG w vp V
 m : lG w mp M
 gt : ∀ s,s ∈ T -> gn s = true
 gv : ∀ s,s ∈ V -> gn s = true
 gm : ∀ s,s ∈ M -> gn s = true
 lt : T.length <= 1000 /\ T.length <= tp.c
 lv : V.length <= 1000 /\ V.length <= vp.c
 lm : M.length <= 1000 /\ M.length <= mp.c
theorem Sc.below {w w' : World} {T V M : List ByteArray} {tp vp mp : NPl} (h : Sc w T V M tp vp mp) (hb : Bw w w') : Sc w' T V M tp vp mp:=⟨h.t.below hb,h.v.below hb,h.m.below hb,h.gt,h.gv,h.gm,h.lt,h.lv,h.lm⟩
theorem dr {s : ByteArray} (h : gn s = true) : s.size <= 12:=(ny h).2
theorem mR (op : Int) {md nm : ByteArray} (h1 : md.size <= 12) (h2 : nm.size <= 12) : ku (⟨op,md,nm,[]⟩,⟨none,0,0⟩):=⟨nlr _,Nat.zero_le _,h1,h2,fun _ h=>by cases h⟩
theorem Az (w : World) {B L : Nat} (hB : B <= w.heap.size) (hL : 1 <= L) (op : Int) {md nm : ByteArray} (h1 : md.size <= 12) (h2 : nm.size <= 12) (ok : dH [⟨op,md,nm,[]⟩] = true) : GT B (w.alloc (.cells #[.int .i64 op,.string md,.string nm,.slice none 0 0] 80)) (some ⟨w.heap.size,0,none⟩) 1 1 L [(⟨op,md,nm,[]⟩,⟨none,0,0⟩)]:=
 ⟨pK w hB op md nm,rfl,nlr _,hL,ok,fun x hx=>by
  have : x = (⟨op,md,nm,[]⟩,⟨none,0,0⟩):=by simpa using hx
  rw [this];exact mR op h1 h2⟩
theorem zw : ∀ d,1 <= LL d
 | 0=>nlr _
 | d + 1=>by show 1 <= 3 * LL d + 1;omega
theorem Ao : ∀ d,2 <= PP d
 | 0=>nlr _
 | d + 1=>by show 2 <= 2 + 3 * PP d;omega
theorem g_T_lit (w : World) (d : Nat) {ca : Option Addr} {cb co Ln cc p : Nat} {C : Nat -> Nat} (hC : am w ca cb co Ln C) (hLn : Ln <= 1048576) (hp : p <= 1000000) {T V M : List ByteArray} {tp vp mp : NPl} (hS : Sc w T V M tp vp mp) (hd : d <= 100) {r : List TI × Nat} (hr : r = (iU (tk C Ln p 16) (tk C Ln (p + 1) 64) T M,p + 1 + 1))
  (hcase : tk C Ln p 16 < 5 \/ (tk C Ln p 16 < 8 /\ 0 < T.length) \/ (tk C Ln p 16 < 10 /\ 0 < T.length /\ 0 < M.length) \/ d = 0) :
  Calls Tryz.prog 38 #[.slice ca Ln cc,.int .i64 (p : Int),.agg #[.slice tp.a T.length tp.c,.slice vp.a V.length vp.c,.slice mp.a M.length mp.c],.int .i64 (d : Int)] w (AF w d p r):=by
 have an:=zw d;have b4:=Ao d;obtain ⟨u,x⟩:=xe (w.alloc (.cells #[.slice tp.a T.length tp.c,.slice vp.a V.length vp.c,.slice mp.a M.length mp.c] 76));have R : Bw w u:=by rw [x];exact bel1 _ _
 have K:=hQx R;have f : Hid (Sc u T V M tp vp mp):=hS.below R;have C1:=aO ca cb co Ln cc p 16 C u (hC.below R) hLn (by omega) (by omega);have C2:=aO ca cb co Ln cc (p + 1) 64 C u (hC.below R) hLn (by omega) (by omega);obtain ⟨a,ha⟩:=xe (tk C Ln p 16);obtain ⟨b,hb⟩:=xe (tk C Ln (p + 1) 64);have bs : a < 16:=by rw [ha];exact cd (by omega)
 have bv : b < 64:=by rw [hb];exact cd (by omega)
 rw [<- ha] at C1 hcase hr;rw [<- hb] at C2 hr;have HR : Hid (r = (iU a b T M,p + 1 + 1)):=hr;clear hr;have HX : Hid (u.rowIs w.heap.size 76 3 (v3 (.slice tp.a T.length tp.c) (.slice vp.a V.length vp.c) (.slice mp.a M.length mp.c))):=by rw [x];exact ej w _ _ _ _
 have X : u.cell? ⟨w.heap.size,0,none⟩ = some (.slice tp.a T.length tp.c):=HX.out.cell (i:=0) (by omega);have x2 : u.cell? ⟨w.heap.size,2,none⟩ = some (.slice mp.a M.length mp.c):=HX.out.cell (i:=2) (by omega);clear hC hS ha hb R;go_enter Tryz.func38,Tryz.ntmps38;go_wp2_with fail;rw [<- x];clear x;refine C1.mono ?_;rintro e w' ⟨rfl,rfl⟩;go_wp2_with fail;refine C2.mono ?_;rintro e w' ⟨rfl,rfl⟩;clear C1 C2
 have g : Hid (∀ (op : Int) (md nm : ByteArray) (V : World),V = u.alloc (.cells #[.int .i64 op,.string md,.string nm,.slice none 0 0] 80) \/ V = (u.alloc (.cells #[.int .i64 op,.string md,.string nm,.slice none 0 0] 80)).drew -> md.size <= 12 -> nm.size <= 12 -> dH [⟨op,md,nm,[]⟩] = true -> iU a b T M = [⟨op,md,nm,[]⟩] -> AF w d p r (.returned (.tuple #[.slice (some ⟨u.heap.size,0,none⟩) 1 1,.int .i64 ((p + 1 + 1 : Nat) : Int)])) V):=fun op md nm V hV h1 h2 ok hl=>by
  have S : r = ([(⟨op,md,nm,[]⟩ : TI)],p + 1 + 1):=by rw [HR.out,hl]
  have G:=Az u (B:=w.heap.size) (L:=LL d) K.out.size an op h1 h2 ok;have Q:=K.out.alloc K.out.size (.cells #[.int .i64 op,.string md,.string nm,.slice none 0 0] 80);rcases hV with rfl | rfl
  ·exact ⟨⟨_,_,_,p + 1 + 1,rfl,by omega,by omega,_,G,S⟩,Q⟩
  ·exact ⟨⟨_,_,_,p + 1 + 1,rfl,by omega,by omega,_,⟨G.rt.drew,G.len,G.pos,G.le,G.ok,G.sm⟩,S⟩,Q.drew⟩
 by_cases Y : a < 3
 ·have q3 : (a : Int) < 3:=by omega
  have J : Hid (iU a b T M = [cV 1]):=by show _ = _;unfold iU;rw [if_pos Y]
  go_wp2;go_ret2;exact g.out 1 ⟨#[]⟩ ⟨#[]⟩ _ (.inl rfl) (by decide) (by decide) kJ.1 J.out
 have q3 : ¬ (a : Int) < 3:=by omega
 by_cases U : a = 3
 ·subst U
  go_wp2;go_ret2;exact g.out 2 ⟨#[]⟩ ⟨#[]⟩ _ (.inl rfl) (by decide) (by decide) kJ.2.1 rfl
 have q4 : ((a : Int) == 3) = false:=bn2 (by omega);by_cases W : a = 4
 ·subst W
  go_wp2;go_ret2;exact g.out 3 ⟨#[]⟩ ⟨#[]⟩ _ (.inl rfl) (by decide) (by decide) kJ.2.2 rfl
 have q5 : ((a : Int) == 4) = false:=bn2 (by omega);by_cases N : a < 8 /\ 0 < T.length
 ·have q8 : (a : Int) < 8:=by omega
  have q9 : (0 : Int) < (T.length : Int):=by omega
  have O : ¬ (T.length : Int) = 0:=by omega
  obtain ⟨k,v⟩:=xe (b % T.length);have n : k < T.length:=by rw [v];exact Nat.mod_lt _ N.2
  have m1 : Int.tmod (b : Int) (T.length : Int) = (k : Int):=by rw [bl,v]
  have m2 : (k : Int) < (T.length : Int):=by omega
  have m3 : (0 : Int) <= (k : Int):=by omega
  have P:=f.out.t.at_ N.2;have Z:=f.out.t.cell k n;have o:=f.out.gt (T.getD k e0) (by rw [List.getD_eq_getElem?_getD,List.getElem?_eq_getElem n];exact List.getElem_mem n);obtain ⟨s,A⟩:=xe (T.getD k e0);have J : Hid (iU a b T M = [⟨4,e0,s,[]⟩]):=by show _ = _;unfold iU;rw [if_neg Y,if_neg U,if_neg W,if_pos N,A,v]
  rw [<- A] at Z o;have q : Hid (gn s = true):=o;obtain ⟨tl,h⟩:=xe (T.length);have ab : tl <= 1000:=by rw [h];exact f.out.lt.1
  rw [P] at X;rw [<- h] at X q9 O m1 m2;rw [P,<- h];clear v A P o h;go_wp2
  go_region
  all_goals
   go_wp2;go_ret2;exact g.out 4 ⟨#[]⟩ s _ (.inr rfl) (by decide) (dr q.out) (rG (by unfold aI;rw [q.out];rfl)) J.out
 by_cases j : a < 10 /\ 0 < M.length /\ 0 < T.length
 ·have q8 : ¬ (a : Int) < 8:=by omega
  have b9 : (a : Int) < 10:=by omega
  have q9 : (0 : Int) < (T.length : Int):=by omega
  have ah : (0 : Int) < (M.length : Int):=by omega
  have O : ¬ (T.length : Int) = 0:=by omega
  have a0 : ¬ (M.length : Int) = 0:=by omega
  obtain ⟨k,v⟩:=xe ((b / 8) % T.length);have n : k < T.length:=by rw [v];exact Nat.mod_lt _ j.2.2
  obtain ⟨b8,I⟩:=xe (b / 8);have m0 : Int.tdiv (b : Int) 8 = (b8 : Int):=by rw [I];exact kw b 8
  have m1 : Int.tmod (b8 : Int) (T.length : Int) = (k : Int):=by rw [bl,v,I]
  have m2 : (k : Int) < (T.length : Int):=by omega
  have m3 : (0 : Int) <= (k : Int):=by omega
  obtain ⟨l,y⟩:=xe (b % M.length);have H : l < M.length:=by rw [y];exact Nat.mod_lt _ j.2.1
  have m4 : Int.tmod (b : Int) (M.length : Int) = (l : Int):=by rw [bl,y]
  have m5 : (l : Int) < (M.length : Int):=by omega
  have m6 : (0 : Int) <= (l : Int):=by omega
  have P:=f.out.t.at_ j.2.2;have D:=f.out.m.at_ j.2.1;have Z:=f.out.t.cell k n;have y1:=f.out.m.cell l H;have o:=f.out.gt (T.getD k e0) (by rw [List.getD_eq_getElem?_getD,List.getElem?_eq_getElem n];exact List.getElem_mem n);have F:=f.out.gm (M.getD l e0) (by rw [List.getD_eq_getElem?_getD,List.getElem?_eq_getElem H];exact List.getElem_mem H);obtain ⟨s,A⟩:=xe (T.getD k e0);obtain ⟨s2,E⟩:=xe (M.getD l e0);have J : Hid (iU a b T M = [⟨4,s2,s,[]⟩]):=by show _ = _;unfold iU;rw [if_neg Y,if_neg U,if_neg W,if_neg N,if_pos j,A,E,v,y]
  rw [<- A] at Z o;rw [<- E] at y1 F;have q : Hid (gn s = true /\ gn s2 = true):=⟨o,F⟩;obtain ⟨tl,h⟩:=xe (T.length);obtain ⟨ml,z⟩:=xe (M.length);have ab : tl <= 1000:=by rw [h];exact f.out.lt.1
  have b3 : ml <= 1000:=by rw [z];exact f.out.lm.1
  have bo : b8 <= 8:=by omega
  rw [P] at X;rw [D] at x2;rw [<- h] at X q9 O m1 m2;rw [<- z] at x2 ah a0 m4 m5;rw [P,D,<- h,<- z];clear v A E P D o F h z y I N j;go_wp2
  go_region
  all_goals
   go_wp2;go_ret2;exact g.out 4 s2 s _ (.inr rfl) (dr q.out.2) (dr q.out.1) (rG (by unfold aI;rw [q.out.1,q.out.2];simp)) J.out
 ·have bf : d = 0:=by omega
  subst bf;clear hcase;have J : Hid (iU a b T M = [cV 1]):=by show _ = _;unfold iU;rw [if_neg Y,if_neg U,if_neg W,if_neg N,if_neg j]
  by_cases c8 : (a : Int) < 8 <;> by_cases cT : (0 : Int) < (T.length : Int) <;> by_cases b6 : (a : Int) < 10 <;> by_cases cM : (0 : Int) < (M.length : Int)
  all_goals first
   | (exfalso;omega)
   | (clear N j;go_wp2;go_ret2;exact g.out 1 ⟨#[]⟩ ⟨#[]⟩ _ (.inl rfl) (by decide) (by decide) kJ.1 J.out)
end Go.Proofs.YtihedobejcaapaaGreatDoor
