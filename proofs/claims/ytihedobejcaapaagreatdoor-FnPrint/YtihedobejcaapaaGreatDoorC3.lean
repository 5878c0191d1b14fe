/-
  YbI YbJ
-/
import Derived.Test.YtihedobejcaapaaGreatDoorC2
set_option maxHeartbeats 4000000
set_option maxRecDepth 100000
namespace Go.Proofs.YtihedobejcaapaaGreatDoor
open Go.RowKit
theorem mT (a b : List EI) : ed (a ++ b) = ed a + ed b:=by
 unfold ed;rw [lap,List.map_append,List.sum_append];omega
theorem nA (e : EI) : ed [e] = 1 + cE e:=by
 unfold ed;simp
theorem gR (a : List EI) : a.length <= ed a:=by unfold ed;omega
structure Cp (x : EI × EPl) : Prop where
 cap : x.1.ns.length <= x.2.np.c
 zs : ∀ y,y ∈ x.2.zs -> ku y
structure GE (B Bi : Nat) (w : World) (va : Option Addr) (n c X : Nat) (es : List (EI × EPl)) : Prop where
 own : w.ownsRow B 65 6 (.slice va n c) n (eisC es)
 len : n = es.length
 ok : ∀ x,x ∈ es -> ga Bi w x
 sm : ∀ x,x ∈ es -> Cp x
 cost : ed (es.map Prod.fst) <= X
theorem GE.re {B Bi : Nat} {w : World} {va : Option Addr} {n c X : Nat} {es : List (EI × EPl)} (h : GE B Bi w va n c X es) : RE 0 w (.slice va n c) es:=⟨by have:=aq h.own (Nat.zero_le B);rw [h.len] at this ⊢;exact this,fun x hx=>(h.ok x hx).mono (Nat.zero_le _)⟩
theorem GE.below {B Bi : Nat} {w w' : World} {va : Option Addr} {n c X : Nat} {es : List (EI × EPl)} (h : GE B Bi w va n c X es) (hb : Bw w w') : GE B Bi w' va n c X es:=
 ⟨az h.own (ax hb) (by decide),h.len,fun x hx=>(h.ok x hx).kp (ax hb) (by decide) (by decide),h.sm,h.cost⟩
theorem GE.mono {B B' Bi Bi' : Nat} {w : World} {va : Option Addr} {n c X X' : Nat} {es : List (EI × EPl)} (h : GE B Bi w va n c X es) (hb : B' <= B) (hi : Bi' <= Bi) (hX : X <= X') : GE B' Bi' w va n c X' es:=⟨aq h.own hb,h.len,fun x hx=>(h.ok x hx).mono hi,h.sm,Nat.le_trans h.cost hX⟩
theorem GE.le {B Bi : Nat} {w : World} {va : Option Addr} {n c X : Nat} {es : List (EI × EPl)} (h : GE B Bi w va n c X es) : n <= X:=by
 have a:=gR (es.map Prod.fst);rw [List.length_map] at a;have:=h.cost;have:=h.len;omega
theorem GE.drew {B Bi : Nat} {w : World} {va : Option Addr} {n c X : Nat} {es : List (EI × EPl)} (h : GE B Bi w va n c X es) : GE B Bi w.drew va n c X es:=h.below (Below.refl _ _).drew
theorem GE.push {B Bi : Nat} {w w3 : World} {va : Option Addr} {n c X X' : Nat} {es : List (EI × EPl)} {x : EI × EPl} {o : Obj} {gg cap3 : Nat} (h : GE B Bi w va n c X es)
  (hown : w3.ownsRow B 65 6 (.slice (some ⟨gg,0,none⟩) (n + 1) cap3) (n + 1) (eisC es ++ cU x)) (hg : (w.alloc o).grownBy w3 (Value.slice va n c).ownBlock) (hx : ga Bi w x) (hs : Cp x) (hX : X + 1 + cE x.1 <= X') :
  GE B Bi w3 (some ⟨gg,0,none⟩) (n + 1) cap3 X' (es ++ [x]):=by
 have a : Kp 65 w w3:=(bG _ w o).trans (bF (h.own.alloc o) hg);refine ⟨by rw [fe];exact hown,by rw [lap,h.len];rfl,fun y hy=>?_,fun y hy=>?_,?_⟩
 ·rcases List.mem_append.1 hy with z | z
  ·exact (h.ok y z).kp a (by decide) (by decide)
  ·rw [ms1 z]
   exact hx.kp a (by decide) (by decide)
 ·rcases List.mem_append.1 hy with z | z
  ·exact h.sm y z
  ·rw [ms1 z]
   exact hs
 ·rw [List.map_append,mT]
  have:=h.cost;have e : ed ([x].map Prod.fst) = 1 + cE x.1:=nA _;omega
theorem dj {B : Nat} (w : World) {op num : Int} {md nm : ByteArray} : ga B w ((⟨op,num,md,nm,[],[]⟩ : EI),im):=⟨aD.nil _ _ _,⟨World.ownsRow_nil _ _ _ _,fun x hx=>by cases hx⟩,rfl⟩
theorem eI {op num : Int} {md nm : ByteArray} : Cp ((⟨op,num,md,nm,[],[]⟩ : EI),im):=⟨nlr _,fun y hy=>by cases hy⟩
theorem eG {op num : Int} {md nm : ByteArray} : cE ⟨op,num,md,nm,[],[]⟩ = md.size + nm.size:=by
 unfold cE cN bQ kx;rfl
theorem iz (w : World) {Bi X : Nat} (op num : Int) {md nm : ByteArray} (hX : 1 + md.size + nm.size <= X) : GE w.heap.size Bi (w.alloc (.cells #[.int .i64 op,.int .i64 num,.string md,.string nm,.slice none 0 0,.slice none 0 0] 65)) (some ⟨w.heap.size,0,none⟩) 1 1 X [(⟨op,num,md,nm,[],[]⟩,im)]:=by
 refine ⟨World.ownsRow_lit w #[.int .i64 op,.int .i64 num,.string md,.string nm,.slice none 0 0,.slice none 0 0] 1 (nlr _) (by unfold maxLen;omega) (by rfl),rfl,fun x hx=>?_,fun x hx=>?_,?_⟩
 ·rw [ms1 hx];exact dj _
 ·rw [ms1 hx];exact eI
 ·show ed [_] <= X
  rw [nA,eG];omega
theorem eL (w : World) {Bi : Nat} : GE w.heap.size Bi (w.alloc (.cells #[] 65)) (some ⟨w.heap.size,0,none⟩) 0 0 0 []:=
 ⟨World.ownsRow_lit w #[] 0 (nlr _) (by unfold maxLen;omega) (by rfl),rfl,fun x hx=>(List.not_mem_nil hx).elim,fun x hx=>(List.not_mem_nil hx).elim,nlr _⟩
theorem jg (w : World) {v1 v2 : Value} {xs ys : List (EI × EPl)} (h1 : RE 0 w v1 xs) (h2 : RE 0 w v2 ys) (hl : xs.length + ys.length <= 1000000) :
  Calls Tryz.prog 41 #[v1,v2] w fun e w'=>(∃ va n c,e = .returned (.slice va n c) /\ n = (xs ++ ys).length /\ Hid (w'.ownsRow w.heap.size 65 6 (.slice va n c) n (eisC (xs ++ ys)) /\ ∀ x,x ∈ xs ++ ys -> ga 0 w' x)) /\ Hid (Bw w w'):=by
 obtain ⟨Z,N,K,J,I⟩:=info_parts Tryz.infoEI;obtain ⟨a1,c1,rfl⟩:=ad h1.own;obtain ⟨a2,c2,rfl⟩:=ad h2.own;have Q : Hid (RE 0 w (.slice a1 xs.length c1) xs):=h1;have S : Hid (RE 0 w (.slice a2 ys.length c2) ys):=h2;have Y : Hid ((w.alloc (.cells #[] 65)).ownsRow w.heap.size 65 6 (.slice (some ⟨w.heap.size,0,none⟩) 0 0) 0 (eisC (xs.take 0))):=World.ownsRow_lit w #[] 0 (nlr _) (by unfold maxLen;omega) (by rfl);clear h1 h2;go_enter Tryz.func41,Tryz.ntmps41;go_wp2
 go_loopw [5,6] (fun v i wr=>∃ k : Nat,k <= xs.length /\ i = .int .i64 k /\ wr.ownsRow w.heap.size 65 6 v k (eisC (xs.take k)) /\ Hid (Bw w wr)) (fun _ i _=>xs.length - (intOf i).toNat)
 case atStart=>exact ⟨0,Nat.zero_le _,rfl,Y.out,bel1 _ _⟩
 case round=>
  clear Y;obtain ⟨k,hk,rfl,p,u⟩:=hrel;obtain ⟨va,O,rfl⟩:=ad p;have L:=u.out.size;by_cases d : k < xs.length
  case pos=>
   obtain ⟨g,gc,G,W,T,A⟩:=au Q.out.own (show 0 < xs.length by omega);simp only [Value.slice.injEq] at G;obtain ⟨rfl,-,rfl⟩:=G;have m:=Q.out.below u.out;obtain ⟨x,h⟩:=xe (xs[k])
   have R : Hid (xs.take (k + 1) = xs.take k ++ [x]):=by
    show _ = _;rw [List.take_add_one,List.getElem?_eq_getElem d,h];rfl
   obtain ⟨s,q,l⟩ : ∃ s q,x.2.tv = .slice s x.2.zs.length q:=ad (m.ok x (by rw [h];exact List.getElem_mem d)).ty.own;obtain ⟨B,y⟩:=xe (x.2.zs.length);rw [<- y] at l;clear y;have D : Hid (cU x = [Value.int .i64 x.1.op,Value.int .i64 x.1.num,Value.string x.1.md,Value.string x.1.nm,Value.slice x.2.np.a x.1.ns.length x.2.np.c,Value.slice s B q]):=by show _ = _;unfold cU;rw [l]
   have y0 : wr.cell? ⟨g,k * 6,none⟩ = some (Value.int .i64 x.1.op):=af (f:=cU) av m.own (j:=k) (r:=0) rfl d (by omega) (by rw [<- h];rfl);have y1 : wr.cell? ⟨g,k * 6 + 1,none⟩ = some (Value.int .i64 x.1.num):=af (f:=cU) av m.own rfl d (by omega) (by rw [<- h];rfl);have y2 : wr.cell? ⟨g,k * 6 + 2,none⟩ = some (Value.string x.1.md):=af (f:=cU) av m.own rfl d (by omega) (by rw [<- h];rfl);have y3 : wr.cell? ⟨g,k * 6 + 3,none⟩ = some (Value.string x.1.nm):=af (f:=cU) av m.own rfl d (by omega) (by rw [<- h];rfl);have y4 : wr.cell? ⟨g,k * 6 + 4,none⟩ = some (Value.slice x.2.np.a x.1.ns.length x.2.np.c):=af (f:=cU) av m.own rfl d (by omega) (by rw [<- h];rfl);have y5 : wr.cell? ⟨g,k * 6 + 5,none⟩ = some (Value.slice s B q):=af (f:=cU) av m.own rfl d (by omega) (by rw [<- h];show some x.2.tv = _;rw [l]);obtain ⟨z0,U⟩:=xe (x.1.op);clear m h l U;go_wp2_with (first | (at_builtin;refine wpList_append_lies _ rfl _ _ 35 rfl w.heap.size 65 Z _ 6 96 Tryz.underlying35 N K J I rfl (by omega) (.slice va k O) k (eisC (xs.take k)) rfl (p.alloc _) ⟨wr.heap.size,0,none⟩ 1 1 [Value.int .i64 x.1.op,Value.int .i64 x.1.num,Value.string x.1.md,Value.string x.1.nm,Value.slice x.2.np.a x.1.ns.length x.2.np.c,Value.slice s B q] rfl rfl (World.news_of_block (cs:=#[Value.int .i64 x.1.op,Value.int .i64 x.1.num,Value.string x.1.md,Value.string x.1.nm,Value.slice x.2.np.a x.1.ns.length x.2.np.c,Value.slice s B q]) (t:=65) (fr:=(0,0)) (heap_alloc_new wr _)) (by simp [Value.oneCell']) (by omega) (by unfold maxLen;omega) (by omega) (by simp only [World.size_alloc];omega) (wr.heap.size + 1) (by simp) ?_;intro gg M V o A P H));have X : Hid (Bw w V):=ae u.out A (fun b e=>(p.lt b e).1);refine ⟨⟨k + 1,by omega,by go_num,?_,X⟩,by simp [intOf];omega⟩;rw [R.out,fe];rw [D.out];exact o
  have C : k = xs.length:=by omega
  subst C
  have E : Hid (wr.ownsRow w.heap.size 65 6 (.slice va xs.length O) (xs.length + 0) (eisC (xs ++ ys.take 0))):=by
   show World.ownsRow _ _ _ _ _ _ _;rw [List.take_zero,List.append_nil,Nat.add_zero];rw [List.take_length] at p;exact p
  have F : Hid (Bw w wr):=u;clear p u d hk L;go_wp2
  go_loopw [5,7] (fun v i wr=>∃ k : Nat,k <= ys.length /\ i = .int .i64 k /\ wr.ownsRow w.heap.size 65 6 v (xs.length + k) (eisC (xs ++ ys.take k)) /\ Hid (Bw w wr)) (fun _ i _=>ys.length - (intOf i).toNat)
  case atStart=>exact ⟨0,Nat.zero_le _,rfl,E.out,F⟩
  case round=>
   rename World=>wr;clear E F;obtain ⟨k,hk,rfl,p,u⟩:=hrel;obtain ⟨va,O,rfl⟩:=ad p;have L:=u.out.size;by_cases d : k < ys.length
   case pos=>
    obtain ⟨g,gc,G,W,T,A⟩:=au S.out.own (show 0 < ys.length by omega);simp only [Value.slice.injEq] at G;obtain ⟨rfl,-,rfl⟩:=G;have m:=S.out.below u.out;obtain ⟨x,h⟩:=xe (ys[k])
    have R : Hid (ys.take (k + 1) = ys.take k ++ [x]):=by
     show _ = _;rw [List.take_add_one,List.getElem?_eq_getElem d,h];rfl
    obtain ⟨s,q,l⟩ : ∃ s q,x.2.tv = .slice s x.2.zs.length q:=ad (m.ok x (by rw [h];exact List.getElem_mem d)).ty.own;obtain ⟨B,y⟩:=xe (x.2.zs.length);rw [<- y] at l;clear y;have D : Hid (cU x = [Value.int .i64 x.1.op,Value.int .i64 x.1.num,Value.string x.1.md,Value.string x.1.nm,Value.slice x.2.np.a x.1.ns.length x.2.np.c,Value.slice s B q]):=by show _ = _;unfold cU;rw [l]
    have y0 : wr.cell? ⟨g,k * 6,none⟩ = some (Value.int .i64 x.1.op):=af (f:=cU) av m.own (j:=k) (r:=0) rfl d (by omega) (by rw [<- h];rfl);have y1 : wr.cell? ⟨g,k * 6 + 1,none⟩ = some (Value.int .i64 x.1.num):=af (f:=cU) av m.own rfl d (by omega) (by rw [<- h];rfl);have y2 : wr.cell? ⟨g,k * 6 + 2,none⟩ = some (Value.string x.1.md):=af (f:=cU) av m.own rfl d (by omega) (by rw [<- h];rfl);have y3 : wr.cell? ⟨g,k * 6 + 3,none⟩ = some (Value.string x.1.nm):=af (f:=cU) av m.own rfl d (by omega) (by rw [<- h];rfl);have y4 : wr.cell? ⟨g,k * 6 + 4,none⟩ = some (Value.slice x.2.np.a x.1.ns.length x.2.np.c):=af (f:=cU) av m.own rfl d (by omega) (by rw [<- h];rfl);have y5 : wr.cell? ⟨g,k * 6 + 5,none⟩ = some (Value.slice s B q):=af (f:=cU) av m.own rfl d (by omega) (by rw [<- h];show some x.2.tv = _;rw [l]);obtain ⟨z0,U⟩:=xe (x.1.op);clear m h l U;go_wp2_with (first | (at_builtin;refine wpList_append_lies _ rfl _ _ 35 rfl w.heap.size 65 Z _ 6 96 Tryz.underlying35 N K J I rfl (by omega) (.slice va (xs.length + k) O) (xs.length + k) (eisC (xs ++ ys.take k)) rfl (p.alloc _) ⟨wr.heap.size,0,none⟩ 1 1 [Value.int .i64 x.1.op,Value.int .i64 x.1.num,Value.string x.1.md,Value.string x.1.nm,Value.slice x.2.np.a x.1.ns.length x.2.np.c,Value.slice s B q] rfl rfl (World.news_of_block (cs:=#[Value.int .i64 x.1.op,Value.int .i64 x.1.num,Value.string x.1.md,Value.string x.1.nm,Value.slice x.2.np.a x.1.ns.length x.2.np.c,Value.slice s B q]) (t:=65) (fr:=(0,0)) (heap_alloc_new wr _)) (by simp [Value.oneCell']) (by omega) (by unfold maxLen;omega) (by omega) (by simp only [World.size_alloc];omega) (wr.heap.size + 1) (by simp) ?_;intro gg M V o A P H));have X : Hid (Bw w V):=ae u.out A (fun b e=>(p.lt b e).1);refine ⟨⟨k + 1,by omega,by go_num,?_,X⟩,by simp [intOf];omega⟩;rw [R.out,<- List.append_assoc,fe];rw [D.out];exact o
   have C : k = ys.length:=by omega
   subst C
   have HF : Hid (wr.ownsRow w.heap.size 65 6 (.slice va (xs.length + ys.length) O) (xs.length + ys.length) (eisC (xs ++ ys)) /\ ∀ x,x ∈ xs ++ ys -> ga 0 wr x):=by
    rw [List.take_length] at p;refine ⟨p,fun x h=>?_⟩;rcases List.mem_append.1 h with z | z
    ·exact (Q.out.below u.out).ok x z
    ·exact (S.out.below u.out).ok x z
   clear p;go_wp2;go_ret;exact ⟨⟨_,_,_,rfl,lap.symm,HF⟩,u⟩
theorem BT {B1 B2 Bi : Nat} (w : World) {a1 a2 : Option Addr} {n1 c1 n2 c2 X1 X2 : Nat} {xs ys : List (EI × EPl)} (h1 : GE B1 Bi w a1 n1 c1 X1 xs) (h2 : GE B2 Bi w a2 n2 c2 X2 ys) (hX : X1 + X2 <= 1000000) :
  Calls Tryz.prog 41 #[.slice a1 n1 c1,.slice a2 n2 c2] w fun e w'=>(∃ va n c,e = .returned (.slice va n c) /\ Hid (GE w.heap.size Bi w' va n c (X1 + X2) (xs ++ ys))) /\ Hid (Bw w w'):=by
 have g:=h1.le;have h:=h2.le;refine (jg w h1.re h2.re (by rw [<- h1.len,<- h2.len];omega)).mono ?_;rintro e w' ⟨⟨va,n,c,d,f,b⟩,a⟩;refine ⟨⟨va,n,c,d,⟨b.out.1,f,fun x hx=>?_,fun x hx=>?_,?_⟩⟩,a⟩
 ·rcases List.mem_append.1 hx with z | z
  ·exact (h1.ok x z).kp (ax a.out) (by decide) (by decide)
  ·exact (h2.ok x z).kp (ax a.out) (by decide) (by decide)
 ·rcases List.mem_append.1 hx with z | z
  ·exact h1.sm x z
  ·exact h2.sm x z
 ·rw [List.map_append,mT]
  have:=h1.cost;have:=h2.cost;omega
def PE : Nat -> Nat
 | 0=>2
 | d + 1=>10 + 3 * PE d
def XE : Nat -> Nat
 | 0=>25
 | d + 1=>3 * XE d + 300
theorem PE_pos : ∀ d,2 <= PE d
 | 0=>nlr _
 | d + 1=>by show 2 <= 10 + 3 * PE d;omega
theorem XE_pos : ∀ d,25 <= XE d
 | 0=>nlr _
 | d + 1=>by show 25 <= 3 * XE d + 300;omega
def bI (op num : Int) (md nm : ByteArray) : EI:=⟨op,num,md,nm,[],[]⟩
def ie (a b : Nat) (z : Int) (V M : List ByteArray) : List EI:=
 if a < 4 \/ (a < 7 /\ z <= 0) then [bI 3 0 e0 (V.getD (b % V.length) e0)]
 else if a = 4 /\ 0 < M.length then [bI 3 0 (M.getD (b % M.length) e0) (V.getD (b / 8 % V.length) e0)]
 else if a < 7 \/ z <= 0 then [bI 1 ((b * b * (b % 3) : Nat) : Int) e0 e0]
 else [bI 2 ((b % 2 : Nat) : Int) e0 e0]
def Df (a : Nat) : Int:=if a < 16 then 7 else if a = 16 then 10 else if a = 17 then 8 else 9
def em (C : Nat -> Nat) (Ln : Nat) (T M : List ByteArray) : Nat -> List ByteArray -> Nat -> List EI × Nat
 | 0,V,p=>(ie (tk C Ln p 20) (tk C Ln (p + 1) 64) 0 V M,p + 1 + 1)
 | d + 1,V,p=>
   if tk C Ln p 20 < 8 then (ie (tk C Ln p 20) (tk C Ln (p + 1) 64) ((d : Int) + 1) V M,p + 1 + 1)
   else if tk C Ln p 20 < 10 then ((em C Ln T M d (dK (tk C Ln (p + 1) 64 % 5) :: V) (ba C Ln T M 1 (p + 1 + 1)).2).1 ++ [⟨6,0,e0,dK (tk C Ln (p + 1) 64 % 5),[],(ba C Ln T M 1 (p + 1 + 1)).1⟩],(em C Ln T M d (dK (tk C Ln (p + 1) 64 % 5) :: V) (ba C Ln T M 1 (p + 1 + 1)).2).2)
   else if tk C Ln p 20 < 12 then ((em C Ln T M d V (p + 1 + 1)).1 ++ [bI 5 0 e0 (fldN (tk C Ln (p + 1) 64) (tk C Ln (p + 1) 64 % 3))],(em C Ln T M d V (p + 1 + 1)).2)
   else if tk C Ln p 20 < 14 then ((rp (fun _ q=>em C Ln T M d V q) ([],p + 1 + 1) (tk C Ln (p + 1) 64 % 4)).1 ++ [⟨4,0,e0,e0,nmsG (tk C Ln (p + 1) 64) (tk C Ln (p + 1) 64 % 4),[]⟩],(rp (fun _ q=>em C Ln T M d V q) ([],p + 1 + 1) (tk C Ln (p + 1) 64 % 4)).2)
   else ((rp (fun _ q=>em C Ln T M d V q) ([],p + 1 + 1) (if tk C Ln p 20 = 17 then 3 else 2)).1 ++ [bI (Df (tk C Ln p 20)) 0 e0 e0],(rp (fun _ q=>em C Ln T M d V q) ([],p + 1 + 1) (if tk C Ln p 20 = 17 then 3 else 2)).2)
def tE (w : World) (P X p : Nat) (r : List EI × Nat) (e : Ending) (w' : World) : Prop:=(∃ (va : Option Addr) (n c q : Nat),e = .returned (.tuple #[.slice va n c,.int .i64 (q : Int)]) /\ p <= q /\ q <= p + P /\ Hid (∃ es,GE w.heap.size w.heap.size w' va n c X es /\ r = (es.map Prod.fst,q))) /\ Hid (Bw w w')
theorem g_E_lit (w : World) (z : Int) {P X : Nat} (hP : 2 <= P) (hX : 25 <= X) {ca : Option Addr} {cb co Ln cc p : Nat} {C : Nat -> Nat} (hC : am w ca cb co Ln C) (hLn : Ln <= 1048576) (hp : p <= 1000000) {T V M : List ByteArray} {tp vp mp : NPl} (hS : Sc w T V M tp vp mp) (hV : 0 < V.length)
  (hcase : tk C Ln p 20 < 8 \/ z <= 0) {r : List EI × Nat} (hr : r = (ie (tk C Ln p 20) (tk C Ln (p + 1) 64) z V M,p + 1 + 1)) :
  Calls Tryz.prog 65 #[.slice ca Ln cc,.int .i64 (p : Int),.agg #[.slice tp.a T.length tp.c,.slice vp.a V.length vp.c,.slice mp.a M.length mp.c],.int .i64 z] w (tE w P X p r):=by
 obtain ⟨q,y⟩:=xe (w.alloc (.cells #[.slice tp.a T.length tp.c,.slice vp.a V.length vp.c,.slice mp.a M.length mp.c] 76));have B1 : Bw w q:=by rw [y];exact bel1 _ _
 have R:=hQx B1;have d : Hid (Sc q T V M tp vp mp):=hS.below B1;have C1:=aO ca cb co Ln cc p 20 C q (hC.below B1) hLn (by omega) (by omega);have C2:=aO ca cb co Ln cc (p + 1) 64 C q (hC.below B1) hLn (by omega) (by omega);obtain ⟨a,ha⟩:=xe (tk C Ln p 20);obtain ⟨b,hb⟩:=xe (tk C Ln (p + 1) 64);have b5 : a < 20:=by rw [ha];exact cd (by omega)
 have cn : b < 64:=by rw [hb];exact cd (by omega)
 rw [<- ha] at C1 hcase hr;rw [<- hb] at C2 hr;have HR : Hid (r = (ie a b z V M,p + 1 + 1)):=hr;clear hr;have HX : Hid (q.rowIs w.heap.size 76 3 (v3 (.slice tp.a T.length tp.c) (.slice vp.a V.length vp.c) (.slice mp.a M.length mp.c))):=by rw [y];exact ej w _ _ _ _
 have x1 : q.cell? ⟨w.heap.size,1,none⟩ = some (.slice vp.a V.length vp.c):=HX.out.cell (i:=1) (by omega);have x2 : q.cell? ⟨w.heap.size,2,none⟩ = some (.slice mp.a M.length mp.c):=HX.out.cell (i:=2) (by omega);clear hC hS ha hb B1;go_enter Tryz.func65,Tryz.ntmps65;go_wp2_with fail;rw [<- y];clear y;refine C1.mono ?_;rintro e w' ⟨rfl,rfl⟩;go_wp2_with fail;refine C2.mono ?_;rintro e w' ⟨rfl,rfl⟩;clear C1 C2
 have f : Hid (∀ (op num : Int) (md nm : ByteArray) (V' : World),V' = q.alloc (.cells #[.int .i64 op,.int .i64 num,.string md,.string nm,.slice none 0 0,.slice none 0 0] 65) \/ V' = (q.alloc (.cells #[.int .i64 op,.int .i64 num,.string md,.string nm,.slice none 0 0,.slice none 0 0] 65)).drew -> md.size <= 12 -> nm.size <= 12 -> ie a b z V M = [bI op num md nm] -> tE w P X p r (.returned (.tuple #[.slice (some ⟨q.heap.size,0,none⟩) 1 1,.int .i64 ((p + 1 + 1 : Nat) : Int)])) V'):=fun op num md nm V' hV h1 h2 hl=>by
  have ao : r = ([bI op num md nm],p + 1 + 1):=by rw [HR.out,hl]
  have G:=(iz q (X:=X) op num (md:=md) (nm:=nm) (by omega)).mono (Bi':=w.heap.size) (Bi:=w.heap.size) R.out.size (nlr _) (nlr _);have ab:=R.out.alloc R.out.size (.cells #[.int .i64 op,.int .i64 num,.string md,.string nm,.slice none 0 0,.slice none 0 0] 65);rcases hV with rfl | rfl
  ·exact ⟨⟨_,_,_,p + 1 + 1,rfl,by omega,by omega,_,G,ao⟩,ab⟩
  ·exact ⟨⟨_,_,_,p + 1 + 1,rfl,by omega,by omega,_,G.drew,ao⟩,ab.drew⟩
 have q9 : (0 : Int) < (V.length : Int):=by omega
 have Y : ¬ (V.length : Int) = 0:=by omega
 by_cases t : a < 4 \/ (a < 7 /\ z <= 0)
 ·obtain ⟨k,x⟩:=xe (b % V.length)
  have h : k < V.length:=by rw [x];exact Nat.mod_lt _ hV
  have m1 : Int.tmod (b : Int) (V.length : Int) = (k : Int):=by rw [bl,x]
  have m2 : (k : Int) < (V.length : Int):=by omega
  have m3 : (0 : Int) <= (k : Int):=by omega
  have S:=d.out.v.at_ hV;have y0:=d.out.v.cell k h;have j:=d.out.gv (V.getD k e0) (by rw [List.getD_eq_getElem?_getD,List.getElem?_eq_getElem h];exact List.getElem_mem h);obtain ⟨s,E⟩:=xe (V.getD k e0);have A : Hid (ie a b z V M = [bI 3 0 ⟨#[]⟩ s]):=by show _ = _;unfold ie;rw [if_pos t,E,x];rfl
  rw [<- E] at y0 j;have o : Hid (gn s = true):=j;obtain ⟨tl,g⟩:=xe (V.length);have a6 : tl <= 1000:=by rw [g];exact d.out.lv.1
  rw [S] at x1;rw [<- g] at x1 q9 Y m1 m2;rw [S,<- g];clear x E S j g hcase;by_cases c4 : (a : Int) < 4
  ·clear t
   go_wp2
   go_region
   all_goals
    go_wp2;go_ret2;exact f.out 3 0 ⟨#[]⟩ s _ (.inr rfl) (by decide) (dr o.out) A.out
  ·have c7 : (a : Int) < 7:=by omega
   have cz : z <= 0:=by omega
   clear t;go_wp2
   go_region
   all_goals
    go_wp2;go_ret2;exact f.out 3 0 ⟨#[]⟩ s _ (.inr rfl) (by decide) (dr o.out) A.out
 by_cases u : a = 4 /\ 0 < M.length
 ·have cz : ¬ z <= 0:=by omega
  have a3 : Hid (ie a b z V M = [bI 3 0 (M.getD (b % M.length) e0) (V.getD (b / 8 % V.length) e0)]):=by show _ = _;unfold ie;rw [if_neg t,if_pos u]
  have a0:=u.1;subst a0;have a8 : (0 : Int) < (M.length : Int):=by omega
  have be : ¬ (M.length : Int) = 0:=by omega
  obtain ⟨k,x⟩:=xe ((b / 8) % V.length);have h : k < V.length:=by rw [x];exact Nat.mod_lt _ hV
  obtain ⟨b8,Q⟩:=xe (b / 8);have m0 : Int.tdiv (b : Int) 8 = (b8 : Int):=by rw [Q];exact kw b 8
  have m1 : Int.tmod (b8 : Int) (V.length : Int) = (k : Int):=by rw [bl,x,Q]
  have m2 : (k : Int) < (V.length : Int):=by omega
  have m3 : (0 : Int) <= (k : Int):=by omega
  obtain ⟨l,B⟩:=xe (b % M.length);have L : l < M.length:=by rw [B];exact Nat.mod_lt _ u.2
  have m4 : Int.tmod (b : Int) (M.length : Int) = (l : Int):=by rw [bl,B]
  have m5 : (l : Int) < (M.length : Int):=by omega
  have m6 : (0 : Int) <= (l : Int):=by omega
  have S:=d.out.v.at_ hV;have H:=d.out.m.at_ u.2;have y0:=d.out.v.cell k h;have y1:=d.out.m.cell l L;have j:=d.out.gv (V.getD k e0) (by rw [List.getD_eq_getElem?_getD,List.getElem?_eq_getElem h];exact List.getElem_mem h);have J:=d.out.gm (M.getD l e0) (by rw [List.getD_eq_getElem?_getD,List.getElem?_eq_getElem L];exact List.getElem_mem L);obtain ⟨s,E⟩:=xe (V.getD k e0);obtain ⟨s2,I⟩:=xe (M.getD l e0);have A : Hid (ie 4 b z V M = [bI 3 0 s2 s]):=by rw [E,I,x,B];exact a3
  rw [<- E] at y0 j;rw [<- I] at y1 J;have o : Hid (gn s = true /\ gn s2 = true):=⟨j,J⟩;obtain ⟨tl,g⟩:=xe (V.length);obtain ⟨ml,D⟩:=xe (M.length);have a6 : tl <= 1000:=by rw [g];exact d.out.lv.1
  have c2 : ml <= 1000:=by rw [D];exact d.out.lm.1
  have ch : b8 <= 8:=by omega
  rw [S] at x1;rw [H] at x2;rw [<- g] at x1 q9 Y m1 m2;rw [<- D] at x2 a8 be m4 m5;rw [S,H,<- g,<- D];clear x E I S H j J g D B Q t u hcase;go_wp2
  go_region
  all_goals
   go_wp2;go_ret2;exact f.out 3 0 s2 s _ (.inr rfl) (dr o.out.2) (dr o.out.1) A.out
 have m3 : Int.tmod (b : Int) 3 = ((b % 3 : Nat) : Int):=bl b 3;obtain ⟨O,K⟩:=xe (b % 3);rw [<- K] at m3;have b6 : O < 3:=by omega
 have Z : b * b <= 64 * 64:=Nat.mul_le_mul (by omega) (by omega);obtain ⟨N,n⟩:=xe (b * b);rw [<- n] at Z;have bp : N * O <= 4096 * 3:=Nat.mul_le_mul (by omega) (by omega)
 have w1 : IntKind.i64.wrap ((b : Int) * (b : Int)) = (N : Int):=by
  rw [n,IntKind.wrap_i64];have : ((b * b : Nat) : Int) = (b : Int) * (b : Int):=by simp
  omega
 have w2 : IntKind.i64.wrap ((N : Int) * (O : Int)) = ((N * O : Nat) : Int):=by
  rw [IntKind.wrap_i64];have : ((N * O : Nat) : Int) = (N : Int) * (O : Int):=by simp
  omega
 obtain ⟨nn,U⟩ : ∃ nn : Int,nn = ((N * O : Nat) : Int):=⟨_,rfl⟩;rw [<- U] at w2;have b4 : Hid (nn = ((b * b * (b % 3) : Nat) : Int)):=by rw [U,n,K];exact rfl
 clear K n U Z bp;by_cases W : a < 7 \/ z <= 0
 ·have A : Hid (ie a b z V M = [bI 1 nn ⟨#[]⟩ ⟨#[]⟩]):=by show _ = _;unfold ie;rw [if_neg t,if_neg u,if_pos W,b4.out];rfl
  by_cases c4 : (a : Int) < 4 <;> by_cases c7 : (a : Int) < 7 <;> by_cases cz : z <= 0 <;> by_cases ce : a = 4 <;> by_cases cM : (0 : Int) < (M.length : Int)
  all_goals first
   | (exfalso;omega)
   | (subst ce;clear t u W hcase;go_wp2;go_ret2;exact f.out 1 nn ⟨#[]⟩ ⟨#[]⟩ _ (.inl rfl) (by decide) (by decide) A.out)
   | (have c1 : ((a : Int) == 4) = false:=bn2 (by omega);clear t u W hcase ce;go_wp2;go_ret2;exact f.out 1 nn ⟨#[]⟩ ⟨#[]⟩ _ (.inl rfl) (by decide) (by decide) A.out)
 ·have e7 : a = 7:=by omega
  have bv : Hid (ie a b z V M = [bI 2 ((b % 2 : Nat) : Int) e0 e0]):=by show _ = _;unfold ie;rw [if_neg t,if_neg u,if_neg W]
  subst e7;have cz : ¬ z <= 0:=by omega
  have m2 : Int.tmod (b : Int) 2 = ((b % 2 : Nat) : Int):=bl b 2;obtain ⟨b2,F⟩:=xe (b % 2);rw [<- F] at m2;have A : Hid (ie 7 b z V M = [bI 2 b2 ⟨#[]⟩ ⟨#[]⟩]):=by rw [F];exact bv
  clear F t u W hcase;go_wp2;go_ret2;exact f.out 2 b2 ⟨#[]⟩ ⟨#[]⟩ _ (.inl rfl) (by decide) (by decide) A.out
end Go.Proofs.YtihedobejcaapaaGreatDoor
