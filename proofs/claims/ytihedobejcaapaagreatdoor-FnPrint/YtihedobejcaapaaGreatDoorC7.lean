/-
  YbO
-/
import Derived.Test.YtihedobejcaapaaGreatDoorC5
set_option maxHeartbeats 4000000
set_option maxRecDepth 100000
namespace Go.Proofs.YtihedobejcaapaaGreatDoor
open Go.RowKit
theorem B0 {p : Prop} (h : p) : Hid p:=h
structure TH (xs : List (TI × NPl)) (l : List TI) : Prop where
 is : xs.map Prod.fst = l
 ar : yX l l.length
 vk : Vk (fun i=>(FT l i).needs.length) l.length
 sm : ∀ x,x ∈ xs -> ku x
 len : xs.length <= 13
theorem yX.mono {l : List TI} {j k : Nat} (h : yX l k) (hj : j <= k) : yX l j:=fun i hi=>h i (Nat.lt_of_lt_of_le hi hj)
theorem TH.of_ok {xs : List (TI × NPl)} (h : dH (xs.map Prod.fst) = true) (sm : ∀ x,x ∈ xs -> ku x) (len : xs.length <= 13) : TH xs (xs.map Prod.fst):=by
 obtain ⟨b,_,c⟩:=gF (a:=fun i=>(FT (xs.map Prod.fst) i).needs.length) (fun j n _ hj=>Ba hj) (pM h);exact ⟨rfl,c,b,sm,len⟩
theorem TH.item {xs : List (TI × NPl)} {l : List TI} (h : TH xs l) {k : Nat} (hk : k < xs.length) : ∃ f,fT xs[k].1 = some f /\ FT l k = f:=by
 have a:=h.ar k (by rw [<- h.is,List.length_map];exact hk);rw [rm h.is hk] at a
 cases hf : fT xs[k].1 with
 | none=>rw [hf] at a;cases a
 | some f=>
   refine ⟨f,rfl,?_⟩;unfold FT;rw [<- h.is,List.getElem?_map,List.getElem?_eq_getElem hk];show (fT xs[k].1).getD wK = f;rw [hf];rfl
theorem fq.of_rt {B : Nat} {w : World} {v : Value} {xs : List (TI × NPl)} (h : RT B w v xs) (sm : ∀ x,x ∈ xs -> ku x) (hl : xs.length <= 1000) : fq w v xs:=by
 refine ⟨⟨B,h⟩,fun x hx=>(sm x hx).cap,fun x hx=>?_,by omega⟩;have s:=sm x hx;refine ⟨by have:=s.len;omega,fun k hk=>?_,by have:=s.md;omega,by have:=s.nm;omega⟩;have:=s.nms (x.1.ns.getD k e0) (by rw [List.getD_eq_getElem?_getD,List.getElem?_eq_getElem hk];exact List.getElem_mem hk);omega
def lF (a : Nat) (M : List ByteArray) : List EI:=
 if a < 3 /\ 0 < M.length then [bI 3 0 (M.getD (a % M.length) e0) ⟨#[113]⟩]
 else if a < 9 then [bI 3 0 ⟨#[]⟩ ⟨#[113]⟩]
 else if a < 12 then [bI 3 0 ⟨#[]⟩ ⟨#[113]⟩,bI 1 (a : Int) ⟨#[]⟩ ⟨#[]⟩,bI 7 0 ⟨#[]⟩ ⟨#[]⟩,bI 5 0 ⟨#[]⟩ ⟨#[120]⟩]
 else [bI 3 0 ⟨#[]⟩ ⟨#[102]⟩]
theorem ul {a : Nat} {M : List ByteArray} (h : a < 3 /\ 0 < M.length) : lF a M = [bI 3 0 (M.getD (a % M.length) e0) ⟨#[113]⟩]:=by unfold lF;rw [if_pos h]
theorem kQ {a : Nat} {M : List ByteArray} (h : ¬ (a < 3 /\ 0 < M.length)) (h2 : a < 9) : lF a M = [bI 3 0 ⟨#[]⟩ ⟨#[113]⟩]:=by unfold lF;rw [if_neg h,if_pos h2]
theorem kP {a : Nat} {M : List ByteArray} (h : 9 <= a) (h2 : a < 12) : lF a M = [bI 3 0 ⟨#[]⟩ ⟨#[113]⟩,bI 1 (a : Int) ⟨#[]⟩ ⟨#[]⟩,bI 7 0 ⟨#[]⟩ ⟨#[]⟩,bI 5 0 ⟨#[]⟩ ⟨#[120]⟩]:=by unfold lF;rw [if_neg (by omega),if_neg (by omega),if_pos h2]
theorem jH {a : Nat} {M : List ByteArray} (h : 12 <= a) : lF a M = [bI 3 0 ⟨#[]⟩ ⟨#[102]⟩]:=by unfold lF;rw [if_neg (by omega),if_neg (by omega),if_neg (by omega)]
def eo (l : List TI) (e : Nat) : List Nat:=cC (fun i=>(FT l i).needs.length) (FT l e).needs.length e
def sF (l : List TI) (p0 : Nat) : List TI:=(l.drop (cl (fun i=>(FT l i).needs.length) p0 1)).take (p0 - cl (fun i=>(FT l i).needs.length) p0 1)
def kt (a : Nat) (ns : List ByteArray) : List EI:=
 if a = 14 /\ bC ns ⟨#[109,111,114,101]⟩ = false then [bI 1 0 e0 e0,⟨4,0,e0,e0,ns ++ [⟨#[109,111,114,101]⟩],[]⟩]
 else [⟨4,0,e0,e0,ns,[]⟩]
def j8 (w : World) (P X p : Nat) (r : List EI × Nat) (e : Ending) (w' : World) : Prop:=(∃ (va : Option Addr) (n c q : Nat),e = .returned (.tuple #[.slice va n c,.int .i64 (q : Int)]) /\ p <= q /\ q <= p + P /\ Hid (∃ es,GE w.heap.size 0 w' va n c X es /\ r = (es.map Prod.fst,q))) /\ Hid (Bw w w')
def CF (Gf : List TI -> Nat -> Nat -> List EI × Nat) (z : Int) (P X N : Nat) (ca : Option Addr) (cb co Ln cc : Nat) (C : Nat -> Nat) (T V M : List ByteArray) (tp vp mp : NPl) : Prop:=∀ (W : World) (xs : List (TI × NPl)) (l : List TI) (ta : Option Addr) (tc e q : Nat),am W ca cb co Ln C -> Sc W T V M tp vp mp -> fq W (.slice ta xs.length tc) xs -> TH xs l -> e < xs.length -> q <= N -> Calls Tryz.prog 39 #[.slice ca Ln cc,.int .i64 (q : Int),.agg #[.slice tp.a T.length tp.c,.slice vp.a V.length vp.c,.slice mp.a M.length mp.c],.slice ta xs.length tc,.int .i64 ((e : Int) + 1),.int .i64 z] W (j8 W P X q (Gf l e q))
def Cs (G1 : Nat -> List EI × Nat) (z : Int) (P X N : Nat) (ca : Option Addr) (cb co Ln cc : Nat) (C : Nat -> Nat) (T V M : List ByteArray) (tp vp mp : NPl) : Prop:=∀ (W : World) (xs : List (TI × NPl)) (l : List TI) (ta : Option Addr) (tc e q : Nat),am W ca cb co Ln C -> Sc W T V M tp vp mp -> fq W (.slice ta xs.length tc) xs -> TH xs l -> (he : e < xs.length) -> xs[e].1.op = 1 -> q <= N -> Calls Tryz.prog 39 #[.slice ca Ln cc,.int .i64 (q : Int),.agg #[.slice tp.a T.length tp.c,.slice vp.a V.length vp.c,.slice mp.a M.length mp.c],.slice ta xs.length tc,.int .i64 ((e : Int) + 1),.int .i64 z] W (j8 W P X q (G1 q))
theorem io (w : World) {ca : Option Addr} {cb co Ln cc p : Nat} {C : Nat -> Nat} (hC : am w ca cb co Ln C) (hLn : Ln <= 1048576) (hp : p <= 900000) {T V M : List ByteArray} {tp vp mp : NPl} (hS : Sc w T V M tp vp mp) {xs : List (TI × NPl)} {l : List TI} {ta : Option Addr} {tc e : Nat} (hT : fq w (.slice ta xs.length tc) xs) (hH : TH xs l) (he : e < xs.length) :
  ∃ (W1 W2 : World) (a g nd : Nat) (xt : TI × NPl) (op : Int) (ps : List Nat),W1 = w.alloc (.cells #[.slice tp.a T.length tp.c,.slice vp.a V.length vp.c,.slice mp.a M.length mp.c] 76) /\ W2 = W1.alloc (.cells #[.int .i64 op,.string xt.1.md,.string xt.1.nm,.slice xt.2.a xt.1.ns.length xt.2.c] 80) /\ Hid (Bw w W1) /\ Hid (Bw W1 W2) /\ (Calls Tryz.prog 18 #[.slice ca Ln cc,.int .i64 (p : Int),.int .i64 16] W1 fun e w'=>e = .returned (.tuple #[.int .i64 (a : Int),.int .i64 ((p + 1 : Nat) : Int)]) /\ W1 = w') /\ a = tk C Ln p 16 /\ a < 16 /\
    Hid (∀ W,Bw W1 W -> W.cell? ⟨w.heap.size,0,none⟩ = some (.slice tp.a T.length tp.c) /\ W.cell? ⟨w.heap.size,1,none⟩ = some (.slice vp.a V.length vp.c) /\ W.cell? ⟨w.heap.size,2,none⟩ = some (.slice mp.a M.length mp.c)) /\ Hid (∀ W,Bw W1 W -> am W ca cb co Ln C /\ Sc W T V M tp vp mp /\ fq W (.slice ta xs.length tc) xs) /\ ta = some ⟨g,0,none⟩ /\ W1.cell? ⟨g,e * 4,none⟩ = some (.int .i64 op) /\ W1.cell? ⟨g,e * 4 + 1,none⟩ = some (.string xt.1.md) /\ W1.cell? ⟨g,e * 4 + 2,none⟩ = some (.string xt.1.nm) /\ W1.cell? ⟨g,e * 4 + 3,none⟩ = some (.slice xt.2.a xt.1.ns.length xt.2.c) /\ Hid (xt ∈ xs /\ xt = xs[e]) /\ op = xs[e].1.op /\
    Hid (∀ W,Bw W2 W -> W.cell? ⟨W1.heap.size,0,none⟩ = some (.int .i64 op) /\ W.cell? ⟨W1.heap.size,3,none⟩ = some (.slice xt.2.a xt.1.ns.length xt.2.c)) /\ (Calls Tryz.prog 53 #[.slice ta xs.length tc,.int .i64 ((e : Int) + 1)] W2 fun r w'=>∃ va cp,r = .returned (.slice va nd cp) /\ w'.ownsRow W2.heap.size 3 1 (.slice va nd cp) nd (eh ps) /\ Bw W2 w') /\ Hid (ps.length = nd /\ nd = (FT l e).needs.length /\ ∀ q,q ∈ ps -> 0 < q /\ q <= e) /\ Hid (ps = eo l e):=by
 obtain ⟨W1,d⟩:=xe (w.alloc (.cells #[.slice tp.a T.length tp.c,.slice vp.a V.length vp.c,.slice mp.a M.length mp.c] 76));have f : Bw w W1:=by rw [d];exact bel1 _ _
 have y:=aO ca cb co Ln cc p 16 C W1 (hC.below f) hLn (by omega) (by omega);have o : W1.rowIs w.heap.size 76 3 (v3 (.slice tp.a T.length tp.c) (.slice vp.a V.length vp.c) (.slice mp.a M.length mp.c)):=by rw [d];exact ej w _ _ _ _
 obtain ⟨g,m,A,u,x,B,D⟩:=(hT.below f).item he;obtain ⟨W2,b⟩:=xe (W1.alloc (.cells #[.int .i64 xs[e].1.op,.string xs[e].1.md,.string xs[e].1.nm,.slice xs[e].2.a xs[e].1.ns.length xs[e].2.c] 80));have n : Bw W1 W2:=by rw [b];exact bel1 _ _
 have k : W2.rowIs W1.heap.size 80 4 (v4 (.int .i64 xs[e].1.op) (.string xs[e].1.md) (.string xs[e].1.nm) (.slice xs[e].2.a xs[e].1.ns.length xs[e].2.c)):=by rw [b];exact fK W1 _ _ _ _ _
 have j : ∀ W,Bw W1 W -> am W ca cb co Ln C /\ Sc W T V M tp vp mp /\ fq W (.slice ta xs.length tc) xs:=fun W hb=>by
  have h:=f.trans (hb.mono f.size);exact ⟨hC.below h,hS.below h,hT.below h⟩
 have v:=kq W2 (j W2 n).2.2 hH.is he (hH.ar.mono (by rw [<- hH.is,List.length_map];omega)) (z:=(e : Int) + 1) (by omega);refine ⟨W1,W2,_,g,_,xs[e],_,_,d,b,f,n,y,rfl,cd (by omega),fun W hb=>?_,j,m,A,u,x,B,⟨List.getElem_mem he,rfl⟩,rfl,fun W hb=>?_,v,?_,rfl⟩
 ·have r:=o.of_block (hb.block _ o.lt)
  exact ⟨r.cell (i:=0) (by omega),r.cell (i:=1) (by omega),r.cell (i:=2) (by omega)⟩
 ·have r:=k.of_block (hb.block _ k.lt)
  exact ⟨r.cell (i:=0) (by omega),r.cell (i:=3) (by omega)⟩
 ·refine ⟨bw _ _ _,rfl,fun q hq=>?_⟩
  have s : Vk (fun i=>(FT l i).needs.length) (e + 1):=hH.vk.mono (by rw [<- hH.is,List.length_map];omega);have t:=s e (Nat.lt_succ_self _);exact aZ (s.mono (Nat.le_succ _)) t hq
theorem nK (w : World) {Bi X : Nat} (num : Int) (hX : 25 <= X) : GE w.heap.size Bi (w.alloc (.cells #[.int .i64 3,.int .i64 0,.string ⟨#[]⟩,.string ⟨#[113]⟩,.slice none 0 0,.slice none 0 0,.int .i64 1,.int .i64 num,.string ⟨#[]⟩,.string ⟨#[]⟩,.slice none 0 0,.slice none 0 0,.int .i64 7,.int .i64 0,.string ⟨#[]⟩,.string ⟨#[]⟩,.slice none 0 0,.slice none 0 0,.int .i64 5,.int .i64 0,.string ⟨#[]⟩,.string ⟨#[120]⟩,.slice none 0 0,.slice none 0 0] 65)) (some ⟨w.heap.size,0,none⟩) 4 4 X [(⟨3,0,⟨#[]⟩,⟨#[113]⟩,[],[]⟩,im),(⟨1,num,⟨#[]⟩,⟨#[]⟩,[],[]⟩,im),(⟨7,0,⟨#[]⟩,⟨#[]⟩,[],[]⟩,im),(⟨5,0,⟨#[]⟩,⟨#[120]⟩,[],[]⟩,im)]:=by
 refine ⟨World.ownsRow_lit w #[.int .i64 3,.int .i64 0,.string ⟨#[]⟩,.string ⟨#[113]⟩,.slice none 0 0,.slice none 0 0,.int .i64 1,.int .i64 num,.string ⟨#[]⟩,.string ⟨#[]⟩,.slice none 0 0,.slice none 0 0,.int .i64 7,.int .i64 0,.string ⟨#[]⟩,.string ⟨#[]⟩,.slice none 0 0,.slice none 0 0,.int .i64 5,.int .i64 0,.string ⟨#[]⟩,.string ⟨#[120]⟩,.slice none 0 0,.slice none 0 0] 4 (nlr _) (by unfold maxLen;omega) (by rfl),rfl,fun x hx=>?_,fun x hx=>?_,?_⟩
 ·simp only [List.mem_cons,List.not_mem_nil,or_false] at hx
  rcases hx with rfl | rfl | rfl | rfl <;> exact dj _
 ·simp only [List.mem_cons,List.not_mem_nil,or_false] at hx
  rcases hx with rfl | rfl | rfl | rfl <;> exact eI
 ·refine Nat.le_trans (Nat.le_of_eq (m:=6) ?_) (by omega)
  rfl
theorem kM (w : World) (z : Int) (_hz1 : -10 <= z) (_hz2 : z <= 2) {P X : Nat} {ca : Option Addr} {cb co Ln cc p : Nat} {C : Nat -> Nat} (hC : am w ca cb co Ln C) (hLn : Ln <= 1048576) (hp : p <= 900000) {T V M : List ByteArray} {tp vp mp : NPl} (hS : Sc w T V M tp vp mp) {xs : List (TI × NPl)} {l : List TI} {ta : Option Addr} {tc e : Nat} (hT : fq w (.slice ta xs.length tc) xs) (hH : TH xs l) (he : e < xs.length)
  {g : Nat -> List EI × Nat} {r : List EI × Nat} (hr : r = g (p + 1)) {P0 X0 : Nat} (hP0 : P0 + 1 <= P) (hX0 : X0 <= X) (hca : tk C Ln p 16 = 15) 
  (CE : ∀ (W : World) (q : Nat),Bw w W -> q <= p + 1 -> Calls Tryz.prog 65 #[.slice ca Ln cc,.int .i64 (q : Int),.agg #[.slice tp.a T.length tp.c,.slice vp.a V.length vp.c,.slice mp.a M.length mp.c],.int .i64 z] W (tE W P0 X0 q (g q))) :
  Calls Tryz.prog 39 #[.slice ca Ln cc,.int .i64 (p : Int),.agg #[.slice tp.a T.length tp.c,.slice vp.a V.length vp.c,.slice mp.a M.length mp.c],.slice ta xs.length tc,.int .i64 ((e : Int) + 1),.int .i64 z] w (j8 w P X p r):=by
 have HR:=hQx hr;clear hr;obtain ⟨i0,a1,an,a4,K⟩:=info_parts Tryz.infoEI;have U : Hid (M.length <= 1000):=hS.lm.1;have I:=hH.len;have L:=hQx hH;obtain ⟨W1,E,a,gb,nd,xt,op,ps,i,h,d,b,H,A,y,v,Y,j,y0,y1,y2,y3,s,f,J,Z,u,_⟩:=io w hC (cc:=cc) hLn hp hS hT hH he;rw [<- A] at hca;have a3 : Hid (op = xt.1.op):=by rw [s.out.2];exact f
 have ab : IntKind.i64.wrap ((e : Int) + 1 - 1) = (e : Int):=wk (by omega);have Q : IntKind.i64.wrap (e : Int) = (e : Int):=wk (by omega);have S : (e : Int) < (xs.length : Int):=by omega
 have ao : (0 : Int) <= (e : Int):=by omega
 have k:=CE E (p + 1) (d.out.trans (b.out.mono d.out.size)) (nlr _);obtain ⟨B,D,F⟩:=v.out E b.out;rw [h] at B D F;have x : a = 15:=hca;clear CE hca;subst x;clear Z u;rw [j];clear hC hS A hT hH f j;go_enter Tryz.func39,Tryz.ntmps39;go_wp2_with fail;rw [<- i];clear i;refine H.mono ?_;rintro R w7 ⟨rfl,rfl⟩;clear H;go_wp2_with fail;rw [<- h];refine k.mono ?_;rintro R w3 ⟨⟨va,n,c,q,rfl,a5,N,HG⟩,m⟩;clear k B D F;go_wp2;go_ret2;obtain ⟨O,G,o⟩:=HG.out;have t:=Nat.le_trans d.out.size b.out.size;exact ⟨⟨va,n,c,q,rfl,by omega,by omega,O,G.mono t (Nat.zero_le _) hX0,HR.out.trans o⟩,d.out.trans ((b.out.trans (m.out.mono b.out.size)).mono d.out.size)⟩
theorem n7 (w : World) (z : Int) (_hz1 : -10 <= z) (_hz2 : z <= 2) {P X : Nat} {ca : Option Addr} {cb co Ln cc p : Nat} {C : Nat -> Nat} (hC : am w ca cb co Ln C) (hLn : Ln <= 1048576) (hp : p <= 900000) {T V M : List ByteArray} {tp vp mp : NPl} (hS : Sc w T V M tp vp mp) {xs : List (TI × NPl)} {l : List TI} {ta : Option Addr} {tc e : Nat} (hT : fq w (.slice ta xs.length tc) xs) (hH : TH xs l) (he : e < xs.length)
  (hP : 1 <= P) (hX : 25 <= X) (hca : 8 <= tk C Ln p 16 /\ tk C Ln p 16 ≠ 15) (hop : xs[e].1.op = 2) {r : List EI × Nat} (hr : r = ([bI 2 ((tk C Ln p 16 % 2 : Nat) : Int) ⟨#[]⟩ ⟨#[]⟩],p + 1)) :
  Calls Tryz.prog 39 #[.slice ca Ln cc,.int .i64 (p : Int),.agg #[.slice tp.a T.length tp.c,.slice vp.a V.length vp.c,.slice mp.a M.length mp.c],.slice ta xs.length tc,.int .i64 ((e : Int) + 1),.int .i64 z] w (j8 w P X p r):=by
 obtain ⟨i0,bx,bf,b3,a0⟩:=info_parts Tryz.infoEI;have a9 : Hid (M.length <= 1000):=hS.lm.1;have ah:=hH.len;have a3:=hQx hH;obtain ⟨W1,I,a,g,Y,xt,op,ps,t,s,n,o,Z,W,S,O,bb,m,y0,y1,y2,y3,L,b,E,J,bn,_⟩:=io w hC (cc:=cc) hLn hp hS hT hH he;rw [<- W] at hca hr;rw [<- b] at hop;have b1 : Hid (op = xt.1.op):=by rw [L.out.2];exact b
 have K : IntKind.i64.wrap ((e : Int) + 1 - 1) = (e : Int):=wk (by omega);have F : IntKind.i64.wrap (e : Int) = (e : Int):=wk (by omega);have H : (e : Int) < (xs.length : Int):=by omega
 have N : (0 : Int) <= (e : Int):=by omega
 have ao : ((a : Int) == 15) = false:=bn2 (by omega);have n8 : ¬ (a : Int) < 8:=by omega
 have m2 : Int.tmod (a : Int) 2 = ((a % 2 : Nat) : Int):=bl a 2;obtain ⟨b2,v⟩:=xe (a % 2);rw [<- v] at m2 hr;have HR : Hid (r = ([bI 2 (b2 : Int) ⟨#[]⟩ ⟨#[]⟩],p + 1)):=hr;clear hr;have B : op = 2:=hop;clear hca hop v;subst B;have D:=m;rw [m];clear hC hS W hT hH b m;go_enter Tryz.func39,Tryz.ntmps39;go_wp2_with fail;rw [<- t];clear t;refine Z.mono ?_;rintro e' w7 ⟨rfl,rfl⟩;clear Z;go_wp2_with fail;rw [<- s];rw [D] at J;refine J.mono ?_;rintro e' i ⟨va,cp,rfl,A,R⟩;have k : Hid (Bw I i):=R;have a6 : Hid (i.ownsRow I.heap.size 3 1 (.slice va Y cp) Y (eh ps)):=A;have j : Hid (Bw W1 i):=o.out.trans (k.out.mono o.out.size);obtain ⟨f,h⟩:=xe (i.alloc (.cells #[] 65));have x : Hid (Bw i f):=by rw [h];exact bel1 _ _
 have b0 : Hid (GE i.heap.size 0 f (some ⟨i.heap.size,0,none⟩) 0 0 0 []):=by rw [h];exact eL i
 have d : Hid (Bw W1 f):=j.out.trans (x.out.mono j.out.size);have q : Hid (Bw I f):=k.out.trans (x.out.mono k.out.size);obtain ⟨t0,t3⟩:=E.out f q.out;obtain ⟨x0,x1,x2⟩:=O.out f d.out;rw [h] at t0 t3 x0 x1 x2;clear J R A s y0 y1 y2 y3 K F H N
 have y : Hid (∀ (op num : Int) (md nm : ByteArray) (V : World),V = f.alloc (.cells #[.int .i64 op,.int .i64 num,.string md,.string nm,.slice none 0 0,.slice none 0 0] 65) \/ V = (f.alloc (.cells #[.int .i64 op,.int .i64 num,.string md,.string nm,.slice none 0 0,.slice none 0 0] 65)).drew -> md.size <= 12 -> nm.size <= 12 -> r = ([bI op num md nm],p + 1) -> j8 w P X p r (.returned (.tuple #[.slice (some ⟨i.heap.size + 1,0,none⟩) 1 1,.int .i64 ((p + 1 : Nat) : Int)])) V):=fun op num md nm V hV h1 h2 hrr=>by
  have Q : f.heap.size = i.heap.size + 1:=by rw [h];simp
  rw [<- Q];have U : w.heap.size <= f.heap.size:=Nat.le_trans n.out.size d.out.size;have G:=(iz f (Bi:=0) (X:=X) op num (md:=md) (nm:=nm) (by omega)).mono U (nlr _) (nlr _);have u:=(n.out.trans (d.out.mono n.out.size)).alloc U (.cells #[.int .i64 op,.int .i64 num,.string md,.string nm,.slice none 0 0,.slice none 0 0] 65);rcases hV with rfl | rfl
  ·exact ⟨⟨_,_,_,p + 1,rfl,by omega,by omega,_,G,hrr⟩,u⟩
  ·exact ⟨⟨_,_,_,p + 1,rfl,by omega,by omega,_,G.drew,hrr⟩,u.drew⟩
 go_wp2_with fail;rw [<- h];go_ret2;exact y.out 2 b2 ⟨#[]⟩ ⟨#[]⟩ _ (.inl rfl) (by decide) (by decide) HR.out
theorem mV (w : World) (z : Int) (_hz1 : -10 <= z) (_hz2 : z <= 2) {P X : Nat} {ca : Option Addr} {cb co Ln cc p : Nat} {C : Nat -> Nat} (hC : am w ca cb co Ln C) (hLn : Ln <= 1048576) (hp : p <= 900000) {T V M : List ByteArray} {tp vp mp : NPl} (hS : Sc w T V M tp vp mp) {xs : List (TI × NPl)} {l : List TI} {ta : Option Addr} {tc e : Nat} (hT : fq w (.slice ta xs.length tc) xs) (hH : TH xs l) (he : e < xs.length)
  (hP : 1 <= P) (hX : 25 <= X) (hca : tk C Ln p 16 < 8) (hop : xs[e].1.op = 1 /\ (z <= 0 \/ tk C Ln p 16 < 5)) {r : List EI × Nat} (hr : r = ([bI 1 (tk C Ln p 16 : Int) ⟨#[]⟩ ⟨#[]⟩],p + 1)) :
  Calls Tryz.prog 39 #[.slice ca Ln cc,.int .i64 (p : Int),.agg #[.slice tp.a T.length tp.c,.slice vp.a V.length vp.c,.slice mp.a M.length mp.c],.slice ta xs.length tc,.int .i64 ((e : Int) + 1),.int .i64 z] w (j8 w P X p r):=by
 obtain ⟨i0,bs,be,b1,a0⟩:=info_parts Tryz.infoEI;have a8 : Hid (M.length <= 1000):=hS.lm.1;have ah:=hH.len;have a2:=hQx hH;obtain ⟨W1,J,a,g,Y,xt,op,ps,v,u,o,q,Z,F,S,Q,a9,n,y0,y1,y2,y3,N,d,E,K,bf,_⟩:=io w hC (cc:=cc) hLn hp hS hT hH he;rw [<- F] at hca hr;have HR : Hid (r = ([bI 1 (a : Int) ⟨#[]⟩ ⟨#[]⟩],p + 1)):=hr;clear hr;rw [<- d] at hop;have b0 : Hid (op = xt.1.op):=by rw [N.out.2];exact d
 have L : IntKind.i64.wrap ((e : Int) + 1 - 1) = (e : Int):=wk (by omega);have H : IntKind.i64.wrap (e : Int) = (e : Int):=wk (by omega);have I : (e : Int) < (xs.length : Int):=by omega
 have O : (0 : Int) <= (e : Int):=by omega
 rw [<- F] at hop;have ao : ((a : Int) == 15) = false:=bn2 (by omega);have n8 : (a : Int) < 8:=by omega
 have bL : ¬ (10 : Int) <= (a : Int):=by omega
 have B : op = 1:=hop.1;have s:=hop.2;clear hca hop;subst B;have D:=n;rw [n];clear hC hS F hT hH d n;go_enter Tryz.func39,Tryz.ntmps39;go_wp2_with fail;rw [<- v];clear v;refine Z.mono ?_;rintro e' w7 ⟨rfl,rfl⟩;clear Z;go_wp2_with fail;rw [<- u];rw [D] at K;refine K.mono ?_;rintro e' i ⟨va,cp,rfl,A,U⟩;have m : Hid (Bw J i):=U;have a5 : Hid (i.ownsRow J.heap.size 3 1 (.slice va Y cp) Y (eh ps)):=A;have k : Hid (Bw W1 i):=q.out.trans (m.out.mono q.out.size);obtain ⟨h,b⟩:=xe (i.alloc (.cells #[] 65));have y : Hid (Bw i h):=by rw [b];exact bel1 _ _
 have bx : Hid (GE i.heap.size 0 h (some ⟨i.heap.size,0,none⟩) 0 0 0 []):=by rw [b];exact eL i
 have f : Hid (Bw W1 h):=k.out.trans (y.out.mono k.out.size);have t : Hid (Bw J h):=m.out.trans (y.out.mono m.out.size);obtain ⟨t0,t3⟩:=E.out h t.out;obtain ⟨x0,x1,x2⟩:=Q.out h f.out;rw [b] at t0 t3 x0 x1 x2;clear K U A u y0 y1 y2 y3 L H I O
 have j : Hid (∀ (op num : Int) (md nm : ByteArray) (V : World),V = h.alloc (.cells #[.int .i64 op,.int .i64 num,.string md,.string nm,.slice none 0 0,.slice none 0 0] 65) \/ V = (h.alloc (.cells #[.int .i64 op,.int .i64 num,.string md,.string nm,.slice none 0 0,.slice none 0 0] 65)).drew -> md.size <= 12 -> nm.size <= 12 -> r = ([bI op num md nm],p + 1) -> j8 w P X p r (.returned (.tuple #[.slice (some ⟨i.heap.size + 1,0,none⟩) 1 1,.int .i64 ((p + 1 : Nat) : Int)])) V):=fun op num md nm V hV h1 h2 hrr=>by
  have R : h.heap.size = i.heap.size + 1:=by rw [b];simp
  rw [<- R];have W : w.heap.size <= h.heap.size:=Nat.le_trans o.out.size f.out.size;have G:=(iz h (Bi:=0) (X:=X) op num (md:=md) (nm:=nm) (by omega)).mono W (nlr _) (nlr _);have x:=(o.out.trans (f.out.mono o.out.size)).alloc W (.cells #[.int .i64 op,.int .i64 num,.string md,.string nm,.slice none 0 0,.slice none 0 0] 65);rcases hV with rfl | rfl
  ·exact ⟨⟨_,_,_,p + 1,rfl,by omega,by omega,_,G,hrr⟩,x⟩
  ·exact ⟨⟨_,_,_,p + 1,rfl,by omega,by omega,_,G.drew,hrr⟩,x.drew⟩
 by_cases cz : (0 : Int) < z
 ·have c5 : ¬ (5 : Int) <= (a : Int):=by omega
  clear s;go_wp2_with fail;rw [<- b];go_ret2;exact j.out 1 a ⟨#[]⟩ ⟨#[]⟩ _ (.inl rfl) (by decide) (by decide) HR.out
 ·clear s
  go_wp2_with fail;rw [<- b];go_ret2;exact j.out 1 a ⟨#[]⟩ ⟨#[]⟩ _ (.inl rfl) (by decide) (by decide) HR.out
end Go.Proofs.YtihedobejcaapaaGreatDoor
