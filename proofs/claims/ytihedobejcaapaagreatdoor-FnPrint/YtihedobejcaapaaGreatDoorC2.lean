/-
  YbG YbH
-/
import Derived.Test.YtihedobejcaapaaGreatDoorC1
set_option maxHeartbeats 4000000
set_option maxRecDepth 100000
namespace Go.Proofs.YtihedobejcaapaaGreatDoor
open Go.RowKit
theorem kr (w : World) {B : Nat} (hB : B <= w.heap.size) : RT B (w.alloc (.cells #[] 80)) (.slice (some ⟨w.heap.size,0,none⟩) 0 0) []:=
 ⟨aq (World.ownsRow_lit w #[] 0 (nlr _) (by unfold maxLen;omega) (by rfl)) hB,fun x hx=>by cases hx⟩
theorem y6 {d : Nat} (h : d <= 3) : LL d <= 40 /\ PP d <= 80:=by
 match d,h with
 | 0,_=>decide
 | 1,_=>decide
 | 2,_=>decide
 | 3,_=>decide
theorem A6 {f : Nat -> List TI × Nat} {p q q2 : Nat} {x y : List TI} {r : List TI × Nat} (hr : r = ((f p).1 ++ (f (f p).2).1 ++ [cV 6],(f (f p).2).2)) (h1 : f p = (x,q)) (h2 : f q = (y,q2)) : r = (x ++ y ++ [cV 6],q2):=by
 rw [hr,h1];show (x ++ (f q).1 ++ [cV 6],(f q).2) = _;rw [h2]
def Br (f : Nat -> List TI × Nat) (w : World) (d N : Nat) (ca : Option Addr) (Ln cc : Nat) (T V M : List ByteArray) (tp vp mp : NPl) : Prop:=∀ (W : World) (q : Nat),Bw w W -> q <= N -> Calls Tryz.prog 38 #[.slice ca Ln cc,.int .i64 (q : Int),.agg #[.slice tp.a T.length tp.c,.slice vp.a V.length vp.c,.slice mp.a M.length mp.c],.int .i64 (d : Int)] W (AF W d q (f q))
theorem x7 (w : World) (d : Nat) {ca : Option Addr} {cb co Ln cc p : Nat} {C : Nat -> Nat} (hC : am w ca cb co Ln C) (hLn : Ln <= 1048576) (hd : d <= 3) {Nq : Nat} (hp : p + 500 <= Nq) (hNq : Nq <= 1000000) {T V M : List ByteArray} {tp vp mp : NPl} {f : Nat -> List TI × Nat} (ih : Br f w d Nq ca Ln cc T V M tp vp mp)
  (h5 : 5 <= tk C Ln p 16) (h8 : ¬ (tk C Ln p 16 < 8 /\ 0 < T.length)) (h10 : ¬ (tk C Ln p 16 < 10 /\ 0 < M.length /\ 0 < T.length)) (h13 : tk C Ln p 16 < 13) (hlt : T.length <= 1000) (hlm : M.length <= 1000) {r : List TI × Nat} (hr : r = ((f (p + 1 + 1)).1 ++ (f (f (p + 1 + 1)).2).1 ++ [cV 6],(f (f (p + 1 + 1)).2).2)) :
  Calls Tryz.prog 38 #[.slice ca Ln cc,.int .i64 (p : Int),.agg #[.slice tp.a T.length tp.c,.slice vp.a V.length vp.c,.slice mp.a M.length mp.c],.int .i64 ((d : Int) + 1)] w (AF w (d + 1) p r):=by
 have HR:=hQx hr;clear hr;obtain ⟨i0,b3,b1,b0,a8⟩:=info_parts Tryz.infoTI;obtain ⟨c5,c7⟩:=y6 hd;obtain ⟨u,z⟩:=xe (w.alloc (.cells #[.slice tp.a T.length tp.c,.slice vp.a V.length vp.c,.slice mp.a M.length mp.c] 76));have B1 : Bw w u:=by rw [z];exact bel1 _ _
 have g:=hQx B1;have C1:=aO ca cb co Ln cc p 16 C u (hC.below B1) hLn (by omega) (by omega);have C2:=aO ca cb co Ln cc (p + 1) 64 C u (hC.below B1) hLn (by omega) (by omega);obtain ⟨a,ha⟩:=xe (tk C Ln p 16);obtain ⟨b,hb⟩:=xe (tk C Ln (p + 1) 64);rw [<- ha] at C1 h5 h8 h10 h13;rw [<- hb] at C2;have HX : Hid (u.rowIs w.heap.size 76 3 (v3 (.slice tp.a T.length tp.c) (.slice vp.a V.length vp.c) (.slice mp.a M.length mp.c))):=by rw [z];exact ej w _ _ _ _
 have L : Hid (∀ W,Bw u W -> W.cell? ⟨w.heap.size,0,none⟩ = some (.slice tp.a T.length tp.c) /\ W.cell? ⟨w.heap.size,1,none⟩ = some (.slice vp.a V.length vp.c) /\ W.cell? ⟨w.heap.size,2,none⟩ = some (.slice mp.a M.length mp.c)):=fun W hb=>by
  have r:=HX.out.of_block (hb.block _ HX.out.lt);exact ⟨r.cell (i:=0) (by omega),r.cell (i:=1) (by omega),r.cell (i:=2) (by omega)⟩
 obtain ⟨x0,x1,x2⟩:=L.out u (Below.refl _ _);have O:=hQx ih;clear hC ha hb B1 ih;obtain ⟨W2,m⟩:=xe (u.alloc (.cells #[] 80));have o : Hid (Bw u W2):=by rw [m];exact bel1 _ _
 have an : Hid (RT w.heap.size W2 (.slice (some ⟨u.heap.size,0,none⟩) 0 0) []):=by rw [m];exact kr u g.out.size
 obtain ⟨y0,y1,y2⟩:=L.out W2 o.out;rw [m] at y0 y1 y2;have C3:=O.out W2 (p + 1 + 1) (g.out.trans (o.out.mono g.out.size)) (by omega);have dd : IntKind.i64.wrap ((d : Int) + 1 - 1) = (d : Int):=wk (by omega);have d0 : ¬ ((d : Int) + 1) <= 0:=by omega
 have q3 : ¬ (a : Int) < 3:=by omega
 have q4 : ((a : Int) == 3) = false:=bn2 (by omega);have q5 : ((a : Int) == 4) = false:=bn2 (by omega);have dv : (a : Int) < 13:=by omega
 go_enter Tryz.func38,Tryz.ntmps38;go_wp2_with fail;rw [<- z];clear z;refine C1.mono ?_;rintro e w' ⟨rfl,rfl⟩;go_wp2_with fail;refine C2.mono ?_;rintro e w' ⟨rfl,rfl⟩;clear C1 C2;go_upto_region 10 with fail
 go_cut [51] (fun s wc=>s = .bool false /\ wc = u)
 case first=>
  by_cases c8 : (a : Int) < 8 <;> by_cases cT : (0 : Int) < (T.length : Int)
  all_goals first
   | (exfalso;omega)
   | (clear h8 h10;go_wp2;go_meet;refine ⟨?_,rfl⟩;first | rfl | (refine congrArg Value.bool ?_;exact decide_eq_false (by omega)))
 case rest=>
  obtain ⟨rfl,bp⟩:=hcut;subst bp;go_upto_region 12 with fail
  go_cut [77] (fun s wd=>s = .bool false /\ wd = wc)
  case first=>
   by_cases c8 : (a : Int) < 10 <;> by_cases cT : (0 : Int) < (T.length : Int) <;> by_cases cM : (0 : Int) < (M.length : Int)
   all_goals first
    | (exfalso;omega)
    | (clear h8 h10;go_wp2;go_meet;refine ⟨?_,rfl⟩;first | rfl | (refine congrArg Value.bool ?_;exact decide_eq_false (by omega)))
  case rest=>
   obtain ⟨rfl,bb⟩:=hcut;subst bb;clear h8 h10 h5 h13;go_wp2_with fail;rw [<- m];clear m y0 y1 y2 x0 x1 x2;refine C3.mono ?_;rintro e w3 ⟨⟨va,n,c,q,rfl,d5,c4,HG⟩,J⟩;clear C3;obtain ⟨F,G,Q⟩:=HG.out;have bs : Hid (f (p + 1 + 1) = (F.map Prod.fst,q)):=Q;clear Q;have a6:=G.len;have b4:=G.le;have l : Hid (dH (F.map Prod.fst) = true /\ (∀ x,x ∈ F -> ku x) /\ F.length <= LL d):=⟨G.ok,G.sm,by omega⟩;have y : Hid (Bw wc w3):=o.out.trans (J.out.mono o.out.size);have C4:=mv w3 (an.out.below J.out) (G.rt.mono (Nat.le_trans g.out.size o.out.size)) (by show 0 + F.length <= 100000;omega) (Nat.le_trans g.out.size y.out.size);clear G HG J a6 b4;go_wp2_with fail;refine C4.mono ?_;rintro e w4 ⟨⟨v1,n1,c1,rfl,ab⟩,ao⟩;clear C4;have j : Hid (Bw wc w4):=y.out.trans (ao.out.mono y.out.size);obtain ⟨y0,y1,y2⟩:=L.out w4 j.out;have C5:=O.out w4 q (g.out.trans (j.out.mono g.out.size)) (by omega);clear ao y;go_wp2_with fail;refine C5.mono ?_;rintro e w5 ⟨⟨d3,m2,c2,q2,rfl,ct,de,ah⟩,I⟩;clear C5 y0 y1 y2;obtain ⟨K,G,R⟩:=ah.out;have bn : Hid (f q = (K.map Prod.fst,q2)):=R;clear R;have a9:=G.len;have bv:=G.le;have B : Hid (dH (K.map Prod.fst) = true /\ (∀ x,x ∈ K -> ku x) /\ K.length <= LL d):=⟨G.ok,G.sm,by omega⟩;have A : Hid (Bw wc w5):=j.out.trans (I.out.mono j.out.size);have C6:=mv w5 (ab.out.below I.out) (G.rt.mono (Nat.le_trans g.out.size j.out.size)) (by have:=l.out.2.2;rw [List.nil_append];omega) (Nat.le_trans g.out.size A.out.size);clear G ah a9 bv ab an;go_wp2_with fail;refine C6.mono ?_;rintro e Z ⟨⟨bf,n3,c3,rfl,D⟩,N⟩;clear C6;have Y : Hid (Bw wc Z):=A.out.trans (N.out.mono A.out.size);obtain ⟨v,E⟩:=xe (([] ++ F) ++ K);rw [<- E] at D;have be : Hid (v = ([] ++ F) ++ K):=E;have bo : n3 = v.length:=sd D.out.own;subst bo;have ds : v.length <= 80:=by rw [E,List.nil_append,lap];have:=l.out.2.2;have:=B.out.2.2;omega
   have U:=D.out.own;have cx : w.heap.size <= Z.heap.size:=Nat.le_trans g.out.size Y.out.size;clear E N A I j;go_wp2_with (first | (at_builtin;refine wpList_append_lies _ rfl _ _ 34 rfl w.heap.size 80 i0 _ 4 64 Tryz.underlying34 b3 b1 b0 a8 rfl (by omega) (.slice bf v.length c3) v.length (bg v) rfl (U.alloc _) ⟨Z.heap.size,0,none⟩ 1 1 [.int .i64 6,.string ⟨#[]⟩,.string ⟨#[]⟩,.slice none 0 0] rfl rfl (World.news_of_block (cs:=#[.int .i64 6,.string ⟨#[]⟩,.string ⟨#[]⟩,.slice none 0 0]) (t:=80) (fr:=(0,0)) (heap_alloc_new Z _)) (by simp [Value.oneCell']) (by omega) (by unfold maxLen;omega) (by omega) (by simp;omega) (Z.heap.size + 1) (by simp) ?_;intro gg S w7 H X dn b7));go_ret2;have P:=D.out.push (x:=(cV 6,⟨none,0,0⟩)) H X (aD.nil _ _ _);have hz:=be.out;rw [List.nil_append] at hz;have l1:=l.out.2.2;have l2:=B.out.2.2;have b9 : v.length = F.length + K.length:=by rw [hz,lap]
   refine ⟨⟨some ⟨gg,0,none⟩,v.length + 1,S,q2,rfl,by omega,?_,v ++ [(cV 6,⟨none,0,0⟩)],⟨P,by rw [lap];rfl,by omega,?_,?_,fun x hx=>?_⟩,by rw [List.map_append,hz,List.map_append];exact A6 HR.out bs.out bn.out⟩,ae (g.out.trans (Y.out.mono g.out.size)) X (fun k e=>(U.lt k e).1)⟩
   ·show q2 <= p + (2 + 3 * PP d)
    omega
   ·show v.length + 1 <= 3 * LL d + 1
    omega
   ·rw [List.map_append,hz,List.map_append]
    exact At l.out.1 B.out.1
   ·rcases List.mem_append.1 hx with h | h
    ·rw [hz] at h
     rcases List.mem_append.1 h with h | h
     ·exact l.out.2.1 x h
     ·exact B.out.2.1 x h
    ·rw [ms1 h]
     exact mR 6 (by decide) (by decide)
theorem kZ {α : Type} {s : List α × Nat} {x : List α} {q : Nat} {y : α} {r : List α × Nat} (hr : r = (s.1 ++ [y],s.2)) (h : (x,q) = s) : r = (x ++ [y],q):=by
 rw [hr,<- h]
theorem kR {C : Nat -> Nat} {Ln d p : Nat} {T M : List ByteArray} (h : tk C Ln p 16 < 5 \/ (tk C Ln p 16 < 8 /\ 0 < T.length) \/ (tk C Ln p 16 < 10 /\ 0 < M.length /\ 0 < T.length)) : ba C Ln T M (d + 1) p = (iU (tk C Ln p 16) (tk C Ln (p + 1) 64) T M,p + 1 + 1):=by
 rw [ba,if_pos h]
theorem ug {C : Nat -> Nat} {Ln d p : Nat} {T M : List ByteArray} (h : ¬ (tk C Ln p 16 < 5 \/ (tk C Ln p 16 < 8 /\ 0 < T.length) \/ (tk C Ln p 16 < 10 /\ 0 < M.length /\ 0 < T.length))) (h2 : tk C Ln p 16 < 13) : ba C Ln T M (d + 1) p = ((ba C Ln T M d (p + 1 + 1)).1 ++ (ba C Ln T M d (ba C Ln T M d (p + 1 + 1)).2).1 ++ [cV 6],(ba C Ln T M d (ba C Ln T M d (p + 1 + 1)).2).2):=by
 rw [ba,if_neg h,if_pos h2]
theorem wn {C : Nat -> Nat} {Ln d p : Nat} {T M : List ByteArray} (h : ¬ (tk C Ln p 16 < 5 \/ (tk C Ln p 16 < 8 /\ 0 < T.length) \/ (tk C Ln p 16 < 10 /\ 0 < M.length /\ 0 < T.length))) (h2 : ¬ tk C Ln p 16 < 13) : ba C Ln T M (d + 1) p = ((rp (fun _ q=>ba C Ln T M d q) ([],p + 1 + 1) (tk C Ln (p + 1) 64 % 4)).1 ++ [⟨5,e0,e0,nmsG (tk C Ln (p + 1) 64) (tk C Ln (p + 1) 64 % 4)⟩],(rp (fun _ q=>ba C Ln T M d q) ([],p + 1 + 1) (tk C Ln (p + 1) 64 % 4)).2):=by
 rw [ba,if_neg h,if_neg h2]
theorem lW (b k : Nat) : nmsG b (k + 1) = nmsG b k ++ [fldN ((b / 4 + k * 3) % 7) k]:=by
 unfold nmsG;rw [List.range_succ,List.map_append];rfl
theorem bX (b k : Nat) : (nmsG b k).length = k:=by unfold nmsG;rw [List.length_map,List.length_range]
theorem wW {ns : List ByteArray} {s : ByteArray} (h : ∀ x,x ∈ ns -> x ≠ s) : bC ns s = false:=by
 unfold bC;rw [List.any_eq_false];intro x a e;have : x.data.toList = s.data.toList:=beq_iff_eq.1 e;exact h x a (ByteArray.ext (Array.toList_inj.1 this))
theorem xw (b : Nat) {k : Nat} (hk : k <= 3) : dN (nmsG b k) = true:=by
 unfold dN;rw [List.all_eq_true];intro i h;rw [bX,List.mem_range] at h
 have g : ∀ j,j < k -> (nmsG b k).getD j e0 = fldN ((b / 4 + j * 3) % 7) j:=fun j a=>by
  rw [List.getD_eq_getElem?_getD];unfold nmsG;rw [List.getElem?_map,List.getElem?_range a];rfl
 rw [g i h,(j3 _ _).1,Bool.true_and];rw [wW]
 ·rfl
 ·intro x c
  have d : ∃ j,j < i /\ x = fldN ((b / 4 + j * 3) % 7) j:=by
   have e : (nmsG b k).take i = nmsG b i:=by
    unfold nmsG;rw [<- List.map_take,List.take_range,Nat.min_eq_left (by omega)]
   rw [e] at c;unfold nmsG at c;obtain ⟨j,a,rfl⟩:=List.mem_map.1 c;exact ⟨j,List.mem_range.1 a,rfl⟩
  obtain ⟨j,a,rfl⟩:=d;have f : i < 3:=by omega
  match i,j,a,f with
  | 1,0,_,_=>exact (nM _ _).1
  | 2,0,_,_=>exact (nM _ _).2.1
  | 2,1,_,_=>exact (nM _ _).2.2
theorem oo {B Bn m : Nat} {w w5 : World} {v nv : Value} {xs : List (TI × NPl)} {l : List Value} {o : Obj} (h : RT B w v xs) (hn : w.ownsRow Bn 9 1 nv m l) (hg : (w.alloc o).grownBy w5 nv.ownBlock) (hs : ∀ x,x ∈ xs -> x.1.ns ≠ [] -> some x.2.b ≠ nv.ownBlock) : RT B w5 v xs:=by
 have c : Kp 9 w w5:=(bG _ w o).trans (bF (hn.alloc o) hg);refine ⟨az h.own c (by decide),fun x hx hne=>?_⟩;obtain ⟨e,a,N,f,r,g,d⟩:=h.nm x hx hne;exact ⟨e,a,N,f,r.of_block ((hg.block _ (by have:=r.lt;simp;omega) (hs x hx hne)).trans (Below.heap_alloc _ _ _ r.lt)),g,d⟩
theorem df {B : Nat} {w : World} {t : TypeId} {size n c : Nat} {va : Option Addr} {xs : List Value} (h : w.ownsRow B t size (.slice va n c) n xs) : n <= c:=by
 obtain ⟨_,d⟩:=h;rcases d with ⟨a,f⟩ | ⟨g,e,b,a,_,_,i,j,_⟩
 ·omega
 ·simp only [Value.slice.injEq] at a
  omega
theorem i8 (l : List ByteArray) : l.map Value.string = ii l:=by
 induction l with
 | nil=>rfl
 | cons a l ih=>show _ :: _ = _ :: _;rw [ih];rfl
structure Aq (w W1 wr : World) (d b k : Nat) (va : Option Addr) (n c : Nat) (na : Option Addr) (nc : Nat) (xs : List (TI × NPl)) : Prop where
 rt : RT w.heap.size wr (.slice va n c) xs
 le : xs.length <= k * LL d
 hv : bN (aT (xs.map Prod.fst)) (xs.map Prod.fst).length = some k
 sm : ∀ x,x ∈ xs -> ku x
 own : wr.ownsRow W1.heap.size 9 1 (.slice na k nc) k ((nmsG b k).map Value.string)
 sep : ∀ x,x ∈ xs -> x.1.ns ≠ [] -> some x.2.b ≠ (Value.slice na k nc).ownBlock
 bel : Bw W1 wr
theorem Aq.step {w W1 wr w2 w3 w5 : World} {d b k : Nat} {va : Option Addr} {n c : Nat} {na : Option Addr} {nc gg cap : Nat} {xs ys : List (TI × NPl)} {v3 : Option Addr} {n3 c3 : Nat} {o : Obj} (h : Aq w W1 wr d b k va n c na nc xs)
  (B2 : Bw wr w2) (B3 : Bw w2 w3) (hy : RT wr.heap.size w2 (.slice v3 n3 c3) ys) (hyl : ys.length <= LL d) (hyo : dH (ys.map Prod.fst) = true) (hys : ∀ x,x ∈ ys -> ku x) {u : Option Addr} {m cc : Nat} (hr : RT w.heap.size w3 (.slice u m cc) (xs ++ ys))
  (hown : w5.ownsRow W1.heap.size 9 1 (.slice (some ⟨gg,0,none⟩) (k + 1) cap) (k + 1) ((nmsG b k).map Value.string ++ [.string (fldN ((b / 4 + k * 3) % 7) k)])) (hg : (w3.alloc o).grownBy w5 (Value.slice na k nc).ownBlock) (hat : (Value.slice na k nc).ownBlock = some gg \/ gg = w3.heap.size + 1) :
  Aq w W1 w5 d b (k + 1) u m cc (some ⟨gg,0,none⟩) cap (xs ++ ys):=by
 have i : Bw wr w3:=B2.trans (B3.mono B2.size);have a : w3.ownsRow W1.heap.size 9 1 (.slice na k nc) k ((nmsG b k).map Value.string):=az h.own (ax i) (by decide)
 have g : ∀ x,x ∈ xs ++ ys -> x.1.ns ≠ [] -> some x.2.b ≠ (Value.slice na k nc).ownBlock:=fun x hx hne=>by
  rcases List.mem_append.1 hx with z | z
  ·exact h.sep x z hne
  ·intro e
   have t:=(h.own.lt _ e.symm).2;have y:=(hy.nm x z hne).2.1;omega
 have l:=oo hr a hg g;refine ⟨l,?_,?_,fun x hx=>?_,?_,fun x hx hne=>?_,?_⟩
 ·rw [lap,Nat.add_mul]
  have:=h.le;omega
 ·rw [List.map_append]
  exact we h.hv hyo
 ·rcases List.mem_append.1 hx with z | z
  ·exact h.sm x z
  ·exact hys x z
 ·rw [lW,List.map_append]
  exact hown
 ·rcases hat with e | e
  ·have:=g x hx hne
   rw [e] at this;exact this
  ·intro q
   have v : x.2.b = gg:=Option.some.inj q;obtain ⟨_,_,N,f,r,_,_⟩:=hr.nm x hx hne;have:=r.lt;omega
 ·have p : W1.heap.size <= w3.heap.size:=Nat.le_trans h.bel.size i.size
  have s : Bw W1 w3:=h.bel.trans (i.mono h.bel.size);exact ae s hg (fun j e=>(a.lt j e).1)
theorem yo (w : World) (d : Nat) {ca : Option Addr} {cb co Ln cc p : Nat} {C : Nat -> Nat} (hC : am w ca cb co Ln C) (hLn : Ln <= 1048576) (hd : d <= 3) {Nq : Nat} (hp : p + 500 <= Nq) (hNq : Nq <= 1000000) {T V M : List ByteArray} {tp vp mp : NPl} {f : Nat -> List TI × Nat} (ih : Br f w d Nq ca Ln cc T V M tp vp mp)
  (h13 : 13 <= tk C Ln p 16) {r : List TI × Nat} (hr : r = ((rp (fun _ q=>f q) ([],p + 1 + 1) (tk C Ln (p + 1) 64 % 4)).1 ++ [⟨5,e0,e0,nmsG (tk C Ln (p + 1) 64) (tk C Ln (p + 1) 64 % 4)⟩],(rp (fun _ q=>f q) ([],p + 1 + 1) (tk C Ln (p + 1) 64 % 4)).2)) :
  Calls Tryz.prog 38 #[.slice ca Ln cc,.int .i64 (p : Int),.agg #[.slice tp.a T.length tp.c,.slice vp.a V.length vp.c,.slice mp.a M.length mp.c],.int .i64 ((d : Int) + 1)] w (AF w (d + 1) p r):=by
 obtain ⟨i0,c2,ct,cp,bn⟩:=info_parts Tryz.infoTI;obtain ⟨i9,ck,ch,bv,b3⟩:=info_parts Tryz.info9;obtain ⟨eg,el⟩:=y6 hd;obtain ⟨z,N⟩:=xe (w.alloc (.cells #[.slice tp.a T.length tp.c,.slice vp.a V.length vp.c,.slice mp.a M.length mp.c] 76));have B1 : Bw w z:=by rw [N];exact bel1 _ _
 have m:=hQx B1;have C1:=aO ca cb co Ln cc p 16 C z (hC.below B1) hLn (by omega) (by omega);have C2:=aO ca cb co Ln cc (p + 1) 64 C z (hC.below B1) hLn (by omega) (by omega);obtain ⟨a,ha⟩:=xe (tk C Ln p 16);obtain ⟨b,hb⟩:=xe (tk C Ln (p + 1) 64);have d1 : b < 64:=by rw [hb];exact cd (by omega)
 rw [<- ha] at C1 h13;rw [<- hb] at C2 hr;have HX : Hid (z.rowIs w.heap.size 76 3 (v3 (.slice tp.a T.length tp.c) (.slice vp.a V.length vp.c) (.slice mp.a M.length mp.c))):=by rw [N];exact ej w _ _ _ _
 have a4 : Hid (∀ W,Bw z W -> W.cell? ⟨w.heap.size,0,none⟩ = some (.slice tp.a T.length tp.c) /\ W.cell? ⟨w.heap.size,1,none⟩ = some (.slice vp.a V.length vp.c) /\ W.cell? ⟨w.heap.size,2,none⟩ = some (.slice mp.a M.length mp.c)):=fun W hb=>by
  have r:=HX.out.of_block (hb.block _ HX.out.lt);exact ⟨r.cell (i:=0) (by omega),r.cell (i:=1) (by omega),r.cell (i:=2) (by omega)⟩
 obtain ⟨x0,x1,x2⟩:=a4.out z (Below.refl _ _);have bo:=hQx ih;clear hC ha hb B1 ih;obtain ⟨Y,I⟩:=xe (z.alloc (.cells #[] 80));have Q : Hid (Bw z Y):=by rw [I];exact bel1 _ _
 have a5 : Hid (RT w.heap.size Y (.slice (some ⟨z.heap.size,0,none⟩) 0 0) []):=by rw [I];exact kr z m.out.size
 obtain ⟨W3,J⟩:=xe (Y.alloc (.cells #[] 9));have u : Hid (Bw Y W3):=by rw [J];exact bel1 _ _
 have F : Y.heap.size = z.heap.size + 1:=by rw [I];simp
 have a0 : Hid (Aq w z W3 d b 0 (some ⟨z.heap.size,0,none⟩) 0 0 (some ⟨z.heap.size + 1,0,none⟩) 0 []):=by
  rw [<- F];refine ⟨a5.out.below u.out,Nat.zero_le _,rfl,fun _ h=>(List.not_mem_nil h).elim,?_,fun _ h=>(List.not_mem_nil h).elim,Q.out.trans (u.out.mono Q.out.size)⟩;rw [J];exact aq (World.ownsRow_lit Y #[] 0 (nlr _) (by unfold maxLen;omega) (by rfl)) Q.out.size
 obtain ⟨n,hn⟩:=xe (b % 4);have bb : n <= 3:=by omega
 have qn : Int.tmod (b : Int) 4 = (n : Int):=by rw [hn];exact bl b 4
 obtain ⟨S,U⟩:=xe (b / 4);have e3 : Int.tdiv (b : Int) 4 = (S : Int):=by rw [U];exact kw b 4
 have dl : S <= 16:=by omega
 have ce : Hid (S = b / 4):=U;rw [<- hn] at hr;have HR : Hid (r = ((rp (fun _ q=>f q) ([],p + 1 + 1) n).1 ++ [⟨5,e0,e0,nmsG b n⟩],(rp (fun _ q=>f q) ([],p + 1 + 1) n).2)):=hr;clear hn U F hr;have dd : IntKind.i64.wrap ((d : Int) + 1 - 1) = (d : Int):=wk (by omega);have d0 : ¬ ((d : Int) + 1) <= 0:=by omega
 have q3 : ¬ (a : Int) < 3:=by omega
 have q4 : ((a : Int) == 3) = false:=bn2 (by omega);have q5 : ((a : Int) == 4) = false:=bn2 (by omega);have eV : ¬ (a : Int) < 13:=by omega
 go_enter Tryz.func38,Tryz.ntmps38;go_wp2_with fail;rw [<- N];clear N;refine C1.mono ?_;rintro e w' ⟨rfl,rfl⟩;go_wp2_with fail;refine C2.mono ?_;rintro e w' ⟨rfl,rfl⟩;clear C1 C2;go_upto_region 10 with fail
 go_cut [51] (fun s wc=>s = .bool false /\ wc = z)
 case first=>
  by_cases c8 : (a : Int) < 8 <;> by_cases cT : (0 : Int) < (T.length : Int)
  all_goals first
   | (exfalso;omega)
   | (go_wp2;go_meet;refine ⟨?_,rfl⟩;first | rfl | (refine congrArg Value.bool ?_;exact decide_eq_false (by omega)))
 case rest=>
  obtain ⟨rfl,b8⟩:=hcut;subst b8;go_upto_region 12 with fail
  go_cut [77] (fun s wd=>s = .bool false /\ wd = wc)
  case first=>
   by_cases c8 : (a : Int) < 10 <;> by_cases cT : (0 : Int) < (T.length : Int) <;> by_cases cM : (0 : Int) < (M.length : Int)
   all_goals first
    | (exfalso;omega)
    | (go_wp2;go_meet;refine ⟨?_,rfl⟩;first | rfl | (refine congrArg Value.bool ?_;exact decide_eq_false (by omega)))
  case rest=>
   obtain ⟨rfl,bL⟩:=hcut;subst bL;clear h13;clear x0 x1 x2;go_wp2_with fail;rw [<- I,<- J];clear I J
   go_loopw [1,13,15,16] (fun pp o ns i wr=>∃ (k q n1 X A : Nat) (Z D : Option Addr),k <= n /\ i = .int .i64 k /\ pp = .int .i64 q /\ p + 2 <= q /\ q <= p + 2 + k * PP d /\ o = .slice Z n1 X /\ ns = .slice D k A /\ Hid (∃ B,Aq w wc wr d b k Z n1 X D A B /\ (B.map Prod.fst,q) = rp (fun _ q=>f q) ([],p + 1 + 1) k)) (fun _ _ _ i _=>n - (intOf i).toNat)
   case atStart=>exact ⟨0,p + 2,0,0,0,_,_,by omega,rfl,by rfl,by omega,by omega,rfl,rfl,_,a0.out,rfl⟩
   case round=>
    clear a0 a5 Q u;obtain ⟨k,q,n1,X,A,Z,D,hk,rfl,rfl,e7,ef,rfl,rfl,HG⟩:=hrel;obtain ⟨B,R,ar⟩:=HG.out;have a3 : Hid ((B.map Prod.fst,q) = rp (fun _ q=>f q) ([],p + 1 + 1) k):=ar;clear ar;have v : Hid (Bw wc wr):=R.bel;obtain ⟨y0,y1,y2⟩:=a4.out wr v.out;have e6:=R.le;have eQ : k * PP d <= 3 * PP d:=Nat.mul_le_mul_right _ (by omega);have eb : k * LL d <= 3 * LL d:=Nat.mul_le_mul_right _ (by omega);by_cases eq : k < n
    ·have lk : (k : Int) < (n : Int):=by omega
     have l : Hid (Aq w wc wr d b k Z n1 X D A B):=R;have C3:=bo.out wr q (m.out.trans (v.out.mono m.out.size)) (by omega);clear R HG;go_wp2_with fail;refine C3.mono ?_;rintro e w3 ⟨⟨v3,n3,c3,q3,rfl,d5,es,a2⟩,u⟩;clear C3 y0 y1 y2;obtain ⟨ys,G,an⟩:=a2.out;have b5 : Hid (f q = (ys.map Prod.fst,q3)):=an;clear an;have cm:=G.le;have bs:=G.len;have O : Hid (RT wr.heap.size w3 (.slice v3 n3 c3) ys /\ dH (ys.map Prod.fst) = true /\ (∀ x,x ∈ ys -> ku x) /\ ys.length <= LL d):=⟨G.rt,G.ok,G.sm,by omega⟩;have b0 : Hid (Bw wc w3):=v.out.trans (u.out.mono v.out.size);have C4:=mv w3 (l.out.rt.below u.out) (G.rt.mono (Nat.le_trans m.out.size v.out.size)) (by omega) (Nat.le_trans m.out.size b0.out.size);clear G a2 bs cm;go_wp2_with fail;refine C4.mono ?_;rintro e w4 ⟨⟨v4,n4,c4,rfl,b7⟩,a7⟩;clear C4;obtain ⟨fi,hf⟩:=xe ((S + k * 3) % 7);have ee : IntKind.i64.wrap ((k : Int) * 3) = (k : Int) * 3:=wk (by omega);have ws : IntKind.i64.wrap ((S : Int) + (k : Int) * 3) = (S : Int) + (k : Int) * 3:=wk (by omega)
     have m7 : Int.tmod ((S : Int) + (k : Int) * 3) 7 = (fi : Int):=by
      have h:=bl (S + k * 3) 7;rw [<- hf] at h;rw [<- h];congr 1 <;> omega
     have C5:=nD fi k w4;have HF : Hid (fldN fi k = fldN ((b / 4 + k * 3) % 7) k):=by rw [hf,ce.out];exact rfl
     have ah : Hid (Bw wr w4):=u.out.trans (a7.out.mono u.out.size);have K : w4.ownsRow wc.heap.size 9 1 (.slice D k A) k ((nmsG b k).map Value.string):=az l.out.own (ax ah.out) (by decide);have e4 : wc.heap.size <= w4.heap.size:=Nat.le_trans v.out.size ah.out.size;clear hf;go_wp2_with (first | (go_at_call 64;refine C5.mono ?_;rintro e w5 ⟨rfl,rfl⟩) | (at_builtin;refine wpList_append_lies _ rfl _ _ 52 rfl wc.heap.size 9 i9 _ 1 16 Tryz.underlying52 ck ch bv b3 rfl (by omega) (.slice D k A) k ((nmsG b k).map Value.string) rfl (K.alloc _) ⟨w5.heap.size,0,none⟩ 1 1 [.string (fldN fi k)] rfl rfl (World.news_of_block (cs:=#[.string (fldN fi k)]) (t:=9) (fr:=(0,0)) (heap_alloc_new w5 _)) (by simp [Value.oneCell']) (by omega) (by unfold maxLen;omega) (by omega) (by simp only [World.size_alloc];omega) (w5.heap.size + 1) (by simp) ?_;intro gg E w6 y L a9 ao));have hP : (k + 1) * PP d = k * PP d + PP d:=Nat.succ_mul _ _;have H:=y;rw [HF.out] at H;refine ⟨⟨k + 1,q3,n4,c4,E,v4,_,by omega,by go_num,rfl,by omega,by omega,rfl,rfl,_,l.out.step u.out a7.out O.out.1 O.out.2.2.2 O.out.2.1 O.out.2.2.1 b7.out H L a9,by rw [List.map_append];exact dm a3.out b5.out⟩,by simp [intOf];omega⟩
    ·have c0 : k = n:=by omega
     subst c0;have lk : ¬ (k : Int) < (k : Int):=by omega
     have b2 : n1 = B.length:=sd R.rt.own;subst b2;have l : Hid (Aq w wc wr d b k Z B.length X D A B):=R;have K:=R.rt.own;have eT : w.heap.size <= wr.heap.size:=Nat.le_trans m.out.size v.out.size;clear R HG y0 y1 y2;go_wp2_with (first | (at_builtin;refine wpList_append_lies _ rfl _ _ 34 rfl w.heap.size 80 i0 _ 4 64 Tryz.underlying34 c2 ct cp bn rfl (by omega) (.slice Z B.length X) B.length (bg B) rfl (K.alloc _) ⟨wr.heap.size,0,none⟩ 1 1 [.int .i64 5,.string ⟨#[]⟩,.string ⟨#[]⟩,.slice D k A] rfl rfl (World.news_of_block (cs:=#[.int .i64 5,.string ⟨#[]⟩,.string ⟨#[]⟩,.slice D k A]) (t:=80) (fr:=(0,0)) (heap_alloc_new wr _)) (by simp [Value.oneCell']) (by omega) (by unfold maxLen;omega) (by omega) (by simp;omega) (wr.heap.size + 1) (by simp) ?_;intro gg E w7 y L ex ao));go_ret2;obtain ⟨g,bp⟩:=aW (ns:=nmsG b k) (bX b k).symm (by have h:=l.out.own;rwa [i8] at h);have b9:=df l.out.own;have P:=l.out.rt.push (x:=((⟨5,e0,e0,nmsG b k⟩ : TI),(⟨D,g,A⟩ : NPl))) (by rw [show ei ((⟨5,e0,e0,nmsG b k⟩ : TI),(⟨D,g,A⟩ : NPl)) = [.int .i64 5,.string ⟨#[]⟩,.string ⟨#[]⟩,.slice D k A] by unfold ei;rw [bX];rfl];exact y) L (bp.mono m.out.size);refine ⟨⟨some ⟨gg,0,none⟩,B.length + 1,E,q,rfl,by omega,?_,_,⟨P,by rw [lap];rfl,by omega,?_,?_,fun x hx=>?_⟩,by rw [List.map_append];exact kZ HR.out a3.out⟩,ae (m.out.trans (v.out.mono m.out.size)) L (fun j e=>(K.lt j e).1)⟩
     ·show q <= p + (2 + 3 * PP d)
      omega
     ·show B.length + 1 <= 3 * LL d + 1
      omega
     ·rw [List.map_append]
      exact A9 (by rw [bX];exact l.out.hv) (xw b bb)
     ·rcases List.mem_append.1 hx with h | h
      ·exact l.out.sm x h
      ·rw [ms1 h]
       refine ⟨by show (nmsG b k).length <= A;rw [bX];exact b9,by show (nmsG b k).length <= 3;rw [bX];exact bb,by show (0 : Nat) <= 12;omega,by show (0 : Nat) <= 12;omega,fun s hs=>?_⟩;have F : s ∈ nmsG b k:=hs;unfold nmsG at F;obtain ⟨j,_,rfl⟩:=List.mem_map.1 F;exact dr (j3 _ _).1
theorem Do (w0 : World) {ca : Option Addr} {cb co Ln cc : Nat} {C : Nat -> Nat} (hC : am w0 ca cb co Ln C) (hLn : Ln <= 1048576) {T V M : List ByteArray} {tp vp mp : NPl} (hS : Sc w0 T V M tp vp mp) :
  ∀ (d : Nat),d <= 4 -> ∀ (w : World) (p : Nat),Bw w0 w -> p + 500 * d <= 1000000 -> Calls Tryz.prog 38 #[.slice ca Ln cc,.int .i64 (p : Int),.agg #[.slice tp.a T.length tp.c,.slice vp.a V.length vp.c,.slice mp.a M.length mp.c],.int .i64 (d : Int)] w (AF w d p (ba C Ln T M d p)):=by
 intro d
 induction d with
 | zero=>intro _ w p e s;exact g_T_lit w 0 (hC.below e) hLn (by omega) (hS.below e) (by omega) rfl (.inr (.inr (.inr rfl)))
 | succ d ih=>
   intro u w p e s;obtain ⟨j,n⟩ : ∃ j,j = 1000000 - 500 * d:=⟨_,rfl⟩;have o : Br (ba C Ln T M d) w d j ca Ln cc T V M tp vp mp:=fun W q hB hq=>ih (by omega) W q (e.trans (hB.mono e.size)) (by omega);have i : p + 500 <= j:=by omega
   have k : j <= 1000000:=by omega
   clear n;have t : ((d + 1 : Nat) : Int) = (d : Int) + 1:=by omega
   by_cases m : tk C Ln p 16 < 5
   ·exact g_T_lit w (d + 1) (hC.below e) hLn (by omega) (hS.below e) (by omega) (r:=ba C Ln T M (d + 1) p) (kR (.inl m)) (.inl m)
   by_cases l : tk C Ln p 16 < 8 /\ 0 < T.length
   ·exact g_T_lit w (d + 1) (hC.below e) hLn (by omega) (hS.below e) (by omega) (r:=ba C Ln T M (d + 1) p) (kR (.inr (.inl l))) (.inr (.inl l))
   by_cases b : tk C Ln p 16 < 10 /\ 0 < M.length /\ 0 < T.length
   ·exact g_T_lit w (d + 1) (hC.below e) hLn (by omega) (hS.below e) (by omega) (r:=ba C Ln T M (d + 1) p) (kR (.inr (.inr b))) (.inr (.inr (.inl ⟨b.1,b.2.2,b.2.1⟩)))
   rw [t];have g : ¬ (tk C Ln p 16 < 5 \/ (tk C Ln p 16 < 8 /\ 0 < T.length) \/ (tk C Ln p 16 < 10 /\ 0 < M.length /\ 0 < T.length)):=fun h=>h.elim m (fun h=>h.elim l b);by_cases f : tk C Ln p 16 < 13
   ·exact x7 w d (hC.below e) hLn (by omega) i k o (by omega) l b f hS.lt.1 hS.lm.1 (r:=ba C Ln T M (d + 1) p) (ug g f)
   ·exact yo w d (hC.below e) hLn (by omega) i k o (by omega) (r:=ba C Ln T M (d + 1) p) (wn g f)
end Go.Proofs.YtihedobejcaapaaGreatDoor
