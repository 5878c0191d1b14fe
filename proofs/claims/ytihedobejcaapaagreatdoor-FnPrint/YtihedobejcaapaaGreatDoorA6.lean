/-
  PcB
-/
import Derived.Test.YtihedobejcaapaaGreatDoorA5
set_option maxHeartbeats 2000000
set_option maxRecDepth 100000
namespace Go.Proofs.YtihedobejcaapaaGreatDoor
open Go.RowKit
theorem aK (w : World) (a : Value) (t : TypeId) : (w.alloc (.cells #[a] t)).rowIs w.heap.size t 1 (fun _=>a):=
 World.rowIs_alloc w #[a] t _ (fun i hi=>by
  match i,hi with
  | 0,_=>rfl)
theorem jz {B P tb o : Nat} {ts : List TK} {eT : TypeId} {eV : Value} (hP : P < B) (htb : tb < B) {j : Nat} {w w4 w5 : World} {v v1 : Value} {xs ys : List (TI × NPl)} {x : TI × NPl} {gg cap3 : Nat} {ob : Obj}
  (hot : OT B w4 v1 (xs ++ ys)) (hps : ag w4 P tb o j ts eT eV) (hbt : ai (P :: v.ownBlock.toList) w w4) (hgr : ∀ b,v1.ownBlock = some b -> v.ownBlock = some b \/ w.heap.size <= b)
  (hown : w5.ownsRow B 80 4 (.slice (some ⟨gg,0,none⟩) ((xs ++ ys).length + 1) cap3) ((xs ++ ys).length + 1) (bg (xs ++ ys) ++ ei x)) (hg : (w4.alloc ob).grownBy w5 v1.ownBlock) (hat : v1.ownBlock = some gg \/ gg = w4.heap.size + 1)
  (hx : aD B w4 x.1.ns x.2) (hn : x.1.ns ≠ [] -> x.2.b ∉ aS (xs ++ ys)) (hnew : ∀ b,b ∈ aS ys -> w.heap.size <= b) (hxn : x.1.ns ≠ [] -> w.heap.size <= x.2.b) :
  pG B P tb o ts eT eV w v xs (some (ys.map Prod.fst ++ [x.1],j)) (.returned (.slice (some ⟨gg,0,none⟩) ((xs ++ ys).length + 1) cap3)) w5:=by
 have c:=dS hg
 have low : ∀ k,k < B -> k ∉ v1.ownBlock.toList:=fun k hk z=>by
  have:=hot.own.lt k (by simpa using z);omega
 have g:=hps.pos;refine ⟨hbt.trans c (fun k z hk=>?_),_,ys ++ [x],rfl,?_,by simp,hps.but c (low P hP) (low tb htb) (low 0 (by omega)),fun b e=>?_,fun b hb=>?_⟩
 ·rcases hgr k (by simpa using z) with q | q
  ·simp [q]
  ·omega
 ·rw [<- List.append_assoc]
  exact hot.push hown hg hx hn
 ·have d : gg = b:=by simpa [Value.ownBlock] using e
  subst d;rcases hat with q | q
  ·exact hgr gg q
  ·have:=hbt.size
   exact Or.inr (by omega)
 ·rw [dy] at hb
  rcases List.mem_append.1 hb with z | z
  ·exact hnew b z
  ·obtain ⟨y,f,a,rfl⟩:=cL z
   rw [ms1 f] at a ⊢;exact hxn a
theorem sD {B P tb o : Nat} {ts : List TK} {eT : TypeId} {eV : Value} {f : Nat} (hP : P < B) (htb : tb < B) {i : Nat} {w : World} {v : Value} {xs : List (TI × NPl)} (hps : ag w P tb o i ts eT eV) (hot : OT B w v xs) (hxi : xs.length <= i) (hB : B <= w.heap.size) (hc : cr ts i 1 = true) :
  Calls Tryz.prog 86 #[.pointer (some ⟨P,0,none⟩),v] w (pG B P tb o ts eT eV w v xs (aF true ts (tyP true ts f) i)):=by
 have hi:=d4 hc;have HC:=hQx hc;rw [bT hi] at hc;have HP:=hQx hps;obtain ⟨l,g,rfl⟩:=ad hot.own;have HO : Hid (OT B w (.slice l xs.length g) xs):=hot;have hn:=hps.tk.len;have bo:=hps.le;clear hps hot;obtain ⟨N,a⟩:=xe ((w.alloc (.cells #[.pointer (some ⟨P,0,none⟩)] 69)).alloc (.cells #[.slice l xs.length g] 34));have n : Hid (ai [] w N):=by show ai [] w N;rw [a];exact ((ai.refl _ _).alloc _).alloc _
 have T : N.rowIs w.heap.size 69 1 (fun _=>.pointer (some ⟨P,0,none⟩)):=by rw [a];exact (aK _ _ _).alloc _
 have RX : N.rowIs (w.heap.size + 1) 34 1 (fun _=>.slice l xs.length g):=by
  have:=aK (w.alloc (.cells #[.pointer (some ⟨P,0,none⟩)] 69)) (.slice l xs.length g) 34;simp only [World.size_alloc] at this;rw [a];exact this
 obtain ⟨i0,ao,Z,W,V⟩:=info_parts Tryz.infoTI;go_enter Tryz.func86,Tryz.ntmps86;go_wp2_with fail;rw [<- a];clear a;refine (bm N (HP.out.but n.out (by simp) (by simp) (by simp)) hi).mono ?_;rintro e H ⟨rfl,h1,I⟩;unfold km;obtain ⟨G,A⟩:=xe ((aA ts i).cls);obtain ⟨D,C⟩:=xe ((aA ts i).txt);obtain ⟨E,Q⟩:=xe (((aA ts i).loc : Int));have X : Hid (tx ts i = D):=by show _ = _;rw [C,dx hi]
 rw [<- A] at hc;rw [<- A,<- C,<- Q];clear A C Q;have p : Hid (ai [P] w (H.alloc (.cells #[.int .i64 G,.string D,.int .i64 E] 45))):=((n.out.more (S':=[P]) (fun _ z=>by simp at z)).then_ I).alloc _;have y:=(T.of_block (I.block _ T.lt (by simp;omega))).alloc (.cells #[.int .i64 G,.string D,.int .i64 E] 45);have d:=(RX.of_block (I.block _ RX.lt (by simp;omega))).alloc (.cells #[.int .i64 G,.string D,.int .i64 E] 45);have u : Hid (ag (H.alloc (.cells #[.int .i64 G,.string D,.int .i64 E] 45)) P tb o (i + 1) ts eT eV):=h1.but ((ai.refl ([] : List Nat) H).alloc _) (by simp) (by simp) (by simp);have J : Hid (OT B (H.alloc (.cells #[.int .i64 G,.string D,.int .i64 E] 45)) (.slice l xs.length g) xs):=HO.out.low p.out (fun b z=>by rw [ms1 z];exact Or.inl hP);have cq:=y.cell (i:=0) (by omega);have cx:=d.cell (i:=0) (by omega);have ce:=u.out.ev;have bb : w.heap.size <= H.heap.size:=Nat.le_trans n.out.size I.size;clear h1 I T RX HP n;have qc : G = 1:=by simpa using hc
 subst qc;clear hc;go_wp2_with fail;obtain ⟨W3,K⟩:=xe (H.alloc (.cells #[.int .i64 1,.string D,.int .i64 E] 45));rw [<- K] at p y d u J cq cx ce ⊢;clear K;have Y:=um (i:=i) W3 u.out;rw [X.out] at Y;refine Y.mono ?_;clear Y
 cases hp : bW true ts i with
 | none=>
   have HR : Hid (aF true ts (tyP true ts f) i = none):=by show _ = _;unfold aF;rw [if_pos HC.out,hp]
   rintro e s ⟨F,rfl⟩;clear hp;go_wp2;exact ⟨rfl,by rw [HR.out];exact ⟨(p.out.then_ F).more (fun k z=>by rw [ms1 z];simp),rfl⟩⟩
 | some r=>
   obtain ⟨m,nn,j⟩:=r;have HR : Hid (aF true ts (tyP true ts f) i = some ([⟨4,m,nn,[]⟩],j)):=by show _ = _;unfold aF;rw [if_pos HC.out,hp]
   rintro e s ⟨F,rfl,h4⟩;clear hp;have M:=d.of_block (F.block _ d.lt (by simp;omega));have bv:=M.cell (i:=0) (by omega);have O : Hid (OT B s (.slice l xs.length g) xs):=J.out.low F (fun b z=>by rw [ms1 z];exact Or.inl hP);have L : Hid (ai (P :: (Value.slice l xs.length g).ownBlock.toList) w s):=(p.out.then_ F).more (fun k z=>by rw [ms1 z];simp);have U : Hid (ag s P tb o j ts eT eV):=h4;have bs:=L.out.size;clear F h4 M d y cq cx ce;go_wp2_with (first | (at_builtin;refine wpList_append_lies _ rfl _ _ 34 rfl B 80 i0 _ 4 64 Tryz.underlying34 ao Z W V rfl (by omega) (.slice l xs.length g) (xs.length) (bg xs) rfl (O.out.own.alloc _) ⟨s.heap.size,0,none⟩ 1 1 [.int .i64 4,.string m,.string nn,.slice none 0 0] rfl rfl (World.news_of_block (cs:=#[.int .i64 4,.string m,.string nn,.slice none 0 0]) (t:=80) (fr:=(0,0)) (heap_alloc_new s _)) (by simp [Value.oneCell']) (by omega) (by unfold maxLen;omega) (by omega) (by simp;omega) (s.heap.size + 1) (by simp) ?_;intro gg R w5 c S q a4))
   have ah : Hid (pG B P tb o ts eT eV w (.slice l xs.length g) xs (some ([⟨4,m,nn,[]⟩],j)) (.returned (.slice (some ⟨gg,0,none⟩) (xs.length + 1) R)) w5):=by
    have z:=jz (ys:=[]) (x:=(⟨4,m,nn,[]⟩,⟨none,0,0⟩)) hP htb (v:=.slice l xs.length g) (by rw [List.append_nil];exact O.out) U.out L.out (fun b e=>Or.inl e) (by rw [List.append_nil];exact c) S q (aD.nil _ _ _) (fun h=>absurd rfl h) (fun b hb=>by cases hb) (fun h=>absurd rfl h);rw [List.append_nil] at z;exact z
   clear c S q;go_wp2;go_ret;rw [HR.out];exact ah.out
theorem rB {ts : List TK} {i : Nat} {s s' : List UInt8} (h : isT ts i s = true) : (((aA ts i).txt.toList == s') = true ↔ s = s'):=by
 have a:=aL h;rw [ng a] at h;rw [ByteArray.toList_eq];have e : (aA ts i).txt.data.toList = s:=by simpa using h
 rw [e];simp
theorem cB {ts : List TK} {i : Nat} (hi : i < ts.length) {s : List UInt8} (h : isT ts i s = false) : ((aA ts i).txt.toList == s) = false:=by
 rw [ng hi] at h;rw [ByteArray.toList_eq];exact h
theorem aY {ts : List TK} {i : Nat} {s : List UInt8} (h : isT ts i s = true) : ((aA ts i).txt.toList == s) = true:=(rB h).2 rfl
theorem aM {ts : List TK} {i : Nat} {s : List UInt8} (h : isT ts i s = true) (s' : List UInt8) (hne : s ≠ s') : ((aA ts i).txt.toList == s') = false:=by
 cases e : ((aA ts i).txt.toList == s') with
 | false=>rfl
 | true=>exact absurd ((rB h).1 e) hne
theorem vT {B P tb o : Nat} {ts : List TK} {eT : TypeId} {eV : Value} {f : Nat} (hP : P < B) (htb : tb < B) {i : Nat} {w : World} {v : Value} {xs : List (TI × NPl)} (hps : ag w P tb o i ts eT eV) (hot : OT B w v xs) (hxi : xs.length <= i) (hB : B <= w.heap.size) (hc : cr ts i 1 = false) (hs : isT ts i jb = true) :
  Calls Tryz.prog 86 #[.pointer (some ⟨P,0,none⟩),v] w (pG B P tb o ts eT eV w v xs (aF true ts (tyP true ts f) i)):=by
 have M:=aL hs
 have Z : Hid (aF true ts (tyP true ts f) i = some ([cV 1],i + 1)):=by
  show _ = _;unfold aF;rw [hc,if_neg (by decide)];rw [if_pos hs]
 have q0 : ((aA ts i).txt.toList == [105,110,116]) = true:=aY hs;rw [bT M] at hc;clear hs;have T:=hQx hps;obtain ⟨l,j,rfl⟩:=ad hot.own;have V : Hid (OT B w (.slice l xs.length j) xs):=hot;have hn:=hps.tk.len;have ao:=hps.le;clear hps hot;obtain ⟨D,a⟩:=xe ((w.alloc (.cells #[.pointer (some ⟨P,0,none⟩)] 69)).alloc (.cells #[.slice l xs.length j] 34));have d : Hid (ai [] w D):=by show ai [] w D;rw [a];exact ((ai.refl _ _).alloc _).alloc _
 have H : D.rowIs w.heap.size 69 1 (fun _=>.pointer (some ⟨P,0,none⟩)):=by rw [a];exact (aK _ _ _).alloc _
 have R : D.rowIs (w.heap.size + 1) 34 1 (fun _=>.slice l xs.length j):=by
  have:=aK (w.alloc (.cells #[.pointer (some ⟨P,0,none⟩)] 69)) (.slice l xs.length j) 34;simp only [World.size_alloc] at this;rw [a];exact this
 obtain ⟨i0,Q,L,J,I⟩:=info_parts Tryz.infoTI;go_enter Tryz.func86,Tryz.ntmps86;go_wp2_with fail;rw [<- a];clear a;refine (bm D (T.out.but d.out (by simp) (by simp) (by simp)) M).mono ?_;rintro e m ⟨rfl,S,y⟩;unfold km;obtain ⟨u,q⟩:=xe ((aA ts i).cls);obtain ⟨r,g⟩:=xe ((aA ts i).txt);obtain ⟨s,E⟩:=xe (((aA ts i).loc : Int));have X : Hid (tx ts i = r):=by show _ = _;rw [g,dx M]
 rw [<- q] at hc;rw [<- g] at q0;rw [<- q,<- g,<- E];clear q g E;have p : Hid (ai [P] w (m.alloc (.cells #[.int .i64 u,.string r,.int .i64 s] 45))):=((d.out.more (S':=[P]) (fun _ z=>by simp at z)).then_ y).alloc _;have K:=(H.of_block (y.block _ H.lt (by simp;omega))).alloc (.cells #[.int .i64 u,.string r,.int .i64 s] 45);have O:=(R.of_block (y.block _ R.lt (by simp;omega))).alloc (.cells #[.int .i64 u,.string r,.int .i64 s] 45);have A : Hid (ag (m.alloc (.cells #[.int .i64 u,.string r,.int .i64 s] 45)) P tb o (i + 1) ts eT eV):=S.but ((ai.refl ([] : List Nat) m).alloc _) (by simp) (by simp) (by simp);have C : Hid (OT B (m.alloc (.cells #[.int .i64 u,.string r,.int .i64 s] 45)) (.slice l xs.length j) xs):=V.out.low p.out (fun b z=>by rw [ms1 z];exact Or.inl hP);have cq:=K.cell (i:=0) (by omega);have cx:=O.cell (i:=0) (by omega);have ce:=A.out.ev;have W : w.heap.size <= m.heap.size:=Nat.le_trans d.out.size y.size;clear S y H R T d;have ab:=p.out.size;go_wp2_with (first | (at_builtin;go_loud (refine wpList_append_lies _ rfl _ _ 34 rfl B 80 i0 _ 4 64 Tryz.underlying34 Q L J I rfl (by omega) (.slice l xs.length j) (xs.length) (bg xs) rfl (C.out.own.alloc _) ⟨m.heap.size + 1,0,none⟩ 1 1 [.int .i64 1,.string ⟨#[]⟩,.string ⟨#[]⟩,.slice none 0 0] rfl rfl (World.news_of_block (cs:=#[.int .i64 1,.string ⟨#[]⟩,.string ⟨#[]⟩,.slice none 0 0]) (t:=80) (fr:=(0,0)) (by have:=heap_alloc_new (m.alloc (.cells #[.int .i64 u,.string r,.int .i64 s] 45)) (.cells #[.int .i64 1,.string ⟨#[]⟩,.string ⟨#[]⟩,.slice none 0 0] 80);simpa using this)) (by simp [Value.oneCell']) (by omega) (by unfold maxLen;omega) (by omega) (by simp;omega) (m.heap.size + 1 + 1) (by simp) ?_);intro gg F Y c G n U))
 have N : Hid (pG B P tb o ts eT eV w (.slice l xs.length j) xs (some ([cV 1],i + 1)) (.returned (.slice (some ⟨gg,0,none⟩) (xs.length + 1) F)) Y):=by
  have z:=jz (ys:=[]) (x:=(cV 1,⟨none,0,0⟩)) hP htb (v:=.slice l xs.length j) (by rw [List.append_nil];exact C.out) A.out (p.out.more (fun k z=>by rw [ms1 z];simp)) (fun b e=>Or.inl e) (by rw [List.append_nil];exact c) G (by simpa using n) (aD.nil _ _ _) (fun h=>absurd rfl h) (fun b hb=>by cases hb) (fun h=>absurd rfl h);rw [List.append_nil] at z;exact z
 clear c G n;go_wp2;go_ret;rw [Z.out];exact N.out
theorem sJ {B P tb o : Nat} {ts : List TK} {eT : TypeId} {eV : Value} {f : Nat} (hP : P < B) (htb : tb < B) {i : Nat} {w : World} {v : Value} {xs : List (TI × NPl)} (hps : ag w P tb o i ts eT eV) (hot : OT B w v xs) (hxi : xs.length <= i) (hB : B <= w.heap.size) (hc : cr ts i 1 = false) (hs : isT ts i fL = true) :
  Calls Tryz.prog 86 #[.pointer (some ⟨P,0,none⟩),v] w (pG B P tb o ts eT eV w v xs (aF true ts (tyP true ts f) i)):=by
 have M:=aL hs
 have HR : Hid (aF true ts (tyP true ts f) i = some ([cV 2],i + 1)):=by
  show _ = _;unfold aF;rw [hc,if_neg (by decide)];rw [bi hs (s':=jb) (by decide),if_neg (by decide)];rw [if_pos hs]
 have q0 : ((aA ts i).txt.toList == [105,110,116]) = false:=aM hs _ (by decide);have X : ((aA ts i).txt.toList == [98,111,111,108]) = true:=aY hs;rw [bT M] at hc;clear hs;have T:=hQx hps;obtain ⟨l,j,rfl⟩:=ad hot.own;have V : Hid (OT B w (.slice l xs.length j) xs):=hot;have hn:=hps.tk.len;have ar:=hps.le;clear hps hot;obtain ⟨D,a⟩:=xe ((w.alloc (.cells #[.pointer (some ⟨P,0,none⟩)] 69)).alloc (.cells #[.slice l xs.length j] 34));have d : Hid (ai [] w D):=by show ai [] w D;rw [a];exact ((ai.refl _ _).alloc _).alloc _
 have H : D.rowIs w.heap.size 69 1 (fun _=>.pointer (some ⟨P,0,none⟩)):=by rw [a];exact (aK _ _ _).alloc _
 have R : D.rowIs (w.heap.size + 1) 34 1 (fun _=>.slice l xs.length j):=by
  have:=aK (w.alloc (.cells #[.pointer (some ⟨P,0,none⟩)] 69)) (.slice l xs.length j) 34;simp only [World.size_alloc] at this;rw [a];exact this
 obtain ⟨i0,Q,L,J,I⟩:=info_parts Tryz.infoTI;go_enter Tryz.func86,Tryz.ntmps86;go_wp2_with fail;rw [<- a];clear a;refine (bm D (T.out.but d.out (by simp) (by simp) (by simp)) M).mono ?_;rintro e m ⟨rfl,S,y⟩;unfold km;obtain ⟨u,q⟩:=xe ((aA ts i).cls);obtain ⟨r,g⟩:=xe ((aA ts i).txt);obtain ⟨s,E⟩:=xe (((aA ts i).loc : Int));have Y : Hid (tx ts i = r):=by show _ = _;rw [g,dx M]
 rw [<- q] at hc;rw [<- g] at q0 X;rw [<- q,<- g,<- E];clear q g E;have p : Hid (ai [P] w (m.alloc (.cells #[.int .i64 u,.string r,.int .i64 s] 45))):=((d.out.more (S':=[P]) (fun _ z=>by simp at z)).then_ y).alloc _;have K:=(H.of_block (y.block _ H.lt (by simp;omega))).alloc (.cells #[.int .i64 u,.string r,.int .i64 s] 45);have O:=(R.of_block (y.block _ R.lt (by simp;omega))).alloc (.cells #[.int .i64 u,.string r,.int .i64 s] 45);have A : Hid (ag (m.alloc (.cells #[.int .i64 u,.string r,.int .i64 s] 45)) P tb o (i + 1) ts eT eV):=S.but ((ai.refl ([] : List Nat) m).alloc _) (by simp) (by simp) (by simp);have C : Hid (OT B (m.alloc (.cells #[.int .i64 u,.string r,.int .i64 s] 45)) (.slice l xs.length j) xs):=V.out.low p.out (fun b z=>by rw [ms1 z];exact Or.inl hP);have cq:=K.cell (i:=0) (by omega);have cx:=O.cell (i:=0) (by omega);have ce:=A.out.ev;have W : w.heap.size <= m.heap.size:=Nat.le_trans d.out.size y.size;clear S y H R T d;have ah:=p.out.size;go_wp2_with (first | (at_builtin;go_loud (refine wpList_append_lies _ rfl _ _ 34 rfl B 80 i0 _ 4 64 Tryz.underlying34 Q L J I rfl (by omega) (.slice l xs.length j) (xs.length) (bg xs) rfl (C.out.own.alloc _) ⟨m.heap.size + 1,0,none⟩ 1 1 [.int .i64 2,.string ⟨#[]⟩,.string ⟨#[]⟩,.slice none 0 0] rfl rfl (World.news_of_block (cs:=#[.int .i64 2,.string ⟨#[]⟩,.string ⟨#[]⟩,.slice none 0 0]) (t:=80) (fr:=(0,0)) (by have:=heap_alloc_new (m.alloc (.cells #[.int .i64 u,.string r,.int .i64 s] 45)) (.cells #[.int .i64 2,.string ⟨#[]⟩,.string ⟨#[]⟩,.slice none 0 0] 80);simpa using this)) (by simp [Value.oneCell']) (by omega) (by unfold maxLen;omega) (by omega) (by simp;omega) (m.heap.size + 1 + 1) (by simp) ?_);intro gg F Z c G n U))
 have N : Hid (pG B P tb o ts eT eV w (.slice l xs.length j) xs (some ([cV 2],i + 1)) (.returned (.slice (some ⟨gg,0,none⟩) (xs.length + 1) F)) Z):=by
  have z:=jz (ys:=[]) (x:=(cV 2,⟨none,0,0⟩)) hP htb (v:=.slice l xs.length j) (by rw [List.append_nil];exact C.out) A.out (p.out.more (fun k z=>by rw [ms1 z];simp)) (fun b e=>Or.inl e) (by rw [List.append_nil];exact c) G (by simpa using n) (aD.nil _ _ _) (fun h=>absurd rfl h) (fun b hb=>by cases hb) (fun h=>absurd rfl h);rw [List.append_nil] at z;exact z
 clear c G n;go_wp2;go_ret;rw [HR.out];exact N.out
theorem wy {B P tb o : Nat} {ts : List TK} {eT : TypeId} {eV : Value} {f : Nat} (hP : P < B) (htb : tb < B) {i : Nat} {w : World} {v : Value} {xs : List (TI × NPl)} (hps : ag w P tb o i ts eT eV) (hot : OT B w v xs) (hxi : xs.length <= i) (hB : B <= w.heap.size) (hc : cr ts i 1 = false) (hs : isT ts i lA = true) :
  Calls Tryz.prog 86 #[.pointer (some ⟨P,0,none⟩),v] w (pG B P tb o ts eT eV w v xs (aF true ts (tyP true ts f) i)):=by
 have M:=aL hs
 have HR : Hid (aF true ts (tyP true ts f) i = some ([cV 3],i + 1)):=by
  show _ = _;unfold aF;rw [hc,if_neg (by decide)];rw [bi hs (s':=jb) (by decide),if_neg (by decide)];rw [bi hs (s':=fL) (by decide),if_neg (by decide)];rw [if_pos hs]
 have q0 : ((aA ts i).txt.toList == [105,110,116]) = false:=aM hs _ (by decide);have X : ((aA ts i).txt.toList == [98,111,111,108]) = false:=aM hs _ (by decide);have Y : ((aA ts i).txt.toList == [63]) = true:=aY hs;rw [bT M] at hc;clear hs;have T:=hQx hps;obtain ⟨l,j,rfl⟩:=ad hot.own;have V : Hid (OT B w (.slice l xs.length j) xs):=hot;have hn:=hps.tk.len;have a0:=hps.le;clear hps hot;obtain ⟨D,a⟩:=xe ((w.alloc (.cells #[.pointer (some ⟨P,0,none⟩)] 69)).alloc (.cells #[.slice l xs.length j] 34));have d : Hid (ai [] w D):=by show ai [] w D;rw [a];exact ((ai.refl _ _).alloc _).alloc _
 have H : D.rowIs w.heap.size 69 1 (fun _=>.pointer (some ⟨P,0,none⟩)):=by rw [a];exact (aK _ _ _).alloc _
 have R : D.rowIs (w.heap.size + 1) 34 1 (fun _=>.slice l xs.length j):=by
  have:=aK (w.alloc (.cells #[.pointer (some ⟨P,0,none⟩)] 69)) (.slice l xs.length j) 34;simp only [World.size_alloc] at this;rw [a];exact this
 obtain ⟨i0,Q,L,J,I⟩:=info_parts Tryz.infoTI;go_enter Tryz.func86,Tryz.ntmps86;go_wp2_with fail;rw [<- a];clear a;refine (bm D (T.out.but d.out (by simp) (by simp) (by simp)) M).mono ?_;rintro e m ⟨rfl,S,y⟩;unfold km;obtain ⟨u,q⟩:=xe ((aA ts i).cls);obtain ⟨r,g⟩:=xe ((aA ts i).txt);obtain ⟨s,E⟩:=xe (((aA ts i).loc : Int));have Z : Hid (tx ts i = r):=by show _ = _;rw [g,dx M]
 rw [<- q] at hc;rw [<- g] at q0 X Y;rw [<- q,<- g,<- E];clear q g E;have p : Hid (ai [P] w (m.alloc (.cells #[.int .i64 u,.string r,.int .i64 s] 45))):=((d.out.more (S':=[P]) (fun _ z=>by simp at z)).then_ y).alloc _;have K:=(H.of_block (y.block _ H.lt (by simp;omega))).alloc (.cells #[.int .i64 u,.string r,.int .i64 s] 45);have O:=(R.of_block (y.block _ R.lt (by simp;omega))).alloc (.cells #[.int .i64 u,.string r,.int .i64 s] 45);have A : Hid (ag (m.alloc (.cells #[.int .i64 u,.string r,.int .i64 s] 45)) P tb o (i + 1) ts eT eV):=S.but ((ai.refl ([] : List Nat) m).alloc _) (by simp) (by simp) (by simp);have C : Hid (OT B (m.alloc (.cells #[.int .i64 u,.string r,.int .i64 s] 45)) (.slice l xs.length j) xs):=V.out.low p.out (fun b z=>by rw [ms1 z];exact Or.inl hP);have cq:=K.cell (i:=0) (by omega);have cx:=O.cell (i:=0) (by omega);have ce:=A.out.ev;have W : w.heap.size <= m.heap.size:=Nat.le_trans d.out.size y.size;clear S y H R T d;have an:=p.out.size;go_wp2_with (first | (at_builtin;go_loud (refine wpList_append_lies _ rfl _ _ 34 rfl B 80 i0 _ 4 64 Tryz.underlying34 Q L J I rfl (by omega) (.slice l xs.length j) (xs.length) (bg xs) rfl (C.out.own.alloc _) ⟨m.heap.size + 1,0,none⟩ 1 1 [.int .i64 3,.string ⟨#[]⟩,.string ⟨#[]⟩,.slice none 0 0] rfl rfl (World.news_of_block (cs:=#[.int .i64 3,.string ⟨#[]⟩,.string ⟨#[]⟩,.slice none 0 0]) (t:=80) (fr:=(0,0)) (by have:=heap_alloc_new (m.alloc (.cells #[.int .i64 u,.string r,.int .i64 s] 45)) (.cells #[.int .i64 3,.string ⟨#[]⟩,.string ⟨#[]⟩,.slice none 0 0] 80);simpa using this)) (by simp [Value.oneCell']) (by omega) (by unfold maxLen;omega) (by omega) (by simp;omega) (m.heap.size + 1 + 1) (by simp) ?_);intro gg F w5 c G n U))
 have N : Hid (pG B P tb o ts eT eV w (.slice l xs.length j) xs (some ([cV 3],i + 1)) (.returned (.slice (some ⟨gg,0,none⟩) (xs.length + 1) F)) w5):=by
  have z:=jz (ys:=[]) (x:=(cV 3,⟨none,0,0⟩)) hP htb (v:=.slice l xs.length j) (by rw [List.append_nil];exact C.out) A.out (p.out.more (fun k z=>by rw [ms1 z];simp)) (fun b e=>Or.inl e) (by rw [List.append_nil];exact c) G (by simpa using n) (aD.nil _ _ _) (fun h=>absurd rfl h) (fun b hb=>by cases hb) (fun h=>absurd rfl h);rw [List.append_nil] at z;exact z
 clear c G n;go_wp2;go_ret;rw [HR.out];exact N.out
theorem sf {B P tb o : Nat} {ts : List TK} {eT : TypeId} {eV : Value} {f : Nat} (hP : P < B) (_htb : tb < B) {i : Nat} {w : World} {v : Value} {xs : List (TI × NPl)} (hps : ag w P tb o i ts eT eV) (hot : OT B w v xs) (_hxi : xs.length <= i) (hB : B <= w.heap.size) (hc : cr ts i 1 = false) (h0 : isT ts i jb = false) (h1 : isT ts i fL = false) (h2 : isT ts i lA = false) (h3 : isT ts i dI = false) (h4 : isT ts i cQ = false) :
  Calls Tryz.prog 86 #[.pointer (some ⟨P,0,none⟩),v] w (pG B P tb o ts eT eV w v xs (aF true ts (tyP true ts f) i)):=by
 have M : Hid (aF true ts (tyP true ts f) i = none):=by
  show _ = _;unfold aF;rw [hc,h0,h1,h2,h3,h4];rfl
 by_cases j : i < ts.length
 case neg=>
  have y:=hQx hps;obtain ⟨h,g,rfl⟩:=ad hot.own;have L : Hid (OT B w (.slice h xs.length g) xs):=hot;have W:=hps.tk.len;have K:=hps.le;clear hps hot;obtain ⟨d,a⟩:=xe ((w.alloc (.cells #[.pointer (some ⟨P,0,none⟩)] 69)).alloc (.cells #[.slice h xs.length g] 34));have c : Hid (ai [] w d):=by show ai [] w d;rw [a];exact ((ai.refl _ _).alloc _).alloc _
  have x : d.rowIs w.heap.size 69 1 (fun _=>.pointer (some ⟨P,0,none⟩)):=by rw [a];exact (aK _ _ _).alloc _
  have A : d.rowIs (w.heap.size + 1) 34 1 (fun _=>.slice h xs.length g):=by
   have:=aK (w.alloc (.cells #[.pointer (some ⟨P,0,none⟩)] 69)) (.slice h xs.length g) 34;simp only [World.size_alloc] at this;rw [a];exact this
  obtain ⟨V,J,G,E,D⟩:=info_parts Tryz.infoTI;go_enter Tryz.func86,Tryz.ntmps86;go_wp2_with fail;rw [<- a];clear a;refine (gZ d (y.out.but c.out (by simp) (by simp) (by simp)) j).mono ?_;rintro e p ⟨rfl,m⟩;have H : Hid (ai (P :: (Value.slice h xs.length g).ownBlock.toList) w p):=((c.out.more (S':=[P]) (fun _ z=>by simp at z)).then_ m).more (fun k z=>by rw [ms1 z];simp);clear m;go_wp2;exact ⟨rfl,by rw [M.out];exact ⟨H.out,rfl⟩⟩
 have X : ((aA ts i).txt.toList == [105,110,116]) = false:=cB j h0;have O : ((aA ts i).txt.toList == [98,111,111,108]) = false:=cB j h1;have Q : ((aA ts i).txt.toList == [63]) = false:=cB j h2;have R : ((aA ts i).txt.toList == [123]) = false:=cB j h3;have U : ((aA ts i).txt.toList == [40]) = false:=cB j h4;rw [bT j] at hc;clear h0 h1 h2 h3 h4;have y:=hQx hps;obtain ⟨h,g,rfl⟩:=ad hot.own;have L : Hid (OT B w (.slice h xs.length g) xs):=hot;have W:=hps.tk.len;have K:=hps.le;clear hps hot;obtain ⟨d,a⟩:=xe ((w.alloc (.cells #[.pointer (some ⟨P,0,none⟩)] 69)).alloc (.cells #[.slice h xs.length g] 34));have c : Hid (ai [] w d):=by show ai [] w d;rw [a];exact ((ai.refl _ _).alloc _).alloc _
 have x : d.rowIs w.heap.size 69 1 (fun _=>.pointer (some ⟨P,0,none⟩)):=by rw [a];exact (aK _ _ _).alloc _
 have A : d.rowIs (w.heap.size + 1) 34 1 (fun _=>.slice h xs.length g):=by
  have:=aK (w.alloc (.cells #[.pointer (some ⟨P,0,none⟩)] 69)) (.slice h xs.length g) 34;simp only [World.size_alloc] at this;rw [a];exact this
 obtain ⟨V,J,G,E,D⟩:=info_parts Tryz.infoTI;go_enter Tryz.func86,Tryz.ntmps86;go_wp2_with fail;rw [<- a];clear a;refine (bm d (y.out.but c.out (by simp) (by simp) (by simp)) j).mono ?_;rintro e p ⟨rfl,h1,m⟩;unfold km;obtain ⟨u,n⟩:=xe ((aA ts i).cls);obtain ⟨q,l⟩:=xe ((aA ts i).txt);obtain ⟨s,t⟩:=xe (((aA ts i).loc : Int));have T : Hid (tx ts i = q):=by show _ = _;rw [l,dx j]
 rw [<- n] at hc;rw [<- l] at X O Q R U;rw [<- n,<- l,<- t];clear n l t;have r : Hid (ai [P] w (p.alloc (.cells #[.int .i64 u,.string q,.int .i64 s] 45))):=((c.out.more (S':=[P]) (fun _ z=>by simp at z)).then_ m).alloc _;have F:=(x.of_block (m.block _ x.lt (by simp;omega))).alloc (.cells #[.int .i64 u,.string q,.int .i64 s] 45);have I:=(A.of_block (m.block _ A.lt (by simp;omega))).alloc (.cells #[.int .i64 u,.string q,.int .i64 s] 45);have C : Hid (ag (p.alloc (.cells #[.int .i64 u,.string q,.int .i64 s] 45)) P tb o (i + 1) ts eT eV):=h1.but ((ai.refl ([] : List Nat) p).alloc _) (by simp) (by simp) (by simp);have S : Hid (OT B (p.alloc (.cells #[.int .i64 u,.string q,.int .i64 s] 45)) (.slice h xs.length g) xs):=L.out.low r.out (fun b z=>by rw [ms1 z];exact Or.inl hP);have Z:=F.cell (i:=0) (by omega);have cx:=I.cell (i:=0) (by omega);have Y:=C.out.ev;have N : w.heap.size <= p.heap.size:=Nat.le_trans c.out.size m.size;clear h1 m x A y c;go_wp2;exact ⟨rfl,by rw [M.out];exact ⟨r.out.more (fun k z=>by rw [ms1 z];simp),rfl⟩⟩
theorem tU {B P tb o : Nat} {ts : List TK} {eT : TypeId} {eV : Value} {f : Nat} (IH : tD B P tb o ts eT eV f) (hP : P < B) (htb : tb < B) {i : Nat} {w : World} {v : Value} {xs : List (TI × NPl)} (hps : ag w P tb o i ts eT eV) (hot : OT B w v xs) (hxi : xs.length <= i) (hB : B <= w.heap.size) (hf : ts.length - i < f + 1) (hc : cr ts i 1 = false) (hs : isT ts i cQ = true) :
  Calls Tryz.prog 86 #[.pointer (some ⟨P,0,none⟩),v] w (pG B P tb o ts eT eV w v xs (aF true ts (tyP true ts f) i)):=by
 have hi:=aL hs;have a7:=hQx IH;clear IH
 have HR : Hid (aF true ts (tyP true ts f) i = bO ts (tyP true ts f) (i + 1)):=by
  show _ = _;unfold aF;rw [hc,if_neg (by decide)];rw [bi hs (s':=jb) (by decide),if_neg (by decide)];rw [bi hs (s':=fL) (by decide),if_neg (by decide)];rw [bi hs (s':=lA) (by decide),if_neg (by decide)];rw [bi hs (s':=dI) (by decide),if_neg (by decide)];rw [if_pos hs]
 have q0 : ((aA ts i).txt.toList == [105,110,116]) = false:=aM hs _ (by decide);have q1 : ((aA ts i).txt.toList == [98,111,111,108]) = false:=aM hs _ (by decide);have q2 : ((aA ts i).txt.toList == [63]) = false:=aM hs _ (by decide);have q3 : ((aA ts i).txt.toList == [123]) = false:=aM hs _ (by decide);have q4 : ((aA ts i).txt.toList == [40]) = true:=aY hs;rw [bT hi] at hc;clear hs;have HP:=hQx hps;obtain ⟨m,g,rfl⟩:=ad hot.own;have HO : Hid (OT B w (.slice m xs.length g) xs):=hot;have hn:=hps.tk.len;have co:=hps.le;clear hps hot;obtain ⟨X,s⟩:=xe ((w.alloc (.cells #[.pointer (some ⟨P,0,none⟩)] 69)).alloc (.cells #[.slice m xs.length g] 34));have D : Hid (ai [] w X):=by show ai [] w X;rw [s];exact ((ai.refl _ _).alloc _).alloc _
 have RQ : X.rowIs w.heap.size 69 1 (fun _=>.pointer (some ⟨P,0,none⟩)):=by rw [s];exact (aK _ _ _).alloc _
 have RX : X.rowIs (w.heap.size + 1) 34 1 (fun _=>.slice m xs.length g):=by
  have:=aK (w.alloc (.cells #[.pointer (some ⟨P,0,none⟩)] 69)) (.slice m xs.length g) 34;simp only [World.size_alloc] at this;rw [s];exact this
 obtain ⟨i0,c8,c7,c3,cm⟩:=info_parts Tryz.infoTI;go_enter Tryz.func86,Tryz.ntmps86;go_wp2_with fail;rw [<- s];clear s;refine (bm X (HP.out.but D.out (by simp) (by simp) (by simp)) hi).mono ?_;rintro e O ⟨rfl,h1,S⟩;unfold km;obtain ⟨N,I⟩:=xe ((aA ts i).cls);obtain ⟨J,C⟩:=xe ((aA ts i).txt);obtain ⟨Q,ao⟩:=xe (((aA ts i).loc : Int));have c5 : Hid (tx ts i = J):=by show _ = _;rw [C,dx hi]
 rw [<- I] at hc;rw [<- C] at q0 q1 q2 q3 q4;rw [<- I,<- C,<- ao];clear I C ao;have A : Hid (ai [P] w (O.alloc (.cells #[.int .i64 N,.string J,.int .i64 Q] 45))):=((D.out.more (S':=[P]) (fun _ z=>by simp at z)).then_ S).alloc _;have x:=(RQ.of_block (S.block _ RQ.lt (by simp;omega))).alloc (.cells #[.int .i64 N,.string J,.int .i64 Q] 45);have t:=(RX.of_block (S.block _ RX.lt (by simp;omega))).alloc (.cells #[.int .i64 N,.string J,.int .i64 Q] 45);have H : Hid (ag (O.alloc (.cells #[.int .i64 N,.string J,.int .i64 Q] 45)) P tb o (i + 1) ts eT eV):=h1.but ((ai.refl ([] : List Nat) O).alloc _) (by simp) (by simp) (by simp);have an : Hid (OT B (O.alloc (.cells #[.int .i64 N,.string J,.int .i64 Q] 45)) (.slice m xs.length g) xs):=HO.out.low A.out (fun b z=>by rw [ms1 z];exact Or.inl hP);have cq:=x.cell (i:=0) (by omega);have cx:=t.cell (i:=0) (by omega);have ce:=H.out.ev;have c1 : w.heap.size <= O.heap.size:=Nat.le_trans D.out.size S.size;clear h1 S RQ RX HP D;go_wp2_with fail;obtain ⟨W3,T⟩:=xe (O.alloc (.cells #[.int .i64 N,.string J,.int .i64 Q] 45));rw [<- T] at A x t H an cq cx ce ⊢;clear T;have cn:=A.out.size;refine (a7.out (i + 1) W3 (.slice m xs.length g) xs H.out an.out (by omega) (by omega) (by omega)).mono ?_;intro e F E;obtain ⟨b4,E⟩:=E;have a1 : Hid (ai (P :: (Value.slice m xs.length g).ownBlock.toList) w F):=(A.out.more (S':=P :: (Value.slice m xs.length g).ownBlock.toList) (fun k z=>by rw [ms1 z];simp)).then_ b4
 cases ht : tyP true ts f (i + 1) with
 | none=>
   rw [ht] at E;have E : e = .panicked [{ v:=.iface eT eV,recovered:=false }]:=E;subst E;have p : Hid (bO ts (tyP true ts f) (i + 1) = none):=by show _ = _;unfold bO;rw [ht]
   clear ht b4;go_wp2;exact ⟨rfl,by rw [HR.out,p.out];exact ⟨a1.out,rfl⟩⟩
 | some r=>
   obtain ⟨l,j⟩:=r;rw [ht] at E;obtain ⟨v',R,rfl,O4,hl,P4,gr,nw⟩:=E
   have nX : w.heap.size + 1 ∉ P :: (Value.slice m xs.length g).ownBlock.toList:=fun z=>by
    rcases List.mem_cons.1 z with q | q
    ·omega
    ·have:=(HO.out.own.lt _ (by simpa using q)).2
     omega
   have nQ : w.heap.size ∉ P :: (Value.slice m xs.length g).ownBlock.toList:=fun z=>by
    rcases List.mem_cons.1 z with q | q
    ·omega
    ·have:=(HO.out.own.lt _ (by simpa using q)).2
     omega
   have n:=t.of_block (b4.block _ t.lt nX);have ab:=x.of_block (b4.block _ x.lt nQ);have HY : Hid (R.map Prod.fst = l):=hl;have W : Hid (tyP true ts f (i + 1) = some (l,j)):=ht
   have bs : Hid (∀ b,v'.ownBlock = some b -> (Value.slice m xs.length g).ownBlock = some b \/ w.heap.size <= b):=fun b e=>by
    rcases gr b e with q | q
    ·exact Or.inl q
    ·exact Or.inr (by omega)
   obtain ⟨d,c,U⟩:=ad O4.own;obtain ⟨y,V⟩:=xe ((xs ++ R).length);rw [<- V] at U;subst U;clear V;have bo:=n.cell (i:=0) (by omega);have a6:=n.frozen 0
   have u : (F.setCell ⟨w.heap.size + 1,0,none⟩ (.slice d y c)).rowIs (w.heap.size + 1) 34 1 (fun _=>.slice d y c):=(n.set 0 _).congr (fun k hk=>by
    match k,hk with
    | 0,_=>rfl)
   have G:=ab.setOther (a:=⟨w.heap.size + 1,0,none⟩) (by show w.heap.size ≠ w.heap.size + 1;omega) (.slice d y c);have a0:=G.cell (i:=0) (by omega);have ah:=u.cell (i:=0) (by omega);have L : ai [w.heap.size + 1] F (F.setCell ⟨w.heap.size + 1,0,none⟩ (.slice d y c)):=(ai.refl _ _).set (fun _=>by simp) 0 _;have K : Hid (ai (P :: (Value.slice m xs.length g).ownBlock.toList) w (F.setCell ⟨w.heap.size + 1,0,none⟩ (.slice d y c))):=a1.out.trans L (fun k z h=>by rw [ms1 z] at h;omega);have M : Hid (ag (F.setCell ⟨w.heap.size + 1,0,none⟩ (.slice d y c)) P tb o j ts eT eV):=P4.but L (by simp;omega) (by simp;omega) (by simp);have Y : Hid (OT B (F.setCell ⟨w.heap.size + 1,0,none⟩ (.slice d y c)) (.slice d y c) (xs ++ R)):=O4.box n (by decide) (by decide) _ _;have bx : Hid (∀ b,b ∈ aS R -> w.heap.size <= b):=fun b hb=>by have:=nw b hb;omega
   clear ht hl gr nw b4 O4 P4 n ab x t cq cx L nX nQ;go_wp2_with fail;obtain ⟨W5,Z⟩:=xe (F.setCell ⟨w.heap.size + 1,0,none⟩ (.slice d y c));rw [<- Z] at K M Y u G a0 ah ⊢;clear Z bo a6;cases hr : isT ts j bA
   case false=>
    have p : Hid (bO ts (tyP true ts f) (i + 1) = none):=by
     show _ = _;unfold bO;rw [W.out];show (if isT ts j bA = true then _ else none) = none;rw [hr];rfl
    refine (aP ⟨#[41]⟩ W5 M.out hr).mono ?_;rintro e w6 ⟨rfl,rfl⟩;clear hr;go_wp2;exact ⟨rfl,by rw [HR.out,p.out];exact ⟨K.out,rfl⟩⟩
   have p : Hid (bO ts (tyP true ts f) (i + 1) = some (l,j + 1)):=by
    show _ = _;unfold bO;rw [W.out];show (if isT ts j bA = true then _ else none) = _;rw [hr];rfl
   refine (cG ⟨#[41]⟩ W5 M.out hr).mono ?_;rintro e w6 ⟨rfl,h6,b6⟩;have ar:=u.of_block (b6.block _ u.lt (by simp;omega));have cM:=ar.cell (i:=0) (by omega);have bv : Hid (OT B w6 (.slice d y c) (xs ++ R)):=Y.out.low b6 (fun b z=>by rw [ms1 z];exact Or.inl hP);have a5 : Hid (ai (P :: (Value.slice m xs.length g).ownBlock.toList) w w6):=K.out.then_ (b6.more (fun k z=>by rw [ms1 z];simp));have be : Hid (ag w6 P tb o (j + 1) ts eT eV):=h6;clear hr b6 h6 u G a0 ah ar;go_wp2;go_ret;rw [HR.out,p.out];exact ⟨a5.out,_,R,rfl,bv.out,HY.out,be.out,bs.out,bx.out⟩
end Go.Proofs.YtihedobejcaapaaGreatDoor
