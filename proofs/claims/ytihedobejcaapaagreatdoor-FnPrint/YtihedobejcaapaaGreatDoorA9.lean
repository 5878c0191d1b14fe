/-
  PdE PdF
-/
import Derived.Test.YtihedobejcaapaaGreatDoorA8
import Derived.Deep.DeepCutAuto
set_option maxHeartbeats 2000000
set_option maxRecDepth 100000
namespace Go.Proofs.YtihedobejcaapaaGreatDoor
open Go.RowKit
theorem sP {B P tb o : Nat} {ts : List TK} {eT : TypeId} {eV : Value} {f : Nat} (hP : P < B) (htb : tb < B) {i : Nat} {w : World} {v : Value} {xs : List (EI × EPl)} (hps : ag w P tb o i ts eT eV) (hot : OE B w v xs) (hxi : xs.length <= i) (hB : B <= w.heap.size) (hc : cr ts i 1 = true) :
  Calls Tryz.prog 102 #[.pointer (some ⟨P,0,none⟩),v] w (iK B P tb o ts eT eV w v xs (atomP true ts (ay true ts f) i)):=by
 have T:=d4 hc;have HC:=hQx hc;rw [bT T] at hc;have HP:=hQx hps;obtain ⟨h,g,rfl⟩:=ad hot.own;have HO : Hid (OE B w (.slice h xs.length g) xs):=hot;have hn:=hps.tk.len;have bs:=hps.le;have R:=hps.tk.gd;clear hps hot;obtain ⟨M,a⟩:=xe ((w.alloc (.cells #[.pointer (some ⟨P,0,none⟩)] 69)).alloc (.cells #[.slice h xs.length g] 35));have l : Hid (ai [] w M):=by show ai [] w M;rw [a];exact ((ai.refl _ _).alloc _).alloc _
 have V : M.rowIs w.heap.size 69 1 (fun _=>.pointer (some ⟨P,0,none⟩)):=by rw [a];exact (aK _ _ _).alloc _
 have RX : M.rowIs (w.heap.size + 1) 35 1 (fun _=>.slice h xs.length g):=by
  have:=aK (w.alloc (.cells #[.pointer (some ⟨P,0,none⟩)] 69)) (.slice h xs.length g) 35;simp only [World.size_alloc] at this;rw [a];exact this
 obtain ⟨i0,ar,ah,Y,X⟩:=info_parts Tryz.infoEI;go_enter Tryz.func102,Tryz.ntmps102;go_wp2_with fail;rw [<- a];clear a;refine (bm M (HP.out.but l.out (by simp) (by simp) (by simp)) T).mono ?_;rintro e G ⟨rfl,h1,H⟩;unfold km;obtain ⟨D,p⟩:=xe ((aA ts i).cls);obtain ⟨u,q⟩:=xe ((aA ts i).txt);obtain ⟨E,O⟩:=xe (((aA ts i).loc : Int));have Z : Hid (tx ts i = u):=by show _ = _;rw [q,dx T]
 have a1 : Hid (D = cls u.toList):=by show _ = _;rw [p,q];exact R i T
 rw [<- p] at hc;rw [<- p,<- q,<- O];clear p q O R;have n : Hid (ai [P] w (G.alloc (.cells #[.int .i64 D,.string u,.int .i64 E] 45))):=((l.out.more (S':=[P]) (fun _ z=>by simp at z)).then_ H).alloc _;have C:=(V.of_block (H.block _ V.lt (by simp;omega))).alloc (.cells #[.int .i64 D,.string u,.int .i64 E] 45);have d:=(RX.of_block (H.block _ RX.lt (by simp;omega))).alloc (.cells #[.int .i64 D,.string u,.int .i64 E] 45);have A : Hid (ag (G.alloc (.cells #[.int .i64 D,.string u,.int .i64 E] 45)) P tb o (i + 1) ts eT eV):=h1.but ((ai.refl ([] : List Nat) G).alloc _) (by simp) (by simp) (by simp);have I : Hid (OE B (G.alloc (.cells #[.int .i64 D,.string u,.int .i64 E] 45)) (.slice h xs.length g) xs):=HO.out.low n.out (fun b z=>by rw [ms1 z];exact Or.inl hP);have cq:=C.cell (i:=0) (by omega);have cx:=d.cell (i:=0) (by omega);have ce:=A.out.ev;have bf : w.heap.size <= G.heap.size:=Nat.le_trans l.out.size H.size;clear h1 H V RX HP l;have qc : D = 1:=by simpa using hc
 subst qc;clear hc a1;go_wp2_with fail;obtain ⟨W3,J⟩:=xe (G.alloc (.cells #[.int .i64 1,.string u,.int .i64 E] 45));rw [<- J] at n C d A I cq cx ce ⊢;clear J;have CP:=um (i:=i) W3 A.out;rw [Z.out] at CP;refine CP.mono ?_;clear CP
 cases hp : bW true ts i with
 | none=>
   have HR : Hid (atomP true ts (ay true ts f) i = none):=by show _ = _;unfold atomP;rw [if_pos HC.out,hp]
   rintro e s ⟨F,rfl⟩;clear hp;go_wp2;exact ⟨rfl,by rw [HR.out];exact ⟨(n.out.then_ F).more (fun k z=>by rw [ms1 z];simp),rfl⟩⟩
 | some r=>
   obtain ⟨m,nn,j⟩:=r;have HR : Hid (atomP true ts (ay true ts f) i = some ([⟨3,0,m,nn,[],[]⟩],j)):=by show _ = _;unfold atomP;rw [if_pos HC.out,hp]
   rintro e s ⟨F,rfl,h4⟩;clear hp;have L:=d.of_block (F.block _ d.lt (by simp;omega));have bL:=L.cell (i:=0) (by omega);have N : Hid (OE B s (.slice h xs.length g) xs):=I.out.low F (fun b z=>by rw [ms1 z];exact Or.inl hP);have K : Hid (ai (P :: (Value.slice h xs.length g).ownBlock.toList) w s):=(n.out.then_ F).more (fun k z=>by rw [ms1 z];simp);have W : Hid (ag s P tb o j ts eT eV):=h4;have bx:=K.out.size;clear F h4 L d C cq cx ce;go_wp2_with (first | (at_builtin;refine wpList_append_lies _ rfl _ _ 35 rfl B 65 i0 _ 6 96 Tryz.underlying35 ar ah Y X rfl (by omega) (.slice h xs.length g) (xs.length) (eisC xs) rfl (N.out.own.alloc _) ⟨s.heap.size,0,none⟩ 1 1 [.int .i64 3,.int .i64 0,.string m,.string nn,.slice none 0 0,.slice none 0 0] rfl rfl (World.news_of_block (cs:=#[.int .i64 3,.int .i64 0,.string m,.string nn,.slice none 0 0,.slice none 0 0]) (t:=65) (fr:=(0,0)) (heap_alloc_new s _)) (by simp [Value.oneCell']) (by omega) (by unfold maxLen;omega) (by omega) (by simp;omega) (s.heap.size + 1) (by simp) ?_;intro gg Q w5 c S y a6))
   have an : Hid (iK B P tb o ts eT eV w (.slice h xs.length g) xs (some ([⟨3,0,m,nn,[],[]⟩],j)) (.returned (.slice (some ⟨gg,0,none⟩) (xs.length + 1) Q)) w5):=by
    have U:=iS B s (x:=⟨3,0,m,nn,[],[]⟩) rfl rfl;have z:=iw (ys:=[]) (x:=(⟨3,0,m,nn,[],[]⟩,im)) hP htb (v:=.slice h xs.length g) (by rw [List.append_nil];exact N.out) W.out K.out (fun b e=>Or.inl e) (by rw [List.append_nil];exact c) S y U.1 (fun b hb=>by rw [U.2] at hb;cases hb) (by rw [U.2];exact List.nodup_nil) (fun b hb=>by cases hb) (fun b hb=>by rw [U.2] at hb;cases hb);rw [List.append_nil] at z;exact z
   clear c S y;go_wp2;go_ret;rw [HR.out];exact an.out
theorem sw {B P tb o : Nat} {ts : List TK} {eT : TypeId} {eV : Value} {f : Nat} (hP : P < B) (htb : tb < B) {i : Nat} {w : World} {v : Value} {xs : List (EI × EPl)} (hps : ag w P tb o i ts eT eV) (hot : OE B w v xs) (hxi : xs.length <= i) (hB : B <= w.heap.size) (hc : cr ts i 1 = false) (h3 : cr ts i 3 = false) (hs : isT ts i fQ = true) :
  Calls Tryz.prog 102 #[.pointer (some ⟨P,0,none⟩),v] w (iK B P tb o ts eT eV w v xs (atomP true ts (ay true ts f) i)):=by
 have H:=aL hs
 have HR : Hid (atomP true ts (ay true ts f) i = some ([⟨2,1,e0,e0,[],[]⟩],i + 1)):=by
  show _ = _;unfold atomP;rw [hc,if_neg (by decide),h3,if_neg (by decide)];rw [if_pos hs]
 have q0 : ((aA ts i).txt.toList == [116,114,117,101]) = true:=aY hs;rw [bT H] at hc h3;clear hs;have V:=hQx hps;obtain ⟨p,n,rfl⟩:=ad hot.own;have X : Hid (OE B w (.slice p xs.length n) xs):=hot;have hn:=hps.tk.len;have ar:=hps.le;have F:=hps.tk.gd;clear hps hot;obtain ⟨C,a⟩:=xe ((w.alloc (.cells #[.pointer (some ⟨P,0,none⟩)] 69)).alloc (.cells #[.slice p xs.length n] 35));have g : Hid (ai [] w C):=by show ai [] w C;rw [a];exact ((ai.refl _ _).alloc _).alloc _
 have J : C.rowIs w.heap.size 69 1 (fun _=>.pointer (some ⟨P,0,none⟩)):=by rw [a];exact (aK _ _ _).alloc _
 have S : C.rowIs (w.heap.size + 1) 35 1 (fun _=>.slice p xs.length n):=by
  have:=aK (w.alloc (.cells #[.pointer (some ⟨P,0,none⟩)] 69)) (.slice p xs.length n) 35;simp only [World.size_alloc] at this;rw [a];exact this
 obtain ⟨i0,R,N,L,K⟩:=info_parts Tryz.infoEI;go_enter Tryz.func102,Tryz.ntmps102;go_wp2_with fail;rw [<- a];clear a;refine (bm C (V.out.but g.out (by simp) (by simp) (by simp)) H).mono ?_;rintro e j ⟨rfl,U,u⟩;unfold km;obtain ⟨m,h⟩:=xe ((aA ts i).cls);obtain ⟨l,d⟩:=xe ((aA ts i).txt);obtain ⟨r,D⟩:=xe (((aA ts i).loc : Int));have Z : Hid (tx ts i = l):=by show _ = _;rw [d,dx H]
 have T : Hid (m = cls l.toList):=by show _ = _;rw [h,d];exact F i H
 rw [<- h] at hc h3;rw [<- d] at q0;rw [<- h,<- d,<- D];clear h d D F;have s : Hid (ai [P] w (j.alloc (.cells #[.int .i64 m,.string l,.int .i64 r] 45))):=((g.out.more (S':=[P]) (fun _ z=>by simp at z)).then_ u).alloc _;have M:=(J.of_block (u.block _ J.lt (by simp;omega))).alloc (.cells #[.int .i64 m,.string l,.int .i64 r] 45);have Q:=(S.of_block (u.block _ S.lt (by simp;omega))).alloc (.cells #[.int .i64 m,.string l,.int .i64 r] 45);have y : Hid (ag (j.alloc (.cells #[.int .i64 m,.string l,.int .i64 r] 45)) P tb o (i + 1) ts eT eV):=U.but ((ai.refl ([] : List Nat) j).alloc _) (by simp) (by simp) (by simp);have A : Hid (OE B (j.alloc (.cells #[.int .i64 m,.string l,.int .i64 r] 45)) (.slice p xs.length n) xs):=X.out.low s.out (fun b z=>by rw [ms1 z];exact Or.inl hP);have cq:=M.cell (i:=0) (by omega);have cx:=Q.cell (i:=0) (by omega);have ce:=y.out.ev;have Y : w.heap.size <= j.heap.size:=Nat.le_trans g.out.size u.size;clear U u J S V g;clear T;go_wp2_with (first | (at_builtin;refine wpList_append_lies _ rfl _ _ 35 rfl B 65 i0 _ 6 96 Tryz.underlying35 R N L K rfl (by omega) (.slice p xs.length n) (xs.length) (eisC xs) rfl (A.out.own.alloc _) ⟨j.heap.size + 1,0,none⟩ 1 1 [.int .i64 2,.int .i64 1,.string ⟨#[]⟩,.string ⟨#[]⟩,.slice none 0 0,.slice none 0 0] rfl rfl (World.news_of_block (cs:=#[.int .i64 2,.int .i64 1,.string ⟨#[]⟩,.string ⟨#[]⟩,.slice none 0 0,.slice none 0 0]) (t:=65) (fr:=(0,0)) (by have:=heap_alloc_new (j.alloc (.cells #[.int .i64 m,.string l,.int .i64 r] 45)) (.cells #[.int .i64 2,.int .i64 1,.string ⟨#[]⟩,.string ⟨#[]⟩,.slice none 0 0,.slice none 0 0] 65);simpa using this)) (by simp [Value.oneCell']) (by omega) (by unfold maxLen;omega) (by omega) (by simp;omega) (j.heap.size + 1 + 1) (by simp) ?_;intro gg E w5 c G q W))
 have O : Hid (iK B P tb o ts eT eV w (.slice p xs.length n) xs (some ([⟨2,1,e0,e0,[],[]⟩],i + 1)) (.returned (.slice (some ⟨gg,0,none⟩) (xs.length + 1) E)) w5):=by
  have I:=iS B (j.alloc (.cells #[.int .i64 m,.string l,.int .i64 r] 45)) (x:=⟨2,1,e0,e0,[],[]⟩) rfl rfl;have z:=iw (ys:=[]) (x:=(⟨2,1,e0,e0,[],[]⟩,im)) hP htb (v:=.slice p xs.length n) (by rw [List.append_nil];exact A.out) y.out (s.out.more (fun k z=>by rw [ms1 z];simp)) (fun b e=>Or.inl e) (by rw [List.append_nil];exact c) G (by simpa using q) I.1 (fun b hb=>by rw [I.2] at hb;cases hb) (by rw [I.2];exact List.nodup_nil) (fun b hb=>by cases hb) (fun b hb=>by rw [I.2] at hb;cases hb);rw [List.append_nil] at z;exact z
 clear c G q;go_wp2;go_ret;rw [HR.out];exact O.out
theorem qg {B P tb o : Nat} {ts : List TK} {eT : TypeId} {eV : Value} {f : Nat} (hP : P < B) (htb : tb < B) {i : Nat} {w : World} {v : Value} {xs : List (EI × EPl)} (hps : ag w P tb o i ts eT eV) (hot : OE B w v xs) (hxi : xs.length <= i) (hB : B <= w.heap.size) (hc : cr ts i 1 = false) (h3 : cr ts i 3 = false) (hs : isT ts i eS = true) :
  Calls Tryz.prog 102 #[.pointer (some ⟨P,0,none⟩),v] w (iK B P tb o ts eT eV w v xs (atomP true ts (ay true ts f) i)):=by
 have H:=aL hs
 have HR : Hid (atomP true ts (ay true ts f) i = some ([fM 2],i + 1)):=by
  show _ = _;unfold atomP;rw [hc,if_neg (by decide),h3,if_neg (by decide)];rw [bi hs (s':=fQ) (by decide),if_neg (by decide)];rw [if_pos hs]
 have q0 : ((aA ts i).txt.toList == [116,114,117,101]) = false:=aM hs _ (by decide);have Z : ((aA ts i).txt.toList == [102,97,108,115,101]) = true:=aY hs;rw [bT H] at hc h3;clear hs;have V:=hQx hps;obtain ⟨p,n,rfl⟩:=ad hot.own;have X : Hid (OE B w (.slice p xs.length n) xs):=hot;have hn:=hps.tk.len;have a0:=hps.le;have F:=hps.tk.gd;clear hps hot;obtain ⟨C,a⟩:=xe ((w.alloc (.cells #[.pointer (some ⟨P,0,none⟩)] 69)).alloc (.cells #[.slice p xs.length n] 35));have g : Hid (ai [] w C):=by show ai [] w C;rw [a];exact ((ai.refl _ _).alloc _).alloc _
 have J : C.rowIs w.heap.size 69 1 (fun _=>.pointer (some ⟨P,0,none⟩)):=by rw [a];exact (aK _ _ _).alloc _
 have S : C.rowIs (w.heap.size + 1) 35 1 (fun _=>.slice p xs.length n):=by
  have:=aK (w.alloc (.cells #[.pointer (some ⟨P,0,none⟩)] 69)) (.slice p xs.length n) 35;simp only [World.size_alloc] at this;rw [a];exact this
 obtain ⟨i0,R,N,L,K⟩:=info_parts Tryz.infoEI;go_enter Tryz.func102,Tryz.ntmps102;go_wp2_with fail;rw [<- a];clear a;refine (bm C (V.out.but g.out (by simp) (by simp) (by simp)) H).mono ?_;rintro e j ⟨rfl,U,u⟩;unfold km;obtain ⟨m,h⟩:=xe ((aA ts i).cls);obtain ⟨l,d⟩:=xe ((aA ts i).txt);obtain ⟨r,D⟩:=xe (((aA ts i).loc : Int));have ab : Hid (tx ts i = l):=by show _ = _;rw [d,dx H]
 have T : Hid (m = cls l.toList):=by show _ = _;rw [h,d];exact F i H
 rw [<- h] at hc h3;rw [<- d] at q0 Z;rw [<- h,<- d,<- D];clear h d D F;have s : Hid (ai [P] w (j.alloc (.cells #[.int .i64 m,.string l,.int .i64 r] 45))):=((g.out.more (S':=[P]) (fun _ z=>by simp at z)).then_ u).alloc _;have M:=(J.of_block (u.block _ J.lt (by simp;omega))).alloc (.cells #[.int .i64 m,.string l,.int .i64 r] 45);have Q:=(S.of_block (u.block _ S.lt (by simp;omega))).alloc (.cells #[.int .i64 m,.string l,.int .i64 r] 45);have y : Hid (ag (j.alloc (.cells #[.int .i64 m,.string l,.int .i64 r] 45)) P tb o (i + 1) ts eT eV):=U.but ((ai.refl ([] : List Nat) j).alloc _) (by simp) (by simp) (by simp);have A : Hid (OE B (j.alloc (.cells #[.int .i64 m,.string l,.int .i64 r] 45)) (.slice p xs.length n) xs):=X.out.low s.out (fun b z=>by rw [ms1 z];exact Or.inl hP);have cq:=M.cell (i:=0) (by omega);have cx:=Q.cell (i:=0) (by omega);have ce:=y.out.ev;have Y : w.heap.size <= j.heap.size:=Nat.le_trans g.out.size u.size;clear U u J S V g;clear T;go_wp2_with (first | (at_builtin;refine wpList_append_lies _ rfl _ _ 35 rfl B 65 i0 _ 6 96 Tryz.underlying35 R N L K rfl (by omega) (.slice p xs.length n) (xs.length) (eisC xs) rfl (A.out.own.alloc _) ⟨j.heap.size + 1,0,none⟩ 1 1 [.int .i64 2,.int .i64 0,.string ⟨#[]⟩,.string ⟨#[]⟩,.slice none 0 0,.slice none 0 0] rfl rfl (World.news_of_block (cs:=#[.int .i64 2,.int .i64 0,.string ⟨#[]⟩,.string ⟨#[]⟩,.slice none 0 0,.slice none 0 0]) (t:=65) (fr:=(0,0)) (by have:=heap_alloc_new (j.alloc (.cells #[.int .i64 m,.string l,.int .i64 r] 45)) (.cells #[.int .i64 2,.int .i64 0,.string ⟨#[]⟩,.string ⟨#[]⟩,.slice none 0 0,.slice none 0 0] 65);simpa using this)) (by simp [Value.oneCell']) (by omega) (by unfold maxLen;omega) (by omega) (by simp;omega) (j.heap.size + 1 + 1) (by simp) ?_;intro gg E w5 c G q W))
 have O : Hid (iK B P tb o ts eT eV w (.slice p xs.length n) xs (some ([fM 2],i + 1)) (.returned (.slice (some ⟨gg,0,none⟩) (xs.length + 1) E)) w5):=by
  have I:=iS B (j.alloc (.cells #[.int .i64 m,.string l,.int .i64 r] 45)) (x:=fM 2) rfl rfl;have z:=iw (ys:=[]) (x:=(fM 2,im)) hP htb (v:=.slice p xs.length n) (by rw [List.append_nil];exact A.out) y.out (s.out.more (fun k z=>by rw [ms1 z];simp)) (fun b e=>Or.inl e) (by rw [List.append_nil];exact c) G (by simpa using q) I.1 (fun b hb=>by rw [I.2] at hb;cases hb) (by rw [I.2];exact List.nodup_nil) (fun b hb=>by cases hb) (fun b hb=>by rw [I.2] at hb;cases hb);rw [List.append_nil] at z;exact z
 clear c G q;go_wp2;go_ret;rw [HR.out];exact O.out
theorem sQ {B P tb o : Nat} {ts : List TK} {eT : TypeId} {eV : Value} {f : Nat} (hP : P < B) (_htb : tb < B) {i : Nat} {w : World} {v : Value} {xs : List (EI × EPl)} (hps : ag w P tb o i ts eT eV) (hot : OE B w v xs) (_hxi : xs.length <= i) (hB : B <= w.heap.size) (hc : cr ts i 1 = false) (h3 : cr ts i 3 = false) (n0 : isT ts i fQ = false) (n1 : isT ts i eS = false) (n2 : isT ts i dI = false) (n3 : isT ts i cQ = false) :
  Calls Tryz.prog 102 #[.pointer (some ⟨P,0,none⟩),v] w (iK B P tb o ts eT eV w v xs (atomP true ts (ay true ts f) i)):=by
 have Q : Hid (atomP true ts (ay true ts f) i = none):=by
  show _ = _;unfold atomP;rw [hc,h3,n0,n1,n2,n3];rfl
 by_cases m : i < ts.length
 case neg=>
  have A:=hQx hps;obtain ⟨h,g,rfl⟩:=ad hot.own;have N : Hid (OE B w (.slice h xs.length g) xs):=hot;have Y:=hps.tk.len;have M:=hps.le;have p:=hps.tk.gd;clear hps hot;obtain ⟨d,a⟩:=xe ((w.alloc (.cells #[.pointer (some ⟨P,0,none⟩)] 69)).alloc (.cells #[.slice h xs.length g] 35));have c : Hid (ai [] w d):=by show ai [] w d;rw [a];exact ((ai.refl _ _).alloc _).alloc _
  have y : d.rowIs w.heap.size 69 1 (fun _=>.pointer (some ⟨P,0,none⟩)):=by rw [a];exact (aK _ _ _).alloc _
  have C : d.rowIs (w.heap.size + 1) 35 1 (fun _=>.slice h xs.length g):=by
   have:=aK (w.alloc (.cells #[.pointer (some ⟨P,0,none⟩)] 69)) (.slice h xs.length g) 35;simp only [World.size_alloc] at this;rw [a];exact this
  obtain ⟨X,K,H,F,E⟩:=info_parts Tryz.infoEI;go_enter Tryz.func102,Tryz.ntmps102;go_wp2_with fail;rw [<- a];clear a;refine (gZ d (A.out.but c.out (by simp) (by simp) (by simp)) m).mono ?_;rintro e q ⟨rfl,n⟩;have I : Hid (ai (P :: (Value.slice h xs.length g).ownBlock.toList) w q):=((c.out.more (S':=[P]) (fun _ z=>by simp at z)).then_ n).more (fun k z=>by rw [ms1 z];simp);clear n;go_wp2;exact ⟨rfl,by rw [Q.out];exact ⟨I.out,rfl⟩⟩
 have Z : ((aA ts i).txt.toList == [116,114,117,101]) = false:=cB m n0;have S : ((aA ts i).txt.toList == [102,97,108,115,101]) = false:=cB m n1;have T : ((aA ts i).txt.toList == [123]) = false:=cB m n2;have U : ((aA ts i).txt.toList == [40]) = false:=cB m n3;rw [bT m] at hc h3;clear n0 n1 n2 n3;have A:=hQx hps;obtain ⟨h,g,rfl⟩:=ad hot.own;have N : Hid (OE B w (.slice h xs.length g) xs):=hot;have Y:=hps.tk.len;have M:=hps.le;have p:=hps.tk.gd;clear hps hot;obtain ⟨d,a⟩:=xe ((w.alloc (.cells #[.pointer (some ⟨P,0,none⟩)] 69)).alloc (.cells #[.slice h xs.length g] 35));have c : Hid (ai [] w d):=by show ai [] w d;rw [a];exact ((ai.refl _ _).alloc _).alloc _
 have y : d.rowIs w.heap.size 69 1 (fun _=>.pointer (some ⟨P,0,none⟩)):=by rw [a];exact (aK _ _ _).alloc _
 have C : d.rowIs (w.heap.size + 1) 35 1 (fun _=>.slice h xs.length g):=by
  have:=aK (w.alloc (.cells #[.pointer (some ⟨P,0,none⟩)] 69)) (.slice h xs.length g) 35;simp only [World.size_alloc] at this;rw [a];exact this
 obtain ⟨X,K,H,F,E⟩:=info_parts Tryz.infoEI;go_enter Tryz.func102,Tryz.ntmps102;go_wp2_with fail;rw [<- a];clear a;refine (bm d (A.out.but c.out (by simp) (by simp) (by simp)) m).mono ?_;rintro e q ⟨rfl,O,n⟩;unfold km;obtain ⟨s,l⟩:=xe ((aA ts i).cls);obtain ⟨r,j⟩:=xe ((aA ts i).txt);obtain ⟨u,x⟩:=xe (((aA ts i).loc : Int));have W : Hid (tx ts i = r):=by show _ = _;rw [j,dx m]
 have L : Hid (s = cls r.toList):=by show _ = _;rw [l,j];exact p i m
 rw [<- l] at hc h3;rw [<- j] at Z S T U;rw [<- l,<- j,<- x];clear l j x p;have t : Hid (ai [P] w (q.alloc (.cells #[.int .i64 s,.string r,.int .i64 u] 45))):=((c.out.more (S':=[P]) (fun _ z=>by simp at z)).then_ n).alloc _;have G:=(y.of_block (n.block _ y.lt (by simp;omega))).alloc (.cells #[.int .i64 s,.string r,.int .i64 u] 45);have J:=(C.of_block (n.block _ C.lt (by simp;omega))).alloc (.cells #[.int .i64 s,.string r,.int .i64 u] 45);have D : Hid (ag (q.alloc (.cells #[.int .i64 s,.string r,.int .i64 u] 45)) P tb o (i + 1) ts eT eV):=O.but ((ai.refl ([] : List Nat) q).alloc _) (by simp) (by simp) (by simp);have V : Hid (OE B (q.alloc (.cells #[.int .i64 s,.string r,.int .i64 u] 45)) (.slice h xs.length g) xs):=N.out.low t.out (fun b z=>by rw [ms1 z];exact Or.inl hP);have cq:=G.cell (i:=0) (by omega);have cx:=J.cell (i:=0) (by omega);have ce:=D.out.ev;have R : w.heap.size <= q.heap.size:=Nat.le_trans c.out.size n.size;clear O n y C A c;clear L;go_wp2;exact ⟨rfl,by rw [Q.out];exact ⟨t.out.more (fun k z=>by rw [ms1 z];simp),rfl⟩⟩
theorem vz {B P tb o : Nat} {ts : List TK} {eT : TypeId} {eV : Value} {f : Nat} (IH : lo B P tb o ts eT eV f) (hP : P < B) (htb : tb < B) {i : Nat} {w : World} {v : Value} {xs : List (EI × EPl)} (hps : ag w P tb o i ts eT eV) (hot : OE B w v xs) (hxi : xs.length <= i) (hB : B <= w.heap.size) (hf : ts.length - i < f + 1) (hc : cr ts i 1 = false) (h3 : cr ts i 3 = false) (hs : isT ts i cQ = true) :
  Calls Tryz.prog 102 #[.pointer (some ⟨P,0,none⟩),v] w (iK B P tb o ts eT eV w v xs (atomP true ts (ay true ts f) i)):=by
 have hi:=aL hs;have bb:=hQx IH;clear IH
 have HR : Hid (atomP true ts (ay true ts f) i = bO ts (ay true ts f) (i + 1)):=by
  show _ = _;unfold atomP;rw [hc,if_neg (by decide),h3,if_neg (by decide)];rw [bi hs (s':=fQ) (by decide),if_neg (by decide)];rw [bi hs (s':=eS) (by decide),if_neg (by decide)];rw [bi hs (s':=dI) (by decide),if_neg (by decide)];rw [if_pos hs]
 have q0 : ((aA ts i).txt.toList == [116,114,117,101]) = false:=aM hs _ (by decide);have q1 : ((aA ts i).txt.toList == [102,97,108,115,101]) = false:=aM hs _ (by decide);have q2 : ((aA ts i).txt.toList == [123]) = false:=aM hs _ (by decide);have q3 : ((aA ts i).txt.toList == [40]) = true:=aY hs;rw [bT hi] at hc h3;clear hs;have HP:=hQx hps;obtain ⟨m,g,rfl⟩:=ad hot.own;have HO : Hid (OE B w (.slice m xs.length g) xs):=hot;have hn:=hps.tk.len;have ct:=hps.le;have ah:=hps.tk.gd;clear hps hot;obtain ⟨Y,s⟩:=xe ((w.alloc (.cells #[.pointer (some ⟨P,0,none⟩)] 69)).alloc (.cells #[.slice m xs.length g] 35));have F : Hid (ai [] w Y):=by show ai [] w Y;rw [s];exact ((ai.refl _ _).alloc _).alloc _
 have RQ : Y.rowIs w.heap.size 69 1 (fun _=>.pointer (some ⟨P,0,none⟩)):=by rw [s];exact (aK _ _ _).alloc _
 have RX : Y.rowIs (w.heap.size + 1) 35 1 (fun _=>.slice m xs.length g):=by
  have:=aK (w.alloc (.cells #[.pointer (some ⟨P,0,none⟩)] 69)) (.slice m xs.length g) 35;simp only [World.size_alloc] at this;rw [s];exact this
 obtain ⟨i0,dd,c9,c5,cp⟩:=info_parts Tryz.infoEI;go_enter Tryz.func102,Tryz.ntmps102;go_wp2_with fail;rw [<- s];clear s;refine (bm Y (HP.out.but F.out (by simp) (by simp) (by simp)) hi).mono ?_;rintro e R ⟨rfl,h1,U⟩;unfold km;obtain ⟨M,D⟩:=xe ((aA ts i).cls);obtain ⟨G,u⟩:=xe ((aA ts i).txt);obtain ⟨S,a0⟩:=xe (((aA ts i).loc : Int));have c8 : Hid (tx ts i = G):=by show _ = _;rw [u,dx hi]
 have bs : Hid (M = cls G.toList):=by show _ = _;rw [D,u];exact ah i hi
 rw [<- D] at hc h3;rw [<- u] at q0 q1 q2 q3;rw [<- D,<- u,<- a0];clear D u a0 ah;have E : Hid (ai [P] w (R.alloc (.cells #[.int .i64 M,.string G,.int .i64 S] 45))):=((F.out.more (S':=[P]) (fun _ z=>by simp at z)).then_ U).alloc _;have y:=(RQ.of_block (U.block _ RQ.lt (by simp;omega))).alloc (.cells #[.int .i64 M,.string G,.int .i64 S] 45);have t:=(RX.of_block (U.block _ RX.lt (by simp;omega))).alloc (.cells #[.int .i64 M,.string G,.int .i64 S] 45);have J : Hid (ag (R.alloc (.cells #[.int .i64 M,.string G,.int .i64 S] 45)) P tb o (i + 1) ts eT eV):=h1.but ((ai.refl ([] : List Nat) R).alloc _) (by simp) (by simp) (by simp);have ar : Hid (OE B (R.alloc (.cells #[.int .i64 M,.string G,.int .i64 S] 45)) (.slice m xs.length g) xs):=HO.out.low E.out (fun b z=>by rw [ms1 z];exact Or.inl hP);have cq:=y.cell (i:=0) (by omega);have cx:=t.cell (i:=0) (by omega);have ce:=J.out.ev;have c3 : w.heap.size <= R.heap.size:=Nat.le_trans F.out.size U.size;clear h1 U RQ RX HP F;clear bs;go_wp2_with fail;obtain ⟨W3,V⟩:=xe (R.alloc (.cells #[.int .i64 M,.string G,.int .i64 S] 45));rw [<- V] at E y t J ar cq cx ce ⊢;clear V;have cs:=E.out.size;refine (bb.out (i + 1) W3 (.slice m xs.length g) xs J.out ar.out (by omega) (by omega) (by omega)).mono ?_;intro e H L;obtain ⟨b4,L⟩:=L;have a3 : Hid (ai (P :: (Value.slice m xs.length g).ownBlock.toList) w H):=(E.out.more (S':=P :: (Value.slice m xs.length g).ownBlock.toList) (fun k z=>by rw [ms1 z];simp)).then_ b4;obtain ⟨r,C⟩:=xe (ay true ts f (i + 1));have K : Hid (ay true ts f (i + 1) = r):=C.symm;rw [<- C] at L;clear C
 cases r with
 | none=>
   have L : e = .panicked [{ v:=.iface eT eV,recovered:=false }]:=L;subst L;have p : Hid (bO ts (ay true ts f) (i + 1) = none):=by show _ = _;unfold bO;rw [K.out]
   clear b4;go_wp2;exact ⟨rfl,by rw [HR.out,p.out];exact ⟨a3.out,rfl⟩⟩
 | some r=>
   obtain ⟨l,j⟩:=r;obtain ⟨v',T,rfl,O4,hl,P4,gr,nw⟩:=L
   have nX : w.heap.size + 1 ∉ P :: (Value.slice m xs.length g).ownBlock.toList:=fun z=>by
    rcases List.mem_cons.1 z with q | q
    ·omega
    ·have:=(HO.out.own.lt _ (by simpa using q)).2
     omega
   have nQ : w.heap.size ∉ P :: (Value.slice m xs.length g).ownBlock.toList:=fun z=>by
    rcases List.mem_cons.1 z with q | q
    ·omega
    ·have:=(HO.out.own.lt _ (by simpa using q)).2
     omega
   have n:=t.of_block (b4.block _ t.lt nX);have an:=y.of_block (b4.block _ y.lt nQ);have HY : Hid (T.map Prod.fst = l):=hl
   have bL : Hid (∀ b,v'.ownBlock = some b -> (Value.slice m xs.length g).ownBlock = some b \/ w.heap.size <= b):=fun b e=>by
    rcases gr b e with q | q
    ·exact Or.inl q
    ·exact Or.inr (by omega)
   obtain ⟨d,c,W⟩:=ad O4.own;obtain ⟨A,X⟩:=xe ((xs ++ T).length);rw [<- X] at W;subst W;clear X;have bv:=n.cell (i:=0) (by omega);have a9:=n.frozen 0
   have x : (H.setCell ⟨w.heap.size + 1,0,none⟩ (.slice d A c)).rowIs (w.heap.size + 1) 35 1 (fun _=>.slice d A c):=(n.set 0 _).congr (fun k hk=>by
    match k,hk with
    | 0,_=>rfl)
   have I:=an.setOther (a:=⟨w.heap.size + 1,0,none⟩) (by show w.heap.size ≠ w.heap.size + 1;omega) (.slice d A c);have a2:=I.cell (i:=0) (by omega);have ao:=x.cell (i:=0) (by omega);have O : ai [w.heap.size + 1] H (H.setCell ⟨w.heap.size + 1,0,none⟩ (.slice d A c)):=(ai.refl _ _).set (fun _=>by simp) 0 _;have N : Hid (ai (P :: (Value.slice m xs.length g).ownBlock.toList) w (H.setCell ⟨w.heap.size + 1,0,none⟩ (.slice d A c))):=a3.out.trans O (fun k z h=>by rw [ms1 z] at h;omega);have Q : Hid (ag (H.setCell ⟨w.heap.size + 1,0,none⟩ (.slice d A c)) P tb o j ts eT eV):=P4.but O (by simp;omega) (by simp;omega) (by simp);have Z : Hid (OE B (H.setCell ⟨w.heap.size + 1,0,none⟩ (.slice d A c)) (.slice d A c) (xs ++ T)):=O4.box n (by decide) (by decide) _ _;have b2 : Hid (∀ b,b ∈ bd T -> w.heap.size <= b):=fun b hb=>by have:=nw b hb;omega
   clear hl gr nw b4 O4 P4 n an y t cq cx O nX nQ;go_wp2_with fail;obtain ⟨W5,ab⟩:=xe (H.setCell ⟨w.heap.size + 1,0,none⟩ (.slice d A c));rw [<- ab] at N Q Z x I a2 ao ⊢;clear ab bv a9;cases C : isT ts j bA
   case false=>
    have p : Hid (bO ts (ay true ts f) (i + 1) = none):=by
     show _ = _;unfold bO;rw [K.out];show (if isT ts j bA = true then _ else none) = none;rw [C];rfl
    refine (aP ⟨#[41]⟩ W5 Q.out C).mono ?_;rintro e w6 ⟨rfl,rfl⟩;clear C;go_wp2;exact ⟨rfl,by rw [HR.out,p.out];exact ⟨N.out,rfl⟩⟩
   have p : Hid (bO ts (ay true ts f) (i + 1) = some (l,j + 1)):=by
    show _ = _;unfold bO;rw [K.out];show (if isT ts j bA = true then _ else none) = _;rw [C];rfl
   refine (cG ⟨#[41]⟩ W5 Q.out C).mono ?_;rintro e w6 ⟨rfl,h6,b6⟩;have a1:=x.of_block (b6.block _ x.lt (by simp;omega));have c1:=a1.cell (i:=0) (by omega);have b0 : Hid (OE B w6 (.slice d A c) (xs ++ T)):=Z.out.low b6 (fun b z=>by rw [ms1 z];exact Or.inl hP);have a8 : Hid (ai (P :: (Value.slice m xs.length g).ownBlock.toList) w w6):=N.out.then_ (b6.more (fun k z=>by rw [ms1 z];simp));have bn : Hid (ag w6 P tb o (j + 1) ts eT eV):=h6;clear C b6 h6 x I a2 ao a1;go_wp2;go_ret;rw [HR.out,p.out];exact ⟨a8.out,_,T,rfl,b0.out,HY.out,bn.out,bL.out,b2.out⟩
theorem tM {B P tb o : Nat} {ts : List TK} {eT : TypeId} {eV : Value} {f : Nat} (IH : lo B P tb o ts eT eV f) (hP : P < B) (htb : tb < B) {i : Nat} {w : World} {v : Value} {xs : List (EI × EPl)} (hps : ag w P tb o i ts eT eV) (hot : OE B w v xs) (hxi : xs.length <= i) (hB : B <= w.heap.size) (hf : ts.length - i < f + 1) (hc : cr ts i 1 = false) (h3 : cr ts i 3 = false) (hs : isT ts i dI = true) :
  Calls Tryz.prog 102 #[.pointer (some ⟨P,0,none⟩),v] w (iK B P tb o ts eT eV w v xs (atomP true ts (ay true ts f) i)):=by
 have hi:=aL hs;have a6:=hQx IH;clear IH
 have HR : Hid (∀ r,aH ts (ay true ts f) gh (i + 1) = r -> atomP true ts (ay true ts f) i = r.map fun z=>(z.1 ++ [⟨4,0,e0,e0,z.2.1,[]⟩],z.2.2)):=by
  show ∀ r,_;intro r U;unfold atomP;rw [hc,if_neg (by decide),h3,if_neg (by decide)];rw [bi hs (s':=fQ) (by decide),if_neg (by decide)];rw [bi hs (s':=eS) (by decide),if_neg (by decide)];rw [if_pos hs,U]
  cases r with
  | none=>rfl
  | some z=>rfl
 have q0 : ((aA ts i).txt.toList == [116,114,117,101]) = false:=aM hs _ (by decide);have q1 : ((aA ts i).txt.toList == [102,97,108,115,101]) = false:=aM hs _ (by decide);have q2 : ((aA ts i).txt.toList == [123]) = true:=aY hs;rw [bT hi] at hc h3;clear hs;have c7 : ∀ (fn : Fn) (first cap : Array Value) (w : World),(Instr.makeFunc fn first cap).run Tryz.prog w = .ok (.func fn first cap) w:=fun _ _ _ _=>rfl;have HP:=hQx hps;obtain ⟨s,n,rfl⟩:=ad hot.own;have HO : Hid (OE B w (.slice s xs.length n) xs):=hot;have hn:=hps.tk.len;have cz:=hps.le;have ar:=hps.tk.gd;clear hps hot;obtain ⟨W2,g⟩:=xe ((w.alloc (.cells #[.pointer (some ⟨P,0,none⟩)] 69)).alloc (.cells #[.slice s xs.length n] 35));have H : Hid (ai [] w W2):=by show ai [] w W2;rw [g];exact ((ai.refl _ _).alloc _).alloc _
 have RQ : W2.rowIs w.heap.size 69 1 (fun _=>.pointer (some ⟨P,0,none⟩)):=by rw [g];exact (aK _ _ _).alloc _
 have RX : W2.rowIs (w.heap.size + 1) 35 1 (fun _=>.slice s xs.length n):=by
  have:=aK (w.alloc (.cells #[.pointer (some ⟨P,0,none⟩)] 69)) (.slice s xs.length n) 35;simp only [World.size_alloc] at this;rw [g];exact this
 obtain ⟨i0,bL,bs,bp,a5⟩:=info_parts Tryz.infoEI;go_enter Tryz.func102,Tryz.ntmps102;go_wp2_with fail;rw [<- g];clear g;refine (bm W2 (HP.out.but H.out (by simp) (by simp) (by simp)) hi).mono ?_;rintro e T ⟨rfl,S,X⟩;unfold km;obtain ⟨Q,A⟩:=xe ((aA ts i).cls);obtain ⟨J,m⟩:=xe ((aA ts i).txt);obtain ⟨V,a2⟩:=xe (((aA ts i).loc : Int));have di : Hid (tx ts i = J):=by show _ = _;rw [m,dx hi]
 have bb : Hid (Q = cls J.toList):=by show _ = _;rw [A,m];exact ar i hi
 rw [<- A] at hc h3;rw [<- m] at q0 q1 q2;rw [<- A,<- m,<- a2];clear A m a2 ar;have E : Hid (ai [P] w (T.alloc (.cells #[.int .i64 Q,.string J,.int .i64 V] 45))):=((H.out.more (S':=[P]) (fun _ z=>by simp at z)).then_ X).alloc _;have I:=(RQ.of_block (X.block _ RQ.lt (by simp;omega))).alloc (.cells #[.int .i64 Q,.string J,.int .i64 V] 45);have G:=(RX.of_block (X.block _ RX.lt (by simp;omega))).alloc (.cells #[.int .i64 Q,.string J,.int .i64 V] 45);have N : Hid (ag (T.alloc (.cells #[.int .i64 Q,.string J,.int .i64 V] 45)) P tb o (i + 1) ts eT eV):=S.but ((ai.refl ([] : List Nat) T).alloc _) (by simp) (by simp) (by simp);have a1 : Hid (OE B (T.alloc (.cells #[.int .i64 Q,.string J,.int .i64 V] 45)) (.slice s xs.length n) xs):=HO.out.low E.out (fun b z=>by rw [ms1 z];exact Or.inl hP);have cq:=I.cell (i:=0) (by omega);have cx:=G.cell (i:=0) (by omega);have ce:=N.out.ev;have dd : w.heap.size <= T.heap.size:=Nat.le_trans H.out.size X.size;clear S X RQ RX HP H;clear bb;go_wp2_with fail;obtain ⟨W3,Y⟩:=xe (T.alloc (.cells #[.int .i64 Q,.string J,.int .i64 V] 45));rw [<- Y] at E I G N a1 cq cx ce ⊢;clear Y;have cp:=E.out.size;refine (uQ a6.out hP htb N.out I G a1.out (by omega) (by omega) (by omega) (by omega) (by omega)).mono ?_;intro e K O;obtain ⟨b4,O⟩:=O;obtain ⟨r,U⟩:=xe (aH ts (ay true ts f) gh (i + 1));have ah : Hid (atomP true ts (ay true ts f) i = r.map fun z=>(z.1 ++ [⟨4,0,e0,e0,z.2.1,[]⟩],z.2.2)):=HR.out r U.symm;have b2 : Hid (aH ts (ay true ts f) gh (i + 1) = r):=U.symm;rw [<- U] at O;clear U
 have R : Hid (ai (P :: (Value.slice s xs.length n).ownBlock.toList) w K):=E.out.more (S':=P :: (Value.slice s xs.length n).ownBlock.toList) (fun k z=>by rw [ms1 z];simp) |>.trans b4 (fun k z hk=>by
  simp only [List.mem_cons] at z ⊢;rcases z with z | z | z
  ·exact Or.inl z
  ·omega
  ·exact Or.inr z)
 cases r with
 | none=>
   have O : e = .panicked [{ v:=.iface eT eV,recovered:=false }]:=O;subst O;clear b4;go_wp2;exact ⟨rfl,by rw [ah.out];exact ⟨R.out,rfl⟩⟩
 | some r=>
   obtain ⟨l,C,j⟩:=r;obtain ⟨v',h,p,rfl,X4,O4,hl,P4,gr,nw,np,ni⟩:=O;obtain ⟨F,u,ab⟩:=ad O4.own;obtain ⟨D,y⟩:=xe ((xs ++ h).length);have M : Hid (D = (xs ++ h).length):=y;have c0:=fd (bS f) b2.out
   have c3 : D <= 2000:=by
    have : h.length = l.length:=by rw [<- hl,List.length_map]
    rw [y,lap];omega
   rw [<- y] at ab;subst ab;clear y;have c4:=X4.cell (i:=0) (by omega);have bv : Hid (OE B K (.slice F D u) (xs ++ h)):=O4;have bf : Hid (ag K P tb o j ts eT eV):=P4;have HY : Hid (h.map Prod.fst = l):=hl
   have bo : Hid (∀ b,(Value.slice F D u).ownBlock = some b -> (Value.slice s xs.length n).ownBlock = some b \/ w.heap.size <= b):=fun b e=>by
    rcases gr b e with q | q
    ·exact Or.inl q
    ·exact Or.inr (by omega)
   have b0 : Hid (∀ b,b ∈ bd h -> w.heap.size <= b):=fun b hb=>by have:=nw b hb;omega
   have W : Hid (aD W3.heap.size K C p):=np;have bn : Hid (C ≠ [] -> p.b ∉ bd (xs ++ h)):=ni;have c2:=R.out.size;have be : Hid (K.ownsRow B 65 6 (.slice F D u) D (eisC (xs ++ h))):=by have z:=O4.own;rw [<- M.out] at z;exact z
   have a0 : Hid (∀ b,b ∈ jt ((⟨4,0,e0,e0,C,[]⟩ : EI),(⟨p,.slice none 0 0,[]⟩ : EPl)) -> C ≠ [] /\ p.b = b):=fun b hb=>by
    rcases mem_eiB hb with z | z | z
    ·exact z
    ·cases z
    ·cases z
   clear b4 X4 O4 hl P4 gr nw np ni G I cq cx ce;go_wp2_with (first | (at_builtin;refine wpList_append_lies _ rfl _ _ 35 rfl B 65 i0 _ 6 96 Tryz.underlying35 bL bs bp a5 rfl (by omega) (.slice F D u) (D) (eisC (xs ++ h)) rfl (be.out.alloc _) ⟨K.heap.size,0,none⟩ 1 1 [.int .i64 4,.int .i64 0,.string ⟨#[]⟩,.string ⟨#[]⟩,.slice p.a C.length p.c,.slice none 0 0] rfl rfl (World.news_of_block (cs:=#[.int .i64 4,.int .i64 0,.string ⟨#[]⟩,.string ⟨#[]⟩,.slice p.a C.length p.c,.slice none 0 0]) (t:=65) (fr:=(0,0)) (heap_alloc_new K _)) (by simp [Value.oneCell']) (by omega) (by unfold maxLen;omega) (by omega) (by simp;omega) (K.heap.size + 1) (by simp) ?_;intro gg Z w5 d an L b8))
   have a7 : Hid (iK B P tb o ts eT eV w (.slice s xs.length n) xs (some (l ++ [⟨4,0,e0,e0,C,[]⟩],j)) (.returned (.slice (some ⟨gg,0,none⟩) (D + 1) Z)) w5):=by
    have z:=iw (ys:=h) (x:=(⟨4,0,e0,e0,C,[]⟩,⟨p,.slice none 0 0,[]⟩)) hP htb (v:=.slice s xs.length n) bv.out bf.out R.out bo.out (by rw [<- M.out];exact d) an L ⟨W.out.base (by omega),OT.nil _ _,rfl⟩ (fun b hb=>by
      obtain ⟨S,h2⟩:=a0.out b hb
      rw [<- h2];exact bn.out S) (by
      unfold jt;show ((if C = [] then [] else [p.b]) ++ ([] ++ [])).Nodup
      split <;> simp) b0.out (fun b hb=>by
      obtain ⟨S,h2⟩:=a0.out b hb;have:=(W.out.lt S).1;omega)
    rw [<- M.out,HY.out] at z;exact z
   clear d an L;go_wp2;go_ret;rw [ah.out];exact a7.out
def iB (ts : List TK) : Prop:=∀ (i : Nat) (w : World),i < ts.length -> num (tx ts i).toList = true -> (tx ts i).size <= 1000 -> Calls Tryz.prog 112 #[.string (tx ts i)] w fun e w'=>e = .returned (.int .i64 (ib (tx ts i).data.toList)) /\ Bw w w'
theorem wa {B P tb o : Nat} {ts : List TK} {eT : TypeId} {eV : Value} {f : Nat} (HN : iB ts) (hP : P < B) (htb : tb < B) {i : Nat} {w : World} {v : Value} {xs : List (EI × EPl)} (hps : ag w P tb o i ts eT eV) (hot : OE B w v xs) (hxi : xs.length <= i) (hB : B <= w.heap.size) (h3 : cr ts i 3 = true) :
  Calls Tryz.prog 102 #[.pointer (some ⟨P,0,none⟩),v] w (iK B P tb o ts eT eV w v xs (atomP true ts (ay true ts f) i)):=by
 have H:=d4 h3
 have hc : cr ts i 1 = false:=by
  rw [bT H] at h3 ⊢;have e : (aA ts i).cls = 3:=by simpa using h3
  rw [e];rfl
 have HR : Hid (atomP true ts (ay true ts f) i = some ([⟨1,ib (tx ts i).data.toList,e0,e0,[],[]⟩],i + 1)):=by
  show _ = _;unfold atomP;rw [hc,if_neg (by decide),if_pos h3]
 have K:=hps.tk.sz i H;rw [bT H] at hc h3;have a3:=hQx HN;clear HN;have HP:=hQx hps;obtain ⟨r,q,rfl⟩:=ad hot.own;have HO : Hid (OE B w (.slice r xs.length q) xs):=hot;have hn:=hps.tk.len;have b6:=hps.le;have Y:=hps.tk.gd;clear hps hot;obtain ⟨X,m⟩:=xe ((w.alloc (.cells #[.pointer (some ⟨P,0,none⟩)] 69)).alloc (.cells #[.slice r xs.length q] 35));have A : Hid (ai [] w X):=by show ai [] w X;rw [m];exact ((ai.refl _ _).alloc _).alloc _
 have RQ : X.rowIs w.heap.size 69 1 (fun _=>.pointer (some ⟨P,0,none⟩)):=by rw [m];exact (aK _ _ _).alloc _
 have RX : X.rowIs (w.heap.size + 1) 35 1 (fun _=>.slice r xs.length q):=by
  have:=aK (w.alloc (.cells #[.pointer (some ⟨P,0,none⟩)] 69)) (.slice r xs.length q) 35;simp only [World.size_alloc] at this;rw [m];exact this
 obtain ⟨i0,bo,bn,bf,a4⟩:=info_parts Tryz.infoEI;go_enter Tryz.func102,Tryz.ntmps102;go_wp2_with fail;rw [<- m];clear m;refine (bm X (HP.out.but A.out (by simp) (by simp) (by simp)) H).mono ?_;rintro e c ⟨rfl,h1,S⟩;unfold km;obtain ⟨M,s⟩:=xe ((aA ts i).cls);obtain ⟨d,n⟩:=xe ((aA ts i).txt);obtain ⟨u,ab⟩:=xe (((aA ts i).loc : Int));have ah : Hid (tx ts i = d):=by show _ = _;rw [n,dx H]
 have Z : Hid (M = cls d.toList):=by show _ = _;rw [s,n];exact Y i H
 rw [<- s] at hc h3;rw [<- n] at K;rw [<- s,<- n,<- ab];clear s n ab Y;have N : Hid (ai [P] w (c.alloc (.cells #[.int .i64 M,.string d,.int .i64 u] 45))):=((A.out.more (S':=[P]) (fun _ z=>by simp at z)).then_ S).alloc _;have an:=(RQ.of_block (S.block _ RQ.lt (by simp;omega))).alloc (.cells #[.int .i64 M,.string d,.int .i64 u] 45);have Q:=(RX.of_block (S.block _ RX.lt (by simp;omega))).alloc (.cells #[.int .i64 M,.string d,.int .i64 u] 45);have L : Hid (ag (c.alloc (.cells #[.int .i64 M,.string d,.int .i64 u] 45)) P tb o (i + 1) ts eT eV):=h1.but ((ai.refl ([] : List Nat) c).alloc _) (by simp) (by simp) (by simp);have y : Hid (OE B (c.alloc (.cells #[.int .i64 M,.string d,.int .i64 u] 45)) (.slice r xs.length q) xs):=HO.out.low N.out (fun b z=>by rw [ms1 z];exact Or.inl hP);have cq:=an.cell (i:=0) (by omega);have cx:=Q.cell (i:=0) (by omega);have ce:=L.out.ev;have cc : w.heap.size <= c.heap.size:=Nat.le_trans A.out.size S.size;clear h1 S RQ RX HP A;have qc : M = 3:=by simpa using h3
 subst qc
 have F : num d.toList = true:=by
  have h:=Z.out;unfold cls at h
  cases e : num d.toList with
  | true=>rfl
  | false=>
    rw [e] at h
    split at h
    ·cases h
    ·split at h
     ·cases h
     ·rw [if_neg (by decide)] at h
      split at h <;> cases h
 clear hc h3 Z;obtain ⟨R,O⟩:=xe (ib d.data.toList);have a8 : Hid (ib (tx ts i).data.toList = R):=by show _ = _;rw [ah.out,O]
 have CN : Hid (∀ W : World,Calls Tryz.prog 112 #[.string d] W fun e w'=>e = .returned (.int .i64 R) /\ Bw W w'):=fun W=>by have z:=a3.out i W H;rw [ah.out] at z;rw [O];exact z F K
 clear O F K;have a2:=ej c (.int .i64 3) (.string d) (.int .i64 u) 45;have ct : (c.alloc (.cells #[.int .i64 3,.string d,.int .i64 u] 45)).cell? ⟨c.heap.size,1,none⟩ = some (.string d):=a2.cell (i:=1) (by omega);have V : (c.alloc (.cells #[.int .i64 3,.string d,.int .i64 u] 45)).heap.size = c.heap.size + 1:=by simp
 have b7 : w.heap.size + 1 < c.heap.size + 1:=by have:=Q.lt;rw [V] at this;exact this
 go_wp2;obtain ⟨W3,T⟩:=xe (c.alloc (.cells #[.int .i64 3,.string d,.int .i64 u] 45));rw [<- T] at N an Q L y cq cx ce ct V ⊢;clear T
 go_region_held3 (fun w'=>w'.cell? ⟨w.heap.size + 1,0,none⟩ = some (.slice r xs.length q) /\ w'.cell? ⟨c.heap.size,1,none⟩ = some (.string d)) (go_keep)
  (first
   | (go_at_call 112;refine (CN.out _).mono ?_;rintro e C ⟨rfl,g⟩;have y0:=(g.cell (p:=⟨w.heap.size + 1,0,none⟩) (by simp;omega)).trans cx;have y1:=(g.cell (p:=⟨c.heap.size,1,none⟩) (by simp;omega)).trans ct;have D : Bw W3 C:=⟨g.os,g.tape,g.output,g.size,g.block⟩;have ch : W3.heap.size <= C.heap.size:=D.size;have E : C.ownsRow B 65 6 (.slice r xs.length q) xs.length (eisC xs):=aG y.out.own (fun j e=>D.block j (y.out.own.lt j e.symm).2))
   | (refine step_append_lies _ (by rfl) _ _ _ (by rfl) B 65 i0 _ 6 96 Tryz.underlying35 bo bn bf a4 rfl (by omega) (.slice r xs.length q) xs.length (eisC xs) (by rfl) (by exact E.alloc _) ⟨C.heap.size,0,none⟩ 1 1 [.int .i64 1,.int .i64 R,.string ⟨#[]⟩,.string ⟨#[]⟩,.slice none 0 0,.slice none 0 0] (by rfl) (by rfl) (World.news_of_block (cs:=#[.int .i64 1,.int .i64 R,.string ⟨#[]⟩,.string ⟨#[]⟩,.slice none 0 0,.slice none 0 0]) (t:=65) (fr:=(0,0)) (heap_alloc_new C _)) (by simp [Value.oneCell']) (by omega) (by unfold maxLen;omega) (by omega) (by simp;omega) (C.heap.size + 1) (by simp) ?_;intro gg U w5 l J G bL;have bx : ∀ k,w.heap.size <= k -> k < W3.heap.size -> w5.heap[k]? = C.heap[k]?:=(fun k h1 h2=>(J.block _ (by simp;omega) (fun e=>by have:=(HO.out.own.lt _ e.symm).2;omega)).trans (Below.heap_alloc _ _ _ (by omega)));have be:=(World.cell?_of_block (a:=⟨w.heap.size + 1,0,none⟩) (bx _ (by show w.heap.size <= w.heap.size + 1;omega) (by show w.heap.size + 1 < _;omega))).trans y0;have bb:=(World.cell?_of_block (a:=⟨c.heap.size,1,none⟩) (bx _ (by show w.heap.size <= c.heap.size;omega) (by show c.heap.size < _;omega))).trans y1))
 all_goals
  have a5 : Hid (iK B P tb o ts eT eV w (.slice r xs.length q) xs (some ([⟨1,R,e0,e0,[],[]⟩],i + 1)) (.returned (.slice (some ⟨gg,0,none⟩) (xs.length + 1) U)) w5):=by
   have nb:=iS B C (x:=⟨1,R,e0,e0,[],[]⟩) rfl rfl;have I : ai [] W3 C:=⟨D.os,D.tape,D.output,D.size,fun k hk _=>D.block k hk⟩;have z:=iw (ys:=[]) (x:=(⟨1,R,e0,e0,[],[]⟩,im)) hP htb (v:=.slice r xs.length q) (by rw [List.append_nil];exact y.out.low I (fun b z=>by simp at z)) (L.out.but I (by simp) (by simp) (by simp)) ((N.out.trans I (fun k z _=>by simp at z)).more (fun k z=>by rw [ms1 z];simp)) (fun b e=>Or.inl e) (by rw [List.append_nil];exact l) J G nb.1 (fun b hb=>by rw [nb.2] at hb;cases hb) (by rw [nb.2];exact List.nodup_nil) (fun b hb=>by cases hb) (fun b hb=>by rw [nb.2] at hb;cases hb);rw [List.append_nil] at z;exact z
  clear l J G bx be bb y0 y1 D g E;go_wp2;go_ret;rw [HR.out,a8.out]
  first | exact a5.out | trace_state
theorem A7 {B P tb o : Nat} {ts : List TK} {eT : TypeId} {eV : Value} {f : Nat} (HN : iB ts) (IH : lo B P tb o ts eT eV f) (hP : P < B) (htb : tb < B) {i : Nat} {w : World} {v : Value} {xs : List (EI × EPl)} (hps : ag w P tb o i ts eT eV) (hot : OE B w v xs) (hxi : xs.length <= i) (hB : B <= w.heap.size) (hf : ts.length - i < f + 1) :
  Calls Tryz.prog 102 #[.pointer (some ⟨P,0,none⟩),v] w (iK B P tb o ts eT eV w v xs (atomP true ts (ay true ts f) i)):=by
 cases hc : cr ts i 1 with
 | true=>exact sP hP htb hps hot hxi hB hc
 | false=>
   cases h3 : cr ts i 3 with
   | true=>exact wa HN hP htb hps hot hxi hB h3
   | false=>
     cases n0 : isT ts i fQ with
     | true=>exact sw hP htb hps hot hxi hB hc h3 n0
     | false=>
       cases n1 : isT ts i eS with
       | true=>exact qg hP htb hps hot hxi hB hc h3 n1
       | false=>
         cases n2 : isT ts i dI with
         | true=>exact tM IH hP htb hps hot hxi hB hf hc h3 n2
         | false=>
           cases n3 : isT ts i cQ with
           | true=>exact vz IH hP htb hps hot hxi hB hf hc h3 n3
           | false=>exact sQ hP htb hps hot hxi hB hc h3 n0 n1 n2 n3
end Go.Proofs.YtihedobejcaapaaGreatDoor
