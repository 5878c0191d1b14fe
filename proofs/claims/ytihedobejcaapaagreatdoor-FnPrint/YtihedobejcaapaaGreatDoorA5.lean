/-
  PbA PbB fH PaB PcA
-/
import Derived.Test.YtihedobejcaapaaGreatDoorA1
import Derived.Test.YtihedobejcaapaaGreatDoorA3
import Derived.Deep.RegionHeld3
import Derived.Test.YtihedobejcaapaaGreatDoorA4
import Derived.Maps.OwnSet
import Derived.DeepKeys4
import Derived.MapViews
import Derived.ProofKit
import Derived.Deep.AppendLies
import Derived.Deep.RegionLaw
import Derived.StringKeys
set_option maxHeartbeats 4000000
set_option maxRecDepth 100000
namespace Go.Proofs.YtihedobejcaapaaGreatDoor
open Go.RowKit
def aA (l : List TK) (i : Nat) : TK:=l.getD i ⟨0,ByteArray.empty,0⟩
structure ai (S : List Nat) (w w' : World) : Prop where
 os : w'.os = w.os
 tape : w'.tape = w.tape
 output : w'.output = w.output
 size : w.heap.size <= w'.heap.size
 block : ∀ k,k < w.heap.size -> k ∉ S -> w'.heap[k]? = w.heap[k]?
theorem ai.refl (S : List Nat) (w : World) : ai S w w:=⟨rfl,rfl,rfl,nlr _,fun _ _ _=>rfl⟩
theorem ai.trans {S S' : List Nat} {w w1 w2 : World} (h : ai S w w1) (h' : ai S' w1 w2) (hs : ∀ k,k ∈ S' -> k < w.heap.size -> k ∈ S) : ai S w w2:=
 ⟨h'.os.trans h.os,h'.tape.trans h.tape,h'.output.trans h.output,Nat.le_trans h.size h'.size,fun k hk hn=>(h'.block k (Nat.lt_of_lt_of_le hk h.size) (fun z=>hn (hs k z hk))).trans (h.block k hk hn)⟩
theorem ai.then_ {S : List Nat} {w w1 w2 : World} (h : ai S w w1) (h' : ai S w1 w2) : ai S w w2:=h.trans h' (fun _ z _=>z)
theorem ai.below {S : List Nat} {w w1 w2 : World} (h : ai S w w1) (hb : Bw w1 w2) : ai S w w2:=
 ⟨hb.os.trans h.os,hb.tape.trans h.tape,hb.output.trans h.output,Nat.le_trans h.size hb.size,fun k hk hn=>(hb.block k (Nat.lt_of_lt_of_le hk h.size)).trans (h.block k hk hn)⟩
theorem ai.set {S : List Nat} {w w1 : World} (h : ai S w w1) {b : Nat} (hb : b < w.heap.size -> b ∈ S) (o : Nat) (v : Value) : ai S w (w1.setCell ⟨b,o,none⟩ v):=
 ⟨h.os,h.tape,h.output,by rw [World.size_setCell];exact h.size,fun k hk hn=>(Below.heap_setCell _ _ _ _ (by show k ≠ b;rintro rfl;exact hn (hb hk))).trans (h.block k hk hn)⟩
theorem ai.alloc {S : List Nat} {w w1 : World} (h : ai S w w1) (o : Obj) : ai S w (w1.alloc o):=h.below (bel1 _ _)
theorem ai.more {S S' : List Nat} {w w1 : World} (h : ai S w w1) (hs : ∀ k,k ∈ S -> k ∈ S') : ai S' w w1:=⟨h.os,h.tape,h.output,h.size,fun k hk hn=>h.block k hk (fun z=>hn (hs k z))⟩
theorem ai.cell {S : List Nat} {w w1 : World} (h : ai S w w1) {b o : Nat} {v : Value} (hc : w.cell? ⟨b,o,none⟩ = some v) (hb : b ∉ S) : w1.cell? ⟨b,o,none⟩ = some v:=
 (World.cell?_of_block (h.block b (blt hc) hb)).trans hc
structure dq (w : World) (tb o : Nat) (ts : List TK) : Prop where
 c0 : ∀ j,j < ts.length -> w.cell? ⟨tb,o + j * 3,none⟩ = some (.int .i64 (aA ts j).cls)
 c1 : ∀ j,j < ts.length -> w.cell? ⟨tb,o + j * 3 + 1,none⟩ = some (.string (aA ts j).txt)
 c2 : ∀ j,j < ts.length -> w.cell? ⟨tb,o + j * 3 + 2,none⟩ = some (.int .i64 ((aA ts j).loc : Int))
 len : ts.length <= 1000
 sz : ∀ j,j < ts.length -> (aA ts j).txt.size <= 1000
 gd : ∀ j,j < ts.length -> (aA ts j).cls = cls (aA ts j).txt.toList
theorem dq.but {S : List Nat} {w w1 : World} {tb o : Nat} {ts : List TK} (h : dq w tb o ts) (hb : ai S w w1) (hn : tb ∉ S) : dq w1 tb o ts:=
 ⟨fun j hj=>hb.cell (h.c0 j hj) hn,fun j hj=>hb.cell (h.c1 j hj) hn,fun j hj=>hb.cell (h.c2 j hj) hn,h.len,h.sz,h.gd⟩
structure ag (w : World) (P tb o i : Nat) (ts : List TK) (eT : TypeId) (eV : Value) : Prop where
 box : ∃ ao c,w.rowIs P 71 1 (fun _=>.slice ao (ts.length - i) c) /\ (i < ts.length -> ao = some ⟨tb,o + i * 3,none⟩) /\ ts.length - i <= c
 le : i <= ts.length
 tk : dq w tb o ts
 ne : P ≠ tb
 pos : P ≠ 0
 ev : w.cell? ⟨0,0,none⟩ = some (.iface eT eV)
theorem ag.but {S : List Nat} {w w1 : World} {P tb o i : Nat} {ts : List TK} {eT : TypeId} {eV : Value} (h : ag w P tb o i ts eT eV) (hb : ai S w w1) (hP : P ∉ S) (ht : tb ∉ S) (h0 : 0 ∉ S) : ag w1 P tb o i ts eT eV:=by
 obtain ⟨b,c,a,r⟩:=h.box;exact ⟨⟨b,c,a.of_block (hb.block P a.lt hP),r⟩,h.le,h.tk.but hb ht,h.ne,h.pos,hb.cell h.ev h0⟩
theorem ag.step {w w1 : World} {P tb o i j : Nat} {ts : List TK} {eT : TypeId} {eV : Value} (h : ag w P tb o i ts eT eV) (hb : ai [P] w w1) (hP : w1.heap[P]? = w.heap[P]?) {ao : Option Addr} {c : Nat} (hj : j <= ts.length) (ha : j < ts.length -> ao = some ⟨tb,o + j * 3,none⟩) (hc : ts.length - j <= c) :
  ag (w1.setCell ⟨P,0,none⟩ (.slice ao (ts.length - j) c)) P tb o j ts eT eV:=by
 obtain ⟨d,g,f,_⟩:=h.box;have b:=f.of_block hP;have a : ai [P] w (w1.setCell ⟨P,0,none⟩ (.slice ao (ts.length - j) c)):=hb.set (fun _=>by simp) 0 _
 refine ⟨⟨ao,c,(b.set 0 _).congr (fun k hk=>by
  match k,hk with
  | 0,_=>rfl),ha,hc⟩,hj,h.tk.but a (by simp;exact fun e=>h.ne e.symm),h.ne,h.pos,a.cell h.ev (by simp;exact fun e=>h.pos e.symm)⟩
def km (t : TK) : Value:=.agg #[.int .i64 t.cls,.string t.txt,.int .i64 (t.loc : Int)]
theorem bm {P tb o i : Nat} {ts : List TK} {eT : TypeId} {eV : Value} (w : World) (h : ag w P tb o i ts eT eV) (hi : i < ts.length) :
  Calls Tryz.prog 59 #[.pointer (some ⟨P,0,none⟩)] w fun e w'=>e = .returned (km (aA ts i)) /\ ag w' P tb o (i + 1) ts eT eV /\ ai [P] w w':=by
 have L:=hQx h;obtain ⟨a,c,k,G,O⟩:=h.box;have M:=G hi;subst M;have t:=h.tk.c0 i hi;have E:=h.tk.c1 i hi;have C:=h.tk.c2 i hi;have Y:=h.tk.len;obtain ⟨m,D⟩:=xe (ts.length - i);have K : Hid (m = ts.length - i):=D;rw [<- D] at k O;have H:=k.cell (i:=0) (by omega);have R:=k.frozen 0;have Q : 0 < m:=by omega
 have X : ((m : Int) == 0) = false:=bn2 (by omega);have g:=blt t;have N:=k.lt;obtain ⟨s,b⟩:=xe ((aA ts i).cls);obtain ⟨u,f⟩:=xe ((aA ts i).txt);obtain ⟨r,d⟩:=xe (((aA ts i).loc : Int));have I : Hid (km (aA ts i) = .agg #[.int .i64 s,.string u,.int .i64 r]):=by show km _ = _;rw [b,f,d];rfl
 rw [<- b] at t;rw [<- f] at E;rw [<- d] at C;have n:=bel1 w (.cells #[.int .i64 0,.string ⟨#[]⟩,.int .i64 0] 45);have U:=(n.cell (p:=⟨tb,o + i * 3,none⟩) g).trans t;have W:=(n.cell (p:=⟨tb,o + i * 3 + 1,none⟩) g).trans E;have Z:=(n.cell (p:=⟨tb,o + i * 3 + 2,none⟩) g).trans C;have V:=(n.cell (p:=⟨P,0,none⟩) N).trans H;have B : ((w.alloc (.cells #[.int .i64 0,.string ⟨#[]⟩,.int .i64 0] 45)).alloc (.cells #[.int .i64 s,.string u,.int .i64 r] 45)).rowIs P 71 1 (fun _=>.slice (some ⟨tb,o + i * 3,none⟩) m c):=(k.alloc _).alloc _;have T:=B.cell (i:=0) (by omega);have S:=B.frozen 0;clear h G D b f d n B k t E C H R;go_enter Tryz.func59,Tryz.ntmps59;have J : Hid (ts.length - (i + 1) = m - 1):=by show _ = _;rw [K.out];omega
 have q : Hid (∀ (a : Option Addr) (c' : Nat) (x y : Obj),(i + 1 < ts.length -> a = some ⟨tb,o + i * 3 + 3,none⟩) -> m - 1 <= c' -> ag (((w.setCell ⟨P,0,none⟩ (.slice a (m - 1) c')).alloc x).alloc y) P tb o (i + 1) ts eT eV /\ ai [P] w (((w.setCell ⟨P,0,none⟩ (.slice a (m - 1) c')).alloc x).alloc y)):=fun a c' x y h1 h2=>by
  have F:=L.out.step (ai.refl [P] w) rfl (ao:=a) (c:=c') (j:=i + 1) (by omega) (fun z=>by rw [h1 z];congr 2;omega) (by rw [J.out];exact h2);rw [J.out] at F;have A : ai [P] w (w.setCell ⟨P,0,none⟩ (.slice a (m - 1) c')):=(ai.refl [P] w).set (fun _=>by simp) 0 _;have l : ai ([] : List Nat) (w.setCell ⟨P,0,none⟩ (.slice a (m - 1) c')) (((w.setCell ⟨P,0,none⟩ (.slice a (m - 1) c')).alloc x).alloc y):=((ai.refl [] _).alloc x).alloc y;exact ⟨F.but l (by simp) (by simp) (by simp),A.trans l (fun _ z=>by simp at z)⟩
 go_wp2
 case inr=>
  exact bodyPost_ret (v:=.agg #[.int .i64 s,.string u,.int .i64 r]) (by simp [results,Tryz.results59,go_sem]) rfl ⟨by rw [I.out],q.out _ _ _ _ (fun _=>rfl) (by omega)⟩
 case inl=>
  exact bodyPost_ret (v:=.agg #[.int .i64 s,.string u,.int .i64 r]) (by simp [results,Tryz.results59,go_sem]) rfl ⟨by rw [I.out],q.out _ _ _ _ (fun z=>by have:=K.out;omega) (by omega)⟩
theorem gZ {P tb o i : Nat} {ts : List TK} {eT : TypeId} {eV : Value} (w : World) (h : ag w P tb o i ts eT eV) (hi : ¬ i < ts.length) :
  Calls Tryz.prog 59 #[.pointer (some ⟨P,0,none⟩)] w fun e w'=>e = .panicked [{ v:=.iface eT eV,recovered:=false }] /\ ai [P] w w':=by
 obtain ⟨l,c,a,j,f⟩:=h.box;have d : ts.length - i = 0:=by omega
 rw [d] at a;have b:=a.alloc (.cells #[.int .i64 0,.string ⟨#[]⟩,.int .i64 0] 45);have m:=b.cell (i:=0) (by omega);have k:=((bel1 w (.cells #[.int .i64 0,.string ⟨#[]⟩,.int .i64 0] 45)).cell (p:=⟨0,0,none⟩) (blt h.ev)).trans h.ev;have g : Hid (ai [P] w (w.alloc (.cells #[.int .i64 0,.string ⟨#[]⟩,.int .i64 0] 45))):=(ai.refl _ _).alloc _;clear h j f d b a;go_enter Tryz.func59,Tryz.ntmps59;go_wp2;exact ⟨rfl,rfl,g.out⟩
theorem ng {ts : List TK} {i : Nat} (hi : i < ts.length) (s : List UInt8) : isT ts i s = ((aA ts i).txt.data.toList == s):=by
 unfold isT aA;rw [List.getD,List.getElem?_eq_getElem hi];rfl
theorem bT {ts : List TK} {i : Nat} (hi : i < ts.length) (c : Int) : cr ts i c = ((aA ts i).cls == c):=by
 unfold cr aA;rw [List.getD,List.getElem?_eq_getElem hi];rfl
theorem dx {ts : List TK} {i : Nat} (hi : i < ts.length) : tx ts i = (aA ts i).txt:=by
 unfold tx aA;rw [List.getD,List.getElem?_eq_getElem hi];rfl
theorem bK {P tb o i : Nat} {ts : List TK} {eT : TypeId} {eV : Value} (s : ByteArray) (w : World) (h : ag w P tb o i ts eT eV) (hi : isT ts i s.data.toList = true) :
  Calls Tryz.prog 85 #[.pointer (some ⟨P,0,none⟩),.string s] w fun e w'=>e = .returned (.bool true) /\ ag w' P tb o (i + 1) ts eT eV /\ ai [P] w w':=by
 have r:=hQx h;have b:=aL hi;rw [ng b] at hi;obtain ⟨a,c,g,n,u⟩:=h.box;have t:=n b;subst t;have x:=h.tk.c1 i b;have E:=h.tk.len;obtain ⟨m,k⟩:=xe (ts.length - i);have q : Hid (m = ts.length - i):=k;rw [<- k] at g u;have B:=g.cell (i:=0) (by omega);have D:=g.frozen 0;have v : 0 < m:=by omega
 have C : ((m : Int) == 0) = false:=bn2 (by omega);obtain ⟨y,f⟩:=xe ((aA ts i).txt);rw [<- f] at x hi;have A : (y.toList == s.toList) = true:=by rw [ByteArray.toList_eq,ByteArray.toList_eq];exact hi
 clear h n k f g hi;have p : Hid (ts.length - (i + 1) = m - 1):=by show _ = _;rw [q.out];omega
 have d : Hid (∀ (a : Option Addr) (c' : Nat),(i + 1 < ts.length -> a = some ⟨tb,o + i * 3 + 3,none⟩) -> m - 1 <= c' -> ag (w.setCell ⟨P,0,none⟩ (.slice a (m - 1) c')) P tb o (i + 1) ts eT eV /\ ai [P] w (w.setCell ⟨P,0,none⟩ (.slice a (m - 1) c'))):=fun a c' h1 h2=>by
  have l:=r.out.step (ai.refl [P] w) rfl (ao:=a) (c:=c') (j:=i + 1) (by omega) (fun z=>by rw [h1 z];congr 2;omega) (by rw [p.out];exact h2);rw [p.out] at l;exact ⟨l,(ai.refl [P] w).set (fun _=>by simp) 0 _⟩
 go_enter Tryz.func85,Tryz.ntmps85;go_wp2
 case inr=>
  go_ret;exact ⟨rfl,d.out _ _ (fun _=>rfl) (by omega)⟩
 case inl=>
  go_ret;exact ⟨rfl,d.out _ _ (fun z=>by have:=q.out;omega) (by omega)⟩
theorem aN {P tb o i : Nat} {ts : List TK} {eT : TypeId} {eV : Value} (s : ByteArray) (w : World) (h : ag w P tb o i ts eT eV) (hi : isT ts i s.data.toList = false) :
  Calls Tryz.prog 85 #[.pointer (some ⟨P,0,none⟩),.string s] w fun e w'=>e = .returned (.bool false) /\ w = w':=by
 obtain ⟨u,c,b,f,g⟩:=h.box;by_cases a : i < ts.length
 case neg=>
  have j : ts.length - i = 0:=by omega
  rw [j] at b;have p:=b.cell (i:=0) (by omega);clear h f g j b hi;go_enter Tryz.func85,Tryz.ntmps85;go_wp2;go_ret;exact ⟨rfl,rfl⟩
 rw [ng a] at hi;have q:=f a;subst q;have l:=h.tk.c1 i a;have x:=h.tk.len;obtain ⟨m,k⟩:=xe (ts.length - i);rw [<- k] at b g;have p:=b.cell (i:=0) (by omega);have r : 0 < m:=by omega
 have v : ((m : Int) == 0) = false:=bn2 (by omega);obtain ⟨n,d⟩:=xe ((aA ts i).txt);rw [<- d] at l hi;have t : (n.toList == s.toList) = false:=by rw [ByteArray.toList_eq,ByteArray.toList_eq];exact hi
 clear h f k d b hi;go_enter Tryz.func85,Tryz.ntmps85;go_wp2;go_ret;exact ⟨rfl,rfl⟩
theorem cG {P tb o i : Nat} {ts : List TK} {eT : TypeId} {eV : Value} (s : ByteArray) (w : World) (h : ag w P tb o i ts eT eV) (hi : isT ts i s.data.toList = true) :
  Calls Tryz.prog 61 #[.pointer (some ⟨P,0,none⟩),.string s] w fun e w'=>e = .returned (.tuple #[]) /\ ag w' P tb o (i + 1) ts eT eV /\ ai [P] w w':=by
 have a:=hQx h;clear h;go_enter Tryz.func61,Tryz.ntmps61;go_wp2_with fail;refine (bK s w a.out hi).mono ?_;rintro e c ⟨rfl,b⟩;go_wp2
 go_end0
 exact ⟨rfl,b⟩
theorem aP {P tb o i : Nat} {ts : List TK} {eT : TypeId} {eV : Value} (s : ByteArray) (w : World) (h : ag w P tb o i ts eT eV) (hi : isT ts i s.data.toList = false) :
  Calls Tryz.prog 61 #[.pointer (some ⟨P,0,none⟩),.string s] w fun e w'=>e = .panicked [{ v:=.iface eT eV,recovered:=false }] /\ w = w':=by
 have a:=hQx h;have c:=h.ev;clear h;go_enter Tryz.func61,Tryz.ntmps61;go_wp2_with fail;refine (aN s w a.out hi).mono ?_;rintro e b ⟨rfl,rfl⟩;go_wp2;exact ⟨rfl,rfl,rfl⟩
theorem fY {P tb o i : Nat} {ts : List TK} {eT : TypeId} {eV : Value} (w : World) (h : ag w P tb o i ts eT eV) (hi : cr ts i 1 = true) :
  Calls Tryz.prog 60 #[.pointer (some ⟨P,0,none⟩)] w fun e w'=>e = .returned (.string (tx ts i)) /\ ag w' P tb o (i + 1) ts eT eV /\ ai [P] w w':=by
 have r:=hQx h;have a:=d4 hi;rw [bT a] at hi;have j : Hid (tx ts i = (aA ts i).txt):=dx a;clear h;go_enter Tryz.func60,Tryz.ntmps60;go_wp2_with fail;refine (bm w r.out a).mono ?_;rintro e f ⟨rfl,l,p⟩;unfold km;obtain ⟨n,b⟩:=xe ((aA ts i).cls);obtain ⟨k,c⟩:=xe ((aA ts i).txt);obtain ⟨m,d⟩:=xe (((aA ts i).loc : Int));have g : Hid (tx ts i = k):=by show _ = _;rw [j.out,c]
 rw [<- b] at hi;rw [<- b,<- c,<- d];have s : Hid (ag (f.alloc (.cells #[.int .i64 n,.string k,.int .i64 m] 45)) P tb o (i + 1) ts eT eV):=l.but ((ai.refl ([] : List Nat) f).alloc _) (by simp) (by simp) (by simp);have q : Hid (ai [P] w (f.alloc (.cells #[.int .i64 n,.string k,.int .i64 m] 45))):=p.alloc _;clear b c d l p;go_wp2;go_ret;exact ⟨by rw [g.out];rfl,s.out,q.out⟩
theorem cJ {P tb o i : Nat} {ts : List TK} {eT : TypeId} {eV : Value} (w : World) (h : ag w P tb o i ts eT eV) (hi : cr ts i 1 = false) :
  Calls Tryz.prog 60 #[.pointer (some ⟨P,0,none⟩)] w fun e w'=>e = .panicked [{ v:=.iface eT eV,recovered:=false }] /\ ai [P] w w':=by
 have l:=hQx h;clear h;by_cases a : i < ts.length
 case neg=>
  clear hi;go_enter Tryz.func60,Tryz.ntmps60;go_wp2_with fail;refine (gZ w l.out a).mono ?_;rintro e g ⟨rfl,f⟩;go_wp2;exact ⟨rfl,rfl,f⟩
 rw [bT a] at hi;go_enter Tryz.func60,Tryz.ntmps60;go_wp2_with fail;refine (bm w l.out a).mono ?_;rintro e g ⟨rfl,j,f⟩;unfold km;obtain ⟨n,b⟩:=xe ((aA ts i).cls);obtain ⟨m,d⟩:=xe ((aA ts i).txt);obtain ⟨k,c⟩:=xe (((aA ts i).loc : Int));rw [<- b] at hi;rw [<- b,<- d,<- c];have q:=(j.but ((ai.refl ([] : List Nat) g).alloc (.cells #[.int .i64 n,.string m,.int .i64 k] 45)) (by simp) (by simp) (by simp)).ev;have p : Hid (ai [P] w (g.alloc (.cells #[.int .i64 n,.string m,.int .i64 k] 45))):=f.alloc _;clear b d c j f;go_wp2;exact ⟨rfl,rfl,p.out⟩
def Dp (P tb o : Nat) (ts : List TK) (eT : TypeId) (eV : Value) (S : List Nat) (w : World) (r : Option (Value × Nat)) (e : Ending) (w' : World) : Prop:=
 ai S w w' /\ match r with
 | none=>e = .panicked [{ v:=.iface eT eV,recovered:=false }]
 | some (v,j)=>e = .returned v /\ ag w' P tb o j ts eT eV
theorem um {P tb o i : Nat} {ts : List TK} {eT : TypeId} {eV : Value} (w : World) (h : ag w P tb o (i + 1) ts eT eV) :
  Calls Tryz.prog 95 #[.pointer (some ⟨P,0,none⟩),.string (tx ts i)] w (Dp P tb o ts eT eV [P] w ((bW true ts i).map fun r=>(.tuple #[.string r.1,.string r.2.1],r.2.2))):=by
 have c:=hQx h;clear h;obtain ⟨x,f⟩:=xe (tx ts i);have k : Hid (x = tx ts i):=f;rw [<- f];clear f;cases hc : isT ts (i + 1) aB
 case false=>
  have a : Hid (bW true ts i = some (e0,x,i + 1)):=by show _ = _;unfold bW;rw [hc,k.out];rfl
  go_enter Tryz.func95,Tryz.ntmps95;go_wp2_with fail;refine (aN ⟨#[58]⟩ w c.out hc).mono ?_;rintro e b ⟨rfl,rfl⟩;clear hc;go_wp2;exact bodyPost_ret (v:=.tuple #[.string ⟨#[]⟩,.string x]) (by simp [results,Tryz.results95,go_sem]) rfl (by rw [a.out];exact ⟨ai.refl _ _,rfl,c.out⟩)
 cases hn : cr ts (i + 2) 1
 case false=>
  have a : Hid (bW true ts i = none):=by show _ = _;unfold bW;rw [hc,hn];rfl
  go_enter Tryz.func95,Tryz.ntmps95;go_wp2_with fail;refine (bK ⟨#[58]⟩ w c.out hc).mono ?_;rintro e b ⟨rfl,d,j⟩;go_wp2_with fail;refine (cJ b d hn).mono ?_;rintro e l ⟨rfl,g⟩;clear hc hn;go_wp2;rw [a.out];exact ⟨rfl,j.then_ g,rfl⟩
 have a : Hid (bW true ts i = some (x,tx ts (i + 2),i + 3)):=by show _ = _;unfold bW;rw [hc,hn,k.out];rfl
 go_enter Tryz.func95,Tryz.ntmps95;go_wp2_with fail;refine (bK ⟨#[58]⟩ w c.out hc).mono ?_;rintro e b ⟨rfl,d,j⟩;go_wp2_with fail;refine (fY b d hn).mono ?_;rintro e l ⟨rfl,m,g⟩;clear hc hn;go_wp2;exact bodyPost_ret (v:=.tuple #[.string x,.string (tx ts (i + 2))]) (by simp [results,Tryz.results95,go_sem]) rfl (by rw [a.out];exact ⟨j.then_ g,rfl,m⟩)
end Go.Proofs.YtihedobejcaapaaGreatDoor
namespace Go.Proofs.YtihedobejcaapaaGreatDoor
open Go.RowKit Go.Maps
theorem Tryz.zero3 (w : World) : (zeroValue 3).run Tryz.prog w = .ok (.int .i64 0) w:=by kernel_rfl
theorem Tryz.info9 : (Tryz.prog.info? 9).map (fun i=>(i.zero,i.size,i.bytes)) = some (some (.string ByteArray.empty),1,16):=by kernel_rfl
structure sV (keep : Nat -> Prop) (w w' : World) : Prop where
 os : w'.os = w.os
 tape : w'.tape = w.tape
 output : w'.output = w.output
 size : w.heap.size <= w'.heap.size
 block : ∀ k,keep k -> w'.heap[k]? = w.heap[k]?
theorem sV.refl (keep : Nat -> Prop) (w : World) : sV keep w w:=⟨rfl,rfl,rfl,nlr _,fun _ _=>rfl⟩
def v2 (a b : Value) : Nat -> Value:=fun i=>if i = 0 then a else b
theorem ol (w : World) (a b : Value) (t : TypeId) : (w.alloc (.cells #[a,b] t)).rowIs w.heap.size t 2 (v2 a b):=
 World.rowIs_alloc w #[a,b] t _ (fun i hi=>by
  match i,hi with
  | 0,_=>rfl
  | 1,_=>rfl)
theorem uy {w w' : World} {base : Nat} {e : TypeId} {size : Nat} {v : Value} {n : Nat} {xs : List Value} {row : Option Nat} (h : w.ownsRow base e size v n xs) (hg : w.grownBy w' row) (hne : ∀ k,row = some k -> k < base) : w'.ownsRow base e size v n xs:=by
 obtain ⟨i,b⟩:=h;refine ⟨i,?_⟩;rcases b with b | ⟨g,c,a,l,j,f,r⟩
 ·exact Or.inl b
 ·obtain ⟨d,_⟩:=Array.getElem?_eq_some_iff.1 f
  exact Or.inr ⟨g,c,a,l,j,(hg.block g d (fun e=>by have:=hne g e.symm;omega)).trans f,r⟩
theorem Tryz.law9 : Keyed Tryz.prog 9:=string_keyed Tryz.underlying9
theorem jU {a : List UInt8} (ha : a.length <= maxLen) : keyOf Tryz.prog 9 (.string ⟨a.toArray⟩) = some (.string a):=by
 have:=WideMaps.keyOf_string_mk (s:=⟨a.toArray⟩) Tryz.underlying9 (by show a.length <= maxLen;exact ha);simpa using this
def iA (ord : List (List UInt8)) (a : List UInt8) : List (List UInt8):=if ord.contains a then ord else ord ++ [a]
def fy (ord : List (List UInt8)) : List Value:=ord.map fun a=>.string ⟨a.toArray⟩
structure wO (w : World) (kb mb : Nat) (ov : Value) (D : DataW Unit) (ord : List (List UInt8)) (keep : Nat -> Prop) : Prop where
 row : w.rowIs kb 141 2 (v2 (.map (some mb)) ov)
 mlt : mb < kb
 map : w.ownsMap Tryz.prog 9 (plainElem Tryz.prog 3) mb ord.length D
 has : ∀ a : List UInt8,a.length <= maxLen -> Maps.has D (.string a) = ord.contains a
 val : ∀ a : List UInt8,a.length <= maxLen -> a ∈ ord -> D.atKey (.string a) (.lit (.int .i64 0)) = .lit (.int .i64 (ord.idxOf a : Int))
 own : w.ownsRow (kb + 1) 9 1 ov ord.length (fy ord)
 far : ∀ k,keep k -> k < w.heap.size /\ k ≠ kb /\ k ≠ mb /\ some k ≠ ov.ownBlock
theorem zF (w : World) (keep : Nat -> Prop) (hk : ∀ k,keep k -> k < w.heap.size) :
  Calls Tryz.prog 91 #[] w fun e w'=>e = .returned (.pointer (some ⟨w.heap.size + 1,0,none⟩)) /\ wO w' (w.heap.size + 1) w.heap.size (.slice none 0 0) (.map []) [] keep /\ sV keep w w':=by
 have b:=@run_makeMap Tryz.prog;go_enter Tryz.func91,Tryz.ntmps91;go_wp2;go_ret;have R:=ol (w.alloc (.map #[] 0)) (.map (some w.heap.size)) (.slice none 0 0) 141;simp only [World.size_alloc] at R;refine ⟨rfl,⟨R,by omega,(World.ownsMap_made w Tryz.prog 9 (plainElem Tryz.prog 3)).alloc _,fun a _=>rfl,fun a _ h=>by simp at h,World.ownsRow_nil _ _ _ _,fun k h=>?_⟩,?_⟩
 ·have:=hk k h
  exact ⟨by simp;omega,by omega,by omega,by simp [Value.ownBlock]⟩
 ·have:=eM w (.map #[] 0) (.cells #[.map (some w.heap.size),.slice none 0 0] 141)
  exact ⟨this.os,this.tape,this.output,this.size,fun k h=>this.block k (hk k h)⟩
theorem tJ {w : World} {mb n : Nat} {D : DataW Unit} {a : List UInt8} (h : w.ownsMap Tryz.prog 9 (plainElem Tryz.prog 3) mb n D) (ha : a.length <= maxLen) :
  ∃ v : Int,(∀ m,(Instr.lookup 139 (.map (some mb)) (.string ⟨a.toArray⟩) true).run Tryz.prog (w.drewN m) = .ok (.tuple #[.int .i64 v,.bool (Maps.has D (.string a))]) (w.drewN m)) /\ D.atKey (.string a) (.lit (.int .i64 0)) = .lit (.int .i64 v):=by
 have g : plainElem (H:=Unit) Tryz.prog 3 (.int .i64 0) = some (.lit (.int .i64 0),[]):=plainElem_int Tryz.underlying3 (by decide)
 have c : ∀ m,∃ v : Int,(Instr.lookup 139 (.map (some mb)) (.string ⟨a.toArray⟩) true).run Tryz.prog (w.drewN m) = .ok (.tuple #[.int .i64 v,.bool (Maps.has D (.string a))]) (w.drewN m) /\ D.atKey (.string a) (.lit (.int .i64 0)) = .lit (.int .i64 v):=fun m=>by
  have i : (w.drewN m).ownsMap Tryz.prog 9 (plainElem Tryz.prog 3) mb n D:=h;obtain ⟨v,ps,b,j⟩:=i.look_ok Tryz.law9 Tryz.underlying139 (Tryz.zero3 _) g (jU ha);obtain ⟨x,rfl,e,_⟩:=plainElem_int_inv Tryz.underlying3 j;simp only [Prod.mk.injEq] at e;exact ⟨x,b,e.1⟩
 obtain ⟨v,_,f⟩:=c 0;refine ⟨v,fun m=>?_,f⟩;obtain ⟨k,b,d⟩:=c m;rw [f] at d;simp only [DataW.lit.injEq,Lit.int.injEq,true_and] at d;rw [d];exact b
theorem oD (ord : List (List UInt8)) (a : List UInt8) : fy (ord ++ [a]) = fy ord ++ [.string ⟨a.toArray⟩]:=by simp [fy]
theorem uT {w w2 w3 : World} {kb mb : Nat} {oa : Option Addr} {cap gg cap3 : Nat} {D : DataW Unit} {ord : List (List UInt8)} {keep : Nat -> Prop} {a : List UInt8} {o2 : Obj}
  (h : wO w kb mb (.slice oa ord.length cap) D ord keep) (ha : a.length <= maxLen) (hc : ord.contains a = false)
  (hown2 : w2.ownsMap Tryz.prog 9 (plainElem Tryz.prog 3) mb (ord.length + 1) (D.put (.string a) (.lit (.int .i64 (ord.length : Int))))) (hg2 : w.grownBy w2 (some mb))
  (hown3 : w3.ownsRow (kb + 1) 9 1 (.slice (some ⟨gg,0,none⟩) (ord.length + 1) cap3) (ord.length + 1) (fy ord ++ [.string ⟨a.toArray⟩]))
  (hg3 : (w2.alloc o2).grownBy w3 (Value.slice oa ord.length cap).ownBlock) (hat : (Value.slice oa ord.length cap).ownBlock = some gg \/ gg = w2.heap.size + 1) :
  wO (w3.setCell ⟨kb,1,none⟩ (.slice (some ⟨gg,0,none⟩) (ord.length + 1) cap3)) kb mb (.slice (some ⟨gg,0,none⟩) (ord.length + 1) cap3) (D.put (.string a) (.lit (.int .i64 (ord.length : Int)))) (iA ord a) keep /\
  sV keep w (w3.setCell ⟨kb,1,none⟩ (.slice (some ⟨gg,0,none⟩) (ord.length + 1) cap3)):=by
 have t : iA ord a = ord ++ [a]:=by unfold iA;rw [hc];rfl
 have j : a ∉ ord:=fun c=>by rw [List.contains_iff_mem.2 c] at hc;cases hc
 have y:=hg2.size;have u:=hg3.size;have p : (w2.alloc o2).heap.size = w2.heap.size + 1:=by simp
 have A:=h.row.lt;have o:=h.mlt;have r : some kb ≠ (Value.slice oa ord.length cap).ownBlock:=fun e=>by have:=(h.own.lt kb e.symm).1;omega
 have v : some mb ≠ (Value.slice oa ord.length cap).ownBlock:=fun e=>by have:=(h.own.lt mb e.symm).1;omega
 have m : ∀ k,k < w2.heap.size -> some k ≠ (Value.slice oa ord.length cap).ownBlock -> w3.heap[k]? = w2.heap[k]?:=fun k hk hn=>(hg3.block k (by rw [p];omega) hn).trans (Below.heap_alloc _ _ _ hk)
 have s : w3.rowIs kb 141 2 (v2 (.map (some mb)) (.slice oa ord.length cap)):=
  h.row.of_block ((m kb (by omega) r).trans (hg2.block kb (by omega) (fun e=>by cases e;omega)))
 have d : ∀ x : List UInt8,x ≠ a -> (Lit.string x) ≠ Lit.string a:=fun x q e=>q (by simpa using e);rw [t];refine ⟨⟨(s.set 1 _).congr (fun i hi=>?_),h.mlt,?_,fun x hx=>?_,fun x hx c=>?_,?_,fun k hk=>?_⟩,?_⟩
 ·match i,hi with
  | 0,_=>rfl
  | 1,_=>rfl
 ·have c : w3.ownsMap Tryz.prog 9 (plainElem Tryz.prog 3) mb (ord.length + 1) (D.put (.string a) (.lit (.int .i64 (ord.length : Int)))):=(hown2.alloc o2).kept hg3 v
  have b:=c.setCell (a:=⟨kb,1,none⟩) (by show mb ≠ kb;omega) (.slice (some ⟨gg,0,none⟩) (ord.length + 1) cap3);simpa using b
 ·by_cases q : x = a
  ·subst q
   rw [Maps.has_put_same h.map.isMap (Tryz.law9.key (jU hx))];simp
  ·rw [Maps.has_put_other (d x q),h.has x hx]
   rw [Bool.eq_iff_iff];simp only [List.contains_iff_mem,List.mem_append,List.mem_singleton];exact ⟨Or.inl,fun z=>z.elim id (fun z=>absurd z q)⟩
 ·by_cases q : x = a
  ·subst q
   rw [Maps.atKey_put_same h.map.isMap (Tryz.law9.key (jU hx)),List.idxOf_append,if_neg j];simp
  ·rw [Maps.atKey_put_other (d x q)]
   have b : x ∈ ord:=by
    rcases List.mem_append.1 c with z | z
    ·exact z
    ·simp at z;exact absurd z q
   rw [h.val x hx b,List.idxOf_append,if_pos b]
 ·rw [oD]
  have:=ownsRow_setCell_below hown3 (a:=⟨kb,1,none⟩) (by show kb < kb + 1;omega) (.slice (some ⟨gg,0,none⟩) (ord.length + 1) cap3);simpa using this
 ·obtain ⟨n,g,l,f⟩:=h.far k hk
  refine ⟨by simp [World.setCell];omega,g,l,?_⟩;rcases hat with hat | hat
  ·rw [hat] at f;simpa [Value.ownBlock] using f
  ·simp [Value.ownBlock];omega
 ·refine ⟨hg3.os.trans hg2.os,hg3.tape.trans hg2.tape,hg3.output.trans hg2.output,by simp [World.setCell];omega,fun k hk=>?_⟩
  obtain ⟨n,g,l,f⟩:=h.far k hk;rw [Below.heap_setCell _ _ _ _ (by show k ≠ kb;exact g),m k (by omega) f,hg2.block k n (fun e=>by cases e;exact l rfl)]
theorem sZ (kb mb : Nat) (ov : Value) (D : DataW Unit) (ord : List (List UInt8)) (keep : Nat -> Prop) (a : List UInt8) (w : World) (h : wO w kb mb ov D ord keep) (ha : a.length <= maxLen) (ho : ord.length <= 100000000) :
  Calls Tryz.prog 92 #[.pointer (some ⟨kb,0,none⟩),.string ⟨a.toArray⟩] w fun e w'=>
   ∃ (ov' : Value) (D' : DataW Unit),e = .returned (.tuple #[.int .i64 ((iA ord a).idxOf a : Int),.bool (!ord.contains a)]) /\ wO w' kb mb ov' D' (iA ord a) keep /\ sV keep w w':=by
 obtain ⟨v,n,g⟩:=tJ h.map ha;rw [h.has a ha] at n;have c:=n 0;rw [World.drewN_zero] at c;obtain ⟨l,b,rfl⟩:=ad h.own;have X : w.cell? ⟨kb,0,none⟩ = some (.map (some mb)):=h.row.cell (i:=0) (by omega);have T : w.cell? ⟨kb,1,none⟩ = some (.slice l ord.length b):=h.row.cell (i:=1) (by omega);have C : Hid (wO w kb mb (.slice l ord.length b) D ord keep):=h;have H:=h.row.lt;clear n;cases hcon : ord.contains a
 ·have O : Hid (ord.contains a = false):=hcon
  have A : Hid ((iA ord a).idxOf a = ord.length):=by
   have G : a ∉ ord:=fun x=>by rw [List.contains_iff_mem.2 x] at hcon;cases hcon
   show (iA ord a).idxOf a = ord.length;unfold iA;rw [hcon];simp [List.idxOf_append,G]
  rw [hcon] at c;obtain ⟨Q,F,E,B,z⟩:=info_parts Tryz.info9;obtain ⟨o,r,d,j⟩:=h.map.update Tryz.law9 Tryz.underlying139 (by unfold maxLen;omega) (jU ha) (plainElem_int Tryz.underlying3 (a:=(ord.length : Int)) (WalkArith.wf_i64 (by omega)));have N:=h.mlt;have S:=j.size;have u : o.ownsRow (kb + 1) 9 1 (.slice l ord.length b) ord.length (fy ord):=uy h.own j (fun k e=>by cases e;omega);have y : o.rowIs kb 141 2 (v2 (.map (some mb)) (.slice l ord.length b)):=h.row.of_block (j.block kb H (fun e=>by cases e;omega));have R : o.cell? ⟨kb,1,none⟩ = some (.slice l ord.length b):=y.cell (i:=1) (by omega);have I : some kb ≠ (Value.slice l ord.length b).ownBlock:=fun e=>by have:=(h.own.lt kb e.symm).1;omega
  have q:=(y.alloc (.cells #[.string ⟨a.toArray⟩] 9)).cell (i:=1) (by omega);have t:=(y.alloc (.cells #[.string ⟨a.toArray⟩] 9)).frozen 1;have P : kb + 1 <= o.heap.size:=by omega
  clear hcon h g;go_enter Tryz.func92,Tryz.ntmps92;go_wp2_with (first | (at_builtin;refine wpList_append_lies _ rfl _ _ 52 rfl (kb + 1) 9 Q (.string ByteArray.empty) 1 16 Tryz.underlying52 F E B z rfl (by omega) (.slice l ord.length b) ord.length (fy ord) rfl (u.alloc _) ⟨o.heap.size,0,none⟩ 1 1 [.string ⟨a.toArray⟩] rfl rfl (cell_one_new _ _ _) (by simp [Value.oneCell']) (by omega) (by unfold maxLen;omega) (by omega) (by simp;omega) (o.heap.size + 1) (by simp) ?_;intro W M K f m p J;have U : K.cell? ⟨kb,1,none⟩ = some (.slice l ord.length b):=(m.cell_far ⟨kb,1,none⟩ (by simp;omega) I).trans q;have V : K.frozen? ⟨kb,1,none⟩ = false:=(m.frozen_far ⟨kb,1,none⟩ (by simp;omega) I).trans t));have s:=uT C.out ha O.out d j f m p;clear d j f m p u y R q t r c;go_wp2;go_ret2;refine ⟨_,_,?_,s.1,s.2⟩;rw [A.out];rfl
 ·have x : a ∈ ord:=by simpa using hcon
  have L : Hid (iA ord a = ord):=by show (if ord.contains a then ord else _) = ord;rw [if_pos hcon]
  have A : Hid (v = (ord.idxOf a : Int)):=by
   have:=C.out.val a ha x;rw [g] at this;show v = (ord.idxOf a : Int);simpa using this
  rw [hcon] at c;clear hcon h g x;go_enter Tryz.func92,Tryz.ntmps92;go_wp2;go_ret2;refine ⟨.slice l ord.length b,D,?_,?_,sV.refl _ _⟩
  ·rw [L.out,<- A.out];rfl
  ·rw [L.out];exact C.out
def fH (w : World) (kb mb : Nat) (ov : Value) (ord : List (List UInt8)) : Prop:=∃ D,wO w kb mb ov D ord (fun _=>False)
theorem fH.ids {w : World} {kb mb : Nat} {ov : Value} {ord : List (List UInt8)} (h : fH w kb mb ov ord) : mb < kb /\ kb < w.heap.size /\ ∀ b,ov.ownBlock = some b -> kb < b /\ b < w.heap.size:=by
 obtain ⟨D,h⟩:=h;exact ⟨h.mlt,h.row.lt,fun b e=>⟨by have:=(h.own.lt b e).1;omega,(h.own.lt b e).2⟩⟩
theorem fH.but {S : List Nat} {w w' : World} {kb mb : Nat} {ov : Value} {ord : List (List UInt8)} (h : fH w kb mb ov ord) (hb : ai S w w') (h1 : kb ∉ S) (h2 : mb ∉ S) (h3 : ∀ b,ov.ownBlock = some b -> b ∉ S) : fH w' kb mb ov ord:=by
 obtain ⟨D,h⟩:=h;refine ⟨D,h.row.of_block (hb.block kb h.row.lt h1),h.mlt,?_,h.has,h.val,?_,fun k hk=>hk.elim⟩
 ·obtain ⟨d,a,f,F,g,i⟩:=h.map
  have c:=h.map.lt;exact ⟨d,a,(hb.block mb c h2).trans f,F,g,i⟩
 ·exact aG h.own (fun k e=>hb.block k (h.own.lt k e.symm).2 (h3 k e.symm))
theorem wO.all {w : World} {kb mb : Nat} {ov : Value} {D : DataW Unit} {ord : List (List UInt8)} {keep : Nat -> Prop} (h : wO w kb mb ov D ord keep) : wO w kb mb ov D ord (fun k=>k < w.heap.size /\ k ≠ kb /\ k ≠ mb /\ some k ≠ ov.ownBlock):=
 ⟨h.row,h.mlt,h.map,h.has,h.val,h.own,fun _ hk=>hk⟩
theorem qi (w : World) : Calls Tryz.prog 91 #[] w fun e w'=>e = .returned (.pointer (some ⟨w.heap.size + 1,0,none⟩)) /\ fH w' (w.heap.size + 1) w.heap.size (.slice none 0 0) [] /\ ai [] w w':=by
 refine (zF w (fun k=>k < w.heap.size) (fun _ h=>h)).mono ?_;rintro e w' ⟨c,a,b⟩;exact ⟨c,⟨_,a.row,a.mlt,a.map,a.has,a.val,a.own,fun _ h=>h.elim⟩,⟨b.os,b.tape,b.output,b.size,fun k a _=>b.block k a⟩⟩
theorem jr (kb mb : Nat) (ov : Value) (ord : List (List UInt8)) (a : List UInt8) (w : World) (h : fH w kb mb ov ord) (ha : a.length <= maxLen) (ho : ord.length <= 100000000) :
  Calls Tryz.prog 92 #[.pointer (some ⟨kb,0,none⟩),.string ⟨a.toArray⟩] w fun e w'=>
   ∃ (x : Int) (ov' : Value),e = .returned (.tuple #[.int .i64 x,.bool (!ord.contains a)]) /\ fH w' kb mb ov' (iA ord a) /\ ai (kb :: mb :: ov.ownBlock.toList) w w' /\ ∀ b,ov'.ownBlock = some b -> ov.ownBlock = some b \/ w.heap.size <= b:=by
 obtain ⟨D,h⟩:=h;refine (sZ kb mb ov D ord _ a w h.all ha ho).mono ?_;rintro e w' ⟨ov',g,i,c,d⟩;refine ⟨_,ov',i,⟨g,c.row,c.mlt,c.map,c.has,c.val,c.own,fun _ h=>h.elim⟩,⟨d.os,d.tape,d.output,d.size,fun k c hn=>d.block k ⟨c,fun e=>hn (by simp [e]),fun e=>hn (by simp [e]),fun e=>hn (by simp [<- e])⟩⟩,fun b e=>?_⟩;by_cases j : b < w.heap.size
 ·by_cases f : some b = ov.ownBlock
  ·exact Or.inl f.symm
  ·have l:=(c.own.lt b e).1
   have:=c.mlt;exact absurd e.symm (c.far b ⟨j,by omega,by omega,f⟩).2.2.2
 ·exact Or.inr (by omega)
end Go.Proofs.YtihedobejcaapaaGreatDoor
namespace Go.Proofs.YtihedobejcaapaaGreatDoor
def jB {α : Type} (n : Nat) (T : Nat -> Option (List α × Nat)) : Prop:=∀ i l j,T i = some (l,j) -> i + l.length <= j /\ i < j /\ j <= n
theorem mh {α : Type} {ts : List TK} {T : Nat -> Option (List α × Nat)} {sg : List UInt8} (h : jB ts.length T) : ∀ f j ns its l ns' k,cX ts T sg f j ns its = some (l,ns',k) -> l.length + j <= its.length + k /\ j < k /\ k <= ts.length /\ ns'.length + j <= ns.length + k
 | 0,_,_,_,_,_,_,e=>by cases e
 | f + 1,j,ns,its,l,ns',k,e=>by
   rw [cX] at e
   split at e
   ·split at e
    ·cases e
    ·split at e
     ·cases eT : T (j + 2) with
      | none=>rw [eT] at e;cases e
      | some r=>
        obtain ⟨l0,k0⟩:=r;rw [eT] at e;obtain ⟨h1,h2,h3⟩:=h _ _ _ eT
        dsimp only at e
        split at e
        case isTrue hs=>
         have:=aL hs;simp only [Option.some.injEq,Prod.mk.injEq] at e;obtain ⟨rfl,rfl,rfl⟩:=e;simp only [lap,List.length_cons,List.length_nil];omega
        case isFalse hs=>
         split at e
         ·have:=mh h f _ _ _ _ _ _ e
          simp only [lap,List.length_cons,List.length_nil] at this;omega
         ·cases e
     ·cases e
   ·cases e
theorem fd {α : Type} {ts : List TK} {T : Nat -> Option (List α × Nat)} {sg : List UInt8} (h : jB ts.length T) {j : Nat} {l : List α} {ns : List ByteArray} {k : Nat} (e : aH ts T sg j = some (l,ns,k)) : l.length + j <= k /\ j < k /\ k <= ts.length /\ ns.length + j <= k:=by
 unfold aH at e
 split at e
 case isTrue hs=>
  have:=aL hs;simp only [Option.some.injEq,Prod.mk.injEq] at e;obtain ⟨rfl,rfl,rfl⟩:=e;simp only [List.length_nil];omega
 case isFalse=>
  have:=mh h _ _ _ _ _ _ _ e;simp only [List.length_nil] at this;omega
theorem mr {α : Type} {ts : List TK} {T : Nat -> Option (List α × Nat)} (h : jB ts.length T) {i : Nat} {l : List α} {k : Nat} (e : bO ts T i = some (l,k)) : i + l.length <= k /\ i < k /\ k <= ts.length:=by
 unfold bO at e
 cases eT : T i with
 | none=>rw [eT] at e;cases e
 | some r=>
   obtain ⟨d,f⟩:=r;rw [eT] at e;obtain ⟨b,c,a⟩:=h _ _ _ eT
   dsimp only at e
   split at e
   case isTrue hs=>
    have:=aL hs;simp only [Option.some.injEq,Prod.mk.injEq] at e;obtain ⟨rfl,rfl⟩:=e;omega
   case isFalse=>cases e
theorem nZ {st : Bool} {ts : List TK} {i : Nat} {m n : ByteArray} {j : Nat} (hi : i < ts.length) (e : bW st ts i = some (m,n,j)) : i < j /\ j <= ts.length:=by
 unfold bW at e
 split at e
 ·split at e
  case isTrue h=>
   have:=d4 h;simp only [Option.some.injEq,Prod.mk.injEq] at e;omega
  case isFalse=>
   split at e
   ·cases e
   ·simp only [Option.some.injEq,Prod.mk.injEq] at e
    omega
 ·simp only [Option.some.injEq,Prod.mk.injEq] at e
  omega
theorem pj {st : Bool} {ts : List TK} {T : Nat -> Option (List TI × Nat)} (h : jB ts.length T) : jB ts.length (aF st ts T):=fun i l j e=>by
 unfold aF at e
 split at e
 case isTrue hc=>
  have:=d4 hc
  cases ep : bW st ts i with
  | none=>rw [ep] at e;cases e
  | some r=>
    obtain ⟨m,n,k⟩:=r;rw [ep] at e;simp only [Option.some.injEq,Prod.mk.injEq] at e;obtain ⟨rfl,rfl⟩:=e;have:=nZ (by omega) ep;simp only [List.length_cons,List.length_nil];omega
 case isFalse=>
  have one : ∀ {s : List UInt8} {t : TI},isT ts i s = true -> (some ([t],i + 1) : Option (List TI × Nat)) = some (l,j) -> i + l.length <= j /\ i < j /\ j <= ts.length:=fun hs e=>by
   have:=aL hs;simp only [Option.some.injEq,Prod.mk.injEq] at e;obtain ⟨rfl,rfl⟩:=e;simp only [List.length_cons,List.length_nil];omega
  split at e
  ·exact one ‹_› e
  split at e
  ·exact one ‹_› e
  split at e
  ·exact one ‹_› e
  split at e
  ·cases ep : aH ts T aB (i + 1) with
   | none=>rw [ep] at e;cases e
   | some r=>
     obtain ⟨its,ns,k⟩:=r;rw [ep] at e;simp only [Option.some.injEq,Prod.mk.injEq] at e;obtain ⟨rfl,rfl⟩:=e;have:=fd h ep;simp only [lap,List.length_cons,List.length_nil];omega
  split at e
  ·have:=mr h e
   omega
  ·cases e
theorem dE {st : Bool} {ts : List TK} : ∀ f,jB ts.length (tyP st ts f)
 | 0=>fun i l j e=>by cases e
 | f + 1=>fun i l j e=>by
   rw [tyP] at e
   cases eb : aF st ts (tyP st ts f) i with
   | none=>rw [eb] at e;cases e
   | some r=>
     obtain ⟨l0,k0⟩:=r;rw [eb] at e;obtain ⟨h1,h2,h3⟩:=pj (dE f) _ _ _ eb
     dsimp only at e
     split at e
     ·cases eT : tyP st ts f (k0 + 1) with
      | none=>rw [eT] at e;cases e
      | some r=>
        obtain ⟨l1,k1⟩:=r;rw [eT] at e;obtain ⟨h4,h5,h6⟩:=dE f _ _ _ eT;simp only [Option.some.injEq,Prod.mk.injEq] at e;obtain ⟨rfl,rfl⟩:=e;simp only [lap,List.length_cons,List.length_nil];omega
     ·simp only [Option.some.injEq,Prod.mk.injEq] at e
      obtain ⟨rfl,rfl⟩:=e;exact ⟨h1,h2,h3⟩
theorem oZ {st : Bool} {ts : List TK} {T : Nat -> Option (List EI × Nat)} (h : jB ts.length T) : jB ts.length (atomP st ts T):=fun i l j e=>by
 unfold atomP at e
 split at e
 case isTrue hc=>
  have:=d4 hc
  cases ep : bW st ts i with
  | none=>rw [ep] at e;cases e
  | some r=>
    obtain ⟨m,n,k⟩:=r;rw [ep] at e;simp only [Option.some.injEq,Prod.mk.injEq] at e;obtain ⟨rfl,rfl⟩:=e;have:=nZ (by omega) ep;simp only [List.length_cons,List.length_nil];omega
 case isFalse=>
  have one : ∀ {t : EI},i < ts.length -> (some ([t],i + 1) : Option (List EI × Nat)) = some (l,j) -> i + l.length <= j /\ i < j /\ j <= ts.length:=fun hs e=>by
   simp only [Option.some.injEq,Prod.mk.injEq] at e;obtain ⟨rfl,rfl⟩:=e;simp only [List.length_cons,List.length_nil];omega
  split at e
  ·exact one (d4 ‹_›) e
  split at e
  ·exact one (aL ‹_›) e
  split at e
  ·exact one (aL ‹_›) e
  split at e
  ·cases ep : aH ts T gh (i + 1) with
   | none=>rw [ep] at e;cases e
   | some r=>
     obtain ⟨its,ns,k⟩:=r;rw [ep] at e;simp only [Option.some.injEq,Prod.mk.injEq] at e;obtain ⟨rfl,rfl⟩:=e;have:=fd h ep;simp only [lap,List.length_cons,List.length_nil];omega
  split at e
  ·have:=mr h e
   omega
  ·cases e
theorem ju {ts : List TK} {T : Nat -> Option (List EI × Nat)} (h : jB ts.length T) : ∀ f its j l k,j <= ts.length -> bu ts T f its j = some (l,k) -> l.length + j <= its.length + k /\ j <= k /\ k <= ts.length
 | 0,_,_,_,_,_,e=>by cases e
 | f + 1,its,j,l,k,hj,e=>by
   rw [bu] at e
   split at e
   ·split at e
    case isTrue hc=>
     have:=d4 hc;have:=ju h f _ _ _ _ (by omega) e;simp only [lap,List.length_cons,List.length_nil] at this;omega
    case isFalse=>cases e
   ·split at e
    ·cases eb : bO ts T (j + 1) with
     | none=>rw [eb] at e;cases e
     | some r=>
       obtain ⟨l0,k0⟩:=r;rw [eb] at e;have h1:=mr h eb;have:=ju h f _ _ _ _ (by omega) e;simp only [lap,List.length_cons,List.length_nil] at this;omega
    ·simp only [Option.some.injEq,Prod.mk.injEq] at e
     obtain ⟨rfl,rfl⟩:=e;omega
theorem iL {st : Bool} {ts : List TK} {T : Nat -> Option (List EI × Nat)} (h : jB ts.length T) : jB ts.length (postP st ts T):=fun i l j e=>by
 unfold postP at e
 cases ea : atomP st ts T i with
 | none=>rw [ea] at e;cases e
 | some r=>
   obtain ⟨l0,k0⟩:=r;rw [ea] at e;obtain ⟨h1,h2,h3⟩:=oZ h _ _ _ ea;have:=ju h _ _ _ _ _ h3 e;omega
theorem pd {st : Bool} {ts : List TK} {T : Nat -> Option (List EI × Nat)} (h : jB ts.length T) : ∀ f its j l k,j <= ts.length -> ek st ts T f its j = some (l,k) -> l.length + j <= its.length + k /\ j <= k /\ k <= ts.length
 | 0,_,_,_,_,_,e=>by cases e
 | f + 1,its,j,l,k,hj,e=>by
   rw [ek] at e
   split at e
   ·cases eb : postP st ts T (j + 1) with
    | none=>rw [eb] at e;cases e
    | some r=>
      obtain ⟨l0,k0⟩:=r;rw [eb] at e;have h1:=iL h _ _ _ eb;have:=pd h f _ _ _ _ (by omega) e;simp only [lap,List.length_cons,List.length_nil] at this;omega
   ·simp only [Option.some.injEq,Prod.mk.injEq] at e
    obtain ⟨rfl,rfl⟩:=e;omega
theorem jY {st : Bool} {ts : List TK} {T : Nat -> Option (List EI × Nat)} (h : jB ts.length T) : jB ts.length (cu st ts T):=fun i l j e=>by
 unfold cu at e
 cases ea : postP st ts T i with
 | none=>rw [ea] at e;cases e
 | some r=>
   obtain ⟨l0,k0⟩:=r;rw [ea] at e;obtain ⟨h1,h2,h3⟩:=iL h _ _ _ ea;have:=pd h _ _ _ _ _ h3 e;omega
theorem xc {st : Bool} {ts : List TK} {T : Nat -> Option (List EI × Nat)} (h : jB ts.length T) : jB ts.length (dp st ts T):=fun i l j e=>by
 unfold dp at e
 split at e
 ·cases et : tyP st ts (ts.length + 1) (i + 3) with
  | none=>rw [et] at e;cases e
  | some r=>
    obtain ⟨t,k0⟩:=r;rw [et] at e;have h1:=dE _ _ _ _ et
    dsimp only at e
    split at e
    ·cases eT : T (k0 + 1) with
     | none=>rw [eT] at e;cases e
     | some r=>
       obtain ⟨b,k1⟩:=r;rw [eT] at e;have h2:=h _ _ _ eT;simp only [Option.some.injEq,Prod.mk.injEq] at e;obtain ⟨rfl,rfl⟩:=e;simp only [lap,List.length_cons,List.length_nil];omega
    ·cases e
 ·cases e
theorem Ak {ts : List TK} {T : Nat -> Option (List EI × Nat)} (h : jB ts.length T) : jB ts.length (pF ts T):=fun i l j e=>by
 unfold pF at e
 cases e1 : T i with
 | none=>rw [e1] at e;cases e
 | some r=>
   obtain ⟨c,k⟩:=r;rw [e1] at e;have h1:=h _ _ _ e1
   dsimp only at e
   split at e
   ·cases e2 : T (k + 1) with
    | none=>rw [e2] at e;cases e
    | some r=>
      obtain ⟨a,k1⟩:=r;rw [e2] at e;have h2:=h _ _ _ e2
      dsimp only at e
      split at e
      ·cases e3 : T (k1 + 1) with
       | none=>rw [e3] at e;cases e
       | some r=>
         obtain ⟨b,k2⟩:=r;rw [e3] at e;have h3:=h _ _ _ e3;simp only [Option.some.injEq,Prod.mk.injEq] at e;obtain ⟨rfl,rfl⟩:=e;simp only [lap,List.length_cons,List.length_nil];omega
      ·cases e
   ·cases e
theorem uC {st : Bool} {ts : List TK} {T : Nat -> Option (List EI × Nat)} (h : jB ts.length T) : jB ts.length (cY st ts T):=fun i l j e=>by
 unfold cY at e
 cases e1 : cu st ts T i with
 | none=>rw [e1] at e;cases e
 | some r=>
   obtain ⟨l0,k0⟩:=r;rw [e1] at e;have h1:=jY h _ _ _ e1
   dsimp only at e
   split at e
   ·cases e2 : cu st ts T (k0 + 1) with
    | none=>rw [e2] at e;cases e
    | some r=>
      obtain ⟨l1,k1⟩:=r;rw [e2] at e;have h2:=jY h _ _ _ e2;simp only [Option.some.injEq,Prod.mk.injEq] at e;obtain ⟨rfl,rfl⟩:=e;simp only [lap,List.length_cons,List.length_nil];omega
   ·simp only [Option.some.injEq,Prod.mk.injEq] at e
    obtain ⟨rfl,rfl⟩:=e;omega
theorem bS {st : Bool} {ts : List TK} : ∀ f,jB ts.length (ay st ts f)
 | 0=>fun i l j e=>by cases e
 | f + 1=>fun i l j e=>by
   rw [ay] at e
   split at e
   ·have:=xc (bS f) _ _ _ e
    omega
   ·split at e
    ·have:=Ak (bS f) _ _ _ e
     omega
    ·exact uC (bS f) _ _ _ e
end Go.Proofs.YtihedobejcaapaaGreatDoor
namespace Go.Proofs.YtihedobejcaapaaGreatDoor
open Go.RowKit
structure NPl where
 a : Option Addr
 b : Nat
 c : Nat
def aD (B : Nat) (w : World) (ns : List ByteArray) (p : NPl) : Prop:=ns ≠ [] -> p.a = some ⟨p.b,0,none⟩ /\ B <= p.b /\ ∃ (N : Nat) (f : Nat -> Value),w.rowIs p.b 9 N f /\ ns.length <= N /\ ∀ j,j < ns.length -> f j = .string (ns.getD j e0)
theorem aD.lt {B : Nat} {w : World} {ns : List ByteArray} {p : NPl} (h : aD B w ns p) (hn : ns ≠ []) : B <= p.b /\ p.b < w.heap.size:=by
 obtain ⟨_,a,N,f,c,_⟩:=h hn;exact ⟨a,c.lt⟩
theorem aD.of_block {B : Nat} {w w' : World} {ns : List ByteArray} {p : NPl} (h : aD B w ns p) (hb : ns ≠ [] -> w'.heap[p.b]? = w.heap[p.b]?) : aD B w' ns p:=fun hn=>by
 obtain ⟨h0,h1,N,f,hr,r⟩:=h hn;exact ⟨h0,h1,N,f,hr.of_block (hb hn),r⟩
theorem aD.but {S : List Nat} {B : Nat} {w w' : World} {ns : List ByteArray} {p : NPl} (h : aD B w ns p) (hb : ai S w w') (hS : ns ≠ [] -> p.b ∉ S) : aD B w' ns p:=
 h.of_block (fun hn=>hb.block _ (h.lt hn).2 (hS hn))
theorem aD.nil (B : Nat) (w : World) (p : NPl) : aD B w [] p:=fun h=>absurd rfl h
def ei (x : TI × NPl) : List Value:=[.int .i64 x.1.op,.string x.1.md,.string x.1.nm,.slice x.2.a x.1.ns.length x.2.c]
def bg (xs : List (TI × NPl)) : List Value:=xs.flatMap ei
theorem cH (xs : List (TI × NPl)) (x : TI × NPl) : bg (xs ++ [x]) = bg xs ++ ei x:=by simp [bg]
def Co (x : TI × NPl) : List Nat:=if x.1.ns = [] then [] else [x.2.b]
def aS (xs : List (TI × NPl)) : List Nat:=xs.flatMap Co
theorem dy (xs ys : List (TI × NPl)) : aS (xs ++ ys) = aS xs ++ aS ys:=by simp [aS]
theorem cL {xs : List (TI × NPl)} {b : Nat} (h : b ∈ aS xs) : ∃ x,x ∈ xs /\ x.1.ns ≠ [] /\ x.2.b = b:=by
 unfold aS at h;obtain ⟨x,c,a⟩:=List.mem_flatMap.1 h;unfold Co at a
 split at a
 ·cases a
 ·exact ⟨x,c,‹_›,(ms1 a).symm⟩
theorem uN {xs : List (TI × NPl)} {x : TI × NPl} (hx : x ∈ xs) (hn : x.1.ns ≠ []) : x.2.b ∈ aS xs:=by
 unfold aS;exact List.mem_flatMap.2 ⟨x,hx,by unfold Co;rw [if_neg hn];simp⟩
structure OT (B : Nat) (w : World) (v : Value) (xs : List (TI × NPl)) : Prop where
 own : w.ownsRow B 80 4 v xs.length (bg xs)
 nm : ∀ x,x ∈ xs -> aD B w x.1.ns x.2
 nd : (aS xs).Nodup
theorem OT.names {B : Nat} {w : World} {v : Value} {xs : List (TI × NPl)} (h : OT B w v xs) {b : Nat} (hb : b ∈ aS xs) : B <= b /\ b < w.heap.size:=by
 obtain ⟨x,a,c,rfl⟩:=cL hb;exact (h.nm x a).lt c
theorem j9 {B B' : Nat} {w : World} {v : Value} {n size : Nat} {xs : List Value} {t : TypeId} (h : w.ownsRow B t size v n xs) (ht : t ≠ 9) {ns : List ByteArray} {p : NPl} (hp : aD B' w ns p) (hn : ns ≠ []) : v.ownBlock ≠ some p.b:=fun e=>by
 obtain ⟨_,_,N,f,⟨c,hc,_⟩,_⟩:=hp hn;rcases h.2 with ⟨rfl,rfl⟩ | ⟨g,cap,cur,rfl,_,hh,_⟩
 ·cases e
 ·have eg : g = p.b:=by simpa [Value.ownBlock] using e
  rw [eg,hc] at hh;simp only [Option.some.injEq,Obj.cells.injEq] at hh;exact ht hh.2.1.symm
theorem OT.sep {B : Nat} {w : World} {v : Value} {xs : List (TI × NPl)} (h : OT B w v xs) {b : Nat} (hb : b ∈ aS xs) : v.ownBlock ≠ some b:=by
 obtain ⟨x,a,c,rfl⟩:=cL hb;exact j9 h.own (by decide) (h.nm x a) c
theorem OT.but {S : List Nat} {B : Nat} {w w' : World} {v : Value} {xs : List (TI × NPl)} (h : OT B w v xs) (hb : ai S w w') (h1 : ∀ b,v.ownBlock = some b -> b ∉ S) (h2 : ∀ b,b ∈ aS xs -> b ∉ S) : OT B w' v xs:=
 ⟨aG h.own (fun k e=>hb.block k (h.own.lt k e.symm).2 (h1 k e.symm)),fun x hx=>(h.nm x hx).but hb (fun hn=>h2 _ (uN hx hn)),h.nd⟩
theorem OT.low {S : List Nat} {B : Nat} {w w' : World} {v : Value} {xs : List (TI × NPl)} (h : OT B w v xs) (hb : ai S w w') (hS : ∀ b,b ∈ S -> b < B \/ w.heap.size <= b) : OT B w' v xs:=
 h.but hb (fun b e z=>by have:=h.own.lt b e;have:=hS b z;omega) (fun b e z=>by have:=h.names e;have:=hS b z;omega)
theorem dS {w w3 : World} {v : Value} {o : Obj} (hg : (w.alloc o).grownBy w3 v.ownBlock) : ai v.ownBlock.toList w w3:=
 ⟨hg.os,hg.tape,hg.output,by have:=hg.size;simp at this;omega,fun k hk hn=>(hg.block k (by simp;omega) (fun e=>hn (by simp [<- e]))).trans (Below.heap_alloc _ _ _ hk)⟩
theorem own_box {B : Nat} {w : World} {v : Value} {n size N : Nat} {xs : List Value} {t t' : TypeId} {X : Nat} {f : Nat -> Value} (h : w.ownsRow B t size v n xs) (hX : w.rowIs X t' N f) (hne : t ≠ t') : v.ownBlock ≠ some X:=fun e=>by
 obtain ⟨c,hc,_⟩:=hX;rcases h.2 with ⟨rfl,rfl⟩ | ⟨g,cap,cur,rfl,_,hh,_⟩
 ·cases e
 ·have eg : g = X:=by simpa [Value.ownBlock] using e
  rw [eg,hc] at hh;simp only [Option.some.injEq,Obj.cells.injEq] at hh;exact hne hh.2.1.symm
theorem mw {B : Nat} {w : World} {ns : List ByteArray} {p : NPl} {t' : TypeId} {N X : Nat} {f : Nat -> Value} (h : aD B w ns p) (hn : ns ≠ []) (hX : w.rowIs X t' N f) (hne : t' ≠ 9) : p.b ≠ X:=fun e=>by
 obtain ⟨_,_,N',g,⟨c,hc,_⟩,_⟩:=h hn;obtain ⟨c',hc',_⟩:=hX;rw [e,hc'] at hc;simp only [Option.some.injEq,Obj.cells.injEq] at hc;exact hne hc.2.1
theorem OT.box {B : Nat} {w : World} {v : Value} {xs : List (TI × NPl)} {t' : TypeId} {N X : Nat} {f : Nat -> Value} (h : OT B w v xs) (hX : w.rowIs X t' N f) (h1 : 80 ≠ t') (h2 : t' ≠ 9) (u : Value) (k : Nat) : OT B (w.setCell ⟨X,k,none⟩ u) v xs:=
 h.but (S:=[X]) ((ai.refl _ _).set (fun _=>by simp) k u) (fun b e z=>own_box h.own hX h1 (by rw [e,ms1 z])) (fun b hb z=>by
  obtain ⟨x,hx,hn,rfl⟩:=cL hb;exact mw (h.nm x hx) hn hX h2 (ms1 z))
theorem OT.push {B : Nat} {w w3 : World} {v : Value} {xs : List (TI × NPl)} {x : TI × NPl} {o : Obj} {gg cap3 : Nat} (h : OT B w v xs)
  (hown : w3.ownsRow B 80 4 (.slice (some ⟨gg,0,none⟩) (xs.length + 1) cap3) (xs.length + 1) (bg xs ++ ei x)) (hg : (w.alloc o).grownBy w3 v.ownBlock) (hx : aD B w x.1.ns x.2) (hn : x.1.ns ≠ [] -> x.2.b ∉ aS xs) :
  OT B w3 (.slice (some ⟨gg,0,none⟩) (xs.length + 1) cap3) (xs ++ [x]):=by
 have d:=dS hg;refine ⟨by rw [cH,lap];exact hown,fun y f=>?_,?_⟩
 ·rcases List.mem_append.1 f with z | z
  ·exact (h.nm y z).but d (fun hn=>by simp only [Option.mem_toList];exact j9 h.own (by decide) (h.nm y z) hn)
  ·rw [ms1 z]
   exact hx.but d (fun hn=>by simp only [Option.mem_toList];exact j9 h.own (by decide) hx hn)
 ·rw [dy]
  refine List.nodup_append.2 ⟨h.nd,?_,fun a ha b d e=>?_⟩
  ·unfold aS Co
   simp only [List.flatMap_cons,List.flatMap_nil,List.append_nil]
   split <;> simp
  ·obtain ⟨y,f,c,rfl⟩:=cL d
   rw [ms1 f] at c e;exact hn c (e ▸ ha)
def pG (B P tb o : Nat) (ts : List TK) (eT : TypeId) (eV : Value) (w : World) (v : Value) (xs : List (TI × NPl)) (r : Option (List TI × Nat)) (e : Ending) (w' : World) : Prop:=
 ai (P :: v.ownBlock.toList) w w' /\ match r with
 | none=>e = .panicked [{ v:=.iface eT eV,recovered:=false }]
 | some (l,j)=>∃ v' ys,e = .returned v' /\ OT B w' v' (xs ++ ys) /\ ys.map Prod.fst = l /\ ag w' P tb o j ts eT eV /\ (∀ b,v'.ownBlock = some b -> v.ownBlock = some b \/ w.heap.size <= b) /\ ∀ b,b ∈ aS ys -> w.heap.size <= b
def tD (B P tb o : Nat) (ts : List TK) (eT : TypeId) (eV : Value) (f : Nat) : Prop:=
 ∀ (i : Nat) (w : World) (v : Value) (xs : List (TI × NPl)),ag w P tb o i ts eT eV -> OT B w v xs -> xs.length <= i -> ts.length - i < f -> B <= w.heap.size -> Calls Tryz.prog 62 #[.pointer (some ⟨P,0,none⟩),v] w (pG B P tb o ts eT eV w v xs (tyP true ts f i))
theorem Tryz.infoTI : (Tryz.prog.info? 80).map (fun i=>(i.zero,i.size,i.bytes)) = some (some (.agg #[.int .i64 0,.string ByteArray.empty,.string ByteArray.empty,.slice none 0 0]),4,64):=by kernel_rfl
end Go.Proofs.YtihedobejcaapaaGreatDoor
