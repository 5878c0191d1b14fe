/-
  PfA PfB PeF PeG PfC
-/
import Derived.Test.YtihedobejcaapaaGreatDoorAB
import Derived.Defers
import Derived.Recover
import Derived.Laws.Pointers
import Derived.Lib.Atoi
set_option maxHeartbeats 4000000
set_option maxRecDepth 100000
namespace Go.Proofs.YtihedobejcaapaaGreatDoor
open Go.RowKit
theorem aq {w : World} {B B' : Nat} {e : TypeId} {size : Nat} {v : Value} {n : Nat} {xs : List Value} (h : w.ownsRow B e size v n xs) (hb : B' <= B) : w.ownsRow B' e size v n xs:=by
 obtain ⟨f,b⟩:=h;refine ⟨f,?_⟩;rcases b with b | ⟨g,d,a,i,c,r⟩
 ·exact Or.inl b
 ·exact Or.inr ⟨g,d,a,i,Nat.le_trans hb c,r⟩
theorem aD.mono {B B' : Nat} {w : World} {ns : List ByteArray} {p : NPl} (h : aD B w ns p) (hb : B' <= B) : aD B' w ns p:=fun hn=>by
 obtain ⟨h0,h1,r⟩:=h hn;exact ⟨h0,Nat.le_trans hb h1,r⟩
theorem OT.mono {B B' : Nat} {w : World} {v : Value} {xs : List (TI × NPl)} (h : OT B w v xs) (hb : B' <= B) : OT B' w v xs:=
 ⟨aq h.own hb,fun x hx=>(h.nm x hx).mono hb,h.nd⟩
theorem lU {X : Nat} {f : Nat -> Value} (u : TypeId) (pv : Value) (older : List PanicEntry) (w : World) (R : w.rowIs X 37 4 f) :
  CallsD Tryz.prog 34 #[.pointer (some ⟨X,0,none⟩)] (.panicking ({ v:=.iface u pv,recovered:=false } :: older)) w fun e u' w'=>
   e = .returned (.tuple #[]) /\ u' = .panicking ({ v:=.iface u pv,recovered:=true } :: older) /\ w' = (((w.setCell ⟨X,0,none⟩ (.int .i64 0)).setCell ⟨X,1,none⟩ (.string ⟨#[]⟩)).setCell ⟨X,2,none⟩ (.slice none 0 0)).setCell ⟨X,3,none⟩ (.slice none 0 0):=by
 have k:=R.cell (i:=0) (by omega);have d:=R.cell (i:=1) (by omega);have a:=R.cell (i:=2) (by omega);have b:=R.cell (i:=3) (by omega);have g:=R.frozen 0;have c:=R.frozen 1;have h:=R.frozen 2;have j:=R.frozen 3;refine callsD_of_wpS Tryz.func34 rfl fun c₀ cs hu=>?_;apply wpS_seq;apply wpS_region;simp [wpOpsS,go_sem,recoverD,hu,Tryz.ntmps34,Exit.thenS];refine wpS_cond (t:=true) (by simp [Act.eval,Array.replicate]) ?_;simp only [if_true];refine wpS_of_wp ?_;go_wp2;simp [bodyPostS,results,Tryz.results34]
theorem qy (X : Nat) (w : World) :
  CallsD Tryz.prog 34 #[.pointer (some ⟨X,0,none⟩)] .returning w fun e u' w'=>e = .returned (.tuple #[]) /\ u' = .returning /\ w' = w:=by
 refine callsD_of_wpS Tryz.func34 rfl fun c₀ cs hu=>?_;apply wpS_seq;apply wpS_region;simp [wpOpsS,go_sem,recoverD,hu,Tryz.ntmps34,Exit.thenS];refine wpS_cond (t:=false) (by simp [Act.eval,Array.replicate]) ?_;simp only [Bool.false_eq_true,if_false];refine wpS_of_wp (wp_skip ?_);cases c₀
 simp_all [bodyPostS,results,Tryz.results34]
theorem ic.mono {B B' : Nat} {w : World} {x : EI × EPl} (h : ic B w x) (hb : B' <= B) : ic B' w x:=⟨h.nm.mono hb,h.ty.mono hb,h.is⟩
theorem OE.mono {B B' : Nat} {w : World} {v : Value} {xs : List (EI × EPl)} (h : OE B w v xs) (hb : B' <= B) : OE B' w v xs:=
 ⟨aq h.own hb,fun x hx=>(h.ok x hx).mono hb,h.nd⟩
theorem fa.mono {B B' : Nat} {w : World} {d : DC} {p : DPl} (h : fa B w d p) (hb : B' <= B) : fa B' w d p:=
 ⟨h.ty.mono hb,h.isT,h.ex.mono hb,h.isE,h.nd⟩
theorem fa.lt {B : Nat} {w : World} {d : DC} {p : DPl} (h : fa B w d p) {b : Nat} (hb : b ∈ dB p) : B <= b /\ b < w.heap.size:=by
 unfold dB at hb;rcases List.mem_append.1 hb with z | z
 ·rcases List.mem_append.1 z with z | z
  ·exact h.ty.own.lt b (by simpa using z)
  ·exact h.ty.names z
 ·rcases List.mem_append.1 z with z | z
  ·exact h.ex.own.lt b (by simpa using z)
  ·obtain ⟨x,a,hb⟩:=gE z
   exact (h.ex.ok x a).lt hb
theorem fa.but {S : List Nat} {B : Nat} {w w' : World} {d : DC} {p : DPl} (h : fa B w d p) (hb : ai S w w') (hS : ∀ b,b ∈ dB p -> b ∉ S) : fa B w' d p:=
 ⟨h.ty.but hb (fun b e=>hS b (by unfold dB;simp [e])) (fun b e=>hS b (by unfold dB;simp [e])),h.isT,h.ex.but hb (fun b e=>hS b (by unfold dB;simp [e])) (fun b e=>hS b (by unfold dB;simp [e])),h.isE,h.nd⟩
theorem pU {W : World} {X : Nat} {f : Nat -> Value} (R : W.rowIs X 37 4 f) (a b c d : Value) (tmps : Array Value) (h2 : tmps[2]?.getD undef = .pointer (some ⟨X,0,none⟩)) :
  (results Tryz.f17 tmps).run Tryz.prog ((((W.setCell ⟨X,0,none⟩ a).setCell ⟨X,1,none⟩ b).setCell ⟨X,2,none⟩ c).setCell ⟨X,3,none⟩ d) = .ok (.agg #[a,b,c,d]) ((((W.setCell ⟨X,0,none⟩ a).setCell ⟨X,1,none⟩ b).setCell ⟨X,2,none⟩ c).setCell ⟨X,3,none⟩ d):=by
 have r:=(((R.set 0 a).set 1 b).set 2 c).set 3 d;obtain ⟨V,e⟩:=xe ((((W.setCell ⟨X,0,none⟩ a).setCell ⟨X,1,none⟩ b).setCell ⟨X,2,none⟩ c).setCell ⟨X,3,none⟩ d);rw [<- e] at r ⊢;clear e R;have k : V.cell? ⟨X,0,none⟩ = some a:=r.cell (i:=0) (by omega);have j : V.cell? ⟨X,1,none⟩ = some b:=r.cell (i:=1) (by omega);have g : V.cell? ⟨X,2,none⟩ = some c:=r.cell (i:=2) (by omega);have h : V.cell? ⟨X,3,none⟩ = some d:=r.cell (i:=3) (by omega);unfold results;rw [show Tryz.f17.results = #[.cell 2 37] from rfl];simp [go_sem,h2,k,j,g,h]
def DA (w : World) (d : DC) (e : Ending) (w' : World) : Prop:=ai [] w w' /\ ∃ p,e = .returned (dV d p) /\ fa w.heap.size w' d p
theorem xN {tb o c : Nat} {ao : Option Addr} {ts : List TK} (HN : iB ts) {eT : TypeId} {eV : Value} {w : World} (htk : dq w tb o ts) (htb : tb < w.heap.size) (ha : 0 < ts.length -> ao = some ⟨tb,o,none⟩) (hc : ts.length <= c) (hev : w.cell? ⟨0,0,none⟩ = some (.iface eT eV)) :
  Calls Tryz.prog 17 #[.slice ao ts.length c] w (DA w (bM true ts)):=by
 have a8 : ∀ (fn : Fn) (first cap : Array Value) (w : World),(Instr.makeFunc fn first cap).run Tryz.prog w = .ok (.func fn first cap) w:=fun _ _ _ _=>rfl;obtain ⟨I,g⟩:=xe ((w.alloc (.cells #[.int .i64 0,.string ⟨#[]⟩,.slice none 0 0,.slice none 0 0] 37)).alloc (.cells #[.slice ao ts.length c] 71));have M : ai [] w I:=by rw [g];exact ((ai.refl _ _).alloc _).alloc _
 have RX : I.rowIs w.heap.size 37 4 (v4 (.int .i64 0) (.string ⟨#[]⟩) (.slice none 0 0) (.slice none 0 0)):=by rw [g];exact (fK _ _ _ _ _ _).alloc _
 have RP : I.rowIs (w.heap.size + 1) 71 1 (fun _=>.slice ao ts.length c):=by
  have:=aK (w.alloc (.cells #[.int .i64 0,.string ⟨#[]⟩,.slice none 0 0,.slice none 0 0] 37)) (.slice ao ts.length c) 71;simp only [World.size_alloc] at this;rw [g];exact this
 have s2 : I.heap.size = w.heap.size + 2:=by rw [g];simp
 have h0:=blt hev;have X : Hid (ag I (w.heap.size + 1) tb o 0 ts eT eV):=⟨⟨ao,c,by rw [Nat.sub_zero];exact RP,fun z=>by rw [ha z];simp,by omega⟩,Nat.zero_le _,htk.but M (by simp),by omega,by omega,M.cell hev (by simp)⟩;have F:=hQx M;have ah:=hQx HN;have hn:=htk.len
 have L : Hid (∀ r,cj true ts = r -> bM true ts = match r with | none=>cK | some (d,j)=>if j = ts.length then d else cK):=by
  show ∀ r,_;intro r D;rw [decR_decl,D];rfl
 clear HN htk ha M RP hev
 go_enter_defers Tryz.func17,Tryz.ntmps17
 go_wp2_with fail;rw [<- g];clear g;refine (AQ ah.out (B:=w.heap.size + 2) (by omega) (by omega) X.out (by omega)).mono ?_;rintro e E ⟨Q,D⟩;have R3:=RX.of_block (Q.block _ RX.lt (by simp));have a7 : Hid (ai [w.heap.size + 1] w E):=(F.out.more (S':=[w.heap.size + 1]) (fun _ z=>by simp at z)).then_ Q;have x : Hid (ai [] w E):=F.out.trans Q (fun k z hk=>by have:=ms1 z;omega);clear Q RX
 cases hd : cj true ts with
 | none=>
   rw [hd] at D;have R : Hid (bM true ts = cK):=L.out none hd;clear hd L;simp only at D;subst D;show bodyPostD _ _ _ _ _ _;refine leaves_cons (f:=34) (args:=#[.pointer (some ⟨w.heap.size,0,none⟩)]) (by simp) (by simp [go_sem]) ?_;refine (lU eT eV [] E R3).mono ?_;rintro e u' J ⟨rfl,rfl,rfl⟩;have a : ∀ {W : World} (n : Nat) (v : Value),ai [] w W -> ai [] w (W.setCell ⟨w.heap.size,n,none⟩ v):=fun n v h=>h.set (fun z=>absurd z (Nat.lt_irrefl _)) n v;refine ⟨_,pU R3 _ _ _ _ _ rfl,?_⟩;rw [R.out];exact ⟨a _ _ (a _ _ (a _ _ (a _ _ x.out))),pN,rfl,j0 _ _ _ _⟩
 | some z=>
   obtain ⟨d,j⟩:=z;rw [hd] at D;have R : Hid (bM true ts = if j = ts.length then d else cK):=L.out _ hd;clear hd L;obtain ⟨p,rfl,q,l,G⟩:=D;obtain ⟨be,c',s,-,a1⟩:=l.box;have a9:=l.le;have ev:=l.ev;obtain ⟨m,hm⟩:=xe (ts.length - j);rw [<- hm] at s a1;have HM : Hid (m = ts.length - j):=hm;have K : Hid (fa (w.heap.size + 2) E d p):=q;obtain ⟨S,O,H⟩:=ad q.ty.own;obtain ⟨N,P,hev⟩:=ad q.ex.own;have HV : Hid (dV d p = .agg #[.int .i64 d.kind,.string d.nm,.slice S p.zs.length O,.slice N p.es.length P]):=by show _ = _;unfold dV;rw [H,hev]
   rw [HV.out];obtain ⟨V,t⟩:=xe (d.kind);obtain ⟨T,u⟩:=xe (d.nm);obtain ⟨U,A⟩:=xe (p.zs.length);obtain ⟨Y,C⟩:=xe (p.es.length);rw [<- t,<- u,<- A,<- C];have Z : Hid (dV d p = .agg #[.int .i64 V,.string T,.slice S U O,.slice N Y P]):=by show _ = _;rw [HV.out,t,u,A,C]
   have c0:=R3.cell (i:=0) (by omega);have c1:=R3.cell (i:=1) (by omega);have c2:=R3.cell (i:=2) (by omega);have c3:=R3.cell (i:=3) (by omega);have z0:=R3.frozen 0;have z1:=R3.frozen 1;have z2:=R3.frozen 2;have z3:=R3.frozen 3;have cp:=s.cell (i:=0) (by omega);have bb : w.heap.size ≠ w.heap.size + 1:=by omega
   have a6 : w.heap.size ≠ 0:=by omega
   clear hm q H hev l s t u A C HV G;by_cases ar : m = 0
   ·subst ar
    go_wp2;refine leaves_cons (f:=34) (args:=#[.pointer (some ⟨w.heap.size,0,none⟩)]) (by simp) (by simp [go_sem]) ?_;refine (qy w.heap.size _).mono ?_;rintro e u' J ⟨rfl,rfl,rfl⟩;have a : ∀ {W : World} (n : Nat) (v : Value),ai [w.heap.size] E W -> ai [w.heap.size] E (W.setCell ⟨w.heap.size,n,none⟩ v):=fun n v h=>h.set (fun z=>by simp) n v;refine ⟨_,pU ((((R3.set 0 _).set 1 _).set 2 _).set 3 _) _ _ _ _ _ rfl,?_⟩;rw [R.out,if_pos (by have:=HM.out;omega)];have hb:=a 3 (.slice N Y P) (a 2 (.slice S U O) (a 1 (.string T) (a 0 (.int .i64 V) (a 3 (.slice N Y P) (a 2 (.slice S U O) (a 1 (.string T) (a 0 (.int .i64 V) (ai.refl _ _))))))));exact ⟨x.out.trans hb (fun k z hk=>by have:=ms1 z;omega),p,by rw [Z.out],(K.out.but hb (fun b z y=>by have:=(K.out.lt z).1;have:=ms1 y;omega)).mono (by omega)⟩
   ·go_wp2
    refine leaves_cons (f:=34) (args:=#[.pointer (some ⟨w.heap.size,0,none⟩)]) (by simp) (by simp [go_sem]) ?_;refine (lU eT eV [] _ ((((R3.set 0 _).set 1 _).set 2 _).set 3 _)).mono ?_;rintro e u' J ⟨rfl,rfl,rfl⟩;have a : ∀ {W : World} (n : Nat) (v : Value),ai [] w W -> ai [] w (W.setCell ⟨w.heap.size,n,none⟩ v):=fun n v h=>h.set (fun z=>absurd z (Nat.lt_irrefl _)) n v;refine ⟨_,pU ((((R3.set 0 _).set 1 _).set 2 _).set 3 _) _ _ _ _ _ rfl,?_⟩;rw [R.out,if_neg (by have:=HM.out;omega)];exact ⟨a _ _ (a _ _ (a _ _ (a _ _ (a _ _ (a _ _ (a _ _ (a _ _ x.out))))))),pN,rfl,j0 _ _ _ _⟩
theorem ey {ts : List TK} {j : Nat} (hj : j < ts.length) : aA ts j = ts[j]:=by
 unfold aA;rw [List.getD_eq_getElem?_getD,List.getElem?_eq_getElem hj];rfl
theorem tA {ts : List TK} (h : ∀ j,j < ts.length -> ((aA ts j).txt.toList == [59]) = false) : semi ts = none:=by
 unfold semi;rw [List.findIdx?_eq_none_iff];intro t b;obtain ⟨j,a,rfl⟩:=List.mem_iff_getElem.1 b;have:=h j a;rw [ey a,ByteArray.toList_eq] at this;exact this
theorem si {ts : List TK} {k : Nat} (hk : k < ts.length) (h1 : ((aA ts k).txt.toList == [59]) = true) (h : ∀ j,j < k -> ((aA ts j).txt.toList == [59]) = false) : semi ts = some k:=by
 unfold semi;rw [List.findIdx?_eq_some_iff_getElem];refine ⟨hk,?_,fun j hj=>?_⟩
 ·rw [ey hk,ByteArray.toList_eq] at h1
  exact h1
 ·have:=h j hj
  rw [ey (by omega),ByteArray.toList_eq] at this;simpa [gx] using this
theorem AA (k0 : Int) (k1 : ByteArray) (k2 : Int) (w : World) :
  Calls Tryz.prog 16 #[.agg #[.int .i64 k0,.string k1,.int .i64 k2]] w fun e w'=>e = .returned (.bool (k1.toList == [59])) /\ Hid (Bw w w'):=by
 go_enter Tryz.func16,Tryz.ntmps16;go_wp2;go_ret;exact ⟨rfl,bel1 _ _⟩
theorem wU {tb o c : Nat} {ao : Option Addr} {ts : List TK} {w : World} (htk : dq w tb o ts) (ha : 0 < ts.length -> ao = some ⟨tb,o,none⟩) :
  Calls Tryz.prog 15 #[.slice ao ts.length c,.func (.func 16) #[] #[]] w fun e w'=>Bw w w' /\ ((e = .returned (.int .i64 (-1)) /\ semi ts = none) \/ ∃ i : Nat,e = .returned (.int .i64 (i : Int)) /\ i < ts.length /\ semi ts = some i):=by
 have H : Hid (∀ w',Bw w w' -> dq w' tb o ts):=fun w' hb=>htk.but (S:=[]) ⟨hb.os,hb.tape,hb.output,hb.size,fun k E _=>hb.block k E⟩ (by simp);have I:=hQx ha;have J:=htk.len;obtain ⟨n,b⟩:=xe (ts.length);have d : Hid (n = ts.length):=b;rw [<- b] at J ⊢;clear htk ha b;go_enter Tryz.func15,Tryz.ntmps15;go_wp2
 go_loopw [8] (fun i wr=>∃ k : Nat,k <= n /\ i = .int .i64 k /\ Hid (Bw w wr) /\ Hid (∀ j,j < k -> ((aA ts j).txt.toList == [59]) = false)) (fun i _=>n - (intOf i).toNat)
 case atStart=>exact ⟨0,Nat.zero_le _,rfl,Below.refl _ _,fun j hj=>absurd hj (Nat.not_lt_zero _)⟩
 case round=>
  obtain ⟨k,E,rfl,m,p⟩:=hrel;by_cases s : k < n
  ·have l:=H.out wr m.out
   have e:=I.out (by have:=d.out;omega);subst e;have z:=l.c0 k (by have:=d.out;omega);have D:=l.c1 k (by have:=d.out;omega);have F:=l.c2 k (by have:=d.out;omega);obtain ⟨A,f⟩:=xe ((aA ts k).cls);obtain ⟨t,a⟩:=xe ((aA ts k).txt);obtain ⟨x,g⟩:=xe (((aA ts k).loc : Int));rw [<- f] at z;rw [<- a] at D;rw [<- g] at F;obtain ⟨r,u⟩:=xe ((t.toList == [59]));have B : Hid (((aA ts k).txt.toList == [59]) = r):=by show _ = _;rw [u,a]
   have C : Hid (Calls Tryz.prog 16 #[.agg #[.int .i64 A,.string t,.int .i64 x]] wr fun e w'=>e = .returned (.bool r) /\ Hid (Bw wr w')):=by
    rw [u];exact AA A t x wr
   clear u f a g l;go_wp2_with fail;refine C.out.mono ?_;rintro e G ⟨rfl,y⟩;have h : Hid (Bw w G):=m.out.trans (y.out.mono m.out.size);clear z D F C y;cases r
   ·go_wp2
    go_roundw
    case rel=>exact ⟨k + 1,by omega,by go_num,h,fun j hj=>by
     by_cases e : j = k
     ·subst e;exact B.out
     ·exact p.out j (by omega)⟩
    case measure=>simp [intOf];omega
   ·have v : Hid (k < ts.length):=by show _ < _;rw [<- d.out];exact s
    go_wp2;go_ret;exact ⟨h.out,Or.inr ⟨k,rfl,by rw [d.out];exact v.out,si v.out B.out p.out⟩⟩
  ·have q : k = n:=by omega
   subst q;go_wp2;go_ret;exact ⟨m.out,Or.inl ⟨rfl,tA (fun j hj=>p.out j (by rw [d.out];exact hj))⟩⟩
end Go.Proofs.YtihedobejcaapaaGreatDoor
namespace Go.Proofs.YtihedobejcaapaaGreatDoor
open Go
theorem oF : ∀ (l : List UInt8) (a : Nat),(∀ c,c ∈ l -> dg (c.toNat : Int) = true) -> ∃ n : Nat,Lib.decFrom a l = some n /\ l.foldl (fun n c=>n * 10 + ((c.toNat : Int) - 48)) (a : Int) = (n : Int)
 | [],a,_=>⟨a,rfl,rfl⟩
 | c :: l,a,h=>by
   have hc:=h c (by simp);unfold dg at hc;have hc':=of_decide_eq_true hc;obtain ⟨n,h1,h2⟩:=oF l (a * 10 + (c.toNat - 48)) (fun x hx=>h x (by simp [hx]));have e : Lib.digitVal c = some (c.toNat - 48):=by unfold Lib.digitVal;rw [if_pos (by omega)]
   refine ⟨n,?_,?_⟩
   ·have:=h1
    simp only [Lib.decFrom,e];exact this
   ·rw [<- h2]
    show l.foldl _ ((a : Int) * 10 + ((c.toNat : Int) - 48)) = _;congr 1;omega
theorem vy {l : List UInt8} (h0 : l ≠ []) (hd : ∀ c,c ∈ l -> dg (c.toNat : Int) = true) : Lib.atoi l = some (ib l):=by
 obtain ⟨n,d,f⟩:=oF l 0 hd
 cases l with
 | nil=>exact absurd rfl h0
 | cons b r=>
   have a:=hd b (by simp);unfold dg at a;have g:=of_decide_eq_true a;show (if (b == 45) = true then (Lib.decNat r).map fun (m : Nat)=>-(m : Int) else if (b == 43) = true then (Lib.decNat r).map fun (m : Nat)=>(m : Int) else (Lib.decNat (b :: r)).map fun (m : Nat)=>(m : Int)) = _;have e : ¬ (b == 45) = true:=fun h=>by have:=beq_iff_eq.1 h;subst this;have : (45 : UInt8).toNat = 45:=rfl;omega
   have i : ¬ (b == 43) = true:=fun h=>by have:=beq_iff_eq.1 h;subst this;have : (43 : UInt8).toNat = 43:=rfl;omega
   rw [if_neg e,if_neg i];unfold Lib.decNat;rw [if_neg (by simp),d];show some (n : Int) = some (ib (b :: r));rw [<- f];rfl
end Go.Proofs.YtihedobejcaapaaGreatDoor
namespace Go.Proofs.YtihedobejcaapaaGreatDoor
theorem rA {p : Int -> Bool} {s : ByteArray} : ∀ (n i j : Nat),s.size - i <= n -> j < Go.Proofs.YtihedobejcaapaaGreatDoor.run p s i -> p (bt s (i + j)) = true
 | 0,i,j,hn,hj=>by rw [fu (by omega)] at hj;omega
 | n + 1,i,j,hn,hj=>by
   by_cases hi : i < s.size
   ·cases hp : p (bt s i) with
    | false=>rw [eU hi hp] at hj;omega
    | true=>
      rw [fk hi hp] at hj
      cases j with
      | zero=>exact hp
      | succ j=>
        have:=rA (p:=p) (s:=s) n (i + 1) j (by omega) (by omega)
        rwa [show i + 1 + j = i + (j + 1) by omega] at this
   ·rw [fu hi] at hj;omega
theorem gX {s : ByteArray} : ∀ (n i : Nat) (t : TK),s.size - i <= n -> t ∈ iZ s i -> ∃ k,k < s.size /\ t = ⟨cls (gC s k).toList,gC s k,k⟩
 | 0,i,t,hn,ht=>by rw [fI (by omega)] at ht;cases ht
 | n + 1,i,t,hn,ht=>by
   by_cases hi : i < s.size
   ·have hp:=dU s i
    cases hb : blk s i with
    | true=>
      rw [gQ hi hb] at ht;exact gX n _ t (by omega) ht
    | false=>
      rw [gO hi hb] at ht;rcases List.mem_cons.1 ht with e | e
      ·exact ⟨i,hi,e⟩
      ·exact gX n _ t (by omega) e
   ·rw [fI hi] at ht;cases ht
theorem wV {s : ByteArray} {k : Nat} (hk : k < s.size) (hd : dg (bt s k) = true) : ∀ c,c ∈ (gC s k).data.toList -> dg (c.toNat : Int) = true:=fun c hc=>by
 have hd':=hd;unfold dg at hd';simp only [decide_eq_true_eq] at hd'
 have hl : aR s k = 1 + Go.Proofs.YtihedobejcaapaaGreatDoor.run dg s (k + 1):=by
  unfold aR;rw [if_neg (by omega),if_neg (by omega),if_neg (by unfold sl;simp only [decide_eq_true_eq];omega),if_pos hd]
 have f:=eZ hk;have d:=iO hk;obtain ⟨j,g,e⟩:=List.mem_iff_getElem.1 hc;have a : j < aR s k:=by rw [<- f];simpa using g
 have b : c = s[k + j]'(by omega):=by
  rw [<- e];show (gC s k)[j]'(by omega) = _;unfold gC;rw [ByteArray.getElem_extract]
 rw [b,<- eA]
 cases j with
 | zero=>exact hd
 | succ j=>
   have:=rA (p:=dg) (s:=s) s.size (k + 1) j (by omega) (by omega)
   rwa [show k + 1 + j = k + (j + 1) by omega] at this
structure iD (ts : List TK) : Prop where
 sz : ∀ t,t ∈ ts -> t.txt.size <= 1000
 gd : ∀ t,t ∈ ts -> t.cls = cls t.txt.toList
 dig : ∀ t,t ∈ ts -> num t.txt.toList = true -> ∀ c,c ∈ t.txt.data.toList -> dg (c.toNat : Int) = true
 pos : ∀ t,t ∈ ts -> 0 < t.txt.size
theorem iD.sub {ts us : List TK} (h : iD ts) (hs : ∀ t,t ∈ us -> t ∈ ts) : iD us:=
 ⟨fun t ht=>h.sz t (hs t ht),fun t ht=>h.gd t (hs t ht),fun t ht=>h.dig t (hs t ht),fun t ht=>h.pos t (hs t ht)⟩
theorem rO (s : ByteArray) : iD (bB s):=by
 unfold bB
 split
 ·rename_i h1
  refine ⟨fun t ht=>?_,fun t ht=>?_,fun t ht hn=>?_,fun t ht=>?_⟩
  ·obtain ⟨k,a,rfl⟩:=gX s.size 0 t (by omega) ht
   show (gC s k).size <= 1000;have:=iO a;rw [eZ a];omega
  ·obtain ⟨k,a,rfl⟩:=gX s.size 0 t (by omega) ht
   rfl
  ·obtain ⟨k,a,rfl⟩:=gX s.size 0 t (by omega) ht
   refine wV a ?_;rw [<- ox a];have b : num (gC s k).toList = true:=hn;unfold num at b;simp only [Bool.and_eq_true] at b;exact b.1
  ·obtain ⟨k,a,rfl⟩:=gX s.size 0 t (by omega) ht
   show 0 < (gC s k).size;rw [eZ a];exact dU s k
 ·exact ⟨(fun t ht=>by cases ht),(fun t ht=>by cases ht),(fun t ht=>by cases ht),(fun t ht=>by cases ht)⟩
theorem i6 (s : ByteArray) : (bB s).length <= 1000:=by
 unfold bB
 split
 ·have:=mZ (s:=s) (i:=0)
  omega
 ·exact Nat.zero_le _
theorem zR {ts : List TK} {i : Nat} (hi : i < ts.length) : ∃ t,t ∈ ts /\ t.txt = tx ts i:=by
 refine ⟨ts[i],List.getElem_mem hi,?_⟩;unfold tx;rw [List.getElem?_eq_getElem hi];rfl
theorem iD.number {ts : List TK} (h : iD ts) {i : Nat} (hi : i < ts.length) (hn : num (tx ts i).toList = true) :
  (tx ts i).data.toList ≠ [] /\ (tx ts i).data.toList.length <= 9 /\ ∀ c,c ∈ (tx ts i).data.toList -> dg (c.toNat : Int) = true:=by
 obtain ⟨t,a,e⟩:=zR hi;rw [<- e] at hn ⊢;refine ⟨fun e0=>?_,?_,h.dig t a hn⟩
 ·have:=h.pos t a
  have b : t.txt.size = t.txt.data.toList.length:=(Array.length_toList).symm;rw [b,e0] at this;exact absurd this (by decide)
 ·unfold num at hn
  simp only [Bool.and_eq_true,Bool.not_eq_true',decide_eq_false_iff_not] at hn;have:=hn.2;rw [ByteArray.toList_eq] at this;omega
end Go.Proofs.YtihedobejcaapaaGreatDoor
namespace Go.Proofs.YtihedobejcaapaaGreatDoor
open Go.RowKit
theorem mf (st : Bool) : ∀ (f g : Nat) (ts : List TK),ts.length < f -> ts.length < g -> cF st f ts = cF st g ts
 | 0,_,_,h,_=>absurd h (Nat.not_lt_zero _)
 | _ + 1,0,_,_,h=>absurd h (Nat.not_lt_zero _)
 | f + 1,g + 1,ts,h1,h2=>by
   rw [cF,cF]
   cases ts with
   | nil=>rfl
   | cons t l=>
     simp only [List.isEmpty_cons,Bool.false_eq_true,if_false]
     cases semi (t :: l) with
     | none=>rfl
     | some k=>
       show _ :: cF st f _ = _ :: cF st g _;rw [mf st f g _ (by simp at h1 ⊢;omega) (by simp at h2 ⊢;omega)]
theorem oB (st : Bool) (f : Nat) : cF st f [] = []:=by cases f <;> rfl
theorem sK {st : Bool} {ts : List TK} (h : ts ≠ []) (hs : semi ts = none) : cF st (ts.length + 1) ts = [cK]:=by
 rw [cF]
 cases ts with
 | nil=>exact absurd rfl h
 | cons t l=>simp only [List.isEmpty_cons,Bool.false_eq_true,if_false,hs]
theorem jx {st : Bool} {ts : List TK} {k : Nat} (hk : k < ts.length) (hs : semi ts = some k) : cF st (ts.length + 1) ts = bM st (ts.take k) :: cF st ((ts.drop (k + 1)).length + 1) (ts.drop (k + 1)):=by
 rw [cF]
 cases ts with
 | nil=>exact absurd hk (Nat.not_lt_zero _)
 | cons t l=>
   simp only [List.isEmpty_cons,Bool.false_eq_true,if_false,hs];rw [mf st _ (((t :: l).drop (k + 1)).length + 1) _ (by simp;omega) (by omega)]
def fU (x : DC × DPl) : List Value:=[.int .i64 x.1.kind,.string x.1.nm,x.2.tv,x.2.ev]
def bj (xs : List (DC × DPl)) : List Value:=xs.flatMap fU
theorem gU (xs : List (DC × DPl)) (x : DC × DPl) : bj (xs ++ [x]) = bj xs ++ fU x:=by simp [bj]
def lg (xs : List (DC × DPl)) : List Nat:=xs.flatMap fun x=>dB x.2
theorem lD (xs : List (DC × DPl)) (x : DC × DPl) : lg (xs ++ [x]) = lg xs ++ dB x.2:=by simp [lg]
theorem uF {xs : List (DC × DPl)} {b : Nat} (h : b ∈ lg xs) : ∃ x,x ∈ xs /\ b ∈ dB x.2:=List.mem_flatMap.1 h
theorem nU {xs : List (DC × DPl)} {x : DC × DPl} {b : Nat} (hx : x ∈ xs) (hb : b ∈ dB x.2) : b ∈ lg xs:=List.mem_flatMap.2 ⟨x,hx,hb⟩
structure OD (B : Nat) (w : World) (v : Value) (xs : List (DC × DPl)) : Prop where
 own : w.ownsRow B 37 4 v xs.length (bj xs)
 ok : ∀ x,x ∈ xs -> fa B w x.1 x.2
 nd : (lg xs).Nodup
 sep : ∀ b,b ∈ lg xs -> v.ownBlock ≠ some b
theorem OD.nil (B : Nat) (w : World) : OD B w (.slice none 0 0) []:=⟨World.ownsRow_nil _ _ _ _,(fun x hx=>by cases hx),List.nodup_nil,(fun b hb=>by cases hb)⟩
theorem OD.lt {B : Nat} {w : World} {v : Value} {xs : List (DC × DPl)} (h : OD B w v xs) {b : Nat} (hb : b ∈ lg xs) : B <= b /\ b < w.heap.size:=by
 obtain ⟨x,a,hb⟩:=uF hb;exact (h.ok x a).lt hb
theorem OD.but {S : List Nat} {B : Nat} {w w' : World} {v : Value} {xs : List (DC × DPl)} (h : OD B w v xs) (hb : ai S w w') (h1 : ∀ b,v.ownBlock = some b -> b ∉ S) (h2 : ∀ b,b ∈ lg xs -> b ∉ S) : OD B w' v xs:=
 ⟨aG h.own (fun k e=>hb.block k (h.own.lt k e.symm).2 (h1 k e.symm)),fun x hx=>(h.ok x hx).but hb (fun b z=>h2 b (nU hx z)),h.nd,h.sep⟩
theorem OD.low {S : List Nat} {B : Nat} {w w' : World} {v : Value} {xs : List (DC × DPl)} (h : OD B w v xs) (hb : ai S w w') (hS : ∀ b,b ∈ S -> b < B \/ w.heap.size <= b) : OD B w' v xs:=
 h.but hb (fun b e z=>by have:=h.own.lt b e;have:=hS b z;omega) (fun b e z=>by have:=h.lt e;have:=hS b z;omega)
theorem OD.mono {B B' : Nat} {w : World} {v : Value} {xs : List (DC × DPl)} (h : OD B w v xs) (hb : B' <= B) : OD B' w v xs:=
 ⟨aq h.own hb,fun x hx=>(h.ok x hx).mono hb,h.nd,h.sep⟩
theorem OD.push {B : Nat} {w w3 : World} {v : Value} {xs : List (DC × DPl)} {x : DC × DPl} {o : Obj} {gg cap3 M : Nat} (h : OD B w v xs)
  (hown : w3.ownsRow B 37 4 (.slice (some ⟨gg,0,none⟩) (xs.length + 1) cap3) (xs.length + 1) (bj xs ++ fU x)) (hg : (w.alloc o).grownBy w3 v.ownBlock) (hat : v.ownBlock = some gg \/ gg = w.heap.size + 1)
  (hx : fa B w x.1 x.2) (hM : ∀ b,b ∈ dB x.2 -> M <= b) (hv : ∀ b,v.ownBlock = some b -> b < M) (hxs : ∀ b,b ∈ lg xs -> b < M) :
  OD B w3 (.slice (some ⟨gg,0,none⟩) (xs.length + 1) cap3) (xs ++ [x]):=by
 have c:=dS hg;refine ⟨by rw [gU,lap];exact hown,fun y hy=>?_,?_,fun b hb'=>?_⟩
 ·rcases List.mem_append.1 hy with z | z
  ·exact (h.ok y z).but c (fun b c=>by simp only [Option.mem_toList];exact h.sep b (nU z c))
  ·rw [ms1 z]
   exact hx.but c (fun b c=>by simp only [Option.mem_toList];intro e;have:=hv b e;have:=hM b c;omega)
 ·rw [lD]
  refine List.nodup_append.2 ⟨h.nd,hx.nd,fun a ha b c e=>?_⟩;have:=hxs a ha;have:=hM b c;omega
 ·rw [lD] at hb'
  intro e;have d : gg = b:=by simpa [Value.ownBlock] using e
  subst d;rcases List.mem_append.1 hb' with z | z
  ·rcases hat with q | q
   ·exact h.sep _ z q
   ·have:=(h.lt z).2;omega
  ·rcases hat with q | q
   ·have:=hv _ q;have:=hM _ z;omega
   ·have:=(hx.lt z).2;omega
def Dg (w : World) (d : DC) (e : Ending) (w' : World) : Prop:=∃ p dk dn ta tn tc ea en ec,e = .returned (.agg #[.int .i64 dk,.string dn,.slice ta tn tc,.slice ea en ec]) /\ Hid (fU (d,p) = [.int .i64 dk,.string dn,.slice ta tn tc,.slice ea en ec]) /\ Hid (fa w.heap.size w' d p) /\ Hid (ai [] w w')
theorem vx {tb o c : Nat} {ao : Option Addr} {ts : List TK} (HN : iB ts) {eT : TypeId} {eV : Value} {w : World} (htk : dq w tb o ts) (htb : tb < w.heap.size) (ha : 0 < ts.length -> ao = some ⟨tb,o,none⟩) (hc : ts.length <= c) (hev : w.cell? ⟨0,0,none⟩ = some (.iface eT eV)) :
  Calls Tryz.prog 17 #[.slice ao ts.length c] w (Dg w (bM true ts)):=by
 refine (xN HN htk htb ha hc hev).mono ?_;rintro e j ⟨h,p,rfl,a⟩;obtain ⟨g,d,b⟩:=ad a.ty.own;obtain ⟨i,f,hev⟩:=ad a.ex.own;refine ⟨p,(bM true ts).kind,(bM true ts).nm,g,p.zs.length,d,i,p.es.length,f,?_,?_,a,h⟩
 ·unfold dV;rw [b,hev]
 ·show fU _ = _;unfold fU;rw [b,hev]
end Go.Proofs.YtihedobejcaapaaGreatDoor
