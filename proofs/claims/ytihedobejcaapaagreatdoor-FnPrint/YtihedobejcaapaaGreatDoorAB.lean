/-
  PeA PeB PeC PeD PeE
-/
import Derived.Test.YtihedobejcaapaaGreatDoorAA
set_option maxHeartbeats 2000000
set_option maxRecDepth 100000
namespace Go.Proofs.YtihedobejcaapaaGreatDoor
open Go.RowKit
def cj (st : Bool) (ts : List TK) : Option (DC × Nat):=
 if isT ts 0 bY then (if cr ts 1 1 then some (⟨1,tx ts 1,[],[]⟩,2) else none)
 else if isT ts 0 ik then
  if cr ts 1 1 && isT ts 2 gh then
   match tyP st ts (ts.length + 1) 3 with
   | none=>none
   | some (t,j)=>some (⟨2,tx ts 1,t,[]⟩,j)
  else none
 else if isT ts 0 qd then
  if cr ts 1 1 && isT ts 2 aB then
   match tyP st ts (ts.length + 1) 3 with
   | none=>none
   | some (t,j)=>
     if isT ts j gh then
      match ay st ts (ts.length + 1) (j + 1) with
      | none=>none
      | some (x,k)=>some (⟨3,tx ts 1,t,x⟩,k)
     else none
  else none
 else none
theorem decR_decl (st : Bool) (ts : List TK) : bM st ts = match cj st ts with
  | none=>cK
  | some (d,j)=>if j = ts.length then d else cK:=by
 unfold bM cj
 cases h0 : isT ts 0 bY with
 | true=>
   cases h1 : cr ts 1 1 with
   | true=>
     show (if ts.length = 2 then _ else cK) = if 2 = ts.length then _ else cK
     by_cases e : ts.length = 2
     ·rw [if_pos e,if_pos e.symm]
     ·rw [if_neg e,if_neg (fun z=>e z.symm)]
   | false=>rfl
 | false=>
   cases h2 : isT ts 0 ik with
   | true=>
     cases h1 : cr ts 1 1 with
     | true=>
       cases h3 : isT ts 2 gh with
       | true=>
         show (match tyP st ts (ts.length + 1) 3 with | none=>cK | some (t,j)=>if j = ts.length then _ else cK) = _
         cases tyP st ts (ts.length + 1) 3 with
         | none=>rfl
         | some r=>rfl
       | false=>rfl
     | false=>rfl
   | false=>
     cases h4 : isT ts 0 qd with
     | true=>
       cases h1 : cr ts 1 1 with
       | true=>
         cases h3 : isT ts 2 aB with
         | true=>
           show (match tyP st ts (ts.length + 1) 3 with | none=>cK | some (t,j)=>if isT ts j gh = true then _ else cK) = _
           cases tyP st ts (ts.length + 1) 3 with
           | none=>rfl
           | some r=>
             obtain ⟨t,j⟩:=r;show (if isT ts j gh = true then (match ay st ts (ts.length + 1) (j + 1) with | none=>cK | some (x,k)=>if k = ts.length then _ else cK) else cK) = _
             cases h5 : isT ts j gh with
             | true=>
               cases h6 : ay st ts (ts.length + 1) (j + 1) with
               | none=>simp [h5,h6]
               | some r=>simp [h5,h6]
             | false=>simp [h5]
         | false=>rfl
       | false=>rfl
     | false=>
       cases h1 : cr ts 1 1 <;> rfl
structure DPl where
 tv : Value
 zs : List (TI × NPl)
 ev : Value
 es : List (EI × EPl)
def pN : DPl:=⟨.slice none 0 0,[],.slice none 0 0,[]⟩
def dV (d : DC) (p : DPl) : Value:=.agg #[.int .i64 d.kind,.string d.nm,p.tv,p.ev]
def dB (p : DPl) : List Nat:=(p.tv.ownBlock.toList ++ aS p.zs) ++ (p.ev.ownBlock.toList ++ bd p.es)
theorem OE.nil (B : Nat) (w : World) : OE B w (.slice none 0 0) []:=⟨World.ownsRow_nil _ _ _ _,(fun x hx=>by cases hx),List.nodup_nil⟩
structure fa (B : Nat) (w : World) (d : DC) (p : DPl) : Prop where
 ty : OT B w p.tv p.zs
 isT : p.zs.map Prod.fst = d.ty
 ex : OE B w p.ev p.es
 isE : p.es.map Prod.fst = d.ex
 nd : (dB p).Nodup
theorem j0 (B : Nat) (w : World) (k : Int) (nm : ByteArray) : fa B w ⟨k,nm,[],[]⟩ pN:=⟨OT.nil _ _,rfl,OE.nil _ _,rfl,List.nodup_nil⟩
theorem yw : dB pN = []:=rfl
def Bu (B P tb o : Nat) (ts : List TK) (eT : TypeId) (eV : Value) (w : World) (r : Option (DC × Nat)) (e : Ending) (w' : World) : Prop:=
 ai [P] w w' /\ match r with
 | none=>e = .panicked [{ v:=.iface eT eV,recovered:=false }]
 | some (d,j)=>∃ p,e = .returned (dV d p) /\ fa B w' d p /\ ag w' P tb o j ts eT eV /\ ∀ b,b ∈ dB p -> w.heap.size <= b
def v4 (a b c d : Value) : Nat -> Value:=fun i=>if i = 0 then a else if i = 1 then b else if i = 2 then c else d
theorem fK (w : World) (a b c d : Value) (t : TypeId) : (w.alloc (.cells #[a,b,c,d] t)).rowIs w.heap.size t 4 (v4 a b c d):=
 World.rowIs_alloc w #[a,b,c,d] t _ (fun i hi=>by
  match i,hi with
  | 0,_=>rfl
  | 1,_=>rfl
  | 2,_=>rfl
  | 3,_=>rfl)
theorem qF {W : World} {X : Nat} {f : Nat -> Value} (R : W.rowIs X 37 4 f) (a b c d : Value) (tmps : Array Value) (h2 : tmps[2]?.getD undef = .pointer (some ⟨X,0,none⟩)) :
  (results Tryz.f35 tmps).run Tryz.prog ((((W.setCell ⟨X,0,none⟩ a).setCell ⟨X,1,none⟩ b).setCell ⟨X,2,none⟩ c).setCell ⟨X,3,none⟩ d) = .ok (.agg #[a,b,c,d]) ((((W.setCell ⟨X,0,none⟩ a).setCell ⟨X,1,none⟩ b).setCell ⟨X,2,none⟩ c).setCell ⟨X,3,none⟩ d):=by
 have r:=(((R.set 0 a).set 1 b).set 2 c).set 3 d;obtain ⟨V,e⟩:=xe ((((W.setCell ⟨X,0,none⟩ a).setCell ⟨X,1,none⟩ b).setCell ⟨X,2,none⟩ c).setCell ⟨X,3,none⟩ d);rw [<- e] at r ⊢;clear e R;have k : V.cell? ⟨X,0,none⟩ = some a:=r.cell (i:=0) (by omega);have j : V.cell? ⟨X,1,none⟩ = some b:=r.cell (i:=1) (by omega);have g : V.cell? ⟨X,2,none⟩ = some c:=r.cell (i:=2) (by omega);have h : V.cell? ⟨X,3,none⟩ = some d:=r.cell (i:=3) (by omega);unfold results;rw [show Tryz.f35.results = #[.cell 2 37] from rfl];simp [go_sem,h2,k,j,g,h]
theorem jQ (a c s : Value) (w : World) : Sem.run Tryz.prog (Instr.field 45 (.agg #[a,s,c]) 1) w = .ok (s) w:=by
 kernel_rfl
theorem pn {B P tb o : Nat} {ts : List TK} {eT : TypeId} {eV : Value} (hP : P < B) (htb : tb < B) {w : World} (hps : ag w P tb o 0 ts eT eV) (hB : B <= w.heap.size) (hs : isT ts 0 bY = true) :
  Calls Tryz.prog 35 #[.pointer (some ⟨P,0,none⟩)] w (Bu B P tb o ts eT eV w (cj true ts)):=by
 have G:=aL hs;have H : ((aA ts 0).txt.toList == [105,109,112,111,114,116]) = true:=aY hs;have F:=hQx hps;have R:=hps.pos;clear hps;obtain ⟨t,a⟩:=xe (w.alloc (.cells #[.int .i64 0,.string ⟨#[]⟩,.slice none 0 0,.slice none 0 0] 37));have l : Hid (ai [] w t):=by show ai [] w t;rw [a];exact (ai.refl _ _).alloc _
 have y : t.rowIs w.heap.size 37 4 (v4 (.int .i64 0) (.string ⟨#[]⟩) (.slice none 0 0) (.slice none 0 0)):=by rw [a];exact fK _ _ _ _ _ _
 go_enter Tryz.func35,Tryz.ntmps35;go_wp2_with fail;rw [<- a];clear a;refine (bm t (F.out.but l.out (by simp) (by simp) (by simp)) G).mono ?_;rintro e p ⟨rfl,E,A⟩;unfold km;obtain ⟨Q,j⟩:=xe ((aA ts 0).cls);obtain ⟨T,d⟩:=xe ((aA ts 0).txt);obtain ⟨N,k⟩:=xe (((aA ts 0).loc : Int));rw [<- d] at H;rw [<- j,<- d,<- k];clear j d k;have m : Hid (ag p P tb o 1 ts eT eV):=E;have g : Hid (ai [P] w p):=(l.out.more (S':=[P]) (fun _ z=>by simp at z)).then_ A;have C:=y.of_block (A.block _ y.lt (by simp;omega));clear E A y;go_wp2_with fail;rw [jQ];go_wp2_with fail;cases hc : cr ts 1 1
 case false=>
  have x : Hid (cj true ts = none):=by show _ = _;unfold cj;rw [if_pos hs,hc];rfl
  refine (cJ p m.out hc).mono ?_;rintro e r ⟨rfl,f⟩;have c : Hid (ai [P] w r):=g.out.then_ f;clear hs hc f;go_wp2;exact ⟨rfl,by rw [x.out];exact ⟨c.out,rfl⟩⟩
 have x : Hid (cj true ts = some (⟨1,tx ts 1,[],[]⟩,2)):=by show _ = _;unfold cj;rw [if_pos hs,hc];rfl
 refine (fY p m.out hc).mono ?_;rintro e r ⟨rfl,D,f⟩;have u : Hid (ag r P tb o 2 ts eT eV):=D;have c : Hid (ai [P] w r):=g.out.then_ f;have R3:=C.of_block (f.block _ C.lt (by simp;omega));have U:=R3.cell (i:=0) (by omega);have K:=R3.cell (i:=1) (by omega);have M:=R3.cell (i:=2) (by omega);have I:=R3.cell (i:=3) (by omega);have L:=R3.frozen 0;have J:=R3.frozen 1;have S:=R3.frozen 2;have O:=R3.frozen 3;clear hs hc D f C;go_wp2;refine bodyPost_ret (qF R3 _ _ _ _ _ rfl) rfl ?_;rw [x.out];have s : ∀ {W : World} (n : Nat) (v : Value),ai [P] w W -> ai [P] w (W.setCell ⟨w.heap.size,n,none⟩ v):=fun n v h=>h.set (fun z=>absurd z (Nat.lt_irrefl _)) n v;have q : ∀ {W : World} (n : Nat) (v : Value),ag W P tb o 2 ts eT eV -> ag (W.setCell ⟨w.heap.size,n,none⟩ v) P tb o 2 ts eT eV:=fun n v h=>h.but ((ai.refl [w.heap.size] _).set (fun _=>by simp) n v) (by simp;omega) (by simp;omega) (by simp;omega);exact ⟨s _ _ (s _ _ (s _ _ (s _ _ c.out))),pN,rfl,j0 _ _ _ _,q _ _ (q _ _ (q _ _ (q _ _ u.out))),fun b hb=>by rw [yw] at hb;cases hb⟩
theorem se {B P tb o : Nat} {ts : List TK} {eT : TypeId} {eV : Value} {w : World} (hps : ag w P tb o 0 ts eT eV) (hs : isT ts 0 bY = false) (hs1 : isT ts 0 ik = false) (hs2 : isT ts 0 qd = false) :
  Calls Tryz.prog 35 #[.pointer (some ⟨P,0,none⟩)] w (Bu B P tb o ts eT eV w (cj true ts)):=by
 have m : Hid (cj true ts = none):=by show _ = _;unfold cj;rw [hs,hs1,hs2];rfl
 have k:=hQx hps;have A:=hps.pos;clear hps;obtain ⟨h,b⟩:=xe (w.alloc (.cells #[.int .i64 0,.string ⟨#[]⟩,.slice none 0 0,.slice none 0 0] 37));have a : Hid (ai [] w h):=by show ai [] w h;rw [b];exact (ai.refl _ _).alloc _
 go_enter Tryz.func35,Tryz.ntmps35;go_wp2_with fail;rw [<- b];clear b;by_cases f : 0 < ts.length
 case neg=>
  refine (gZ h (k.out.but a.out (by simp) (by simp) (by simp)) f).mono ?_;rintro e t ⟨rfl,l⟩;have j : Hid (ai [P] w t):=(a.out.more (S':=[P]) (fun _ z=>by simp at z)).then_ l;clear l;go_wp2;exact ⟨rfl,by rw [m.out];exact ⟨j.out,rfl⟩⟩
 have u : ((aA ts 0).txt.toList == [105,109,112,111,114,116]) = false:=cB f hs;have r : ((aA ts 0).txt.toList == [116,121,112,101]) = false:=cB f hs1;have s : ((aA ts 0).txt.toList == [118,97,108]) = false:=cB f hs2;clear hs hs1 hs2;refine (bm h (k.out.but a.out (by simp) (by simp) (by simp)) f).mono ?_;rintro e q ⟨rfl,p,n⟩;unfold km;obtain ⟨y,d⟩:=xe ((aA ts 0).cls);obtain ⟨C,c⟩:=xe ((aA ts 0).txt);obtain ⟨x,g⟩:=xe (((aA ts 0).loc : Int));rw [<- c] at u r s;rw [<- d,<- c,<- g];clear d c g;have v:=p.ev;have i : Hid (ai [P] w q):=(a.out.more (S':=[P]) (fun _ z=>by simp at z)).then_ n;clear p n;go_wp2_with fail;rw [jQ];go_wp2;exact ⟨rfl,by rw [m.out];exact ⟨i.out,rfl⟩⟩
theorem vW {B : Nat} {w : World} {v : Value} {ys : List (TI × NPl)} (h : OT B w v ys) {l : List TI} (hm : ys.map Prod.fst = l) (k : Int) (nm : ByteArray) : fa B w ⟨k,nm,l,[]⟩ ⟨v,ys,.slice none 0 0,[]⟩:=
 ⟨h,hm,OE.nil _ _,rfl,by
  show ((v.ownBlock.toList ++ aS ys) ++ []).Nodup;rw [List.append_nil]
  cases hv : v.ownBlock with
  | none=>exact h.nd
  | some b=>exact List.nodup_cons.2 ⟨fun hb=>h.sep hb hv,h.nd⟩⟩
theorem dB_typed {v : Value} {ys : List (TI × NPl)} {b : Nat} (h : b ∈ dB ⟨v,ys,.slice none 0 0,[]⟩) : v.ownBlock = some b \/ b ∈ aS ys:=by
 have a : b ∈ (v.ownBlock.toList ++ aS ys) ++ []:=h;rw [List.append_nil,List.mem_append] at a;exact a.imp (fun z=>by simpa using z) id
theorem tq {B P tb o : Nat} {ts : List TK} {eT : TypeId} {eV : Value} (hP : P < B) (htb : tb < B) {w : World} (hps : ag w P tb o 0 ts eT eV) (hB : B <= w.heap.size) (hs : isT ts 0 ik = true) :
  Calls Tryz.prog 35 #[.pointer (some ⟨P,0,none⟩)] w (Bu B P tb o ts eT eV w (cj true ts)):=by
 have hi:=aL hs;have q0 : ((aA ts 0).txt.toList == [105,109,112,111,114,116]) = false:=aM hs _ (by decide);have q1 : ((aA ts 0).txt.toList == [116,121,112,101]) = true:=aY hs
 have HS : Hid (cj true ts = if cr ts 1 1 && isT ts 2 gh then (match tyP true ts (ts.length + 1) 3 with | none=>none | some (t,j)=>some (⟨2,tx ts 1,t,[]⟩,j)) else none):=by
  show _ = _
  have e0 : isT ts 0 bY = false:=by
   cases e : isT ts 0 bY with
   | false=>rfl
   | true=>rw [show ((aA ts 0).txt.toList == [105,109,112,111,114,116]) = true from aY e] at q0;cases q0
  unfold cj;rw [e0,hs];rfl
 have HP:=hQx hps;have h0:=hps.pos;clear hps;obtain ⟨W1,m⟩:=xe (w.alloc (.cells #[.int .i64 0,.string ⟨#[]⟩,.slice none 0 0,.slice none 0 0] 37));have M : Hid (ai [] w W1):=by show ai [] w W1;rw [m];exact (ai.refl _ _).alloc _
 have RR : W1.rowIs w.heap.size 37 4 (v4 (.int .i64 0) (.string ⟨#[]⟩) (.slice none 0 0) (.slice none 0 0)):=by rw [m];exact fK _ _ _ _ _ _
 go_enter Tryz.func35,Tryz.ntmps35;go_wp2_with fail;rw [<- m];clear m;refine (bm W1 (HP.out.but M.out (by simp) (by simp) (by simp)) hi).mono ?_;rintro e X ⟨rfl,p2,b2⟩;unfold km;obtain ⟨k0,K⟩:=xe ((aA ts 0).cls);obtain ⟨k1,E⟩:=xe ((aA ts 0).txt);obtain ⟨k2,R⟩:=xe (((aA ts 0).loc : Int));rw [<- E] at q0 q1;rw [<- K,<- E,<- R];clear K E R hs;have T : Hid (ag X P tb o 1 ts eT eV):=p2;have U : Hid (ai [P] w X):=(M.out.more (S':=[P]) (fun _ z=>by simp at z)).then_ b2;have R2:=RR.of_block (b2.block _ RR.lt (by simp;omega));clear p2 b2 RR;go_wp2_with fail;rw [jQ];go_wp2_with fail;cases hc : cr ts 1 1
 case false=>
  have D : Hid (cj true ts = none):=by show _ = _;rw [HS.out,hc];rfl
  refine (cJ X T.out hc).mono ?_;rintro e c ⟨rfl,F⟩;have C : Hid (ai [P] w c):=U.out.then_ F;clear hc F;go_wp2;exact ⟨rfl,by rw [D.out];exact ⟨C.out,rfl⟩⟩
 refine (fY X T.out hc).mono ?_;rintro e c ⟨rfl,p3,F⟩;have a3 : Hid (ag c P tb o 2 ts eT eV):=p3;have C : Hid (ai [P] w c):=U.out.then_ F;have R3:=R2.of_block (F.block _ R2.lt (by simp;omega));have HC : Hid (cr ts 1 1 = true):=hc;clear hc p3 F R2;go_wp2_with fail;obtain ⟨u,f⟩:=xe (c.alloc (.cells #[.int .i64 2,.string (tx ts 1),.slice none 0 0,.slice none 0 0] 37));have V : Hid (ai [P] w u):=by show ai [P] w u;rw [f];exact C.out.alloc _
 have Q : Hid (ag u P tb o 2 ts eT eV):=by show ag u P tb o 2 ts eT eV;rw [f];exact a3.out.but ((ai.refl ([] : List Nat) c).alloc _) (by simp) (by simp) (by simp)
 have R4 : u.rowIs w.heap.size 37 4 (v4 (.int .i64 0) (.string ⟨#[]⟩) (.slice none 0 0) (.slice none 0 0)):=by rw [f];exact R3.alloc _
 have D4 : u.rowIs c.heap.size 37 4 (v4 (.int .i64 2) (.string (tx ts 1)) (.slice none 0 0) (.slice none 0 0)):=by rw [f];exact fK _ _ _ _ _ _
 rw [<- f];have cn : w.heap.size < c.heap.size:=R3.lt;clear f R3;cases he : isT ts 2 gh
 case false=>
  have D : Hid (cj true ts = none):=by show _ = _;rw [HS.out,HC.out,he];rfl
  refine (aP ⟨#[61]⟩ u Q.out he).mono ?_;rintro e H ⟨rfl,rfl⟩;clear he;go_wp2;exact ⟨rfl,by rw [D.out];exact ⟨V.out,rfl⟩⟩
 refine (cG ⟨#[61]⟩ u Q.out he).mono ?_;rintro e H ⟨rfl,p5,Z⟩;have N : Hid (cj true ts = (match tyP true ts (ts.length + 1) 3 with | none=>none | some (t,j)=>some (⟨2,tx ts 1,t,[]⟩,j))):=by show _ = _;rw [HS.out,HC.out,he];rfl
 have p : Hid (ai [P] w H):=V.out.then_ Z;have a8 : Hid (ag H P tb o 3 ts eT eV):=p5;have R5:=R4.of_block (Z.block _ R4.lt (by simp;omega));have Y:=D4.of_block (Z.block _ D4.lt (by simp;omega));clear he p5 Z R4 D4;go_wp2_with fail;refine (mn hP htb (ts.length + 1) 3 H (.slice none 0 0) [] a8.out (OT.nil _ _) (Nat.zero_le _) (by omega) (Nat.le_trans hB p.out.size)).mono ?_
 cases ht : tyP true ts (ts.length + 1) 3 with
 | none=>
   have D : Hid (cj true ts = none):=by show _ = _;rw [N.out,ht]
   rintro e d ⟨A,rfl⟩;have x : Hid (ai [P] w d):=p.out.then_ A;clear ht A;go_wp2;exact ⟨rfl,by rw [D.out];exact ⟨x.out,rfl⟩⟩
 | some r=>
   obtain ⟨l,j⟩:=r;have D : Hid (cj true ts = some (⟨2,tx ts 1,l,[]⟩,j)):=by show _ = _;rw [N.out,ht]
   rintro e d ⟨A,v',G,rfl,o6,m6,p6,g6,n6⟩;have x : Hid (ai [P] w d):=p.out.then_ A;have a2 : Hid (ag d P tb o j ts eT eV):=p6;have g : OT B d v' G:=o6;clear o6;obtain ⟨S,L,rfl⟩:=ad g.own;obtain ⟨n,hn⟩:=xe (G.length);rw [<- hn] at g g6 ⊢;clear hn;have a9 : Hid (OT B d (.slice S n L) G):=g;have ar : Hid (G.map Prod.fst = l):=m6;have J : Hid (∀ b,(Value.slice S n L).ownBlock = some b -> H.heap.size <= b):=fun b z=>(g6 b z).resolve_left (fun y=>by cases y);have I : Hid (∀ b,b ∈ aS G -> H.heap.size <= b):=n6;have q:=R5.of_block (A.block _ R5.lt (by show _ ∉ [P];simp;omega));have s:=Y.of_block (A.block _ Y.lt (by show _ ∉ [P];simp;omega));have cc:=Y.lt;have b8 : d.cell? ⟨c.heap.size,0,none⟩ = some (.int .i64 2):=s.cell (i:=0) (by omega);have ck : d.cell? ⟨c.heap.size,1,none⟩ = some (.string (tx ts 1)):=s.cell (i:=1) (by omega);have b7 : d.cell? ⟨c.heap.size,2,none⟩ = some (.slice none 0 0):=s.cell (i:=2) (by omega);have ca : d.cell? ⟨c.heap.size,3,none⟩ = some (.slice none 0 0):=s.cell (i:=3) (by omega);have b9:=s.frozen 0;have b1:=s.frozen 1;have ce:=s.frozen 2;have co:=s.frozen 3;have c0 : d.cell? ⟨w.heap.size,0,none⟩ = some (.int .i64 0):=q.cell (i:=0) (by omega);have c1 : d.cell? ⟨w.heap.size,1,none⟩ = some (.string ⟨#[]⟩):=q.cell (i:=1) (by omega);have c2 : d.cell? ⟨w.heap.size,2,none⟩ = some (.slice none 0 0):=q.cell (i:=2) (by omega);have c3 : d.cell? ⟨w.heap.size,3,none⟩ = some (.slice none 0 0):=q.cell (i:=3) (by omega);have z0:=q.frozen 0;have z1:=q.frozen 1;have z2:=q.frozen 2;have z3:=q.frozen 3;clear ht A g m6 p6 g6 n6 R5 Y;go_wp2;refine bodyPost_ret (qF (q.setOther (a:=⟨c.heap.size,2,none⟩) (by show w.heap.size ≠ c.heap.size;omega) _) _ _ _ _ _ rfl) rfl ?_;rw [D.out];have O : ∀ {W : World} (b n : Nat) (v : Value),b = w.heap.size \/ b = c.heap.size -> ai [w.heap.size,c.heap.size] d W -> ai [w.heap.size,c.heap.size] d (W.setCell ⟨b,n,none⟩ v):=fun b n v hb h=>h.set (fun _=>by simp;exact hb) n v;have QQ:=O w.heap.size 3 (.slice none 0 0) (Or.inl rfl) (O w.heap.size 2 (.slice S n L) (Or.inl rfl) (O w.heap.size 1 (.string (tx ts 1)) (Or.inl rfl) (O w.heap.size 0 (.int .i64 2) (Or.inl rfl) (O c.heap.size 2 (.slice S n L) (Or.inr rfl) (ai.refl _ _)))));have h5:=p.out.size;refine ⟨x.out.trans QQ (fun k hk hl=>by simp at hk;omega),⟨.slice S n L,G,.slice none 0 0,[]⟩,rfl,vW (a9.out.but QQ (fun b hb=>?_) (fun b hb=>?_)) ar.out _ _,a2.out.but QQ (by simp;omega) (by simp;omega) (by simp;omega),fun b hb=>?_⟩
   ·have:=J.out b hb;simp;omega
   ·have:=I.out b hb;simp;omega
   ·rcases dB_typed hb with z | z
    ·exact Nat.le_trans h5 (J.out b z)
    ·exact Nat.le_trans h5 (I.out b z)
theorem OE.sep {B : Nat} {w : World} {v : Value} {xs : List (EI × EPl)} (h : OE B w v xs) {b : Nat} (hb : b ∈ bd xs) : v.ownBlock ≠ some b:=by
 obtain ⟨x,a,hb⟩:=gE hb;exact vo h.own (by decide) (by decide) (h.ok x a) hb
theorem mem_dB {v u : Value} {ys : List (TI × NPl)} {zs : List (EI × EPl)} {b : Nat} (h : b ∈ dB ⟨v,ys,u,zs⟩) : (v.ownBlock = some b \/ b ∈ aS ys) \/ u.ownBlock = some b \/ b ∈ bd zs:=by
 have a : b ∈ (v.ownBlock.toList ++ aS ys) ++ (u.ownBlock.toList ++ bd zs):=h;rw [List.mem_append,List.mem_append,List.mem_append] at a;exact a.imp (fun z=>z.imp (fun z=>by simpa using z) id) (fun z=>z.imp (fun z=>by simpa using z) id)
theorem yd {B : Nat} {w : World} {v u : Value} {ys : List (TI × NPl)} {zs : List (EI × EPl)} (h : OT B w v ys) (g : OE B w u zs) {l : List TI} {m : List EI} (hl : ys.map Prod.fst = l) (hm : zs.map Prod.fst = m) (M : Nat)
  (h1 : ∀ b,v.ownBlock = some b -> b < M) (h2 : ∀ b,b ∈ aS ys -> b < M) (g1 : ∀ b,u.ownBlock = some b -> M <= b) (g2 : ∀ b,b ∈ bd zs -> M <= b) (k : Int) (nm : ByteArray) : fa B w ⟨k,nm,l,m⟩ ⟨v,ys,u,zs⟩:=
 ⟨h,hl,g,hm,by
  show ((v.ownBlock.toList ++ aS ys) ++ (u.ownBlock.toList ++ bd zs)).Nodup;refine List.nodup_append.2 ⟨?_,?_,fun a ha b hb e=>?_⟩
  ·cases hv : v.ownBlock with
   | none=>exact h.nd
   | some b=>exact List.nodup_cons.2 ⟨fun hb=>h.sep hb hv,h.nd⟩
  ·cases hv : u.ownBlock with
   | none=>exact g.nd
   | some b=>exact List.nodup_cons.2 ⟨fun hb=>g.sep hb hv,g.nd⟩
  ·have x1 : a < M:=(List.mem_append.1 ha).elim (fun z=>h1 a (by simpa using z)) (fun z=>h2 a z)
   have x2 : M <= b:=(List.mem_append.1 hb).elim (fun z=>g1 b (by simpa using z)) (fun z=>g2 b z);omega⟩
theorem uI {B P tb o : Nat} {ts : List TK} (HN : iB ts) {eT : TypeId} {eV : Value} (hP : P < B) (htb : tb < B) {w : World} (hps : ag w P tb o 0 ts eT eV) (hB : B <= w.heap.size) (hs : isT ts 0 qd = true) :
  Calls Tryz.prog 35 #[.pointer (some ⟨P,0,none⟩)] w (Bu B P tb o ts eT eV w (cj true ts)):=by
 have hi:=aL hs;have q0 : ((aA ts 0).txt.toList == [105,109,112,111,114,116]) = false:=aM hs _ (by decide);have q1 : ((aA ts 0).txt.toList == [116,121,112,101]) = false:=aM hs _ (by decide);have q2 : ((aA ts 0).txt.toList == [118,97,108]) = true:=aY hs
 have HS : Hid (cj true ts = if cr ts 1 1 && isT ts 2 aB then (match tyP true ts (ts.length + 1) 3 with | none=>none | some (t,j)=>if isT ts j gh then (match ay true ts (ts.length + 1) (j + 1) with | none=>none | some (x,k)=>some (⟨3,tx ts 1,t,x⟩,k)) else none) else none):=by
  show _ = _
  have e0 : isT ts 0 bY = false:=by
   cases e : isT ts 0 bY with
   | false=>rfl
   | true=>rw [show ((aA ts 0).txt.toList == [105,109,112,111,114,116]) = true from aY e] at q0;cases q0
  have e1 : isT ts 0 ik = false:=by
   cases e : isT ts 0 ik with
   | false=>rfl
   | true=>rw [show ((aA ts 0).txt.toList == [116,121,112,101]) = true from aY e] at q1;cases q1
  unfold cj;rw [e0,e1,hs];rfl
 have HP:=hQx hps;have h0:=hps.pos;clear hps;obtain ⟨W1,D⟩:=xe (w.alloc (.cells #[.int .i64 0,.string ⟨#[]⟩,.slice none 0 0,.slice none 0 0] 37));have a4 : Hid (ai [] w W1):=by show ai [] w W1;rw [D];exact (ai.refl _ _).alloc _
 have RR : W1.rowIs w.heap.size 37 4 (v4 (.int .i64 0) (.string ⟨#[]⟩) (.slice none 0 0) (.slice none 0 0)):=by rw [D];exact fK _ _ _ _ _ _
 go_enter Tryz.func35,Tryz.ntmps35;go_wp2_with fail;rw [<- D];clear D;refine (bm W1 (HP.out.but a4.out (by simp) (by simp) (by simp)) hi).mono ?_;rintro e w2 ⟨rfl,p2,b2⟩;unfold km;obtain ⟨k0,a2⟩:=xe ((aA ts 0).cls);obtain ⟨k1,Z⟩:=xe ((aA ts 0).txt);obtain ⟨k2,be⟩:=xe (((aA ts 0).loc : Int));rw [<- Z] at q0 q1 q2;rw [<- a2,<- Z,<- be];clear a2 Z be hs;have bf : Hid (ag w2 P tb o 1 ts eT eV):=p2;have bo : Hid (ai [P] w w2):=(a4.out.more (S':=[P]) (fun _ z=>by simp at z)).then_ b2;have R2:=RR.of_block (b2.block _ RR.lt (by simp;omega));clear p2 b2 RR;go_wp2_with fail;rw [jQ];go_wp2_with fail;cases hc : cr ts 1 1
 case false=>
  have q : Hid (cj true ts = none):=by show _ = _;rw [HS.out,hc];rfl
  refine (cJ w2 bf.out hc).mono ?_;rintro e c ⟨rfl,b3⟩;have X : Hid (ai [P] w c):=bo.out.then_ b3;clear hc b3;go_wp2;exact ⟨rfl,by rw [q.out];exact ⟨X.out,rfl⟩⟩
 refine (fY w2 bf.out hc).mono ?_;rintro e c ⟨rfl,p3,b3⟩;have cs : Hid (ag c P tb o 2 ts eT eV):=p3;have X : Hid (ai [P] w c):=bo.out.then_ b3;have R3:=R2.of_block (b3.block _ R2.lt (by simp;omega));have HC : Hid (cr ts 1 1 = true):=hc;clear hc p3 b3 R2;go_wp2_with fail;obtain ⟨N,f⟩:=xe (c.alloc (.cells #[.int .i64 3,.string (tx ts 1),.slice none 0 0,.slice none 0 0] 37));have bs : Hid (ai [P] w N):=by show ai [P] w N;rw [f];exact X.out.alloc _
 have a9 : Hid (ag N P tb o 2 ts eT eV):=by show ag N P tb o 2 ts eT eV;rw [f];exact cs.out.but ((ai.refl ([] : List Nat) c).alloc _) (by simp) (by simp) (by simp)
 have R4 : N.rowIs w.heap.size 37 4 (v4 (.int .i64 0) (.string ⟨#[]⟩) (.slice none 0 0) (.slice none 0 0)):=by rw [f];exact R3.alloc _
 have D4 : N.rowIs c.heap.size 37 4 (v4 (.int .i64 3) (.string (tx ts 1)) (.slice none 0 0) (.slice none 0 0)):=by rw [f];exact fK _ _ _ _ _ _
 rw [<- f];have e5 : w.heap.size < c.heap.size:=R3.lt;clear f R3;cases he : isT ts 2 aB
 case false=>
  have q : Hid (cj true ts = none):=by show _ = _;rw [HS.out,HC.out,he];rfl
  refine (aP ⟨#[58]⟩ N a9.out he).mono ?_;rintro e L ⟨rfl,rfl⟩;clear he;go_wp2;exact ⟨rfl,by rw [q.out];exact ⟨bs.out,rfl⟩⟩
 refine (cG ⟨#[58]⟩ N a9.out he).mono ?_;rintro e L ⟨rfl,p5,b5⟩;have a5 : Hid (cj true ts = (match tyP true ts (ts.length + 1) 3 with | none=>none | some (t,j)=>if isT ts j gh then (match ay true ts (ts.length + 1) (j + 1) with | none=>none | some (x,k)=>some (⟨3,tx ts 1,t,x⟩,k)) else none)):=by show _ = _;rw [HS.out,HC.out,he];rfl
 have F : Hid (ai [P] w L):=bs.out.then_ b5;have c9 : Hid (ag L P tb o 3 ts eT eV):=p5;have R5:=R4.of_block (b5.block _ R4.lt (by simp;omega));have D5:=D4.of_block (b5.block _ D4.lt (by simp;omega));clear he p5 b5 R4 D4;go_wp2_with fail;refine (mn hP htb (ts.length + 1) 3 L (.slice none 0 0) [] c9.out (OT.nil _ _) (Nat.zero_le _) (by omega) (Nat.le_trans hB F.out.size)).mono ?_
 cases ht : tyP true ts (ts.length + 1) 3 with
 | none=>
   have q : Hid (cj true ts = none):=by show _ = _;rw [a5.out,ht]
   rintro e g ⟨I,rfl⟩;have R : Hid (ai [P] w g):=F.out.then_ I;clear ht I;go_wp2;exact ⟨rfl,by rw [q.out];exact ⟨R.out,rfl⟩⟩
 | some r=>
   obtain ⟨l,j⟩:=r;have ar : Hid (cj true ts = if isT ts j gh then (match ay true ts (ts.length + 1) (j + 1) with | none=>none | some (x,k)=>some (⟨3,tx ts 1,l,x⟩,k)) else none):=by show _ = _;rw [a5.out,ht]
   rintro e g ⟨I,v',G,rfl,o6,m6,p6,g6,n6⟩;have R : Hid (ai [P] w g):=F.out.then_ I;have cq : Hid (ag g P tb o j ts eT eV):=p6;have C : OT B g v' G:=o6;clear o6;obtain ⟨u,s,rfl⟩:=ad C.own;obtain ⟨n,hn⟩:=xe (G.length);rw [<- hn] at C g6 ⊢;clear hn;have de : Hid (OT B g (.slice u n s) G):=C;have ch : Hid (G.map Prod.fst = l):=m6;have U : Hid (∀ b,(Value.slice u n s).ownBlock = some b -> L.heap.size <= b):=fun b z=>(g6 b z).resolve_left (fun y=>by cases y);have T : Hid (∀ b,b ∈ aS G -> L.heap.size <= b):=n6;have R6:=R5.of_block (I.block _ R5.lt (by show _ ∉ [P];simp;omega));have D6:=D5.of_block (I.block _ D5.lt (by show _ ∉ [P];simp;omega));have eR:=D5.lt;have dk : Hid (L.heap.size <= g.heap.size):=I.size;have a0 : g.cell? ⟨c.heap.size,2,none⟩ = some (.slice none 0 0):=D6.cell (i:=2) (by omega);have bn:=D6.frozen 2;clear ht I C m6 p6 g6 n6 R5 D5;go_wp2_with fail;obtain ⟨O,p⟩:=xe (g.setCell ⟨c.heap.size,2,none⟩ (.slice u n s));have h5:=F.out.size;have ew : L.heap.size <= g.heap.size:=dk.out;have QS : ai [c.heap.size] g O:=by rw [p];exact (ai.refl [c.heap.size] g).set (fun _=>by simp) 2 _
   have ao : Hid (ai [P] w O):=R.out.trans QS (fun k hk hl=>by simp at hk;omega);have a6 : Hid (ag O P tb o j ts eT eV):=cq.out.but QS (by simp;omega) (by simp;omega) (by simp;omega);have ce : Hid (OT B O (.slice u n s) G):=de.out.but QS (fun b hb=>by have:=U.out b hb;simp;omega) (fun b hb=>by have:=T.out b hb;simp;omega);have R7 : O.rowIs w.heap.size 37 4 (v4 (.int .i64 0) (.string ⟨#[]⟩) (.slice none 0 0) (.slice none 0 0)):=by rw [p];exact R6.setOther (a:=⟨c.heap.size,2,none⟩) (by show w.heap.size ≠ c.heap.size;omega) _
   have D7 : O.rowIs c.heap.size 37 4 (fun i=>if i = 2 then .slice u n s else v4 (.int .i64 3) (.string (tx ts 1)) (.slice none 0 0) (.slice none 0 0) i):=by rw [p];exact D6.set 2 _
   rw [<- p];clear p R6 D6 a0 bn QS;cases he : isT ts j gh
   case false=>
    have q : Hid (cj true ts = none):=by show _ = _;rw [ar.out,he];rfl
    refine (aP ⟨#[61]⟩ O a6.out he).mono ?_;rintro e J ⟨rfl,rfl⟩;clear he;go_wp2;exact ⟨rfl,by rw [q.out];exact ⟨ao.out,rfl⟩⟩
   refine (cG ⟨#[61]⟩ O a6.out he).mono ?_;rintro e J ⟨rfl,p8,b8⟩;have an : Hid (cj true ts = (match ay true ts (ts.length + 1) (j + 1) with | none=>none | some (x,k)=>some (⟨3,tx ts 1,l,x⟩,k))):=by show _ = _;rw [ar.out,he];rfl
   have H : Hid (ai [P] w J):=ao.out.then_ b8;have cm : Hid (ag J P tb o (j + 1) ts eT eV):=p8;have S : Hid (OT B J (.slice u n s) G):=ce.out.low b8 (fun b z=>by rw [ms1 z];exact Or.inl hP);have R8:=R7.of_block (b8.block _ R7.lt (by simp;omega));have D8:=D7.of_block (b8.block _ D7.lt (by simp;omega));clear he p8 b8 R7 D7;go_wp2_with fail;refine (nB HN hP htb (ts.length + 1) (j + 1) J (.slice none 0 0) [] cm.out (OE.nil _ _) (Nat.zero_le _) (by omega) (Nat.le_trans hB H.out.size)).mono ?_
   cases hx : ay true ts (ts.length + 1) (j + 1) with
   | none=>
     have q : Hid (cj true ts = none):=by show _ = _;rw [an.out,hx]
     rintro e d ⟨M,rfl⟩;have Y : Hid (ai [P] w d):=H.out.then_ M;clear hx M;go_wp2;exact ⟨rfl,by rw [q.out];exact ⟨Y.out,rfl⟩⟩
   | some r=>
     obtain ⟨m,k⟩:=r;have q : Hid (cj true ts = some (⟨3,tx ts 1,l,m⟩,k)):=by show _ = _;rw [an.out,hx]
     rintro e d ⟨M,v',zs,rfl,o9,m9,p9,g9,n9⟩;have Y : Hid (ai [P] w d):=H.out.then_ M;have ct : Hid (ag d P tb o k ts eT eV):=p9;have ck : Hid (OT B d (.slice u n s) G):=S.out.low M (fun b z=>by rw [ms1 (show b ∈ [P] from z)];exact Or.inl hP);have A : OE B d v' zs:=o9;clear o9;obtain ⟨vb,vd,rfl⟩:=ad A.own;obtain ⟨n',a1⟩:=xe (zs.length);rw [<- a1] at A g9 ⊢;clear a1;have dd : Hid (OE B d (.slice vb n' vd) zs):=A;have cn : Hid (zs.map Prod.fst = m):=m9;have Q : Hid (∀ b,(Value.slice vb n' vd).ownBlock = some b -> J.heap.size <= b):=fun b z=>(g9 b z).resolve_left (fun y=>by cases y);have V : Hid (∀ b,b ∈ bd zs -> J.heap.size <= b):=n9;have E:=R8.of_block (M.block _ R8.lt (by show _ ∉ [P];simp;omega));have K:=D8.of_block (M.block _ D8.lt (by show _ ∉ [P];simp;omega));have e6:=D8.lt;have ez : d.cell? ⟨c.heap.size,0,none⟩ = some (.int .i64 3):=K.cell (i:=0) (by omega);have e4 : d.cell? ⟨c.heap.size,1,none⟩ = some (.string (tx ts 1)):=K.cell (i:=1) (by omega);have a0 : d.cell? ⟨c.heap.size,2,none⟩ = some (.slice u n s):=K.cell (i:=2) (by omega);have eQ : d.cell? ⟨c.heap.size,3,none⟩ = some (.slice none 0 0):=K.cell (i:=3) (by omega);have eO:=K.frozen 0;have et:=K.frozen 1;have bn:=K.frozen 2;have e7:=K.frozen 3;have c0 : d.cell? ⟨w.heap.size,0,none⟩ = some (.int .i64 0):=E.cell (i:=0) (by omega);have c1 : d.cell? ⟨w.heap.size,1,none⟩ = some (.string ⟨#[]⟩):=E.cell (i:=1) (by omega);have c2 : d.cell? ⟨w.heap.size,2,none⟩ = some (.slice none 0 0):=E.cell (i:=2) (by omega);have c3 : d.cell? ⟨w.heap.size,3,none⟩ = some (.slice none 0 0):=E.cell (i:=3) (by omega);have z0:=E.frozen 0;have z1:=E.frozen 1;have z2:=E.frozen 2;have z3:=E.frozen 3;clear hx M A m9 p9 g9 n9 R8 D8;go_wp2;refine bodyPost_ret (qF (E.setOther (a:=⟨c.heap.size,3,none⟩) (by show w.heap.size ≠ c.heap.size;omega) _) _ _ _ _ _ rfl) rfl ?_;rw [q.out];have QA : ∀ {W : World} (b n : Nat) (v : Value),b = w.heap.size \/ b = c.heap.size -> ai [w.heap.size,c.heap.size] d W -> ai [w.heap.size,c.heap.size] d (W.setCell ⟨b,n,none⟩ v):=fun b n v hb h=>h.set (fun _=>by simp;exact hb) n v;have QQ:=QA w.heap.size 3 (.slice vb n' vd) (Or.inl rfl) (QA w.heap.size 2 (.slice u n s) (Or.inl rfl) (QA w.heap.size 1 (.string (tx ts 1)) (Or.inl rfl) (QA w.heap.size 0 (.int .i64 3) (Or.inl rfl) (QA c.heap.size 3 (.slice vb n' vd) (Or.inr rfl) (ai.refl _ _)))));have h8:=H.out.size;refine ⟨Y.out.trans QQ (fun k hk hl=>by simp at hk;omega),⟨.slice u n s,G,.slice vb n' vd,zs⟩,rfl,yd (ck.out.but QQ (fun b hb=>?_) (fun b hb=>?_)) (dd.out.but QQ (fun b hb=>?_) (fun b hb=>?_)) ch.out cn.out J.heap.size (fun b hb=>(S.out.own.lt b hb).2) (fun b hb=>(S.out.names hb).2) Q.out V.out _ _,ct.out.but QQ (by simp;omega) (by simp;omega) (by simp;omega),fun b hb=>?_⟩
     ·have:=U.out b hb;simp;omega
     ·have:=T.out b hb;simp;omega
     ·have:=Q.out b hb;simp;omega
     ·have:=V.out b hb;simp;omega
     ·rcases mem_dB hb with (z | z) | z | z
      ·exact Nat.le_trans h5 (U.out b z)
      ·exact Nat.le_trans h5 (T.out b z)
      ·exact Nat.le_trans h8 (Q.out b z)
      ·exact Nat.le_trans h8 (V.out b z)
theorem AQ {B P tb o : Nat} {ts : List TK} (HN : iB ts) {eT : TypeId} {eV : Value} (hP : P < B) (htb : tb < B) {w : World} (hps : ag w P tb o 0 ts eT eV) (hB : B <= w.heap.size) :
  Calls Tryz.prog 35 #[.pointer (some ⟨P,0,none⟩)] w (Bu B P tb o ts eT eV w (cj true ts)):=by
 cases h1 : isT ts 0 bY with
 | true=>exact pn hP htb hps hB h1
 | false=>
   cases h2 : isT ts 0 ik with
   | true=>exact tq hP htb hps hB h2
   | false=>
     cases h3 : isT ts 0 qd with
     | true=>exact uI HN hP htb hps hB h3
     | false=>exact se hps h1 h2 h3
end Go.Proofs.YtihedobejcaapaaGreatDoor
