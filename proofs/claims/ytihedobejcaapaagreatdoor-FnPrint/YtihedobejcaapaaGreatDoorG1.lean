/-
  PhA YqB YqC YqM
-/
import Derived.Test.YtihedobejcaapaaGreatDoorA5
import Derived.Test.YtihedobejcaapaaGreatDoorAD
import Derived.BigQuiet
set_option maxHeartbeats 4000000
set_option maxRecDepth 100000
namespace Go.Proofs.YtihedobejcaapaaGreatDoor
def uM (L : Nat) (x : TI) : Prop:=x.ns.length <= L
def jN (L : Nat) (x : EI) : Prop:=x.ns.length <= L /\ x.ty.length <= L /\ ∀ t,t ∈ x.ty -> uM L t
def ur (L : Nat) (d : DC) : Prop:=d.ty.length <= L /\ (∀ t,t ∈ d.ty -> uM L t) /\ d.ex.length <= L /\ ∀ t,t ∈ d.ex -> jN L t
def Ev {α : Type} (P : α -> Prop) (T : Nat -> Option (List α × Nat)) : Prop:=∀ i l j,T i = some (l,j) -> ∀ x,x ∈ l -> P x
theorem py {α : Type} {P : α -> Prop} {ts : List TK} {T : Nat -> Option (List α × Nat)} {sg : List UInt8} (h : Ev P T) : ∀ f j ns its l ns' k,cX ts T sg f j ns its = some (l,ns',k) -> (∀ x,x ∈ its -> P x) -> ∀ x,x ∈ l -> P x
 | 0,_,_,_,_,_,_,e=>by cases e
 | f + 1,j,ns,its,l,ns',k,e=>by
   intro hi;rw [cX] at e
   split at e
   ·split at e
    ·cases e
    ·split at e
     ·cases eT : T (j + 2) with
      | none=>rw [eT] at e;cases e
      | some r=>
        obtain ⟨l0,k0⟩:=r;rw [eT] at e;have h1:=h _ _ _ eT;have h2 : ∀ x,x ∈ its ++ l0 -> P x:=fun x hx=>(List.mem_append.1 hx).elim (hi x) (h1 x)
        dsimp only at e
        split at e
        case isTrue hs=>
         simp only [Option.some.injEq,Prod.mk.injEq] at e;obtain ⟨rfl,rfl,rfl⟩:=e;exact h2
        case isFalse hs=>
         split at e
         ·exact py h f _ _ _ _ _ _ e h2
         ·cases e
     ·cases e
   ·cases e
theorem rc {α : Type} {P : α -> Prop} {ts : List TK} {T : Nat -> Option (List α × Nat)} {sg : List UInt8} (h : Ev P T) {j : Nat} {l : List α} {ns : List ByteArray} {k : Nat} (e : aH ts T sg j = some (l,ns,k)) : ∀ x,x ∈ l -> P x:=by
 unfold aH at e
 split at e
 case isTrue hs=>
  simp only [Option.some.injEq,Prod.mk.injEq] at e;obtain ⟨rfl,rfl,rfl⟩:=e;intro x a;cases a
 case isFalse=>exact py h _ _ _ _ _ _ _ e (fun x a=>by cases a)
theorem qe {α : Type} {P : α -> Prop} {ts : List TK} {T : Nat -> Option (List α × Nat)} (h : Ev P T) : Ev P (bO ts T):=fun i l k e=>by
 unfold bO at e
 cases eT : T i with
 | none=>rw [eT] at e;cases e
 | some r=>
   obtain ⟨l0,k0⟩:=r;rw [eT] at e
   dsimp only at e
   split at e
   ·simp only [Option.some.injEq,Prod.mk.injEq] at e
    obtain ⟨rfl,rfl⟩:=e;exact h _ _ _ eT
   ·cases e
theorem gj {α : Type} {P : α -> Prop} {t : α} (hp : P t) {l : List α} {i j : Nat} (e : (some ([t],i) : Option (List α × Nat)) = some (l,j)) : ∀ x,x ∈ l -> P x:=by
 simp only [Option.some.injEq,Prod.mk.injEq] at e;obtain ⟨rfl,rfl⟩:=e;intro x a;rw [ms1 a];exact hp
theorem qX (L : Nat) (k : Int) (a b : ByteArray) : uM L ⟨k,a,b,[]⟩:=Nat.zero_le _
theorem yI {st : Bool} {ts : List TK} {T : Nat -> Option (List TI × Nat)} (hf : jB ts.length T) (h : Ev (uM ts.length) T) : Ev (uM ts.length) (aF st ts T):=fun i l j e=>by
 unfold aF at e
 split at e
 case isTrue hc=>
  cases ep : bW st ts i with
  | none=>rw [ep] at e;cases e
  | some r=>
    obtain ⟨m,n,k⟩:=r;rw [ep] at e;exact gj (qX _ _ _ _) e
 case isFalse=>
  split at e
  ·exact gj (qX _ _ _ _) e
  split at e
  ·exact gj (qX _ _ _ _) e
  split at e
  ·exact gj (qX _ _ _ _) e
  split at e
  ·cases ep : aH ts T aB (i + 1) with
   | none=>rw [ep] at e;cases e
   | some r=>
     obtain ⟨its,ns,k⟩:=r;rw [ep] at e;simp only [Option.some.injEq,Prod.mk.injEq] at e;obtain ⟨rfl,rfl⟩:=e;have hl:=fd hf ep;intro x hx;rcases List.mem_append.1 hx with z | z
     ·exact rc h ep x z
     ·rw [ms1 z]
      show ns.length <= _;omega
  split at e
  ·exact qe h _ _ _ e
  ·cases e
theorem pu {st : Bool} {ts : List TK} : ∀ f,Ev (uM ts.length) (tyP st ts f)
 | 0=>fun i l j e=>by cases e
 | f + 1=>fun i l j e=>by
   rw [tyP] at e
   cases eb : aF st ts (tyP st ts f) i with
   | none=>rw [eb] at e;cases e
   | some r=>
     obtain ⟨l0,k0⟩:=r;rw [eb] at e;have h1:=yI (dE f) (pu f) _ _ _ eb
     dsimp only at e
     split at e
     ·cases eT : tyP st ts f (k0 + 1) with
      | none=>rw [eT] at e;cases e
      | some r=>
        obtain ⟨l1,k1⟩:=r;rw [eT] at e;have h2:=pu f _ _ _ eT;simp only [Option.some.injEq,Prod.mk.injEq] at e;obtain ⟨rfl,rfl⟩:=e;intro x hx;rcases List.mem_append.1 hx with z | z
        ·exact (List.mem_append.1 z).elim (h1 x) (h2 x)
        ·rw [ms1 z];exact Nat.zero_le _
     ·simp only [Option.some.injEq,Prod.mk.injEq] at e
      obtain ⟨rfl,rfl⟩:=e;exact h1
theorem kl (L : Nat) (k : Int) : jN L (fM k):=⟨Nat.zero_le _,Nat.zero_le _,fun t ht=>by cases ht⟩
theorem qQ (L : Nat) (a b : Int) (c d : ByteArray) : jN L ⟨a,b,c,d,[],[]⟩:=⟨Nat.zero_le _,Nat.zero_le _,fun t ht=>by cases ht⟩
theorem dF {α : Type} {P : α -> Prop} {a b : List α} (ha : ∀ x,x ∈ a -> P x) (hb : ∀ x,x ∈ b -> P x) : ∀ x,x ∈ a ++ b -> P x:=fun x hx=>(List.mem_append.1 hx).elim (ha x) (hb x)
theorem eH {α : Type} {P : α -> Prop} {a : α} (ha : P a) : ∀ x,x ∈ [a] -> P x:=fun x hx=>by rw [ms1 hx];exact ha
theorem xG {st : Bool} {ts : List TK} {T : Nat -> Option (List EI × Nat)} (hf : jB ts.length T) (h : Ev (jN ts.length) T) : Ev (jN ts.length) (atomP st ts T):=fun i l j e=>by
 unfold atomP at e
 split at e
 case isTrue hc=>
  cases ep : bW st ts i with
  | none=>rw [ep] at e;cases e
  | some r=>
    obtain ⟨m,n,k⟩:=r;rw [ep] at e;exact gj (qQ _ _ _ _ _) e
 case isFalse=>
  split at e
  ·exact gj (qQ _ _ _ _ _) e
  split at e
  ·exact gj (qQ _ _ _ _ _) e
  split at e
  ·exact gj (kl _ _) e
  split at e
  ·cases ep : aH ts T gh (i + 1) with
   | none=>rw [ep] at e;cases e
   | some r=>
     obtain ⟨its,ns,k⟩:=r;rw [ep] at e;simp only [Option.some.injEq,Prod.mk.injEq] at e;obtain ⟨rfl,rfl⟩:=e;have hl:=fd hf ep;exact dF (rc h ep) (eH ⟨by show ns.length <= _;omega,Nat.zero_le _,fun t ht=>by cases ht⟩)
  split at e
  ·exact qe h _ _ _ e
  ·cases e
theorem kF {ts : List TK} {T : Nat -> Option (List EI × Nat)} (h : Ev (jN ts.length) T) : ∀ f its j l k,bu ts T f its j = some (l,k) -> (∀ x,x ∈ its -> jN ts.length x) -> ∀ x,x ∈ l -> jN ts.length x
 | 0,_,_,_,_,e=>by cases e
 | f + 1,its,j,l,k,e=>by
   intro hi;rw [bu] at e
   split at e
   ·split at e
    ·exact kF h f _ _ _ _ e (dF hi (eH (qQ _ _ _ _ _)))
    ·cases e
   ·split at e
    ·cases eb : bO ts T (j + 1) with
     | none=>rw [eb] at e;cases e
     | some r=>
       obtain ⟨l0,k0⟩:=r;rw [eb] at e;exact kF h f _ _ _ _ e (dF (dF hi (qe h _ _ _ eb)) (eH (kl _ _)))
    ·simp only [Option.some.injEq,Prod.mk.injEq] at e
     obtain ⟨rfl,rfl⟩:=e;exact hi
theorem ry {st : Bool} {ts : List TK} {T : Nat -> Option (List EI × Nat)} (hf : jB ts.length T) (h : Ev (jN ts.length) T) : Ev (jN ts.length) (postP st ts T):=fun i l j e=>by
 unfold postP at e
 cases ea : atomP st ts T i with
 | none=>rw [ea] at e;cases e
 | some r=>
   obtain ⟨l0,k0⟩:=r;rw [ea] at e;exact kF h _ _ _ _ _ e (xG hf h _ _ _ ea)
theorem rX {st : Bool} {ts : List TK} {T : Nat -> Option (List EI × Nat)} (hf : jB ts.length T) (h : Ev (jN ts.length) T) : ∀ f its j l k,ek st ts T f its j = some (l,k) -> (∀ x,x ∈ its -> jN ts.length x) -> ∀ x,x ∈ l -> jN ts.length x
 | 0,_,_,_,_,e=>by cases e
 | f + 1,its,j,l,k,e=>by
   intro hi;rw [ek] at e
   split at e
   ·cases eb : postP st ts T (j + 1) with
    | none=>rw [eb] at e;cases e
    | some r=>
      obtain ⟨l0,k0⟩:=r;rw [eb] at e;exact rX hf h f _ _ _ _ e (dF (dF hi (ry hf h _ _ _ eb)) (eH (kl _ _)))
   ·simp only [Option.some.injEq,Prod.mk.injEq] at e
    obtain ⟨rfl,rfl⟩:=e;exact hi
theorem wE {st : Bool} {ts : List TK} {T : Nat -> Option (List EI × Nat)} (hf : jB ts.length T) (h : Ev (jN ts.length) T) : Ev (jN ts.length) (cu st ts T):=fun i l j e=>by
 unfold cu at e
 cases ea : postP st ts T i with
 | none=>rw [ea] at e;cases e
 | some r=>
   obtain ⟨l0,k0⟩:=r;rw [ea] at e;exact rX hf h _ _ _ _ _ e (ry hf h _ _ _ ea)
theorem Am {st : Bool} {ts : List TK} {T : Nat -> Option (List EI × Nat)} (h : Ev (jN ts.length) T) : Ev (jN ts.length) (dp st ts T):=fun i l j e=>by
 unfold dp at e
 split at e
 ·cases et : tyP st ts (ts.length + 1) (i + 3) with
  | none=>rw [et] at e;cases e
  | some r=>
    obtain ⟨t,k0⟩:=r;rw [et] at e;have ht:=pu _ _ _ _ et;have hl:=dE _ _ _ _ et
    dsimp only at e
    split at e
    ·cases eb : T (k0 + 1) with
     | none=>rw [eb] at e;cases e
     | some r=>
       obtain ⟨l0,k1⟩:=r;rw [eb] at e;simp only [Option.some.injEq,Prod.mk.injEq] at e;obtain ⟨rfl,rfl⟩:=e;exact dF (h _ _ _ eb) (eH ⟨Nat.zero_le _,by show t.length <= _;omega,ht⟩)
    ·cases e
 ·cases e
theorem Bt {ts : List TK} {T : Nat -> Option (List EI × Nat)} (h : Ev (jN ts.length) T) : Ev (jN ts.length) (pF ts T):=fun i l j e=>by
 unfold pF at e
 cases e1 : T i with
 | none=>rw [e1] at e;cases e
 | some r=>
   obtain ⟨l1,k1⟩:=r;rw [e1] at e
   dsimp only at e
   split at e
   ·cases e2 : T (k1 + 1) with
    | none=>rw [e2] at e;cases e
    | some r=>
      obtain ⟨l2,k2⟩:=r;rw [e2] at e
      dsimp only at e
      split at e
      ·cases e3 : T (k2 + 1) with
       | none=>rw [e3] at e;cases e
       | some r=>
         obtain ⟨l3,k3⟩:=r;rw [e3] at e;simp only [Option.some.injEq,Prod.mk.injEq] at e;obtain ⟨rfl,rfl⟩:=e;exact dF (dF (dF (h _ _ _ e1) (h _ _ _ e2)) (h _ _ _ e3)) (eH (kl _ _))
      ·cases e
   ·cases e
theorem yt {st : Bool} {ts : List TK} {T : Nat -> Option (List EI × Nat)} (hf : jB ts.length T) (h : Ev (jN ts.length) T) : Ev (jN ts.length) (cY st ts T):=fun i l j e=>by
 unfold cY at e
 cases e1 : cu st ts T i with
 | none=>rw [e1] at e;cases e
 | some r=>
   obtain ⟨l1,k1⟩:=r;rw [e1] at e;have h1:=wE hf h _ _ _ e1
   dsimp only at e
   split at e
   ·cases e2 : cu st ts T (k1 + 1) with
    | none=>rw [e2] at e;cases e
    | some r=>
      obtain ⟨l2,k2⟩:=r;rw [e2] at e;simp only [Option.some.injEq,Prod.mk.injEq] at e;obtain ⟨rfl,rfl⟩:=e;exact dF (dF h1 (wE hf h _ _ _ e2)) (eH (kl _ _))
   ·simp only [Option.some.injEq,Prod.mk.injEq] at e
    obtain ⟨rfl,rfl⟩:=e;exact h1
theorem rl {st : Bool} {ts : List TK} : ∀ f,Ev (jN ts.length) (ay st ts f)
 | 0=>fun i l j e=>by cases e
 | f + 1=>fun i l j e=>by
   rw [ay] at e
   split at e
   ·exact Am (rl f) _ _ _ e
   ·split at e
    ·exact Bt (rl f) _ _ _ e
    ·exact yt (bS f) (rl f) _ _ _ e
theorem dA (L : Nat) : ur L cK:=⟨Nat.zero_le _,(fun t ht=>by cases ht),Nat.zero_le _,fun t ht=>by cases ht⟩
theorem yz (st : Bool) (ts : List TK) : ur ts.length (bM st ts):=by
 unfold bM
 split
 ·split
  ·split
   ·exact ⟨Nat.zero_le _,(fun t ht=>by cases ht),Nat.zero_le _,fun t ht=>by cases ht⟩
   ·exact dA _
  ·split
   ·split
    ·cases e1 : tyP st ts (ts.length + 1) 3 with
     | none=>exact dA _
     | some r=>
       obtain ⟨t,j⟩:=r
       dsimp only
       split
       ·have:=dE _ _ _ _ e1
        exact ⟨by show t.length <= _;omega,pu _ _ _ _ e1,Nat.zero_le _,fun t ht=>by cases ht⟩
       ·exact dA _
    ·exact dA _
   ·split
    ·split
     ·cases e1 : tyP st ts (ts.length + 1) 3 with
      | none=>exact dA _
      | some r=>
        obtain ⟨t,j⟩:=r
        dsimp only
        split
        ·cases e2 : ay st ts (ts.length + 1) (j + 1) with
         | none=>exact dA _
         | some r=>
           obtain ⟨x,k⟩:=r
           dsimp only
           split
           ·have a:=dE _ _ _ _ e1
            have b:=bS _ _ _ _ e2;exact ⟨by show t.length <= _;omega,pu _ _ _ _ e1,by show x.length <= _;omega,rl _ _ _ _ e2⟩
           ·exact dA _
        ·exact dA _
     ·exact dA _
    ·exact dA _
 ·exact dA _
theorem uM.mono {L M : Nat} (h : L <= M) {x : TI} (hx : uM L x) : uM M x:=Nat.le_trans hx h
theorem jN.mono {L M : Nat} (h : L <= M) {x : EI} (hx : jN L x) : jN M x:=⟨Nat.le_trans hx.1 h,Nat.le_trans hx.2.1 h,fun t ht=>(hx.2.2 t ht).mono h⟩
theorem ur.mono {L M : Nat} (h : L <= M) {x : DC} (hx : ur L x) : ur M x:=⟨Nat.le_trans hx.1 h,fun t ht=>(hx.2.1 t ht).mono h,Nat.le_trans hx.2.2.1 h,fun t ht=>(hx.2.2.2 t ht).mono h⟩
theorem nG (st : Bool) : ∀ (f : Nat) (ts : List TK),(cF st f ts).length <= ts.length /\ ∀ d,d ∈ cF st f ts -> ur ts.length d
 | 0,_=>⟨Nat.zero_le _,fun d hd=>by cases hd⟩
 | f + 1,ts=>by
   rw [cF]
   split
   ·exact ⟨Nat.zero_le _,fun d hd=>by cases hd⟩
   case isFalse hne=>
    have hpos : 0 < ts.length:=by
     rcases ts with _ | ⟨a,l⟩
     ·exact absurd rfl hne
     ·simp
    cases semi ts with
    | none=>exact ⟨by show 1 <= _;omega,eH (dA _)⟩
    | some k=>
      obtain ⟨e,b⟩:=nG st f (ts.drop (k + 1));have hd : (ts.drop (k + 1)).length <= ts.length:=by rw [List.length_drop];omega
      have c : (ts.drop (k + 1)).length + 1 <= ts.length:=by rw [List.length_drop];omega
      refine ⟨by simp only [List.length_cons];omega,fun d hx=>?_⟩;rcases List.mem_cons.1 hx with z | z
      ·rw [z];exact (yz st _).mono (by rw [List.length_take];omega)
      ·exact (b d z).mono hd
end Go.Proofs.YtihedobejcaapaaGreatDoor
namespace Go.Proofs.YtihedobejcaapaaGreatDoor
open Go.RowKit
theorem rU {α β : Type} {f : α -> β} {xs ys : List α} (h : xs.map f = ys.map f) {k : Nat} (h1 : k < xs.length) (h2 : k < ys.length) : f xs[k] = f ys[k]:=by
 have a : (xs.map f)[k]? = some (f xs[k]):=by rw [List.getElem?_map,List.getElem?_eq_getElem h1];rfl
 have b : (ys.map f)[k]? = some (f ys[k]):=by rw [List.getElem?_map,List.getElem?_eq_getElem h2];rfl
 rw [h,b] at a;exact (Option.some.inj a).symm
theorem jA {P : Program} {f : FuncId} {args : Array Value} {w : World} {n0 n : Nat} {v : Value}
  (h : Calls P f args (w.drewN (n0 + n)) fun e w'=>e = .returned v /\ ∃ m,w' = (w.drewN (n0 + n)).drewN m) : Calls P f args (w.drewN (n0 + n)) fun e w''=>e = .returned v /\ ∃ m,w'' = w.drewN (n0 + m):=
 h.mono fun _ _ ⟨he,m,hm⟩=>⟨he,n + m,by rw [hm,World.drewN_drewN,Nat.add_assoc]⟩
theorem rS (w : World) {B1 B2 : Nat} {ns : List ByteArray} {p q : NPl} (h1 : aD B1 w ns p) (h2 : aD B2 w ns q) {n : Nat} (hn : n = ns.length) (hl : n <= 1000000) :
  Calls Tryz.prog 29 #[.slice p.a n p.c,.slice q.a n q.c] w fun e w'=>e = .returned (.bool true) /\ ∃ k,w' = w.drewN k:=by
 have r : Hid (∀ k,k < n -> (p.a = some ⟨p.b,0,none⟩ /\ w.cell? ⟨p.b,k,none⟩ = some (.string (ns.getD k e0))) /\ (q.a = some ⟨q.b,0,none⟩ /\ w.cell? ⟨q.b,k,none⟩ = some (.string (ns.getD k e0)))):=fun k v=>by
  have d : ns ≠ []:=by rintro rfl;simp at hn;omega
  obtain ⟨g,_,x,A,t,C,l⟩:=h1 d;obtain ⟨f,_,z,B,u,y,j⟩:=h2 d;refine ⟨⟨g,?_⟩,f,?_⟩
  ·rw [t.cell (by omega),l k (by omega)]
  ·rw [u.cell (by omega),j k (by omega)]
 clear h1 h2 hn;go_enter Tryz.func29,Tryz.ntmps29;go_wp2
 go_loopw [5] (fun i wr=>∃ k : Nat,k <= n /\ i = .int .i64 k /\ ∃ m,wr = w.drewN m) (fun i _=>n - (intOf i).toNat)
 case atStart=>exact ⟨0,Nat.zero_le _,rfl,0,rfl⟩
 case round=>
  obtain ⟨k,v,rfl,m,rfl⟩:=hrel;by_cases h : k < n
  ·obtain ⟨⟨g,l⟩,f,j⟩:=r.out k h
   obtain ⟨s,o⟩:=xe (ns.getD k e0);rw [<- o] at l j;rw [g,f];clear g f o;go_wp2;go_quiet (fail);go_wp2
   go_roundw
   case rel=>exact ⟨k + 1,by omega,by go_num,_,rfl⟩
   case measure=>simp [intOf];omega
  ·go_wp2
   go_ret;exact ⟨rfl,_,rfl⟩
theorem qT (w : World) {B1 B2 : Nat} {v1 v2 : Value} {xs ys : List (TI × NPl)} (h1 : RT B1 w v1 xs) (h2 : RT B2 w v2 ys) (he : xs.map Prod.fst = ys.map Prod.fst) (hs : ∀ x,x ∈ xs -> uM 1000000 x.1) (hl : xs.length <= 1000000) :
  Calls Tryz.prog 28 #[v1,v2] w fun e w'=>e = .returned (.bool true) /\ ∃ k,w' = w.drewN k:=by
 obtain ⟨J,M,rfl⟩:=ad h1.own;obtain ⟨K,P,rfl⟩:=ad h2.own;have h : ys.length = xs.length:=by have:=congrArg List.length he;simpa using this.symm
 rw [h];have G : Hid (∀ w',Bw w w' -> RT B1 w' (.slice J xs.length M) xs /\ RT B2 w' (.slice K ys.length P) ys):=fun w' hb=>⟨h1.below hb,h2.below hb⟩;have W : Hid (xs.map Prod.fst = ys.map Prod.fst /\ ∀ x,x ∈ xs -> uM 1000000 x.1):=⟨he,hs⟩;have HL:=hQx h;obtain ⟨n,E⟩:=xe (xs.length);rw [<- E] at hl ⊢;have HN : Hid (n = xs.length):=E
 have B : Hid (∀ k,k < n -> ∀ wr,Bw w wr -> ∃ (d b : Nat) (x : TI) (p q : NPl),J = some ⟨d,0,none⟩ /\ K = some ⟨b,0,none⟩ /\ wr.cell? ⟨d,k * 4,none⟩ = some (Value.int .i64 x.op) /\ wr.cell? ⟨d,k * 4 + 1,none⟩ = some (Value.string x.md) /\ wr.cell? ⟨d,k * 4 + 2,none⟩ = some (Value.string x.nm) /\ wr.cell? ⟨d,k * 4 + 3,none⟩ = some (Value.slice p.a x.ns.length p.c) /\ wr.cell? ⟨b,k * 4,none⟩ = some (Value.int .i64 x.op) /\ wr.cell? ⟨b,k * 4 + 1,none⟩ = some (Value.string x.md) /\ wr.cell? ⟨b,k * 4 + 2,none⟩ = some (Value.string x.nm) /\ wr.cell? ⟨b,k * 4 + 3,none⟩ = some (Value.slice q.a x.ns.length q.c) /\ Hid (aD B1 wr x.ns p /\ aD B2 wr x.ns q) /\ x.ns.length <= 1000000):=fun k T wr hb=>by
  have t : k < xs.length:=by omega
  have o : k < ys.length:=by omega
  obtain ⟨s,u⟩:=G.out wr hb;obtain ⟨d,S,v,_⟩:=au s.own (show 0 < xs.length by omega);obtain ⟨b,N,z,_⟩:=au u.own (show 0 < ys.length by omega);simp only [Value.slice.injEq] at v z;obtain ⟨rfl,-,rfl⟩:=v;obtain ⟨rfl,-,rfl⟩:=z;have y:=rU he t o;have H:=List.getElem_mem t;have O:=List.getElem_mem o;have L:=s.nm _ H;have I:=u.nm _ O;rw [<- y] at I;refine ⟨d,b,xs[k].1,xs[k].2,ys[k].2,rfl,rfl,af (f:=ei) aw s.own (j:=k) (r:=0) rfl t (by omega) rfl,af (f:=ei) aw s.own rfl t (by omega) rfl,af (f:=ei) aw s.own rfl t (by omega) rfl,af (f:=ei) aw s.own rfl t (by omega) rfl,?_,?_,?_,?_,⟨L,I⟩,hs _ H⟩
  ·rw [y];exact af (f:=ei) aw u.own (j:=k) (r:=0) rfl o (by omega) rfl
  ·rw [y];exact af (f:=ei) aw u.own rfl o (by omega) rfl
  ·rw [y];exact af (f:=ei) aw u.own rfl o (by omega) rfl
  ·rw [y];exact af (f:=ei) aw u.own rfl o (by omega) rfl
 clear h1 h2 he hs h E;go_enter Tryz.func28,Tryz.ntmps28;go_wp2
 go_loopw [5] (fun i wr=>∃ k : Nat,k <= n /\ i = .int .i64 k /\ ∃ m,wr = w.drewN m) (fun i _=>n - (intOf i).toNat)
 case atStart=>exact ⟨0,Nat.zero_le _,rfl,0,rfl⟩
 case round=>
  obtain ⟨k,T,rfl,m,rfl⟩:=hrel;by_cases D : k < n
  ·obtain ⟨d,b,x,p,q,rfl,rfl,Z,X,Y,R,U,V,z2,Q,l,A⟩:=B.out k D w (Below.refl _ _)
   obtain ⟨F,g⟩:=xe (x.ns.length);rw [<- g] at R Q A;have C : Hid (∀ j,Calls Tryz.prog 29 #[.slice p.a F p.c,.slice q.a F q.c] (w.drewN j) fun e w'=>e = .returned (.bool true) /\ ∃ k,w' = (w.drewN j).drewN k):=fun j=>rS (w.drewN j) (l.out.1.below (w':=w.drewN j) ⟨rfl,rfl,rfl,nlr _,fun _ _=>rfl⟩) (l.out.2.below (w':=w.drewN j) ⟨rfl,rfl,rfl,nlr _,fun _ _=>rfl⟩) g A;clear G B l g;go_wp2;go_quiet (first | (go_at_call 29;first | (exact Calls.quiet_of (C.out _)) | (exact jA (C.out _))));go_wp2
   go_roundw
   case rel=>exact ⟨k + 1,by omega,by go_num,_,rfl⟩
   case measure=>simp [intOf];omega
  ·go_wp2
   go_ret;exact ⟨rfl,_,rfl⟩
theorem AM {p : Prop} (h : p) : Hid p:=h
structure BS (wr : World) (a1 a2 : Option Addr) (k g1 g2 : Nat) (x : EI) (p q : NPl) (ml : Nat) (u1 u2 : Option Addr) (m1 m2 d1 d2 : Nat) : Prop where
 at1 : a1 = some ⟨g1,0,none⟩
 at2 : a2 = some ⟨g2,0,none⟩
 c1 : wr.cell? ⟨g1,k * 6,none⟩ = some (Value.int .i64 x.op) /\ wr.cell? ⟨g1,k * 6 + 1,none⟩ = some (Value.int .i64 x.num) /\ wr.cell? ⟨g1,k * 6 + 2,none⟩ = some (Value.string x.md) /\ wr.cell? ⟨g1,k * 6 + 3,none⟩ = some (Value.string x.nm) /\ wr.cell? ⟨g1,k * 6 + 4,none⟩ = some (Value.slice p.a ml p.c) /\ wr.cell? ⟨g1,k * 6 + 5,none⟩ = some (Value.slice u1 m1 d1)
 c2 : wr.cell? ⟨g2,k * 6,none⟩ = some (Value.int .i64 x.op) /\ wr.cell? ⟨g2,k * 6 + 1,none⟩ = some (Value.int .i64 x.num) /\ wr.cell? ⟨g2,k * 6 + 2,none⟩ = some (Value.string x.md) /\ wr.cell? ⟨g2,k * 6 + 3,none⟩ = some (Value.string x.nm) /\ wr.cell? ⟨g2,k * 6 + 4,none⟩ = some (Value.slice q.a ml q.c) /\ wr.cell? ⟨g2,k * 6 + 5,none⟩ = some (Value.slice u2 m2 d2)
 cn : ∀ W,Bw wr W -> Calls Tryz.prog 29 #[.slice p.a ml p.c,.slice q.a ml q.c] W fun e w'=>e = .returned (.bool true) /\ ∃ k,w' = W.drewN k
 ct : ∀ W,Bw wr W -> Calls Tryz.prog 28 #[.slice u1 m1 d1,.slice u2 m2 d2] W fun e w'=>e = .returned (.bool true) /\ ∃ k,w' = W.drewN k
theorem B8 {wr : World} {B1 B2 n : Nat} {a1 a2 : Option Addr} {c1 c2 : Nat} {xs ys : List (EI × EPl)} (R1 : RE B1 wr (.slice a1 xs.length c1) xs) (R2 : RE B2 wr (.slice a2 ys.length c2) ys) (he : xs.map Prod.fst = ys.map Prod.fst) (hs : ∀ x,x ∈ xs -> jN 1000000 x.1) (hn : n = xs.length) {k : Nat} (hk : k < n) :
  ∃ g1 g2 x p q ml u1 u2 m1 m2 d1 d2,BS wr a1 a2 k g1 g2 x p q ml u1 u2 m1 m2 d1 d2:=by
 have u : ys.length = xs.length:=by have:=congrArg List.length he;simpa using this.symm
 have b : k < xs.length:=by omega
 have a : k < ys.length:=by omega
 obtain ⟨g1,z,e,_⟩:=au R1.own (show 0 < xs.length by omega);obtain ⟨g2,v,g,_⟩:=au R2.own (show 0 < ys.length by omega);simp only [Value.slice.injEq] at e g;obtain ⟨rfl,-,rfl⟩:=e;obtain ⟨rfl,-,rfl⟩:=g;have d:=rU he b a;have l:=List.getElem_mem b;have y:=List.getElem_mem a;have c:=R1.ok _ l;have m:=R2.ok _ y;obtain ⟨u1,d1,t⟩:=ad c.ty.own;obtain ⟨u2,d2,s⟩:=ad m.ty.own;have h:=m.is;have i:=m.nm;rw [<- d] at h i;have o:=hs _ l;refine ⟨g1,g2,xs[k].1,xs[k].2.np,ys[k].2.np,xs[k].1.ns.length,u1,u2,xs[k].2.zs.length,ys[k].2.zs.length,d1,d2,rfl,rfl,⟨af (f:=cU) av R1.own (j:=k) (r:=0) rfl b (by omega) rfl,af (f:=cU) av R1.own rfl b (by omega) rfl,af (f:=cU) av R1.own rfl b (by omega) rfl,af (f:=cU) av R1.own rfl b (by omega) rfl,af (f:=cU) av R1.own rfl b (by omega) rfl,af (f:=cU) av R1.own rfl b (by omega) (by rw [<- t];rfl)⟩,⟨?_,?_,?_,?_,?_,?_⟩,fun W hb=>?_,fun W hb=>?_⟩
 ·rw [d];exact af (f:=cU) av R2.own (j:=k) (r:=0) rfl a (by omega) rfl
 ·rw [d];exact af (f:=cU) av R2.own rfl a (by omega) rfl
 ·rw [d];exact af (f:=cU) av R2.own rfl a (by omega) rfl
 ·rw [d];exact af (f:=cU) av R2.own rfl a (by omega) rfl
 ·rw [d];exact af (f:=cU) av R2.own rfl a (by omega) rfl
 ·exact af (f:=cU) av R2.own rfl a (by omega) (by rw [<- s];rfl)
 ·exact rS W (c.nm.below hb) (i.below hb) rfl o.1
 ·have C:=qT W (c.ty.below hb) (m.ty.below hb) (c.is.trans h.symm) (fun x l=>o.2.2 _ (by rw [<- c.is];exact List.mem_map_of_mem l)) (by have:=congrArg List.length c.is;rw [List.length_map] at this;rw [this];exact o.2.1)
  rw [t,s] at C;exact C
theorem zT (w : World) {B1 B2 : Nat} {d : DC} {p q : DPl} (h1 : da B1 w d p) (h2 : da B2 w d q) (sm : ur 1000000 d) :
  Calls Tryz.prog 13 #[.agg #[.int .i64 d.kind,.string d.nm,p.tv,p.ev],.agg #[.int .i64 d.kind,.string d.nm,q.tv,q.ev]] w fun e w'=>e = .returned (.bool true) /\ Bw w w':=by
 have HT : Hid (∀ W,Bw w W -> Calls Tryz.prog 28 #[p.tv,q.tv] W fun e w'=>e = .returned (.bool true) /\ ∃ k,w' = W.drewN k):=fun W hb=>qT W (h1.ty.below hb) (h2.ty.below hb) (h1.isT.trans h2.isT.symm) (fun x hx=>sm.2.1 _ (by rw [<- h1.isT];exact List.mem_map_of_mem hx)) (by have:=congrArg List.length h1.isT;rw [List.length_map] at this;rw [this];exact sm.1);obtain ⟨a1,Z,e1⟩:=ad h1.ty.own;obtain ⟨a2,c2,e2⟩:=ad h2.ty.own;obtain ⟨K,U,e3⟩:=ad h1.ex.own;obtain ⟨H,S,e4⟩:=ad h2.ex.own;have F : p.es.length = d.ex.length:=by rw [<- h1.isE,List.length_map]
 have m : q.es.length = d.ex.length:=by rw [<- h2.isE,List.length_map]
 have a9 : d.ex.length <= 1000000:=sm.2.2.1
 have J : Hid (∀ W,Bw w W -> ∀ k,k < d.ex.length -> ∃ g1 g2 x p q f s B u E t A,BS W K H k g1 g2 x p q f s B u E t A):=fun W hb k hk=>by
  have R1:=h1.ex.below hb;have R2:=h2.ex.below hb;rw [e3] at R1;rw [e4] at R2;exact B8 R1 R2 (h1.isE.trans h2.isE.symm) (fun x hx=>sm.2.2.2 _ (by rw [<- h1.isE];exact List.mem_map_of_mem hx)) F.symm hk
 obtain ⟨G,Q⟩:=xe (d.kind);obtain ⟨nm,I⟩:=xe (d.nm);obtain ⟨n,hn⟩:=xe (d.ex.length);obtain ⟨X,C⟩:=xe (p.zs.length);obtain ⟨Y,D⟩:=xe (q.zs.length);rw [e1,e2,<- C,<- D] at HT;rw [<- hn] at J a9;rw [e1,e2,e3,e4,F,m,<- Q,<- I,<- hn,<- C,<- D];clear h1 h2 sm e1 e2 e3 e4 Q I F m hn C D;obtain ⟨l,g⟩:=xe ((w.alloc (.cells #[.int .i64 G,.string nm,.slice a1 X Z,.slice K n U] 37)).alloc (.cells #[.int .i64 G,.string nm,.slice a2 Y c2,.slice H n S] 37));have z : Hid (Bw w l):=by rw [g];exact eM _ _ _
 have M : Hid (l.rowIs w.heap.size 37 4 (v4 (.int .i64 G) (.string nm) (.slice a1 X Z) (.slice K n U))):=by rw [g];exact (fK w _ _ _ _ _).alloc _
 have L : Hid (l.rowIs (w.heap.size + 1) 37 4 (v4 (.int .i64 G) (.string nm) (.slice a2 Y c2) (.slice H n S))):=by
  have r:=fK (w.alloc (.cells #[.int .i64 G,.string nm,.slice a1 X Z,.slice K n U] 37)) (.int .i64 G) (.string nm) (.slice a2 Y c2) (.slice H n S) 37;rw [World.size_alloc] at r;rw [g];exact r
 have C0:=HT.out l z.out;have R : Hid (∀ W,Bw l W -> W.cell? ⟨w.heap.size,3,none⟩ = some (.slice K n U) /\ W.cell? ⟨w.heap.size + 1,3,none⟩ = some (.slice H n S)):=fun W hb=>⟨(M.out.of_block (hb.block _ M.out.lt)).cell (i:=3) (by omega),(L.out.of_block (hb.block _ L.out.lt)).cell (i:=3) (by omega)⟩;go_enter Tryz.func13,Tryz.ntmps13;go_wp2_with fail;rw [<- g];clear g;refine C0.mono ?_;rintro e w2 ⟨rfl,kk,rfl⟩;obtain ⟨q1,q2⟩:=R.out (l.drewN kk) (bh _ _);clear C0 HT;go_wp2
 go_loopw [5] (fun i wr=>∃ k : Nat,k <= n /\ i = .int .i64 k /\ Hid (Bw l wr)) (fun i _=>n - (intOf i).toNat)
 case atStart=>exact ⟨0,Nat.zero_le _,rfl,bh _ _⟩
 case round=>
  obtain ⟨k,hk,rfl,V⟩:=hrel;obtain ⟨q3,q4⟩:=R.out wr V.out;have O : Hid (Bw w wr):=z.out.trans (V.out.mono z.out.size);by_cases a5 : k < n
  ·obtain ⟨g1,g2,x,p,q,f,s,B,u,E,t,A,T⟩:=J.out wr O.out k a5
   obtain ⟨y0,y1,y2,y3,y4,y5⟩:=T.c1;obtain ⟨z0,z1,z2,z3,z4,z5⟩:=T.c2;have bb:=T.at1;have ah:=T.at2;have P:=AM T.cn;have N:=AM T.ct;clear T;subst bb ah;have a6 : (k : Int) < (n : Int):=by omega
   have b9 : (0 : Int) <= (k : Int):=by omega
   have y : ∀ (b o : Nat) (v : Value),wr.cell? ⟨b,o,none⟩ = some v -> (wr.alloc (.cells #[.int .i64 x.op,.int .i64 x.num,.string x.md,.string x.nm,.slice p.a f p.c,.slice s u t] 65)).cell? ⟨b,o,none⟩ = some v:=fun b o v h=>((bel1 wr _).cell (p:=⟨b,o,none⟩) (blt h)).trans h;have x9:=y _ _ _ q4;have x0:=y _ _ _ z0;have x1:=y _ _ _ z1;have x2:=y _ _ _ z2;have x3:=y _ _ _ z3;have x4:=y _ _ _ z4;have x5:=y _ _ _ z5;clear y;have C1:=P.out ((wr.alloc (.cells #[.int .i64 x.op,.int .i64 x.num,.string x.md,.string x.nm,.slice p.a f p.c,.slice s u t] 65)).alloc (.cells #[.int .i64 x.op,.int .i64 x.num,.string x.md,.string x.nm,.slice q.a f q.c,.slice B E A] 65)) (eM _ _ _);have C2 : Hid (∀ j,Calls Tryz.prog 28 #[.slice s u t,.slice B E A] (((wr.alloc (.cells #[.int .i64 x.op,.int .i64 x.num,.string x.md,.string x.nm,.slice p.a f p.c,.slice s u t] 65)).alloc (.cells #[.int .i64 x.op,.int .i64 x.num,.string x.md,.string x.nm,.slice q.a f q.c,.slice B E A] 65)).drewN j) fun e w'=>e = .returned (.bool true) /\ ∃ k,w' = (((wr.alloc (.cells #[.int .i64 x.op,.int .i64 x.num,.string x.md,.string x.nm,.slice p.a f p.c,.slice s u t] 65)).alloc (.cells #[.int .i64 x.op,.int .i64 x.num,.string x.md,.string x.nm,.slice q.a f q.c,.slice B E A] 65)).drewN j).drewN k):=fun j=>N.out _ (ph _ _ _ j);clear P N;go_wp2_with fail;refine C1.mono ?_;rintro e w' ⟨rfl,k1,rfl⟩;clear C1;go_wp2_with fail;refine (C2.out _).mono ?_;rintro e w' ⟨rfl,k2,rfl⟩;have bf : Hid (Bw l (((wr.alloc (.cells #[.int .i64 x.op,.int .i64 x.num,.string x.md,.string x.nm,.slice p.a f p.c,.slice s u t] 65)).alloc (.cells #[.int .i64 x.op,.int .i64 x.num,.string x.md,.string x.nm,.slice q.a f q.c,.slice B E A] 65)).drewN (k1 + k2))):=V.out.trans ((ph wr _ _ (k1 + k2)).mono V.out.size);clear C2;go_wp2
   go_roundw
   case rel=>exact ⟨k + 1,by omega,by go_num,bf⟩
   case measure=>simp [intOf];omega
  ·have bo : k = n:=by omega
   subst bo;have a6 : ¬ (k : Int) < (k : Int):=by omega
   go_wp2;go_ret;exact ⟨rfl,O.out⟩
theorem nT {B : Nat} {w : World} {a : Option Addr} {c n : Nat} {xs : List (DC × DPl)} (h : RD B w (.slice a xs.length c) xs) (hn : n = xs.length) {k : Nat} (hk : k < n) : ∃ (g : Nat) (d : DC) (p : DPl) (ta : Option Addr) (tn tc : Nat) (ea : Option Addr) (en ec : Nat),a = some ⟨g,0,none⟩ /\ w.cell? ⟨g,k * 4,none⟩ = some (.int .i64 d.kind) /\ w.cell? ⟨g,k * 4 + 1,none⟩ = some (.string d.nm) /\ w.cell? ⟨g,k * 4 + 2,none⟩ = some (.slice ta tn tc) /\ w.cell? ⟨g,k * 4 + 3,none⟩ = some (.slice ea en ec) /\ p.tv = .slice ta tn tc /\ p.ev = .slice ea en ec /\ da B w d p /\ (xs.map Prod.fst)[k]? = some d:=by
 subst hn;obtain ⟨g,l,ev,_⟩:=au h.own (show 0 < xs.length by omega);simp only [Value.slice.injEq] at ev;obtain ⟨rfl,-,rfl⟩:=ev;have i:=List.getElem_mem hk;have ok:=h.ok _ i;obtain ⟨ta,tc,e⟩:=ad ok.ty.own;obtain ⟨ea,ec,b⟩:=ad ok.ex.own;refine ⟨g,xs[k].1,xs[k].2,ta,_,tc,ea,_,ec,rfl,af (f:=fU) bz h.own (j:=k) (r:=0) rfl hk (by omega) rfl,af (f:=fU) bz h.own rfl hk (by omega) rfl,af (f:=fU) bz h.own rfl hk (by omega) (by rw [<- e];rfl),af (f:=fU) bz h.own rfl hk (by omega) (by rw [<- b];rfl),e,b,ok,?_⟩;rw [List.getElem?_map,List.getElem?_eq_getElem hk];rfl
theorem un (w : World) {B1 B2 : Nat} {a1 a2 : Option Addr} {c1 c2 : Nat} {xs zs : List (DC × DPl)} (h1 : RD B1 w (.slice a1 zs.length c1) zs) (h2 : RD B2 w (.slice a2 xs.length c2) xs) (he : zs.map Prod.fst = xs.map Prod.fst) (hsm : ∀ d,d ∈ xs.map Prod.fst -> ur 1000 d) (hl : zs.length <= 1000) :
  Calls Tryz.prog 7 #[.agg #[.slice a1 zs.length c1],.agg #[.slice a2 xs.length c2]] w fun e w'=>e = .returned (.bool true) /\ Bw w w':=by
 have V : xs.length = zs.length:=by have:=congrArg List.length he;rw [List.length_map,List.length_map] at this;exact this.symm
 obtain ⟨a,l⟩:=xe (zs.length);have HZ : Hid (∀ W,Bw w W -> RD B1 W (.slice a1 zs.length c1) zs /\ RD B2 W (.slice a2 xs.length c2) xs):=fun W hb=>⟨h1.below hb,h2.below hb⟩;have n : Hid (a = zs.length /\ a = xs.length /\ zs.map Prod.fst = xs.map Prod.fst):=⟨l,by omega,he⟩;have a7:=hQx hsm;rw [V,<- l];rw [<- l] at hl;obtain ⟨q,c⟩:=xe ((w.alloc (.cells #[.slice a1 a c1] 25)).alloc (.cells #[.slice a2 a c2] 25));have Q : Hid (Bw w q):=by rw [c];exact eM _ _ _
 have J : Hid (q.rowIs w.heap.size 25 1 (fun _=>.slice a1 a c1)):=by rw [c];exact (aK w _ _).alloc _
 have H : Hid (q.rowIs (w.heap.size + 1) 25 1 (fun _=>.slice a2 a c2)):=by
  rw [c];have h:=aK (w.alloc (.cells #[.slice a1 a c1] 25)) (.slice a2 a c2) 25;rw [World.size_alloc] at h;exact h
 have X : Hid (∀ W,Bw q W -> W.cell? ⟨w.heap.size,0,none⟩ = some (.slice a1 a c1) /\ W.cell? ⟨w.heap.size + 1,0,none⟩ = some (.slice a2 a c2)):=fun W hb=>⟨(J.out.of_block (hb.block _ J.out.lt)).cell (i:=0) (by omega),(H.out.of_block (hb.block _ H.out.lt)).cell (i:=0) (by omega)⟩;obtain ⟨Z,z2⟩:=X.out q (Below.refl _ _);have bL : ((a : Int) != (a : Int)) = false:=by simp
 clear h1 h2 he hsm V l;go_enter Tryz.func7,Tryz.ntmps7;go_upto_region 1 with fail;rw [<- c];clear c;go_wp2;clear Z z2
 go_loopw [5] (fun i wr=>∃ k : Nat,k <= a /\ i = .int .i64 k /\ Hid (Bw q wr)) (fun i _=>a - (intOf i).toNat)
 case atStart=>exact ⟨0,Nat.zero_le _,rfl,Below.refl _ _⟩
 case round=>
  obtain ⟨k,hk,rfl,HW⟩:=hrel;obtain ⟨Z,z2⟩:=X.out wr HW.out;have s : Hid (Bw w wr):=Q.out.trans (HW.out.mono Q.out.size);by_cases I : k < a
  ·have lk : (k : Int) < (a : Int):=by omega
   have cb : (0 : Int) <= (k : Int):=by omega
   obtain ⟨j,d1,p1,R,E,x,O,F,z,ez,u0,u1,u2,u3,y,U,Y,t⟩:=nT (HZ.out wr s.out).1 n.out.1 I;obtain ⟨f,C,p2,L,G,M,B,P,T,ex,q0,q1,q2,q3,S,D,K,r⟩:=nT (HZ.out wr s.out).2 n.out.2.1 I
   have a3 : C = d1:=by
    rw [n.out.2.2,r] at t;exact Option.some.inj t
   subst a3;have sm : ur 1000000 C:=(a7.out C (List.mem_of_getElem? r)).mono (by omega);have C8:=zT wr.drew (Y.below (Below.refl _ _).drew) (K.below (Below.refl _ _).drew) sm;rw [y,U,S,D] at C8;obtain ⟨kd,u⟩:=xe (C.kind);obtain ⟨nm,m⟩:=xe (C.nm);rw [<- u,<- m] at C8;rw [<- u] at u0 q0;rw [<- m] at u1 q1;have a0:=AM C8;rw [ez] at Z;rw [ex] at z2
   have a4 : Hid (∀ W,Bw wr W -> W.cell? ⟨w.heap.size,0,none⟩ = some (.slice (some ⟨j,0,none⟩) a c1) /\ W.cell? ⟨w.heap.size + 1,0,none⟩ = some (.slice (some ⟨f,0,none⟩) a c2) /\ W.cell? ⟨j,k * 4,none⟩ = some (.int .i64 kd) /\ W.cell? ⟨j,k * 4 + 1,none⟩ = some (.string nm) /\ W.cell? ⟨j,k * 4 + 2,none⟩ = some (.slice R E x) /\ W.cell? ⟨j,k * 4 + 3,none⟩ = some (.slice O F z) /\ W.cell? ⟨f,k * 4,none⟩ = some (.int .i64 kd) /\ W.cell? ⟨f,k * 4 + 1,none⟩ = some (.string nm) /\ W.cell? ⟨f,k * 4 + 2,none⟩ = some (.slice L G M) /\ W.cell? ⟨f,k * 4 + 3,none⟩ = some (.slice B P T)):=fun W hb=>by
    have g : ∀ {b o : Nat} {v : Value},wr.cell? ⟨b,o,none⟩ = some v -> W.cell? ⟨b,o,none⟩ = some v:=fun {b o v} h=>(hb.cell (p:=⟨b,o,none⟩) (blt h)).trans h;exact ⟨g Z,g z2,g u0,g u1,g u2,g u3,g q0,g q1,g q2,g q3⟩
   clear C8 sm Y K y U S D t r u m ez ex;go_wp2
   go_region_held3 (fun wq=>wq.cell? ⟨w.heap.size,0,none⟩ = some (.slice (some ⟨j,0,none⟩) a c1) /\ wq.cell? ⟨w.heap.size + 1,0,none⟩ = some (.slice (some ⟨f,0,none⟩) a c2) /\ wq.cell? ⟨j,k * 4,none⟩ = some (.int .i64 kd) /\ wq.cell? ⟨j,k * 4 + 1,none⟩ = some (.string nm) /\ wq.cell? ⟨j,k * 4 + 2,none⟩ = some (.slice R E x) /\ wq.cell? ⟨j,k * 4 + 3,none⟩ = some (.slice O F z) /\ wq.cell? ⟨f,k * 4,none⟩ = some (.int .i64 kd) /\ wq.cell? ⟨f,k * 4 + 1,none⟩ = some (.string nm) /\ wq.cell? ⟨f,k * 4 + 2,none⟩ = some (.slice L G M) /\ wq.cell? ⟨f,k * 4 + 3,none⟩ = some (.slice B P T)) (go_keep) ((go_at_call 13;(with_reducible refine a0.out.mono ?_);rintro e9 w9 ⟨rfl,A⟩;have N : Hid (Bw wr w9):=(Below.refl _ _).drew.trans A;clear A;obtain ⟨r8,r9,r0,r1,r2,r3,r4,r5,r6,r7⟩:=a4.out w9 N.out))
   all_goals
    clear r0 r1 r2 r3 r4 r5 r6 r7 r8 r9;have a6 : Hid (Bw q w9):=HW.out.trans (N.out.mono HW.out.size);go_wp2;refine ⟨⟨k + 1,by omega,by go_num,a6⟩,by simp [intOf];omega⟩
  ·have lk : ¬ (k : Int) < (a : Int):=by omega
   go_wp2;go_ret;exact ⟨rfl,s.out⟩
end Go.Proofs.YtihedobejcaapaaGreatDoor
