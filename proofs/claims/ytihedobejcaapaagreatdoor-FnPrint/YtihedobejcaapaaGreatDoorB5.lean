/-
  VbG VbH VbI
-/
import Derived.Test.YtihedobejcaapaaGreatDoorB4
set_option maxHeartbeats 4000000
set_option maxRecDepth 100000
namespace Go.Proofs.YtihedobejcaapaaGreatDoor
open Go.RowKit
theorem gI (s : ByteArray) : e0 ++ s = s:=by unfold e0;simp
theorem jF (s : ByteArray) : s ++ e0 = s:=by unfold e0;simp
theorem yG (w : World) (op : Int) (md nm : ByteArray) (pa : Option Addr) (n pc : Nat) (hm : md.size <= 1048576) (hn : nm.size <= 1048576) :
  Calls Tryz.prog 52 #[.agg #[.int .i64 op,.string md,.string nm,.slice pa n pc]] w fun e w'=>e = .returned (.string (ia md nm)) /\ Bw w w':=by
 have b : Hid (ia md nm = if md.size = 0 then nm else md ++ aQ ++ nm):=by show _ = _;rfl
 obtain ⟨r,f⟩:=xe (ia md nm);rw [<- f] at b ⊢;clear f;go_enter Tryz.func52,Tryz.ntmps52;by_cases a : md.size = 0
 ·have c : Hid (r = nm):=by show _ = _;rw [b.out,if_pos a]
  have g : md = ByteArray.empty:=bJ a;subst g;clear b a;go_wp2;go_ret;exact ⟨by rw [c.out];rfl,bel1 _ _⟩
 ·have c : Hid (r = md ++ (⟨#[58]⟩ : ByteArray) ++ nm):=by show _ = _;rw [b.out,if_neg a];rfl
  have g : ¬ md = ByteArray.empty:=fZ a;have k : (0 : Int) < (md.size : Int):=by omega
  have h : 0 < md.size:=by omega
  have d : (⟨#[58]⟩ : ByteArray).size = 1:=rfl;have i:=rsa md (⟨#[58]⟩ : ByteArray) (by rw [d];omega);have j:=rsa (md ++ (⟨#[58]⟩ : ByteArray)) nm (by rw [bsa,d];omega);clear b a;go_wp2;go_ret;exact ⟨by rw [c.out];rfl,bel1 _ _⟩
theorem fT_cases {t : TI} {f : Fm} (h : fT t = some f) : (t.op = 1 /\ f = ⟨1,[],[jD]⟩) \/ (t.op = 2 /\ f = ⟨1,[],[eB]⟩) \/ (t.op = 3 /\ f = ⟨1,[],[iC]⟩) \/ (t.op = 4 /\ f = ⟨1,[],[ia t.md t.nm]⟩) \/ (t.op = 5 /\ f = fF t.ns dz 1) \/ (t.op = 6 /\ f = ⟨0,[1,0],[e0,iu,e0]⟩):=by
 unfold fT at h;refine ak h (fun z h=>ac h (fun e=>by cases e;exact Or.inr (Or.inr (Or.inr (Or.inl ⟨z,rfl⟩)))) aa) fun z4 h=>?_;refine ac h (fun h=>?_) aa;refine ak h (fun z h=>ac h (fun e=>by cases e;exact Or.inr (Or.inr (Or.inr (Or.inr (Or.inl ⟨z,rfl⟩))))) aa) fun z5 h=>?_;refine ac h (fun h=>?_) aa;refine ak h (fun z e=>by cases e;exact Or.inl ⟨z,rfl⟩) fun z1 h=>?_;refine ak h (fun z e=>by cases e;exact Or.inr (Or.inl ⟨z,rfl⟩)) fun z2 h=>?_;refine ak h (fun z e=>by cases e;exact Or.inr (Or.inr (Or.inl ⟨z,rfl⟩))) fun z3 h=>?_;exact ak h (fun z e=>by cases e;exact Or.inr (Or.inr (Or.inr (Or.inr (Or.inr ⟨z,rfl⟩))))) fun _ h=>aa h
def Ag (xs : List (TI × NPl)) (l : List TI) (a : Option Addr) (c e : Nat) : Prop:=∀ (W : World) (z : Int),fq W (.slice a xs.length c) xs -> z = (e : Int) + 1 -> Calls Tryz.prog 26 #[.slice a xs.length c,.int .i64 z] W fun r w'=>r = .returned (.string (pw (FT l) (e + 1)).1) /\ Bw W w'
structure Bq (xs : List (TI × NPl)) (l : List TI) (e : Nat) : Prop where
 is : xs.map Prod.fst = l
 ar : yX l (e + 1)
 vk : Vk (fun i=>(FT l i).needs.length) (e + 1)
 sz : ∀ k,k <= e + 1 -> (pw (FT l) k).1.size <= 100000000
theorem Bq.item {xs : List (TI × NPl)} {l : List TI} {e : Nat} (h : Bq xs l e) {k : Nat} (hk : k < xs.length) (hke : k <= e) : ∃ f,fT xs[k].1 = some f /\ FT l k = f:=by
 have a:=h.ar k (by omega);rw [rm h.is hk] at a
 cases hf : fT xs[k].1 with
 | none=>rw [hf] at a;cases a
 | some f=>
   refine ⟨f,rfl,?_⟩;unfold FT;rw [<- h.is,List.getElem?_map,List.getElem?_eq_getElem hk];show (fT xs[k].1).getD wK = f;rw [hf];rfl
theorem cO {xs : List (TI × NPl)} {l : List TI} {a : Option Addr} {c e : Nat} (H : Bq xs l e) (he : e < xs.length) {f : Fm} (hf : fT xs[e].1 = some f) (h4 : xs[e].1.op = 1 /\ f = ⟨1,[],[jD]⟩ \/ xs[e].1.op = 2 /\ f = ⟨1,[],[eB]⟩ \/ xs[e].1.op = 3 /\ f = ⟨1,[],[iC]⟩ \/ xs[e].1.op = 4 /\ f = ⟨1,[],[ia xs[e].1.md xs[e].1.nm]⟩) : Ag xs l a c e:=by
 intro w z h F;subst F;have q:=uW (l:=l) (e:=e) (t:=xs[e].1) (by rw [<- H.is,List.getElem?_map,List.getElem?_eq_getElem he];rfl) hf H.vk;obtain ⟨g,rfl,s,D,G,K,n⟩:=h.item he;have u:=h.len;obtain ⟨r,o⟩:=xe ((pw (FT l) (e + 1)).1);obtain ⟨X,p⟩:=xe (xs[e]);rw [<- p] at s D G K n h4;have b : Hid (r = aC f.needs f.texts ((cC (fun i=>(FT l i).needs.length) f.needs.length e).map (pw (FT l)))):=by show _ = _;rw [o,q]
 rw [<- o];obtain ⟨op,m⟩:=xe (X.1.op);rw [<- m] at s h4;have E : IntKind.i64.wrap ((e : Int) + 1 - 1) = (e : Int):=wk (by omega);have A : IntKind.i64.wrap (e : Int) = (e : Int):=wk (by omega);have B : (e : Int) < (xs.length : Int):=by omega
 have I : (0 : Int) <= (e : Int):=by omega
 have J:=n.md;have x:=n.nm;clear h H q o p m hf n;rcases h4 with ⟨d,rfl⟩ | ⟨d,rfl⟩ | ⟨d,rfl⟩ | ⟨d,rfl⟩
 ·subst d
  have j : Hid (r = ⟨#[105,110,116]⟩):=b;clear b;go_enter Tryz.func26,Tryz.ntmps26;go_wp2;go_ret;exact ⟨by rw [j.out];rfl,bel1 _ _⟩
 ·subst d
  have j : Hid (r = ⟨#[98,111,111,108]⟩):=b;clear b;go_enter Tryz.func26,Tryz.ntmps26;go_wp2;go_ret;exact ⟨by rw [j.out];rfl,bel1 _ _⟩
 ·subst d
  have j : Hid (r = ⟨#[63]⟩):=b;clear b;go_enter Tryz.func26,Tryz.ntmps26;go_wp2;go_ret;exact ⟨by rw [j.out];rfl,bel1 _ _⟩
 ·subst d
  have j : Hid (r = ia X.1.md X.1.nm):=b;have C : Hid (∀ W,Calls Tryz.prog 52 #[.agg #[.int .i64 4,.string X.1.md,.string X.1.nm,.slice X.2.a X.1.ns.length X.2.c]] W fun e w'=>e = .returned (.string (ia X.1.md X.1.nm)) /\ Bw W w'):=fun W=>yG W 4 _ _ _ _ _ J x;clear b;go_enter Tryz.func26,Tryz.ntmps26;go_wp2_with fail;refine (C.out _).mono ?_;rintro L v ⟨rfl,k⟩;have y : Hid (Bw w v):=(bel1 _ _).trans (k.mono (by simp));clear k;go_wp2;go_ret;exact ⟨by rw [j.out];rfl,y.out⟩
theorem kV {l : List Nat} (h : l.length = 2) : ∃ x y,l = [x,y]:=by
 match l,h with
 | [x,y],_=>exact ⟨x,y,rfl⟩
theorem mU {xs : List (TI × NPl)} {l : List TI} {a : Option Addr} {c e : Nat} (H : Bq xs l e) (he : e < xs.length) (hf : fT xs[e].1 = some ⟨0,[1,0],[e0,iu,e0]⟩) (hop : xs[e].1.op = 6) (IH : ∀ q,q < e -> Ag xs l a c q) : Ag xs l a c e:=by
 intro w z h E;subst E;have hp:=uW (l:=l) (e:=e) (t:=xs[e].1) (by rw [<- H.is,List.getElem?_map,List.getElem?_eq_getElem he];rfl) hf H.vk
 have u : (FT l e).needs.length = 2:=by
  obtain ⟨f,Q,h2⟩:=H.item he (nlr _);rw [hf] at Q;cases Q;rw [h2];rfl
 have k:=H.vk e (Nat.lt_succ_self _)
 dsimp only at k
 rw [u] at k;obtain ⟨p0,p1,m⟩:=kV (bw (fun i=>(FT l i).needs.length) 2 e);have bn:=aZ (H.vk.mono (Nat.le_succ _)) k (p:=p0) (by rw [m];simp);have an:=aZ (H.vk.mono (Nat.le_succ _)) k (p:=p1) (by rw [m];simp);obtain ⟨b,rfl⟩ : ∃ q,p0 = q + 1:=⟨p0 - 1,by omega⟩;obtain ⟨o,rfl⟩ : ∃ q,p1 = q + 1:=⟨p1 - 1,by omega⟩;have O : Hid (∀ W,Bw w W -> fq W (.slice a xs.length c) xs):=fun W hb=>h.below hb
 have CP : Hid (∀ (W : World) (z : Int),Bw w W -> z = ((e + 1 : Nat) : Int) -> Calls Tryz.prog 53 #[.slice a xs.length c,.int .i64 z] W fun r w'=>∃ N L,r = .returned (.slice N 2 L) /\ Hid (w'.ownsRow W.heap.size 3 1 (.slice N 2 L) 2 (eh [b + 1,o + 1])) /\ Hid (Bw W w')):=fun W z hb E=>by
  have:=kq W (O.out W hb) H.is he H.ar E;rw [u,m] at this;exact this.mono fun r w' ⟨N,L,Q,h2,h3⟩=>⟨N,L,Q,h2,h3⟩
 have C0 : Hid (∀ (W : World) (z : Int),Bw w W -> z = (b : Int) + 1 -> Calls Tryz.prog 26 #[.slice a xs.length c,.int .i64 z] W fun r w'=>r = .returned (.string (pw (FT l) (b + 1)).1) /\ Bw W w'):=fun W z hb E=>IH b (by omega) W z (O.out W hb) E;have C1 : Hid (∀ (W : World) (z : Int),Bw w W -> z = (o : Int) + 1 -> Calls Tryz.prog 26 #[.slice a xs.length c,.int .i64 z] W fun r w'=>r = .returned (.string (pw (FT l) (o + 1)).1) /\ Bw W w'):=fun W z hb E=>IH o (by omega) W z (O.out W hb) E;have K : b < xs.length:=by omega
 obtain ⟨f0,I,G⟩:=H.item K (by omega)
 have v : ((pw (FT l) (b + 1)).2 < 1) ↔ xs[b].1.op = 6:=by
  show (FT l b).lev < 1 ↔ _;rw [G];exact A4 I
 obtain ⟨g,rfl,y0,y1,y2,y3,ti⟩:=h.item he
 have J : Hid (∀ W,Bw w W -> W.cell? ⟨g,b * 4,none⟩ = some (Value.int .i64 xs[b].1.op)):=fun W hb=>by
  obtain ⟨g',e',z0,_⟩:=(O.out W hb).item K;cases e';exact z0
 have b0:=h.len;have sA:=H.sz (b + 1) (by omega);have sB:=H.sz (o + 1) (by omega);have Z:=H.sz (e + 1) (nlr _);obtain ⟨r,hr⟩:=xe ((pw (FT l) (e + 1)).1);obtain ⟨A,hA⟩:=xe ((pw (FT l) (b + 1)).1);obtain ⟨B,hB⟩:=xe ((pw (FT l) (o + 1)).1)
 have M : Hid (r = (if xs[b].1.op = 6 then sL ++ A ++ sR else A) ++ iu ++ B):=by
  show _ = _;rw [hr,hp];show aC [1,0] [e0,iu,e0] (List.map (pw (FT l)) (cC _ 2 e)) = _;rw [m];show e0 ++ brk 1 (pw (FT l) (b + 1)) ++ (iu ++ brk 0 (pw (FT l) (o + 1)) ++ e0) = _;rw [qj,gI,jF,<- hB,<- ByteArray.append_assoc];congr 2;unfold brk;rw [<- hA];by_cases z : xs[b].1.op = 6
  ·rw [if_pos z,if_pos (v.2 z)]
  ·rw [if_neg z,if_neg (fun y=>z (v.1 y))]
 rw [<- hr] at Z ⊢;rw [<- hA] at sA C0;rw [<- hB] at sB C1;obtain ⟨X,hX⟩:=xe (xs[e]);obtain ⟨o0,P⟩:=xe (xs[b].1.op);rw [<- P] at J M;rw [<- hX] at y0 y1 y2 y3 hop;rw [hop] at y0;have b9 : IntKind.i64.wrap ((e : Int) + 1 - 1) = (e : Int):=wk (by omega);have ct : IntKind.i64.wrap (e : Int) = (e : Int):=wk (by omega);have cb : IntKind.i64.wrap ((b : Int) + 1 - 1) = (b : Int):=wk (by omega);have ca : IntKind.i64.wrap (b : Int) = (b : Int):=wk (by omega);have cM : (e : Int) < (xs.length : Int):=by omega
 have ck : (0 : Int) <= (e : Int):=by omega
 have cq : (b : Int) < (xs.length : Int):=by omega
 have cc : (0 : Int) <= (b : Int):=by omega
 clear h H hp u k m bn an IH I G v ti hr hA hB hX P hf hop O;go_enter Tryz.func26,Tryz.ntmps26;go_wp2_with fail;refine (CP.out _ _ (bel1 _ _) (by omega)).mono ?_;rintro e2 R ⟨N,L,rfl,S,Y⟩;have x : Hid (Bw w R):=(bel1 _ _).trans (Y.out.mono (by simp));obtain ⟨V,gc,ev,_⟩:=au S.out (by omega);simp only [Value.slice.injEq] at ev;obtain ⟨rfl,-,rfl⟩:=ev;have BX:=fK w (.int .i64 6) (.string X.1.md) (.string X.1.nm) (.slice X.2.a X.1.ns.length X.2.c) 80;have t0 : R.cell? ⟨w.heap.size,0,none⟩ = some (.int .i64 6):=(BX.of_block (Y.out.block _ BX.lt)).cell (i:=0) (by omega);have c0 : R.cell? ⟨V,0,none⟩ = some (.int .i64 ((b : Int) + 1)):=aU (es:=[b + 1,o + 1]) S.out rfl (j:=0) (by simp);have c1 : R.cell? ⟨V,1,none⟩ = some (.int .i64 ((o : Int) + 1)):=aU (es:=[b + 1,o + 1]) S.out rfl (j:=1) (by simp);clear BX Y S;go_wp2_with fail;refine (C0.out _ _ x.out (by omega)).mono ?_;rintro e3 w3 ⟨rfl,s⟩;have d : Hid (Bw w w3):=x.out.trans (s.mono x.out.size);have d0:=(s.cell (p:=⟨V,0,none⟩) (blt c0)).trans c0;have d1:=(s.cell (p:=⟨V,1,none⟩) (blt c1)).trans c1;have i0:=J.out w3 d.out;have sl : (⟨#[40]⟩ : ByteArray).size = 1:=rfl;have sr : (⟨#[41]⟩ : ByteArray).size = 1:=rfl;have T : (⟨#[32,45,62,32]⟩ : ByteArray).size = 4:=rfl;clear s c0 c1 t0;by_cases F : o0 = 6
 ·have bo : (o0 == 6) = true:=beq_iff_eq.2 F
  have U : Hid (r = ((⟨#[40]⟩ : ByteArray) ++ A ++ (⟨#[41]⟩ : ByteArray)) ++ (⟨#[32,45,62,32]⟩ : ByteArray) ++ B):=by show _ = _;rw [M.out,if_pos F];rfl
  have a1:=rsa (⟨#[40]⟩ : ByteArray) A (by rw [sl];omega);have a2:=rsa ((⟨#[40]⟩ : ByteArray) ++ A) (⟨#[41]⟩ : ByteArray) (by rw [bsa,sl,sr];omega);obtain ⟨A2,C⟩:=xe ((⟨#[40]⟩ : ByteArray) ++ A ++ (⟨#[41]⟩ : ByteArray));have c2 : A2.size <= 100000002:=by rw [C,bsa,bsa,sl,sr];omega
  rw [<- C] at U a2;have a3:=rsa A2 (⟨#[32,45,62,32]⟩ : ByteArray) (by rw [T];omega);have a4:=rsa (A2 ++ (⟨#[32,45,62,32]⟩ : ByteArray)) B (by rw [bsa,T];omega);clear F C M;go_wp2_with fail;refine (C1.out _ _ d.out (by omega)).mono ?_;rintro e4 w4 ⟨rfl,n⟩;have D : Hid (Bw w w4):=d.out.trans (n.mono d.out.size);clear n;go_wp2;go_ret;exact ⟨by rw [U.out];rfl,D.out⟩
 ·have bo : (o0 == 6) = false:=bn2 F
  have U : Hid (r = A ++ (⟨#[32,45,62,32]⟩ : ByteArray) ++ B):=by show _ = _;rw [M.out,if_neg F];rfl
  have a3:=rsa A (⟨#[32,45,62,32]⟩ : ByteArray) (by rw [T];omega);have a4:=rsa (A ++ (⟨#[32,45,62,32]⟩ : ByteArray)) B (by rw [bsa,T];omega);clear F M;go_wp2_with fail;refine (C1.out _ _ d.out (by omega)).mono ?_;rintro e4 w4 ⟨rfl,n⟩;have D : Hid (Bw w w4):=d.out.trans (n.mono d.out.size);clear n;go_wp2;go_ret;exact ⟨by rw [U.out];rfl,D.out⟩
theorem mQ {xs : List (TI × NPl)} {l : List TI} {a : Option Addr} {c e : Nat} (H : Bq xs l e) (he : e < xs.length) (hf : fT xs[e].1 = some (fF xs[e].1.ns dz 1)) (hop : xs[e].1.op = 5) (IH : ∀ q,q < e -> Ag xs l a c q) : Ag xs l a c e:=by
 intro w z h hz;subst hz;have hp:=uW (l:=l) (e:=e) (t:=xs[e].1) (by rw [<- H.is,List.getElem?_map,List.getElem?_eq_getElem he];rfl) hf H.vk
 have U : (FT l e).needs.length = xs[e].1.ns.length:=by
  obtain ⟨f,h1,h2⟩:=H.item he (nlr _);rw [hf] at h1;cases h1;rw [h2];exact (bq _ _ _).2.1
 have B:=H.vk e (Nat.lt_succ_self _)
 dsimp only at B
 rw [U] at B;have HT : Hid (∀ W,Bw w W -> fq W (.slice a xs.length c) xs):=fun W hb=>h.below hb;obtain ⟨j,u⟩:=xe (cC (fun i=>(FT l i).needs.length) xs[e].1.ns.length e);have d : j.length = xs[e].1.ns.length:=by rw [u];exact bw _ _ _
 have CP : Hid (∀ (W : World) (z : Int),Bw w W -> z = ((e + 1 : Nat) : Int) -> Calls Tryz.prog 53 #[.slice a xs.length c,.int .i64 z] W fun r w'=>∃ Y cp,r = .returned (.slice Y xs[e].1.ns.length cp) /\ Hid (w'.ownsRow W.heap.size 3 1 (.slice Y xs[e].1.ns.length cp) xs[e].1.ns.length (eh j)) /\ Hid (Bw W w')):=fun W z hb hz=>by
  have:=kq W (HT.out W hb) H.is he H.ar hz;rw [U,<- u] at this;exact this.mono fun r w' ⟨Y,cp,h1,h2,h3⟩=>⟨Y,cp,h1,h2,h3⟩
 have CQ : Hid (∀ (W : World) (z : Int) (k : Nat) (o : k < j.length),Bw w W -> z = (j[k] : Int) -> Calls Tryz.prog 26 #[.slice a xs.length c,.int .i64 z] W fun r w'=>r = .returned (.string (pw (FT l) j[k]).1) /\ Hid (Bw W w')):=fun W z k o hb hz=>by
  have hm:=aZ (H.vk.mono (Nat.le_succ _)) B (p:=j[k]) (by rw [<- u];exact List.getElem_mem o);have:=IH (j[k] - 1) (by omega) W z (HT.out W hb) (by omega);rw [show j[k] - 1 + 1 = j[k] by omega] at this;exact this
 have cb : Hid (∀ k (o : k < j.length),(pw (FT l) j[k]).1.size <= 100000000 /\ j[k] <= 1048576):=fun k o=>by
  have hm:=aZ (H.vk.mono (Nat.le_succ _)) B (p:=j[k]) (by rw [<- u];exact List.getElem_mem o);exact ⟨H.sz _ (by omega),by have:=h.len;omega⟩
 obtain ⟨g,rfl,y0,y1,y2,y3,ti⟩:=h.item he;have c1:=h.len;have K : Hid (∀ W,Bw w W -> lG W xs[e].2 xs[e].1.ns):=fun W hb=>ti.ns.below hb;have I : Hid (∀ k,k < xs[e].1.ns.length -> (xs[e].1.ns.getD k e0).size <= 1048576):=ti.sz;have T:=ti.len;have b0:=H.sz (e + 1) (nlr _);obtain ⟨r,hr⟩:=xe ((pw (FT l) (e + 1)).1);obtain ⟨X,hX⟩:=xe (xs[e]);rw [<- hX] at y0 y1 y2 y3 hop d CP K I T;obtain ⟨ns,M⟩:=xe (X.1.ns);rw [<- M] at y3 d CP K I T;obtain ⟨P,hP⟩ : ∃ P : Nat -> ByteArray,P = fun i=>(((j.map (pw (FT l))).getD i (e0,0)).1):=⟨_,rfl⟩
 have ah : Hid (∀ k (o : k < j.length),P k = (pw (FT l) j[k]).1):=fun k o=>by
  rw [hP];show ((j.map (pw (FT l))).getD k (e0,0)).1 = _;rw [List.getD_eq_getElem?_getD,List.getElem?_map,List.getElem?_eq_getElem o];rfl
 have C : (pw (FT l) (e + 1)).1 = aC (fF ns dz 1).needs (fF ns dz 1).texts (j.map (pw (FT l))):=by
  rw [hp,u,<- hX,<- M];show aC _ _ (List.map (pw (FT l)) (cC _ (fF ns dz 1).needs.length e)) = _;rw [(bq _ _ _).2.1]
 have HR : Hid (r = bU dz ns P ns.length ++ xC):=by
  show _ = _;rw [hr,C,mC 1 (by rw [List.length_map];exact d),hP]
 have a8 : Hid (∀ i,i <= ns.length -> (bU dz ns P i).size <= 100000000):=fun i hi=>by
  have:=px (sign:=dz) (ns:=ns) (ps:=j.map (pw (FT l))) 1 (by rw [List.length_map];exact d) hi;rw [<- C] at this;rw [hP];omega
 rw [<- hr];rw [hop] at y0;obtain ⟨n,hn⟩:=xe (ns.length);have HN : Hid (ns.length = n):=hn.symm;rw [<- hn] at y3 d CP I T HR a8;have de : IntKind.i64.wrap ((e : Int) + 1 - 1) = (e : Int):=wk (by omega);have eb : IntKind.i64.wrap (e : Int) = (e : Int):=wk (by omega);have ee : (e : Int) < (xs.length : Int):=by omega
 have dt : (0 : Int) <= (e : Int):=by omega
 have N : Hid (j.length = n):=d;clear h H hp U B u IH ti hr hX M hf hop HT C hP b0 hn d;go_enter Tryz.func26,Tryz.ntmps26;go_wp2_with fail;refine (CP.out _ _ (bel1 _ _) (by omega)).mono ?_;rintro e2 E ⟨Y,cp,rfl,HO,HB⟩;have m : Hid (Bw w E):=(bel1 _ _).trans (HB.out.mono (by simp));have BX:=fK w (.int .i64 5) (.string X.1.md) (.string X.1.nm) (.slice X.2.a n X.2.c) 80;have G:=BX.of_block (HB.out.block _ BX.lt);have t0 : E.cell? ⟨w.heap.size,0,none⟩ = some (.int .i64 5):=G.cell (i:=0) (by omega);have ab : Hid (∀ W,Bw E W -> W.cell? ⟨w.heap.size,3,none⟩ = some (.slice X.2.a n X.2.c)):=fun W hb=>(G.of_block (hb.block _ G.lt)).cell (i:=3) (by omega)
 have a7 : Hid (∀ W,Bw E W -> ∀ k (o : k < j.length),∃ D,Y = some ⟨D,0,none⟩ /\ W.cell? ⟨D,k,none⟩ = some (.int .i64 (j[k] : Int))):=fun W hb k o=>by
  obtain ⟨D,gc,ev,_⟩:=au HO.out (show 0 < n by have:=N.out;omega);simp only [Value.slice.injEq] at ev;obtain ⟨rfl,-,rfl⟩:=ev;have c0 : E.cell? ⟨D,k,none⟩ = some (.int .i64 (j[k] : Int)):=aU (es:=j) (by rw [N.out];exact HO.out) rfl o;exact ⟨D,rfl,(hb.cell (p:=⟨D,k,none⟩) (blt c0)).trans c0⟩
 clear BX G HB HO;go_wp2
 go_loopw [8,9] (fun s i wr=>∃ k : Nat,k <= n /\ i = .int .i64 k /\ s = .string (bU dz ns P k) /\ Hid (Bw E wr)) (fun _ i _=>n - (intOf i).toNat)
 case atStart=>exact ⟨0,Nat.zero_le _,rfl,rfl,Below.refl _ _⟩
 case round=>
  obtain ⟨k,o,rfl,rfl,Z⟩:=hrel;have sS:=a8.out k o;by_cases J : k < n
  ·have y : k < j.length:=by rw [N.out];exact J
   have R : Hid (Bw w wr):=m.out.trans (Z.out.mono m.out.size);have nsa:=K.out wr R.out;have ea:=nsa.at_ (by rw [HN.out];omega);have ck:=nsa.cell k (by rw [HN.out];exact J);have zk:=I.out k J;obtain ⟨D,b2,pk⟩:=a7.out wr Z.out k y;obtain ⟨zp,b1⟩:=cb.out k y;have bx:=ab.out wr Z.out
   have HC : Hid (∀ (W : World),Bw E W -> Calls Tryz.prog 26 #[.slice (some ⟨g,0,none⟩) xs.length c,.int .i64 (j[k] : Int)] W fun r w'=>r = .returned (.string (P k)) /\ Hid (Bw E w')):=fun W hb=>by
    rw [ah.out k y];exact (CQ.out W _ k y (m.out.trans (hb.mono m.out.size)) rfl).mono fun r w' h=>⟨h.1,hb.trans (h.2.out.mono hb.size)⟩
   rw [<- ah.out k y] at zp;obtain ⟨q,hq⟩:=xe (j[k]);rw [<- hq] at pk HC b1;obtain ⟨x,hx⟩:=xe (ns.getD k e0);rw [<- hx] at ck zk;rw [ea] at bx;subst b2;obtain ⟨V,L⟩:=xe (X.2.b);rw [<- L] at bx ck;have v : Hid (bU dz ns P (k + 1) = ((if 0 < k then bU dz ns P k ++ ld else bU dz ns P k) ++ x) ++ dz ++ P k):=by show _ = _;rw [bU,hx]
   obtain ⟨S,hS⟩:=xe (bU dz ns P k);obtain ⟨Q,hQ⟩:=xe (P k);rw [<- hS] at sS v ⊢;rw [<- hQ] at zp v HC
   have ao : Hid (∀ W : World,Bw E W -> W.cell? ⟨w.heap.size,3,none⟩ = some (.slice (some ⟨V,0,none⟩) n X.2.c) /\ W.cell? ⟨V,k,none⟩ = some (.string x) /\ W.cell? ⟨D,k,none⟩ = some (.int .i64 (q : Int))):=fun W hb=>by
    have b9:=m.out.trans (hb.mono m.out.size);refine ⟨?_,?_,?_⟩
    ·rw [<- L.symm,<- ea];exact ab.out W hb
    ·have:=(K.out W b9).cell k (by rw [HN.out];exact J);rw [<- L,<- hx] at this;exact this
    ·obtain ⟨ef,e',c'⟩:=a7.out W hb k y
     cases e';rw [hq];exact c'
   have s1 : (⟨#[44,32]⟩ : ByteArray).size = 2:=rfl;have s2 : (⟨#[58,32]⟩ : ByteArray).size = 2:=rfl;clear nsa ea hq hx L hS hQ;by_cases an : 0 < k
   ·have lk : (0 : Int) < (k : Int):=by omega
    have a0:=rsa S (⟨#[44,32]⟩ : ByteArray) (by rw [s1];omega);obtain ⟨S2,F⟩:=xe (S ++ (⟨#[44,32]⟩ : ByteArray));have ep : S2.size <= 100000002:=by rw [F,bsa,s1];omega
    rw [<- F] at a0;have HF : Hid (bU dz ns P (k + 1) = (S2 ++ x ++ (⟨#[58,32]⟩ : ByteArray)) ++ Q):=by show _ = _;rw [v.out,if_pos an,F];rfl
    have a1:=rsa S2 x (by omega);have a2:=rsa (S2 ++ x) (⟨#[58,32]⟩ : ByteArray) (by rw [bsa,s2];omega);have a3:=rsa (S2 ++ x ++ (⟨#[58,32]⟩ : ByteArray)) Q (by rw [bsa,bsa,s2];omega);have O:=HC.out wr.drew Z.out.drew;clear F v;go_wp2
    go_region_held3 (fun w'=>w'.cell? ⟨w.heap.size,3,none⟩ = some (.slice (some ⟨V,0,none⟩) n X.2.c) /\ w'.cell? ⟨V,k,none⟩ = some (.string x) /\ w'.cell? ⟨D,k,none⟩ = some (.int .i64 (q : Int))) (go_keep) ((go_at_call 26;(with_reducible refine O.mono ?_);rintro e5 w5 ⟨rfl,A⟩;obtain ⟨u0,u1,u2⟩:=ao.out w5 A.out))
    all_goals
     go_wp2
     go_roundw
     case rel=>exact ⟨k + 1,by omega,by go_num,by rw [HF.out],A⟩
     case measure=>simp [intOf];omega
   ·have lk : ¬ (0 : Int) < (k : Int):=by omega
    have HF : Hid (bU dz ns P (k + 1) = (S ++ x ++ (⟨#[58,32]⟩ : ByteArray)) ++ Q):=by show _ = _;rw [v.out,if_neg an];rfl
    have a1:=rsa S x (by omega);have a2:=rsa (S ++ x) (⟨#[58,32]⟩ : ByteArray) (by rw [bsa,s2];omega);have a3:=rsa (S ++ x ++ (⟨#[58,32]⟩ : ByteArray)) Q (by rw [bsa,bsa,s2];omega);have O:=HC.out wr.drew Z.out.drew;clear v;go_wp2
    go_region_held3 (fun w'=>w'.cell? ⟨w.heap.size,3,none⟩ = some (.slice (some ⟨V,0,none⟩) n X.2.c) /\ w'.cell? ⟨V,k,none⟩ = some (.string x) /\ w'.cell? ⟨D,k,none⟩ = some (.int .i64 (q : Int))) (go_keep) ((go_at_call 26;(with_reducible refine O.mono ?_);rintro e5 w5 ⟨rfl,A⟩;obtain ⟨u0,u1,u2⟩:=ao.out w5 A.out))
    all_goals
     go_wp2
     go_roundw
     case rel=>exact ⟨k + 1,by omega,by go_num,by rw [HF.out],A⟩
     case measure=>simp [intOf];omega
  ·have cn : k = n:=by omega
   subst cn;have s1 : (⟨#[125]⟩ : ByteArray).size = 1:=rfl;have HF : Hid (r = bU dz ns P k ++ (⟨#[125]⟩ : ByteArray)):=by show _ = _;rw [HR.out];rfl
   have a1:=rsa (bU dz ns P k) (⟨#[125]⟩ : ByteArray) (by rw [s1];omega);have R : Hid (Bw w wr):=m.out.trans (Z.out.mono m.out.size);go_wp2;go_ret;exact ⟨by rw [HF.out];rfl,R.out⟩
theorem pe {xs : List (TI × NPl)} {l : List TI} {a : Option Addr} {c : Nat} : ∀ e,Bq xs l e -> e < xs.length -> Ag xs l a c e:=by
 intro e
 induction e using Nat.strongRecOn with
 | _ e ih=>
   intro H b;have g : ∀ q,q < e -> Ag xs l a c q:=fun q hq=>ih q hq ⟨H.is,fun j hj=>H.ar j (by omega),H.vk.mono (by omega),fun k hk=>H.sz k (by omega)⟩ (by omega);obtain ⟨f,d,_⟩:=H.item b (nlr _);rcases fT_cases d with z | z | z | z | z | z
   ·exact cO H b d (Or.inl z)
   ·exact cO H b d (Or.inr (Or.inl z))
   ·exact cO H b d (Or.inr (Or.inr (Or.inl z)))
   ·exact cO H b d (Or.inr (Or.inr (Or.inr z)))
   ·exact mQ H b (by rw [d,z.2]) z.1 g
   ·exact mU H b (by rw [d,z.2]) z.1 g
end Go.Proofs.YtihedobejcaapaaGreatDoor
