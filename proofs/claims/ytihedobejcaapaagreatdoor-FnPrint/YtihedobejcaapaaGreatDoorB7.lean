/-
  VcE VcF
-/
import Derived.Test.YtihedobejcaapaaGreatDoorB6
set_option maxHeartbeats 4000000
set_option maxRecDepth 100000
namespace Go.Proofs.YtihedobejcaapaaGreatDoor
open Go.RowKit
theorem ut {l : List Nat} (h : l.length = 1) : ∃ x,l = [x]:=by
 match l,h with
 | [x],_=>exact ⟨x,rfl⟩
theorem vM {l : List Nat} (h : l.length = 3) : ∃ x y z,l = [x,y,z]:=by
 match l,h with
 | [x,y,z],_=>exact ⟨x,y,z,rfl⟩
theorem nk {xs : List (EI × EPl)} {l : List EI} {a : Option Addr} {c e : Nat} (H : mX xs l e) (he : e < xs.length) (hf : fE xs[e].1 = some ⟨2,[2,3],[e0,mK,e0]⟩) (hop : xs[e].1.op = 9) (IHP : ∀ q,q < e -> mX xs l q) (IH : ∀ q,q < e -> nP xs l a c q) : nP xs l a c e:=by
 intro w z h T;subst T;have hp:=gf (l:=l) (e:=e) (t:=xs[e].1) (by rw [<- H.is,List.getElem?_map,List.getElem?_eq_getElem he];rfl) hf H.vk
 have y : (FE l e).needs.length = 2:=by
  obtain ⟨f,F,L⟩:=H.item he (nlr _);rw [hf] at F;cases F;rw [L];rfl
 have n:=H.vk e (Nat.lt_succ_self _)
 dsimp only at n
 rw [y] at n;obtain ⟨Z,V,o⟩:=kV (bw (fun i=>(FE l i).needs.length) 2 e);have Y:=aZ (H.vk.mono (Nat.le_succ _)) n (p:=Z) (by rw [o];simp);obtain ⟨d,rfl⟩ : ∃ q,Z = q + 1:=⟨Z - 1,by omega⟩;have M:=aZ (H.vk.mono (Nat.le_succ _)) n (p:=V) (by rw [o];simp);obtain ⟨b,rfl⟩ : ∃ q,V = q + 1:=⟨V - 1,by omega⟩;have J : Hid (∀ W,Bw w W -> kh W (.slice a xs.length c) xs):=fun W hb=>h.below hb
 have CP : Hid (∀ (W : World) (z : Int),Bw w W -> z = ((e + 1 : Nat) : Int) -> Calls Tryz.prog 55 #[.slice a xs.length c,.int .i64 z] W fun r w'=>∃ D C,r = .returned (.slice D 2 C) /\ Hid (w'.ownsRow W.heap.size 3 1 (.slice D 2 C) 2 (eh [d + 1,b + 1])) /\ Hid (Bw W w')):=fun W z hb T=>by
  have:=dZ W (J.out W hb) H.is he H.ar T;rw [y,o] at this;exact this.mono fun r w' ⟨D,C,F,L,h3⟩=>⟨D,C,F,L,h3⟩
 have D0 : Hid (∀ (W : World),Bw w W -> Calls Tryz.prog 56 #[.slice a xs.length c,.int .i64 ((d : Int) + 1),.int .i64 2] W fun r w'=>r = .returned (.string (brk 2 (pw (FE l) (d + 1)))) /\ Hid (Bw W w')):=fun W hb=>jy (IHP d (by omega)) (by omega) (IH d (by omega)) W (J.out W hb) 2 rfl;have D1 : Hid (∀ (W : World),Bw w W -> Calls Tryz.prog 56 #[.slice a xs.length c,.int .i64 ((b : Int) + 1),.int .i64 3] W fun r w'=>r = .returned (.string (brk 3 (pw (FE l) (b + 1)))) /\ Hid (Bw W w')):=fun W hb=>jy (IHP b (by omega)) (by omega) (IH b (by omega)) W (J.out W hb) 3 rfl;obtain ⟨g,ta,tc,rfl,y0,y1,y2,y3,y4,y5,ti,N⟩:=h.item he;have a4:=h.len;have zn:=ti.nm;have s0 : (brk 2 (pw (FE l) (d + 1))).size <= 100000002:=by have:=(dD 2 (pw (FE l) (d + 1))).2;have:=H.sz (d + 1) (by omega);omega
 have s1 : (brk 3 (pw (FE l) (b + 1))).size <= 100000002:=by have:=(dD 3 (pw (FE l) (b + 1))).2;have:=H.sz (b + 1) (by omega);omega
 obtain ⟨r,Q⟩:=xe ((pw (FE l) (e + 1)).1);obtain ⟨I,A⟩:=xe (brk 2 (pw (FE l) (d + 1)));obtain ⟨R,B⟩:=xe (brk 3 (pw (FE l) (b + 1)))
 have E : r = ((I ++ (⟨#[32,43,32]⟩ : ByteArray)) ++ R):=by
  rw [Q,hp];show aC _ _ (List.map (pw (FE l)) (cC _ 2 e)) = _;rw [o];simp only [List.map_cons,List.map_nil,aC,<- A,<- B,gI,jF,ByteArray.append_assoc];rfl
 rw [<- Q];rw [<- A] at s0 D0;rw [<- B] at s1 D1;obtain ⟨X,hX⟩:=xe (xs[e]);rw [<- hX] at y0 y1 y2 y3 y4 y5 hop zn;rw [hop] at y0;have HR:=hQx E;have bo : IntKind.i64.wrap ((e : Int) + 1 - 1) = (e : Int):=wk (by omega);have b8 : IntKind.i64.wrap (e : Int) = (e : Int):=wk (by omega);have b9 : (e : Int) < (xs.length : Int):=by omega
 have bL : (0 : Int) <= (e : Int):=by omega
 clear h H hp y n o Y A M B IH IHP ti N Q hX hf hop J E;have z0 : (⟨#[32,43,32]⟩ : ByteArray).size = 3:=rfl;have c1:=rsa I (⟨#[32,43,32]⟩ : ByteArray) (by rw [z0];omega);have c2:=rsa (I ++ (⟨#[32,43,32]⟩ : ByteArray)) R (by rw [bsa,z0];omega);go_enter Tryz.func27,Tryz.ntmps27;go_wp2_with fail;refine (CP.out _ _ (bel1 _ _) (by omega)).mono ?_;rintro e2 m ⟨D,C,rfl,G,K⟩;have k : Hid (Bw w m):=(bel1 _ _).trans (K.out.mono (by simp));obtain ⟨u,gc,ev,_⟩:=au G.out (by omega);simp only [Value.slice.injEq] at ev;obtain ⟨rfl,-,rfl⟩:=ev;have U:=ls w (.int .i64 9) (.int .i64 X.1.num) (.string X.1.md) (.string X.1.nm) (.slice X.2.np.a X.1.ns.length X.2.np.c) (.slice ta X.1.ty.length tc) 65;have s:=U.of_block (K.out.block _ U.lt);have t0 : m.cell? ⟨w.heap.size,0,none⟩ = some (.int .i64 9):=s.cell (i:=0) (by omega)
 have x : Hid (∀ W : World,Bw m W -> W.cell? ⟨u,0,none⟩ = some (.int .i64 ((d : Int) + 1)) /\ W.cell? ⟨u,1,none⟩ = some (.int .i64 ((b : Int) + 1))):=fun W hb=>by
  have O : m.cell? ⟨u,0,none⟩ = some (.int .i64 ((d : Int) + 1)):=aU (es:=[d + 1,b + 1]) G.out rfl (j:=0) (by simp);have P : m.cell? ⟨u,1,none⟩ = some (.int .i64 ((b : Int) + 1)):=aU (es:=[d + 1,b + 1]) G.out rfl (j:=1) (by simp);have BW:=s.of_block (hb.block _ s.lt);exact ⟨(hb.cell (p:=⟨u,0,none⟩) (blt O)).trans O,(hb.cell (p:=⟨u,1,none⟩) (blt P)).trans P⟩
 have cs:=x.out m (Below.refl _ _);obtain ⟨O,P⟩:=cs;clear U s K G;have E0 : Hid (∀ W : World,Bw m W -> Calls Tryz.prog 56 #[.slice (some ⟨g,0,none⟩) xs.length c,.int .i64 ((d : Int) + 1),.int .i64 2] W fun r w'=>r = .returned (.string I) /\ Hid (Bw m w')):=fun W hb=>(D0.out W (k.out.trans (hb.mono k.out.size))).mono fun r w' h=>⟨h.1,hb.trans (h.2.out.mono hb.size)⟩;have E1 : Hid (∀ W : World,Bw m W -> Calls Tryz.prog 56 #[.slice (some ⟨g,0,none⟩) xs.length c,.int .i64 ((b : Int) + 1),.int .i64 3] W fun r w'=>r = .returned (.string R) /\ Hid (Bw m w')):=fun W hb=>(D1.out W (k.out.trans (hb.mono k.out.size))).mono fun r w' h=>⟨h.1,hb.trans (h.2.out.mono hb.size)⟩;have S:=E0.out m.drew (Below.refl _ _).drew;go_wp2
 go_region_held3 (fun w'=>w'.cell? ⟨u,0,none⟩ = some (.int .i64 ((d : Int) + 1)) /\ w'.cell? ⟨u,1,none⟩ = some (.int .i64 ((b : Int) + 1))) (go_keep) (first
  | (go_at_call 56;(with_reducible refine S.mono ?_);rintro r0 u0 ⟨rfl,V0⟩;obtain ⟨bx,b3⟩:=x.out u0 V0.out)
  | (go_at_call 56;(with_reducible refine (E1.out u0 V0.out).mono ?_);rintro r1 u1 ⟨rfl,V1⟩;obtain ⟨b0,bs⟩:=x.out u1 V1.out))
 all_goals
  have v : Hid (Bw w u1):=k.out.trans (V1.out.mono k.out.size);go_wp2;go_ret;exact ⟨by rw [HR.out];rfl,by first | exact v.out | exact v.out.drew | exact below_drewN v.out _⟩
theorem lr {xs : List (EI × EPl)} {l : List EI} {a : Option Addr} {c e : Nat} (H : mX xs l e) (he : e < xs.length) (hf : fE xs[e].1 = some ⟨1,[2,2],[e0,iR,e0]⟩) (hop : xs[e].1.op = 10) (IHP : ∀ q,q < e -> mX xs l q) (IH : ∀ q,q < e -> nP xs l a c q) : nP xs l a c e:=by
 intro w z h T;subst T;have hp:=gf (l:=l) (e:=e) (t:=xs[e].1) (by rw [<- H.is,List.getElem?_map,List.getElem?_eq_getElem he];rfl) hf H.vk
 have y : (FE l e).needs.length = 2:=by
  obtain ⟨f,F,L⟩:=H.item he (nlr _);rw [hf] at F;cases F;rw [L];rfl
 have n:=H.vk e (Nat.lt_succ_self _)
 dsimp only at n
 rw [y] at n;obtain ⟨Z,V,o⟩:=kV (bw (fun i=>(FE l i).needs.length) 2 e);have Y:=aZ (H.vk.mono (Nat.le_succ _)) n (p:=Z) (by rw [o];simp);obtain ⟨d,rfl⟩ : ∃ q,Z = q + 1:=⟨Z - 1,by omega⟩;have M:=aZ (H.vk.mono (Nat.le_succ _)) n (p:=V) (by rw [o];simp);obtain ⟨b,rfl⟩ : ∃ q,V = q + 1:=⟨V - 1,by omega⟩;have J : Hid (∀ W,Bw w W -> kh W (.slice a xs.length c) xs):=fun W hb=>h.below hb
 have CP : Hid (∀ (W : World) (z : Int),Bw w W -> z = ((e + 1 : Nat) : Int) -> Calls Tryz.prog 55 #[.slice a xs.length c,.int .i64 z] W fun r w'=>∃ D C,r = .returned (.slice D 2 C) /\ Hid (w'.ownsRow W.heap.size 3 1 (.slice D 2 C) 2 (eh [d + 1,b + 1])) /\ Hid (Bw W w')):=fun W z hb T=>by
  have:=dZ W (J.out W hb) H.is he H.ar T;rw [y,o] at this;exact this.mono fun r w' ⟨D,C,F,L,h3⟩=>⟨D,C,F,L,h3⟩
 have D0 : Hid (∀ (W : World),Bw w W -> Calls Tryz.prog 56 #[.slice a xs.length c,.int .i64 ((d : Int) + 1),.int .i64 2] W fun r w'=>r = .returned (.string (brk 2 (pw (FE l) (d + 1)))) /\ Hid (Bw W w')):=fun W hb=>jy (IHP d (by omega)) (by omega) (IH d (by omega)) W (J.out W hb) 2 rfl;have D1 : Hid (∀ (W : World),Bw w W -> Calls Tryz.prog 56 #[.slice a xs.length c,.int .i64 ((b : Int) + 1),.int .i64 2] W fun r w'=>r = .returned (.string (brk 2 (pw (FE l) (b + 1)))) /\ Hid (Bw W w')):=fun W hb=>jy (IHP b (by omega)) (by omega) (IH b (by omega)) W (J.out W hb) 2 rfl;obtain ⟨g,ta,tc,rfl,y0,y1,y2,y3,y4,y5,ti,N⟩:=h.item he;have a4:=h.len;have zn:=ti.nm;have s0 : (brk 2 (pw (FE l) (d + 1))).size <= 100000002:=by have:=(dD 2 (pw (FE l) (d + 1))).2;have:=H.sz (d + 1) (by omega);omega
 have s1 : (brk 2 (pw (FE l) (b + 1))).size <= 100000002:=by have:=(dD 2 (pw (FE l) (b + 1))).2;have:=H.sz (b + 1) (by omega);omega
 obtain ⟨r,Q⟩:=xe ((pw (FE l) (e + 1)).1);obtain ⟨I,A⟩:=xe (brk 2 (pw (FE l) (d + 1)));obtain ⟨R,B⟩:=xe (brk 2 (pw (FE l) (b + 1)))
 have E : r = ((I ++ (⟨#[32,60,32]⟩ : ByteArray)) ++ R):=by
  rw [Q,hp];show aC _ _ (List.map (pw (FE l)) (cC _ 2 e)) = _;rw [o];simp only [List.map_cons,List.map_nil,aC,<- A,<- B,gI,jF,ByteArray.append_assoc];rfl
 rw [<- Q];rw [<- A] at s0 D0;rw [<- B] at s1 D1;obtain ⟨X,hX⟩:=xe (xs[e]);rw [<- hX] at y0 y1 y2 y3 y4 y5 hop zn;rw [hop] at y0;have HR:=hQx E;have bo : IntKind.i64.wrap ((e : Int) + 1 - 1) = (e : Int):=wk (by omega);have b8 : IntKind.i64.wrap (e : Int) = (e : Int):=wk (by omega);have b9 : (e : Int) < (xs.length : Int):=by omega
 have bL : (0 : Int) <= (e : Int):=by omega
 clear h H hp y n o Y A M B IH IHP ti N Q hX hf hop J E;have z0 : (⟨#[32,60,32]⟩ : ByteArray).size = 3:=rfl;have c1:=rsa I (⟨#[32,60,32]⟩ : ByteArray) (by rw [z0];omega);have c2:=rsa (I ++ (⟨#[32,60,32]⟩ : ByteArray)) R (by rw [bsa,z0];omega);go_enter Tryz.func27,Tryz.ntmps27;go_wp2_with fail;refine (CP.out _ _ (bel1 _ _) (by omega)).mono ?_;rintro e2 m ⟨D,C,rfl,G,K⟩;have k : Hid (Bw w m):=(bel1 _ _).trans (K.out.mono (by simp));obtain ⟨u,gc,ev,_⟩:=au G.out (by omega);simp only [Value.slice.injEq] at ev;obtain ⟨rfl,-,rfl⟩:=ev;have U:=ls w (.int .i64 10) (.int .i64 X.1.num) (.string X.1.md) (.string X.1.nm) (.slice X.2.np.a X.1.ns.length X.2.np.c) (.slice ta X.1.ty.length tc) 65;have s:=U.of_block (K.out.block _ U.lt);have t0 : m.cell? ⟨w.heap.size,0,none⟩ = some (.int .i64 10):=s.cell (i:=0) (by omega)
 have x : Hid (∀ W : World,Bw m W -> W.cell? ⟨u,0,none⟩ = some (.int .i64 ((d : Int) + 1)) /\ W.cell? ⟨u,1,none⟩ = some (.int .i64 ((b : Int) + 1))):=fun W hb=>by
  have O : m.cell? ⟨u,0,none⟩ = some (.int .i64 ((d : Int) + 1)):=aU (es:=[d + 1,b + 1]) G.out rfl (j:=0) (by simp);have P : m.cell? ⟨u,1,none⟩ = some (.int .i64 ((b : Int) + 1)):=aU (es:=[d + 1,b + 1]) G.out rfl (j:=1) (by simp);have BW:=s.of_block (hb.block _ s.lt);exact ⟨(hb.cell (p:=⟨u,0,none⟩) (blt O)).trans O,(hb.cell (p:=⟨u,1,none⟩) (blt P)).trans P⟩
 have cs:=x.out m (Below.refl _ _);obtain ⟨O,P⟩:=cs;clear U s K G;have E0 : Hid (∀ W : World,Bw m W -> Calls Tryz.prog 56 #[.slice (some ⟨g,0,none⟩) xs.length c,.int .i64 ((d : Int) + 1),.int .i64 2] W fun r w'=>r = .returned (.string I) /\ Hid (Bw m w')):=fun W hb=>(D0.out W (k.out.trans (hb.mono k.out.size))).mono fun r w' h=>⟨h.1,hb.trans (h.2.out.mono hb.size)⟩;have E1 : Hid (∀ W : World,Bw m W -> Calls Tryz.prog 56 #[.slice (some ⟨g,0,none⟩) xs.length c,.int .i64 ((b : Int) + 1),.int .i64 2] W fun r w'=>r = .returned (.string R) /\ Hid (Bw m w')):=fun W hb=>(D1.out W (k.out.trans (hb.mono k.out.size))).mono fun r w' h=>⟨h.1,hb.trans (h.2.out.mono hb.size)⟩;have S:=E0.out m.drew (Below.refl _ _).drew;go_wp2
 go_region_held3 (fun w'=>w'.cell? ⟨u,0,none⟩ = some (.int .i64 ((d : Int) + 1)) /\ w'.cell? ⟨u,1,none⟩ = some (.int .i64 ((b : Int) + 1))) (go_keep) (first
  | (go_at_call 56;(with_reducible refine S.mono ?_);rintro r0 u0 ⟨rfl,V0⟩;obtain ⟨bx,b3⟩:=x.out u0 V0.out)
  | (go_at_call 56;(with_reducible refine (E1.out u0 V0.out).mono ?_);rintro r1 u1 ⟨rfl,V1⟩;obtain ⟨b0,bs⟩:=x.out u1 V1.out))
 all_goals
  have v : Hid (Bw w u1):=k.out.trans (V1.out.mono k.out.size);go_wp2;go_ret;exact ⟨by rw [HR.out];rfl,by first | exact v.out | exact v.out.drew | exact below_drewN v.out _⟩
theorem mL {xs : List (EI × EPl)} {l : List EI} {a : Option Addr} {c e : Nat} (H : mX xs l e) (he : e < xs.length) (hf : fE xs[e].1 = some ⟨3,[3],[e0,gi ++ xs[e].1.nm]⟩) (hop : xs[e].1.op = 5) (IHP : ∀ q,q < e -> mX xs l q) (IH : ∀ q,q < e -> nP xs l a c q) : nP xs l a c e:=by
 intro w z h M;subst M;have hp:=gf (l:=l) (e:=e) (t:=xs[e].1) (by rw [<- H.is,List.getElem?_map,List.getElem?_eq_getElem he];rfl) hf H.vk
 have s : (FE l e).needs.length = 1:=by
  obtain ⟨f,D,G⟩:=H.item he (nlr _);rw [hf] at D;cases D;rw [G];rfl
 have k:=H.vk e (Nat.lt_succ_self _)
 dsimp only at k
 rw [s] at k;obtain ⟨R,m⟩:=ut (bw (fun i=>(FE l i).needs.length) 1 e);have P:=aZ (H.vk.mono (Nat.le_succ _)) k (p:=R) (by rw [m];simp);obtain ⟨b,rfl⟩ : ∃ q,R = q + 1:=⟨R - 1,by omega⟩;have L : Hid (∀ W,Bw w W -> kh W (.slice a xs.length c) xs):=fun W hb=>h.below hb
 have CP : Hid (∀ (W : World) (z : Int),Bw w W -> z = ((e + 1 : Nat) : Int) -> Calls Tryz.prog 55 #[.slice a xs.length c,.int .i64 z] W fun r w'=>∃ C y,r = .returned (.slice C 1 y) /\ Hid (w'.ownsRow W.heap.size 3 1 (.slice C 1 y) 1 (eh [b + 1])) /\ Hid (Bw W w')):=fun W z hb M=>by
  have:=dZ W (L.out W hb) H.is he H.ar M;rw [s,m] at this;exact this.mono fun r w' ⟨C,y,D,G,h3⟩=>⟨C,y,D,G,h3⟩
 have D0 : Hid (∀ (W : World),Bw w W -> Calls Tryz.prog 56 #[.slice a xs.length c,.int .i64 ((b : Int) + 1),.int .i64 3] W fun r w'=>r = .returned (.string (brk 3 (pw (FE l) (b + 1)))) /\ Hid (Bw W w')):=fun W hb=>jy (IHP b (by omega)) (by omega) (IH b (by omega)) W (L.out W hb) 3 rfl;obtain ⟨g,ta,tc,rfl,y0,y1,y2,y3,y4,y5,Z,J⟩:=h.item he;have ao:=h.len;have zn:=Z.nm;have s0 : (brk 3 (pw (FE l) (b + 1))).size <= 100000002:=by have:=(dD 3 (pw (FE l) (b + 1))).2;have:=H.sz (b + 1) (by omega);omega
 obtain ⟨r,Q⟩:=xe ((pw (FE l) (e + 1)).1);obtain ⟨A,u⟩:=xe (brk 3 (pw (FE l) (b + 1)))
 have x : r = ((A ++ (⟨#[46]⟩ : ByteArray)) ++ xs[e].1.nm):=by
  rw [Q,hp];show aC _ _ (List.map (pw (FE l)) (cC _ 1 e)) = _;rw [m];simp only [List.map_cons,List.map_nil,aC,<- u,gI,ByteArray.append_assoc];rfl
 rw [<- Q];rw [<- u] at s0 D0;obtain ⟨X,Y⟩:=xe (xs[e]);rw [<- Y] at y0 y1 y2 y3 y4 y5 hop x zn;rw [hop] at y0;have HR : Hid (r = ((A ++ (⟨#[46]⟩ : ByteArray)) ++ X.1.nm)):=x;have bf : IntKind.i64.wrap ((e : Int) + 1 - 1) = (e : Int):=wk (by omega);have a5 : IntKind.i64.wrap (e : Int) = (e : Int):=wk (by omega);have a6 : (e : Int) < (xs.length : Int):=by omega
 have bp : (0 : Int) <= (e : Int):=by omega
 clear h H hp s k m P u IH IHP Z J Q Y hf hop L x;have U : (⟨#[46]⟩ : ByteArray).size = 1:=rfl;have c1:=rsa A (⟨#[46]⟩ : ByteArray) (by rw [U];omega);have c2:=rsa (A ++ (⟨#[46]⟩ : ByteArray)) X.1.nm (by rw [bsa,U];omega);go_enter Tryz.func27,Tryz.ntmps27;go_wp2_with fail;refine (CP.out _ _ (bel1 _ _) (by omega)).mono ?_;rintro e2 o ⟨C,y,rfl,F,I⟩;have d : Hid (Bw w o):=(bel1 _ _).trans (I.out.mono (by simp));obtain ⟨E,gc,S,_⟩:=au F.out (by omega);simp only [Value.slice.injEq] at S;obtain ⟨rfl,-,rfl⟩:=S;have N:=ls w (.int .i64 5) (.int .i64 X.1.num) (.string X.1.md) (.string X.1.nm) (.slice X.2.np.a X.1.ns.length X.2.np.c) (.slice ta X.1.ty.length tc) 65;have n:=N.of_block (I.out.block _ N.lt);have t0 : o.cell? ⟨w.heap.size,0,none⟩ = some (.int .i64 5):=n.cell (i:=0) (by omega)
 have B : Hid (∀ W : World,Bw o W -> W.cell? ⟨E,0,none⟩ = some (.int .i64 ((b : Int) + 1)) /\ W.cell? ⟨w.heap.size,3,none⟩ = some (.string X.1.nm)):=fun W hb=>by
  have O : o.cell? ⟨E,0,none⟩ = some (.int .i64 ((b : Int) + 1)):=aU (es:=[b + 1]) F.out rfl (j:=0) (by simp);have BW:=n.of_block (hb.block _ n.lt);exact ⟨(hb.cell (p:=⟨E,0,none⟩) (blt O)).trans O,BW.cell (i:=3) (by omega)⟩
 have cs:=B.out o (Below.refl _ _);obtain ⟨O,k1⟩:=cs;clear N n I F;have E0 : Hid (∀ W : World,Bw o W -> Calls Tryz.prog 56 #[.slice (some ⟨g,0,none⟩) xs.length c,.int .i64 ((b : Int) + 1),.int .i64 3] W fun r w'=>r = .returned (.string A) /\ Hid (Bw o w')):=fun W hb=>(D0.out W (d.out.trans (hb.mono d.out.size))).mono fun r w' h=>⟨h.1,hb.trans (h.2.out.mono hb.size)⟩;have K:=E0.out o.drew (Below.refl _ _).drew;go_wp2
 go_region_held3 (fun w'=>w'.cell? ⟨E,0,none⟩ = some (.int .i64 ((b : Int) + 1)) /\ w'.cell? ⟨w.heap.size,3,none⟩ = some (.string X.1.nm)) (go_keep) (first
  | (go_at_call 56;(with_reducible refine K.mono ?_);rintro r0 T ⟨rfl,V⟩;obtain ⟨bb,a9⟩:=B.out T V.out))
 all_goals
  have v : Hid (Bw w T):=d.out.trans (V.out.mono d.out.size);go_wp2;go_ret;exact ⟨by rw [HR.out];rfl,by first | exact v.out | exact v.out.drew | exact below_drewN v.out _⟩
theorem lp {xs : List (EI × EPl)} {l : List EI} {a : Option Addr} {c e : Nat} (H : mX xs l e) (he : e < xs.length) (hf : fE xs[e].1 = some ⟨3,[3,0],[e0,sL,sR]⟩) (hop : xs[e].1.op = 7) (IHP : ∀ q,q < e -> mX xs l q) (IH : ∀ q,q < e -> nP xs l a c q) : nP xs l a c e:=by
 intro w z h U;subst U;have hp:=gf (l:=l) (e:=e) (t:=xs[e].1) (by rw [<- H.is,List.getElem?_map,List.getElem?_eq_getElem he];rfl) hf H.vk
 have y : (FE l e).needs.length = 2:=by
  obtain ⟨f,G,N⟩:=H.item he (nlr _);rw [hf] at G;cases G;rw [N];rfl
 have n:=H.vk e (Nat.lt_succ_self _)
 dsimp only at n
 rw [y] at n;obtain ⟨p0,Y,o⟩:=kV (bw (fun i=>(FE l i).needs.length) 2 e);have Z:=aZ (H.vk.mono (Nat.le_succ _)) n (p:=p0) (by rw [o];simp);obtain ⟨b,rfl⟩ : ∃ q,p0 = q + 1:=⟨p0 - 1,by omega⟩;have O:=aZ (H.vk.mono (Nat.le_succ _)) n (p:=Y) (by rw [o];simp);obtain ⟨d,rfl⟩ : ∃ q,Y = q + 1:=⟨Y - 1,by omega⟩;have K : Hid (∀ W,Bw w W -> kh W (.slice a xs.length c) xs):=fun W hb=>h.below hb
 have CP : Hid (∀ (W : World) (z : Int),Bw w W -> z = ((e + 1 : Nat) : Int) -> Calls Tryz.prog 55 #[.slice a xs.length c,.int .i64 z] W fun r w'=>∃ D C,r = .returned (.slice D 2 C) /\ Hid (w'.ownsRow W.heap.size 3 1 (.slice D 2 C) 2 (eh [b + 1,d + 1])) /\ Hid (Bw W w')):=fun W z hb U=>by
  have:=dZ W (K.out W hb) H.is he H.ar U;rw [y,o] at this;exact this.mono fun r w' ⟨D,C,G,N,h3⟩=>⟨D,C,G,N,h3⟩
 have D0 : Hid (∀ (W : World),Bw w W -> Calls Tryz.prog 56 #[.slice a xs.length c,.int .i64 ((b : Int) + 1),.int .i64 3] W fun r w'=>r = .returned (.string (brk 3 (pw (FE l) (b + 1)))) /\ Hid (Bw W w')):=fun W hb=>jy (IHP b (by omega)) (by omega) (IH b (by omega)) W (K.out W hb) 3 rfl
 have D1 : Hid (∀ (W : World),Bw w W -> Calls Tryz.prog 27 #[.slice a xs.length c,.int .i64 ((d : Int) + 1)] W fun r w'=>r = .returned (.string (brk 0 (pw (FE l) (d + 1)))) /\ Hid (Bw W w')):=fun W hb=>by
  rw [qj];exact IH d (by omega) W _ (K.out W hb) rfl
 obtain ⟨g,ta,tc,rfl,y0,y1,y2,y3,y4,y5,ti,P⟩:=h.item he;have a4:=h.len;have zn:=ti.nm;have s0 : (brk 3 (pw (FE l) (b + 1))).size <= 100000002:=by have:=(dD 3 (pw (FE l) (b + 1))).2;have:=H.sz (b + 1) (by omega);omega
 have s1 : (brk 0 (pw (FE l) (d + 1))).size <= 100000002:=by have:=(dD 0 (pw (FE l) (d + 1))).2;have:=H.sz (d + 1) (by omega);omega
 obtain ⟨r,S⟩:=xe ((pw (FE l) (e + 1)).1);obtain ⟨F,A⟩:=xe (brk 3 (pw (FE l) (b + 1)));obtain ⟨J,B⟩:=xe (brk 0 (pw (FE l) (d + 1)))
 have E : r = (((F ++ (⟨#[40]⟩ : ByteArray)) ++ J) ++ (⟨#[41]⟩ : ByteArray)):=by
  rw [S,hp];show aC _ _ (List.map (pw (FE l)) (cC _ 2 e)) = _;rw [o];simp only [List.map_cons,List.map_nil,aC,<- A,<- B,gI,ByteArray.append_assoc];rfl
 rw [<- S];rw [<- A] at s0 D0;rw [<- B] at s1 D1;obtain ⟨X,hX⟩:=xe (xs[e]);rw [<- hX] at y0 y1 y2 y3 y4 y5 hop zn;rw [hop] at y0;have HR:=hQx E;have bp : IntKind.i64.wrap ((e : Int) + 1 - 1) = (e : Int):=wk (by omega);have b9 : IntKind.i64.wrap (e : Int) = (e : Int):=wk (by omega);have ca : (e : Int) < (xs.length : Int):=by omega
 have b0 : (0 : Int) <= (e : Int):=by omega
 clear h H hp y n o Z A O B IH IHP ti P S hX hf hop K E;have M : (⟨#[40]⟩ : ByteArray).size = 1:=rfl;have z1 : (⟨#[41]⟩ : ByteArray).size = 1:=rfl;have c1:=rsa F (⟨#[40]⟩ : ByteArray) (by rw [M];omega);have c2:=rsa (F ++ (⟨#[40]⟩ : ByteArray)) J (by rw [bsa,M];omega);have c3:=rsa ((F ++ (⟨#[40]⟩ : ByteArray)) ++ J) (⟨#[41]⟩ : ByteArray) (by rw [bsa,bsa,M,z1];omega);go_enter Tryz.func27,Tryz.ntmps27;go_wp2_with fail;refine (CP.out _ _ (bel1 _ _) (by omega)).mono ?_;rintro e2 m ⟨D,C,rfl,I,L⟩;have k : Hid (Bw w m):=(bel1 _ _).trans (L.out.mono (by simp));obtain ⟨u,gc,ev,_⟩:=au I.out (by omega);simp only [Value.slice.injEq] at ev;obtain ⟨rfl,-,rfl⟩:=ev;have V:=ls w (.int .i64 7) (.int .i64 X.1.num) (.string X.1.md) (.string X.1.nm) (.slice X.2.np.a X.1.ns.length X.2.np.c) (.slice ta X.1.ty.length tc) 65;have s:=V.of_block (L.out.block _ V.lt);have t0 : m.cell? ⟨w.heap.size,0,none⟩ = some (.int .i64 7):=s.cell (i:=0) (by omega)
 have x : Hid (∀ W : World,Bw m W -> W.cell? ⟨u,0,none⟩ = some (.int .i64 ((b : Int) + 1)) /\ W.cell? ⟨u,1,none⟩ = some (.int .i64 ((d : Int) + 1))):=fun W hb=>by
  have Q : m.cell? ⟨u,0,none⟩ = some (.int .i64 ((b : Int) + 1)):=aU (es:=[b + 1,d + 1]) I.out rfl (j:=0) (by simp);have R : m.cell? ⟨u,1,none⟩ = some (.int .i64 ((d : Int) + 1)):=aU (es:=[b + 1,d + 1]) I.out rfl (j:=1) (by simp);have BW:=s.of_block (hb.block _ s.lt);exact ⟨(hb.cell (p:=⟨u,0,none⟩) (blt Q)).trans Q,(hb.cell (p:=⟨u,1,none⟩) (blt R)).trans R⟩
 have cs:=x.out m (Below.refl _ _);obtain ⟨Q,R⟩:=cs;clear V s L I;have E0 : Hid (∀ W : World,Bw m W -> Calls Tryz.prog 56 #[.slice (some ⟨g,0,none⟩) xs.length c,.int .i64 ((b : Int) + 1),.int .i64 3] W fun r w'=>r = .returned (.string F) /\ Hid (Bw m w')):=fun W hb=>(D0.out W (k.out.trans (hb.mono k.out.size))).mono fun r w' h=>⟨h.1,hb.trans (h.2.out.mono hb.size)⟩;have E1 : Hid (∀ W : World,Bw m W -> Calls Tryz.prog 27 #[.slice (some ⟨g,0,none⟩) xs.length c,.int .i64 ((d : Int) + 1)] W fun r w'=>r = .returned (.string J) /\ Hid (Bw m w')):=fun W hb=>(D1.out W (k.out.trans (hb.mono k.out.size))).mono fun r w' h=>⟨h.1,hb.trans (h.2.out.mono hb.size)⟩;have T:=E0.out m.drew (Below.refl _ _).drew;go_wp2
 go_region_held3 (fun w'=>w'.cell? ⟨u,0,none⟩ = some (.int .i64 ((b : Int) + 1)) /\ w'.cell? ⟨u,1,none⟩ = some (.int .i64 ((d : Int) + 1))) (go_keep) (first
  | (go_at_call 56;(with_reducible refine T.mono ?_);rintro r0 u0 ⟨rfl,V0⟩;obtain ⟨bL,b4⟩:=x.out u0 V0.out)
  | (go_at_call 27;(with_reducible refine (E1.out u0 V0.out).mono ?_);rintro r1 u1 ⟨rfl,V1⟩;obtain ⟨b1,bv⟩:=x.out u1 V1.out))
 all_goals
  have v : Hid (Bw w u1):=k.out.trans (V1.out.mono k.out.size);go_wp2;go_ret;exact ⟨by rw [HR.out];rfl,by first | exact v.out | exact v.out.drew | exact below_drewN v.out _⟩
end Go.Proofs.YtihedobejcaapaaGreatDoor
