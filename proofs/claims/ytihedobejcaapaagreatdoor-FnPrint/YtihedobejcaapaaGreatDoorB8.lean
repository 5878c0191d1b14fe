/-
  VcG VcH
-/
import Derived.Test.YtihedobejcaapaaGreatDoorB7
set_option maxHeartbeats 4000000
set_option maxRecDepth 100000
namespace Go.Proofs.YtihedobejcaapaaGreatDoor
open Go.RowKit
theorem nh {xs : List (EI × EPl)} {l : List EI} {a : Option Addr} {c e : Nat} (H : mX xs l e) (he : e < xs.length) (hf : fE xs[e].1 = some ⟨0,[0],[gu ++ xs[e].1.nm ++ dz ++ fW xs[e].1.ty ++ ij,e0]⟩) (hop : xs[e].1.op = 6) (hok : dH xs[e].1.ty = true) (_IHP : ∀ q,q < e -> mX xs l q) (IH : ∀ q,q < e -> nP xs l a c q) : nP xs l a c e:=by
 intro w z h S;subst S;have hp:=gf (l:=l) (e:=e) (t:=xs[e].1) (by rw [<- H.is,List.getElem?_map,List.getElem?_eq_getElem he];rfl) hf H.vk
 have D : (FE l e).needs.length = 1:=by
  obtain ⟨f,T,h2⟩:=H.item he (nlr _);rw [hf] at T;cases T;rw [h2];rfl
 have u:=H.vk e (Nat.lt_succ_self _)
 dsimp only at u
 rw [D] at u;obtain ⟨p0,v⟩:=ut (bw (fun i=>(FE l i).needs.length) 1 e);have a7:=aZ (H.vk.mono (Nat.le_succ _)) u (p:=p0) (by rw [v];simp);obtain ⟨d,rfl⟩ : ∃ q,p0 = q + 1:=⟨p0 - 1,by omega⟩;have HT : Hid (∀ W,Bw w W -> kh W (.slice a xs.length c) xs):=fun W hb=>h.below hb
 have CP : Hid (∀ (W : World) (z : Int),Bw w W -> z = ((e + 1 : Nat) : Int) -> Calls Tryz.prog 55 #[.slice a xs.length c,.int .i64 z] W fun r w'=>∃ R P,r = .returned (.slice R 1 P) /\ Hid (w'.ownsRow W.heap.size 3 1 (.slice R 1 P) 1 (eh [d + 1])) /\ Hid (Bw W w')):=fun W z hb S=>by
  have:=dZ W (HT.out W hb) H.is he H.ar S;rw [D,v] at this;exact this.mono fun r w' ⟨R,P,T,h2,h3⟩=>⟨R,P,T,h2,h3⟩
 have D1 : Hid (∀ (W : World),Bw w W -> Calls Tryz.prog 27 #[.slice a xs.length c,.int .i64 ((d : Int) + 1)] W fun r w'=>r = .returned (.string (brk 0 (pw (FE l) (d + 1)))) /\ Hid (Bw W w')):=fun W hb=>by
  rw [qj];exact IH d (by omega) W _ (HT.out W hb) rfl
 obtain ⟨g,L,I,rfl,y0,y1,y2,y3,y4,y5,K,O⟩:=h.item he
 have a1 : 0 < xs[e].1.ty.length:=by
  cases S : xs[e].1.ty with
  | nil=>rw [S] at hok;cases hok
  | cons x y=>simp
 have V : Hid (∀ (W : World),Bw w W -> Calls Tryz.prog 26 #[.slice L xs[e].1.ty.length I,.int .i64 (xs[e].1.ty.length : Int)] W fun r w'=>r = .returned (.string (fW xs[e].1.ty)) /\ Hid (Bw W w')):=fun W hb=>by
  obtain ⟨m,hm⟩ : ∃ m,xs[e].1.ty.length = m + 1:=⟨xs[e].1.ty.length - 1,by omega⟩;have zl : xs[e].2.zs.length = xs[e].1.ty.length:=by rw [<- K.is,List.length_map]
  have ah : bN (aT xs[e].1.ty) xs[e].1.ty.length = some 1:=by unfold dH at hok;exact beq_iff_eq.1 hok
  obtain ⟨k1,_,k3⟩:=gF (a:=fun i=>(FT xs[e].1.ty i).needs.length) (fun j n _ hj=>Ba hj) ah;have ts:=K.ty.below hb;rw [O,<- zl] at ts;have:=pe (xs:=xs[e].2.zs) (l:=xs[e].1.ty) (a:=L) (c:=I) m ⟨K.is,fun j hj=>k3 j (by omega),k1.mono (by omega),fun k hk=>H.tsz _ (List.getElem_mem he) k (by omega)⟩ (by omega) W (xs[e].1.ty.length : Int) ts (by omega);rw [zl] at this;unfold fW;rw [hm] at this ⊢;exact this
 have F:=H.tsz _ (List.getElem_mem he) _ (nlr _);have a4:=K.ty.len;have bL:=h.len;have zn:=K.nm;have s0 : (brk 0 (pw (FE l) (d + 1))).size <= 100000002:=by have:=(dD 0 (pw (FE l) (d + 1))).2;have:=H.sz (d + 1) (by omega);omega
 obtain ⟨r,hr⟩:=xe ((pw (FE l) (e + 1)).1);obtain ⟨Z,E⟩:=xe (brk 0 (pw (FE l) (d + 1)))
 have A : r = ((((((⟨#[102,117,110,40]⟩ : ByteArray) ++ xs[e].1.nm) ++ (⟨#[58,32]⟩ : ByteArray)) ++ fW xs[e].1.ty) ++ (⟨#[41,32]⟩ : ByteArray)) ++ Z):=by
  rw [hr,hp];show aC _ _ (List.map (pw (FE l)) (cC _ 1 e)) = _;rw [v];simp only [List.map_cons,List.map_nil,aC,<- E,jF,ByteArray.append_assoc];rfl
 rw [<- hr];rw [<- E] at s0 D1;obtain ⟨X,hX⟩:=xe (xs[e]);rw [<- hX] at y0 y1 y2 y3 y4 y5 hop A zn V F a4 a1;rw [hop] at y0;obtain ⟨J,G⟩:=xe (fW X.1.ty);have dd : J.size <= 100000000:=by rw [G];exact F
 rw [<- G] at V A;obtain ⟨Q,N⟩:=xe (X.1.ty.length);rw [<- N] at V y5;clear G N F;have HR : Hid (r = ((((((⟨#[102,117,110,40]⟩ : ByteArray) ++ X.1.nm) ++ (⟨#[58,32]⟩ : ByteArray)) ++ J) ++ (⟨#[41,32]⟩ : ByteArray)) ++ Z)):=A;have b8 : IntKind.i64.wrap ((e : Int) + 1 - 1) = (e : Int):=wk (by omega);have c0 : IntKind.i64.wrap (e : Int) = (e : Int):=wk (by omega);have c7 : (e : Int) < (xs.length : Int):=by omega
 have ch : (0 : Int) <= (e : Int):=by omega
 clear h H hp D u v a7 E IH _IHP K O hr hX hf hop HT A hok;have M : (⟨#[102,117,110,40]⟩ : ByteArray).size = 4:=rfl;have U : (⟨#[58,32]⟩ : ByteArray).size = 2:=rfl;have z2 : (⟨#[41,32]⟩ : ByteArray).size = 2:=rfl;have c1:=rsa (⟨#[102,117,110,40]⟩ : ByteArray) X.1.nm (by rw [M];omega);have c2:=rsa ((⟨#[102,117,110,40]⟩ : ByteArray) ++ X.1.nm) (⟨#[58,32]⟩ : ByteArray) (by rw [bsa,M,U];omega);have c3:=rsa (((⟨#[102,117,110,40]⟩ : ByteArray) ++ X.1.nm) ++ (⟨#[58,32]⟩ : ByteArray)) J (by rw [bsa,bsa,M,U];omega);have c4:=rsa ((((⟨#[102,117,110,40]⟩ : ByteArray) ++ X.1.nm) ++ (⟨#[58,32]⟩ : ByteArray)) ++ J) (⟨#[41,32]⟩ : ByteArray) (by rw [bsa,bsa,bsa,M,U,z2];omega);have c5:=rsa (((((⟨#[102,117,110,40]⟩ : ByteArray) ++ X.1.nm) ++ (⟨#[58,32]⟩ : ByteArray)) ++ J) ++ (⟨#[41,32]⟩ : ByteArray)) Z (by rw [bsa,bsa,bsa,bsa,M,U,z2];omega);go_enter Tryz.func27,Tryz.ntmps27;go_wp2_with fail;refine (CP.out _ _ (bel1 _ _) (by omega)).mono ?_;rintro e2 o ⟨R,P,rfl,HO,HB⟩;have b : Hid (Bw w o):=(bel1 _ _).trans (HB.out.mono (by simp));obtain ⟨Y,gc,ev,_⟩:=au HO.out (by omega);simp only [Value.slice.injEq] at ev;obtain ⟨rfl,-,rfl⟩:=ev;have BX:=ls w (.int .i64 6) (.int .i64 X.1.num) (.string X.1.md) (.string X.1.nm) (.slice X.2.np.a X.1.ns.length X.2.np.c) (.slice L Q I) 65;have s:=BX.of_block (HB.out.block _ BX.lt);have t0 : o.cell? ⟨w.heap.size,0,none⟩ = some (.int .i64 6):=s.cell (i:=0) (by omega)
 have C : Hid (∀ W : World,Bw o W -> W.cell? ⟨Y,0,none⟩ = some (.int .i64 ((d : Int) + 1)) /\ W.cell? ⟨w.heap.size,3,none⟩ = some (.string X.1.nm) /\ W.cell? ⟨w.heap.size,5,none⟩ = some (.slice L Q I)):=fun W hb=>by
  have k0 : o.cell? ⟨Y,0,none⟩ = some (.int .i64 ((d : Int) + 1)):=aU (es:=[d + 1]) HO.out rfl (j:=0) (by simp);have BW:=s.of_block (hb.block _ s.lt);exact ⟨(hb.cell (p:=⟨Y,0,none⟩) (blt k0)).trans k0,BW.cell (i:=3) (by omega),BW.cell (i:=5) (by omega)⟩
 have cs:=C.out o (Below.refl _ _);obtain ⟨k0,k1,k2⟩:=cs;clear BX s HB HO;have E0 : Hid (∀ W : World,Bw o W -> Calls Tryz.prog 26 #[.slice L Q I,.int .i64 (Q : Int)] W fun r w'=>r = .returned (.string J) /\ Hid (Bw o w')):=fun W hb=>(V.out W (b.out.trans (hb.mono b.out.size))).mono fun r w' h=>⟨h.1,hb.trans (h.2.out.mono hb.size)⟩;have E1 : Hid (∀ W : World,Bw o W -> Calls Tryz.prog 27 #[.slice (some ⟨g,0,none⟩) xs.length c,.int .i64 ((d : Int) + 1)] W fun r w'=>r = .returned (.string Z) /\ Hid (Bw o w')):=fun W hb=>(D1.out W (b.out.trans (hb.mono b.out.size))).mono fun r w' h=>⟨h.1,hb.trans (h.2.out.mono hb.size)⟩;have a3:=E0.out o.drew (Below.refl _ _).drew;go_wp2
 go_region_held3 (fun w'=>w'.cell? ⟨Y,0,none⟩ = some (.int .i64 ((d : Int) + 1)) /\ w'.cell? ⟨w.heap.size,3,none⟩ = some (.string X.1.nm) /\ w'.cell? ⟨w.heap.size,5,none⟩ = some (.slice L Q I)) (go_keep) (first
  | (go_at_call 26;(with_reducible refine a3.mono ?_);rintro r0 u0 ⟨rfl,V0⟩;obtain ⟨cc,cn,co⟩:=C.out u0 V0.out)
  | (go_at_call 27;(with_reducible refine (E1.out u0 V0.out).mono ?_);rintro r1 u1 ⟨rfl,V1⟩;obtain ⟨ck,ca,cq⟩:=C.out u1 V1.out))
 all_goals
  have B : Hid (Bw w u1):=b.out.trans (V1.out.mono b.out.size);go_wp2;go_ret;exact ⟨by rw [HR.out];rfl,by first | exact B.out | exact B.out.drew | exact below_drewN B.out _⟩
theorem nS {xs : List (EI × EPl)} {l : List EI} {a : Option Addr} {c e : Nat} (H : mX xs l e) (he : e < xs.length) (hf : fE xs[e].1 = some ⟨0,[0,0,0],[wP,il,iq,e0]⟩) (hop : xs[e].1.op = 8) (_IHP : ∀ q,q < e -> mX xs l q) (IH : ∀ q,q < e -> nP xs l a c q) : nP xs l a c e:=by
 intro w z h hz;subst hz;have hp:=gf (l:=l) (e:=e) (t:=xs[e].1) (by rw [<- H.is,List.getElem?_map,List.getElem?_eq_getElem he];rfl) hf H.vk
 have A : (FE l e).needs.length = 3:=by
  obtain ⟨f,N,S⟩:=H.item he (nlr _);rw [hf] at N;cases N;rw [S];rfl
 have o:=H.vk e (Nat.lt_succ_self _)
 dsimp only at o
 rw [A] at o;obtain ⟨p0,p1,p2,s⟩:=vM (bw (fun i=>(FE l i).needs.length) 3 e);have a2:=aZ (H.vk.mono (Nat.le_succ _)) o (p:=p0) (by rw [s];simp);obtain ⟨m,rfl⟩ : ∃ q,p0 = q + 1:=⟨p0 - 1,by omega⟩;have T:=aZ (H.vk.mono (Nat.le_succ _)) o (p:=p1) (by rw [s];simp);obtain ⟨k,rfl⟩ : ∃ q,p1 = q + 1:=⟨p1 - 1,by omega⟩;have Q:=aZ (H.vk.mono (Nat.le_succ _)) o (p:=p2) (by rw [s];simp);obtain ⟨d,rfl⟩ : ∃ q,p2 = q + 1:=⟨p2 - 1,by omega⟩;have M : Hid (∀ W,Bw w W -> kh W (.slice a xs.length c) xs):=fun W hb=>h.below hb
 have CP : Hid (∀ (W : World) (z : Int),Bw w W -> z = ((e + 1 : Nat) : Int) -> Calls Tryz.prog 55 #[.slice a xs.length c,.int .i64 z] W fun r w'=>∃ K J,r = .returned (.slice K 3 J) /\ Hid (w'.ownsRow W.heap.size 3 1 (.slice K 3 J) 3 (eh [m + 1,k + 1,d + 1])) /\ Hid (Bw W w')):=fun W z hb hz=>by
  have:=dZ W (M.out W hb) H.is he H.ar hz;rw [A,s] at this;exact this.mono fun r w' ⟨K,J,N,S,h3⟩=>⟨K,J,N,S,h3⟩
 have D0 : Hid (∀ (W : World),Bw w W -> Calls Tryz.prog 27 #[.slice a xs.length c,.int .i64 ((m : Int) + 1)] W fun r w'=>r = .returned (.string (brk 0 (pw (FE l) (m + 1)))) /\ Hid (Bw W w')):=fun W hb=>by
  rw [qj];exact IH m (by omega) W _ (M.out W hb) rfl
 have D1 : Hid (∀ (W : World),Bw w W -> Calls Tryz.prog 27 #[.slice a xs.length c,.int .i64 ((k : Int) + 1)] W fun r w'=>r = .returned (.string (brk 0 (pw (FE l) (k + 1)))) /\ Hid (Bw W w')):=fun W hb=>by
  rw [qj];exact IH k (by omega) W _ (M.out W hb) rfl
 have D2 : Hid (∀ (W : World),Bw w W -> Calls Tryz.prog 27 #[.slice a xs.length c,.int .i64 ((d : Int) + 1)] W fun r w'=>r = .returned (.string (brk 0 (pw (FE l) (d + 1)))) /\ Hid (Bw W w')):=fun W hb=>by
  rw [qj];exact IH d (by omega) W _ (M.out W hb) rfl
 obtain ⟨g,ta,tc,rfl,y0,y1,y2,y3,y4,y5,ti,U⟩:=h.item he;have bo:=h.len;have zn:=ti.nm;have s0 : (brk 0 (pw (FE l) (m + 1))).size <= 100000002:=by have:=(dD 0 (pw (FE l) (m + 1))).2;have:=H.sz (m + 1) (by omega);omega
 have s1 : (brk 0 (pw (FE l) (k + 1))).size <= 100000002:=by have:=(dD 0 (pw (FE l) (k + 1))).2;have:=H.sz (k + 1) (by omega);omega
 have s2 : (brk 0 (pw (FE l) (d + 1))).size <= 100000002:=by have:=(dD 0 (pw (FE l) (d + 1))).2;have:=H.sz (d + 1) (by omega);omega
 obtain ⟨r,Z⟩:=xe ((pw (FE l) (e + 1)).1);obtain ⟨E,B⟩:=xe (brk 0 (pw (FE l) (m + 1)));obtain ⟨I,C⟩:=xe (brk 0 (pw (FE l) (k + 1)));obtain ⟨R,D⟩:=xe (brk 0 (pw (FE l) (d + 1)))
 have L : r = ((((((⟨#[105,102,32]⟩ : ByteArray) ++ E) ++ (⟨#[32,116,104,101,110,32]⟩ : ByteArray)) ++ I) ++ (⟨#[32,101,108,115,101,32]⟩ : ByteArray)) ++ R):=by
  rw [Z,hp];show aC _ _ (List.map (pw (FE l)) (cC _ 3 e)) = _;rw [s];simp only [List.map_cons,List.map_nil,aC,<- B,<- C,<- D,jF,ByteArray.append_assoc];rfl
 rw [<- Z];rw [<- B] at s0 D0;rw [<- C] at s1 D1;rw [<- D] at s2 D2;obtain ⟨X,hX⟩:=xe (xs[e]);rw [<- hX] at y0 y1 y2 y3 y4 y5 hop zn;rw [hop] at y0;have HR:=hQx L;have b5 : IntKind.i64.wrap ((e : Int) + 1 - 1) = (e : Int):=wk (by omega);have c7 : IntKind.i64.wrap (e : Int) = (e : Int):=wk (by omega);have c8 : (e : Int) < (xs.length : Int):=by omega
 have cc : (0 : Int) <= (e : Int):=by omega
 clear h H hp A o s a2 B T C Q D IH _IHP ti U Z hX hf hop M L;have F : (⟨#[105,102,32]⟩ : ByteArray).size = 3:=rfl;have O : (⟨#[32,116,104,101,110,32]⟩ : ByteArray).size = 6:=rfl;have z2 : (⟨#[32,101,108,115,101,32]⟩ : ByteArray).size = 6:=rfl;have c1:=rsa (⟨#[105,102,32]⟩ : ByteArray) E (by rw [F];omega);have c2:=rsa ((⟨#[105,102,32]⟩ : ByteArray) ++ E) (⟨#[32,116,104,101,110,32]⟩ : ByteArray) (by rw [bsa,F,O];omega);have c3:=rsa (((⟨#[105,102,32]⟩ : ByteArray) ++ E) ++ (⟨#[32,116,104,101,110,32]⟩ : ByteArray)) I (by rw [bsa,bsa,F,O];omega);have c4:=rsa ((((⟨#[105,102,32]⟩ : ByteArray) ++ E) ++ (⟨#[32,116,104,101,110,32]⟩ : ByteArray)) ++ I) (⟨#[32,101,108,115,101,32]⟩ : ByteArray) (by rw [bsa,bsa,bsa,F,O,z2];omega);have c5:=rsa (((((⟨#[105,102,32]⟩ : ByteArray) ++ E) ++ (⟨#[32,116,104,101,110,32]⟩ : ByteArray)) ++ I) ++ (⟨#[32,101,108,115,101,32]⟩ : ByteArray)) R (by rw [bsa,bsa,bsa,bsa,F,O,z2];omega);go_enter Tryz.func27,Tryz.ntmps27;go_wp2_with fail;refine (CP.out _ _ (bel1 _ _) (by omega)).mono ?_;rintro e2 n ⟨K,J,rfl,G,P⟩;have b : Hid (Bw w n):=(bel1 _ _).trans (P.out.mono (by simp));obtain ⟨u,gc,ev,_⟩:=au G.out (by omega);simp only [Value.slice.injEq] at ev;obtain ⟨rfl,-,rfl⟩:=ev;have BX:=ls w (.int .i64 8) (.int .i64 X.1.num) (.string X.1.md) (.string X.1.nm) (.slice X.2.np.a X.1.ns.length X.2.np.c) (.slice ta X.1.ty.length tc) 65;have v:=BX.of_block (P.out.block _ BX.lt);have t0 : n.cell? ⟨w.heap.size,0,none⟩ = some (.int .i64 8):=v.cell (i:=0) (by omega)
 have x : Hid (∀ W : World,Bw n W -> W.cell? ⟨u,0,none⟩ = some (.int .i64 ((m : Int) + 1)) /\ W.cell? ⟨u,1,none⟩ = some (.int .i64 ((k : Int) + 1)) /\ W.cell? ⟨u,2,none⟩ = some (.int .i64 ((d : Int) + 1))):=fun W hb=>by
  have V : n.cell? ⟨u,0,none⟩ = some (.int .i64 ((m : Int) + 1)):=aU (es:=[m + 1,k + 1,d + 1]) G.out rfl (j:=0) (by simp);have Y : n.cell? ⟨u,1,none⟩ = some (.int .i64 ((k : Int) + 1)):=aU (es:=[m + 1,k + 1,d + 1]) G.out rfl (j:=1) (by simp);have k2 : n.cell? ⟨u,2,none⟩ = some (.int .i64 ((d : Int) + 1)):=aU (es:=[m + 1,k + 1,d + 1]) G.out rfl (j:=2) (by simp);have BW:=v.of_block (hb.block _ v.lt);exact ⟨(hb.cell (p:=⟨u,0,none⟩) (blt V)).trans V,(hb.cell (p:=⟨u,1,none⟩) (blt Y)).trans Y,(hb.cell (p:=⟨u,2,none⟩) (blt k2)).trans k2⟩
 have cs:=x.out n (Below.refl _ _);obtain ⟨V,Y,k2⟩:=cs;clear BX v P G;have E0 : Hid (∀ W : World,Bw n W -> Calls Tryz.prog 27 #[.slice (some ⟨g,0,none⟩) xs.length c,.int .i64 ((m : Int) + 1)] W fun r w'=>r = .returned (.string E) /\ Hid (Bw n w')):=fun W hb=>(D0.out W (b.out.trans (hb.mono b.out.size))).mono fun r w' h=>⟨h.1,hb.trans (h.2.out.mono hb.size)⟩;have E1 : Hid (∀ W : World,Bw n W -> Calls Tryz.prog 27 #[.slice (some ⟨g,0,none⟩) xs.length c,.int .i64 ((k : Int) + 1)] W fun r w'=>r = .returned (.string I) /\ Hid (Bw n w')):=fun W hb=>(D1.out W (b.out.trans (hb.mono b.out.size))).mono fun r w' h=>⟨h.1,hb.trans (h.2.out.mono hb.size)⟩;have E2 : Hid (∀ W : World,Bw n W -> Calls Tryz.prog 27 #[.slice (some ⟨g,0,none⟩) xs.length c,.int .i64 ((d : Int) + 1)] W fun r w'=>r = .returned (.string R) /\ Hid (Bw n w')):=fun W hb=>(D2.out W (b.out.trans (hb.mono b.out.size))).mono fun r w' h=>⟨h.1,hb.trans (h.2.out.mono hb.size)⟩;have an:=E0.out n.drew (Below.refl _ _).drew;go_wp2
 go_region_held3 (fun w'=>w'.cell? ⟨u,0,none⟩ = some (.int .i64 ((m : Int) + 1)) /\ w'.cell? ⟨u,1,none⟩ = some (.int .i64 ((k : Int) + 1)) /\ w'.cell? ⟨u,2,none⟩ = some (.int .i64 ((d : Int) + 1))) (go_keep) (first
  | (go_at_call 27;(with_reducible refine an.mono ?_);rintro r0 u0 ⟨rfl,V0⟩;obtain ⟨cb,co,cq⟩:=x.out u0 V0.out)
  | (go_at_call 27;(with_reducible refine (E1.out u0 V0.out).mono ?_);rintro r1 u1 ⟨rfl,V1⟩;obtain ⟨ce,b9,ct⟩:=x.out u1 V1.out)
  | (go_at_call 27;(with_reducible refine (E2.out u1 V1.out).mono ?_);rintro r2 u2 ⟨rfl,V2⟩;obtain ⟨b7,b8,ck⟩:=x.out u2 V2.out))
 all_goals
  have y : Hid (Bw w u2):=b.out.trans (V2.out.mono b.out.size);go_wp2;go_ret;exact ⟨by rw [HR.out];rfl,by first | exact y.out | exact y.out.drew | exact below_drewN y.out _⟩
theorem m8 {xs : List (EI × EPl)} {l : List EI} {a : Option Addr} {c e : Nat} (H : mX xs l e) (he : e < xs.length) (hf : fE xs[e].1 = some (fF xs[e].1.ns ft 4)) (hop : xs[e].1.op = 4) (IH : ∀ q,q < e -> nP xs l a c q) : nP xs l a c e:=by
 intro w z h hz;subst hz;have hp:=gf (l:=l) (e:=e) (t:=xs[e].1) (by rw [<- H.is,List.getElem?_map,List.getElem?_eq_getElem he];rfl) hf H.vk
 have U : (FE l e).needs.length = xs[e].1.ns.length:=by
  obtain ⟨f,h1,h2⟩:=H.item he (nlr _);rw [hf] at h1;cases h1;rw [h2];exact (bq _ _ _).2.1
 have B:=H.vk e (Nat.lt_succ_self _)
 dsimp only at B
 rw [U] at B;have HT : Hid (∀ W,Bw w W -> kh W (.slice a xs.length c) xs):=fun W hb=>h.below hb;obtain ⟨j,u⟩:=xe (cC (fun i=>(FE l i).needs.length) xs[e].1.ns.length e);have d : j.length = xs[e].1.ns.length:=by rw [u];exact bw _ _ _
 have CP : Hid (∀ (W : World) (z : Int),Bw w W -> z = ((e + 1 : Nat) : Int) -> Calls Tryz.prog 55 #[.slice a xs.length c,.int .i64 z] W fun r w'=>∃ Y cp,r = .returned (.slice Y xs[e].1.ns.length cp) /\ Hid (w'.ownsRow W.heap.size 3 1 (.slice Y xs[e].1.ns.length cp) xs[e].1.ns.length (eh j)) /\ Hid (Bw W w')):=fun W z hb hz=>by
  have:=dZ W (HT.out W hb) H.is he H.ar hz;rw [U,<- u] at this;exact this.mono fun r w' ⟨Y,cp,h1,h2,h3⟩=>⟨Y,cp,h1,h2,h3⟩
 have CQ : Hid (∀ (W : World) (z : Int) (k : Nat) (o : k < j.length),Bw w W -> z = (j[k] : Int) -> Calls Tryz.prog 27 #[.slice a xs.length c,.int .i64 z] W fun r w'=>r = .returned (.string (pw (FE l) j[k]).1) /\ Hid (Bw W w')):=fun W z k o hb hz=>by
  have hm:=aZ (H.vk.mono (Nat.le_succ _)) B (p:=j[k]) (by rw [<- u];exact List.getElem_mem o);have:=IH (j[k] - 1) (by omega) W z (HT.out W hb) (by omega);rw [show j[k] - 1 + 1 = j[k] by omega] at this;exact this
 have cb : Hid (∀ k (o : k < j.length),(pw (FE l) j[k]).1.size <= 100000000 /\ j[k] <= 1048576):=fun k o=>by
  have hm:=aZ (H.vk.mono (Nat.le_succ _)) B (p:=j[k]) (by rw [<- u];exact List.getElem_mem o);exact ⟨H.sz _ (by omega),by have:=h.len;omega⟩
 obtain ⟨g,ta,tc,rfl,y0,y1,y2,y3,y4,y5,ti,b6⟩:=h.item he;have c2:=h.len;have K : Hid (∀ W,Bw w W -> lG W xs[e].2.np xs[e].1.ns):=fun W hb=>ti.ns.below hb;have I : Hid (∀ k,k < xs[e].1.ns.length -> (xs[e].1.ns.getD k e0).size <= 1048576):=ti.sz;have T:=ti.len;have b0:=H.sz (e + 1) (nlr _);obtain ⟨r,hr⟩:=xe ((pw (FE l) (e + 1)).1);obtain ⟨X,hX⟩:=xe (xs[e]);rw [<- hX] at y0 y1 y2 y3 y4 y5 hop d CP K I T;obtain ⟨ns,M⟩:=xe (X.1.ns);rw [<- M] at y4 d CP K I T;obtain ⟨P,hP⟩ : ∃ P : Nat -> ByteArray,P = fun i=>(((j.map (pw (FE l))).getD i (e0,0)).1):=⟨_,rfl⟩
 have ah : Hid (∀ k (o : k < j.length),P k = (pw (FE l) j[k]).1):=fun k o=>by
  rw [hP];show ((j.map (pw (FE l))).getD k (e0,0)).1 = _;rw [List.getD_eq_getElem?_getD,List.getElem?_map,List.getElem?_eq_getElem o];rfl
 have C : (pw (FE l) (e + 1)).1 = aC (fF ns ft 4).needs (fF ns ft 4).texts (j.map (pw (FE l))):=by
  rw [hp,u,<- hX,<- M];show aC _ _ (List.map (pw (FE l)) (cC _ (fF ns ft 4).needs.length e)) = _;rw [(bq _ _ _).2.1]
 have HR : Hid (r = bU ft ns P ns.length ++ xC):=by
  show _ = _;rw [hr,C,mC 4 (by rw [List.length_map];exact d),hP]
 have a8 : Hid (∀ i,i <= ns.length -> (bU ft ns P i).size <= 100000000):=fun i hi=>by
  have:=px (sign:=ft) (ns:=ns) (ps:=j.map (pw (FE l))) 4 (by rw [List.length_map];exact d) hi;rw [<- C] at this;rw [hP];omega
 rw [<- hr];rw [hop] at y0;obtain ⟨n,hn⟩:=xe (ns.length);have HN : Hid (ns.length = n):=hn.symm;rw [<- hn] at y4 d CP I T HR a8;have dl : IntKind.i64.wrap ((e : Int) + 1 - 1) = (e : Int):=wk (by omega);have el : IntKind.i64.wrap (e : Int) = (e : Int):=wk (by omega);have eq : (e : Int) < (xs.length : Int):=by omega
 have d2 : (0 : Int) <= (e : Int):=by omega
 have N : Hid (j.length = n):=d;clear h H hp U B u IH ti b6 hr hX M hf hop HT C hP b0 hn d;go_enter Tryz.func27,Tryz.ntmps27;go_wp2_with fail;refine (CP.out _ _ (bel1 _ _) (by omega)).mono ?_;rintro e2 E ⟨Y,cp,rfl,HO,HB⟩;have m : Hid (Bw w E):=(bel1 _ _).trans (HB.out.mono (by simp));have BX:=ls w (.int .i64 4) (.int .i64 X.1.num) (.string X.1.md) (.string X.1.nm) (.slice X.2.np.a n X.2.np.c) (.slice ta X.1.ty.length tc) 65;have G:=BX.of_block (HB.out.block _ BX.lt);have t0 : E.cell? ⟨w.heap.size,0,none⟩ = some (.int .i64 4):=G.cell (i:=0) (by omega);have ab : Hid (∀ W,Bw E W -> W.cell? ⟨w.heap.size,4,none⟩ = some (.slice X.2.np.a n X.2.np.c)):=fun W hb=>(G.of_block (hb.block _ G.lt)).cell (i:=4) (by omega)
 have a7 : Hid (∀ W,Bw E W -> ∀ k (o : k < j.length),∃ D,Y = some ⟨D,0,none⟩ /\ W.cell? ⟨D,k,none⟩ = some (.int .i64 (j[k] : Int))):=fun W hb k o=>by
  obtain ⟨D,gc,ev,_⟩:=au HO.out (show 0 < n by have:=N.out;omega);simp only [Value.slice.injEq] at ev;obtain ⟨rfl,-,rfl⟩:=ev;have c0 : E.cell? ⟨D,k,none⟩ = some (.int .i64 (j[k] : Int)):=aU (es:=j) (by rw [N.out];exact HO.out) rfl o;exact ⟨D,rfl,(hb.cell (p:=⟨D,k,none⟩) (blt c0)).trans c0⟩
 clear BX G HB HO;go_wp2
 go_loopw [7,8] (fun s i wr=>∃ k : Nat,k <= n /\ i = .int .i64 k /\ s = .string (bU ft ns P k) /\ Hid (Bw E wr)) (fun _ i _=>n - (intOf i).toNat)
 case atStart=>exact ⟨0,Nat.zero_le _,rfl,rfl,Below.refl _ _⟩
 case round=>
  obtain ⟨k,o,rfl,rfl,Z⟩:=hrel;have sS:=a8.out k o;by_cases J : k < n
  ·have y : k < j.length:=by rw [N.out];exact J
   have R : Hid (Bw w wr):=m.out.trans (Z.out.mono m.out.size);have nsa:=K.out wr R.out;have ea:=nsa.at_ (by rw [HN.out];omega);have ck:=nsa.cell k (by rw [HN.out];exact J);have zk:=I.out k J;obtain ⟨D,b2,pk⟩:=a7.out wr Z.out k y;obtain ⟨zp,b1⟩:=cb.out k y;have bx:=ab.out wr Z.out
   have HC : Hid (∀ (W : World),Bw E W -> Calls Tryz.prog 27 #[.slice (some ⟨g,0,none⟩) xs.length c,.int .i64 (j[k] : Int)] W fun r w'=>r = .returned (.string (P k)) /\ Hid (Bw E w')):=fun W hb=>by
    rw [ah.out k y];exact (CQ.out W _ k y (m.out.trans (hb.mono m.out.size)) rfl).mono fun r w' h=>⟨h.1,hb.trans (h.2.out.mono hb.size)⟩
   rw [<- ah.out k y] at zp;obtain ⟨q,hq⟩:=xe (j[k]);rw [<- hq] at pk HC b1;obtain ⟨x,hx⟩:=xe (ns.getD k e0);rw [<- hx] at ck zk;rw [ea] at bx;subst b2;obtain ⟨V,L⟩:=xe (X.2.np.b);rw [<- L] at bx ck;have v : Hid (bU ft ns P (k + 1) = ((if 0 < k then bU ft ns P k ++ ld else bU ft ns P k) ++ x) ++ ft ++ P k):=by show _ = _;rw [bU,hx]
   obtain ⟨S,hS⟩:=xe (bU ft ns P k);obtain ⟨Q,hQ⟩:=xe (P k);rw [<- hS] at sS v ⊢;rw [<- hQ] at zp v HC
   have ao : Hid (∀ W : World,Bw E W -> W.cell? ⟨w.heap.size,4,none⟩ = some (.slice (some ⟨V,0,none⟩) n X.2.np.c) /\ W.cell? ⟨V,k,none⟩ = some (.string x) /\ W.cell? ⟨D,k,none⟩ = some (.int .i64 (q : Int))):=fun W hb=>by
    have b9:=m.out.trans (hb.mono m.out.size);refine ⟨?_,?_,?_⟩
    ·rw [<- L.symm,<- ea];exact ab.out W hb
    ·have:=(K.out W b9).cell k (by rw [HN.out];exact J);rw [<- L,<- hx] at this;exact this
    ·obtain ⟨et,e',c'⟩:=a7.out W hb k y
     cases e';rw [hq];exact c'
   have s1 : (⟨#[44,32]⟩ : ByteArray).size = 2:=rfl;have s2 : (⟨#[32,61,32]⟩ : ByteArray).size = 3:=rfl;clear nsa ea hq hx L hS hQ;by_cases an : 0 < k
   ·have lk : (0 : Int) < (k : Int):=by omega
    have a0:=rsa S (⟨#[44,32]⟩ : ByteArray) (by rw [s1];omega);obtain ⟨S2,F⟩:=xe (S ++ (⟨#[44,32]⟩ : ByteArray));have ez : S2.size <= 100000002:=by rw [F,bsa,s1];omega
    rw [<- F] at a0;have HF : Hid (bU ft ns P (k + 1) = (S2 ++ x ++ (⟨#[32,61,32]⟩ : ByteArray)) ++ Q):=by show _ = _;rw [v.out,if_pos an,F];rfl
    have a1:=rsa S2 x (by omega);have a2:=rsa (S2 ++ x) (⟨#[32,61,32]⟩ : ByteArray) (by rw [bsa,s2];omega);have a3:=rsa (S2 ++ x ++ (⟨#[32,61,32]⟩ : ByteArray)) Q (by rw [bsa,bsa,s2];omega);have O:=HC.out wr.drew Z.out.drew;clear F v;go_wp2
    go_region_held3 (fun w'=>w'.cell? ⟨w.heap.size,4,none⟩ = some (.slice (some ⟨V,0,none⟩) n X.2.np.c) /\ w'.cell? ⟨V,k,none⟩ = some (.string x) /\ w'.cell? ⟨D,k,none⟩ = some (.int .i64 (q : Int))) (go_keep) ((go_at_call 27;(with_reducible refine O.mono ?_);rintro e5 w5 ⟨rfl,A⟩;obtain ⟨u0,u1,u2⟩:=ao.out w5 A.out))
    all_goals
     go_wp2
     go_roundw
     case rel=>exact ⟨k + 1,by omega,by go_num,by rw [HF.out],A⟩
     case measure=>simp [intOf];omega
   ·have lk : ¬ (0 : Int) < (k : Int):=by omega
    have HF : Hid (bU ft ns P (k + 1) = (S ++ x ++ (⟨#[32,61,32]⟩ : ByteArray)) ++ Q):=by show _ = _;rw [v.out,if_neg an];rfl
    have a1:=rsa S x (by omega);have a2:=rsa (S ++ x) (⟨#[32,61,32]⟩ : ByteArray) (by rw [bsa,s2];omega);have a3:=rsa (S ++ x ++ (⟨#[32,61,32]⟩ : ByteArray)) Q (by rw [bsa,bsa,s2];omega);have O:=HC.out wr.drew Z.out.drew;clear v;go_wp2
    go_region_held3 (fun w'=>w'.cell? ⟨w.heap.size,4,none⟩ = some (.slice (some ⟨V,0,none⟩) n X.2.np.c) /\ w'.cell? ⟨V,k,none⟩ = some (.string x) /\ w'.cell? ⟨D,k,none⟩ = some (.int .i64 (q : Int))) (go_keep) ((go_at_call 27;(with_reducible refine O.mono ?_);rintro e5 w5 ⟨rfl,A⟩;obtain ⟨u0,u1,u2⟩:=ao.out w5 A.out))
    all_goals
     go_wp2
     go_roundw
     case rel=>exact ⟨k + 1,by omega,by go_num,by rw [HF.out],A⟩
     case measure=>simp [intOf];omega
  ·have co : k = n:=by omega
   subst co;have s1 : (⟨#[125]⟩ : ByteArray).size = 1:=rfl;have HF : Hid (r = bU ft ns P k ++ (⟨#[125]⟩ : ByteArray)):=by show _ = _;rw [HR.out];rfl
   have a1:=rsa (bU ft ns P k) (⟨#[125]⟩ : ByteArray) (by rw [s1];omega);have R : Hid (Bw w wr):=m.out.trans (Z.out.mono m.out.size);go_wp2;go_ret;exact ⟨by rw [HF.out];rfl,R.out⟩
theorem dc {xs : List (EI × EPl)} {l : List EI} {a : Option Addr} {c e : Nat} (H : mX xs l e) (he : e < xs.length) {f : Fm} (hf : fE xs[e].1 = some f) (h4 : (xs[e].1.op = 1 /\ 0 <= xs[e].1.num /\ xs[e].1.num <= 999999999 /\ f = ⟨4,[],[hU xs[e].1.num.toNat]⟩) \/ (xs[e].1.op = 2 /\ xs[e].1.num = 0 /\ f = ⟨4,[],[cg]⟩) \/ (xs[e].1.op = 2 /\ xs[e].1.num = 1 /\ f = ⟨4,[],[d9]⟩) \/ (xs[e].1.op = 3 /\ f = ⟨4,[],[ia xs[e].1.md xs[e].1.nm]⟩)) : nP xs l a c e:=by
 intro w z h d;subst d;have E:=gf (l:=l) (e:=e) (t:=xs[e].1) (by rw [<- H.is,List.getElem?_map,List.getElem?_eq_getElem he];rfl) hf H.vk;obtain ⟨g,ta,tc,rfl,G,C,F,J,R,P,x,y⟩:=h.item he;have I:=h.len;obtain ⟨r,A⟩:=xe ((pw (FE l) (e + 1)).1);obtain ⟨X,D⟩:=xe (xs[e]);rw [<- D] at G C F J R P x h4;have m : Hid (r = aC f.needs f.texts ((cC (fun i=>(FE l i).needs.length) f.needs.length e).map (pw (FE l)))):=by show _ = _;rw [A,E]
 rw [<- A];obtain ⟨op,o⟩:=xe (X.1.op);obtain ⟨K,q⟩:=xe (X.1.num);rw [<- o] at G h4;rw [<- q] at C h4;have Q : IntKind.i64.wrap ((e : Int) + 1 - 1) = (e : Int):=wk (by omega);have N : IntKind.i64.wrap (e : Int) = (e : Int):=wk (by omega);have O : (e : Int) < (xs.length : Int):=by omega
 have S : (0 : Int) <= (e : Int):=by omega
 have T:=x.md;have M:=x.nm;obtain ⟨md,s⟩:=xe (X.1.md);obtain ⟨nm,p⟩:=xe (X.1.nm);rw [<- s] at F T h4;rw [<- p] at J M h4;clear h H E A D o q hf x y s p;rcases h4 with ⟨n,u,h3,rfl⟩ | ⟨n,u,rfl⟩ | ⟨n,u,rfl⟩ | ⟨n,rfl⟩
 ·subst n
  obtain ⟨k,rfl⟩ : ∃ k : Nat,K = k:=⟨K.toNat,by omega⟩;have b : Hid (r = hU k):=m;have U : Hid (∀ W,Calls Tryz.prog 54 #[.int .i64 (k : Int)] W fun e w'=>e = .returned (.string (hU k)) /\ ∃ j,w' = W.drewN j):=fun W=>zS k W (by omega);clear m;go_enter Tryz.func27,Tryz.ntmps27;go_wp2_with fail;refine (U.out _).mono ?_;rintro r2 Y ⟨rfl,j,rfl⟩;go_wp2;go_ret;exact ⟨by rw [b.out];rfl,below_drewN (bel1 _ _) _⟩
 ·subst n u
  have b : Hid (r = ⟨#[102,97,108,115,101]⟩):=m;clear m;go_enter Tryz.func27,Tryz.ntmps27;go_wp2;go_ret;exact ⟨by rw [b.out];rfl,bel1 _ _⟩
 ·subst n u
  have b : Hid (r = ⟨#[116,114,117,101]⟩):=m;clear m;go_enter Tryz.func27,Tryz.ntmps27;go_wp2;go_ret;exact ⟨by rw [b.out];rfl,bel1 _ _⟩
 ·subst n
  have v : Hid (r = if md.size = 0 then nm else md ++ aQ ++ nm):=m;clear m;go_enter Tryz.func27,Tryz.ntmps27;by_cases d : md.size = 0
  ·have b : Hid (r = nm):=by show _ = _;rw [v.out,if_pos d]
   have B : md = ByteArray.empty:=bJ d;subst B;clear v d;go_wp2;go_ret;exact ⟨by rw [b.out];rfl,bel1 _ _⟩
  ·have b : Hid (r = md ++ (⟨#[58]⟩ : ByteArray) ++ nm):=by show _ = _;rw [v.out,if_neg d];rfl
   have B : ¬ md = ByteArray.empty:=fZ d;have Z : (0 : Int) < (md.size : Int):=by omega
   have V : 0 < md.size:=by omega
   have L : (⟨#[58]⟩ : ByteArray).size = 1:=rfl;have a1:=rsa md (⟨#[58]⟩ : ByteArray) (by rw [L];omega);have a2:=rsa (md ++ (⟨#[58]⟩ : ByteArray)) nm (by rw [bsa,L];omega);clear v d;go_wp2;go_ret;exact ⟨by rw [b.out];rfl,bel1 _ _⟩
theorem vZ {xs : List (EI × EPl)} {l : List EI} {a : Option Addr} {c : Nat} : ∀ e,mX xs l e -> e < xs.length -> nP xs l a c e:=by
 intro e
 induction e using Nat.strongRecOn with
 | _ e ih=>
   intro H d;have b : ∀ q,q < e -> mX xs l q:=fun q hq=>⟨H.is,fun j hj=>H.ar j (by omega),H.vk.mono (by omega),fun k hk=>H.sz k (by omega),H.tsz⟩;have h : ∀ q,q < e -> nP xs l a c q:=fun q hq=>ih q hq (b q hq) (by omega);obtain ⟨f,g,_⟩:=H.item d (nlr _);rcases fE_cases g with z | z | z | z | z | z | z | z | z | z | z
   ·exact dc H d g (Or.inl z)
   ·exact dc H d g (Or.inr (Or.inl z))
   ·exact dc H d g (Or.inr (Or.inr (Or.inl z)))
   ·exact dc H d g (Or.inr (Or.inr (Or.inr z)))
   ·exact m8 H d (by rw [g,z.2]) z.1 h
   ·exact mL H d (by rw [g,z.2]) z.1 b h
   ·exact nh H d (by rw [g,z.2.2]) z.1 z.2.1 b h
   ·exact lp H d (by rw [g,z.2]) z.1 b h
   ·exact nS H d (by rw [g,z.2]) z.1 b h
   ·exact nk H d (by rw [g,z.2]) z.1 b h
   ·exact lr H d (by rw [g,z.2]) z.1 b h
end Go.Proofs.YtihedobejcaapaaGreatDoor
