/-
  VcE VcF
-/
import Derived.Test.YtcehppndpccldaaGreatDoorT6
set_option maxHeartbeats 4000000
set_option maxRecDepth 100000
namespace Go.Proofs.YtcehppndpccldaaGreatDoor
open Go.RowKit
theorem one_of {l : List Nat} (h : l.length = 1) : ∃ x,l = [x]:=by
 match l,h with
 | [x],_=>exact ⟨x,rfl⟩
theorem three_of {l : List Nat} (h : l.length = 3) : ∃ x y z,l = [x,y,z]:=by
 match l,h with
 | [x,y,z],_=>exact ⟨x,y,z,rfl⟩
theorem v_printE_add {xs : List (EI × EPl)} {l : List EI} {a : Option Addr} {c e : Nat} (H : PEH xs l e) (he : e < xs.length) (hf : fE xs[e].1 = some ⟨2,[2,3],[e0,xAdd,e0]⟩) (hop : xs[e].1.op = 9) (IHP : ∀ q,q < e -> PEH xs l q) (IH : ∀ q,q < e -> PEC xs l a c q) : PEC xs l a c e:=by
 intro w z h hz
 subst hz
 have hp:=pw_atE (l:=l) (e:=e) (t:=xs[e].1) (by rw [<- H.is,List.getElem?_map,List.getElem?_eq_getElem he];rfl) hf H.vk
 have hn2 : (FE l e).needs.length = 2:=by
  obtain ⟨f,h1,h2⟩:=H.item he (nlr _)
  rw [hf] at h1
  cases h1
  rw [h2];rfl
 have hv2:=H.vk e (Nat.lt_succ_self _)
 dsimp only at hv2
 rw [hn2] at hv2
 obtain ⟨p0,p1,hps⟩:=two_of (pts_len (fun i=>(FE l i).needs.length) 2 e)
 have hm0:=pts_mem (H.vk.mono (Nat.le_succ _)) hv2 (p:=p0) (by rw [hps];simp)
 obtain ⟨q0,rfl⟩ : ∃ q,p0 = q + 1:=⟨p0 - 1,by omega⟩
 have hm1:=pts_mem (H.vk.mono (Nat.le_succ _)) hv2 (p:=p1) (by rw [hps];simp)
 obtain ⟨q1,rfl⟩ : ∃ q,p1 = q + 1:=⟨p1 - 1,by omega⟩
 have HT : Hid (∀ W,Bw w W -> EsA W (.slice a xs.length c) xs):=fun W hb=>h.below hb
 have CP : Hid (∀ (W : World) (z : Int),Bw w W -> z = ((e + 1 : Nat) : Int) -> Calls Tryz.prog 103 #[.slice a xs.length c,.int .i64 z] W fun r w'=>∃ va cp,r = .returned (.slice va 2 cp) /\ Hid (w'.ownsRow W.heap.size 3 1 (.slice va 2 cp) 2 (inC [q0 + 1,q1 + 1])) /\ Hid (Bw W w')):=fun W z hb hz=>by
  have:=v_eparts W (HT.out W hb) H.is he H.ar hz
  rw [hn2,hps] at this
  exact this.mono fun r w' ⟨va,cp,h1,h2,h3⟩=>⟨va,cp,h1,h2,h3⟩
 have D0 : Hid (∀ (W : World),Bw w W -> Calls Tryz.prog 104 #[.slice a xs.length c,.int .i64 ((q0 : Int) + 1),.int .i64 2] W fun r w'=>r = .returned (.string (brk 2 (pw (FE l) (q0 + 1)))) /\ Hid (Bw W w')):=fun W hb=>v_part (IHP q0 (by omega)) (by omega) (IH q0 (by omega)) W (HT.out W hb) 2 rfl
 have D1 : Hid (∀ (W : World),Bw w W -> Calls Tryz.prog 104 #[.slice a xs.length c,.int .i64 ((q1 : Int) + 1),.int .i64 3] W fun r w'=>r = .returned (.string (brk 3 (pw (FE l) (q1 + 1)))) /\ Hid (Bw W w')):=fun W hb=>v_part (IHP q1 (by omega)) (by omega) (IH q1 (by omega)) W (HT.out W hb) 3 rfl
 obtain ⟨g,ta,tc,rfl,y0,y1,y2,y3,y4,y5,ti,htv⟩:=h.item he
 have hlen:=h.len
 have zn:=ti.nm
 have s0 : (brk 2 (pw (FE l) (q0 + 1))).size <= 100000002:=by have:=(brk_ge 2 (pw (FE l) (q0 + 1))).2;have:=H.sz (q0 + 1) (by omega);omega
 have s1 : (brk 3 (pw (FE l) (q1 + 1))).size <= 100000002:=by have:=(brk_ge 3 (pw (FE l) (q1 + 1))).2;have:=H.sz (q1 + 1) (by omega);omega
 obtain ⟨r,hr⟩:=xe ((pw (FE l) (e + 1)).1)
 obtain ⟨T0,hT0⟩:=xe (brk 2 (pw (FE l) (q0 + 1)))
 obtain ⟨T1,hT1⟩:=xe (brk 3 (pw (FE l) (q1 + 1)))
 have HR0 : r = ((T0 ++ (⟨#[32,43,32]⟩ : ByteArray)) ++ T1):=by
  rw [hr,hp]
  show arnd _ _ (List.map (pw (FE l)) (pts _ 2 e)) = _
  rw [hps]
  simp only [List.map_cons,List.map_nil,arnd,<- hT0,<- hT1,em_app,app_em,ByteArray.append_assoc]
  rfl
 rw [<- hr]
 rw [<- hT0] at s0 D0
 rw [<- hT1] at s1 D1
 obtain ⟨X,hX⟩:=xe (xs[e])
 rw [<- hX] at y0 y1 y2 y3 y4 y5 hop zn
 rw [hop] at y0
 have HR : Hid (r = ((T0 ++ (⟨#[32,43,32]⟩ : ByteArray)) ++ T1)):=HR0
 have we1 : IntKind.i64.wrap ((e : Int) + 1 - 1) = (e : Int):=wk (by omega)
 have we2 : IntKind.i64.wrap (e : Int) = (e : Int):=wk (by omega)
 have hel : (e : Int) < (xs.length : Int):=by omega
 have he0 : (0 : Int) <= (e : Int):=by omega
 clear h H hp hn2 hv2 hps hm0 hT0 hm1 hT1 IH IHP ti htv hr hX hf hop HT HR0
 have z0 : (⟨#[32,43,32]⟩ : ByteArray).size = 3:=rfl
 have c1:=rsa T0 (⟨#[32,43,32]⟩ : ByteArray) (by rw [z0];omega)
 have c2:=rsa (T0 ++ (⟨#[32,43,32]⟩ : ByteArray)) T1 (by rw [bsa,z0];omega)
 go_enter Tryz.func66,Tryz.ntmps66
 go_wp2_with fail
 refine (CP.out _ _ (bel1 _ _) (by omega)).mono ?_
 rintro e2 w2 ⟨va,cp,rfl,HO,HB⟩
 have HB2 : Hid (Bw w w2):=(bel1 _ _).trans (HB.out.mono (by simp))
 obtain ⟨go,gc,ev,_⟩:=own_blk HO.out (by omega)
 simp only [Value.slice.injEq] at ev
 obtain ⟨rfl,-,rfl⟩:=ev
 have BX:=row6 w (.int .i64 9) (.int .i64 X.1.num) (.string X.1.md) (.string X.1.nm) (.slice X.2.np.a X.1.ns.length X.2.np.c) (.slice ta X.1.ty.length tc) 70
 have BX2:=BX.of_block (HB.out.block _ BX.lt)
 have t0 : w2.cell? ⟨w.heap.size,0,none⟩ = some (.int .i64 9):=BX2.cell (i:=0) (by omega)
 have HCC : Hid (∀ W : World,Bw w2 W -> W.cell? ⟨go,0,none⟩ = some (.int .i64 ((q0 : Int) + 1)) /\ W.cell? ⟨go,1,none⟩ = some (.int .i64 ((q1 : Int) + 1))):=fun W hb=>by
  have k0 : w2.cell? ⟨go,0,none⟩ = some (.int .i64 ((q0 : Int) + 1)):=own_int (es:=[q0 + 1,q1 + 1]) HO.out rfl (j:=0) (by simp)
  have k1 : w2.cell? ⟨go,1,none⟩ = some (.int .i64 ((q1 : Int) + 1)):=own_int (es:=[q0 + 1,q1 + 1]) HO.out rfl (j:=1) (by simp)
  have BW:=BX2.of_block (hb.block _ BX2.lt)
  exact ⟨(hb.cell (p:=⟨go,0,none⟩) (blt k0)).trans k0,(hb.cell (p:=⟨go,1,none⟩) (blt k1)).trans k1⟩
 have cs:=HCC.out w2 (Below.refl _ _)
 obtain ⟨k0,k1⟩:=cs
 clear BX BX2 HB HO
 have E0 : Hid (∀ W : World,Bw w2 W -> Calls Tryz.prog 104 #[.slice (some ⟨g,0,none⟩) xs.length c,.int .i64 ((q0 : Int) + 1),.int .i64 2] W fun r w'=>r = .returned (.string T0) /\ Hid (Bw w2 w')):=fun W hb=>(D0.out W (HB2.out.trans (hb.mono HB2.out.size))).mono fun r w' h=>⟨h.1,hb.trans (h.2.out.mono hb.size)⟩
 have E1 : Hid (∀ W : World,Bw w2 W -> Calls Tryz.prog 104 #[.slice (some ⟨g,0,none⟩) xs.length c,.int .i64 ((q1 : Int) + 1),.int .i64 3] W fun r w'=>r = .returned (.string T1) /\ Hid (Bw w2 w')):=fun W hb=>(D1.out W (HB2.out.trans (hb.mono HB2.out.size))).mono fun r w' h=>⟨h.1,hb.trans (h.2.out.mono hb.size)⟩
 have E0':=E0.out w2.drew (Below.refl _ _).drew
 go_wp2
 go_region_held3 (fun w'=>w'.cell? ⟨go,0,none⟩ = some (.int .i64 ((q0 : Int) + 1)) /\ w'.cell? ⟨go,1,none⟩ = some (.int .i64 ((q1 : Int) + 1))) (go_keep) (first
  | (go_at_call 104;(with_reducible refine E0'.mono ?_);rintro r0 u0 ⟨rfl,V0⟩;obtain ⟨m00,m01⟩:=HCC.out u0 V0.out)
  | (go_at_call 104;(with_reducible refine (E1.out u0 V0.out).mono ?_);rintro r1 u1 ⟨rfl,V1⟩;obtain ⟨m10,m11⟩:=HCC.out u1 V1.out))
 all_goals
  have HBL : Hid (Bw w u1):=HB2.out.trans (V1.out.mono HB2.out.size)
  go_wp2
  go_ret
  exact ⟨by rw [HR.out];rfl,by first | exact HBL.out | exact HBL.out.drew | exact below_drewN HBL.out _⟩
theorem v_printE_less {xs : List (EI × EPl)} {l : List EI} {a : Option Addr} {c e : Nat} (H : PEH xs l e) (he : e < xs.length) (hf : fE xs[e].1 = some ⟨1,[2,2],[e0,xLess,e0]⟩) (hop : xs[e].1.op = 10) (IHP : ∀ q,q < e -> PEH xs l q) (IH : ∀ q,q < e -> PEC xs l a c q) : PEC xs l a c e:=by
 intro w z h hz
 subst hz
 have hp:=pw_atE (l:=l) (e:=e) (t:=xs[e].1) (by rw [<- H.is,List.getElem?_map,List.getElem?_eq_getElem he];rfl) hf H.vk
 have hn2 : (FE l e).needs.length = 2:=by
  obtain ⟨f,h1,h2⟩:=H.item he (nlr _)
  rw [hf] at h1
  cases h1
  rw [h2];rfl
 have hv2:=H.vk e (Nat.lt_succ_self _)
 dsimp only at hv2
 rw [hn2] at hv2
 obtain ⟨p0,p1,hps⟩:=two_of (pts_len (fun i=>(FE l i).needs.length) 2 e)
 have hm0:=pts_mem (H.vk.mono (Nat.le_succ _)) hv2 (p:=p0) (by rw [hps];simp)
 obtain ⟨q0,rfl⟩ : ∃ q,p0 = q + 1:=⟨p0 - 1,by omega⟩
 have hm1:=pts_mem (H.vk.mono (Nat.le_succ _)) hv2 (p:=p1) (by rw [hps];simp)
 obtain ⟨q1,rfl⟩ : ∃ q,p1 = q + 1:=⟨p1 - 1,by omega⟩
 have HT : Hid (∀ W,Bw w W -> EsA W (.slice a xs.length c) xs):=fun W hb=>h.below hb
 have CP : Hid (∀ (W : World) (z : Int),Bw w W -> z = ((e + 1 : Nat) : Int) -> Calls Tryz.prog 103 #[.slice a xs.length c,.int .i64 z] W fun r w'=>∃ va cp,r = .returned (.slice va 2 cp) /\ Hid (w'.ownsRow W.heap.size 3 1 (.slice va 2 cp) 2 (inC [q0 + 1,q1 + 1])) /\ Hid (Bw W w')):=fun W z hb hz=>by
  have:=v_eparts W (HT.out W hb) H.is he H.ar hz
  rw [hn2,hps] at this
  exact this.mono fun r w' ⟨va,cp,h1,h2,h3⟩=>⟨va,cp,h1,h2,h3⟩
 have D0 : Hid (∀ (W : World),Bw w W -> Calls Tryz.prog 104 #[.slice a xs.length c,.int .i64 ((q0 : Int) + 1),.int .i64 2] W fun r w'=>r = .returned (.string (brk 2 (pw (FE l) (q0 + 1)))) /\ Hid (Bw W w')):=fun W hb=>v_part (IHP q0 (by omega)) (by omega) (IH q0 (by omega)) W (HT.out W hb) 2 rfl
 have D1 : Hid (∀ (W : World),Bw w W -> Calls Tryz.prog 104 #[.slice a xs.length c,.int .i64 ((q1 : Int) + 1),.int .i64 2] W fun r w'=>r = .returned (.string (brk 2 (pw (FE l) (q1 + 1)))) /\ Hid (Bw W w')):=fun W hb=>v_part (IHP q1 (by omega)) (by omega) (IH q1 (by omega)) W (HT.out W hb) 2 rfl
 obtain ⟨g,ta,tc,rfl,y0,y1,y2,y3,y4,y5,ti,htv⟩:=h.item he
 have hlen:=h.len
 have zn:=ti.nm
 have s0 : (brk 2 (pw (FE l) (q0 + 1))).size <= 100000002:=by have:=(brk_ge 2 (pw (FE l) (q0 + 1))).2;have:=H.sz (q0 + 1) (by omega);omega
 have s1 : (brk 2 (pw (FE l) (q1 + 1))).size <= 100000002:=by have:=(brk_ge 2 (pw (FE l) (q1 + 1))).2;have:=H.sz (q1 + 1) (by omega);omega
 obtain ⟨r,hr⟩:=xe ((pw (FE l) (e + 1)).1)
 obtain ⟨T0,hT0⟩:=xe (brk 2 (pw (FE l) (q0 + 1)))
 obtain ⟨T1,hT1⟩:=xe (brk 2 (pw (FE l) (q1 + 1)))
 have HR0 : r = ((T0 ++ (⟨#[32,60,32]⟩ : ByteArray)) ++ T1):=by
  rw [hr,hp]
  show arnd _ _ (List.map (pw (FE l)) (pts _ 2 e)) = _
  rw [hps]
  simp only [List.map_cons,List.map_nil,arnd,<- hT0,<- hT1,em_app,app_em,ByteArray.append_assoc]
  rfl
 rw [<- hr]
 rw [<- hT0] at s0 D0
 rw [<- hT1] at s1 D1
 obtain ⟨X,hX⟩:=xe (xs[e])
 rw [<- hX] at y0 y1 y2 y3 y4 y5 hop zn
 rw [hop] at y0
 have HR : Hid (r = ((T0 ++ (⟨#[32,60,32]⟩ : ByteArray)) ++ T1)):=HR0
 have we1 : IntKind.i64.wrap ((e : Int) + 1 - 1) = (e : Int):=wk (by omega)
 have we2 : IntKind.i64.wrap (e : Int) = (e : Int):=wk (by omega)
 have hel : (e : Int) < (xs.length : Int):=by omega
 have he0 : (0 : Int) <= (e : Int):=by omega
 clear h H hp hn2 hv2 hps hm0 hT0 hm1 hT1 IH IHP ti htv hr hX hf hop HT HR0
 have z0 : (⟨#[32,60,32]⟩ : ByteArray).size = 3:=rfl
 have c1:=rsa T0 (⟨#[32,60,32]⟩ : ByteArray) (by rw [z0];omega)
 have c2:=rsa (T0 ++ (⟨#[32,60,32]⟩ : ByteArray)) T1 (by rw [bsa,z0];omega)
 go_enter Tryz.func66,Tryz.ntmps66
 go_wp2_with fail
 refine (CP.out _ _ (bel1 _ _) (by omega)).mono ?_
 rintro e2 w2 ⟨va,cp,rfl,HO,HB⟩
 have HB2 : Hid (Bw w w2):=(bel1 _ _).trans (HB.out.mono (by simp))
 obtain ⟨go,gc,ev,_⟩:=own_blk HO.out (by omega)
 simp only [Value.slice.injEq] at ev
 obtain ⟨rfl,-,rfl⟩:=ev
 have BX:=row6 w (.int .i64 10) (.int .i64 X.1.num) (.string X.1.md) (.string X.1.nm) (.slice X.2.np.a X.1.ns.length X.2.np.c) (.slice ta X.1.ty.length tc) 70
 have BX2:=BX.of_block (HB.out.block _ BX.lt)
 have t0 : w2.cell? ⟨w.heap.size,0,none⟩ = some (.int .i64 10):=BX2.cell (i:=0) (by omega)
 have HCC : Hid (∀ W : World,Bw w2 W -> W.cell? ⟨go,0,none⟩ = some (.int .i64 ((q0 : Int) + 1)) /\ W.cell? ⟨go,1,none⟩ = some (.int .i64 ((q1 : Int) + 1))):=fun W hb=>by
  have k0 : w2.cell? ⟨go,0,none⟩ = some (.int .i64 ((q0 : Int) + 1)):=own_int (es:=[q0 + 1,q1 + 1]) HO.out rfl (j:=0) (by simp)
  have k1 : w2.cell? ⟨go,1,none⟩ = some (.int .i64 ((q1 : Int) + 1)):=own_int (es:=[q0 + 1,q1 + 1]) HO.out rfl (j:=1) (by simp)
  have BW:=BX2.of_block (hb.block _ BX2.lt)
  exact ⟨(hb.cell (p:=⟨go,0,none⟩) (blt k0)).trans k0,(hb.cell (p:=⟨go,1,none⟩) (blt k1)).trans k1⟩
 have cs:=HCC.out w2 (Below.refl _ _)
 obtain ⟨k0,k1⟩:=cs
 clear BX BX2 HB HO
 have E0 : Hid (∀ W : World,Bw w2 W -> Calls Tryz.prog 104 #[.slice (some ⟨g,0,none⟩) xs.length c,.int .i64 ((q0 : Int) + 1),.int .i64 2] W fun r w'=>r = .returned (.string T0) /\ Hid (Bw w2 w')):=fun W hb=>(D0.out W (HB2.out.trans (hb.mono HB2.out.size))).mono fun r w' h=>⟨h.1,hb.trans (h.2.out.mono hb.size)⟩
 have E1 : Hid (∀ W : World,Bw w2 W -> Calls Tryz.prog 104 #[.slice (some ⟨g,0,none⟩) xs.length c,.int .i64 ((q1 : Int) + 1),.int .i64 2] W fun r w'=>r = .returned (.string T1) /\ Hid (Bw w2 w')):=fun W hb=>(D1.out W (HB2.out.trans (hb.mono HB2.out.size))).mono fun r w' h=>⟨h.1,hb.trans (h.2.out.mono hb.size)⟩
 have E0':=E0.out w2.drew (Below.refl _ _).drew
 go_wp2
 go_region_held3 (fun w'=>w'.cell? ⟨go,0,none⟩ = some (.int .i64 ((q0 : Int) + 1)) /\ w'.cell? ⟨go,1,none⟩ = some (.int .i64 ((q1 : Int) + 1))) (go_keep) (first
  | (go_at_call 104;(with_reducible refine E0'.mono ?_);rintro r0 u0 ⟨rfl,V0⟩;obtain ⟨m00,m01⟩:=HCC.out u0 V0.out)
  | (go_at_call 104;(with_reducible refine (E1.out u0 V0.out).mono ?_);rintro r1 u1 ⟨rfl,V1⟩;obtain ⟨m10,m11⟩:=HCC.out u1 V1.out))
 all_goals
  have HBL : Hid (Bw w u1):=HB2.out.trans (V1.out.mono HB2.out.size)
  go_wp2
  go_ret
  exact ⟨by rw [HR.out];rfl,by first | exact HBL.out | exact HBL.out.drew | exact below_drewN HBL.out _⟩
theorem v_printE_get {xs : List (EI × EPl)} {l : List EI} {a : Option Addr} {c e : Nat} (H : PEH xs l e) (he : e < xs.length) (hf : fE xs[e].1 = some ⟨3,[3],[e0,xDot ++ xs[e].1.nm]⟩) (hop : xs[e].1.op = 5) (IHP : ∀ q,q < e -> PEH xs l q) (IH : ∀ q,q < e -> PEC xs l a c q) : PEC xs l a c e:=by
 intro w z h hz
 subst hz
 have hp:=pw_atE (l:=l) (e:=e) (t:=xs[e].1) (by rw [<- H.is,List.getElem?_map,List.getElem?_eq_getElem he];rfl) hf H.vk
 have hn2 : (FE l e).needs.length = 1:=by
  obtain ⟨f,h1,h2⟩:=H.item he (nlr _)
  rw [hf] at h1
  cases h1
  rw [h2];rfl
 have hv2:=H.vk e (Nat.lt_succ_self _)
 dsimp only at hv2
 rw [hn2] at hv2
 obtain ⟨p0,hps⟩:=one_of (pts_len (fun i=>(FE l i).needs.length) 1 e)
 have hm0:=pts_mem (H.vk.mono (Nat.le_succ _)) hv2 (p:=p0) (by rw [hps];simp)
 obtain ⟨q0,rfl⟩ : ∃ q,p0 = q + 1:=⟨p0 - 1,by omega⟩
 have HT : Hid (∀ W,Bw w W -> EsA W (.slice a xs.length c) xs):=fun W hb=>h.below hb
 have CP : Hid (∀ (W : World) (z : Int),Bw w W -> z = ((e + 1 : Nat) : Int) -> Calls Tryz.prog 103 #[.slice a xs.length c,.int .i64 z] W fun r w'=>∃ va cp,r = .returned (.slice va 1 cp) /\ Hid (w'.ownsRow W.heap.size 3 1 (.slice va 1 cp) 1 (inC [q0 + 1])) /\ Hid (Bw W w')):=fun W z hb hz=>by
  have:=v_eparts W (HT.out W hb) H.is he H.ar hz
  rw [hn2,hps] at this
  exact this.mono fun r w' ⟨va,cp,h1,h2,h3⟩=>⟨va,cp,h1,h2,h3⟩
 have D0 : Hid (∀ (W : World),Bw w W -> Calls Tryz.prog 104 #[.slice a xs.length c,.int .i64 ((q0 : Int) + 1),.int .i64 3] W fun r w'=>r = .returned (.string (brk 3 (pw (FE l) (q0 + 1)))) /\ Hid (Bw W w')):=fun W hb=>v_part (IHP q0 (by omega)) (by omega) (IH q0 (by omega)) W (HT.out W hb) 3 rfl
 obtain ⟨g,ta,tc,rfl,y0,y1,y2,y3,y4,y5,ti,htv⟩:=h.item he
 have hlen:=h.len
 have zn:=ti.nm
 have s0 : (brk 3 (pw (FE l) (q0 + 1))).size <= 100000002:=by have:=(brk_ge 3 (pw (FE l) (q0 + 1))).2;have:=H.sz (q0 + 1) (by omega);omega
 obtain ⟨r,hr⟩:=xe ((pw (FE l) (e + 1)).1)
 obtain ⟨T0,hT0⟩:=xe (brk 3 (pw (FE l) (q0 + 1)))
 have HR0 : r = ((T0 ++ (⟨#[46]⟩ : ByteArray)) ++ xs[e].1.nm):=by
  rw [hr,hp]
  show arnd _ _ (List.map (pw (FE l)) (pts _ 1 e)) = _
  rw [hps]
  simp only [List.map_cons,List.map_nil,arnd,<- hT0,em_app,ByteArray.append_assoc]
  rfl
 rw [<- hr]
 rw [<- hT0] at s0 D0
 obtain ⟨X,hX⟩:=xe (xs[e])
 rw [<- hX] at y0 y1 y2 y3 y4 y5 hop HR0 zn
 rw [hop] at y0
 have HR : Hid (r = ((T0 ++ (⟨#[46]⟩ : ByteArray)) ++ X.1.nm)):=HR0
 have we1 : IntKind.i64.wrap ((e : Int) + 1 - 1) = (e : Int):=wk (by omega)
 have we2 : IntKind.i64.wrap (e : Int) = (e : Int):=wk (by omega)
 have hel : (e : Int) < (xs.length : Int):=by omega
 have he0 : (0 : Int) <= (e : Int):=by omega
 clear h H hp hn2 hv2 hps hm0 hT0 IH IHP ti htv hr hX hf hop HT HR0
 have z0 : (⟨#[46]⟩ : ByteArray).size = 1:=rfl
 have c1:=rsa T0 (⟨#[46]⟩ : ByteArray) (by rw [z0];omega)
 have c2:=rsa (T0 ++ (⟨#[46]⟩ : ByteArray)) X.1.nm (by rw [bsa,z0];omega)
 go_enter Tryz.func66,Tryz.ntmps66
 go_wp2_with fail
 refine (CP.out _ _ (bel1 _ _) (by omega)).mono ?_
 rintro e2 w2 ⟨va,cp,rfl,HO,HB⟩
 have HB2 : Hid (Bw w w2):=(bel1 _ _).trans (HB.out.mono (by simp))
 obtain ⟨go,gc,ev,_⟩:=own_blk HO.out (by omega)
 simp only [Value.slice.injEq] at ev
 obtain ⟨rfl,-,rfl⟩:=ev
 have BX:=row6 w (.int .i64 5) (.int .i64 X.1.num) (.string X.1.md) (.string X.1.nm) (.slice X.2.np.a X.1.ns.length X.2.np.c) (.slice ta X.1.ty.length tc) 70
 have BX2:=BX.of_block (HB.out.block _ BX.lt)
 have t0 : w2.cell? ⟨w.heap.size,0,none⟩ = some (.int .i64 5):=BX2.cell (i:=0) (by omega)
 have HCC : Hid (∀ W : World,Bw w2 W -> W.cell? ⟨go,0,none⟩ = some (.int .i64 ((q0 : Int) + 1)) /\ W.cell? ⟨w.heap.size,3,none⟩ = some (.string X.1.nm)):=fun W hb=>by
  have k0 : w2.cell? ⟨go,0,none⟩ = some (.int .i64 ((q0 : Int) + 1)):=own_int (es:=[q0 + 1]) HO.out rfl (j:=0) (by simp)
  have BW:=BX2.of_block (hb.block _ BX2.lt)
  exact ⟨(hb.cell (p:=⟨go,0,none⟩) (blt k0)).trans k0,BW.cell (i:=3) (by omega)⟩
 have cs:=HCC.out w2 (Below.refl _ _)
 obtain ⟨k0,k1⟩:=cs
 clear BX BX2 HB HO
 have E0 : Hid (∀ W : World,Bw w2 W -> Calls Tryz.prog 104 #[.slice (some ⟨g,0,none⟩) xs.length c,.int .i64 ((q0 : Int) + 1),.int .i64 3] W fun r w'=>r = .returned (.string T0) /\ Hid (Bw w2 w')):=fun W hb=>(D0.out W (HB2.out.trans (hb.mono HB2.out.size))).mono fun r w' h=>⟨h.1,hb.trans (h.2.out.mono hb.size)⟩
 have E0':=E0.out w2.drew (Below.refl _ _).drew
 go_wp2
 go_region_held3 (fun w'=>w'.cell? ⟨go,0,none⟩ = some (.int .i64 ((q0 : Int) + 1)) /\ w'.cell? ⟨w.heap.size,3,none⟩ = some (.string X.1.nm)) (go_keep) (first
  | (go_at_call 104;(with_reducible refine E0'.mono ?_);rintro r0 u0 ⟨rfl,V0⟩;obtain ⟨m00,m01⟩:=HCC.out u0 V0.out))
 all_goals
  have HBL : Hid (Bw w u0):=HB2.out.trans (V0.out.mono HB2.out.size)
  go_wp2
  go_ret
  exact ⟨by rw [HR.out];rfl,by first | exact HBL.out | exact HBL.out.drew | exact below_drewN HBL.out _⟩
theorem v_printE_call {xs : List (EI × EPl)} {l : List EI} {a : Option Addr} {c e : Nat} (H : PEH xs l e) (he : e < xs.length) (hf : fE xs[e].1 = some ⟨3,[3,0],[e0,sL,sR]⟩) (hop : xs[e].1.op = 7) (IHP : ∀ q,q < e -> PEH xs l q) (IH : ∀ q,q < e -> PEC xs l a c q) : PEC xs l a c e:=by
 intro w z h hz
 subst hz
 have hp:=pw_atE (l:=l) (e:=e) (t:=xs[e].1) (by rw [<- H.is,List.getElem?_map,List.getElem?_eq_getElem he];rfl) hf H.vk
 have hn2 : (FE l e).needs.length = 2:=by
  obtain ⟨f,h1,h2⟩:=H.item he (nlr _)
  rw [hf] at h1
  cases h1
  rw [h2];rfl
 have hv2:=H.vk e (Nat.lt_succ_self _)
 dsimp only at hv2
 rw [hn2] at hv2
 obtain ⟨p0,p1,hps⟩:=two_of (pts_len (fun i=>(FE l i).needs.length) 2 e)
 have hm0:=pts_mem (H.vk.mono (Nat.le_succ _)) hv2 (p:=p0) (by rw [hps];simp)
 obtain ⟨q0,rfl⟩ : ∃ q,p0 = q + 1:=⟨p0 - 1,by omega⟩
 have hm1:=pts_mem (H.vk.mono (Nat.le_succ _)) hv2 (p:=p1) (by rw [hps];simp)
 obtain ⟨q1,rfl⟩ : ∃ q,p1 = q + 1:=⟨p1 - 1,by omega⟩
 have HT : Hid (∀ W,Bw w W -> EsA W (.slice a xs.length c) xs):=fun W hb=>h.below hb
 have CP : Hid (∀ (W : World) (z : Int),Bw w W -> z = ((e + 1 : Nat) : Int) -> Calls Tryz.prog 103 #[.slice a xs.length c,.int .i64 z] W fun r w'=>∃ va cp,r = .returned (.slice va 2 cp) /\ Hid (w'.ownsRow W.heap.size 3 1 (.slice va 2 cp) 2 (inC [q0 + 1,q1 + 1])) /\ Hid (Bw W w')):=fun W z hb hz=>by
  have:=v_eparts W (HT.out W hb) H.is he H.ar hz
  rw [hn2,hps] at this
  exact this.mono fun r w' ⟨va,cp,h1,h2,h3⟩=>⟨va,cp,h1,h2,h3⟩
 have D0 : Hid (∀ (W : World),Bw w W -> Calls Tryz.prog 104 #[.slice a xs.length c,.int .i64 ((q0 : Int) + 1),.int .i64 3] W fun r w'=>r = .returned (.string (brk 3 (pw (FE l) (q0 + 1)))) /\ Hid (Bw W w')):=fun W hb=>v_part (IHP q0 (by omega)) (by omega) (IH q0 (by omega)) W (HT.out W hb) 3 rfl
 have D1 : Hid (∀ (W : World),Bw w W -> Calls Tryz.prog 66 #[.slice a xs.length c,.int .i64 ((q1 : Int) + 1)] W fun r w'=>r = .returned (.string (brk 0 (pw (FE l) (q1 + 1)))) /\ Hid (Bw W w')):=fun W hb=>by
  rw [brk0]
  exact IH q1 (by omega) W _ (HT.out W hb) rfl
 obtain ⟨g,ta,tc,rfl,y0,y1,y2,y3,y4,y5,ti,htv⟩:=h.item he
 have hlen:=h.len
 have zn:=ti.nm
 have s0 : (brk 3 (pw (FE l) (q0 + 1))).size <= 100000002:=by have:=(brk_ge 3 (pw (FE l) (q0 + 1))).2;have:=H.sz (q0 + 1) (by omega);omega
 have s1 : (brk 0 (pw (FE l) (q1 + 1))).size <= 100000002:=by have:=(brk_ge 0 (pw (FE l) (q1 + 1))).2;have:=H.sz (q1 + 1) (by omega);omega
 obtain ⟨r,hr⟩:=xe ((pw (FE l) (e + 1)).1)
 obtain ⟨T0,hT0⟩:=xe (brk 3 (pw (FE l) (q0 + 1)))
 obtain ⟨T1,hT1⟩:=xe (brk 0 (pw (FE l) (q1 + 1)))
 have HR0 : r = (((T0 ++ (⟨#[40]⟩ : ByteArray)) ++ T1) ++ (⟨#[41]⟩ : ByteArray)):=by
  rw [hr,hp]
  show arnd _ _ (List.map (pw (FE l)) (pts _ 2 e)) = _
  rw [hps]
  simp only [List.map_cons,List.map_nil,arnd,<- hT0,<- hT1,em_app,ByteArray.append_assoc]
  rfl
 rw [<- hr]
 rw [<- hT0] at s0 D0
 rw [<- hT1] at s1 D1
 obtain ⟨X,hX⟩:=xe (xs[e])
 rw [<- hX] at y0 y1 y2 y3 y4 y5 hop zn
 rw [hop] at y0
 have HR : Hid (r = (((T0 ++ (⟨#[40]⟩ : ByteArray)) ++ T1) ++ (⟨#[41]⟩ : ByteArray))):=HR0
 have we1 : IntKind.i64.wrap ((e : Int) + 1 - 1) = (e : Int):=wk (by omega)
 have we2 : IntKind.i64.wrap (e : Int) = (e : Int):=wk (by omega)
 have hel : (e : Int) < (xs.length : Int):=by omega
 have he0 : (0 : Int) <= (e : Int):=by omega
 clear h H hp hn2 hv2 hps hm0 hT0 hm1 hT1 IH IHP ti htv hr hX hf hop HT HR0
 have z0 : (⟨#[40]⟩ : ByteArray).size = 1:=rfl
 have z1 : (⟨#[41]⟩ : ByteArray).size = 1:=rfl
 have c1:=rsa T0 (⟨#[40]⟩ : ByteArray) (by rw [z0];omega)
 have c2:=rsa (T0 ++ (⟨#[40]⟩ : ByteArray)) T1 (by rw [bsa,z0];omega)
 have c3:=rsa ((T0 ++ (⟨#[40]⟩ : ByteArray)) ++ T1) (⟨#[41]⟩ : ByteArray) (by rw [bsa,bsa,z0,z1];omega)
 go_enter Tryz.func66,Tryz.ntmps66
 go_wp2_with fail
 refine (CP.out _ _ (bel1 _ _) (by omega)).mono ?_
 rintro e2 w2 ⟨va,cp,rfl,HO,HB⟩
 have HB2 : Hid (Bw w w2):=(bel1 _ _).trans (HB.out.mono (by simp))
 obtain ⟨go,gc,ev,_⟩:=own_blk HO.out (by omega)
 simp only [Value.slice.injEq] at ev
 obtain ⟨rfl,-,rfl⟩:=ev
 have BX:=row6 w (.int .i64 7) (.int .i64 X.1.num) (.string X.1.md) (.string X.1.nm) (.slice X.2.np.a X.1.ns.length X.2.np.c) (.slice ta X.1.ty.length tc) 70
 have BX2:=BX.of_block (HB.out.block _ BX.lt)
 have t0 : w2.cell? ⟨w.heap.size,0,none⟩ = some (.int .i64 7):=BX2.cell (i:=0) (by omega)
 have HCC : Hid (∀ W : World,Bw w2 W -> W.cell? ⟨go,0,none⟩ = some (.int .i64 ((q0 : Int) + 1)) /\ W.cell? ⟨go,1,none⟩ = some (.int .i64 ((q1 : Int) + 1))):=fun W hb=>by
  have k0 : w2.cell? ⟨go,0,none⟩ = some (.int .i64 ((q0 : Int) + 1)):=own_int (es:=[q0 + 1,q1 + 1]) HO.out rfl (j:=0) (by simp)
  have k1 : w2.cell? ⟨go,1,none⟩ = some (.int .i64 ((q1 : Int) + 1)):=own_int (es:=[q0 + 1,q1 + 1]) HO.out rfl (j:=1) (by simp)
  have BW:=BX2.of_block (hb.block _ BX2.lt)
  exact ⟨(hb.cell (p:=⟨go,0,none⟩) (blt k0)).trans k0,(hb.cell (p:=⟨go,1,none⟩) (blt k1)).trans k1⟩
 have cs:=HCC.out w2 (Below.refl _ _)
 obtain ⟨k0,k1⟩:=cs
 clear BX BX2 HB HO
 have E0 : Hid (∀ W : World,Bw w2 W -> Calls Tryz.prog 104 #[.slice (some ⟨g,0,none⟩) xs.length c,.int .i64 ((q0 : Int) + 1),.int .i64 3] W fun r w'=>r = .returned (.string T0) /\ Hid (Bw w2 w')):=fun W hb=>(D0.out W (HB2.out.trans (hb.mono HB2.out.size))).mono fun r w' h=>⟨h.1,hb.trans (h.2.out.mono hb.size)⟩
 have E1 : Hid (∀ W : World,Bw w2 W -> Calls Tryz.prog 66 #[.slice (some ⟨g,0,none⟩) xs.length c,.int .i64 ((q1 : Int) + 1)] W fun r w'=>r = .returned (.string T1) /\ Hid (Bw w2 w')):=fun W hb=>(D1.out W (HB2.out.trans (hb.mono HB2.out.size))).mono fun r w' h=>⟨h.1,hb.trans (h.2.out.mono hb.size)⟩
 have E0':=E0.out w2.drew (Below.refl _ _).drew
 go_wp2
 go_region_held3 (fun w'=>w'.cell? ⟨go,0,none⟩ = some (.int .i64 ((q0 : Int) + 1)) /\ w'.cell? ⟨go,1,none⟩ = some (.int .i64 ((q1 : Int) + 1))) (go_keep) (first
  | (go_at_call 104;(with_reducible refine E0'.mono ?_);rintro r0 u0 ⟨rfl,V0⟩;obtain ⟨m00,m01⟩:=HCC.out u0 V0.out)
  | (go_at_call 66;(with_reducible refine (E1.out u0 V0.out).mono ?_);rintro r1 u1 ⟨rfl,V1⟩;obtain ⟨m10,m11⟩:=HCC.out u1 V1.out))
 all_goals
  have HBL : Hid (Bw w u1):=HB2.out.trans (V1.out.mono HB2.out.size)
  go_wp2
  go_ret
  exact ⟨by rw [HR.out];rfl,by first | exact HBL.out | exact HBL.out.drew | exact below_drewN HBL.out _⟩
end Go.Proofs.YtcehppndpccldaaGreatDoor
