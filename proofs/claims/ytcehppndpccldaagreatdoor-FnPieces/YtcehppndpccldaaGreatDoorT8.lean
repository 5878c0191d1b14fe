/-
  VcG VcH
-/
import Derived.Test.YtcehppndpccldaaGreatDoorT7
set_option maxHeartbeats 4000000
set_option maxRecDepth 100000
namespace Go.Proofs.YtcehppndpccldaaGreatDoor
open Go.RowKit
theorem v_printE_fun {xs : List (EI × EPl)} {l : List EI} {a : Option Addr} {c e : Nat} (H : PEH xs l e) (he : e < xs.length) (hf : fE xs[e].1 = some ⟨0,[0],[xFun ++ xs[e].1.nm ++ xCs ++ prT xs[e].1.ty ++ xFn2,e0]⟩) (hop : xs[e].1.op = 6) (hok : okT xs[e].1.ty = true) (_IHP : ∀ q,q < e -> PEH xs l q) (IH : ∀ q,q < e -> PEC xs l a c q) : PEC xs l a c e:=by
 intro w z h hz
 subst hz
 have hp:=pw_atE (l:=l) (e:=e) (t:=xs[e].1) (by rw [<- H.is,List.getElem?_map,List.getElem?_eq_getElem he];rfl) hf H.vk
 have hn2 : (FE l e).needs.length = 1:=by
  obtain ⟨f,h1,h2⟩:=H.item he (nlr _)
  rw [hf] at h1
  cases h1
  rw [h2];rfl
 have hv2:=H.vk e (Nat.lt_succ_self _)
 dsimp only at hv2
 rw [hn2] at hv2
 obtain ⟨p0,hps⟩:=one_of (pts_len (fun i=>(FE l i).needs.length) 1 e)
 have hm0:=pts_mem (H.vk.mono (Nat.le_succ _)) hv2 (p:=p0) (by rw [hps];simp)
 obtain ⟨q0,rfl⟩ : ∃ q,p0 = q + 1:=⟨p0 - 1,by omega⟩
 have HT : Hid (∀ W,Bw w W -> EsA W (.slice a xs.length c) xs):=fun W hb=>h.below hb
 have CP : Hid (∀ (W : World) (z : Int),Bw w W -> z = ((e + 1 : Nat) : Int) -> Calls Tryz.prog 103 #[.slice a xs.length c,.int .i64 z] W fun r w'=>∃ va cp,r = .returned (.slice va 1 cp) /\ Hid (w'.ownsRow W.heap.size 3 1 (.slice va 1 cp) 1 (inC [q0 + 1])) /\ Hid (Bw W w')):=fun W z hb hz=>by
  have:=v_eparts W (HT.out W hb) H.is he H.ar hz
  rw [hn2,hps] at this
  exact this.mono fun r w' ⟨va,cp,h1,h2,h3⟩=>⟨va,cp,h1,h2,h3⟩
 have D1 : Hid (∀ (W : World),Bw w W -> Calls Tryz.prog 66 #[.slice a xs.length c,.int .i64 ((q0 : Int) + 1)] W fun r w'=>r = .returned (.string (brk 0 (pw (FE l) (q0 + 1)))) /\ Hid (Bw W w')):=fun W hb=>by
  rw [brk0]
  exact IH q0 (by omega) W _ (HT.out W hb) rfl
 obtain ⟨g,ta,tc,rfl,y0,y1,y2,y3,y4,y5,ti,htv⟩:=h.item he
 have htl : 0 < xs[e].1.ty.length:=by
  cases hz : xs[e].1.ty with
  | nil=>rw [hz] at hok;cases hok
  | cons x y=>simp
 have D0 : Hid (∀ (W : World),Bw w W -> Calls Tryz.prog 65 #[.slice ta xs[e].1.ty.length tc,.int .i64 (xs[e].1.ty.length : Int)] W fun r w'=>r = .returned (.string (prT xs[e].1.ty)) /\ Hid (Bw W w')):=fun W hb=>by
  obtain ⟨m,hm⟩ : ∃ m,xs[e].1.ty.length = m + 1:=⟨xs[e].1.ty.length - 1,by omega⟩
  have zl : xs[e].2.zs.length = xs[e].1.ty.length:=by rw [<- ti.is,List.length_map]
  have hvl : vld (aT xs[e].1.ty) xs[e].1.ty.length = some 1:=by unfold okT at hok;exact beq_iff_eq.1 hok
  obtain ⟨k1,_,k3⟩:=vld_en (a:=fun i=>(FT xs[e].1.ty i).needs.length) (fun j n _ hj=>aT_F hj) hvl
  have ts:=ti.ty.below hb
  rw [htv,<- zl] at ts
  have:=v_printT (xs:=xs[e].2.zs) (l:=xs[e].1.ty) (a:=ta) (c:=tc) m ⟨ti.is,fun j hj=>k3 j (by omega),k1.mono (by omega),fun k hk=>H.tsz _ (List.getElem_mem he) k (by omega)⟩ (by omega) W (xs[e].1.ty.length : Int) ts (by omega)
  rw [zl] at this
  unfold prT
  rw [hm] at this ⊢
  exact this
 have szT:=H.tsz _ (List.getElem_mem he) _ (nlr _)
 have zlt:=ti.ty.len
 have hlen:=h.len
 have zn:=ti.nm
 have s0 : (brk 0 (pw (FE l) (q0 + 1))).size <= 100000002:=by have:=(brk_ge 0 (pw (FE l) (q0 + 1))).2;have:=H.sz (q0 + 1) (by omega);omega
 obtain ⟨r,hr⟩:=xe ((pw (FE l) (e + 1)).1)
 obtain ⟨T0,hT0⟩:=xe (brk 0 (pw (FE l) (q0 + 1)))
 have HR0 : r = ((((((⟨#[102,117,110,40]⟩ : ByteArray) ++ xs[e].1.nm) ++ (⟨#[58,32]⟩ : ByteArray)) ++ prT xs[e].1.ty) ++ (⟨#[41,32]⟩ : ByteArray)) ++ T0):=by
  rw [hr,hp]
  show arnd _ _ (List.map (pw (FE l)) (pts _ 1 e)) = _
  rw [hps]
  simp only [List.map_cons,List.map_nil,arnd,<- hT0,app_em,ByteArray.append_assoc]
  rfl
 rw [<- hr]
 rw [<- hT0] at s0 D1
 obtain ⟨X,hX⟩:=xe (xs[e])
 rw [<- hX] at y0 y1 y2 y3 y4 y5 hop HR0 zn D0 szT zlt htl
 rw [hop] at y0
 obtain ⟨TY,hTY⟩:=xe (prT X.1.ty)
 have sTY : TY.size <= 100000000:=by rw [hTY];exact szT
 rw [<- hTY] at D0 HR0
 obtain ⟨tm,htm⟩:=xe (X.1.ty.length)
 rw [<- htm] at D0 y5
 clear hTY htm szT
 have HR : Hid (r = ((((((⟨#[102,117,110,40]⟩ : ByteArray) ++ X.1.nm) ++ (⟨#[58,32]⟩ : ByteArray)) ++ TY) ++ (⟨#[41,32]⟩ : ByteArray)) ++ T0)):=HR0
 have we1 : IntKind.i64.wrap ((e : Int) + 1 - 1) = (e : Int):=wk (by omega)
 have we2 : IntKind.i64.wrap (e : Int) = (e : Int):=wk (by omega)
 have hel : (e : Int) < (xs.length : Int):=by omega
 have he0 : (0 : Int) <= (e : Int):=by omega
 clear h H hp hn2 hv2 hps hm0 hT0 IH _IHP ti htv hr hX hf hop HT HR0 hok
 have z0 : (⟨#[102,117,110,40]⟩ : ByteArray).size = 4:=rfl
 have z1 : (⟨#[58,32]⟩ : ByteArray).size = 2:=rfl
 have z2 : (⟨#[41,32]⟩ : ByteArray).size = 2:=rfl
 have c1:=rsa (⟨#[102,117,110,40]⟩ : ByteArray) X.1.nm (by rw [z0];omega)
 have c2:=rsa ((⟨#[102,117,110,40]⟩ : ByteArray) ++ X.1.nm) (⟨#[58,32]⟩ : ByteArray) (by rw [bsa,z0,z1];omega)
 have c3:=rsa (((⟨#[102,117,110,40]⟩ : ByteArray) ++ X.1.nm) ++ (⟨#[58,32]⟩ : ByteArray)) TY (by rw [bsa,bsa,z0,z1];omega)
 have c4:=rsa ((((⟨#[102,117,110,40]⟩ : ByteArray) ++ X.1.nm) ++ (⟨#[58,32]⟩ : ByteArray)) ++ TY) (⟨#[41,32]⟩ : ByteArray) (by rw [bsa,bsa,bsa,z0,z1,z2];omega)
 have c5:=rsa (((((⟨#[102,117,110,40]⟩ : ByteArray) ++ X.1.nm) ++ (⟨#[58,32]⟩ : ByteArray)) ++ TY) ++ (⟨#[41,32]⟩ : ByteArray)) T0 (by rw [bsa,bsa,bsa,bsa,z0,z1,z2];omega)
 go_enter Tryz.func66,Tryz.ntmps66
 go_wp2_with fail
 refine (CP.out _ _ (bel1 _ _) (by omega)).mono ?_
 rintro e2 w2 ⟨va,cp,rfl,HO,HB⟩
 have HB2 : Hid (Bw w w2):=(bel1 _ _).trans (HB.out.mono (by simp))
 obtain ⟨go,gc,ev,_⟩:=own_blk HO.out (by omega)
 simp only [Value.slice.injEq] at ev
 obtain ⟨rfl,-,rfl⟩:=ev
 have BX:=row6 w (.int .i64 6) (.int .i64 X.1.num) (.string X.1.md) (.string X.1.nm) (.slice X.2.np.a X.1.ns.length X.2.np.c) (.slice ta tm tc) 70
 have BX2:=BX.of_block (HB.out.block _ BX.lt)
 have t0 : w2.cell? ⟨w.heap.size,0,none⟩ = some (.int .i64 6):=BX2.cell (i:=0) (by omega)
 have HCC : Hid (∀ W : World,Bw w2 W -> W.cell? ⟨go,0,none⟩ = some (.int .i64 ((q0 : Int) + 1)) /\ W.cell? ⟨w.heap.size,3,none⟩ = some (.string X.1.nm) /\ W.cell? ⟨w.heap.size,5,none⟩ = some (.slice ta tm tc)):=fun W hb=>by
  have k0 : w2.cell? ⟨go,0,none⟩ = some (.int .i64 ((q0 : Int) + 1)):=own_int (es:=[q0 + 1]) HO.out rfl (j:=0) (by simp)
  have BW:=BX2.of_block (hb.block _ BX2.lt)
  exact ⟨(hb.cell (p:=⟨go,0,none⟩) (blt k0)).trans k0,BW.cell (i:=3) (by omega),BW.cell (i:=5) (by omega)⟩
 have cs:=HCC.out w2 (Below.refl _ _)
 obtain ⟨k0,k1,k2⟩:=cs
 clear BX BX2 HB HO
 have E0 : Hid (∀ W : World,Bw w2 W -> Calls Tryz.prog 65 #[.slice ta tm tc,.int .i64 (tm : Int)] W fun r w'=>r = .returned (.string TY) /\ Hid (Bw w2 w')):=fun W hb=>(D0.out W (HB2.out.trans (hb.mono HB2.out.size))).mono fun r w' h=>⟨h.1,hb.trans (h.2.out.mono hb.size)⟩
 have E1 : Hid (∀ W : World,Bw w2 W -> Calls Tryz.prog 66 #[.slice (some ⟨g,0,none⟩) xs.length c,.int .i64 ((q0 : Int) + 1)] W fun r w'=>r = .returned (.string T0) /\ Hid (Bw w2 w')):=fun W hb=>(D1.out W (HB2.out.trans (hb.mono HB2.out.size))).mono fun r w' h=>⟨h.1,hb.trans (h.2.out.mono hb.size)⟩
 have E0':=E0.out w2.drew (Below.refl _ _).drew
 go_wp2
 go_region_held3 (fun w'=>w'.cell? ⟨go,0,none⟩ = some (.int .i64 ((q0 : Int) + 1)) /\ w'.cell? ⟨w.heap.size,3,none⟩ = some (.string X.1.nm) /\ w'.cell? ⟨w.heap.size,5,none⟩ = some (.slice ta tm tc)) (go_keep) (first
  | (go_at_call 65;(with_reducible refine E0'.mono ?_);rintro r0 u0 ⟨rfl,V0⟩;obtain ⟨m00,m01,m02⟩:=HCC.out u0 V0.out)
  | (go_at_call 66;(with_reducible refine (E1.out u0 V0.out).mono ?_);rintro r1 u1 ⟨rfl,V1⟩;obtain ⟨m10,m11,m12⟩:=HCC.out u1 V1.out))
 all_goals
  have HBL : Hid (Bw w u1):=HB2.out.trans (V1.out.mono HB2.out.size)
  go_wp2
  go_ret
  exact ⟨by rw [HR.out];rfl,by first | exact HBL.out | exact HBL.out.drew | exact below_drewN HBL.out _⟩
theorem v_printE_if {xs : List (EI × EPl)} {l : List EI} {a : Option Addr} {c e : Nat} (H : PEH xs l e) (he : e < xs.length) (hf : fE xs[e].1 = some ⟨0,[0,0,0],[xIf,xThen,xElse,e0]⟩) (hop : xs[e].1.op = 8) (_IHP : ∀ q,q < e -> PEH xs l q) (IH : ∀ q,q < e -> PEC xs l a c q) : PEC xs l a c e:=by
 intro w z h hz
 subst hz
 have hp:=pw_atE (l:=l) (e:=e) (t:=xs[e].1) (by rw [<- H.is,List.getElem?_map,List.getElem?_eq_getElem he];rfl) hf H.vk
 have hn2 : (FE l e).needs.length = 3:=by
  obtain ⟨f,h1,h2⟩:=H.item he (nlr _)
  rw [hf] at h1
  cases h1
  rw [h2];rfl
 have hv2:=H.vk e (Nat.lt_succ_self _)
 dsimp only at hv2
 rw [hn2] at hv2
 obtain ⟨p0,p1,p2,hps⟩:=three_of (pts_len (fun i=>(FE l i).needs.length) 3 e)
 have hm0:=pts_mem (H.vk.mono (Nat.le_succ _)) hv2 (p:=p0) (by rw [hps];simp)
 obtain ⟨q0,rfl⟩ : ∃ q,p0 = q + 1:=⟨p0 - 1,by omega⟩
 have hm1:=pts_mem (H.vk.mono (Nat.le_succ _)) hv2 (p:=p1) (by rw [hps];simp)
 obtain ⟨q1,rfl⟩ : ∃ q,p1 = q + 1:=⟨p1 - 1,by omega⟩
 have hm2:=pts_mem (H.vk.mono (Nat.le_succ _)) hv2 (p:=p2) (by rw [hps];simp)
 obtain ⟨q2,rfl⟩ : ∃ q,p2 = q + 1:=⟨p2 - 1,by omega⟩
 have HT : Hid (∀ W,Bw w W -> EsA W (.slice a xs.length c) xs):=fun W hb=>h.below hb
 have CP : Hid (∀ (W : World) (z : Int),Bw w W -> z = ((e + 1 : Nat) : Int) -> Calls Tryz.prog 103 #[.slice a xs.length c,.int .i64 z] W fun r w'=>∃ va cp,r = .returned (.slice va 3 cp) /\ Hid (w'.ownsRow W.heap.size 3 1 (.slice va 3 cp) 3 (inC [q0 + 1,q1 + 1,q2 + 1])) /\ Hid (Bw W w')):=fun W z hb hz=>by
  have:=v_eparts W (HT.out W hb) H.is he H.ar hz
  rw [hn2,hps] at this
  exact this.mono fun r w' ⟨va,cp,h1,h2,h3⟩=>⟨va,cp,h1,h2,h3⟩
 have D0 : Hid (∀ (W : World),Bw w W -> Calls Tryz.prog 66 #[.slice a xs.length c,.int .i64 ((q0 : Int) + 1)] W fun r w'=>r = .returned (.string (brk 0 (pw (FE l) (q0 + 1)))) /\ Hid (Bw W w')):=fun W hb=>by
  rw [brk0]
  exact IH q0 (by omega) W _ (HT.out W hb) rfl
 have D1 : Hid (∀ (W : World),Bw w W -> Calls Tryz.prog 66 #[.slice a xs.length c,.int .i64 ((q1 : Int) + 1)] W fun r w'=>r = .returned (.string (brk 0 (pw (FE l) (q1 + 1)))) /\ Hid (Bw W w')):=fun W hb=>by
  rw [brk0]
  exact IH q1 (by omega) W _ (HT.out W hb) rfl
 have D2 : Hid (∀ (W : World),Bw w W -> Calls Tryz.prog 66 #[.slice a xs.length c,.int .i64 ((q2 : Int) + 1)] W fun r w'=>r = .returned (.string (brk 0 (pw (FE l) (q2 + 1)))) /\ Hid (Bw W w')):=fun W hb=>by
  rw [brk0]
  exact IH q2 (by omega) W _ (HT.out W hb) rfl
 obtain ⟨g,ta,tc,rfl,y0,y1,y2,y3,y4,y5,ti,htv⟩:=h.item he
 have hlen:=h.len
 have zn:=ti.nm
 have s0 : (brk 0 (pw (FE l) (q0 + 1))).size <= 100000002:=by have:=(brk_ge 0 (pw (FE l) (q0 + 1))).2;have:=H.sz (q0 + 1) (by omega);omega
 have s1 : (brk 0 (pw (FE l) (q1 + 1))).size <= 100000002:=by have:=(brk_ge 0 (pw (FE l) (q1 + 1))).2;have:=H.sz (q1 + 1) (by omega);omega
 have s2 : (brk 0 (pw (FE l) (q2 + 1))).size <= 100000002:=by have:=(brk_ge 0 (pw (FE l) (q2 + 1))).2;have:=H.sz (q2 + 1) (by omega);omega
 obtain ⟨r,hr⟩:=xe ((pw (FE l) (e + 1)).1)
 obtain ⟨T0,hT0⟩:=xe (brk 0 (pw (FE l) (q0 + 1)))
 obtain ⟨T1,hT1⟩:=xe (brk 0 (pw (FE l) (q1 + 1)))
 obtain ⟨T2,hT2⟩:=xe (brk 0 (pw (FE l) (q2 + 1)))
 have HR0 : r = ((((((⟨#[105,102,32]⟩ : ByteArray) ++ T0) ++ (⟨#[32,116,104,101,110,32]⟩ : ByteArray)) ++ T1) ++ (⟨#[32,101,108,115,101,32]⟩ : ByteArray)) ++ T2):=by
  rw [hr,hp]
  show arnd _ _ (List.map (pw (FE l)) (pts _ 3 e)) = _
  rw [hps]
  simp only [List.map_cons,List.map_nil,arnd,<- hT0,<- hT1,<- hT2,app_em,ByteArray.append_assoc]
  rfl
 rw [<- hr]
 rw [<- hT0] at s0 D0
 rw [<- hT1] at s1 D1
 rw [<- hT2] at s2 D2
 obtain ⟨X,hX⟩:=xe (xs[e])
 rw [<- hX] at y0 y1 y2 y3 y4 y5 hop zn
 rw [hop] at y0
 have HR : Hid (r = ((((((⟨#[105,102,32]⟩ : ByteArray) ++ T0) ++ (⟨#[32,116,104,101,110,32]⟩ : ByteArray)) ++ T1) ++ (⟨#[32,101,108,115,101,32]⟩ : ByteArray)) ++ T2)):=HR0
 have we1 : IntKind.i64.wrap ((e : Int) + 1 - 1) = (e : Int):=wk (by omega)
 have we2 : IntKind.i64.wrap (e : Int) = (e : Int):=wk (by omega)
 have hel : (e : Int) < (xs.length : Int):=by omega
 have he0 : (0 : Int) <= (e : Int):=by omega
 clear h H hp hn2 hv2 hps hm0 hT0 hm1 hT1 hm2 hT2 IH _IHP ti htv hr hX hf hop HT HR0
 have z0 : (⟨#[105,102,32]⟩ : ByteArray).size = 3:=rfl
 have z1 : (⟨#[32,116,104,101,110,32]⟩ : ByteArray).size = 6:=rfl
 have z2 : (⟨#[32,101,108,115,101,32]⟩ : ByteArray).size = 6:=rfl
 have c1:=rsa (⟨#[105,102,32]⟩ : ByteArray) T0 (by rw [z0];omega)
 have c2:=rsa ((⟨#[105,102,32]⟩ : ByteArray) ++ T0) (⟨#[32,116,104,101,110,32]⟩ : ByteArray) (by rw [bsa,z0,z1];omega)
 have c3:=rsa (((⟨#[105,102,32]⟩ : ByteArray) ++ T0) ++ (⟨#[32,116,104,101,110,32]⟩ : ByteArray)) T1 (by rw [bsa,bsa,z0,z1];omega)
 have c4:=rsa ((((⟨#[105,102,32]⟩ : ByteArray) ++ T0) ++ (⟨#[32,116,104,101,110,32]⟩ : ByteArray)) ++ T1) (⟨#[32,101,108,115,101,32]⟩ : ByteArray) (by rw [bsa,bsa,bsa,z0,z1,z2];omega)
 have c5:=rsa (((((⟨#[105,102,32]⟩ : ByteArray) ++ T0) ++ (⟨#[32,116,104,101,110,32]⟩ : ByteArray)) ++ T1) ++ (⟨#[32,101,108,115,101,32]⟩ : ByteArray)) T2 (by rw [bsa,bsa,bsa,bsa,z0,z1,z2];omega)
 go_enter Tryz.func66,Tryz.ntmps66
 go_wp2_with fail
 refine (CP.out _ _ (bel1 _ _) (by omega)).mono ?_
 rintro e2 w2 ⟨va,cp,rfl,HO,HB⟩
 have HB2 : Hid (Bw w w2):=(bel1 _ _).trans (HB.out.mono (by simp))
 obtain ⟨go,gc,ev,_⟩:=own_blk HO.out (by omega)
 simp only [Value.slice.injEq] at ev
 obtain ⟨rfl,-,rfl⟩:=ev
 have BX:=row6 w (.int .i64 8) (.int .i64 X.1.num) (.string X.1.md) (.string X.1.nm) (.slice X.2.np.a X.1.ns.length X.2.np.c) (.slice ta X.1.ty.length tc) 70
 have BX2:=BX.of_block (HB.out.block _ BX.lt)
 have t0 : w2.cell? ⟨w.heap.size,0,none⟩ = some (.int .i64 8):=BX2.cell (i:=0) (by omega)
 have HCC : Hid (∀ W : World,Bw w2 W -> W.cell? ⟨go,0,none⟩ = some (.int .i64 ((q0 : Int) + 1)) /\ W.cell? ⟨go,1,none⟩ = some (.int .i64 ((q1 : Int) + 1)) /\ W.cell? ⟨go,2,none⟩ = some (.int .i64 ((q2 : Int) + 1))):=fun W hb=>by
  have k0 : w2.cell? ⟨go,0,none⟩ = some (.int .i64 ((q0 : Int) + 1)):=own_int (es:=[q0 + 1,q1 + 1,q2 + 1]) HO.out rfl (j:=0) (by simp)
  have k1 : w2.cell? ⟨go,1,none⟩ = some (.int .i64 ((q1 : Int) + 1)):=own_int (es:=[q0 + 1,q1 + 1,q2 + 1]) HO.out rfl (j:=1) (by simp)
  have k2 : w2.cell? ⟨go,2,none⟩ = some (.int .i64 ((q2 : Int) + 1)):=own_int (es:=[q0 + 1,q1 + 1,q2 + 1]) HO.out rfl (j:=2) (by simp)
  have BW:=BX2.of_block (hb.block _ BX2.lt)
  exact ⟨(hb.cell (p:=⟨go,0,none⟩) (blt k0)).trans k0,(hb.cell (p:=⟨go,1,none⟩) (blt k1)).trans k1,(hb.cell (p:=⟨go,2,none⟩) (blt k2)).trans k2⟩
 have cs:=HCC.out w2 (Below.refl _ _)
 obtain ⟨k0,k1,k2⟩:=cs
 clear BX BX2 HB HO
 have E0 : Hid (∀ W : World,Bw w2 W -> Calls Tryz.prog 66 #[.slice (some ⟨g,0,none⟩) xs.length c,.int .i64 ((q0 : Int) + 1)] W fun r w'=>r = .returned (.string T0) /\ Hid (Bw w2 w')):=fun W hb=>(D0.out W (HB2.out.trans (hb.mono HB2.out.size))).mono fun r w' h=>⟨h.1,hb.trans (h.2.out.mono hb.size)⟩
 have E1 : Hid (∀ W : World,Bw w2 W -> Calls Tryz.prog 66 #[.slice (some ⟨g,0,none⟩) xs.length c,.int .i64 ((q1 : Int) + 1)] W fun r w'=>r = .returned (.string T1) /\ Hid (Bw w2 w')):=fun W hb=>(D1.out W (HB2.out.trans (hb.mono HB2.out.size))).mono fun r w' h=>⟨h.1,hb.trans (h.2.out.mono hb.size)⟩
 have E2 : Hid (∀ W : World,Bw w2 W -> Calls Tryz.prog 66 #[.slice (some ⟨g,0,none⟩) xs.length c,.int .i64 ((q2 : Int) + 1)] W fun r w'=>r = .returned (.string T2) /\ Hid (Bw w2 w')):=fun W hb=>(D2.out W (HB2.out.trans (hb.mono HB2.out.size))).mono fun r w' h=>⟨h.1,hb.trans (h.2.out.mono hb.size)⟩
 have E0':=E0.out w2.drew (Below.refl _ _).drew
 go_wp2
 go_region_held3 (fun w'=>w'.cell? ⟨go,0,none⟩ = some (.int .i64 ((q0 : Int) + 1)) /\ w'.cell? ⟨go,1,none⟩ = some (.int .i64 ((q1 : Int) + 1)) /\ w'.cell? ⟨go,2,none⟩ = some (.int .i64 ((q2 : Int) + 1))) (go_keep) (first
  | (go_at_call 66;(with_reducible refine E0'.mono ?_);rintro r0 u0 ⟨rfl,V0⟩;obtain ⟨m00,m01,m02⟩:=HCC.out u0 V0.out)
  | (go_at_call 66;(with_reducible refine (E1.out u0 V0.out).mono ?_);rintro r1 u1 ⟨rfl,V1⟩;obtain ⟨m10,m11,m12⟩:=HCC.out u1 V1.out)
  | (go_at_call 66;(with_reducible refine (E2.out u1 V1.out).mono ?_);rintro r2 u2 ⟨rfl,V2⟩;obtain ⟨m20,m21,m22⟩:=HCC.out u2 V2.out))
 all_goals
  have HBL : Hid (Bw w u2):=HB2.out.trans (V2.out.mono HB2.out.size)
  go_wp2
  go_ret
  exact ⟨by rw [HR.out];rfl,by first | exact HBL.out | exact HBL.out.drew | exact below_drewN HBL.out _⟩
theorem v_printE_rec {xs : List (EI × EPl)} {l : List EI} {a : Option Addr} {c e : Nat} (H : PEH xs l e) (he : e < xs.length) (hf : fE xs[e].1 = some (brc xs[e].1.ns xEs 4)) (hop : xs[e].1.op = 4) (IH : ∀ q,q < e -> PEC xs l a c q) : PEC xs l a c e:=by
 intro w z h hz
 subst hz
 have hp:=pw_atE (l:=l) (e:=e) (t:=xs[e].1) (by rw [<- H.is,List.getElem?_map,List.getElem?_eq_getElem he];rfl) hf H.vk
 have hnn : (FE l e).needs.length = xs[e].1.ns.length:=by
  obtain ⟨f,h1,h2⟩:=H.item he (nlr _)
  rw [hf] at h1
  cases h1
  rw [h2];exact (brc_ok _ _ _).2.1
 have hvn:=H.vk e (Nat.lt_succ_self _)
 dsimp only at hvn
 rw [hnn] at hvn
 have HT : Hid (∀ W,Bw w W -> EsA W (.slice a xs.length c) xs):=fun W hb=>h.below hb
 obtain ⟨pl,hpl⟩:=xe (pts (fun i=>(FE l i).needs.length) xs[e].1.ns.length e)
 have hplen : pl.length = xs[e].1.ns.length:=by rw [hpl];exact pts_len _ _ _
 have CP : Hid (∀ (W : World) (z : Int),Bw w W -> z = ((e + 1 : Nat) : Int) -> Calls Tryz.prog 103 #[.slice a xs.length c,.int .i64 z] W fun r w'=>∃ va cp,r = .returned (.slice va xs[e].1.ns.length cp) /\ Hid (w'.ownsRow W.heap.size 3 1 (.slice va xs[e].1.ns.length cp) xs[e].1.ns.length (inC pl)) /\ Hid (Bw W w')):=fun W z hb hz=>by
  have:=v_eparts W (HT.out W hb) H.is he H.ar hz
  rw [hnn,<- hpl] at this
  exact this.mono fun r w' ⟨va,cp,h1,h2,h3⟩=>⟨va,cp,h1,h2,h3⟩
 have CQ : Hid (∀ (W : World) (z : Int) (k : Nat) (hk : k < pl.length),Bw w W -> z = (pl[k] : Int) -> Calls Tryz.prog 66 #[.slice a xs.length c,.int .i64 z] W fun r w'=>r = .returned (.string (pw (FE l) pl[k]).1) /\ Hid (Bw W w')):=fun W z k hk hb hz=>by
  have hm:=pts_mem (H.vk.mono (Nat.le_succ _)) hvn (p:=pl[k]) (by rw [<- hpl];exact List.getElem_mem hk)
  have:=IH (pl[k] - 1) (by omega) W z (HT.out W hb) (by omega)
  rw [show pl[k] - 1 + 1 = pl[k] by omega] at this
  exact this
 have HPS : Hid (∀ k (hk : k < pl.length),(pw (FE l) pl[k]).1.size <= 100000000 /\ pl[k] <= 1048576):=fun k hk=>by
  have hm:=pts_mem (H.vk.mono (Nat.le_succ _)) hvn (p:=pl[k]) (by rw [<- hpl];exact List.getElem_mem hk)
  exact ⟨H.sz _ (by omega),by have:=h.len;omega⟩
 obtain ⟨g,ta,tc,rfl,y0,y1,y2,y3,y4,y5,ti,htv⟩:=h.item he
 have hlen:=h.len
 have HNS : Hid (∀ W,Bw w W -> NsA W xs[e].2.np xs[e].1.ns):=fun W hb=>ti.ns.below hb
 have HNZ : Hid (∀ k,k < xs[e].1.ns.length -> (xs[e].1.ns.getD k e0).size <= 1048576):=ti.sz
 have hnl:=ti.len
 have szR:=H.sz (e + 1) (nlr _)
 obtain ⟨r,hr⟩:=xe ((pw (FE l) (e + 1)).1)
 obtain ⟨X,hX⟩:=xe (xs[e])
 rw [<- hX] at y0 y1 y2 y3 y4 y5 hop hplen CP HNS HNZ hnl
 obtain ⟨ns,hns⟩:=xe (X.1.ns)
 rw [<- hns] at y4 hplen CP HNS HNZ hnl
 obtain ⟨P,hP⟩ : ∃ P : Nat -> ByteArray,P = fun i=>(((pl.map (pw (FE l))).getD i (e0,0)).1):=⟨_,rfl⟩
 have HPk : Hid (∀ k (hk : k < pl.length),P k = (pw (FE l) pl[k]).1):=fun k hk=>by
  rw [hP]
  show ((pl.map (pw (FE l))).getD k (e0,0)).1 = _
  rw [List.getD_eq_getElem?_getD,List.getElem?_map,List.getElem?_eq_getElem hk];rfl
 have harn : (pw (FE l) (e + 1)).1 = arnd (brc ns xEs 4).needs (brc ns xEs 4).texts (pl.map (pw (FE l))):=by
  rw [hp,hpl,<- hX,<- hns]
  show arnd _ _ (List.map (pw (FE l)) (pts _ (brc ns xEs 4).needs.length e)) = _
  rw [(brc_ok _ _ _).2.1]
 have HR : Hid (r = recL xEs ns P ns.length ++ xC):=by
  show _ = _
  rw [hr,harn,rec_all 4 (by rw [List.length_map];exact hplen),hP]
 have HRS : Hid (∀ i,i <= ns.length -> (recL xEs ns P i).size <= 100000000):=fun i hi=>by
  have:=rec_size (sign:=xEs) (ns:=ns) (ps:=pl.map (pw (FE l))) 4 (by rw [List.length_map];exact hplen) hi
  rw [<- harn] at this
  rw [hP]
  omega
 rw [<- hr]
 rw [hop] at y0
 obtain ⟨n,hn⟩:=xe (ns.length)
 have HN : Hid (ns.length = n):=hn.symm
 rw [<- hn] at y4 hplen CP HNZ hnl HR HRS
 have we1 : IntKind.i64.wrap ((e : Int) + 1 - 1) = (e : Int):=wk (by omega)
 have we2 : IntKind.i64.wrap (e : Int) = (e : Int):=wk (by omega)
 have hel : (e : Int) < (xs.length : Int):=by omega
 have he0 : (0 : Int) <= (e : Int):=by omega
 have HPL : Hid (pl.length = n):=hplen
 clear h H hp hnn hvn hpl IH ti htv hr hX hns hf hop HT harn hP szR hn hplen
 go_enter Tryz.func66,Tryz.ntmps66
 go_wp2_with fail
 refine (CP.out _ _ (bel1 _ _) (by omega)).mono ?_
 rintro e2 w2 ⟨va,cp,rfl,HO,HB⟩
 have HB2 : Hid (Bw w w2):=(bel1 _ _).trans (HB.out.mono (by simp))
 have BX:=row6 w (.int .i64 4) (.int .i64 X.1.num) (.string X.1.md) (.string X.1.nm) (.slice X.2.np.a n X.2.np.c) (.slice ta X.1.ty.length tc) 70
 have BX2:=BX.of_block (HB.out.block _ BX.lt)
 have t0 : w2.cell? ⟨w.heap.size,0,none⟩ = some (.int .i64 4):=BX2.cell (i:=0) (by omega)
 have HX2 : Hid (∀ W,Bw w2 W -> W.cell? ⟨w.heap.size,4,none⟩ = some (.slice X.2.np.a n X.2.np.c)):=fun W hb=>(BX2.of_block (hb.block _ BX2.lt)).cell (i:=4) (by omega)
 have HO2 : Hid (∀ W,Bw w2 W -> ∀ k (hk : k < pl.length),∃ go,va = some ⟨go,0,none⟩ /\ W.cell? ⟨go,k,none⟩ = some (.int .i64 (pl[k] : Int))):=fun W hb k hk=>by
  obtain ⟨go,gc,ev,_⟩:=own_blk HO.out (show 0 < n by have:=HPL.out;omega)
  simp only [Value.slice.injEq] at ev
  obtain ⟨rfl,-,rfl⟩:=ev
  have c0 : w2.cell? ⟨go,k,none⟩ = some (.int .i64 (pl[k] : Int)):=own_int (es:=pl) (by rw [HPL.out];exact HO.out) rfl hk
  exact ⟨go,rfl,(hb.cell (p:=⟨go,k,none⟩) (blt c0)).trans c0⟩
 clear BX BX2 HB HO
 go_wp2
 go_loopw [7,8] (fun s i wr=>∃ k : Nat,k <= n /\ i = .int .i64 k /\ s = .string (recL xEs ns P k) /\ Hid (Bw w2 wr)) (fun _ i _=>n - (intOf i).toNat)
 case atStart=>exact ⟨0,Nat.zero_le _,rfl,rfl,Below.refl _ _⟩
 case round=>
  obtain ⟨k,hk,rfl,rfl,HW⟩:=hrel
  have sS:=HRS.out k hk
  by_cases hlt : k < n
  ·have hkp : k < pl.length:=by rw [HPL.out];exact hlt
   have HWw : Hid (Bw w wr):=HB2.out.trans (HW.out.mono HB2.out.size)
   have nsa:=HNS.out wr HWw.out
   have ea:=nsa.at_ (by rw [HN.out];omega)
   have ck:=nsa.cell k (by rw [HN.out];exact hlt)
   have zk:=HNZ.out k hlt
   obtain ⟨go,ego,pk⟩:=HO2.out wr HW.out k hkp
   obtain ⟨zp,zpl⟩:=HPS.out k hkp
   have bx:=HX2.out wr HW.out
   have HC : Hid (∀ (W : World),Bw w2 W -> Calls Tryz.prog 66 #[.slice (some ⟨g,0,none⟩) xs.length c,.int .i64 (pl[k] : Int)] W fun r w'=>r = .returned (.string (P k)) /\ Hid (Bw w2 w')):=fun W hb=>by
    rw [HPk.out k hkp]
    exact (CQ.out W _ k hkp (HB2.out.trans (hb.mono HB2.out.size)) rfl).mono fun r w' h=>⟨h.1,hb.trans (h.2.out.mono hb.size)⟩
   rw [<- HPk.out k hkp] at zp
   obtain ⟨q,hq⟩:=xe (pl[k])
   rw [<- hq] at pk HC zpl
   obtain ⟨x,hx⟩:=xe (ns.getD k e0)
   rw [<- hx] at ck zk
   rw [ea] at bx
   subst ego
   obtain ⟨pb,hpb⟩:=xe (X.2.np.b)
   rw [<- hpb] at bx ck
   have HNX : Hid (recL xEs ns P (k + 1) = ((if 0 < k then recL xEs ns P k ++ xCm else recL xEs ns P k) ++ x) ++ xEs ++ P k):=by show _ = _;rw [recL,hx]
   obtain ⟨S,hS⟩:=xe (recL xEs ns P k)
   obtain ⟨Q,hQ⟩:=xe (P k)
   rw [<- hS] at sS HNX ⊢
   rw [<- hQ] at zp HNX HC
   have HCC : Hid (∀ W : World,Bw w2 W -> W.cell? ⟨w.heap.size,4,none⟩ = some (.slice (some ⟨pb,0,none⟩) n X.2.np.c) /\ W.cell? ⟨pb,k,none⟩ = some (.string x) /\ W.cell? ⟨go,k,none⟩ = some (.int .i64 (q : Int))):=fun W hb=>by
    have hbw:=HB2.out.trans (hb.mono HB2.out.size)
    refine ⟨?_,?_,?_⟩
    ·rw [<- hpb.symm,<- ea];exact HX2.out W hb
    ·have:=(HNS.out W hbw).cell k (by rw [HN.out];exact hlt);rw [<- hpb,<- hx] at this;exact this
    ·obtain ⟨go',e',c'⟩:=HO2.out W hb k hkp
     cases e'
     rw [hq];exact c'
   have s1 : (⟨#[44,32]⟩ : ByteArray).size = 2:=rfl
   have s2 : (⟨#[32,61,32]⟩ : ByteArray).size = 3:=rfl
   clear nsa ea hq hx hpb hS hQ
   by_cases hk0 : 0 < k
   ·have lk : (0 : Int) < (k : Int):=by omega
    have a0:=rsa S (⟨#[44,32]⟩ : ByteArray) (by rw [s1];omega)
    obtain ⟨S2,hS2⟩:=xe (S ++ (⟨#[44,32]⟩ : ByteArray))
    have zS2 : S2.size <= 100000002:=by rw [hS2,bsa,s1];omega
    rw [<- hS2] at a0
    have HF : Hid (recL xEs ns P (k + 1) = (S2 ++ x ++ (⟨#[32,61,32]⟩ : ByteArray)) ++ Q):=by show _ = _;rw [HNX.out,if_pos hk0,hS2];rfl
    have a1:=rsa S2 x (by omega)
    have a2:=rsa (S2 ++ x) (⟨#[32,61,32]⟩ : ByteArray) (by rw [bsa,s2];omega)
    have a3:=rsa (S2 ++ x ++ (⟨#[32,61,32]⟩ : ByteArray)) Q (by rw [bsa,bsa,s2];omega)
    have HC':=HC.out wr.drew HW.out.drew
    clear hS2 HNX
    go_wp2
    go_region_held3 (fun w'=>w'.cell? ⟨w.heap.size,4,none⟩ = some (.slice (some ⟨pb,0,none⟩) n X.2.np.c) /\ w'.cell? ⟨pb,k,none⟩ = some (.string x) /\ w'.cell? ⟨go,k,none⟩ = some (.int .i64 (q : Int))) (go_keep) ((go_at_call 66;(with_reducible refine HC'.mono ?_);rintro e5 w5 ⟨rfl,HW5⟩;obtain ⟨u0,u1,u2⟩:=HCC.out w5 HW5.out))
    all_goals
     go_wp2
     go_roundw
     case rel=>exact ⟨k + 1,by omega,by go_num,by rw [HF.out],HW5⟩
     case measure=>simp [intOf];omega
   ·have lk : ¬ (0 : Int) < (k : Int):=by omega
    have HF : Hid (recL xEs ns P (k + 1) = (S ++ x ++ (⟨#[32,61,32]⟩ : ByteArray)) ++ Q):=by show _ = _;rw [HNX.out,if_neg hk0];rfl
    have a1:=rsa S x (by omega)
    have a2:=rsa (S ++ x) (⟨#[32,61,32]⟩ : ByteArray) (by rw [bsa,s2];omega)
    have a3:=rsa (S ++ x ++ (⟨#[32,61,32]⟩ : ByteArray)) Q (by rw [bsa,bsa,s2];omega)
    have HC':=HC.out wr.drew HW.out.drew
    clear HNX
    go_wp2
    go_region_held3 (fun w'=>w'.cell? ⟨w.heap.size,4,none⟩ = some (.slice (some ⟨pb,0,none⟩) n X.2.np.c) /\ w'.cell? ⟨pb,k,none⟩ = some (.string x) /\ w'.cell? ⟨go,k,none⟩ = some (.int .i64 (q : Int))) (go_keep) ((go_at_call 66;(with_reducible refine HC'.mono ?_);rintro e5 w5 ⟨rfl,HW5⟩;obtain ⟨u0,u1,u2⟩:=HCC.out w5 HW5.out))
    all_goals
     go_wp2
     go_roundw
     case rel=>exact ⟨k + 1,by omega,by go_num,by rw [HF.out],HW5⟩
     case measure=>simp [intOf];omega
  ·have hkn : k = n:=by omega
   subst hkn
   have s1 : (⟨#[125]⟩ : ByteArray).size = 1:=rfl
   have HF : Hid (r = recL xEs ns P k ++ (⟨#[125]⟩ : ByteArray)):=by show _ = _;rw [HR.out];rfl
   have a1:=rsa (recL xEs ns P k) (⟨#[125]⟩ : ByteArray) (by rw [s1];omega)
   have HWw : Hid (Bw w wr):=HB2.out.trans (HW.out.mono HB2.out.size)
   go_wp2
   go_ret
   exact ⟨by rw [HF.out];rfl,HWw.out⟩
theorem v_printE_leaf {xs : List (EI × EPl)} {l : List EI} {a : Option Addr} {c e : Nat} (H : PEH xs l e) (he : e < xs.length) {f : Fm} (hf : fE xs[e].1 = some f) (h4 : (xs[e].1.op = 1 /\ 0 <= xs[e].1.num /\ xs[e].1.num <= 999999999 /\ f = ⟨4,[],[shN xs[e].1.num.toNat]⟩) \/ (xs[e].1.op = 2 /\ xs[e].1.num = 0 /\ f = ⟨4,[],[xFalse]⟩) \/ (xs[e].1.op = 2 /\ xs[e].1.num = 1 /\ f = ⟨4,[],[xTrue]⟩) \/ (xs[e].1.op = 3 /\ f = ⟨4,[],[pth xs[e].1.md xs[e].1.nm]⟩)) : PEC xs l a c e:=by
 intro w z h hz
 subst hz
 have hp:=pw_atE (l:=l) (e:=e) (t:=xs[e].1) (by rw [<- H.is,List.getElem?_map,List.getElem?_eq_getElem he];rfl) hf H.vk
 obtain ⟨g,ta,tc,rfl,y0,y1,y2,y3,y4,y5,ti,htv⟩:=h.item he
 have hlen:=h.len
 obtain ⟨r,hr⟩:=xe ((pw (FE l) (e + 1)).1)
 obtain ⟨X,hX⟩:=xe (xs[e])
 rw [<- hX] at y0 y1 y2 y3 y4 y5 ti h4
 have HR : Hid (r = arnd f.needs f.texts ((pts (fun i=>(FE l i).needs.length) f.needs.length e).map (pw (FE l)))):=by show _ = _;rw [hr,hp]
 rw [<- hr]
 obtain ⟨op,hop⟩:=xe (X.1.op)
 obtain ⟨nu,hnu⟩:=xe (X.1.num)
 rw [<- hop] at y0 h4
 rw [<- hnu] at y1 h4
 have we1 : IntKind.i64.wrap ((e : Int) + 1 - 1) = (e : Int):=wk (by omega)
 have we2 : IntKind.i64.wrap (e : Int) = (e : Int):=wk (by omega)
 have hel : (e : Int) < (xs.length : Int):=by omega
 have he0 : (0 : Int) <= (e : Int):=by omega
 have zm:=ti.md
 have zn:=ti.nm
 obtain ⟨md,hmd⟩:=xe (X.1.md)
 obtain ⟨nm,hnm⟩:=xe (X.1.nm)
 rw [<- hmd] at y2 zm h4
 rw [<- hnm] at y3 zn h4
 clear h H hp hr hX hop hnu hf ti htv hmd hnm
 rcases h4 with ⟨h1,h2,h3,rfl⟩ | ⟨h1,h2,rfl⟩ | ⟨h1,h2,rfl⟩ | ⟨h1,rfl⟩
 ·subst h1
  obtain ⟨k,rfl⟩ : ∃ k : Nat,nu = k:=⟨nu.toNat,by omega⟩
  have HF : Hid (r = shN k):=HR
  have CS : Hid (∀ W,Calls Tryz.prog 102 #[.int .i64 (k : Int)] W fun e w'=>e = .returned (.string (shN k)) /\ ∃ j,w' = W.drewN j):=fun W=>v_show k W (by omega)
  clear HR
  go_enter Tryz.func66,Tryz.ntmps66
  go_wp2_with fail
  refine (CS.out _).mono ?_
  rintro r2 w2 ⟨rfl,j,rfl⟩
  go_wp2
  go_ret
  exact ⟨by rw [HF.out];rfl,below_drewN (bel1 _ _) _⟩
 ·subst h1 h2
  have HF : Hid (r = ⟨#[102,97,108,115,101]⟩):=HR
  clear HR
  go_enter Tryz.func66,Tryz.ntmps66
  go_wp2
  go_ret
  exact ⟨by rw [HF.out];rfl,bel1 _ _⟩
 ·subst h1 h2
  have HF : Hid (r = ⟨#[116,114,117,101]⟩):=HR
  clear HR
  go_enter Tryz.func66,Tryz.ntmps66
  go_wp2
  go_ret
  exact ⟨by rw [HF.out];rfl,bel1 _ _⟩
 ·subst h1
  have HP : Hid (r = if md.size = 0 then nm else md ++ xColon ++ nm):=HR
  clear HR
  go_enter Tryz.func66,Tryz.ntmps66
  by_cases hz : md.size = 0
  ·have HF : Hid (r = nm):=by show _ = _;rw [HP.out,if_pos hz]
   have me : md = ByteArray.empty:=em_zero hz
   subst me
   clear HP hz
   go_wp2
   go_ret
   exact ⟨by rw [HF.out];rfl,bel1 _ _⟩
  ·have HF : Hid (r = md ++ (⟨#[58]⟩ : ByteArray) ++ nm):=by show _ = _;rw [HP.out,if_neg hz];rfl
   have me : ¬ md = ByteArray.empty:=em_pos hz
   have lz : (0 : Int) < (md.size : Int):=by omega
   have lz2 : 0 < md.size:=by omega
   have s1 : (⟨#[58]⟩ : ByteArray).size = 1:=rfl
   have a1:=rsa md (⟨#[58]⟩ : ByteArray) (by rw [s1];omega)
   have a2:=rsa (md ++ (⟨#[58]⟩ : ByteArray)) nm (by rw [bsa,s1];omega)
   clear HP hz
   go_wp2
   go_ret
   exact ⟨by rw [HF.out];rfl,bel1 _ _⟩
theorem v_printE {xs : List (EI × EPl)} {l : List EI} {a : Option Addr} {c : Nat} : ∀ e,PEH xs l e -> e < xs.length -> PEC xs l a c e:=by
 intro e
 induction e using Nat.strongRecOn with
 | _ e ih=>
   intro H he
   have IHP : ∀ q,q < e -> PEH xs l q:=fun q hq=>⟨H.is,fun j hj=>H.ar j (by omega),H.vk.mono (by omega),fun k hk=>H.sz k (by omega),H.tsz⟩
   have IH : ∀ q,q < e -> PEC xs l a c q:=fun q hq=>ih q hq (IHP q hq) (by omega)
   obtain ⟨f,hf,_⟩:=H.item he (nlr _)
   rcases fE_cases hf with z | z | z | z | z | z | z | z | z | z | z
   ·exact v_printE_leaf H he hf (Or.inl z)
   ·exact v_printE_leaf H he hf (Or.inr (Or.inl z))
   ·exact v_printE_leaf H he hf (Or.inr (Or.inr (Or.inl z)))
   ·exact v_printE_leaf H he hf (Or.inr (Or.inr (Or.inr z)))
   ·exact v_printE_rec H he (by rw [hf,z.2]) z.1 IH
   ·exact v_printE_get H he (by rw [hf,z.2]) z.1 IHP IH
   ·exact v_printE_fun H he (by rw [hf,z.2.2]) z.1 z.2.1 IHP IH
   ·exact v_printE_call H he (by rw [hf,z.2]) z.1 IHP IH
   ·exact v_printE_if H he (by rw [hf,z.2]) z.1 IHP IH
   ·exact v_printE_add H he (by rw [hf,z.2]) z.1 IHP IH
   ·exact v_printE_less H he (by rw [hf,z.2]) z.1 IHP IH
end Go.Proofs.YtcehppndpccldaaGreatDoor
