/-
  QbN
-/
import Derived.Test.YtcehppndpccldaaGreatDoorU4
set_option maxHeartbeats 4000000
set_option maxRecDepth 100000
namespace Go.Proofs.YtcehppndpccldaaGreatDoor
open Go.RowKit
structure OpE (w W1 W3 wr : World) (X k : Nat) (va : Option Addr) (n c : Nat) (es : List (EI × EPl)) : Prop where
 ge : GE W1.heap.size w.heap.size wr va n c (k * X) es
 bel : Bw W3 wr
theorem OpE.step {w W1 W3 wr w2 w3 : World} {X k : Nat} {va : Option Addr} {n c : Nat} {xs ys : List (EI × EPl)} (h : OpE w W1 W3 wr X k va n c xs) (h1 : W1.heap.size <= W3.heap.size)
  (B2 : Bw wr w2) (B3 : Bw w2 w3) {u : Option Addr} {m cc : Nat} (hr : GE w2.heap.size w.heap.size w3 u m cc (k * X + X) (xs ++ ys)) :
  OpE w W1 W3 w3 X (k + 1) u m cc (xs ++ ys):=by
 have b23 : Bw wr w3:=B2.trans (B3.mono B2.size)
 have hs : W1.heap.size <= w2.heap.size:=Nat.le_trans h1 (Nat.le_trans h.bel.size B2.size)
 refine ⟨?_,h.bel.trans (b23.mono h.bel.size)⟩
 rw [Nat.succ_mul]
 exact hr.mono hs (nlr _) (nlr _)
theorem g_E_op (w : World) (d : Nat) {ca : Option Addr} {cb co Ln cc p : Nat} {C : Nat -> Nat} (hC : BytesAt w ca cb co Ln C) (hLn : Ln <= 1048576) (hd : d <= 3) {Nq : Nat} (hp : p + 2000 <= Nq) (hNq : Nq <= 1000000) {T V M : List ByteArray} {tp vp mp : NPl} (hS : Sc w T V M tp vp mp) (hV : 0 < V.length) (hVd : V.length + d + 1 <= 1000) (ih : IhE d Nq ca cb co Ln cc C T M tp mp)
  (hca : 14 <= tk C Ln p 20) :
  Calls Tryz.prog 119 #[.slice ca Ln cc,.int .i64 (p : Int),.agg #[.slice tp.a T.length tp.c,.slice vp.a V.length vp.c,.slice mp.a M.length mp.c],.int .i64 ((d : Int) + 1)] w (GnE w (PE (d + 1)) (XE (d + 1)) p):=by
 obtain ⟨i0,hi0,hz0,hz1,hz2⟩:=info_parts Tryz.infoEI
 obtain ⟨i9,hi9,hy0,hy1,hy2⟩:=info_parts Tryz.info9
 obtain ⟨hXd,hPd⟩:=XP_le hd
 obtain ⟨W1,W2,a,b,hW1,hW2,HB1,HB2,C1,C2,ha,ha20,hb64,HCX,HBS,HN2,HPX⟩:=e_pre w d hC (cc:=cc) (p:=p) hLn (by omega) hS
 rw [<- ha] at hca
 obtain ⟨x0,x1,x2⟩:=HCX.out W1 (Below.refl _ _)
 have HIH : Hid (∀ W q,Bw W1 W -> q <= Nq -> Calls Tryz.prog 119 #[.slice ca Ln cc,.int .i64 (q : Int),.agg #[.slice tp.a T.length tp.c,.slice vp.a V.length vp.c,.slice mp.a M.length mp.c],.int .i64 (d : Int)] W (GnE W (PE d) (XE d) q)):=fun W q hb hq=>ih W V vp q (HBS.out W hb).1 (HBS.out W hb).2 hV (by omega) hq
 obtain ⟨y0,y1,y2⟩:=HCX.out W2 HB2.out
 rw [hW2] at y0 y1 y2
 have dd : IntKind.i64.wrap ((d : Int) + 1 - 1) = (d : Int):=wk (by omega)
 have d0 : ¬ ((d : Int) + 1) <= 0:=by omega
 have q3 : ¬ (a : Int) < 4:=by omega
 have q4 : ((a : Int) == 4) = false:=bn2 (by omega)
 have q6 : ¬ (a : Int) < 7:=by omega
 have q7 : ((a : Int) == 7) = false:=bn2 (by omega)
 have q10 : ¬ (a : Int) < 10:=by omega
 have q12 : ¬ (a : Int) < 12:=by omega
 have q14 : ¬ (a : Int) < 14:=by omega
 obtain ⟨op,nn,hon⟩ : ∃ (op : Int) (nn : Nat),(a = 14 /\ op = 7 /\ nn = 2) \/ (a = 15 /\ op = 7 /\ nn = 2) \/ (a = 16 /\ op = 10 /\ nn = 2) \/ (a = 17 /\ op = 8 /\ nn = 3) \/ (a = 18 /\ op = 9 /\ nn = 2) \/ (a = 19 /\ op = 9 /\ nn = 2):=by
  have hx : a = 14 \/ a = 15 \/ a = 16 \/ a = 17 \/ a = 18 \/ a = 19:=by omega
  rcases hx with h | h | h | h | h | h
  ·exact ⟨7,2,.inl ⟨h,rfl,rfl⟩⟩
  ·exact ⟨7,2,.inr (.inl ⟨h,rfl,rfl⟩)⟩
  ·exact ⟨10,2,.inr (.inr (.inl ⟨h,rfl,rfl⟩))⟩
  ·exact ⟨8,3,.inr (.inr (.inr (.inl ⟨h,rfl,rfl⟩)))⟩
  ·exact ⟨9,2,.inr (.inr (.inr (.inr (.inl ⟨h,rfl,rfl⟩))))⟩
  ·exact ⟨9,2,.inr (.inr (.inr (.inr (.inr ⟨h,rfl,rfl⟩))))⟩
 obtain ⟨W3,hW3⟩:=xe (W2.alloc (.cells #[.int .i64 op,.int .i64 0,.string ⟨#[]⟩,.string ⟨#[]⟩,.slice none 0 0,.slice none 0 0] 70))
 have HB3 : Hid (Bw W2 W3):=by rw [hW3];exact bel1 _ _
 have hs2 : W2.heap.size = W1.heap.size + 1:=by rw [hW2];simp
 have HRW : Hid (W3.rowIs (W1.heap.size + 1) 70 6 (v6 (.int .i64 op) (.int .i64 0) (.string ⟨#[]⟩) (.string ⟨#[]⟩) (.slice none 0 0) (.slice none 0 0))):=by rw [hW3,<- hs2];exact row6 W2 _ _ _ _ _ _ _
 have HB13 : Hid (Bw W1 W3):=HB2.out.trans (HB3.out.mono HB2.out.size)
 have HG0 : Hid (OpE w W1 W3 W3 (XE d) 0 (some ⟨W1.heap.size,0,none⟩) 0 0 []):=⟨(HN2.out.below HB3.out).mono (nlr _) HB1.out.size (Nat.zero_le _),Below.refl _ _⟩
 clear hs2 y0 y1 y2
 clear hC hS ha hV ih hca q3 q4 q6 q7 q10 q12 q14
 rcases hon with ⟨hea,hop,hnn⟩ | ⟨hea,hop,hnn⟩ | ⟨hea,hop,hnn⟩ | ⟨hea,hop,hnn⟩ | ⟨hea,hop,hnn⟩ | ⟨hea,hop,hnn⟩
 all_goals
  subst hea
  go_enter Tryz.func119,Tryz.ntmps119
  go_wp2_with fail
  rw [<- hW1]
  clear hW1
  refine C1.mono ?_
  rintro e w' ⟨rfl,rfl⟩
  go_wp2_with fail
  refine C2.mono ?_
  rintro e w' ⟨rfl,rfl⟩
  clear C1 C2
  go_wp2_with fail
  rw [<- hW2]
  rw [hop] at hW3
  rw [<- hW3]
  clear hW2 hW3 x0 x1 x2
  go_loopw [1,13,21] (fun pp o i wr=>∃ (k q n1 c1 : Nat) (va : Option Addr),k <= nn /\ i = .int .i64 k /\ pp = .int .i64 q /\ p + 2 <= q /\ q <= p + 2 + k * PE d /\ o = .slice va n1 c1 /\ Hid (∃ xs,OpE w W1 W3 wr (XE d) k va n1 c1 xs)) (fun _ _ i _=>nn - (intOf i).toNat)
  case atStart=>exact ⟨0,p + 2,0,0,_,Nat.zero_le _,rfl,by rfl,by omega,by omega,rfl,_,HG0.out⟩
  case round=>
   clear HG0 HN2 HB2 HB3
   obtain ⟨k,q,n1,c1,va,hk,rfl,rfl,hq1,hq2,rfl,HG⟩:=hrel
   obtain ⟨xs,G0⟩:=HG.out
   have HK0 : Hid (Bw W3 wr):=G0.bel
   have HKW : Hid (Bw W1 wr):=HB13.out.trans (HK0.out.mono HB13.out.size)
   obtain ⟨y0,y1,y2⟩:=HCX.out wr HKW.out
   have hkP : k * PE d <= 3 * PE d:=Nat.mul_le_mul_right _ (by omega)
   have hkX : k * XE d <= 3 * XE d:=Nat.mul_le_mul_right _ (by omega)
   have HGX : Hid (OpE w W1 W3 wr (XE d) k va n1 c1 xs):=G0
   have lk2 : (k : Int) < 2 ↔ k < 2:=by omega
   have lk3 : (k : Int) < 3 ↔ k < 3:=by omega
   by_cases hlt : k < nn
   ·have hnq : (nn = 2 -> (k : Int) < 2) /\ (nn = 3 -> (k : Int) < 3):=by omega
    first | (have lk:=hnq.1 hnn) | (have lk:=hnq.2 hnn)
    have HNL : Hid (k + 1 <= nn /\ nn - (k + 1) < nn - k):=(by omega : k + 1 <= nn /\ nn - (k + 1) < nn - k)
    have C3:=HIH.out wr q HKW.out (by omega)
    have HQB : Hid (q <= p + 2 + k * PE d /\ p + 2 <= q):=⟨hq2,hq1⟩
    clear G0 HG hnq lk2 lk3 hlt hk
    go_wp2_with fail
    refine C3.mono ?_
    rintro e w3 ⟨⟨v3,n3,c3,q3,rfl,hr1,hr2,HG3⟩,HB3⟩
    clear C3 y0 y1 y2
    obtain ⟨ys,G⟩:=HG3.out
    have C4:=j_E w3 (HGX.out.ge.below HB3.out) (G.mono (nlr _) (Nat.le_trans HB1.out.size HKW.out.size) (nlr _)) (by omega)
    clear G HG3
    go_wp2_with fail
    refine C4.mono ?_
    rintro e w4 ⟨⟨v4,n4,c4,rfl,HR4⟩,HB4⟩
    clear C4
    go_wp2
    have hP : (k + 1) * PE d = k * PE d + PE d:=Nat.succ_mul _ _
    refine ⟨⟨k + 1,q3,n4,c4,v4,HNL.out.1,by go_num,rfl,by omega,by omega,rfl,_,HGX.out.step HB13.out.size HB3.out HB4.out HR4.out⟩,by have:=HNL.out.2;simp [intOf];exact this⟩
   ·have hnq : (nn = 2 -> ¬ (k : Int) < 2) /\ (nn = 3 -> ¬ (k : Int) < 3):=by omega
    first | (have lk:=hnq.1 hnn) | (have lk:=hnq.2 hnn)
    have OWN:=G0.ge.own
    have hnl:=G0.ge.le
    have hsr : W1.heap.size <= wr.heap.size:=HKW.out.size
    have r6:=HRW.out.of_block (HK0.out.block _ HRW.out.lt)
    have z0 : wr.cell? ⟨W1.heap.size + 1,0,none⟩ = some (.int .i64 op):=r6.cell (i:=0) (by omega)
    have z1 : wr.cell? ⟨W1.heap.size + 1,1,none⟩ = some (.int .i64 0):=r6.cell (i:=1) (by omega)
    have z2 : wr.cell? ⟨W1.heap.size + 1,2,none⟩ = some (.string ⟨#[]⟩):=r6.cell (i:=2) (by omega)
    have z3 : wr.cell? ⟨W1.heap.size + 1,3,none⟩ = some (.string ⟨#[]⟩):=r6.cell (i:=3) (by omega)
    have z4 : wr.cell? ⟨W1.heap.size + 1,4,none⟩ = some (.slice none 0 0):=r6.cell (i:=4) (by omega)
    have z5 : wr.cell? ⟨W1.heap.size + 1,5,none⟩ = some (.slice none 0 0):=r6.cell (i:=5) (by omega)
    have HHO : Hid (op = op):=rfl
    clear G0 HG y0 y1 y2 r6 hnq lk2 lk3 hlt hop hnn
    go_wp2_with (first | (at_builtin;refine wpList_append_lies _ rfl _ _ 44 rfl W1.heap.size 70 i0 _ 6 96 Tryz.underlying44 hi0 hz0 hz1 hz2 rfl (by omega) (.slice va n1 c1) n1 (eisC xs) rfl (OWN.alloc _) ⟨wr.heap.size,0,none⟩ 1 1 [.int .i64 op,.int .i64 0,.string ⟨#[]⟩,.string ⟨#[]⟩,.slice none 0 0,.slice none 0 0] rfl rfl (World.news_of_block (cs:=#[.int .i64 op,.int .i64 0,.string ⟨#[]⟩,.string ⟨#[]⟩,.slice none 0 0,.slice none 0 0]) (t:=70) (fr:=(0,0)) (heap_alloc_new wr _)) (by simp [Value.oneCell']) (by omega) (by unfold maxLen;omega) (by omega) (by simp only [World.size_alloc];omega) (wr.heap.size + 1) (by simp) ?_;intro gg cap3 w7 hown3 hg3 hat hlt3))
    go_ret2
    have hcE : cE (⟨op,0,e0,e0,[],[]⟩ : EI) = e0.size + e0.size:=cE_bare
    have e00 : e0.size = 0:=rfl
    have P:=HGX.out.ge.push (x:=((⟨op,0,e0,e0,[],[]⟩ : EI),ep0)) (X':=XE (d + 1)) hown3 hg3 (ri_bare _) sm_bare (by show k * XE d + 1 + cE (⟨op,0,e0,e0,[],[]⟩ : EI) <= _;have:=HPX.out.2;omega)
    refine ⟨⟨some ⟨gg,0,none⟩,n1 + 1,cap3,q,rfl,by omega,by have:=HPX.out.1;omega,_,P.mono HB1.out.size (nlr _) (nlr _)⟩,?_⟩
    exact below_grown (HB1.out.trans (HKW.out.mono HB1.out.size)) hg3 (fun j e=>Nat.le_trans HB1.out.size (OWN.lt j e).1)
theorem g_E {ca : Option Addr} {cb co Ln cc : Nat} {C : Nat -> Nat} (hLn : Ln <= 1048576) {T M : List ByteArray} {tp mp : NPl} :
  ∀ d,d <= 4 -> IhE d (1000000 - 2000 * d) ca cb co Ln cc C T M tp mp:=by
 intro d
 induction d with
 | zero=>intro _ W V vp q hC hS hV hVd hq;exact g_E_lit W 0 (PE_pos _) (XE_pos _) hC hLn (by omega) hS hV (.inr (Int.le_refl _))
 | succ d ih=>
   intro hd W V vp q hC hS hV hVd hq
   have IH:=ih (by omega)
   obtain ⟨Nq,hNq⟩ : ∃ Nq,Nq = 1000000 - 2000 * d:=⟨_,rfl⟩
   rw [<- hNq] at IH
   have hp1 : q + 2000 <= Nq:=by omega
   have hp2 : Nq <= 1000000:=by omega
   have hVd2 : V.length + d + 1 <= 1000:=by omega
   rw [show ((d + 1 : Nat) : Int) = (d : Int) + 1 by omega]
   have h20 : tk C Ln q 20 < 20:=tk_lt (by omega)
   rcases Nat.lt_or_ge (tk C Ln q 20) 8 with h8 | h8
   ·exact g_E_lit W _ (PE_pos _) (XE_pos _) hC hLn (by omega) hS hV (.inl h8)
   rcases Nat.lt_or_ge (tk C Ln q 20) 10 with h10 | h10
   ·exact g_E_fun W d hC hLn (by omega) hp1 hp2 hS hV hVd2 IH ⟨h8,h10⟩
   rcases Nat.lt_or_ge (tk C Ln q 20) 12 with h12 | h12
   ·exact g_E_get W d hC hLn (by omega) hp1 hp2 hS hV hVd2 IH ⟨h10,h12⟩
   rcases Nat.lt_or_ge (tk C Ln q 20) 14 with h14 | h14
   ·exact g_E_rec W d hC hLn (by omega) hp1 hp2 hS hV hVd2 IH ⟨h12,h14⟩
   exact g_E_op W d hC hLn (by omega) hp1 hp2 hS hV hVd2 IH h14
end Go.Proofs.YtcehppndpccldaaGreatDoor
