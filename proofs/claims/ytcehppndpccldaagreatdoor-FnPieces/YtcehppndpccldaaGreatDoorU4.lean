/-
  QbL QbM
-/
import Derived.Test.YtcehppndpccldaaGreatDoorU3
set_option maxHeartbeats 4000000
set_option maxRecDepth 100000
namespace Go.Proofs.YtcehppndpccldaaGreatDoor
open Go.RowKit
theorem szs_le : ∀ {l : List ByteArray},(∀ s,s ∈ l -> s.size <= 12) -> szs l <= 12 * l.length
 | [],_=>nlr _
 | s :: l,h=>by
   have h1:=h s (List.mem_cons_self ..)
   have h2:=szs_le (l:=l) (fun y hy=>h y (List.mem_cons_of_mem _ hy))
   have e : szs (s :: l) = s.size + szs l:=by simp [szs]
   rw [List.length_cons]
   omega
theorem cT_le {x : TI × NPl} (h : SmG x) : cT x.1 <= 63:=by
 have h1:=h.len
 have h2:=h.md
 have h3:=h.nm
 have h4 : szs x.1.ns <= 12 * x.1.ns.length:=szs_le h.nms
 unfold cT cN
 omega
theorem cTs_le : ∀ {xs : List (TI × NPl)},(∀ x,x ∈ xs -> SmG x) -> cTs (xs.map Prod.fst) <= 64 * xs.length
 | [],_=>nlr _
 | x :: xs,h=>by
   have h1:=cT_le (h x (List.mem_cons_self ..))
   have h2:=cTs_le (xs:=xs) (fun y hy=>h y (List.mem_cons_of_mem _ hy))
   have e : cTs ((x :: xs).map Prod.fst) = 1 + cT x.1 + cTs (xs.map Prod.fst):=by
    unfold cTs
    simp only [List.map_cons,List.length_cons,List.sum_cons]
    omega
   rw [List.length_cons]
   omega
theorem sts_length (l : List ByteArray) : (sts l).length = l.length:=by rw [<- map_sts,List.length_map]
theorem sts_cell (l : List ByteArray) : ∀ u,u ∈ sts l -> u.oneCell' = true:=fun u hu=>by
 rw [<- map_sts] at hu
 obtain ⟨s,_,rfl⟩:=List.mem_map.1 hu
 rfl
theorem nw_of {w : World} {p : NPl} {l : List ByteArray} (h : NsA w p l) : ∀ j u,(sts l)[j]? = some u -> w.cell? ((⟨p.b,0,none⟩ : Addr).add j) = some u:=fun j u hu=>by
 rw [<- map_sts,List.getElem?_map] at hu
 have hj : j < l.length:=by
  rcases Nat.lt_or_ge j l.length with x | x
  ·exact x
  ·rw [List.getElem?_eq_none x] at hu;cases hu
 have hadd : (⟨p.b,0,none⟩ : Addr).add j = ⟨p.b,j,none⟩:=by unfold Addr.add;split <;> simp_all
 rw [hadd,h.cell j hj,List.getD_eq_getElem?_getD]
 rw [List.getElem?_eq_getElem hj] at hu ⊢
 exact hu
theorem g_E_fun (w : World) (d : Nat) {ca : Option Addr} {cb co Ln cc p : Nat} {C : Nat -> Nat} (hC : BytesAt w ca cb co Ln C) (hLn : Ln <= 1048576) (hd : d <= 3) {Nq : Nat} (hp : p + 2000 <= Nq) (hNq : Nq <= 1000000) {T V M : List ByteArray} {tp vp mp : NPl} (hS : Sc w T V M tp vp mp) (hV : 0 < V.length) (hVd : V.length + d + 1 <= 1000) (ih : IhE d Nq ca cb co Ln cc C T M tp mp)
  (hca : 8 <= tk C Ln p 20 /\ tk C Ln p 20 < 10) :
  Calls Tryz.prog 119 #[.slice ca Ln cc,.int .i64 (p : Int),.agg #[.slice tp.a T.length tp.c,.slice vp.a V.length vp.c,.slice mp.a M.length mp.c],.int .i64 ((d : Int) + 1)] w (GnE w (PE (d + 1)) (XE (d + 1)) p):=by
 have ea : vp.a = some ⟨vp.b,0,none⟩:=hS.v.at_ hV
 obtain ⟨i0,hi0,hz0,hz1,hz2⟩:=info_parts Tryz.infoEI
 obtain ⟨i9,hi9,hy0,hy1,hy2⟩:=info_parts Tryz.info9
 obtain ⟨hXd,hPd⟩:=XP_le hd
 obtain ⟨W1,W2,a,b,hW1,hW2,HB1,HB2,C1,C2,ha,ha20,hb64,HCX,HBS,HN2,HPX⟩:=e_pre w d hC (cc:=cc) (p:=p) hLn (by omega) hS
 rw [<- ha] at hca
 rw [ea] at hW1 HCX ⊢
 obtain ⟨x0,x1,x2⟩:=HCX.out W1 (Below.refl _ _)
 obtain ⟨y0,y1,y2⟩:=HCX.out W2 HB2.out
 rw [hW2] at y0 y1 y2
 have dd : IntKind.i64.wrap ((d : Int) + 1 - 1) = (d : Int):=wk (by omega)
 have d0 : ¬ ((d : Int) + 1) <= 0:=by omega
 have q3 : ¬ (a : Int) < 4:=by omega
 have q4 : ((a : Int) == 4) = false:=bn2 (by omega)
 have q6 : ¬ (a : Int) < 7:=by omega
 have q7 : ((a : Int) == 7) = false:=bn2 (by omega)
 have q10 : (a : Int) < 10:=by omega
 have C3 : Calls Tryz.prog 90 #[.slice ca Ln cc,.int .i64 ((p + 1 + 1 : Nat) : Int),.agg #[.slice tp.a T.length tp.c,.slice (some ⟨vp.b,0,none⟩) V.length vp.c,.slice mp.a M.length mp.c],.int .i64 1] W2 (GnT W2 1 (p + 1 + 1)):=by
  rw [<- ea]
  exact g_T W2 (HBS.out W2 HB2.out).1 hLn (HBS.out W2 HB2.out).2 1 (by omega) W2 (p + 1 + 1) (Below.refl _ _) (by omega)
 have m3 : Int.tmod (b : Int) 5 = ((b % 5 : Nat) : Int):=tmodN b 5
 obtain ⟨b3,hb3⟩:=xe (b % 5)
 rw [<- hb3] at m3
 have hb5 : b3 < 5:=by omega
 have HVL : Hid (0 < V.length):=hV
 have hV1 : 0 < V.length:=hV
 have HIE : Hid (IhE d Nq ca cb co Ln cc C T M tp mp):=ih
 clear hb3 ea
 clear hC hS ha hV ih hca
 go_enter Tryz.func119,Tryz.ntmps119
 go_wp2_with fail
 rw [<- hW1]
 clear hW1
 refine C1.mono ?_
 rintro e w' ⟨rfl,rfl⟩
 go_wp2_with fail
 refine C2.mono ?_
 rintro e w' ⟨rfl,rfl⟩
 clear C1 C2
 go_wp2_with fail
 rw [<- hW2]
 clear hW2 y0 y1 y2 x0 x1 x2
 refine C3.mono ?_
 rintro e w3 ⟨⟨ta,n,c,q,rfl,hq1,hq2,HG⟩,HB3⟩
 clear C3
 have hq3 : q <= p + 1 + 1 + 8:=hq2
 clear hq2
 have HK3 : Hid (Bw W1 w3):=HB2.out.trans (HB3.out.mono HB2.out.size)
 have C4:=d_letter b3 w3 (by omega)
 have hlet:=letr_all ⟨b3,by omega⟩
 have HS : Hid ((letr b3).size = 1 /\ gn (letr b3) = true):=⟨hlet.2,hlet.1⟩
 obtain ⟨s,hs⟩:=xe (letr b3)
 rw [<- hs] at C4 HS
 clear hs hlet
 obtain ⟨y0,y1,y2⟩:=HCX.out w3 HK3.out
 go_wp2_with fail
 refine C4.mono ?_
 rintro e w5 ⟨rfl,rfl⟩
 clear C4
 obtain ⟨W6,hW6⟩:=xe (w5.alloc (.cells #[.slice tp.a T.length tp.c,.slice (some ⟨vp.b,0,none⟩) V.length vp.c,.slice mp.a M.length mp.c] 111))
 obtain ⟨W7,hW7⟩:=xe (W6.alloc (.cells #[.string s] 9))
 have HB6 : Hid (Bw w5 W6):=by rw [hW6];exact bel1 _ _
 have HB7 : Hid (Bw W6 W7):=by rw [hW7];exact bel1 _ _
 have hs6 : W6.heap.size = w5.heap.size + 1:=by rw [hW6];simp
 have hs7 : W7.heap.size = w5.heap.size + 1 + 1:=by rw [hW7];simp [hs6]
 have HK7 : Hid (Bw W1 W7):=HK3.out.trans ((HB6.out.trans (HB7.out.mono HB6.out.size)).mono HK3.out.size)
 have z1:=(HCX.out W7 HK7.out).2.1
 have HOW : Hid (W7.ownsRow (w5.heap.size + 1) 9 1 (.slice (some ⟨w5.heap.size + 1,0,none⟩) 1 1) 1 (sts [s])):=by
  rw [hW7,<- hs6]
  exact World.ownsRow_lit W6 #[.string s] 1 (nlr _) (by unfold maxLen;omega) (by rfl)
 have HI6 : Hid (W7.rowIs w5.heap.size 111 3 (v3 (.slice tp.a T.length tp.c) (.slice (some ⟨vp.b,0,none⟩) V.length vp.c) (.slice mp.a M.length mp.c))):=by
  have r : W6.rowIs w5.heap.size 111 3 (v3 (.slice tp.a T.length tp.c) (.slice (some ⟨vp.b,0,none⟩) V.length vp.c) (.slice mp.a M.length mp.c)):=by rw [hW6];exact row3 w5 _ _ _ _
  exact r.of_block (HB7.out.block _ r.lt)
 have HNW : Hid (∀ j u,(sts V)[j]? = some u -> W7.cell? ((⟨vp.b,0,none⟩ : Addr).add j) = some u):=nw_of (HBS.out W7 HK7.out).2.v
 have hvl : V.length <= 1000:=(HBS.out W7 HK7.out).2.lv.1
 have HZ : Hid (W6.heap.size = w5.heap.size + 1 /\ W7.heap.size = w5.heap.size + 1 + 1):=⟨hs6,hs7⟩
 rw [hW7,hW6] at z1
 rw [hW7,hW6] at HOW HNW HI6 HK7
 clear hW6 hW7 hs6 hs7
 go_wp2_with (first | (at_builtin;refine wpList_append_lies _ rfl _ _ 66 rfl (w5.heap.size + 1) 9 i9 _ 1 16 Tryz.underlying66 hi9 hy0 hy1 hy2 rfl (by omega) (.slice (some ⟨w5.heap.size + 1,0,none⟩) 1 1) 1 (sts [s]) rfl HOW.out ⟨vp.b,0,none⟩ V.length vp.c (sts V) rfl (by rw [sts_length];omega) HNW.out (sts_cell V) (by omega) (by unfold maxLen;omega) (by omega) (by simp) (w5.heap.size + 1 + 1) (by simp) ?_;intro gg cap3 w8 hown3 hg3 hat hlt3;have r8:=HI6.out.of_block (hg3.block _ (by simp only [World.size_alloc];omega) (by simp [Value.ownBlock]));have g0 : w8.cell? ⟨w5.heap.size,0,none⟩ = some (.slice tp.a T.length tp.c):=r8.cell (i:=0) (by omega);have g1 : w8.cell? ⟨w5.heap.size,1,none⟩ = some (.slice (some ⟨vp.b,0,none⟩) V.length vp.c):=r8.cell (i:=1) (by omega);have g2 : w8.cell? ⟨w5.heap.size,2,none⟩ = some (.slice mp.a M.length mp.c):=r8.cell (i:=2) (by omega);have f1:=r8.frozen 1;clear r8))
 have HK8 : Hid (Bw W1 w8):=HK7.out.grown hg3 (by simp;have:=HK3.out.size;omega) (fun k hk=>by
  have e : w5.heap.size + 1 = k:=by simpa [Value.ownBlock] using hk
  have:=HK3.out.size
  omega)
 obtain ⟨W9,hW9⟩:=xe (w8.setCell ⟨w5.heap.size,1,none⟩ (.slice (some ⟨gg,0,none⟩) (1 + V.length) cap3))
 have HK9 : Hid (Bw W1 W9):=by
  rw [hW9]
  exact HK8.out.setCell (p:=⟨w5.heap.size,1,none⟩) HK3.out.size _
 have HK59 : Hid (Bw w5 W9):=by
  rw [hW9]
  have b7 : Bw w5 ((w5.alloc (.cells #[.slice tp.a T.length tp.c,.slice (some ⟨vp.b,0,none⟩) V.length vp.c,.slice mp.a M.length mp.c] 111)).alloc (.cells #[.string s] 9)):=(bel1 _ _).alloc (by simp) _
  exact (b7.grown hg3 (by simp;omega) (fun k hk=>by
   have e : w5.heap.size + 1 = k:=by simpa [Value.ownBlock] using hk
   omega)).setCell (p:=⟨w5.heap.size,1,none⟩) (nlr _) _
 have ggne : gg ≠ w5.heap.size:=by
  rcases hat with e | e
  ·have e : w5.heap.size + 1 = gg:=by simpa [Value.ownBlock] using e
   omega
  ·omega
 obtain ⟨g,hnm⟩:=nm_of_own (ns:=s :: V) (n:=1 + V.length) (by rw [List.length_cons];omega) hown3
 have hcap:=own_cap hown3
 have hgg : gg = g:=by
  have e:=(hnm (by simp)).1
  simpa using e
 have HSC : Hid (Sc W9 T (s :: V) M tp ⟨some ⟨gg,0,none⟩,g,cap3⟩ mp):=by
  have z:=(HBS.out W9 HK9.out).2
  have nm9 : NmOK (w5.heap.size + 1) W9 (s :: V) ⟨some ⟨gg,0,none⟩,g,cap3⟩:=hnm.of_block (fun _=>by rw [hW9];exact Below.heap_setCell _ _ _ _ (by show g ≠ w5.heap.size;omega))
  refine ⟨z.t,nm9.nsa,z.m,z.gt,fun x hx=>?_,z.gm,z.lt,⟨by rw [List.length_cons];omega,by rw [List.length_cons];show V.length + 1 <= cap3;omega⟩,z.lm⟩
  rcases List.mem_cons.1 hx with h | h
  ·rw [h];exact HS.out.2
  ·exact z.gv x h
 have C5 : Calls Tryz.prog 119 #[.slice ca Ln cc,.int .i64 (q : Int),.agg #[.slice tp.a T.length tp.c,.slice (some ⟨gg,0,none⟩) (1 + V.length) cap3,.slice mp.a M.length mp.c],.int .i64 (d : Int)] W9 (GnE W9 (PE d) (XE d) q):=by
  have h:=HIE.out W9 (s :: V) ⟨some ⟨gg,0,none⟩,g,cap3⟩ q (HBS.out W9 HK9.out).1 HSC.out (by simp) (by rw [List.length_cons];omega) (by omega)
  rw [show (s :: V).length = 1 + V.length by rw [List.length_cons];omega] at h
  exact h
 clear ggne hgg hcap hnm hat hlt3 hown3 hg3
 rw [<- hW9]
 clear hW9 y0 y1 y2 z1 g0 g1 g2 f1
 refine C5.mono ?_
 rintro e w10 ⟨⟨ea,en,ec,q2,rfl,hr1,hr2,HG2⟩,HB10⟩
 clear C5
 obtain ⟨es,G⟩:=HG2.out
 have OWN:=G.own
 have hnl:=G.le
 have HGE : Hid (GE W9.heap.size w.heap.size w10 ea en ec (XE d) es):=G.mono (nlr _) (Nat.le_trans HB1.out.size HK9.out.size) (nlr _)
 have HTT : Hid (∃ xs,RT w.heap.size w10 (.slice ta n c) xs /\ (∀ x,x ∈ xs -> SmG x) /\ xs.length <= 4):=by
  obtain ⟨xs,GG⟩:=HG.out
  have hl : n <= 4:=GG.le
  have hn:=GG.len
  exact ⟨xs,(GG.rt.mono (Nat.le_trans HB1.out.size HB2.out.size)).below (HK59.out.trans (HB10.out.mono HK59.out.size)),GG.sm,by omega⟩
 have h19:=HK9.out.size
 have h910:=HB10.out.size
 clear HG G HG2
 go_wp2_with (first | (at_builtin;refine wpList_append_lies _ rfl _ _ 44 rfl W9.heap.size 70 i0 _ 6 96 Tryz.underlying44 hi0 hz0 hz1 hz2 rfl (by omega) (.slice ea en ec) en (eisC es) rfl (OWN.alloc _) ⟨w10.heap.size,0,none⟩ 1 1 [.int .i64 6,.int .i64 0,.string ⟨#[]⟩,.string s,.slice none 0 0,.slice ta n c] rfl rfl (World.news_of_block (cs:=#[.int .i64 6,.int .i64 0,.string ⟨#[]⟩,.string s,.slice none 0 0,.slice ta n c]) (t:=70) (fr:=(0,0)) (heap_alloc_new w10 _)) (by simp [Value.oneCell']) (by omega) (by unfold maxLen;omega) (by omega) (by simp only [World.size_alloc];omega) (w10.heap.size + 1) (by simp) ?_;intro gg cap3 w7 hown3 hg3 hat hlt3))
 go_ret2
 obtain ⟨xs,HT1,HT2,HT3⟩:=HTT.out
 have hct:=cTs_le HT2
 have hcE : cE (⟨6,0,e0,s,[],xs.map Prod.fst⟩ : EI) = e0.size + s.size + 0 + cTs (xs.map Prod.fst):=rfl
 have e00 : e0.size = 0:=rfl
 have P:=HGE.out.push (x:=((⟨6,0,e0,s,[],xs.map Prod.fst⟩ : EI),(⟨⟨none,0,0⟩,.slice ta n c,xs⟩ : EPl))) (X':=XE (d + 1)) hown3 hg3 ⟨NmOK.nil _ _ _,HT1,rfl⟩ ⟨nlr _,HT2⟩ (by show XE d + 1 + cE (⟨6,0,e0,s,[],xs.map Prod.fst⟩ : EI) <= _;have:=HS.out.1;have:=HPX.out.2;omega)
 refine ⟨⟨some ⟨gg,0,none⟩,en + 1,cap3,q2,rfl,by omega,by have:=HPX.out.1;omega,_,P.mono (Nat.le_trans HB1.out.size HK9.out.size) (nlr _) (nlr _)⟩,?_⟩
 exact below_grown (HB1.out.trans ((HK9.out.trans (HB10.out.mono HK9.out.size)).mono HB1.out.size)) hg3 (fun j e=>Nat.le_trans (Nat.le_trans HB1.out.size HK9.out.size) (OWN.lt j e).1)
theorem ge_names {B Bi Bn m : Nat} {w w5 : World} {va : Option Addr} {n c X : Nat} {nv : Value} {es : List (EI × EPl)} {l : List Value} {o : Obj} (h : GE B Bi w va n c X es) (hn : w.ownsRow Bn 9 1 nv m l) (hg : (w.alloc o).grownBy w5 nv.ownBlock) (hs : ∀ x,x ∈ es -> (x.1.ns ≠ [] -> some x.2.np.b ≠ nv.ownBlock) /\ ∀ y,y ∈ x.2.zs -> y.1.ns ≠ [] -> some y.2.b ≠ nv.ownBlock) : GE B Bi w5 va n c X es:=by
 have hk : Kp 9 w w5:=(kp_alloc _ w o).trans (grown_kp (hn.alloc o) hg)
 refine ⟨own_kp h.own hk (by decide),h.len,fun x hx=>⟨fun hne=>?_,rt_names (h.ok x hx).ty hn hg (hs x hx).2,(h.ok x hx).is⟩,h.sm,h.cost⟩
 obtain ⟨e,hb,N,f,r,hl,hf⟩:=(h.ok x hx).nm hne
 exact ⟨e,hb,N,f,r.of_block ((hg.block _ (by have:=r.lt;simp;omega) ((hs x hx).1 hne)).trans (Below.heap_alloc _ _ _ r.lt)),hl,hf⟩
structure RcE (w W1 wr : World) (X b k : Nat) (va : Option Addr) (n c : Nat) (na : Option Addr) (nc : Nat) (es : List (EI × EPl)) : Prop where
 ge : GE W1.heap.size w.heap.size wr va n c (k * X) es
 own : wr.ownsRow W1.heap.size 9 1 (.slice na k nc) k ((nmsG b k).map Value.string)
 sep : ∀ x,x ∈ es -> (x.1.ns ≠ [] -> some x.2.np.b ≠ (Value.slice na k nc).ownBlock) /\ ∀ y,y ∈ x.2.zs -> y.1.ns ≠ [] -> some y.2.b ≠ (Value.slice na k nc).ownBlock
 bel : Bw W1 wr
theorem RcE.step {w W1 wr w2 w3 w5 : World} {X b k : Nat} {va : Option Addr} {n c : Nat} {na : Option Addr} {nc gg cap : Nat} {xs ys : List (EI × EPl)} {v3 : Option Addr} {n3 c3 : Nat} {o : Obj} (h : RcE w W1 wr X b k va n c na nc xs)
  (B2 : Bw wr w2) (B3 : Bw w2 w3) (hy : GE wr.heap.size wr.heap.size w2 v3 n3 c3 X ys) {u : Option Addr} {m cc : Nat} (hr : GE w2.heap.size w.heap.size w3 u m cc (k * X + X) (xs ++ ys))
  (hown : w5.ownsRow W1.heap.size 9 1 (.slice (some ⟨gg,0,none⟩) (k + 1) cap) (k + 1) ((nmsG b k).map Value.string ++ [.string (fldN ((b / 4 + k * 3) % 7) k)])) (hg : (w3.alloc o).grownBy w5 (Value.slice na k nc).ownBlock) (hat : (Value.slice na k nc).ownBlock = some gg \/ gg = w3.heap.size + 1) :
  RcE w W1 w5 X b (k + 1) u m cc (some ⟨gg,0,none⟩) cap (xs ++ ys):=by
 have b23 : Bw wr w3:=B2.trans (B3.mono B2.size)
 have own3 : w3.ownsRow W1.heap.size 9 1 (.slice na k nc) k ((nmsG b k).map Value.string):=own_kp h.own (below_kp b23) (by decide)
 have sep3 : ∀ x,x ∈ xs ++ ys -> (x.1.ns ≠ [] -> some x.2.np.b ≠ (Value.slice na k nc).ownBlock) /\ ∀ y,y ∈ x.2.zs -> y.1.ns ≠ [] -> some y.2.b ≠ (Value.slice na k nc).ownBlock:=fun x hx=>by
  rcases List.mem_append.1 hx with z | z
  ·exact h.sep x z
  ·refine ⟨fun hne e=>?_,fun y hyy hne e=>?_⟩
   ·have h1:=(h.own.lt _ e.symm).2
    have h2:=((hy.ok x z).nm hne).2.1
    omega
   ·have h1:=(h.own.lt _ e.symm).2
    have h2:=((hy.ok x z).ty.nm y hyy hne).2.1
    omega
 have hs3 : W1.heap.size <= w2.heap.size:=Nat.le_trans h.bel.size B2.size
 have hge:=ge_names hr own3 hg sep3
 refine ⟨?_,?_,fun x hx=>?_,?_⟩
 ·rw [Nat.succ_mul]
  exact hge.mono hs3 (nlr _) (nlr _)
 ·rw [nmsG_succ,List.map_append]
  exact hown
 ·rcases hat with e | e
  ·have:=sep3 x hx
   rw [e] at this
   exact this
  ·refine ⟨fun hne e2=>?_,fun y hyy hne e2=>?_⟩
   ·have e3 : x.2.np.b = gg:=Option.some.inj e2
    obtain ⟨_,_,N,f,r,_,_⟩:=(hr.ok x hx).nm hne
    have:=r.lt
    omega
   ·have e3 : y.2.b = gg:=Option.some.inj e2
    obtain ⟨_,_,N,f,r,_,_⟩:=(hr.ok x hx).ty.nm y hyy hne
    have:=r.lt
    omega
 ·have b3 : Bw W1 w3:=h.bel.trans (b23.mono h.bel.size)
  exact below_grown b3 hg (fun j e=>(own3.lt j e).1)
theorem g_E_rec (w : World) (d : Nat) {ca : Option Addr} {cb co Ln cc p : Nat} {C : Nat -> Nat} (hC : BytesAt w ca cb co Ln C) (hLn : Ln <= 1048576) (hd : d <= 3) {Nq : Nat} (hp : p + 2000 <= Nq) (hNq : Nq <= 1000000) {T V M : List ByteArray} {tp vp mp : NPl} (hS : Sc w T V M tp vp mp) (hV : 0 < V.length) (hVd : V.length + d + 1 <= 1000) (ih : IhE d Nq ca cb co Ln cc C T M tp mp)
  (hca : 12 <= tk C Ln p 20 /\ tk C Ln p 20 < 14) :
  Calls Tryz.prog 119 #[.slice ca Ln cc,.int .i64 (p : Int),.agg #[.slice tp.a T.length tp.c,.slice vp.a V.length vp.c,.slice mp.a M.length mp.c],.int .i64 ((d : Int) + 1)] w (GnE w (PE (d + 1)) (XE (d + 1)) p):=by
 obtain ⟨i0,hi0,hz0,hz1,hz2⟩:=info_parts Tryz.infoEI
 obtain ⟨i9,hi9,hy0,hy1,hy2⟩:=info_parts Tryz.info9
 obtain ⟨hXd,hPd⟩:=XP_le hd
 obtain ⟨W1,W2,a,b,hW1,hW2,HB1,HB2,C1,C2,ha,ha20,hb64,HCX,HBS,HN2,HPX⟩:=e_pre w d hC (cc:=cc) (p:=p) hLn (by omega) hS
 rw [<- ha] at hca
 obtain ⟨x0,x1,x2⟩:=HCX.out W1 (Below.refl _ _)
 have HIH : Hid (∀ W q,Bw W1 W -> q <= Nq -> Calls Tryz.prog 119 #[.slice ca Ln cc,.int .i64 (q : Int),.agg #[.slice tp.a T.length tp.c,.slice vp.a V.length vp.c,.slice mp.a M.length mp.c],.int .i64 (d : Int)] W (GnE W (PE d) (XE d) q)):=fun W q hb hq=>ih W V vp q (HBS.out W hb).1 (HBS.out W hb).2 hV (by omega) hq
 obtain ⟨y0,y1,y2⟩:=HCX.out W2 HB2.out
 rw [hW2] at y0 y1 y2
 have dd : IntKind.i64.wrap ((d : Int) + 1 - 1) = (d : Int):=wk (by omega)
 have d0 : ¬ ((d : Int) + 1) <= 0:=by omega
 have q3 : ¬ (a : Int) < 4:=by omega
 have q4 : ((a : Int) == 4) = false:=bn2 (by omega)
 have q6 : ¬ (a : Int) < 7:=by omega
 have q7 : ((a : Int) == 7) = false:=bn2 (by omega)
 have q10 : ¬ (a : Int) < 10:=by omega
 have q12 : ¬ (a : Int) < 12:=by omega
 have q14 : (a : Int) < 14:=by omega
 obtain ⟨W3,hW3⟩:=xe (W2.alloc (.cells #[] 9))
 have HB3 : Hid (Bw W2 W3):=by rw [hW3];exact bel1 _ _
 have hs2 : W2.heap.size = W1.heap.size + 1:=by rw [hW2];simp
 have HG0 : Hid (RcE w W1 W3 (XE d) b 0 (some ⟨W1.heap.size,0,none⟩) 0 0 (some ⟨W1.heap.size + 1,0,none⟩) 0 []):=by
  rw [<- hs2]
  refine ⟨(HN2.out.below HB3.out).mono (nlr _) HB1.out.size (Nat.zero_le _),?_,fun _ h=>(List.not_mem_nil h).elim,HB2.out.trans (HB3.out.mono HB2.out.size)⟩
  rw [hW3]
  exact own_mono (World.ownsRow_lit W2 #[] 0 (nlr _) (by unfold maxLen;omega) (by rfl)) HB2.out.size
 obtain ⟨n,hn⟩:=xe (b % 4)
 have hn4 : n <= 3:=by omega
 have qn : Int.tmod (b : Int) 4 = (n : Int):=by rw [hn];exact tmodN b 4
 obtain ⟨b4,hb4⟩:=xe (b / 4)
 have qb4 : Int.tdiv (b : Int) 4 = (b4 : Int):=by rw [hb4];exact tdivN b 4
 have hb16 : b4 <= 16:=by omega
 have HNB : Hid (b4 = b / 4):=hb4
 clear hn hb4 hs2
 clear hC hS ha hV ih hca
 go_enter Tryz.func119,Tryz.ntmps119
 go_wp2_with fail
 rw [<- hW1]
 clear hW1
 refine C1.mono ?_
 rintro e w' ⟨rfl,rfl⟩
 go_wp2_with fail
 refine C2.mono ?_
 rintro e w' ⟨rfl,rfl⟩
 clear C1 C2
 clear y0 y1 y2
 go_wp2_with fail
 rw [<- hW2,<- hW3]
 clear hW2 hW3 x0 x1 x2
 go_loopw [1,13,18,19] (fun pp o ns i wr=>∃ (k q n1 c1 nc : Nat) (va na : Option Addr),k <= n /\ i = .int .i64 k /\ pp = .int .i64 q /\ p + 2 <= q /\ q <= p + 2 + k * PE d /\ o = .slice va n1 c1 /\ ns = .slice na k nc /\ Hid (∃ xs,RcE w W1 wr (XE d) b k va n1 c1 na nc xs)) (fun _ _ _ i _=>n - (intOf i).toNat)
 case atStart=>exact ⟨0,p + 2,0,0,0,_,_,by omega,rfl,by rfl,by omega,by omega,rfl,rfl,_,HG0.out⟩
 case round=>
  clear HG0 HN2 HB2 HB3
  obtain ⟨k,q,n1,c1,nc,va,na,hk,rfl,rfl,hq1,hq2,rfl,rfl,HG⟩:=hrel
  obtain ⟨xs,G0⟩:=HG.out
  have HK0 : Hid (Bw W1 wr):=G0.bel
  obtain ⟨y0,y1,y2⟩:=HCX.out wr HK0.out
  have hkP : k * PE d <= 3 * PE d:=Nat.mul_le_mul_right _ (by omega)
  have hkX : k * XE d <= 3 * XE d:=Nat.mul_le_mul_right _ (by omega)
  by_cases hlt : k < n
  ·have lk : (k : Int) < (n : Int):=by omega
   have HGX : Hid (RcE w W1 wr (XE d) b k va n1 c1 na nc xs):=G0
   have C3:=HIH.out wr q HK0.out (by omega)
   clear G0 HG
   go_wp2_with fail
   refine C3.mono ?_
   rintro e w3 ⟨⟨v3,n3,c3,q3,rfl,hr1,hr2,HG3⟩,HB3⟩
   clear C3 y0 y1 y2
   obtain ⟨ys,G⟩:=HG3.out
   have HGY : Hid (GE wr.heap.size wr.heap.size w3 v3 n3 c3 (XE d) ys):=G
   have HK3 : Hid (Bw W1 w3):=HK0.out.trans (HB3.out.mono HK0.out.size)
   have C4:=j_E w3 (HGX.out.ge.below HB3.out) (G.mono (nlr _) (Nat.le_trans HB1.out.size HK0.out.size) (nlr _)) (by omega)
   clear G HG3
   go_wp2_with fail
   refine C4.mono ?_
   rintro e w4 ⟨⟨v4,n4,c4,rfl,HR4⟩,HB4⟩
   clear C4
   obtain ⟨f,hf⟩:=xe ((b4 + k * 3) % 7)
   have wk3 : IntKind.i64.wrap ((k : Int) * 3) = (k : Int) * 3:=wk (by omega)
   have ws : IntKind.i64.wrap ((b4 : Int) + (k : Int) * 3) = (b4 : Int) + (k : Int) * 3:=wk (by omega)
   have m7 : Int.tmod ((b4 : Int) + (k : Int) * 3) 7 = (f : Int):=by
    have h:=tmodN (b4 + k * 3) 7
    rw [<- hf] at h
    rw [<- h]
    congr 1 <;> omega
   have C5:=d_field f k w4
   have HF : Hid (fldN f k = fldN ((b / 4 + k * 3) % 7) k):=by rw [hf,HNB.out];exact rfl
   have HK4 : Hid (Bw wr w4):=HB3.out.trans (HB4.out.mono HB3.out.size)
   have OWN : w4.ownsRow W1.heap.size 9 1 (.slice na k nc) k ((nmsG b k).map Value.string):=own_kp HGX.out.own (below_kp HK4.out) (by decide)
   have hw4 : W1.heap.size <= w4.heap.size:=Nat.le_trans HK0.out.size HK4.out.size
   clear hf
   go_wp2_with (first | (go_at_call 118;refine C5.mono ?_;rintro e w5 ⟨rfl,rfl⟩) | (at_builtin;refine wpList_append_lies _ rfl _ _ 66 rfl W1.heap.size 9 i9 _ 1 16 Tryz.underlying66 hi9 hy0 hy1 hy2 rfl (by omega) (.slice na k nc) k ((nmsG b k).map Value.string) rfl (OWN.alloc _) ⟨w5.heap.size,0,none⟩ 1 1 [.string (fldN f k)] rfl rfl (World.news_of_block (cs:=#[.string (fldN f k)]) (t:=9) (fr:=(0,0)) (heap_alloc_new w5 _)) (by simp [Value.oneCell']) (by omega) (by unfold maxLen;omega) (by omega) (by simp only [World.size_alloc];omega) (w5.heap.size + 1) (by simp) ?_;intro gg cap3 w6 hown3 hg3 hat3 hlt3))
   have hP : (k + 1) * PE d = k * PE d + PE d:=Nat.succ_mul _ _
   have hown4:=hown3
   rw [HF.out] at hown4
   refine ⟨⟨k + 1,q3,n4,c4,cap3,v4,_,by omega,by go_num,rfl,by omega,by omega,rfl,rfl,_,HGX.out.step HB3.out HB4.out HGY.out HR4.out hown4 hg3 hat3⟩,by simp [intOf];omega⟩
  ·have hkn : k = n:=by omega
   subst hkn
   have lk : ¬ (k : Int) < (k : Int):=by omega
   have HGX : Hid (RcE w W1 wr (XE d) b k va n1 c1 na nc xs):=G0
   have OWN:=G0.ge.own
   have hnl:=G0.ge.le
   have hsr : W1.heap.size <= wr.heap.size:=HK0.out.size
   clear G0 HG y0 y1 y2
   go_wp2_with (first | (at_builtin;refine wpList_append_lies _ rfl _ _ 44 rfl W1.heap.size 70 i0 _ 6 96 Tryz.underlying44 hi0 hz0 hz1 hz2 rfl (by omega) (.slice va n1 c1) n1 (eisC xs) rfl (OWN.alloc _) ⟨wr.heap.size,0,none⟩ 1 1 [.int .i64 4,.int .i64 0,.string ⟨#[]⟩,.string ⟨#[]⟩,.slice na k nc,.slice none 0 0] rfl rfl (World.news_of_block (cs:=#[.int .i64 4,.int .i64 0,.string ⟨#[]⟩,.string ⟨#[]⟩,.slice na k nc,.slice none 0 0]) (t:=70) (fr:=(0,0)) (heap_alloc_new wr _)) (by simp [Value.oneCell']) (by omega) (by unfold maxLen;omega) (by omega) (by simp only [World.size_alloc];omega) (wr.heap.size + 1) (by simp) ?_;intro gg cap3 w7 hown3 hg3 hat hlt3))
   go_ret2
   obtain ⟨g,hnm⟩:=nm_of_own (ns:=nmsG b k) (nmsG_len b k).symm (by have h:=HGX.out.own;rwa [map_sts] at h)
   have hcp:=own_cap HGX.out.own
   have hsz : szs (nmsG b k) <= 12 * (nmsG b k).length:=szs_le (fun s hs=>by
    unfold nmsG at hs
    obtain ⟨j,_,rfl⟩:=List.mem_map.1 hs
    exact gn_12 (fldN_ok _ _).1)
   rw [nmsG_len] at hsz
   have hcE : cE (⟨4,0,e0,e0,nmsG b k,[]⟩ : EI) <= 100:=by
    show e0.size + e0.size + cN (nmsG b k) + cTs [] <= 100
    have e00 : e0.size = 0:=rfl
    have e01 : cTs [] = 0:=rfl
    unfold cN
    rw [nmsG_len]
    omega
   have P:=HGX.out.ge.push (x:=((⟨4,0,e0,e0,nmsG b k,[]⟩ : EI),(⟨⟨na,g,nc⟩,.slice none 0 0,[]⟩ : EPl))) (X':=XE (d + 1)) (by rw [show eiC ((⟨4,0,e0,e0,nmsG b k,[]⟩ : EI),(⟨⟨na,g,nc⟩,.slice none 0 0,[]⟩ : EPl)) = [.int .i64 4,.int .i64 0,.string ⟨#[]⟩,.string ⟨#[]⟩,.slice na k nc,.slice none 0 0] by unfold eiC;rw [nmsG_len];rfl];exact hown3) hg3 ⟨hnm.mono HB1.out.size,⟨World.ownsRow_nil _ _ _ _,fun x hx=>by cases hx⟩,rfl⟩ ⟨by show (nmsG b k).length <= nc;rw [nmsG_len];exact hcp,fun y hy=>by cases hy⟩ (by show k * XE d + 1 + cE (⟨4,0,e0,e0,nmsG b k,[]⟩ : EI) <= _;have:=HPX.out.2;omega)
   refine ⟨⟨some ⟨gg,0,none⟩,n1 + 1,cap3,q,rfl,by omega,by have:=HPX.out.1;omega,_,P.mono HB1.out.size (nlr _) (nlr _)⟩,?_⟩
   exact below_grown (HB1.out.trans (HK0.out.mono HB1.out.size)) hg3 (fun j e=>Nat.le_trans HB1.out.size (OWN.lt j e).1)
end Go.Proofs.YtcehppndpccldaaGreatDoor
