/-
  QbG QbH
-/
import Derived.Test.YtcehppndpccldaaGreatDoorU1
set_option maxHeartbeats 4000000
set_option maxRecDepth 100000
namespace Go.Proofs.YtcehppndpccldaaGreatDoor
open Go.RowKit
theorem rt_nil (w : World) {B : Nat} (hB : B <= w.heap.size) : RT B (w.alloc (.cells #[] 99)) (.slice (some ⟨w.heap.size,0,none⟩) 0 0) []:=
 ⟨own_mono (World.ownsRow_lit w #[] 0 (nlr _) (by unfold maxLen;omega) (by rfl)) hB,fun x hx=>by cases hx⟩
theorem LP_le {d : Nat} (h : d <= 3) : LL d <= 40 /\ PP d <= 80:=by
 match d,h with
 | 0,_=>decide
 | 1,_=>decide
 | 2,_=>decide
 | 3,_=>decide
def IhT (w : World) (d N : Nat) (ca : Option Addr) (Ln cc : Nat) (T V M : List ByteArray) (tp vp mp : NPl) : Prop:=∀ (W : World) (q : Nat),Bw w W -> q <= N -> Calls Tryz.prog 90 #[.slice ca Ln cc,.int .i64 (q : Int),.agg #[.slice tp.a T.length tp.c,.slice vp.a V.length vp.c,.slice mp.a M.length mp.c],.int .i64 (d : Int)] W (GnT W d q)
theorem g_T_fun (w : World) (d : Nat) {ca : Option Addr} {cb co Ln cc p : Nat} {C : Nat -> Nat} (hC : BytesAt w ca cb co Ln C) (hLn : Ln <= 1048576) (hd : d <= 3) {Nq : Nat} (hp : p + 500 <= Nq) (hNq : Nq <= 1000000) {T V M : List ByteArray} {tp vp mp : NPl} (ih : IhT w d Nq ca Ln cc T V M tp vp mp)
  (h5 : 5 <= tk C Ln p 16) (h8 : ¬ (tk C Ln p 16 < 8 /\ 0 < T.length)) (h10 : ¬ (tk C Ln p 16 < 10 /\ 0 < M.length /\ 0 < T.length)) (h13 : tk C Ln p 16 < 13) (hlt : T.length <= 1000) (hlm : M.length <= 1000) :
  Calls Tryz.prog 90 #[.slice ca Ln cc,.int .i64 (p : Int),.agg #[.slice tp.a T.length tp.c,.slice vp.a V.length vp.c,.slice mp.a M.length mp.c],.int .i64 ((d : Int) + 1)] w (GnT w (d + 1) p):=by
 obtain ⟨i0,hi0,hz0,hz1,hz2⟩:=info_parts Tryz.infoTI
 obtain ⟨hLd,hPd⟩:=LP_le hd
 obtain ⟨W1,hW1⟩:=xe (w.alloc (.cells #[.slice tp.a T.length tp.c,.slice vp.a V.length vp.c,.slice mp.a M.length mp.c] 111))
 have B1 : Bw w W1:=by rw [hW1];exact bel1 _ _
 have HB1 : Hid (Bw w W1):=B1
 have C1:=d_take ca cb co Ln cc p 16 C W1 (hC.below B1) hLn (by omega) (by omega)
 have C2:=d_take ca cb co Ln cc (p + 1) 64 C W1 (hC.below B1) hLn (by omega) (by omega)
 obtain ⟨a,ha⟩:=xe (tk C Ln p 16)
 obtain ⟨b,hb⟩:=xe (tk C Ln (p + 1) 64)
 rw [<- ha] at C1 h5 h8 h10 h13
 rw [<- hb] at C2
 have HX : Hid (W1.rowIs w.heap.size 111 3 (v3 (.slice tp.a T.length tp.c) (.slice vp.a V.length vp.c) (.slice mp.a M.length mp.c))):=by rw [hW1];exact row3 w _ _ _ _
 have HCX : Hid (∀ W,Bw W1 W -> W.cell? ⟨w.heap.size,0,none⟩ = some (.slice tp.a T.length tp.c) /\ W.cell? ⟨w.heap.size,1,none⟩ = some (.slice vp.a V.length vp.c) /\ W.cell? ⟨w.heap.size,2,none⟩ = some (.slice mp.a M.length mp.c)):=fun W hb=>by
  have r:=HX.out.of_block (hb.block _ HX.out.lt)
  exact ⟨r.cell (i:=0) (by omega),r.cell (i:=1) (by omega),r.cell (i:=2) (by omega)⟩
 obtain ⟨x0,x1,x2⟩:=HCX.out W1 (Below.refl _ _)
 have HIH : Hid (IhT w d Nq ca Ln cc T V M tp vp mp):=ih
 clear hC ha hb B1 ih
 obtain ⟨W2,hW2⟩:=xe (W1.alloc (.cells #[] 99))
 have HB2 : Hid (Bw W1 W2):=by rw [hW2];exact bel1 _ _
 have HR0 : Hid (RT w.heap.size W2 (.slice (some ⟨W1.heap.size,0,none⟩) 0 0) []):=by rw [hW2];exact rt_nil W1 HB1.out.size
 obtain ⟨y0,y1,y2⟩:=HCX.out W2 HB2.out
 rw [hW2] at y0 y1 y2
 have C3:=HIH.out W2 (p + 1 + 1) (HB1.out.trans (HB2.out.mono HB1.out.size)) (by omega)
 have dd : IntKind.i64.wrap ((d : Int) + 1 - 1) = (d : Int):=wk (by omega)
 have d0 : ¬ ((d : Int) + 1) <= 0:=by omega
 have q3 : ¬ (a : Int) < 3:=by omega
 have q4 : ((a : Int) == 3) = false:=bn2 (by omega)
 have q5 : ((a : Int) == 4) = false:=bn2 (by omega)
 have q13 : (a : Int) < 13:=by omega
 go_enter Tryz.func90,Tryz.ntmps90
 go_wp2_with fail
 rw [<- hW1]
 clear hW1
 refine C1.mono ?_
 rintro e w' ⟨rfl,rfl⟩
 go_wp2_with fail
 refine C2.mono ?_
 rintro e w' ⟨rfl,rfl⟩
 clear C1 C2
 go_upto_region 10 with fail
 go_cut [51] (fun s wc=>s = .bool false /\ wc = W1)
 case first=>
  by_cases c8 : (a : Int) < 8 <;> by_cases cT : (0 : Int) < (T.length : Int)
  all_goals first
   | (exfalso;omega)
   | (clear h8 h10;go_wp2;go_meet;refine ⟨?_,rfl⟩;first | rfl | (refine congrArg Value.bool ?_;exact decide_eq_false (by omega)))
 case rest=>
  obtain ⟨rfl,hwc⟩:=hcut
  subst hwc
  go_upto_region 12 with fail
  go_cut [77] (fun s wd=>s = .bool false /\ wd = wc)
  case first=>
   by_cases c8 : (a : Int) < 10 <;> by_cases cT : (0 : Int) < (T.length : Int) <;> by_cases cM : (0 : Int) < (M.length : Int)
   all_goals first
    | (exfalso;omega)
    | (clear h8 h10;go_wp2;go_meet;refine ⟨?_,rfl⟩;first | rfl | (refine congrArg Value.bool ?_;exact decide_eq_false (by omega)))
  case rest=>
   obtain ⟨rfl,hwd⟩:=hcut
   subst hwd
   clear h8 h10 h5 h13
   go_wp2_with fail
   rw [<- hW2]
   clear hW2 y0 y1 y2 x0 x1 x2
   refine C3.mono ?_
   rintro e w3 ⟨⟨va,n,c,q,rfl,hq1,hq2,HG⟩,HB3⟩
   clear C3
   obtain ⟨xs,G⟩:=HG.out
   have hxn:=G.len
   have hxl:=G.le
   have HGX : Hid (okT (xs.map Prod.fst) = true /\ (∀ x,x ∈ xs -> SmG x) /\ xs.length <= LL d):=⟨G.ok,G.sm,by omega⟩
   have HK3 : Hid (Bw wc w3):=HB2.out.trans (HB3.out.mono HB2.out.size)
   have C4:=m_joinT w3 (HR0.out.below HB3.out) (G.rt.mono (Nat.le_trans HB1.out.size HB2.out.size)) (by show 0 + xs.length <= 100000;omega) (Nat.le_trans HB1.out.size HK3.out.size)
   clear G HG HB3 hxn hxl
   go_wp2_with fail
   refine C4.mono ?_
   rintro e w4 ⟨⟨v1,n1,c1,rfl,HR1⟩,HB4⟩
   clear C4
   have HK4 : Hid (Bw wc w4):=HK3.out.trans (HB4.out.mono HK3.out.size)
   obtain ⟨y0,y1,y2⟩:=HCX.out w4 HK4.out
   have C5:=HIH.out w4 q (HB1.out.trans (HK4.out.mono HB1.out.size)) (by omega)
   clear HB4 HK3
   go_wp2_with fail
   refine C5.mono ?_
   rintro e w5 ⟨⟨va2,m2,c2,q2,rfl,hr1,hr2,HG2⟩,HB5⟩
   clear C5 y0 y1 y2
   obtain ⟨ys,G⟩:=HG2.out
   have hyn:=G.len
   have hyl:=G.le
   have HGY : Hid (okT (ys.map Prod.fst) = true /\ (∀ x,x ∈ ys -> SmG x) /\ ys.length <= LL d):=⟨G.ok,G.sm,by omega⟩
   have HK5 : Hid (Bw wc w5):=HK4.out.trans (HB5.out.mono HK4.out.size)
   have C6:=m_joinT w5 (HR1.out.below HB5.out) (G.rt.mono (Nat.le_trans HB1.out.size HK4.out.size)) (by have:=HGX.out.2.2;rw [List.nil_append];omega) (Nat.le_trans HB1.out.size HK5.out.size)
   clear G HG2 hyn hyl HR1 HR0
   go_wp2_with fail
   refine C6.mono ?_
   rintro e w6 ⟨⟨va3,n3,c3,rfl,HR3⟩,HB6⟩
   clear C6
   have HK6 : Hid (Bw wc w6):=HK5.out.trans (HB6.out.mono HK5.out.size)
   obtain ⟨zs,hzs⟩:=xe (([] ++ xs) ++ ys)
   rw [<- hzs] at HR3
   have HZS : Hid (zs = ([] ++ xs) ++ ys):=hzs
   have hn3 : n3 = zs.length:=own_len HR3.out.own
   subst hn3
   have hzl : zs.length <= 80:=by rw [hzs,List.nil_append,lap];have:=HGX.out.2.2;have:=HGY.out.2.2;omega
   have OWN:=HR3.out.own
   have hs6 : w.heap.size <= w6.heap.size:=Nat.le_trans HB1.out.size HK6.out.size
   clear hzs HB6 HK5 HB5 HK4
   go_wp2_with (first | (at_builtin;refine wpList_append_lies _ rfl _ _ 43 rfl w.heap.size 99 i0 _ 4 64 Tryz.underlying43 hi0 hz0 hz1 hz2 rfl (by omega) (.slice va3 zs.length c3) zs.length (tisC zs) rfl (OWN.alloc _) ⟨w6.heap.size,0,none⟩ 1 1 [.int .i64 6,.string ⟨#[]⟩,.string ⟨#[]⟩,.slice none 0 0] rfl rfl (World.news_of_block (cs:=#[.int .i64 6,.string ⟨#[]⟩,.string ⟨#[]⟩,.slice none 0 0]) (t:=99) (fr:=(0,0)) (heap_alloc_new w6 _)) (by simp [Value.oneCell']) (by omega) (by unfold maxLen;omega) (by omega) (by simp;omega) (w6.heap.size + 1) (by simp) ?_;intro gg cap3 w7 hown3 hg3 hat hlt3))
   go_ret2
   have P:=HR3.out.push (x:=(tyO 6,⟨none,0,0⟩)) hown3 hg3 (NmOK.nil _ _ _)
   have hz:=HZS.out
   rw [List.nil_append] at hz
   have l1:=HGX.out.2.2
   have l2:=HGY.out.2.2
   have hzl2 : zs.length = xs.length + ys.length:=by rw [hz,lap]
   refine ⟨⟨some ⟨gg,0,none⟩,zs.length + 1,cap3,q2,rfl,by omega,?_,zs ++ [(tyO 6,⟨none,0,0⟩)],⟨P,by rw [lap];rfl,by omega,?_,?_,fun x hx=>?_⟩⟩,below_grown (HB1.out.trans (HK6.out.mono HB1.out.size)) hg3 (fun k e=>(OWN.lt k e).1)⟩
   ·show q2 <= p + (2 + 3 * PP d)
    omega
   ·show zs.length + 1 <= 3 * LL d + 1
    omega
   ·rw [List.map_append,hz,List.map_append]
    exact ok_fun HGX.out.1 HGY.out.1
   ·rcases List.mem_append.1 hx with h | h
    ·rw [hz] at h
     rcases List.mem_append.1 h with h | h
     ·exact HGX.out.2.1 x h
     ·exact HGY.out.2.1 x h
    ·rw [ms1 h]
     exact sm_lit 6 (by decide) (by decide)
def nmsG (b k : Nat) : List ByteArray:=(List.range k).map fun j=>fldN ((b / 4 + j * 3) % 7) j
theorem nmsG_succ (b k : Nat) : nmsG b (k + 1) = nmsG b k ++ [fldN ((b / 4 + k * 3) % 7) k]:=by
 unfold nmsG
 rw [List.range_succ,List.map_append]
 rfl
theorem nmsG_len (b k : Nat) : (nmsG b k).length = k:=by unfold nmsG;rw [List.length_map,List.length_range]
theorem hasN_ne {ns : List ByteArray} {s : ByteArray} (h : ∀ x,x ∈ ns -> x ≠ s) : hasN ns s = false:=by
 unfold hasN
 rw [List.any_eq_false]
 intro x hx e
 have : x.data.toList = s.data.toList:=beq_iff_eq.1 e
 exact h x hx (ByteArray.ext (Array.toList_inj.1 this))
theorem nmsG_ok (b : Nat) {k : Nat} (hk : k <= 3) : nmOk (nmsG b k) = true:=by
 unfold nmOk
 rw [List.all_eq_true]
 intro i hi
 rw [nmsG_len,List.mem_range] at hi
 have g : ∀ j,j < k -> (nmsG b k).getD j e0 = fldN ((b / 4 + j * 3) % 7) j:=fun j hj=>by
  rw [List.getD_eq_getElem?_getD]
  unfold nmsG
  rw [List.getElem?_map,List.getElem?_range hj]
  rfl
 rw [g i hi,(fldN_ok _ _).1,Bool.true_and]
 rw [hasN_ne]
 ·rfl
 ·intro x hx
  have hx2 : ∃ j,j < i /\ x = fldN ((b / 4 + j * 3) % 7) j:=by
   have e : (nmsG b k).take i = nmsG b i:=by
    unfold nmsG
    rw [<- List.map_take,List.take_range,Nat.min_eq_left (by omega)]
   rw [e] at hx
   unfold nmsG at hx
   obtain ⟨j,hj,rfl⟩:=List.mem_map.1 hx
   exact ⟨j,List.mem_range.1 hj,rfl⟩
  obtain ⟨j,hj,rfl⟩:=hx2
  have hi3 : i < 3:=by omega
  match i,j,hj,hi3 with
  | 1,0,_,_=>exact (fldN_ne _ _).1
  | 2,0,_,_=>exact (fldN_ne _ _).2.1
  | 2,1,_,_=>exact (fldN_ne _ _).2.2
theorem rt_names {B Bn m : Nat} {w w5 : World} {v nv : Value} {xs : List (TI × NPl)} {l : List Value} {o : Obj} (h : RT B w v xs) (hn : w.ownsRow Bn 9 1 nv m l) (hg : (w.alloc o).grownBy w5 nv.ownBlock) (hs : ∀ x,x ∈ xs -> x.1.ns ≠ [] -> some x.2.b ≠ nv.ownBlock) : RT B w5 v xs:=by
 have hk : Kp 9 w w5:=(kp_alloc _ w o).trans (grown_kp (hn.alloc o) hg)
 refine ⟨own_kp h.own hk (by decide),fun x hx hne=>?_⟩
 obtain ⟨e,hb,N,f,r,hl,hf⟩:=h.nm x hx hne
 exact ⟨e,hb,N,f,r.of_block ((hg.block _ (by have:=r.lt;simp;omega) (hs x hx hne)).trans (Below.heap_alloc _ _ _ r.lt)),hl,hf⟩
theorem own_cap {B : Nat} {w : World} {t : TypeId} {size n c : Nat} {va : Option Addr} {xs : List Value} (h : w.ownsRow B t size (.slice va n c) n xs) : n <= c:=by
 obtain ⟨_,h2⟩:=h
 rcases h2 with ⟨hv,h3⟩ | ⟨g,cap,cur,hv,_,_,hc,hm,_⟩
 ·omega
 ·simp only [Value.slice.injEq] at hv
  omega
theorem map_sts (l : List ByteArray) : l.map Value.string = sts l:=by
 induction l with
 | nil=>rfl
 | cons a l ih=>show _ :: _ = _ :: _;rw [ih];rfl
structure RcG (w W1 wr : World) (d b k : Nat) (va : Option Addr) (n c : Nat) (na : Option Addr) (nc : Nat) (xs : List (TI × NPl)) : Prop where
 rt : RT w.heap.size wr (.slice va n c) xs
 le : xs.length <= k * LL d
 hv : vld (aT (xs.map Prod.fst)) (xs.map Prod.fst).length = some k
 sm : ∀ x,x ∈ xs -> SmG x
 own : wr.ownsRow W1.heap.size 9 1 (.slice na k nc) k ((nmsG b k).map Value.string)
 sep : ∀ x,x ∈ xs -> x.1.ns ≠ [] -> some x.2.b ≠ (Value.slice na k nc).ownBlock
 bel : Bw W1 wr
theorem RcG.step {w W1 wr w2 w3 w5 : World} {d b k : Nat} {va : Option Addr} {n c : Nat} {na : Option Addr} {nc gg cap : Nat} {xs ys : List (TI × NPl)} {v3 : Option Addr} {n3 c3 : Nat} {o : Obj} (h : RcG w W1 wr d b k va n c na nc xs)
  (B2 : Bw wr w2) (B3 : Bw w2 w3) (hy : RT wr.heap.size w2 (.slice v3 n3 c3) ys) (hyl : ys.length <= LL d) (hyo : okT (ys.map Prod.fst) = true) (hys : ∀ x,x ∈ ys -> SmG x) {u : Option Addr} {m cc : Nat} (hr : RT w.heap.size w3 (.slice u m cc) (xs ++ ys))
  (hown : w5.ownsRow W1.heap.size 9 1 (.slice (some ⟨gg,0,none⟩) (k + 1) cap) (k + 1) ((nmsG b k).map Value.string ++ [.string (fldN ((b / 4 + k * 3) % 7) k)])) (hg : (w3.alloc o).grownBy w5 (Value.slice na k nc).ownBlock) (hat : (Value.slice na k nc).ownBlock = some gg \/ gg = w3.heap.size + 1) :
  RcG w W1 w5 d b (k + 1) u m cc (some ⟨gg,0,none⟩) cap (xs ++ ys):=by
 have b23 : Bw wr w3:=B2.trans (B3.mono B2.size)
 have own3 : w3.ownsRow W1.heap.size 9 1 (.slice na k nc) k ((nmsG b k).map Value.string):=own_kp h.own (below_kp b23) (by decide)
 have sep3 : ∀ x,x ∈ xs ++ ys -> x.1.ns ≠ [] -> some x.2.b ≠ (Value.slice na k nc).ownBlock:=fun x hx hne=>by
  rcases List.mem_append.1 hx with z | z
  ·exact h.sep x z hne
  ·intro e
   have h1:=(h.own.lt _ e.symm).2
   have h2:=(hy.nm x z hne).2.1
   omega
 have hrt:=rt_names hr own3 hg sep3
 refine ⟨hrt,?_,?_,fun x hx=>?_,?_,fun x hx hne=>?_,?_⟩
 ·rw [lap,Nat.add_mul]
  have:=h.le
  omega
 ·rw [List.map_append]
  exact hv_app h.hv hyo
 ·rcases List.mem_append.1 hx with z | z
  ·exact h.sm x z
  ·exact hys x z
 ·rw [nmsG_succ,List.map_append]
  exact hown
 ·rcases hat with e | e
  ·have:=sep3 x hx hne
   rw [e] at this
   exact this
  ·intro e2
   have e3 : x.2.b = gg:=Option.some.inj e2
   obtain ⟨_,_,N,f,r,_,_⟩:=hr.nm x hx hne
   have:=r.lt
   omega
 ·have hs3 : W1.heap.size <= w3.heap.size:=Nat.le_trans h.bel.size b23.size
  have b3 : Bw W1 w3:=h.bel.trans (b23.mono h.bel.size)
  exact below_grown b3 hg (fun j e=>(own3.lt j e).1)
theorem g_T_rec (w : World) (d : Nat) {ca : Option Addr} {cb co Ln cc p : Nat} {C : Nat -> Nat} (hC : BytesAt w ca cb co Ln C) (hLn : Ln <= 1048576) (hd : d <= 3) {Nq : Nat} (hp : p + 500 <= Nq) (hNq : Nq <= 1000000) {T V M : List ByteArray} {tp vp mp : NPl} (ih : IhT w d Nq ca Ln cc T V M tp vp mp)
  (h13 : 13 <= tk C Ln p 16) :
  Calls Tryz.prog 90 #[.slice ca Ln cc,.int .i64 (p : Int),.agg #[.slice tp.a T.length tp.c,.slice vp.a V.length vp.c,.slice mp.a M.length mp.c],.int .i64 ((d : Int) + 1)] w (GnT w (d + 1) p):=by
 obtain ⟨i0,hi0,hz0,hz1,hz2⟩:=info_parts Tryz.infoTI
 obtain ⟨i9,hi9,hy0,hy1,hy2⟩:=info_parts Tryz.info9
 obtain ⟨hLd,hPd⟩:=LP_le hd
 obtain ⟨W1,hW1⟩:=xe (w.alloc (.cells #[.slice tp.a T.length tp.c,.slice vp.a V.length vp.c,.slice mp.a M.length mp.c] 111))
 have B1 : Bw w W1:=by rw [hW1];exact bel1 _ _
 have HB1 : Hid (Bw w W1):=B1
 have C1:=d_take ca cb co Ln cc p 16 C W1 (hC.below B1) hLn (by omega) (by omega)
 have C2:=d_take ca cb co Ln cc (p + 1) 64 C W1 (hC.below B1) hLn (by omega) (by omega)
 obtain ⟨a,ha⟩:=xe (tk C Ln p 16)
 obtain ⟨b,hb⟩:=xe (tk C Ln (p + 1) 64)
 have hb64 : b < 64:=by rw [hb];exact tk_lt (by omega)
 rw [<- ha] at C1 h13
 rw [<- hb] at C2
 have HX : Hid (W1.rowIs w.heap.size 111 3 (v3 (.slice tp.a T.length tp.c) (.slice vp.a V.length vp.c) (.slice mp.a M.length mp.c))):=by rw [hW1];exact row3 w _ _ _ _
 have HCX : Hid (∀ W,Bw W1 W -> W.cell? ⟨w.heap.size,0,none⟩ = some (.slice tp.a T.length tp.c) /\ W.cell? ⟨w.heap.size,1,none⟩ = some (.slice vp.a V.length vp.c) /\ W.cell? ⟨w.heap.size,2,none⟩ = some (.slice mp.a M.length mp.c)):=fun W hb=>by
  have r:=HX.out.of_block (hb.block _ HX.out.lt)
  exact ⟨r.cell (i:=0) (by omega),r.cell (i:=1) (by omega),r.cell (i:=2) (by omega)⟩
 obtain ⟨x0,x1,x2⟩:=HCX.out W1 (Below.refl _ _)
 have HIH : Hid (IhT w d Nq ca Ln cc T V M tp vp mp):=ih
 clear hC ha hb B1 ih
 obtain ⟨W2,hW2⟩:=xe (W1.alloc (.cells #[] 99))
 have HB2 : Hid (Bw W1 W2):=by rw [hW2];exact bel1 _ _
 have HR0 : Hid (RT w.heap.size W2 (.slice (some ⟨W1.heap.size,0,none⟩) 0 0) []):=by rw [hW2];exact rt_nil W1 HB1.out.size
 obtain ⟨W3,hW3⟩:=xe (W2.alloc (.cells #[] 9))
 have HB3 : Hid (Bw W2 W3):=by rw [hW3];exact bel1 _ _
 have hs2 : W2.heap.size = W1.heap.size + 1:=by rw [hW2];simp
 have HG0 : Hid (RcG w W1 W3 d b 0 (some ⟨W1.heap.size,0,none⟩) 0 0 (some ⟨W1.heap.size + 1,0,none⟩) 0 []):=by
  rw [<- hs2]
  refine ⟨HR0.out.below HB3.out,Nat.zero_le _,rfl,fun _ h=>(List.not_mem_nil h).elim,?_,fun _ h=>(List.not_mem_nil h).elim,HB2.out.trans (HB3.out.mono HB2.out.size)⟩
  rw [hW3]
  exact own_mono (World.ownsRow_lit W2 #[] 0 (nlr _) (by unfold maxLen;omega) (by rfl)) HB2.out.size
 obtain ⟨n,hn⟩:=xe (b % 4)
 have hn4 : n <= 3:=by omega
 have qn : Int.tmod (b : Int) 4 = (n : Int):=by rw [hn];exact tmodN b 4
 obtain ⟨b4,hb4⟩:=xe (b / 4)
 have qb4 : Int.tdiv (b : Int) 4 = (b4 : Int):=by rw [hb4];exact tdivN b 4
 have hb16 : b4 <= 16:=by omega
 have HNB : Hid (b4 = b / 4):=hb4
 clear hn hb4 hs2
 have dd : IntKind.i64.wrap ((d : Int) + 1 - 1) = (d : Int):=wk (by omega)
 have d0 : ¬ ((d : Int) + 1) <= 0:=by omega
 have q3 : ¬ (a : Int) < 3:=by omega
 have q4 : ((a : Int) == 3) = false:=bn2 (by omega)
 have q5 : ((a : Int) == 4) = false:=bn2 (by omega)
 have q13 : ¬ (a : Int) < 13:=by omega
 go_enter Tryz.func90,Tryz.ntmps90
 go_wp2_with fail
 rw [<- hW1]
 clear hW1
 refine C1.mono ?_
 rintro e w' ⟨rfl,rfl⟩
 go_wp2_with fail
 refine C2.mono ?_
 rintro e w' ⟨rfl,rfl⟩
 clear C1 C2
 go_upto_region 10 with fail
 go_cut [51] (fun s wc=>s = .bool false /\ wc = W1)
 case first=>
  by_cases c8 : (a : Int) < 8 <;> by_cases cT : (0 : Int) < (T.length : Int)
  all_goals first
   | (exfalso;omega)
   | (go_wp2;go_meet;refine ⟨?_,rfl⟩;first | rfl | (refine congrArg Value.bool ?_;exact decide_eq_false (by omega)))
 case rest=>
  obtain ⟨rfl,hwc⟩:=hcut
  subst hwc
  go_upto_region 12 with fail
  go_cut [77] (fun s wd=>s = .bool false /\ wd = wc)
  case first=>
   by_cases c8 : (a : Int) < 10 <;> by_cases cT : (0 : Int) < (T.length : Int) <;> by_cases cM : (0 : Int) < (M.length : Int)
   all_goals first
    | (exfalso;omega)
    | (go_wp2;go_meet;refine ⟨?_,rfl⟩;first | rfl | (refine congrArg Value.bool ?_;exact decide_eq_false (by omega)))
  case rest=>
   obtain ⟨rfl,hwd⟩:=hcut
   subst hwd
   clear h13
   clear x0 x1 x2
   go_wp2_with fail
   rw [<- hW2,<- hW3]
   clear hW2 hW3
   go_loopw [1,13,15,16] (fun pp o ns i wr=>∃ (k q n1 c1 nc : Nat) (va na : Option Addr),k <= n /\ i = .int .i64 k /\ pp = .int .i64 q /\ p + 2 <= q /\ q <= p + 2 + k * PP d /\ o = .slice va n1 c1 /\ ns = .slice na k nc /\ Hid (∃ xs,RcG w wc wr d b k va n1 c1 na nc xs)) (fun _ _ _ i _=>n - (intOf i).toNat)
   case atStart=>exact ⟨0,p + 2,0,0,0,_,_,by omega,rfl,by rfl,by omega,by omega,rfl,rfl,_,HG0.out⟩
   case round=>
    clear HG0 HR0 HB2 HB3
    obtain ⟨k,q,n1,c1,nc,va,na,hk,rfl,rfl,hq1,hq2,rfl,rfl,HG⟩:=hrel
    obtain ⟨xs,G0⟩:=HG.out
    have HK0 : Hid (Bw wc wr):=G0.bel
    obtain ⟨y0,y1,y2⟩:=HCX.out wr HK0.out
    have hxl:=G0.le
    have hkP : k * PP d <= 3 * PP d:=Nat.mul_le_mul_right _ (by omega)
    have hkL : k * LL d <= 3 * LL d:=Nat.mul_le_mul_right _ (by omega)
    by_cases hlt : k < n
    ·have lk : (k : Int) < (n : Int):=by omega
     have HGX : Hid (RcG w wc wr d b k va n1 c1 na nc xs):=G0
     have C3:=HIH.out wr q (HB1.out.trans (HK0.out.mono HB1.out.size)) (by omega)
     clear G0 HG
     go_wp2_with fail
     refine C3.mono ?_
     rintro e w3 ⟨⟨v3,n3,c3,q3,rfl,hr1,hr2,HG3⟩,HB3⟩
     clear C3 y0 y1 y2
     obtain ⟨ys,G⟩:=HG3.out
     have hyl:=G.le
     have hyn:=G.len
     have HGY : Hid (RT wr.heap.size w3 (.slice v3 n3 c3) ys /\ okT (ys.map Prod.fst) = true /\ (∀ x,x ∈ ys -> SmG x) /\ ys.length <= LL d):=⟨G.rt,G.ok,G.sm,by omega⟩
     have HK3 : Hid (Bw wc w3):=HK0.out.trans (HB3.out.mono HK0.out.size)
     have C4:=m_joinT w3 (HGX.out.rt.below HB3.out) (G.rt.mono (Nat.le_trans HB1.out.size HK0.out.size)) (by omega) (Nat.le_trans HB1.out.size HK3.out.size)
     clear G HG3 hyn hyl
     go_wp2_with fail
     refine C4.mono ?_
     rintro e w4 ⟨⟨v4,n4,c4,rfl,HR4⟩,HB4⟩
     clear C4
     obtain ⟨f,hf⟩:=xe ((b4 + k * 3) % 7)
     have wk3 : IntKind.i64.wrap ((k : Int) * 3) = (k : Int) * 3:=wk (by omega)
     have ws : IntKind.i64.wrap ((b4 : Int) + (k : Int) * 3) = (b4 : Int) + (k : Int) * 3:=wk (by omega)
     have m7 : Int.tmod ((b4 : Int) + (k : Int) * 3) 7 = (f : Int):=by
      have h:=tmodN (b4 + k * 3) 7
      rw [<- hf] at h
      rw [<- h]
      congr 1 <;> omega
     have C5:=d_field f k w4
     have HF : Hid (fldN f k = fldN ((b / 4 + k * 3) % 7) k):=by rw [hf,HNB.out];exact rfl
     have HK4 : Hid (Bw wr w4):=HB3.out.trans (HB4.out.mono HB3.out.size)
     have OWN : w4.ownsRow wc.heap.size 9 1 (.slice na k nc) k ((nmsG b k).map Value.string):=own_kp HGX.out.own (below_kp HK4.out) (by decide)
     have hw4 : wc.heap.size <= w4.heap.size:=Nat.le_trans HK0.out.size HK4.out.size
     clear hf
     go_wp2_with (first | (go_at_call 118;refine C5.mono ?_;rintro e w5 ⟨rfl,rfl⟩) | (at_builtin;refine wpList_append_lies _ rfl _ _ 66 rfl wc.heap.size 9 i9 _ 1 16 Tryz.underlying66 hi9 hy0 hy1 hy2 rfl (by omega) (.slice na k nc) k ((nmsG b k).map Value.string) rfl (OWN.alloc _) ⟨w5.heap.size,0,none⟩ 1 1 [.string (fldN f k)] rfl rfl (World.news_of_block (cs:=#[.string (fldN f k)]) (t:=9) (fr:=(0,0)) (heap_alloc_new w5 _)) (by simp [Value.oneCell']) (by omega) (by unfold maxLen;omega) (by omega) (by simp only [World.size_alloc];omega) (w5.heap.size + 1) (by simp) ?_;intro gg cap3 w6 hown3 hg3 hat3 hlt3))
     have hP : (k + 1) * PP d = k * PP d + PP d:=Nat.succ_mul _ _
     have hown4:=hown3
     rw [HF.out] at hown4
     refine ⟨⟨k + 1,q3,n4,c4,cap3,v4,_,by omega,by go_num,rfl,by omega,by omega,rfl,rfl,_,HGX.out.step HB3.out HB4.out HGY.out.1 HGY.out.2.2.2 HGY.out.2.1 HGY.out.2.2.1 HR4.out hown4 hg3 hat3⟩,by simp [intOf];omega⟩
    ·have hkn : k = n:=by omega
     subst hkn
     have lk : ¬ (k : Int) < (k : Int):=by omega
     have hn1 : n1 = xs.length:=own_len G0.rt.own
     subst hn1
     have HGX : Hid (RcG w wc wr d b k va xs.length c1 na nc xs):=G0
     have OWN:=G0.rt.own
     have hsr : w.heap.size <= wr.heap.size:=Nat.le_trans HB1.out.size HK0.out.size
     clear G0 HG y0 y1 y2
     go_wp2_with (first | (at_builtin;refine wpList_append_lies _ rfl _ _ 43 rfl w.heap.size 99 i0 _ 4 64 Tryz.underlying43 hi0 hz0 hz1 hz2 rfl (by omega) (.slice va xs.length c1) xs.length (tisC xs) rfl (OWN.alloc _) ⟨wr.heap.size,0,none⟩ 1 1 [.int .i64 5,.string ⟨#[]⟩,.string ⟨#[]⟩,.slice na k nc] rfl rfl (World.news_of_block (cs:=#[.int .i64 5,.string ⟨#[]⟩,.string ⟨#[]⟩,.slice na k nc]) (t:=99) (fr:=(0,0)) (heap_alloc_new wr _)) (by simp [Value.oneCell']) (by omega) (by unfold maxLen;omega) (by omega) (by simp;omega) (wr.heap.size + 1) (by simp) ?_;intro gg cap3 w7 hown3 hg3 hat hlt3))
     go_ret2
     obtain ⟨g,hnm⟩:=nm_of_own (ns:=nmsG b k) (nmsG_len b k).symm (by have h:=HGX.out.own;rwa [map_sts] at h)
     have hcp:=own_cap HGX.out.own
     have P:=HGX.out.rt.push (x:=((⟨5,e0,e0,nmsG b k⟩ : TI),(⟨na,g,nc⟩ : NPl))) (by rw [show tiC ((⟨5,e0,e0,nmsG b k⟩ : TI),(⟨na,g,nc⟩ : NPl)) = [.int .i64 5,.string ⟨#[]⟩,.string ⟨#[]⟩,.slice na k nc] by unfold tiC;rw [nmsG_len];rfl];exact hown3) hg3 (hnm.mono HB1.out.size)
     refine ⟨⟨some ⟨gg,0,none⟩,xs.length + 1,cap3,q,rfl,by omega,?_,_,⟨P,by rw [lap];rfl,by omega,?_,?_,fun x hx=>?_⟩⟩,below_grown (HB1.out.trans (HK0.out.mono HB1.out.size)) hg3 (fun j e=>(OWN.lt j e).1)⟩
     ·show q <= p + (2 + 3 * PP d)
      omega
     ·show xs.length + 1 <= 3 * LL d + 1
      omega
     ·rw [List.map_append]
      exact ok_rec (by rw [nmsG_len];exact HGX.out.hv) (nmsG_ok b hn4)
     ·rcases List.mem_append.1 hx with h | h
      ·exact HGX.out.sm x h
      ·rw [ms1 h]
       refine ⟨by show (nmsG b k).length <= nc;rw [nmsG_len];exact hcp,by show (nmsG b k).length <= 3;rw [nmsG_len];exact hn4,by show (0 : Nat) <= 12;omega,by show (0 : Nat) <= 12;omega,fun s hs=>?_⟩
       have hs2 : s ∈ nmsG b k:=hs
       unfold nmsG at hs2
       obtain ⟨j,_,rfl⟩:=List.mem_map.1 hs2
       exact gn_12 (fldN_ok _ _).1
theorem g_T (w0 : World) {ca : Option Addr} {cb co Ln cc : Nat} {C : Nat -> Nat} (hC : BytesAt w0 ca cb co Ln C) (hLn : Ln <= 1048576) {T V M : List ByteArray} {tp vp mp : NPl} (hS : Sc w0 T V M tp vp mp) :
  ∀ (d : Nat),d <= 4 -> ∀ (w : World) (p : Nat),Bw w0 w -> p + 500 * d <= 1000000 -> Calls Tryz.prog 90 #[.slice ca Ln cc,.int .i64 (p : Int),.agg #[.slice tp.a T.length tp.c,.slice vp.a V.length vp.c,.slice mp.a M.length mp.c],.int .i64 (d : Int)] w (GnT w d p):=by
 intro d
 induction d with
 | zero=>intro _ w p hb hp;exact g_T_lit w 0 (hC.below hb) hLn (by omega) (hS.below hb) (by omega) (.inr (.inr (.inr rfl)))
 | succ d ih=>
   intro hd w p hb hp
   obtain ⟨Nq,hNq⟩ : ∃ Nq,Nq = 1000000 - 500 * d:=⟨_,rfl⟩
   have IH : IhT w d Nq ca Ln cc T V M tp vp mp:=fun W q hB hq=>ih (by omega) W q (hb.trans (hB.mono hb.size)) (by omega)
   have hp1 : p + 500 <= Nq:=by omega
   have hp2 : Nq <= 1000000:=by omega
   clear hNq
   have e1 : ((d + 1 : Nat) : Int) = (d : Int) + 1:=by omega
   by_cases h5 : tk C Ln p 16 < 5
   ·exact g_T_lit w (d + 1) (hC.below hb) hLn (by omega) (hS.below hb) (by omega) (.inl h5)
   by_cases h8 : tk C Ln p 16 < 8 /\ 0 < T.length
   ·exact g_T_lit w (d + 1) (hC.below hb) hLn (by omega) (hS.below hb) (by omega) (.inr (.inl h8))
   by_cases h10 : tk C Ln p 16 < 10 /\ 0 < M.length /\ 0 < T.length
   ·exact g_T_lit w (d + 1) (hC.below hb) hLn (by omega) (hS.below hb) (by omega) (.inr (.inr (.inl ⟨h10.1,h10.2.2,h10.2.1⟩)))
   rw [e1]
   by_cases h13 : tk C Ln p 16 < 13
   ·exact g_T_fun w d (hC.below hb) hLn (by omega) hp1 hp2 IH (by omega) h8 h10 h13 hS.lt.1 hS.lm.1
   ·exact g_T_rec w d (hC.below hb) hLn (by omega) hp1 hp2 IH (by omega)
end Go.Proofs.YtcehppndpccldaaGreatDoor
