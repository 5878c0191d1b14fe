/-
  VcB VcC VcD
-/
import Derived.Test.YtcehppndpccldaaGreatDoorT5
import Derived.Test.YtcehppndpccldaaGreatDoorT4
set_option maxHeartbeats 4000000
set_option maxRecDepth 100000
namespace Go.Proofs.YtcehppndpccldaaGreatDoor
open Go.RowKit
def SzE (t : EI) : Prop:=t.ns.length <= 1048576 /\ (∀ k,k < t.ns.length -> (t.ns.getD k e0).size <= 1048576) /\ t.md.size <= 1048576 /\ t.nm.size <= 1048576
structure EsA (w : World) (v : Value) (xs : List (EI × EPl)) : Prop where
 re : ∃ B,RE B w v xs
 cap : ∀ x,x ∈ xs -> x.1.ns.length <= x.2.np.c
 sz : ∀ x,x ∈ xs -> SzE x.1
 len : xs.length <= 1048576
 ty : ∀ x,x ∈ xs -> (∀ y,y ∈ x.2.zs -> y.1.ns.length <= y.2.c /\ SzT y.1) /\ x.2.zs.length <= 1048576
theorem EsA.below {w w' : World} {v : Value} {xs : List (EI × EPl)} (h : EsA w v xs) (hb : Bw w w') : EsA w' v xs:=⟨by obtain ⟨B,r⟩:=h.re;exact ⟨B,r.below hb⟩,h.cap,h.sz,h.len,h.ty⟩
theorem EsA.form {w : World} {v : Value} {xs : List (EI × EPl)} (h : EsA w v xs) : ∃ a c,v = .slice a xs.length c:=by obtain ⟨B,r⟩:=h.re;exact own_form r.own
theorem EsA.item {w : World} {a : Option Addr} {c : Nat} {xs : List (EI × EPl)} (h : EsA w (.slice a xs.length c) xs) {k : Nat} (hk : k < xs.length) : ∃ g ta tc,a = some ⟨g,0,none⟩ /\ w.cell? ⟨g,k * 6,none⟩ = some (Value.int .i64 xs[k].1.op) /\ w.cell? ⟨g,k * 6 + 1,none⟩ = some (Value.int .i64 xs[k].1.num) /\ w.cell? ⟨g,k * 6 + 2,none⟩ = some (Value.string xs[k].1.md) /\ w.cell? ⟨g,k * 6 + 3,none⟩ = some (Value.string xs[k].1.nm) /\ w.cell? ⟨g,k * 6 + 4,none⟩ = some (Value.slice xs[k].2.np.a xs[k].1.ns.length xs[k].2.np.c) /\ w.cell? ⟨g,k * 6 + 5,none⟩ = some (Value.slice ta xs[k].1.ty.length tc) /\ EiA w xs[k].1 xs[k].2 /\ xs[k].2.tv = .slice ta xs[k].1.ty.length tc:=by
 obtain ⟨B,r⟩:=h.re
 obtain ⟨g,gc,ev,_⟩:=own_blk r.own (show 0 < xs.length by omega)
 simp only [Value.slice.injEq] at ev
 obtain ⟨rfl,-,rfl⟩:=ev
 have hx:=List.getElem_mem hk
 have sz:=h.sz _ hx
 have ok:=r.ok _ hx
 obtain ⟨ta,tc,htv⟩:=own_form ok.ty.own
 have hzl : xs[k].2.zs.length = xs[k].1.ty.length:=by rw [<- ok.is,List.length_map]
 rw [hzl] at htv
 have ty:=h.ty _ hx
 exact ⟨g,ta,tc,rfl,own_at (f:=eiC) eiC_len r.own (j:=k) (r:=0) rfl hk (by omega) rfl,own_at (f:=eiC) eiC_len r.own rfl hk (by omega) rfl,own_at (f:=eiC) eiC_len r.own rfl hk (by omega) rfl,own_at (f:=eiC) eiC_len r.own rfl hk (by omega) rfl,own_at (f:=eiC) eiC_len r.own rfl hk (by omega) rfl,own_at (f:=eiC) eiC_len r.own rfl hk (by omega) (by rw [<- htv];rfl),⟨ok.nm.nsa,sz.1,sz.2.1,h.cap _ hx,sz.2.2.1,sz.2.2.2,⟨⟨B,ok.ty⟩,fun y hy=>(ty.1 y hy).1,fun y hy=>(ty.1 y hy).2,ty.2⟩,ok.is⟩,htv⟩
theorem aE_at {l : List EI} {xs : List (EI × EPl)} (hl : xs.map Prod.fst = l) {k : Nat} (hk : k < xs.length) : aE l k = (fE xs[k].1).map fun f=>f.needs.length:=by
 unfold aE
 rw [<- hl,List.getElem?_map,List.getElem?_eq_getElem hk]
 rfl
theorem v_exprOk (w : World) {v : Value} {xs : List (EI × EPl)} (h : EsA w v xs) {l : List EI} (hl : xs.map Prod.fst = l) :
  Calls Tryz.prog 64 #[v] w fun e w'=>e = .returned (.bool (okE l)) /\ Bw w w':=by
 obtain ⟨a,c,rfl⟩:=h.form
 have HB : Hid (∀ W,Bw w W -> EsA W (.slice a xs.length c) xs):=fun W hb=>h.below hb
 have HL : Hid (xs.map Prod.fst = l):=hl
 have hlen:=h.len
 have HLL : Hid (l.length = xs.length):=by show _ = _;rw [<- hl,List.length_map]
 obtain ⟨b,hb⟩:=xe (okE l)
 have HO : Hid (okE l = b):=hb.symm
 rw [<- hb]
 clear h hl hb
 go_enter Tryz.func64,Tryz.ntmps64
 go_wp2
 go_loopw [3,4] (fun hd i wr=>∃ k m : Nat,k <= xs.length /\ m <= k /\ i = .int .i64 k /\ hd = .int .i64 m /\ Hid (vld (aE l) k = some m) /\ Hid (Bw w wr)) (fun _ i _=>xs.length - (intOf i).toNat)
 case atStart=>exact ⟨0,0,Nat.zero_le _,nlr _,rfl,rfl,rfl,Below.refl _ _⟩
 case round=>
  obtain ⟨k,m,hk,hmk,rfl,rfl,HV,HW⟩:=hrel
  by_cases hlt : k < xs.length
  ·obtain ⟨g,ta,tc,rfl,y0,y1,y2,y3,y4,y5,ti,htv⟩:=(HB.out wr HW.out).item hlt
   have HA : Hid (aE l k = (fE xs[k].1).map fun f=>f.needs.length):=aE_at HL.out hlt
   obtain ⟨X,hX⟩:=xe (xs[k])
   rw [<- hX] at y0 y1 y2 y3 y4 y5 ti HA htv
   have C : Hid (Calls Tryz.prog 99 #[.agg #[.int .i64 X.1.op,.int .i64 X.1.num,.string X.1.md,.string X.1.nm,.slice X.2.np.a X.1.ns.length X.2.np.c,.slice ta X.1.ty.length tc]] wr fun e w'=>e = .returned (.int .i64 (arI (fE X.1))) /\ Bw wr w'):=v_arE wr ti htv
   clear ti htv hX
   cases hf : fE X.1 with
   | none=>
     have HF : Hid (b = false):=by
      show _ = _
      rw [<- HO.out]
      have : vld (aE l) (k + 1) = none:=by rw [vld,HV.out,HA.out,hf];rfl
      unfold okE
      rw [vld_none this (by rw [HLL.out];omega)]
      rfl
     rw [hf] at C
     have C' : Hid (Calls Tryz.prog 99 #[.agg #[.int .i64 X.1.op,.int .i64 X.1.num,.string X.1.md,.string X.1.nm,.slice X.2.np.a X.1.ns.length X.2.np.c,.slice ta X.1.ty.length tc]] wr fun e w'=>e = .returned (.int .i64 (-1)) /\ Bw wr w'):=C
     clear hf C
     go_wp2_with (first | (go_at_call 99;refine C'.out.mono ?_;rintro e w2 ⟨rfl,hb2⟩))
     go_ret
     exact ⟨by rw [HF.out];rfl,HW.out.trans (hb2.mono HW.out.size)⟩
   | some f=>
     obtain ⟨n,hn⟩:=xe (f.needs.length)
     have HS : Hid (vld (aE l) (k + 1) = if n <= m then some (m - n + 1) else none):=by show _ = _;rw [vld,HV.out,HA.out,hf,hn];rfl
     rw [hf] at C
     have C' : Hid (Calls Tryz.prog 99 #[.agg #[.int .i64 X.1.op,.int .i64 X.1.num,.string X.1.md,.string X.1.nm,.slice X.2.np.a X.1.ns.length X.2.np.c,.slice ta X.1.ty.length tc]] wr fun e w'=>e = .returned (.int .i64 (n : Int)) /\ Bw wr w'):=by rw [hn];exact C
     clear hf C HA hn
     have n0 : ¬ (n : Int) < 0:=by omega
     by_cases hnm : n <= m
     ·have HT : Hid (vld (aE l) (k + 1) = some (m - n + 1)):=by show _ = _;rw [HS.out,if_pos hnm]
      have n1 : ¬ (m : Int) < (n : Int):=by omega
      have wd : IntKind.i64.wrap ((m : Int) - (n : Int)) = (m : Int) - (n : Int):=wk (by omega)
      have wd2 : IntKind.i64.wrap ((m : Int) - (n : Int) + 1) = (m : Int) - (n : Int) + 1:=wk (by omega)
      go_wp2_with (first | (go_at_call 99;refine C'.out.mono ?_;rintro e w2 ⟨rfl,hb2⟩))
      have HW2 : Hid (Bw w w2):=HW.out.trans (hb2.mono HW.out.size)
      go_roundw
      case rel=>exact ⟨k + 1,m - n + 1,by omega,by omega,by go_num,by congr 1;omega,HT,HW2⟩
      case measure=>simp [intOf];omega
     ·have HF : Hid (b = false):=by
       show _ = _
       rw [<- HO.out]
       have : vld (aE l) (k + 1) = none:=by rw [HS.out,if_neg hnm]
       unfold okE
       rw [vld_none this (by rw [HLL.out];omega)]
       rfl
      have n1 : (m : Int) < (n : Int):=by omega
      go_wp2_with (first | (go_at_call 99;refine C'.out.mono ?_;rintro e w2 ⟨rfl,hb2⟩))
      go_ret
      exact ⟨by rw [HF.out];rfl,HW.out.trans (hb2.mono HW.out.size)⟩
  ·have hkn : k = xs.length:=by omega
   subst hkn
   have HF : Hid (b = decide (m = 1)):=by
    show _ = _
    rw [<- HO.out]
    unfold okE
    rw [HLL.out,HV.out]
    by_cases e : m = 1
    ·subst e;rfl
    ·rw [decide_eq_false e,beq_eq_false_iff_ne];exact fun z=>e (Option.some.inj z)
   by_cases e : m = 1
   ·have b1 : ((m : Int) == 1) = true:=beq_iff_eq.2 (by omega)
    have HF2 : Hid (b = true):=by show _ = _;rw [HF.out,decide_eq_true e]
    clear e
    go_wp2
    go_ret
    exact ⟨by rw [HF2.out];rfl,HW.out⟩
   ·have b1 : ((m : Int) == 1) = false:=bn2 (by omega)
    have HF2 : Hid (b = false):=by show _ = _;rw [HF.out,decide_eq_false e]
    clear e
    go_wp2
    go_ret
    exact ⟨by rw [HF2.out];rfl,HW.out⟩
def ArE (l : List EI) (e : Nat) : Prop:=∀ j,j < e -> aE l j = some (FE l j).needs.length
theorem arI_atE {l : List EI} {xs : List (EI × EPl)} (hl : xs.map Prod.fst = l) {e k : Nat} (h : ArE l e) (hk : k < e) (hx : k < xs.length) : arI (fE xs[k].1) = ((FE l k).needs.length : Int):=by
 have h1:=h k hk
 rw [aE_at hl hx] at h1
 cases hf : fE xs[k].1 with
 | none=>rw [hf] at h1;cases h1
 | some f=>
   rw [hf] at h1
   show (f.needs.length : Int) = _
   have h2 : f.needs.length = (FE l k).needs.length:=Option.some.inj h1
   rw [h2]
theorem fE_le {t : EI} {f : Fm} (h : fE t = some f) (hz : t.ns.length <= 1048576) : f.needs.length <= 1048576:=by
 have sm : ∀ {g : Fm},g.needs.length <= 3 -> some g = some f -> f.needs.length <= 1048576:=fun h1 e=>by cases e;omega
 unfold fE at h
 refine if_some h (fun h=>if_some h (sm (by simp)) none_some) fun h=>?_
 refine if_some h (fun h=>?_) none_some
 refine if_some h (fun h=>if_some h (sm (by simp)) none_some) fun h=>?_
 refine if_some h (fun h=>?_) none_some
 refine if_some h (fun h=>if_some h (sm (by simp)) none_some) fun h=>?_
 refine if_some h (fun h=>?_) none_some
 refine if_some h (fun h=>if_some h (fun e=>by cases e;rw [(brc_ok _ _ _).2.1];exact hz) none_some) fun h=>?_
 refine if_some h (fun h=>?_) none_some
 refine if_some h (fun h=>if_some h (sm (by simp)) none_some) fun h=>?_
 refine if_some h (fun h=>if_some h (sm (by simp)) (fun h=>if_some h (sm (by simp)) none_some)) fun h=>?_
 refine if_some h (fun h=>?_) none_some
 refine if_some h (sm (by simp)) fun h=>?_
 refine if_some h (sm (by simp)) fun h=>?_
 refine if_some h (sm (by simp)) fun h=>?_
 exact if_some h (sm (by simp)) none_some
theorem FE_le {l : List EI} {xs : List (EI × EPl)} (hl : xs.map Prod.fst = l) (hs : ∀ x,x ∈ xs -> SzE x.1) (k : Nat) : (FE l k).needs.length <= 1048576:=by
 unfold FE
 cases h : (l[k]?).bind fE with
 | none=>exact Nat.zero_le _
 | some f=>
   obtain ⟨t,ht,hf⟩:=Option.bind_eq_some_iff.1 h
   have htx : t ∈ l:=List.mem_of_getElem? ht
   rw [<- hl] at htx
   obtain ⟨x,hx,rfl⟩:=List.mem_map.1 htx
   exact fE_le hf (hs x hx).1
theorem v_estart (w : World) {v : Value} {xs : List (EI × EPl)} (h : EsA w v xs) {l : List EI} (hl : xs.map Prod.fst = l) {e : Nat} (he : e <= xs.length) (har : ArE l e) {z : Int} (hz : z = e) :
  Calls Tryz.prog 133 #[v,.int .i64 z] w fun r w'=>r = .returned (.int .i64 (back (fun i=>(FE l i).needs.length) e 1 : Nat)) /\ Bw w w':=by
 subst hz
 obtain ⟨a,c,rfl⟩:=h.form
 have HB : Hid (∀ W,Bw w W -> EsA W (.slice a xs.length c) xs):=fun W hb=>h.below hb
 have hlen:=h.len
 have HAR : Hid (∀ k (hk : k < xs.length),k < e -> arI (fE xs[k].1) = ((FE l k).needs.length : Int)):=fun k hk hke=>arI_atE hl har hke hk
 have HLE : Hid (∀ k,(FE l k).needs.length <= 1048576):=FE_le hl h.sz
 obtain ⟨ar,har2⟩ : ∃ ar : Nat -> Nat,ar = fun i=>(FE l i).needs.length:=⟨_,rfl⟩
 have HARD : Hid (∀ k,(FE l k).needs.length = ar k):=fun k=>by rw [har2]
 rw [<- har2]
 obtain ⟨R,hR⟩:=xe (back ar e 1)
 have HR : Hid (back ar e 1 = R):=hR.symm
 rw [<- hR]
 clear h hl har har2 hR
 go_enter Tryz.func133,Tryz.ntmps133
 go_wp2
 go_loopw [5,6] (fun nd i wr=>∃ k m : Nat,k <= e /\ m <= 1 + (e - k) * 1048576 /\ i = .int .i64 k /\ nd = .int .i64 m /\ Hid (back ar k m = R) /\ Hid (Bw w wr)) (fun _ i _=>(intOf i).toNat)
 case atStart=>exact ⟨e,1,nlr _,by omega,rfl,rfl,HR,Below.refl _ _⟩
 case round=>
  obtain ⟨k,m,hk,hm,rfl,rfl,HV,HW⟩:=hrel
  by_cases hk0 : 0 < k
  ·by_cases hm0 : 0 < m
   ·obtain ⟨k',rfl⟩ : ∃ k',k = k' + 1:=⟨k - 1,by omega⟩
    have hx : k' < xs.length:=by omega
    obtain ⟨g,ta,tc,rfl,y0,y1,y2,y3,y4,y5,ti,htv⟩:=(HB.out wr HW.out).item hx
    have HA:=HAR.out k' hx (by omega)
    rw [HARD.out] at HA
    have hle : ar k' <= 1048576:=by rw [<- HARD.out];exact HLE.out k'
    obtain ⟨X,hX⟩:=xe (xs[k'])
    rw [<- hX] at y0 y1 y2 y3 y4 y5 ti HA htv
    obtain ⟨n,hn⟩:=xe (ar k')
    rw [<- hn] at HA hle
    have C : Hid (Calls Tryz.prog 99 #[.agg #[.int .i64 X.1.op,.int .i64 X.1.num,.string X.1.md,.string X.1.nm,.slice X.2.np.a X.1.ns.length X.2.np.c,.slice ta X.1.ty.length tc]] wr fun e w'=>e = .returned (.int .i64 (n : Int)) /\ Bw wr w'):=by rw [<- HA];exact v_arE wr ti htv
    have HN : Hid (back ar k' (m - 1 + n) = R):=by
     show _ = _
     rw [<- HV.out,back,if_neg (by omega),hn]
    have hm2 : m - 1 + n <= 1 + (e - k') * 1048576:=by
     have : (e - k') * 1048576 = (e - (k' + 1)) * 1048576 + 1048576:=by
      rw [show e - k' = (e - (k' + 1)) + 1 by omega,Nat.add_mul,Nat.one_mul]
     omega
    have hmb : m <= 2000000000000:=by
     have : (e - (k' + 1)) * 1048576 <= 1048576 * 1048576:=Nat.mul_le_mul_right _ (by omega)
     omega
    have kp : (0 : Int) < (k' : Int) + 1:=by omega
    have mp : (0 : Int) < (m : Int):=by omega
    have w1 : IntKind.i64.wrap ((k' : Int) + 1 - 1) = (k' : Int):=wk (by omega)
    have w1' : IntKind.i64.wrap (k' : Int) = (k' : Int):=wk (by omega)
    have w2 : IntKind.i64.wrap ((m : Int) - 1) = (m : Int) - 1:=wk (by omega)
    have w3 : IntKind.i64.wrap ((m : Int) - 1 + (n : Int)) = (m : Int) - 1 + (n : Int):=wk (by omega)
    have hxl : (k' : Int) < (xs.length : Int):=by omega
    have hx0 : (0 : Int) <= (k' : Int):=by omega
    clear ti htv hX HA hn hm
    go_wp2_with (first | (go_at_call 99;refine C.out.mono ?_;rintro e w2 ⟨rfl,hb2⟩))
    have HW2 : Hid (Bw w w2):=HW.out.trans (hb2.mono HW.out.size)
    clear hb2
    go_roundw
    case rel=>exact ⟨k',m - 1 + n,by omega,hm2,by first | rfl | (congr 1;omega) | go_num,by congr 1;omega,HN,HW2⟩
    case measure=>simp [intOf]
   ·have hm1 : m = 0:=by omega
    subst hm1
    have HF : Hid (R = k):=by show _ = _;rw [<- HV.out,back_zero]
    have kp : (0 : Int) < (k : Int):=by omega
    go_wp2
    go_ret
    exact ⟨by rw [HF.out];rfl,HW.out⟩
  ·have hk1 : k = 0:=by omega
   subst hk1
   have HF : Hid (R = 0):=by show _ = _;rw [<- HV.out];rfl
   go_wp2
   go_ret
   exact ⟨by rw [HF.out];rfl,HW.out⟩
theorem v_eparts (w : World) {v : Value} {xs : List (EI × EPl)} (h : EsA w v xs) {l : List EI} (hl : xs.map Prod.fst = l) {e : Nat} (he : e < xs.length) (har : ArE l (e + 1)) {z : Int} (hz : z = ((e + 1 : Nat) : Int)) :
  Calls Tryz.prog 103 #[v,.int .i64 z] w fun r w'=>∃ va cp,r = .returned (.slice va (FE l e).needs.length cp) /\ w'.ownsRow w.heap.size 3 1 (.slice va (FE l e).needs.length cp) (FE l e).needs.length (inC (pts (fun i=>(FE l i).needs.length) (FE l e).needs.length e)) /\ Bw w w':=by
 subst hz
 rw [show ((e + 1 : Nat) : Int) = (e : Int) + 1 by omega]
 obtain ⟨a,c,rfl⟩:=h.form
 obtain ⟨i0,hi0,hz0,hz1,hz2⟩:=info_parts Tryz.infoInt
 have hlen:=h.len
 have HIT : Hid (∀ W,Bw w W -> ∃ g ta tc,a = some ⟨g,0,none⟩ /\ W.cell? ⟨g,e * 6,none⟩ = some (Value.int .i64 xs[e].1.op) /\ W.cell? ⟨g,e * 6 + 1,none⟩ = some (Value.int .i64 xs[e].1.num) /\ W.cell? ⟨g,e * 6 + 2,none⟩ = some (Value.string xs[e].1.md) /\ W.cell? ⟨g,e * 6 + 3,none⟩ = some (Value.string xs[e].1.nm) /\ W.cell? ⟨g,e * 6 + 4,none⟩ = some (Value.slice xs[e].2.np.a xs[e].1.ns.length xs[e].2.np.c) /\ W.cell? ⟨g,e * 6 + 5,none⟩ = some (Value.slice ta xs[e].1.ty.length tc) /\ Hid (Calls Tryz.prog 99 #[.agg #[.int .i64 xs[e].1.op,.int .i64 xs[e].1.num,.string xs[e].1.md,.string xs[e].1.nm,.slice xs[e].2.np.a xs[e].1.ns.length xs[e].2.np.c,.slice ta xs[e].1.ty.length tc]] W fun r w'=>r = .returned (.int .i64 ((FE l e).needs.length : Int)) /\ Hid (Bw W w'))):=fun W hb=>by
  obtain ⟨g,ta,tc,r1,y0,y1,y2,y3,y4,y5,ti,htv⟩:=(h.below hb).item he
  refine ⟨g,ta,tc,r1,y0,y1,y2,y3,y4,y5,?_⟩
  have:=v_arE W ti htv
  rw [arI_atE hl har (Nat.lt_succ_self _) he] at this
  exact this
 have HST : Hid (∀ (W : World) (k : Nat) (z : Int),Bw w W -> k <= e -> z = k -> Calls Tryz.prog 133 #[.slice a xs.length c,.int .i64 z] W fun r w'=>r = .returned (.int .i64 (back (fun i=>(FE l i).needs.length) k 1 : Nat)) /\ Bw W w'):=fun W k z hb hk hz=>v_estart W (h.below hb) hl (by omega) (fun j hj=>har j (by omega)) hz
 obtain ⟨X,hX⟩:=xe (xs[e])
 obtain ⟨n,hn⟩:=xe ((FE l e).needs.length)
 have hnb : n <= 1048576:=by rw [hn];exact FE_le hl h.sz e
 obtain ⟨ar,har2⟩ : ∃ ar : Nat -> Nat,ar = fun i=>(FE l i).needs.length:=⟨_,rfl⟩
 rw [<- har2] at HST
 rw [<- hX,<- hn] at HIT
 rw [<- hn,<- har2]
 have ST : Hid ((w.alloc (.cells #[] 3)).ownsRow w.heap.size 3 1 (.slice (some ⟨w.heap.size,0,none⟩) 0 0) 0 (inC (pts ar 0 e))):=World.ownsRow_lit (e:=3) (size:=1) w #[] 0 (nlr _) (by unfold maxLen;omega) (by rfl)
 clear h hl har har2 hn hX
 go_enter Tryz.func103,Tryz.ntmps103
 have we1 : IntKind.i64.wrap ((e : Int) + 1 - 1) = (e : Int):=wk (by omega)
 have we2 : IntKind.i64.wrap (e : Int) = (e : Int):=wk (by omega)
 have hel : (e : Int) < (xs.length : Int):=by omega
 have he0 : (0 : Int) <= (e : Int):=by omega
 go_wp2
 go_loopw [5,6,7,8,9] (fun o at_ i _ _ wr=>∃ (k : Nat) (oa : Option Addr) (oc : Nat),k <= n /\ i = .int .i64 k /\ at_ = .int .i64 (itB ar k e : Nat) /\ o = .slice oa k oc /\ Hid (wr.ownsRow w.heap.size 3 1 (.slice oa k oc) k (inC (pts ar k e))) /\ Hid (Bw w wr)) (fun _ _ i _ _ _=>n - (intOf i).toNat)
 case atStart=>exact ⟨0,_,_,Nat.zero_le _,rfl,by first | rfl | (simp [itB]),rfl,ST,bel1 _ _⟩
 case round=>
  clear ST
  obtain ⟨k,oa,oc,hk,rfl,rfl,rfl,HO,HW⟩:=hrel
  obtain ⟨g,ta,tc,rfl,y0,y1,y2,y3,y4,y5,CA⟩:=HIT.out wr HW.out
  obtain ⟨tt,htt⟩:=xe (itB ar k e)
  have hte : tt <= e:=by rw [htt];exact itB_le _ _ _
  have HTT : Hid (itB ar k e = tt):=htt.symm
  rw [<- htt]
  clear htt
  by_cases hlt : k < n
  ·have lk : (k : Int) < (n : Int):=by omega
   go_wp2_with fail
   refine CA.out.mono ?_
   rintro r w2 ⟨rfl,HW2⟩
   have HW2' : Hid (Bw w w2):=HW.out.trans (HW2.out.mono HW.out.size)
   have HO2 : Hid (w2.ownsRow w.heap.size 3 1 (.slice oa k oc) k (inC (pts ar k e))):=own_block HO.out (fun b e=>HW2.out.block b (HO.out.lt b e.symm).2)
   have hw2:=HW2'.out.size
   have ST2 : Hid ((w2.alloc (.cells #[.int .i64 (tt : Int)] 3)).ownsRow w2.heap.size 3 1 (.slice (some ⟨w2.heap.size,0,none⟩) 1 1) (0 + 1) (inC (tt :: (pts ar k e).take 0))):=by
    have:=World.ownsRow_lit (e:=3) (size:=1) w2 #[.int .i64 (tt : Int)] 1 (nlr _) (by unfold maxLen;omega) (by rfl)
    exact this
   clear CA HW2 y0 y1 y2 y3 y4 y5
   go_wp2
   go_loopw [8,9] (fun nx j wr=>∃ (m : Nat) (na : Option Addr) (nc : Nat),m <= k /\ j = .int .i64 m /\ nx = .slice na (m + 1) nc /\ Hid (wr.ownsRow w2.heap.size 3 1 (.slice na (m + 1) nc) (m + 1) (inC (tt :: (pts ar k e).take m))) /\ Hid (Bw w2 wr)) (fun _ j _=>k - (intOf j).toNat)
   case atStart=>exact ⟨0,_,_,Nat.zero_le _,rfl,rfl,ST2,bel1 _ _⟩
   case round=>
    rename World=>wi
    clear ST2
    obtain ⟨m,na,nc,hm,rfl,rfl,HN,HB2⟩:=hrel
    have hwi:=HB2.out.size
    by_cases hmk : m < k
    ·have HOi : Hid (wi.ownsRow w.heap.size 3 1 (.slice oa k oc) k (inC (pts ar k e))):=own_block HO2.out (fun b e=>HB2.out.block b (HO2.out.lt b e.symm).2)
     obtain ⟨go,gc,ev,_⟩:=own_blk HOi.out (show 0 < k by omega)
     simp only [Value.slice.injEq] at ev
     obtain ⟨rfl,-,rfl⟩:=ev
     have hpl:=pts_len ar k e
     have cm : wi.cell? ⟨go,m,none⟩ = some (.int .i64 ((pts ar k e)[m]'(by omega) : Nat)):=own_int (es:=pts ar k e) (by rw [hpl];exact HOi.out) rfl (by omega)
     obtain ⟨x,hx⟩:=xe ((pts ar k e)[m]'(by omega))
     rw [<- hx] at cm
     have HTK : Hid ((pts ar k e).take (m + 1) = (pts ar k e).take m ++ [x]):=by
      show _ = _
      rw [List.take_add_one,List.getElem?_eq_getElem (by omega),hx];rfl
     clear hpl hx
     go_wp2_with (first | (at_builtin;refine wpList_append_lies _ rfl _ _ 126 rfl w2.heap.size 3 i0 _ 1 8 Tryz.underlying126 hi0 hz0 hz1 hz2 rfl (by omega) (.slice na (m + 1) nc) (m + 1) (inC (tt :: (pts ar k e).take m)) rfl (HN.out.alloc _) ⟨wi.heap.size,0,none⟩ 1 1 [.int .i64 (x : Int)] rfl rfl (World.news_of_block (cs:=#[.int .i64 (x : Int)]) (t:=3) (fr:=(0,0)) (heap_alloc_new wi _)) (by simp [Value.oneCell']) (by omega) (by unfold maxLen;omega) (by omega) (by simp only [World.size_alloc];omega) (wi.heap.size + 1) (by simp) ?_;intro gg cap3 w5 hown3 hg3 hat3 hlt3))
     have HN5 : Hid (Bw w2 w5):=below_grown2 HB2.out hg3 (fun b e=>(HN.out.lt b e).1)
     refine ⟨⟨m + 1,_,_,by omega,by go_num,rfl,?_,HN5⟩,by simp [intOf];omega⟩
     show World.ownsRow _ _ _ _ _ _ _
     rw [HTK.out,show tt :: ((pts ar k e).take m ++ [x]) = (tt :: (pts ar k e).take m) ++ [x] from rfl,inC_snoc]
     exact hown3
    ·have hmk2 : m = k:=by omega
     subst hmk2
     have HF : Hid (wi.ownsRow w.heap.size 3 1 (.slice na (m + 1) nc) (m + 1) (inC (pts ar (m + 1) e))):=by
      have:=HN.out
      rw [List.take_of_length_le (by rw [pts_len];exact nlr _),<- HTT.out,<- pts_cons] at this
      exact own_mono this (by omega)
     have HWi : Hid (Bw w wi):=HW2'.out.trans (HB2.out.mono hw2)
     have CS:=HST.out wi tt (tt : Int) HWi.out hte rfl
     have HBK : Hid (back ar tt 1 = itB ar (m + 1) e):=by show _ = _;rw [<- HTT.out];rfl
     clear HN
     go_wp2_with (first | (go_at_call 133;refine CS.mono ?_;rintro r w6 ⟨rfl,hb6⟩))
     have HF6 : Hid (w6.ownsRow w.heap.size 3 1 (.slice na (m + 1) nc) (m + 1) (inC (pts ar (m + 1) e))):=own_block HF.out (fun b e=>hb6.block b (HF.out.lt b e.symm).2)
     have HW6 : Hid (Bw w w6):=HWi.out.trans (hb6.mono HWi.out.size)
     clear hb6
     go_roundw
     case rel=>exact ⟨m + 1,na,nc,by omega,by go_num,by rw [HBK.out],rfl,HF6,HW6⟩
     case measure=>simp [intOf];omega
  ·have hkn : k = n:=by omega
   subst hkn
   have lk : ¬ (k : Int) < (k : Int):=by omega
   go_wp2_with fail
   refine CA.out.mono ?_
   rintro r w2 ⟨rfl,HW2⟩
   have HW2' : Hid (Bw w w2):=HW.out.trans (HW2.out.mono HW.out.size)
   have HO2 : Hid (w2.ownsRow w.heap.size 3 1 (.slice oa k oc) k (inC (pts ar k e))):=own_block HO.out (fun b e=>HW2.out.block b (HO.out.lt b e.symm).2)
   go_wp2
   go_ret
   exact ⟨_,_,rfl,HO2.out,HW2'.out⟩
theorem ret_s {a b : ByteArray} (h : a = b) : Ending.returned (.string a) = .returned (.string b):=by rw [h]
theorem m_down : ∀ (n : Nat) (w : World),n <= 9223372036854775808 ->
  Calls Tryz.prog 132 #[.int .i64 (-(n : Int))] w fun e w'=>e = .returned (.string (digs n)) /\ ∃ k,w' = w.drewN k:=by
 intro n
 induction n using Nat.strongRecOn with
 | ind n ih=>
   intro w hn
   obtain ⟨d,hd⟩:=xe (n % 10)
   have hd10 : d < 10:=by omega
   have t3 : (n : Int) % 10 = (d : Int):=by omega
   have sz : (⟨#[48,49,50,51,52,53,54,55,56,57]⟩ : ByteArray).size = 10:=rfl
   have b1 : (d : Int) + 1 <= 10:=by omega
   have b2 : (0 : Int) <= (d : Int) + 1:=by omega
   have b3 : (d : Int) <= (d : Int) + 1:=by omega
   have b4 : ((d : Int) + 1).toNat = d + 1:=by omega
   have hw : IntKind.i64.wrap ((d : Int) + 1) = (d : Int) + 1:=wk (by omega)
   by_cases h : n < 10
   ·have HE : Hid (digits10.extract d (d + 1) = digs n):=by
     show _ = _
     rw [digs,if_pos h,hd,Nat.mod_eq_of_lt h]
    clear ih hd
    go_enter Tryz.func132,Tryz.ntmps132
    go_wp2
    go_ret
    exact ⟨ret_s HE.out,0,rfl⟩
   ·have HE : Hid (digs (n / 10) ++ digits10.extract d (d + 1) = digs n):=by
     show _ = _
     rw [digs.eq_1 n,if_neg h,hd]
    have q1 : (n : Int) / 10 = ((n / 10 : Nat) : Int):=by omega
    have hs : (digs (n / 10)).size <= 20:=digs_size 20 (n / 10) (by omega) (by omega)
    have h1:=dig_one d hd10
    have CH : Hid (∀ w,Calls Tryz.prog 132 #[.int .i64 (-((n / 10 : Nat) : Int))] w fun e w'=>e = .returned (.string (digs (n / 10))) /\ ∃ k,w' = w.drewN k):=fun w=>ih (n / 10) (by omega) w (by omega)
    obtain ⟨m,hm⟩:=xe (n / 10)
    rw [<- hm] at CH q1 hs HE
    have HM : Hid (m = n / 10):=hm
    have wr : IntKind.i64.wrap (-(m : Int)) = -(m : Int):=wk (by omega)
    clear ih hd hm
    go_enter Tryz.func132,Tryz.ntmps132
    go_wp2_with fail
    go_quiet (first | (go_at_call 132;exact Calls.quiet_of (CH.out _)))
    go_wp2
    go_ret
    exact ⟨ret_s HE.out,_,rfl⟩
theorem v_show (n : Nat) (w : World) (h2 : n <= 999999999) :
  Calls Tryz.prog 102 #[.int .i64 (n : Int)] w fun e w'=>e = .returned (.string (shN n)) /\ ∃ k,w' = w.drewN k:=by
 have CH : Hid (∀ w,Calls Tryz.prog 132 #[.int .i64 (-(n : Int))] w fun e w'=>e = .returned (.string (shN n)) /\ ∃ k,w' = w.drewN k):=fun w=>m_down n w (by omega)
 have h : ¬ (n : Int) < 0:=by omega
 have wr : IntKind.i64.wrap (-(n : Int)) = -(n : Int):=wk (by omega)
 go_enter Tryz.func102,Tryz.ntmps102
 go_wp2_with fail
 refine (CH.out _).mono ?_
 rintro e w5 ⟨rfl,nq,rfl⟩
 go_wp2
 go_ret
 exact ⟨rfl,_,rfl⟩
def lvE (op : Int) : Nat:=if op = 6 \/ op = 8 then 0 else if op = 10 then 1 else if op = 9 then 2 else if op = 5 \/ op = 7 then 3 else 4
theorem v_level (op : Int) (w : World) : Calls Tryz.prog 134 #[.int .i64 op] w fun e w'=>e = .returned (.int .i64 (lvE op : Int)) /\ w' = w:=by
 obtain ⟨r,hr⟩:=xe (lvE op)
 have HR : Hid (lvE op = r):=hr.symm
 rw [<- hr]
 clear hr
 go_enter Tryz.func134,Tryz.ntmps134
 by_cases h6 : op = 6
 ·have b6 : (op == 6) = true:=beq_iff_eq.2 h6
  have HE : Hid (r = 0):=by show _ = _;rw [<- HR.out,h6];rfl
  clear h6
  go_wp2
  go_ret
  exact ⟨by rw [HE.out];rfl,rfl⟩
 have b6 : (op == 6) = false:=bn2 h6
 by_cases h8 : op = 8
 ·have b8 : (op == 8) = true:=beq_iff_eq.2 h8
  have HE : Hid (r = 0):=by show _ = _;rw [<- HR.out,h8];rfl
  clear h8
  go_wp2
  go_ret
  exact ⟨by rw [HE.out];rfl,rfl⟩
 have b8 : (op == 8) = false:=bn2 h8
 by_cases h10 : op = 10
 ·have b10 : (op == 10) = true:=beq_iff_eq.2 h10
  have HE : Hid (r = 1):=by show _ = _;rw [<- HR.out,h10];rfl
  clear h10
  go_wp2
  go_ret
  exact ⟨by rw [HE.out];rfl,rfl⟩
 have b10 : (op == 10) = false:=bn2 h10
 by_cases h9 : op = 9
 ·have b9 : (op == 9) = true:=beq_iff_eq.2 h9
  have HE : Hid (r = 2):=by show _ = _;rw [<- HR.out,h9];rfl
  clear h9
  go_wp2
  go_ret
  exact ⟨by rw [HE.out];rfl,rfl⟩
 have b9 : (op == 9) = false:=bn2 h9
 by_cases h5 : op = 5
 ·have b5 : (op == 5) = true:=beq_iff_eq.2 h5
  have HE : Hid (r = 3):=by show _ = _;rw [<- HR.out,h5];rfl
  clear h5
  go_wp2
  go_ret
  exact ⟨by rw [HE.out];rfl,rfl⟩
 have b5 : (op == 5) = false:=bn2 h5
 by_cases h7 : op = 7
 ·have b7 : (op == 7) = true:=beq_iff_eq.2 h7
  have HE : Hid (r = 3):=by show _ = _;rw [<- HR.out,h7];rfl
  clear h7
  go_wp2
  go_ret
  exact ⟨by rw [HE.out];rfl,rfl⟩
 have b7 : (op == 7) = false:=bn2 h7
 have HE : Hid (r = 4):=by show _ = _;rw [<- HR.out];unfold lvE;rw [if_neg (by omega),if_neg (by omega),if_neg (by omega),if_neg (by omega)]
 clear h6 h8 h10 h9 h5 h7
 go_wp2
 go_ret
 exact ⟨by rw [HE.out];rfl,rfl⟩
theorem lev_fE {t : EI} {f : Fm} (h : fE t = some f) : f.lev = lvE t.op:=by
 have no : ∀ {g : Fm},g.lev = lvE t.op -> some g = some f -> f.lev = lvE t.op:=fun h1 e=>by cases e;exact h1
 unfold fE at h
 refine if_some2 h (fun z h=>if_some h (no (by rw [z];rfl)) none_some) fun _ h=>?_
 refine if_some h (fun h=>?_) none_some
 refine if_some2 h (fun z h=>if_some h (no (by rw [z];rfl)) none_some) fun _ h=>?_
 refine if_some h (fun h=>?_) none_some
 refine if_some2 h (fun z h=>if_some h (no (by rw [z];rfl)) none_some) fun _ h=>?_
 refine if_some h (fun h=>?_) none_some
 refine if_some2 h (fun z h=>if_some h (no (by rw [z,(brc_ok _ _ _).2.2];rfl)) none_some) fun _ h=>?_
 refine if_some h (fun h=>?_) none_some
 refine if_some2 h (fun z h=>if_some h (no (by rw [z];rfl)) none_some) fun _ h=>?_
 refine if_some2 h (fun z h=>if_some h (no (by rw [z];rfl)) (fun h=>if_some h (no (by rw [z];rfl)) none_some)) fun _ h=>?_
 refine if_some h (fun h=>?_) none_some
 refine if_some2 h (fun z h=>no (by rw [z];rfl) h) fun _ h=>?_
 refine if_some2 h (fun z h=>no (by rw [z];rfl) h) fun _ h=>?_
 refine if_some2 h (fun z h=>no (by rw [z];rfl) h) fun _ h=>?_
 exact if_some2 h (fun z h=>no (by rw [z];rfl) h) fun _ h=>none_some h
def PEC (xs : List (EI × EPl)) (l : List EI) (a : Option Addr) (c e : Nat) : Prop:=∀ (W : World) (z : Int),EsA W (.slice a xs.length c) xs -> z = (e : Int) + 1 -> Calls Tryz.prog 66 #[.slice a xs.length c,.int .i64 z] W fun r w'=>r = .returned (.string (pw (FE l) (e + 1)).1) /\ Bw W w'
structure PEH (xs : List (EI × EPl)) (l : List EI) (e : Nat) : Prop where
 is : xs.map Prod.fst = l
 ar : ArE l (e + 1)
 vk : Vk (fun i=>(FE l i).needs.length) (e + 1)
 sz : ∀ k,k <= e + 1 -> (pw (FE l) k).1.size <= 100000000
 tsz : ∀ x,x ∈ xs -> ∀ k,k <= x.1.ty.length -> (pw (FT x.1.ty) k).1.size <= 100000000
theorem PEH.item {xs : List (EI × EPl)} {l : List EI} {e : Nat} (h : PEH xs l e) {k : Nat} (hk : k < xs.length) (hke : k <= e) : ∃ f,fE xs[k].1 = some f /\ FE l k = f:=by
 have h1:=h.ar k (by omega)
 rw [aE_at h.is hk] at h1
 cases hf : fE xs[k].1 with
 | none=>rw [hf] at h1;cases h1
 | some f=>
   refine ⟨f,rfl,?_⟩
   unfold FE
   rw [<- h.is,List.getElem?_map,List.getElem?_eq_getElem hk]
   show (fE xs[k].1).getD fm0 = f
   rw [hf];rfl
theorem pw_atE {l : List EI} {e : Nat} {t : EI} {f : Fm} (ht : l[e]? = some t) (hf : fE t = some f) (hv : Vk (fun i=>(FE l i).needs.length) (e + 1)) : pw (FE l) (e + 1) = (arnd f.needs f.texts ((pts (fun i=>(FE l i).needs.length) f.needs.length e).map (pw (FE l))),f.lev):=by
 have hF : FE l e = f:=by unfold FE;rw [ht];show (fE t).getD fm0 = f;rw [hf];rfl
 rw [pw_eq hv,hF]
theorem v_part {xs : List (EI × EPl)} {l : List EI} {a : Option Addr} {c e : Nat} (H : PEH xs l e) (he : e < xs.length) (C : PEC xs l a c e) (w : World) (h : EsA w (.slice a xs.length c) xs) (least : Nat) {z : Int} (hz : z = (e : Int) + 1) :
  Calls Tryz.prog 104 #[.slice a xs.length c,.int .i64 z,.int .i64 (least : Int)] w fun r w'=>r = .returned (.string (brk least (pw (FE l) (e + 1)))) /\ Bw w w':=by
 subst hz
 obtain ⟨f,hf,hF⟩:=H.item he (nlr _)
 have hlv : (pw (FE l) (e + 1)).2 = lvE xs[e].1.op:=by
  show (FE l e).lev = _
  rw [hF];exact lev_fE hf
 have HC : Hid (Calls Tryz.prog 66 #[.slice a xs.length c,.int .i64 ((e : Int) + 1)] w fun r w'=>r = .returned (.string (pw (FE l) (e + 1)).1) /\ Bw w w'):=C w _ h rfl
 have HI : Hid (∀ W,Bw w W -> ∃ g,a = some ⟨g,0,none⟩ /\ W.cell? ⟨g,e * 6,none⟩ = some (Value.int .i64 xs[e].1.op)):=fun W hb=>by
  obtain ⟨g,_,_,r1,y0,_⟩:=(h.below hb).item he
  exact ⟨g,r1,y0⟩
 have hlen:=h.len
 have sA:=H.sz (e + 1) (nlr _)
 obtain ⟨A,hA⟩:=xe ((pw (FE l) (e + 1)).1)
 obtain ⟨o,ho⟩:=xe (xs[e].1.op)
 obtain ⟨r,hr⟩:=xe (brk least (pw (FE l) (e + 1)))
 have HR : Hid (r = if lvE o < least then sL ++ A ++ sR else A):=by show _ = _;rw [hr];unfold brk;rw [hlv,<- hA,<- ho]
 rw [<- hA] at HC sA
 rw [<- ho] at HI
 rw [<- hr]
 have we1 : IntKind.i64.wrap ((e : Int) + 1 - 1) = (e : Int):=wk (by omega)
 have we2 : IntKind.i64.wrap (e : Int) = (e : Int):=wk (by omega)
 have hel : (e : Int) < (xs.length : Int):=by omega
 have he0 : (0 : Int) <= (e : Int):=by omega
 have sl : (⟨#[40]⟩ : ByteArray).size = 1:=rfl
 have sr : (⟨#[41]⟩ : ByteArray).size = 1:=rfl
 clear h H C hf hF hlv hA ho hr
 go_enter Tryz.func104,Tryz.ntmps104
 go_wp2_with fail
 refine HC.out.mono ?_
 rintro e2 w2 ⟨rfl,hb2⟩
 obtain ⟨g,rfl,y0⟩:=HI.out w2 hb2
 have HB2 : Hid (Bw w w2):=hb2
 clear hb2
 go_wp2_with fail
 refine (v_level o w2).mono ?_
 rintro e3 w3 ⟨rfl,rfl⟩
 by_cases hl : lvE o < least
 ·have ll : ((lvE o : Nat) : Int) < (least : Int):=by omega
  have HF : Hid (r = (⟨#[40]⟩ : ByteArray) ++ A ++ (⟨#[41]⟩ : ByteArray)):=by show _ = _;rw [HR.out,if_pos hl];rfl
  have a1:=rsa (⟨#[40]⟩ : ByteArray) A (by rw [sl];omega)
  have a2:=rsa ((⟨#[40]⟩ : ByteArray) ++ A) (⟨#[41]⟩ : ByteArray) (by rw [bsa,sl,sr];omega)
  clear hl HR
  go_wp2
  go_ret
  exact ⟨by rw [HF.out];rfl,HB2.out⟩
 ·have ll : ¬ ((lvE o : Nat) : Int) < (least : Int):=by omega
  have HF : Hid (r = A):=by show _ = _;rw [HR.out,if_neg hl]
  clear hl HR
  go_wp2
  go_ret
  exact ⟨by rw [HF.out];rfl,HB2.out⟩
theorem fE_cases {t : EI} {f : Fm} (h : fE t = some f) :
  (t.op = 1 /\ 0 <= t.num /\ t.num <= 999999999 /\ f = ⟨4,[],[shN t.num.toNat]⟩) \/ (t.op = 2 /\ t.num = 0 /\ f = ⟨4,[],[xFalse]⟩) \/ (t.op = 2 /\ t.num = 1 /\ f = ⟨4,[],[xTrue]⟩) \/ (t.op = 3 /\ f = ⟨4,[],[pth t.md t.nm]⟩) \/ (t.op = 4 /\ f = brc t.ns xEs 4) \/ (t.op = 5 /\ f = ⟨3,[3],[e0,xDot ++ t.nm]⟩) \/ (t.op = 6 /\ okT t.ty = true /\ f = ⟨0,[0],[xFun ++ t.nm ++ xCs ++ prT t.ty ++ xFn2,e0]⟩) \/ (t.op = 7 /\ f = ⟨3,[3,0],[e0,sL,sR]⟩) \/ (t.op = 8 /\ f = ⟨0,[0,0,0],[xIf,xThen,xElse,e0]⟩) \/ (t.op = 9 /\ f = ⟨2,[2,3],[e0,xAdd,e0]⟩) \/ (t.op = 10 /\ f = ⟨1,[2,2],[e0,xLess,e0]⟩):=by
 unfold fE at h
 refine if_some2 h (fun z h=>if_some h (fun e=>by cases e;simp [z]) none_some) fun _ h=>?_
 refine if_some h (fun h=>?_) none_some
 refine if_some2 h (fun z h=>if_some2 h (fun y e=>by cases e;simp only [Bool.and_eq_true] at y;simp [z,y.1.1.2]) fun _ h=>none_some h) fun _ h=>?_
 refine if_some h (fun h=>?_) none_some
 refine if_some2 h (fun z h=>if_some h (fun e=>by cases e;simp [z]) none_some) fun _ h=>?_
 refine if_some h (fun h=>?_) none_some
 refine if_some2 h (fun z h=>if_some h (fun e=>by cases e;simp [z]) none_some) fun _ h=>?_
 refine if_some h (fun h=>?_) none_some
 refine if_some2 h (fun z h=>if_some2 h (fun y e=>by cases e;simp [z,y.1,y.2]) fun _ h=>none_some h) fun _ h=>?_
 refine if_some2 h (fun z h=>if_some2 h (fun y e=>by cases e;simp [z,y]) (fun _ h=>if_some2 h (fun y e=>by cases e;simp [z,y]) fun _ h=>none_some h)) fun _ h=>?_
 refine if_some h (fun h=>?_) none_some
 refine if_some2 h (fun z e=>by cases e;simp [z]) fun _ h=>?_
 refine if_some2 h (fun z e=>by cases e;simp [z]) fun _ h=>?_
 refine if_some2 h (fun z e=>by cases e;simp [z]) fun _ h=>?_
 exact if_some2 h (fun z e=>by cases e;simp [z]) fun _ h=>none_some h
end Go.Proofs.YtcehppndpccldaaGreatDoor
