/-
  QbP3
-/
import Derived.Test.YtcehppndpccldaaGreatDoorU6
set_option maxHeartbeats 4000000
set_option maxRecDepth 100000
namespace Go.Proofs.YtcehppndpccldaaGreatDoor
open Go.RowKit
theorem g_F_name3 (w : World) (z : Int) (_hz1 : -10 <= z) (_hz2 : z <= 2) {P X : Nat} {ca : Option Addr} {cb co Ln cc p : Nat} {C : Nat -> Nat} (hC : BytesAt w ca cb co Ln C) (hLn : Ln <= 1048576) (hp : p <= 900000) {T V M : List ByteArray} {tp vp mp : NPl} (hS : Sc w T V M tp vp mp) {xs : List (TI × NPl)} {l : List TI} {ta : Option Addr} {tc e : Nat} (hT : TsA w (.slice ta xs.length tc) xs) (hH : TH xs l) (he : e < xs.length)
  (hP : 1 <= P) (hX : 25 <= X) (hca : tk C Ln p 16 ≠ 15 /\ (0 < z -> ¬ (10 <= tk C Ln p 16 /\ tk C Ln p 16 < 13))) (hop : xs[e].1.op = 3 \/ xs[e].1.op = 4) :
  Calls Tryz.prog 91 #[.slice ca Ln cc,.int .i64 (p : Int),.agg #[.slice tp.a T.length tp.c,.slice vp.a V.length vp.c,.slice mp.a M.length mp.c],.slice ta xs.length tc,.int .i64 ((e : Int) + 1),.int .i64 z] w (GnF w P X p):=by
 obtain ⟨i0,hi0,hi1,hi2,hi3⟩:=info_parts Tryz.infoEI
 have HLM : Hid (M.length <= 1000):=hS.lm.1
 have hx13:=hH.len
 have HTH : Hid (TH xs l):=hH
 obtain ⟨W1,W2,a,g,nd,xt,op,ps,hW1,hW2,HB1,HB2,C1,ha,ha16,HCX,HBS,eta,y0,y1,y2,y3,HXM,hope,HTX,CP,HPL⟩:=f_pre w hC (cc:=cc) hLn hp hS hT hH he
 rw [<- ha] at hca
 rw [<- hope] at hop
 have HOP : Hid (op = xt.1.op):=by rw [HXM.out.2];exact hope
 have we1 : IntKind.i64.wrap ((e : Int) + 1 - 1) = (e : Int):=wk (by omega)
 have we2 : IntKind.i64.wrap (e : Int) = (e : Int):=wk (by omega)
 have hel : (e : Int) < (xs.length : Int):=by omega
 have he0 : (0 : Int) <= (e : Int):=by omega
 have n15 : ((a : Int) == 15) = false:=bn2 (by omega)
 rcases hop with hop2 | hop2
 all_goals
  subst hop2
  have eta':=eta
  rw [eta]
  clear hC hS ha hT hH hope eta
  go_enter Tryz.func91,Tryz.ntmps91
  go_wp2_with fail
  rw [<- hW1]
  clear hW1
  refine C1.mono ?_
  rintro e' w7 ⟨rfl,rfl⟩
  clear C1
  go_wp2_with fail
  rw [<- hW2]
  rw [eta'] at CP
  refine CP.mono ?_
  rintro e' w3 ⟨va,cp,rfl,OWN,BP⟩
  have HB3 : Hid (Bw W2 w3):=BP
  have HPS : Hid (w3.ownsRow W2.heap.size 3 1 (.slice va nd cp) nd (inC ps)):=OWN
  have HB13 : Hid (Bw W1 w3):=HB2.out.trans (HB3.out.mono HB2.out.size)
  obtain ⟨W4,hW4⟩:=xe (w3.alloc (.cells #[] 70))
  have HB4 : Hid (Bw w3 W4):=by rw [hW4];exact bel1 _ _
  have HN4 : Hid (GE w3.heap.size 0 W4 (some ⟨w3.heap.size,0,none⟩) 0 0 0 []):=by rw [hW4];exact ge_nil w3
  have HB14 : Hid (Bw W1 W4):=HB13.out.trans (HB4.out.mono HB13.out.size)
  have HB24 : Hid (Bw W2 W4):=HB3.out.trans (HB4.out.mono HB3.out.size)
  obtain ⟨t0,t3⟩:=HTX.out W4 HB24.out
  obtain ⟨x0,x1,x2⟩:=HCX.out W4 HB14.out
  rw [hW4] at t0 t3 x0 x1 x2
  clear CP BP OWN hW2 y0 y1 y2 y3 we1 we2 hel he0
  have HEND : Hid (∀ (op num : Int) (md nm : ByteArray) (V : World),V = W4.alloc (.cells #[.int .i64 op,.int .i64 num,.string md,.string nm,.slice none 0 0,.slice none 0 0] 70) \/ V = (W4.alloc (.cells #[.int .i64 op,.int .i64 num,.string md,.string nm,.slice none 0 0,.slice none 0 0] 70)).drew -> md.size <= 12 -> nm.size <= 12 -> GnF w P X p (.returned (.tuple #[.slice (some ⟨w3.heap.size + 1,0,none⟩) 1 1,.int .i64 ((p + 1 : Nat) : Int)])) V):=fun op num md nm V hV h1 h2=>by
   have hs4 : W4.heap.size = w3.heap.size + 1:=by rw [hW4];simp
   rw [<- hs4]
   have hs : w.heap.size <= W4.heap.size:=Nat.le_trans HB1.out.size HB14.out.size
   have G:=(ge_lit W4 (Bi:=0) (X:=X) op num (md:=md) (nm:=nm) (by omega)).mono hs (nlr _) (nlr _)
   have hbw:=(HB1.out.trans (HB14.out.mono HB1.out.size)).alloc hs (.cells #[.int .i64 op,.int .i64 num,.string md,.string nm,.slice none 0 0,.slice none 0 0] 70)
   rcases hV with rfl | rfl
   ·exact ⟨⟨_,_,_,p + 1,rfl,by omega,by omega,_,G⟩,hbw⟩
   ·exact ⟨⟨_,_,_,p + 1,rfl,by omega,by omega,_,G.drew⟩,hbw.drew⟩
  have HF4 : Hid (∀ V : World,V = W4.alloc (.cells #[.int .i64 3,.int .i64 0,.string ⟨#[]⟩,.string ⟨#[113]⟩,.slice none 0 0,.slice none 0 0,.int .i64 1,.int .i64 (a : Int),.string ⟨#[]⟩,.string ⟨#[]⟩,.slice none 0 0,.slice none 0 0,.int .i64 7,.int .i64 0,.string ⟨#[]⟩,.string ⟨#[]⟩,.slice none 0 0,.slice none 0 0,.int .i64 5,.int .i64 0,.string ⟨#[]⟩,.string ⟨#[120]⟩,.slice none 0 0,.slice none 0 0] 70) -> GnF w P X p (.returned (.tuple #[.slice (some ⟨w3.heap.size + 1,0,none⟩) 4 4,.int .i64 ((p + 1 : Nat) : Int)])) V):=fun V hV=>by
   have hs4 : W4.heap.size = w3.heap.size + 1:=by rw [hW4];simp
   rw [<- hs4]
   have hs : w.heap.size <= W4.heap.size:=Nat.le_trans HB1.out.size HB14.out.size
   have G:=(ge_four W4 (Bi:=0) (X:=X) (a : Int) hX).mono hs (nlr _) (nlr _)
   have hbw:=(HB1.out.trans (HB14.out.mono HB1.out.size)).alloc hs (.cells #[.int .i64 3,.int .i64 0,.string ⟨#[]⟩,.string ⟨#[113]⟩,.slice none 0 0,.slice none 0 0,.int .i64 1,.int .i64 (a : Int),.string ⟨#[]⟩,.string ⟨#[]⟩,.slice none 0 0,.slice none 0 0,.int .i64 7,.int .i64 0,.string ⟨#[]⟩,.string ⟨#[]⟩,.slice none 0 0,.slice none 0 0,.int .i64 5,.int .i64 0,.string ⟨#[]⟩,.string ⟨#[120]⟩,.slice none 0 0,.slice none 0 0] 70)
   rw [hV]
   exact ⟨⟨_,_,_,p + 1,rfl,by omega,by omega,_,G⟩,hbw⟩
  have HGM : Hid (∀ W,Bw W1 W -> Sc W T V M tp vp mp):=fun W hb=>(HBS.out W hb).2.1
  by_cases nz0 : (0 : Int) < z
  ·by_cases k3 : a < 3
   ·have c3 : (a : Int) < 3:=by omega
    have c9 : (a : Int) < 9:=by omega
    have c10 : (a : Int) < 10:=by omega
    have c12 : (a : Int) < 12:=by omega
    have c13 : (a : Int) < 13:=by omega
    have d10 : ¬ (10 : Int) <= (a : Int):=by omega
    clear hca
    by_cases cM : (0 : Int) < (M.length : Int)
    ·obtain ⟨k,hk⟩:=xe (a % M.length)
     have hM0 : ¬ (M.length : Int) = 0:=by omega
     have hkl : k < M.length:=by rw [hk];exact Nat.mod_lt _ (by omega)
     have m1 : Int.tmod (a : Int) (M.length : Int) = (k : Int):=by rw [tmodN,hk]
     have m2 : (k : Int) < (M.length : Int):=by omega
     have m3 : (0 : Int) <= (k : Int):=by omega
     have SM:=HGM.out W4 HB14.out
     have ea:=SM.m.at_ (by omega)
     have yk:=SM.m.cell k hkl
     have hgn:=SM.gm (M.getD k e0) (by rw [List.getD_eq_getElem?_getD,List.getElem?_eq_getElem hkl];exact List.getElem_mem hkl)
     obtain ⟨s,hs⟩:=xe (M.getD k e0)
     rw [<- hs] at yk hgn
     have HGN : Hid (gn s = true):=hgn
     obtain ⟨ml,hml⟩:=xe (M.length)
     have hmb : ml <= 1000:=by rw [hml];exact HLM.out
     rw [ea] at x2
     rw [<- hml] at x2 cM hM0 m1 m2
     rw [ea,<- hml]
     rw [hW4] at yk
     clear hk hs ea hgn hml SM
     go_wp2
     go_region
     all_goals
      go_wp2
      rw [<- hW4]
      go_ret2
      exact HEND.out 3 0 s ⟨#[113]⟩ _ (.inr rfl) (gn_12 HGN.out) (by decide)
    ·go_wp2_with fail
     rw [<- hW4]
     go_ret2
     exact HEND.out 3 0 ⟨#[]⟩ ⟨#[113]⟩ _ (.inl rfl) (by decide) (by decide)
   ·by_cases k9 : a < 9
    ·have c3 : ¬ (a : Int) < 3:=by omega
     have c9 : (a : Int) < 9:=by omega
     have c10 : (a : Int) < 10:=by omega
     have c12 : (a : Int) < 12:=by omega
     have c13 : (a : Int) < 13:=by omega
     have d10 : ¬ (10 : Int) <= (a : Int):=by omega
     clear hca
     go_wp2_with fail
     rw [<- hW4]
     go_ret2
     exact HEND.out 3 0 ⟨#[]⟩ ⟨#[113]⟩ _ (.inl rfl) (by decide) (by decide)
    ·by_cases k10 : a < 10
     ·have c3 : ¬ (a : Int) < 3:=by omega
      have c9 : ¬ (a : Int) < 9:=by omega
      have c10 : (a : Int) < 10:=by omega
      have c12 : (a : Int) < 12:=by omega
      have c13 : (a : Int) < 13:=by omega
      have d10 : ¬ (10 : Int) <= (a : Int):=by omega
      clear hca
      go_wp2_with fail
      rw [<- hW4]
      go_ret2
      exact HF4.out _ rfl
     ·have c3 : ¬ (a : Int) < 3:=by omega
      have c9 : ¬ (a : Int) < 9:=by omega
      have c10 : ¬ (a : Int) < 10:=by omega
      have c12 : ¬ (a : Int) < 12:=by omega
      have c13 : ¬ (a : Int) < 13:=by omega
      have d10 : (10 : Int) <= (a : Int):=by omega
      clear hca
      go_wp2_with fail
      rw [<- hW4]
      go_ret2
      exact HEND.out 3 0 ⟨#[]⟩ ⟨#[102]⟩ _ (.inl rfl) (by decide) (by decide)
  ·by_cases k3 : a < 3
   ·have c3 : (a : Int) < 3:=by omega
    have c9 : (a : Int) < 9:=by omega
    have c10 : (a : Int) < 10:=by omega
    have c12 : (a : Int) < 12:=by omega
    have c13 : (a : Int) < 13:=by omega
    have d10 : ¬ (10 : Int) <= (a : Int):=by omega
    clear hca
    by_cases cM : (0 : Int) < (M.length : Int)
    ·obtain ⟨k,hk⟩:=xe (a % M.length)
     have hM0 : ¬ (M.length : Int) = 0:=by omega
     have hkl : k < M.length:=by rw [hk];exact Nat.mod_lt _ (by omega)
     have m1 : Int.tmod (a : Int) (M.length : Int) = (k : Int):=by rw [tmodN,hk]
     have m2 : (k : Int) < (M.length : Int):=by omega
     have m3 : (0 : Int) <= (k : Int):=by omega
     have SM:=HGM.out W4 HB14.out
     have ea:=SM.m.at_ (by omega)
     have yk:=SM.m.cell k hkl
     have hgn:=SM.gm (M.getD k e0) (by rw [List.getD_eq_getElem?_getD,List.getElem?_eq_getElem hkl];exact List.getElem_mem hkl)
     obtain ⟨s,hs⟩:=xe (M.getD k e0)
     rw [<- hs] at yk hgn
     have HGN : Hid (gn s = true):=hgn
     obtain ⟨ml,hml⟩:=xe (M.length)
     have hmb : ml <= 1000:=by rw [hml];exact HLM.out
     rw [ea] at x2
     rw [<- hml] at x2 cM hM0 m1 m2
     rw [ea,<- hml]
     rw [hW4] at yk
     clear hk hs ea hgn hml SM
     go_wp2
     go_region
     all_goals
      go_wp2
      rw [<- hW4]
      go_ret2
      exact HEND.out 3 0 s ⟨#[113]⟩ _ (.inr rfl) (gn_12 HGN.out) (by decide)
    ·go_wp2_with fail
     rw [<- hW4]
     go_ret2
     exact HEND.out 3 0 ⟨#[]⟩ ⟨#[113]⟩ _ (.inl rfl) (by decide) (by decide)
   ·by_cases k9 : a < 9
    ·have c3 : ¬ (a : Int) < 3:=by omega
     have c9 : (a : Int) < 9:=by omega
     have c10 : (a : Int) < 10:=by omega
     have c12 : (a : Int) < 12:=by omega
     have c13 : (a : Int) < 13:=by omega
     have d10 : ¬ (10 : Int) <= (a : Int):=by omega
     clear hca
     go_wp2_with fail
     rw [<- hW4]
     go_ret2
     exact HEND.out 3 0 ⟨#[]⟩ ⟨#[113]⟩ _ (.inl rfl) (by decide) (by decide)
    ·by_cases k10 : a < 10
     ·have c3 : ¬ (a : Int) < 3:=by omega
      have c9 : ¬ (a : Int) < 9:=by omega
      have c10 : (a : Int) < 10:=by omega
      have c12 : (a : Int) < 12:=by omega
      have c13 : (a : Int) < 13:=by omega
      have d10 : ¬ (10 : Int) <= (a : Int):=by omega
      clear hca
      go_wp2_with fail
      rw [<- hW4]
      go_ret2
      exact HF4.out _ rfl
     ·by_cases k12 : a < 12
      ·have c3 : ¬ (a : Int) < 3:=by omega
       have c9 : ¬ (a : Int) < 9:=by omega
       have c10 : ¬ (a : Int) < 10:=by omega
       have c12 : (a : Int) < 12:=by omega
       have c13 : (a : Int) < 13:=by omega
       have d10 : (10 : Int) <= (a : Int):=by omega
       clear hca
       go_wp2_with fail
       rw [<- hW4]
       go_ret2
       exact HF4.out _ rfl
      ·by_cases k13 : a < 13
       ·have c3 : ¬ (a : Int) < 3:=by omega
        have c9 : ¬ (a : Int) < 9:=by omega
        have c10 : ¬ (a : Int) < 10:=by omega
        have c12 : ¬ (a : Int) < 12:=by omega
        have c13 : (a : Int) < 13:=by omega
        have d10 : (10 : Int) <= (a : Int):=by omega
        clear hca
        go_wp2_with fail
        rw [<- hW4]
        go_ret2
        exact HEND.out 3 0 ⟨#[]⟩ ⟨#[102]⟩ _ (.inl rfl) (by decide) (by decide)
       ·have c3 : ¬ (a : Int) < 3:=by omega
        have c9 : ¬ (a : Int) < 9:=by omega
        have c10 : ¬ (a : Int) < 10:=by omega
        have c12 : ¬ (a : Int) < 12:=by omega
        have c13 : ¬ (a : Int) < 13:=by omega
        have d10 : (10 : Int) <= (a : Int):=by omega
        clear hca
        go_wp2_with fail
        rw [<- hW4]
        go_ret2
        exact HEND.out 3 0 ⟨#[]⟩ ⟨#[102]⟩ _ (.inl rfl) (by decide) (by decide)
end Go.Proofs.YtcehppndpccldaaGreatDoor
