/-
  PgS
-/
import Derived.Test.YtcehppndpccldaaGreatDoorX2
set_option maxHeartbeats 4000000
set_option maxRecDepth 100000
namespace Go.Proofs.YtcehppndpccldaaGreatDoor
open Go.RowKit
theorem mx_less {tb o c : Nat} {ao : Option Addr} {ts : List TK} {f : Nat} (HSu : ∀ (w : World) (i : Nat),MS w tb o ao ts -> ts.length - i < f + 1 -> i <= 1100 -> Calls Tryz.prog 78 #[.slice ao ts.length c,.int .i64 (i : Int)] w (MER w (sumP false ts (exP false ts f) i))) (w : World) (h : MS w tb o ao ts) {i : Nat} (hf : ts.length - i < f + 1) (hi9 : i <= 1100) (q0 : isT ts i sFun = false) (q1 : isT ts i sIf = false) :
  Calls Tryz.prog 50 #[.slice ao ts.length c,.int .i64 (i : Int)] w (MER w (exP false ts (f + 1) i)):=by
 obtain ⟨i0,hi0,hz0,hz1,hz2⟩:=info_parts Tryz.infoEI
 have hln:=h.tk.len
 have HMW : Hid (∀ W,Bw w W -> MS W tb o ao ts):=fun W hb=>h.below hb
 have HMS : Hid (MS (bxE w) tb o ao ts):=h.below (bel1 _ _)
 have C1 : Hid (Calls Tryz.prog 78 #[.slice ao ts.length c,.int .i64 (i : Int)] (bxE w) (MER (bxE w) (sumP false ts (exP false ts f) i))):=HSu (bxE w) i (h.below (bel1 _ _)) hf hi9
 have HSM : Hid (∀ (w : World) (i : Nat),MS w tb o ao ts -> ts.length - i < f + 1 -> i <= 1100 -> Calls Tryz.prog 78 #[.slice ao ts.length c,.int .i64 (i : Int)] w (MER w (sumP false ts (exP false ts f) i))):=HSu
 have HFB : Hid (Far ts.length (sumP false ts (exP false ts f))):=sum_far (ex_far f)
 have HFT : Hid (Far ts.length (sumP false ts (exP false ts f))):=sum_far (ex_far f)
 have HR0 : Hid (exP false ts (f + 1) i = match sumP false ts (exP false ts f) i with
  | none=>none
  | some (l,j)=>if isT ts j sLess then (match sumP false ts (exP false ts f) (j + 1) with | none=>none | some (r,k)=>some (l ++ r ++ [exO 10],k)) else some (l,j)):=by
  show _ = _
  rw [exP,q0,if_neg (by decide),q1,if_neg (by decide)]
  unfold lessP
  cases sumP false ts (exP false ts f) i with
  | none=>rfl
  | some z=>rfl
 clear h HSu
 go_enter Tryz.func50,Tryz.ntmps50
 go_wp2_with fail
 refine (m_isb HMS.out (i:=i) (rfl) (l:=sFun) q0 rfl (by decide)).mono ?_
 rintro e w' ⟨rfl,rfl⟩
 go_wp2_with fail
 refine (m_isb HMS.out (i:=i) (rfl) (l:=sIf) q1 rfl (by decide)).mono ?_
 rintro e w' ⟨rfl,rfl⟩
 go_wp2_with fail
 refine C1.out.mono ?_
 rintro e w2 ⟨hb2,hr⟩
 have HX2 : Hid (w2.rowIs w.heap.size 77 2 (v2 (.slice none 0 0) (.int .i64 0))):=(row2 w (.slice none 0 0) (.int .i64 0) 77).of_block (hb2.block _ (by simp))
 have HB2 : Hid (Bw w w2):=(bel1 _ _).trans (hb2.mono (by simp))
 have hws:=HB2.out.size
 have hxl2:=HX2.out.lt
 cases hb : sumP false ts (exP false ts f) i with
 | none=>
   rw [hb] at hr
   obtain ⟨va,n,c',rfl⟩:=hr
   have HR : Hid (exP false ts (f + 1) i = none):=by show _ = _;rw [HR0.out,hb]
   clear hb hb2
   have R7:=HX2.out.alloc (.cells #[Value.slice va n c',.int .i64 (-1)] 77)
   have x0':=R7.cell (i:=0) (by omega)
   have x1':=R7.cell (i:=1) (by omega)
   have y0':=R7.frozen 0
   have y1':=R7.frozen 1
   have R8:=(HX2.out.set 0 (Value.slice va n c')).alloc (.cells #[Value.slice va n c',.int .i64 (-1)] 77)
   have x0'':=R8.cell (i:=0) (by omega)
   have x1'':=R8.cell (i:=1) (by omega)
   have y0'':=R8.frozen 0
   have y1'':=R8.frozen 1
   have R9:=((HX2.out.set 0 (Value.slice va n c')).set 1 (.int .i64 (-1))).alloc (.cells #[Value.slice va n c',.int .i64 (-1)] 77)
   have xlt6:=HX2.out.lt
   clear R7 R8
   go_wp2
   refine bodyPost_ret (ret_ex (k:=4) rfl (R9.cell (i:=0) (by omega)) (R9.cell (i:=1) (by omega)) _ rfl) rfl ?_
   rw [HR.out]
   exact ⟨(below_box HB2.out _ _).alloc (below_box HB2.out _ _).size _,va,n,c',rfl⟩
 | some z=>
   obtain ⟨l,j⟩:=z
   rw [hb] at hr
   obtain ⟨va,n,c',k,zs,rfl,rfl,hrt,hzs⟩:=hr
   obtain ⟨far1,far2,far3⟩:=HFB.out _ _ _ hb
   have en:=own_len hrt.own
   have hzb : zs.length <= 1000:=by
    have hzl : zs.length = l.length:=by rw [<- hzs,List.length_map]
    omega
   subst en
   have hj0 : ¬ (j : Int) < 0:=by omega
   have HM2 : Hid (MS (w2.alloc (.cells #[.slice va zs.length c',.int .i64 (j : Int)] 77)) tb o ao ts):=HMW.out _ (HB2.out.alloc hws _)
   have HRT : Hid (RE (w.heap.size + 1) w2 (.slice va zs.length c') zs):=hrt.mono (by simp)
   cases ha : isT ts j sLess with
   | false=>
     have HR : Hid (exP false ts (f + 1) i = some (l,j)):=by show _ = _;rw [HR0.out,hb];show (if isT ts j sLess = true then _ else some (l,j)) = _;rw [ha];rfl
     clear hb hb2 hrt
     go_wp2_with fail
     refine (m_isb HM2.out (i:=j) (rfl) (l:=sLess) ha rfl (by decide)).mono ?_
     rintro e w' ⟨rfl,rfl⟩
     have R7:=HX2.out.alloc (.cells #[Value.slice va zs.length c',.int .i64 (j : Int)] 77)
     have x0':=R7.cell (i:=0) (by omega)
     have x1':=R7.cell (i:=1) (by omega)
     have y0':=R7.frozen 0
     have y1':=R7.frozen 1
     have R8:=(HX2.out.set 0 (Value.slice va zs.length c')).alloc (.cells #[Value.slice va zs.length c',.int .i64 (j : Int)] 77)
     have x0'':=R8.cell (i:=0) (by omega)
     have x1'':=R8.cell (i:=1) (by omega)
     have y0'':=R8.frozen 0
     have y1'':=R8.frozen 1
     have R9:=((HX2.out.set 0 (Value.slice va zs.length c')).set 1 (.int .i64 (j : Int))).alloc (.cells #[Value.slice va zs.length c',.int .i64 (j : Int)] 77)
     have xlt6:=HX2.out.lt
     clear R7 R8
     go_wp2
     refine bodyPost_ret (ret_ex (k:=4) rfl (R9.cell (i:=0) (by omega)) (R9.cell (i:=1) (by omega)) _ rfl) rfl ?_
     rw [HR.out]
     obtain ⟨W1,W2⟩:=box_ex HB2.out HX2.out (.slice va zs.length c') (.int .i64 (j : Int))
     exact ⟨W1.alloc W1.size _,va,zs.length,c',(j : Int),zs,rfl,rfl,((W2 _ _ _ HRT.out).below (bel1 _ _)).mono (by omega),hzs⟩
   | true=>
     have C2 : Hid (Calls Tryz.prog 78 #[.slice ao ts.length c,.int .i64 ((j : Int) + 1)] (w2.alloc (.cells #[.slice va zs.length c',.int .i64 (j : Int)] 77)) (MER (w2.alloc (.cells #[.slice va zs.length c',.int .i64 (j : Int)] 77)) (sumP false ts (exP false ts f) (j + 1)))):=by
      have:=HSM.out _ (j + 1) HM2.out (by have:=isT_lt ha;omega) (by omega)
      rw [show ((j + 1 : Nat) : Int) = (j : Int) + 1 by omega] at this
      exact this
     go_wp2_with fail
     refine (m_isb HM2.out (i:=j) (rfl) (l:=sLess) ha rfl (by decide)).mono ?_
     rintro e w' ⟨rfl,rfl⟩
     go_wp2_with fail
     refine C2.out.mono ?_
     rintro e w4 ⟨hb4,hr4⟩
     have L4:=row2 w2 (.slice va zs.length c') (.int .i64 (j : Int)) 77
     have l0 : w4.cell? ⟨w2.heap.size,0,none⟩ = some (.slice va zs.length c'):=(L4.of_block (hb4.block _ L4.lt)).cell (i:=0) (by omega)
     have l1 : w4.cell? ⟨w2.heap.size,1,none⟩ = some (.int .i64 (j : Int)):=(L4.of_block (hb4.block _ L4.lt)).cell (i:=1) (by omega)
     have HB4 : Hid (Bw w w4):=(HB2.out.alloc hws _).trans (hb4.mono (by simp;omega))
     have X3:=HX2.out.alloc (.cells #[.slice va zs.length c',.int .i64 (j : Int)] 77)
     have HX4 : Hid (w4.rowIs w.heap.size 77 2 (v2 (.slice none 0 0) (.int .i64 0))):=X3.of_block (hb4.block _ X3.lt)
     have HI4 : Hid (RE (w.heap.size + 1) w4 (.slice va zs.length c') zs):=(HRT.out.below (bel1 _ _)).below hb4
     have hws4:=HB4.out.size
     have hwl4 : w2.heap.size + 1 <= w4.heap.size:=by have:=hb4.size;simp at this;omega
     clear L4 X3
     cases ht : sumP false ts (exP false ts f) (j + 1) with
     | none=>
       rw [ht] at hr4
       obtain ⟨va',n',c'',rfl⟩:=hr4
       have HR : Hid (exP false ts (f + 1) i = none):=by show _ = _;rw [HR0.out,hb];show (if isT ts j sLess = true then _ else some (l,j)) = _;rw [ha,ht];rfl
       clear hb hb2 hb4 hrt ht
       have R7:=HX4.out.alloc (.cells #[Value.slice va' n' c'',.int .i64 (-1)] 77)
       have x0':=R7.cell (i:=0) (by omega)
       have x1':=R7.cell (i:=1) (by omega)
       have y0':=R7.frozen 0
       have y1':=R7.frozen 1
       have R8:=(HX4.out.set 0 (Value.slice va' n' c'')).alloc (.cells #[Value.slice va' n' c'',.int .i64 (-1)] 77)
       have x0'':=R8.cell (i:=0) (by omega)
       have x1'':=R8.cell (i:=1) (by omega)
       have y0'':=R8.frozen 0
       have y1'':=R8.frozen 1
       have R9:=((HX4.out.set 0 (Value.slice va' n' c'')).set 1 (.int .i64 (-1))).alloc (.cells #[Value.slice va' n' c'',.int .i64 (-1)] 77)
       have xlt6:=HX4.out.lt
       clear R7 R8
       go_wp2
       refine bodyPost_ret (ret_ex (k:=4) rfl (R9.cell (i:=0) (by omega)) (R9.cell (i:=1) (by omega)) _ rfl) rfl ?_
       rw [HR.out]
       exact ⟨(below_box HB4.out _ _).alloc (below_box HB4.out _ _).size _,va',n',c'',rfl⟩
     | some z=>
       obtain ⟨l2,k⟩:=z
       rw [ht] at hr4
       obtain ⟨va',n',c'',k',ys,rfl,rfl,hrt4,hys⟩:=hr4
       obtain ⟨far4,far5,far6⟩:=HFT.out _ _ _ ht
       have hyb : ys.length <= 1000:=by
        have hyl : ys.length = l2.length:=by rw [<- hys,List.length_map]
        omega
       have hk0 : ¬ (k : Int) < 0:=by omega
       have HR : Hid (exP false ts (f + 1) i = some (l ++ l2 ++ [exO 10],k)):=by show _ = _;rw [HR0.out,hb];show (if isT ts j sLess = true then _ else some (l,j)) = _;rw [ha,ht];rfl
       have B5:=bel1 w4 (.cells #[.slice va' n' c'',.int .i64 (k : Int)] 77)
       have l0':=(B5.cell (p:=⟨w2.heap.size,0,none⟩) (blt l0)).trans l0
       have CJ : Hid (Calls Tryz.prog 77 #[.slice va zs.length c',.slice va' n' c''] (w4.alloc (.cells #[.slice va' n' c'',.int .i64 (k : Int)] 77)) fun e w'=>(∃ va n c,e = .returned (.slice va n c) /\ Hid (RE (w.heap.size + 1) w' (.slice va n c) (zs ++ ys))) /\ Hid (Below (w4.alloc (.cells #[.slice va' n' c'',.int .i64 (k : Int)] 77)).heap.size (w4.alloc (.cells #[.slice va' n' c'',.int .i64 (k : Int)] 77)) w')):=
        m_joinE _ (HI4.out.below B5) ((hrt4.mono (by simp;omega)).below B5) (by omega) (by simp;omega)
       have RR:=row2 w4 (.slice va' n' c'') (.int .i64 (k : Int)) 77
       have HMP : Hid ((zs ++ ys).map Prod.fst = l ++ l2):=by show _ = _;rw [List.map_append,hzs,hys]
       clear hb hb2 hb4 hrt hrt4 ht
       go_wp2_with fail
       refine CJ.out.mono ?_
       rintro e w8 ⟨⟨va8,n8,c8,rfl,H8⟩,hb8⟩
       have en:=own_len H8.out.own
       subst en
       have hlen : (zs ++ ys).length = zs.length + ys.length:=lap
       obtain ⟨N,hN⟩:=xe ((zs ++ ys).length)
       have HN : Hid (N = (zs ++ ys).length):=hN
       have hNb : N <= 2000:=by omega
       have HO : Hid (RE (w.heap.size + 1) w8 (.slice va8 N c8) (zs ++ ys)):=by rw [hN];exact H8.out
       have HOW : Hid (w8.ownsRow (w.heap.size + 1) 70 6 (.slice va8 N c8) N (eisC (zs ++ ys))):=by have:=HO.out.own;rw [<- hN] at this;exact this
       rw [<- hN]
       have k1 : w8.cell? ⟨w4.heap.size,1,none⟩ = some (.int .i64 (k : Int)):=(RR.of_block (hb8.out.block _ RR.lt)).cell (i:=1) (by omega)
       have X5:=HX4.out.alloc (.cells #[.slice va' n' c'',.int .i64 (k : Int)] 77)
       have HX8 : Hid (w8.rowIs w.heap.size 77 2 (v2 (.slice none 0 0) (.int .i64 0))):=X5.of_block (hb8.out.block _ X5.lt)
       have HB8 : Hid (Bw w w8):=(HB4.out.alloc hws4 _).trans (hb8.out.mono (by simp;omega))
       have hws8 : w4.heap.size + 1 <= w8.heap.size:=by have:=hb8.out.size;simp at this;omega
       have hne1 : w.heap.size ≠ w4.heap.size:=by omega
       have HK8 : Hid (∀ o : Obj,((w8.alloc o).drew).cell? ⟨w4.heap.size,1,none⟩ = some (.int .i64 (k : Int))):=fun o=>(bel1 w8 o).cell (p:=⟨w4.heap.size,1,none⟩) (blt k1) |>.trans k1
       have HSR : Hid (∀ b,(Value.slice va8 N c8).ownBlock = some b -> b ≠ w4.heap.size):=fun b e z=>by
        subst z
        exact own_box HOW.out ((RR.of_block (hb8.out.block _ RR.lt))) (by decide) e
       clear hN CJ RR X5 hb8 H8 l0 l0' l1 hlen
       go_wp2
       go_region_held3 (fun w'=>w'.cell? ⟨w4.heap.size,1,none⟩ = some (.int .i64 (k : Int))) (go_keep) ((refine step_append_lies _ (by rfl) _ _ _ (by rfl) (w.heap.size + 1) 70 i0 _ 6 96 Tryz.underlying44 hi0 hz0 hz1 hz2 rfl (by omega) (.slice va8 N c8) N (eisC (zs ++ ys)) (by rfl) ((HOW.out.alloc _).drew) ⟨w8.heap.size,0,none⟩ 1 1 [.int .i64 10,.int .i64 0,.string ⟨#[]⟩,.string ⟨#[]⟩,.slice none 0 0,.slice none 0 0] (by rfl) (by rfl) (World.news_of_block (cs:=#[.int .i64 10,.int .i64 0,.string ⟨#[]⟩,.string ⟨#[]⟩,.slice none 0 0,.slice none 0 0]) (t:=70) (fr:=(0,0)) (heap_alloc_new w8 _)) (by simp [Value.oneCell']) (by omega) (by unfold maxLen;omega) (by omega) (by simp;omega) (w8.heap.size + 1) (by simp) ?_;intro gg cap3 w9 hown3 hg3 hat3 hlt3;have f1 : w9.cell? ⟨w4.heap.size,1,none⟩ = some (.int .i64 (k : Int)):=(hg3.cell_far ⟨w4.heap.size,1,none⟩ (by simp;omega) (fun e=>HSR.out _ e.symm rfl)).trans (HK8.out _);have X9 : w9.rowIs w.heap.size 77 2 (v2 (.slice none 0 0) (.int .i64 0)):=(HX8.out.alloc _).of_block (hg3.block _ (by simp;omega) (fun e=>by have:=(HOW.out.lt _ e.symm).1;omega));have d0:=X9.cell (i:=0) (by omega);have d1:=X9.cell (i:=1) (by omega);have z0:=X9.frozen 0;have z1:=X9.frozen 1))
       go_wp2
       have hg:=grown_undrew hg3
       have NX:=HO.out.push (x:=(exO 10,ep0)) (by rw [<- HN.out];exact hown3) hg ⟨NmOK.nil _ _ _,(OT.nil _ _).rt,rfl⟩
       rw [<- HN.out] at NX
       have B9:=below_grown HB8.out hg (fun b e=>by have:=(HOW.out.lt b e).1;omega)
       obtain ⟨W1,W2⟩:=box_ex B9 X9 (.slice (some ⟨gg,0,none⟩) (N + 1) cap3) (.int .i64 (k : Int))
       have RX:=(X9.set 0 (.slice (some ⟨gg,0,none⟩) (N + 1) cap3)).set 1 (.int .i64 (k : Int))
       refine bodyPost_ret (ret_ex (k:=4) rfl (RX.cell (i:=0) (by omega)) (RX.cell (i:=1) (by omega)) _ rfl) rfl ?_
       rw [HR.out]
       exact ⟨W1,some ⟨gg,0,none⟩,N + 1,cap3,(k : Int),(zs ++ ys) ++ [(exO 10,ep0)],rfl,rfl,(W2 _ _ _ NX).mono (by omega),by rw [List.map_append,HMP.out];rfl⟩
end Go.Proofs.YtcehppndpccldaaGreatDoor
