/-
  MC MD MG
-/
import Derived.Test.YtcehppndpccldaaGreatDoorSB
import Derived.Test.YtcehppndpccldaaGreatDoorS3
import Derived.Test.YtcehppndpccldaaGreatDoorS2
import Derived.Laws.BytesString
set_option maxHeartbeats 1000000
set_option maxRecDepth 100000
namespace Go.Proofs.YtcehppndpccldaaGreatDoor
open Go.RowKit
theorem below_grown {w wr w5 : World} {o : Obj} {row : Option Nat} (h : Bw w wr) (hg : (wr.alloc o).grownBy w5 row) (hr : ∀ b,row = some b -> w.heap.size <= b) : Bw w w5:=
 ⟨hg.os.trans h.os,hg.tape.trans h.tape,hg.output.trans h.output,by have:=hg.size;have:=h.size;simp only [World.size_alloc] at *;omega,fun k hk=>by
  rw [hg.block k (by have:=h.size;simp only [World.size_alloc];omega) (fun e=>by have:=hr k e.symm;omega)]
  exact (Below.heap_alloc _ _ _ (by have:=h.size;omega)).trans (h.block k hk)⟩
theorem m_joinT {B : Nat} (w : World) {v1 v2 : Value} {xs ys : List (TI × NPl)} (h1 : RT B w v1 xs) (h2 : RT B w v2 ys) (hl : xs.length + ys.length <= 100000) (hB : B <= w.heap.size) :
  Calls Tryz.prog 75 #[v1,v2] w fun e w'=>(∃ va n c,e = .returned (.slice va n c) /\ Hid (RT B w' (.slice va n c) (xs ++ ys))) /\ Hid (Bw w w'):=by
 obtain ⟨i0,hi0,hz0,hz1,hz2⟩:=info_parts Tryz.infoTI
 obtain ⟨a1,c1,rfl⟩:=own_form h1.own
 obtain ⟨a2,c2,rfl⟩:=own_form h2.own
 have H1 : Hid (RT B w (.slice a1 xs.length c1) xs):=h1
 have H2 : Hid (RT B w (.slice a2 ys.length c2) ys):=h2
 have ST : Hid ((w.alloc (.cells #[] 99)).ownsRow w.heap.size 99 4 (.slice (some ⟨w.heap.size,0,none⟩) 0 0) 0 (tisC (xs.take 0))):=World.ownsRow_lit w #[] 0 (nlr _) (by unfold maxLen;omega) (by rfl)
 clear h1 h2
 go_enter Tryz.func75,Tryz.ntmps75
 go_wp2
 go_loopw [5,6] (fun v i wr=>∃ k : Nat,k <= xs.length /\ i = .int .i64 k /\ wr.ownsRow w.heap.size 99 4 v k (tisC (xs.take k)) /\ Hid (Bw w wr)) (fun _ i _=>xs.length - (intOf i).toNat)
 case atStart=>exact ⟨0,Nat.zero_le _,rfl,ST.out,bel1 _ _⟩
 case round=>
  clear ST
  obtain ⟨k,hk,rfl,hO,HW⟩:=hrel
  obtain ⟨va,vc,rfl⟩:=own_form hO
  have hws:=HW.out.size
  by_cases hlt : k < xs.length
  case pos=>
   obtain ⟨g,gc,ev,hg1,hg2,hg3⟩:=own_blk H1.out.own (show 0 < xs.length by omega)
   simp only [Value.slice.injEq] at ev
   obtain ⟨rfl,-,rfl⟩:=ev
   have RR:=H1.out.below HW.out
   obtain ⟨x,hx⟩:=xe (xs[k])
   have HX : Hid (xs.take (k + 1) = xs.take k ++ [x]):=by
    show _ = _
    rw [List.take_add_one,List.getElem?_eq_getElem hlt,hx];rfl
   have y0 : wr.cell? ⟨g,k * 4,none⟩ = some (Value.int .i64 x.1.op):=own_at (f:=tiC) tiC_len RR.own (j:=k) (r:=0) rfl hlt (by omega) (by rw [<- hx];rfl)
   have y1 : wr.cell? ⟨g,k * 4 + 1,none⟩ = some (Value.string x.1.md):=own_at (f:=tiC) tiC_len RR.own rfl hlt (by omega) (by rw [<- hx];rfl)
   have y2 : wr.cell? ⟨g,k * 4 + 2,none⟩ = some (Value.string x.1.nm):=own_at (f:=tiC) tiC_len RR.own rfl hlt (by omega) (by rw [<- hx];rfl)
   have y3 : wr.cell? ⟨g,k * 4 + 3,none⟩ = some (Value.slice x.2.a x.1.ns.length x.2.c):=own_at (f:=tiC) tiC_len RR.own rfl hlt (by omega) (by rw [<- hx];rfl)
   obtain ⟨z0,hz⟩:=xe (x.1.op)
   clear RR hx
   go_wp2_with (first | (at_builtin;refine wpList_append_lies _ rfl _ _ 43 rfl w.heap.size 99 i0 _ 4 64 Tryz.underlying43 hi0 hz0 hz1 hz2 rfl (by omega) (.slice va k vc) k (tisC (xs.take k)) rfl (hO.alloc _) ⟨wr.heap.size,0,none⟩ 1 1 [Value.int .i64 x.1.op,Value.string x.1.md,Value.string x.1.nm,Value.slice x.2.a x.1.ns.length x.2.c] rfl rfl (World.news_of_block (cs:=#[Value.int .i64 x.1.op,Value.string x.1.md,Value.string x.1.nm,Value.slice x.2.a x.1.ns.length x.2.c]) (t:=99) (fr:=(0,0)) (heap_alloc_new wr _)) (by simp [Value.oneCell']) (by omega) (by unfold maxLen;omega) (by omega) (by simp only [World.size_alloc];omega) (wr.heap.size + 1) (by simp) ?_;intro gg cap3 w5 hown3 hg3 hat3 hlt3))
   have HN : Hid (Bw w w5):=below_grown HW.out hg3 (fun b e=>(hO.lt b e).1)
   refine ⟨⟨k + 1,by omega,by go_num,?_,HN⟩,by simp [intOf];omega⟩
   rw [HX.out,tisC_snoc]
   exact hown3
  have hkn : k = xs.length:=by omega
  subst hkn
  have ST2 : Hid (wr.ownsRow w.heap.size 99 4 (.slice va xs.length vc) (xs.length + 0) (tisC (xs ++ ys.take 0))):=by
   show World.ownsRow _ _ _ _ _ _ _
   rw [List.take_zero,List.append_nil,Nat.add_zero]
   rw [List.take_length] at hO
   exact hO
  have HW0 : Hid (Bw w wr):=HW
  clear hO HW hlt hk hws
  go_wp2
  go_loopw [5,7] (fun v i wr=>∃ k : Nat,k <= ys.length /\ i = .int .i64 k /\ wr.ownsRow w.heap.size 99 4 v (xs.length + k) (tisC (xs ++ ys.take k)) /\ Hid (Bw w wr)) (fun _ i _=>ys.length - (intOf i).toNat)
  case atStart=>exact ⟨0,Nat.zero_le _,rfl,ST2.out,HW0⟩
  case round=>
   rename World=>wr
   clear ST2 HW0
   obtain ⟨k,hk,rfl,hO,HW⟩:=hrel
   obtain ⟨va,vc,rfl⟩:=own_form hO
   have hws:=HW.out.size
   by_cases hlt : k < ys.length
   case pos=>
    obtain ⟨g,gc,ev,hg1,hg2,hg3⟩:=own_blk H2.out.own (show 0 < ys.length by omega)
    simp only [Value.slice.injEq] at ev
    obtain ⟨rfl,-,rfl⟩:=ev
    have RR:=H2.out.below HW.out
    obtain ⟨x,hx⟩:=xe (ys[k])
    have HX : Hid (ys.take (k + 1) = ys.take k ++ [x]):=by
     show _ = _
     rw [List.take_add_one,List.getElem?_eq_getElem hlt,hx];rfl
    have y0 : wr.cell? ⟨g,k * 4,none⟩ = some (Value.int .i64 x.1.op):=own_at (f:=tiC) tiC_len RR.own (j:=k) (r:=0) rfl hlt (by omega) (by rw [<- hx];rfl)
    have y1 : wr.cell? ⟨g,k * 4 + 1,none⟩ = some (Value.string x.1.md):=own_at (f:=tiC) tiC_len RR.own rfl hlt (by omega) (by rw [<- hx];rfl)
    have y2 : wr.cell? ⟨g,k * 4 + 2,none⟩ = some (Value.string x.1.nm):=own_at (f:=tiC) tiC_len RR.own rfl hlt (by omega) (by rw [<- hx];rfl)
    have y3 : wr.cell? ⟨g,k * 4 + 3,none⟩ = some (Value.slice x.2.a x.1.ns.length x.2.c):=own_at (f:=tiC) tiC_len RR.own rfl hlt (by omega) (by rw [<- hx];rfl)
    obtain ⟨z0,hz⟩:=xe (x.1.op)
    clear RR hx
    go_wp2_with (first | (at_builtin;refine wpList_append_lies _ rfl _ _ 43 rfl w.heap.size 99 i0 _ 4 64 Tryz.underlying43 hi0 hz0 hz1 hz2 rfl (by omega) (.slice va (xs.length + k) vc) (xs.length + k) (tisC (xs ++ ys.take k)) rfl (hO.alloc _) ⟨wr.heap.size,0,none⟩ 1 1 [Value.int .i64 x.1.op,Value.string x.1.md,Value.string x.1.nm,Value.slice x.2.a x.1.ns.length x.2.c] rfl rfl (World.news_of_block (cs:=#[Value.int .i64 x.1.op,Value.string x.1.md,Value.string x.1.nm,Value.slice x.2.a x.1.ns.length x.2.c]) (t:=99) (fr:=(0,0)) (heap_alloc_new wr _)) (by simp [Value.oneCell']) (by omega) (by unfold maxLen;omega) (by omega) (by simp only [World.size_alloc];omega) (wr.heap.size + 1) (by simp) ?_;intro gg cap3 w5 hown3 hg3 hat3 hlt3))
    have HN : Hid (Bw w w5):=below_grown HW.out hg3 (fun b e=>(hO.lt b e).1)
    refine ⟨⟨k + 1,by omega,by go_num,?_,HN⟩,by simp [intOf];omega⟩
    rw [HX.out,<- List.append_assoc,tisC_snoc]
    exact hown3
   have hkn : k = ys.length:=by omega
   subst hkn
   have HF : Hid (RT B wr (.slice va (xs.length + ys.length) vc) (xs ++ ys)):=by
    rw [List.take_length] at hO
    refine ⟨by rw [lap];exact own_mono hO hB,fun x hx=>?_⟩
    rcases List.mem_append.1 hx with z | z
    ·exact (H1.out.below HW.out).nm x z
    ·exact (H2.out.below HW.out).nm x z
   clear hO
   go_wp2
   go_ret
   exact ⟨⟨_,_,_,rfl,HF⟩,HW⟩
theorem m_joinE {B : Nat} (w : World) {v1 v2 : Value} {xs ys : List (EI × EPl)} (h1 : RE B w v1 xs) (h2 : RE B w v2 ys) (hl : xs.length + ys.length <= 100000) (hB : B <= w.heap.size) :
  Calls Tryz.prog 77 #[v1,v2] w fun e w'=>(∃ va n c,e = .returned (.slice va n c) /\ Hid (RE B w' (.slice va n c) (xs ++ ys))) /\ Hid (Bw w w'):=by
 obtain ⟨i0,hi0,hz0,hz1,hz2⟩:=info_parts Tryz.infoEI
 obtain ⟨a1,c1,rfl⟩:=own_form h1.own
 obtain ⟨a2,c2,rfl⟩:=own_form h2.own
 have H1 : Hid (RE B w (.slice a1 xs.length c1) xs):=h1
 have H2 : Hid (RE B w (.slice a2 ys.length c2) ys):=h2
 have ST : Hid ((w.alloc (.cells #[] 70)).ownsRow w.heap.size 70 6 (.slice (some ⟨w.heap.size,0,none⟩) 0 0) 0 (eisC (xs.take 0))):=World.ownsRow_lit w #[] 0 (nlr _) (by unfold maxLen;omega) (by rfl)
 clear h1 h2
 go_enter Tryz.func77,Tryz.ntmps77
 go_wp2
 go_loopw [5,6] (fun v i wr=>∃ k : Nat,k <= xs.length /\ i = .int .i64 k /\ wr.ownsRow w.heap.size 70 6 v k (eisC (xs.take k)) /\ Hid (Bw w wr)) (fun _ i _=>xs.length - (intOf i).toNat)
 case atStart=>exact ⟨0,Nat.zero_le _,rfl,ST.out,bel1 _ _⟩
 case round=>
  clear ST
  obtain ⟨k,hk,rfl,hO,HW⟩:=hrel
  obtain ⟨va,vc,rfl⟩:=own_form hO
  have hws:=HW.out.size
  by_cases hlt : k < xs.length
  case pos=>
   obtain ⟨g,gc,ev,hg1,hg2,hg3⟩:=own_blk H1.out.own (show 0 < xs.length by omega)
   simp only [Value.slice.injEq] at ev
   obtain ⟨rfl,-,rfl⟩:=ev
   have RR:=H1.out.below HW.out
   obtain ⟨x,hx⟩:=xe (xs[k])
   have HX : Hid (xs.take (k + 1) = xs.take k ++ [x]):=by
    show _ = _
    rw [List.take_add_one,List.getElem?_eq_getElem hlt,hx];rfl
   obtain ⟨ta,tc,HTV⟩ : ∃ ta tc,x.2.tv = .slice ta x.2.zs.length tc:=own_form (RR.ok x (by rw [hx];exact List.getElem_mem hlt)).ty.own
   obtain ⟨tn,htn⟩:=xe (x.2.zs.length)
   rw [<- htn] at HTV
   clear htn
   have HCX : Hid (eiC x = [Value.int .i64 x.1.op,Value.int .i64 x.1.num,Value.string x.1.md,Value.string x.1.nm,Value.slice x.2.np.a x.1.ns.length x.2.np.c,Value.slice ta tn tc]):=by show _ = _;unfold eiC;rw [HTV]
   have y0 : wr.cell? ⟨g,k * 6,none⟩ = some (Value.int .i64 x.1.op):=own_at (f:=eiC) eiC_len RR.own (j:=k) (r:=0) rfl hlt (by omega) (by rw [<- hx];rfl)
   have y1 : wr.cell? ⟨g,k * 6 + 1,none⟩ = some (Value.int .i64 x.1.num):=own_at (f:=eiC) eiC_len RR.own rfl hlt (by omega) (by rw [<- hx];rfl)
   have y2 : wr.cell? ⟨g,k * 6 + 2,none⟩ = some (Value.string x.1.md):=own_at (f:=eiC) eiC_len RR.own rfl hlt (by omega) (by rw [<- hx];rfl)
   have y3 : wr.cell? ⟨g,k * 6 + 3,none⟩ = some (Value.string x.1.nm):=own_at (f:=eiC) eiC_len RR.own rfl hlt (by omega) (by rw [<- hx];rfl)
   have y4 : wr.cell? ⟨g,k * 6 + 4,none⟩ = some (Value.slice x.2.np.a x.1.ns.length x.2.np.c):=own_at (f:=eiC) eiC_len RR.own rfl hlt (by omega) (by rw [<- hx];rfl)
   have y5 : wr.cell? ⟨g,k * 6 + 5,none⟩ = some (Value.slice ta tn tc):=own_at (f:=eiC) eiC_len RR.own rfl hlt (by omega) (by rw [<- hx];show some x.2.tv = _;rw [HTV])
   obtain ⟨z0,hz⟩:=xe (x.1.op)
   clear RR hx HTV hz
   go_wp2_with (first | (at_builtin;refine wpList_append_lies _ rfl _ _ 44 rfl w.heap.size 70 i0 _ 6 96 Tryz.underlying44 hi0 hz0 hz1 hz2 rfl (by omega) (.slice va k vc) k (eisC (xs.take k)) rfl (hO.alloc _) ⟨wr.heap.size,0,none⟩ 1 1 [Value.int .i64 x.1.op,Value.int .i64 x.1.num,Value.string x.1.md,Value.string x.1.nm,Value.slice x.2.np.a x.1.ns.length x.2.np.c,Value.slice ta tn tc] rfl rfl (World.news_of_block (cs:=#[Value.int .i64 x.1.op,Value.int .i64 x.1.num,Value.string x.1.md,Value.string x.1.nm,Value.slice x.2.np.a x.1.ns.length x.2.np.c,Value.slice ta tn tc]) (t:=70) (fr:=(0,0)) (heap_alloc_new wr _)) (by simp [Value.oneCell']) (by omega) (by unfold maxLen;omega) (by omega) (by simp only [World.size_alloc];omega) (wr.heap.size + 1) (by simp) ?_;intro gg cap3 w5 hown3 hg3 hat3 hlt3))
   have HN : Hid (Bw w w5):=below_grown HW.out hg3 (fun b e=>(hO.lt b e).1)
   refine ⟨⟨k + 1,by omega,by go_num,?_,HN⟩,by simp [intOf];omega⟩
   rw [HX.out,eisC_snoc]
   rw [HCX.out];exact hown3
  have hkn : k = xs.length:=by omega
  subst hkn
  have ST2 : Hid (wr.ownsRow w.heap.size 70 6 (.slice va xs.length vc) (xs.length + 0) (eisC (xs ++ ys.take 0))):=by
   show World.ownsRow _ _ _ _ _ _ _
   rw [List.take_zero,List.append_nil,Nat.add_zero]
   rw [List.take_length] at hO
   exact hO
  have HW0 : Hid (Bw w wr):=HW
  clear hO HW hlt hk hws
  go_wp2
  go_loopw [5,7] (fun v i wr=>∃ k : Nat,k <= ys.length /\ i = .int .i64 k /\ wr.ownsRow w.heap.size 70 6 v (xs.length + k) (eisC (xs ++ ys.take k)) /\ Hid (Bw w wr)) (fun _ i _=>ys.length - (intOf i).toNat)
  case atStart=>exact ⟨0,Nat.zero_le _,rfl,ST2.out,HW0⟩
  case round=>
   rename World=>wr
   clear ST2 HW0
   obtain ⟨k,hk,rfl,hO,HW⟩:=hrel
   obtain ⟨va,vc,rfl⟩:=own_form hO
   have hws:=HW.out.size
   by_cases hlt : k < ys.length
   case pos=>
    obtain ⟨g,gc,ev,hg1,hg2,hg3⟩:=own_blk H2.out.own (show 0 < ys.length by omega)
    simp only [Value.slice.injEq] at ev
    obtain ⟨rfl,-,rfl⟩:=ev
    have RR:=H2.out.below HW.out
    obtain ⟨x,hx⟩:=xe (ys[k])
    have HX : Hid (ys.take (k + 1) = ys.take k ++ [x]):=by
     show _ = _
     rw [List.take_add_one,List.getElem?_eq_getElem hlt,hx];rfl
    obtain ⟨ta,tc,HTV⟩ : ∃ ta tc,x.2.tv = .slice ta x.2.zs.length tc:=own_form (RR.ok x (by rw [hx];exact List.getElem_mem hlt)).ty.own
    obtain ⟨tn,htn⟩:=xe (x.2.zs.length)
    rw [<- htn] at HTV
    clear htn
    have HCX : Hid (eiC x = [Value.int .i64 x.1.op,Value.int .i64 x.1.num,Value.string x.1.md,Value.string x.1.nm,Value.slice x.2.np.a x.1.ns.length x.2.np.c,Value.slice ta tn tc]):=by show _ = _;unfold eiC;rw [HTV]
    have y0 : wr.cell? ⟨g,k * 6,none⟩ = some (Value.int .i64 x.1.op):=own_at (f:=eiC) eiC_len RR.own (j:=k) (r:=0) rfl hlt (by omega) (by rw [<- hx];rfl)
    have y1 : wr.cell? ⟨g,k * 6 + 1,none⟩ = some (Value.int .i64 x.1.num):=own_at (f:=eiC) eiC_len RR.own rfl hlt (by omega) (by rw [<- hx];rfl)
    have y2 : wr.cell? ⟨g,k * 6 + 2,none⟩ = some (Value.string x.1.md):=own_at (f:=eiC) eiC_len RR.own rfl hlt (by omega) (by rw [<- hx];rfl)
    have y3 : wr.cell? ⟨g,k * 6 + 3,none⟩ = some (Value.string x.1.nm):=own_at (f:=eiC) eiC_len RR.own rfl hlt (by omega) (by rw [<- hx];rfl)
    have y4 : wr.cell? ⟨g,k * 6 + 4,none⟩ = some (Value.slice x.2.np.a x.1.ns.length x.2.np.c):=own_at (f:=eiC) eiC_len RR.own rfl hlt (by omega) (by rw [<- hx];rfl)
    have y5 : wr.cell? ⟨g,k * 6 + 5,none⟩ = some (Value.slice ta tn tc):=own_at (f:=eiC) eiC_len RR.own rfl hlt (by omega) (by rw [<- hx];show some x.2.tv = _;rw [HTV])
    obtain ⟨z0,hz⟩:=xe (x.1.op)
    clear RR hx HTV hz
    go_wp2_with (first | (at_builtin;refine wpList_append_lies _ rfl _ _ 44 rfl w.heap.size 70 i0 _ 6 96 Tryz.underlying44 hi0 hz0 hz1 hz2 rfl (by omega) (.slice va (xs.length + k) vc) (xs.length + k) (eisC (xs ++ ys.take k)) rfl (hO.alloc _) ⟨wr.heap.size,0,none⟩ 1 1 [Value.int .i64 x.1.op,Value.int .i64 x.1.num,Value.string x.1.md,Value.string x.1.nm,Value.slice x.2.np.a x.1.ns.length x.2.np.c,Value.slice ta tn tc] rfl rfl (World.news_of_block (cs:=#[Value.int .i64 x.1.op,Value.int .i64 x.1.num,Value.string x.1.md,Value.string x.1.nm,Value.slice x.2.np.a x.1.ns.length x.2.np.c,Value.slice ta tn tc]) (t:=70) (fr:=(0,0)) (heap_alloc_new wr _)) (by simp [Value.oneCell']) (by omega) (by unfold maxLen;omega) (by omega) (by simp only [World.size_alloc];omega) (wr.heap.size + 1) (by simp) ?_;intro gg cap3 w5 hown3 hg3 hat3 hlt3))
    have HN : Hid (Bw w w5):=below_grown HW.out hg3 (fun b e=>(hO.lt b e).1)
    refine ⟨⟨k + 1,by omega,by go_num,?_,HN⟩,by simp [intOf];omega⟩
    rw [HX.out,<- List.append_assoc,eisC_snoc]
    rw [HCX.out];exact hown3
   have hkn : k = ys.length:=by omega
   subst hkn
   have HF : Hid (RE B wr (.slice va (xs.length + ys.length) vc) (xs ++ ys)):=by
    rw [List.take_length] at hO
    refine ⟨by rw [lap];exact own_mono hO hB,fun x hx=>?_⟩
    rcases List.mem_append.1 hx with z | z
    ·exact (H1.out.below HW.out).ok x z
    ·exact (H2.out.below HW.out).ok x z
   clear hO
   go_wp2
   go_ret
   exact ⟨⟨_,_,_,rfl,HF⟩,HW⟩
theorem kp_set {W : World} {X n : Nat} {t : TypeId} {f : Nat -> Value} (R : W.rowIs X t n f) (k : Nat) (v : Value) : Kp t W (W.setCell ⟨X,k,none⟩ v):=fun b c t' fr hb hne=>by
 refine Below.heap_setCell _ _ _ _ ?_
 show b ≠ X
 rintro rfl
 obtain ⟨c',hc',_⟩:=R
 rw [hc'] at hb
 simp only [Option.some.injEq,Obj.cells.injEq] at hb
 exact hne hb.2.1.symm
def sts (ns : List ByteArray) : List Value:=ns.flatMap fun s=>[.string s]
theorem sts_snoc (ns : List ByteArray) (s : ByteArray) : sts (ns ++ [s]) = sts ns ++ [.string s]:=by simp [sts]
theorem sts_len (s : ByteArray) : ([Value.string s]).length = 1:=rfl
theorem nm_of_own {B : Nat} {w : World} {va : Option Addr} {n c : Nat} {ns : List ByteArray} (hn : n = ns.length) (h : w.ownsRow B 9 1 (.slice va n c) n (sts ns)) : ∃ g,NmOK B w ns ⟨va,g,c⟩:=by
 subst hn
 by_cases hne : ns = []
 ·exact ⟨0,by rw [hne];exact NmOK.nil _ _ _⟩
 ·have hpos : 0 < ns.length:=List.length_pos_iff.2 hne
  obtain ⟨h1,h2⟩:=h
  rcases h2 with ⟨_,h3⟩ | ⟨g,cap,cur,hv,hb,hh,hc,hm,hs,ht⟩
  ·omega
  ·simp only [Value.slice.injEq] at hv
   obtain ⟨rfl,-,rfl⟩:=hv
   refine ⟨g,fun _=>⟨rfl,hb,cur.size,fun j=>cur[j]?.getD default,⟨cur,hh,rfl,fun i hi=>?_⟩,by omega,fun j hj=>?_⟩⟩
   ·show cur[i]? = some (cur[i]?.getD default)
    rw [Array.getElem?_eq_getElem hi];rfl
   ·have e1 : (sts ns)[j]? = some (.string (ns.getD j e0)):=by
     have:=flat_get (fun s : ByteArray=>[Value.string s]) 1 sts_len ns j 0 hj (by omega)
     rw [Nat.mul_one,Nat.add_zero] at this
     unfold sts
     rw [this,List.getD_eq_getElem?_getD,List.getElem?_eq_getElem hj];rfl
    rw [<- ht,List.getElem?_take,if_pos (by omega)] at e1
    have e2 : cur[j]? = some (.string (ns.getD j e0)):=by rw [<- e1];simp
    show cur[j]?.getD default = _
    rw [e2];rfl
theorem isC_isT {w : World} {tb o : Nat} {ts : List TK} (h : TkAt w tb o ts) {i : Nat} {c : Int} {s : List UInt8} (hc : isC ts i c = true) (hs : cls s ≠ c) : isT ts i s = false:=by
 have hi:=isC_lt hc
 rw [isC_at hi] at hc
 have e : (tkA ts i).cls = c:=by simpa using hc
 rw [h.gd i hi] at e
 rw [isT_at hi,beq_eq_false_iff_ne]
 intro z
 rw [ByteArray.toList_eq,z] at e
 exact hs e
theorem m_isb {tb o c : Nat} {ao : Option Addr} {ts : List TK} {w : World} (h : MS w tb o ao ts) {a : Int} {i : Nat} (ha : a = i) {s : ByteArray} {l : List UInt8} {b : Bool} (hb : isT ts i l = b) (hl : s.data.toList = l) (hs : cls l = 2 \/ cls l = 4) :
  Calls Tryz.prog 23 #[.slice ao ts.length c,.int .i64 a,.string s] w fun e w'=>e = .returned (.bool b) /\ w = w':=by
 subst hl hb
 exact m_is w h ha (by rw [ByteArray.toList_eq];exact hs)
theorem m_isN {tb o c : Nat} {ao : Option Addr} {ts : List TK} {w : World} (h : MS w tb o ao ts) {a : Int} {i : Nat} (ha : a = i) {b : Bool} (hb : isC ts i 1 = b) :
  Calls Tryz.prog 48 #[.slice ao ts.length c,.int .i64 a] w fun e w'=>e = .returned (.bool b) /\ w = w':=by
 subst hb
 exact m_isName w h ha
theorem m_twice (w : World) {B : Nat} {va : Option Addr} {n c : Nat} {ns : List ByteArray} (hn : n = ns.length) (h : w.ownsRow B 9 1 (.slice va n c) n (sts ns)) (hl : n <= 100000) (s : ByteArray) {b : Bool} (hb : hasN ns s = b) :
  Calls Tryz.prog 88 #[.slice va n c,.string s] w fun e w'=>e = .returned (.bool b) /\ w = w':=by
 have HN : Hid (n = ns.length):=hn
 have HB : Hid (hasN ns s = b):=hb
 have HC : Hid (∀ k (hk : k < ns.length),∃ g,va = some ⟨g,0,none⟩ /\ w.cell? ⟨g,k,none⟩ = some (.string ns[k])):=fun k hk=>by
  subst hn
  obtain ⟨g,gc,ev,_⟩:=own_blk h (show 0 < ns.length by omega)
  simp only [Value.slice.injEq] at ev
  obtain ⟨rfl,-,rfl⟩:=ev
  have:=own_at (f:=fun s : ByteArray=>[Value.string s]) sts_len h rfl (j:=k) (r:=0) hk (by omega) rfl
  rw [Nat.mul_one,Nat.add_zero] at this
  exact ⟨g,rfl,this⟩
 clear hn hb h
 go_enter Tryz.func88,Tryz.ntmps88
 go_wp2
 go_loopw [5] (fun i wr=>∃ k : Nat,k <= n /\ i = .int .i64 k /\ wr = w /\ Hid (∀ j (hj : j < ns.length),j < k -> (ns[j].toList == s.toList) = false)) (fun i _=>n - (intOf i).toNat)
 case atStart=>exact ⟨0,Nat.zero_le _,rfl,rfl,fun j _ hj=>absurd hj (Nat.not_lt_zero _)⟩
 case round=>
  obtain ⟨k,hk,rfl,rfl,HF⟩:=hrel
  by_cases hlt : k < n
  ·have hlt' : k < ns.length:=by have:=HN.out;omega
   obtain ⟨g,rfl,ck⟩:=HC.out k hlt'
   obtain ⟨x,hx⟩:=xe (ns[k])
   rw [<- hx] at ck
   cases r : (x.toList == s.toList)
   ·have HR : Hid ((ns[k].toList == s.toList) = false):=by show _ = _;rw [<- hx];exact r
    clear hx
    go_wp2
    refine ⟨⟨k + 1,by omega,by go_num,trivial,fun j hj hjk=>?_⟩,by simp [intOf];omega⟩
    by_cases e : j = k
    ·subst e;exact HR.out
    ·exact HF.out j hj (by omega)
   ·have HR : Hid (true = b):=by
     show _ = _
     rw [<- HB.out]
     unfold hasN
     refine (List.any_eq_true.2 ⟨x,by rw [hx];exact List.getElem_mem hlt',?_⟩).symm
     rw [<- ByteArray.toList_eq,<- ByteArray.toList_eq];exact r
    clear hx
    go_wp2
    go_ret
    exact ⟨by rw [<- HR.out];rfl,rfl⟩
  ·have hkn : k = n:=by omega
   subst hkn
   have HR : Hid (false = b):=by
    show _ = _
    rw [<- HB.out]
    unfold hasN
    refine (List.any_eq_false.2 fun x hx=>?_).symm
    obtain ⟨j,hj,rfl⟩:=List.mem_iff_getElem.1 hx
    have:=HF.out j hj (by have:=HN.out;omega)
    rw [<- ByteArray.toList_eq,<- ByteArray.toList_eq,this];exact Bool.false_ne_true
   go_wp2
   go_ret
   exact ⟨by rw [<- HR.out];rfl,rfl⟩
end Go.Proofs.YtcehppndpccldaaGreatDoor
namespace Go.Proofs.YtcehppndpccldaaGreatDoor
def SmT (L : Nat) (x : TI) : Prop:=x.ns.length <= L
def SmE (L : Nat) (x : EI) : Prop:=x.ns.length <= L /\ x.ty.length <= L /\ ∀ t,t ∈ x.ty -> SmT L t
def SmD (L : Nat) (d : DC) : Prop:=d.ty.length <= L /\ (∀ t,t ∈ d.ty -> SmT L t) /\ d.ex.length <= L /\ ∀ t,t ∈ d.ex -> SmE L t
def Ev {α : Type} (P : α -> Prop) (T : Nat -> Option (List α × Nat)) : Prop:=∀ i l j,T i = some (l,j) -> ∀ x,x ∈ l -> P x
theorem floop_ev {α : Type} {P : α -> Prop} {ts : List TK} {T : Nat -> Option (List α × Nat)} {sg : List UInt8} (h : Ev P T) : ∀ f j ns its l ns' k,floop ts T sg f j ns its = some (l,ns',k) -> (∀ x,x ∈ its -> P x) -> ∀ x,x ∈ l -> P x
 | 0,_,_,_,_,_,_,e=>by cases e
 | f + 1,j,ns,its,l,ns',k,e=>by
   intro hi
   rw [floop] at e
   split at e
   ·split at e
    ·cases e
    ·split at e
     ·cases eT : T (j + 2) with
      | none=>rw [eT] at e;cases e
      | some r=>
        obtain ⟨l0,k0⟩:=r
        rw [eT] at e
        have h1:=h _ _ _ eT
        have h2 : ∀ x,x ∈ its ++ l0 -> P x:=fun x hx=>(List.mem_append.1 hx).elim (hi x) (h1 x)
        dsimp only at e
        split at e
        case isTrue hs=>
         simp only [Option.some.injEq,Prod.mk.injEq] at e
         obtain ⟨rfl,rfl,rfl⟩:=e
         exact h2
        case isFalse hs=>
         split at e
         ·exact floop_ev h f _ _ _ _ _ _ e h2
         ·cases e
     ·cases e
   ·cases e
theorem flds_ev {α : Type} {P : α -> Prop} {ts : List TK} {T : Nat -> Option (List α × Nat)} {sg : List UInt8} (h : Ev P T) {j : Nat} {l : List α} {ns : List ByteArray} {k : Nat} (e : fldsP ts T sg j = some (l,ns,k)) : ∀ x,x ∈ l -> P x:=by
 unfold fldsP at e
 split at e
 case isTrue hs=>
  simp only [Option.some.injEq,Prod.mk.injEq] at e
  obtain ⟨rfl,rfl,rfl⟩:=e
  intro x hx
  cases hx
 case isFalse=>exact floop_ev h _ _ _ _ _ _ _ e (fun x hx=>by cases hx)
theorem brk_ev {α : Type} {P : α -> Prop} {ts : List TK} {T : Nat -> Option (List α × Nat)} (h : Ev P T) : Ev P (brkP ts T):=fun i l k e=>by
 unfold brkP at e
 cases eT : T i with
 | none=>rw [eT] at e;cases e
 | some r=>
   obtain ⟨l0,k0⟩:=r
   rw [eT] at e
   dsimp only at e
   split at e
   ·simp only [Option.some.injEq,Prod.mk.injEq] at e
    obtain ⟨rfl,rfl⟩:=e
    exact h _ _ _ eT
   ·cases e
theorem one_ev {α : Type} {P : α -> Prop} {t : α} (hp : P t) {l : List α} {i j : Nat} (e : (some ([t],i) : Option (List α × Nat)) = some (l,j)) : ∀ x,x ∈ l -> P x:=by
 simp only [Option.some.injEq,Prod.mk.injEq] at e
 obtain ⟨rfl,rfl⟩:=e
 intro x hx
 rw [ms1 hx]
 exact hp
theorem ti_sm (L : Nat) (k : Int) (a b : ByteArray) : SmT L ⟨k,a,b,[]⟩:=Nat.zero_le _
theorem base_ev {st : Bool} {ts : List TK} {T : Nat -> Option (List TI × Nat)} (hf : Far ts.length T) (h : Ev (SmT ts.length) T) : Ev (SmT ts.length) (baseP st ts T):=fun i l j e=>by
 unfold baseP at e
 split at e
 case isTrue hc=>
  cases ep : pathP st ts i with
  | none=>rw [ep] at e;cases e
  | some r=>
    obtain ⟨m,n,k⟩:=r
    rw [ep] at e
    exact one_ev (ti_sm _ _ _ _) e
 case isFalse=>
  split at e
  ·exact one_ev (ti_sm _ _ _ _) e
  split at e
  ·exact one_ev (ti_sm _ _ _ _) e
  split at e
  ·exact one_ev (ti_sm _ _ _ _) e
  split at e
  ·cases ep : fldsP ts T sColon (i + 1) with
   | none=>rw [ep] at e;cases e
   | some r=>
     obtain ⟨its,ns,k⟩:=r
     rw [ep] at e
     simp only [Option.some.injEq,Prod.mk.injEq] at e
     obtain ⟨rfl,rfl⟩:=e
     have hl:=flds_far hf ep
     intro x hx
     rcases List.mem_append.1 hx with z | z
     ·exact flds_ev h ep x z
     ·rw [ms1 z]
      show ns.length <= _
      omega
  split at e
  ·exact brk_ev h _ _ _ e
  ·cases e
theorem ty_ev {st : Bool} {ts : List TK} : ∀ f,Ev (SmT ts.length) (tyP st ts f)
 | 0=>fun i l j e=>by cases e
 | f + 1=>fun i l j e=>by
   rw [tyP] at e
   cases eb : baseP st ts (tyP st ts f) i with
   | none=>rw [eb] at e;cases e
   | some r=>
     obtain ⟨l0,k0⟩:=r
     rw [eb] at e
     have h1:=base_ev (ty_far f) (ty_ev f) _ _ _ eb
     dsimp only at e
     split at e
     ·cases eT : tyP st ts f (k0 + 1) with
      | none=>rw [eT] at e;cases e
      | some r=>
        obtain ⟨l1,k1⟩:=r
        rw [eT] at e
        have h2:=ty_ev f _ _ _ eT
        simp only [Option.some.injEq,Prod.mk.injEq] at e
        obtain ⟨rfl,rfl⟩:=e
        intro x hx
        rcases List.mem_append.1 hx with z | z
        ·exact (List.mem_append.1 z).elim (h1 x) (h2 x)
        ·rw [ms1 z];exact Nat.zero_le _
     ·simp only [Option.some.injEq,Prod.mk.injEq] at e
      obtain ⟨rfl,rfl⟩:=e
      exact h1
theorem exO_sm (L : Nat) (k : Int) : SmE L (exO k):=⟨Nat.zero_le _,Nat.zero_le _,fun t ht=>by cases ht⟩
theorem ei_sm (L : Nat) (a b : Int) (c d : ByteArray) : SmE L ⟨a,b,c,d,[],[]⟩:=⟨Nat.zero_le _,Nat.zero_le _,fun t ht=>by cases ht⟩
theorem app_ev {α : Type} {P : α -> Prop} {a b : List α} (ha : ∀ x,x ∈ a -> P x) (hb : ∀ x,x ∈ b -> P x) : ∀ x,x ∈ a ++ b -> P x:=fun x hx=>(List.mem_append.1 hx).elim (ha x) (hb x)
theorem sing_ev {α : Type} {P : α -> Prop} {a : α} (ha : P a) : ∀ x,x ∈ [a] -> P x:=fun x hx=>by rw [ms1 hx];exact ha
theorem atom_ev {st : Bool} {ts : List TK} {T : Nat -> Option (List EI × Nat)} (hf : Far ts.length T) (h : Ev (SmE ts.length) T) : Ev (SmE ts.length) (atomP st ts T):=fun i l j e=>by
 unfold atomP at e
 split at e
 case isTrue hc=>
  cases ep : pathP st ts i with
  | none=>rw [ep] at e;cases e
  | some r=>
    obtain ⟨m,n,k⟩:=r
    rw [ep] at e
    exact one_ev (ei_sm _ _ _ _ _) e
 case isFalse=>
  split at e
  ·exact one_ev (ei_sm _ _ _ _ _) e
  split at e
  ·exact one_ev (ei_sm _ _ _ _ _) e
  split at e
  ·exact one_ev (exO_sm _ _) e
  split at e
  ·cases ep : fldsP ts T sEq (i + 1) with
   | none=>rw [ep] at e;cases e
   | some r=>
     obtain ⟨its,ns,k⟩:=r
     rw [ep] at e
     simp only [Option.some.injEq,Prod.mk.injEq] at e
     obtain ⟨rfl,rfl⟩:=e
     have hl:=flds_far hf ep
     exact app_ev (flds_ev h ep) (sing_ev ⟨by show ns.length <= _;omega,Nat.zero_le _,fun t ht=>by cases ht⟩)
  split at e
  ·exact brk_ev h _ _ _ e
  ·cases e
theorem postL_ev {ts : List TK} {T : Nat -> Option (List EI × Nat)} (h : Ev (SmE ts.length) T) : ∀ f its j l k,postL ts T f its j = some (l,k) -> (∀ x,x ∈ its -> SmE ts.length x) -> ∀ x,x ∈ l -> SmE ts.length x
 | 0,_,_,_,_,e=>by cases e
 | f + 1,its,j,l,k,e=>by
   intro hi
   rw [postL] at e
   split at e
   ·split at e
    ·exact postL_ev h f _ _ _ _ e (app_ev hi (sing_ev (ei_sm _ _ _ _ _)))
    ·cases e
   ·split at e
    ·cases eb : brkP ts T (j + 1) with
     | none=>rw [eb] at e;cases e
     | some r=>
       obtain ⟨l0,k0⟩:=r
       rw [eb] at e
       exact postL_ev h f _ _ _ _ e (app_ev (app_ev hi (brk_ev h _ _ _ eb)) (sing_ev (exO_sm _ _)))
    ·simp only [Option.some.injEq,Prod.mk.injEq] at e
     obtain ⟨rfl,rfl⟩:=e
     exact hi
theorem post_ev {st : Bool} {ts : List TK} {T : Nat -> Option (List EI × Nat)} (hf : Far ts.length T) (h : Ev (SmE ts.length) T) : Ev (SmE ts.length) (postP st ts T):=fun i l j e=>by
 unfold postP at e
 cases ea : atomP st ts T i with
 | none=>rw [ea] at e;cases e
 | some r=>
   obtain ⟨l0,k0⟩:=r
   rw [ea] at e
   exact postL_ev h _ _ _ _ _ e (atom_ev hf h _ _ _ ea)
theorem sumL_ev {st : Bool} {ts : List TK} {T : Nat -> Option (List EI × Nat)} (hf : Far ts.length T) (h : Ev (SmE ts.length) T) : ∀ f its j l k,sumL st ts T f its j = some (l,k) -> (∀ x,x ∈ its -> SmE ts.length x) -> ∀ x,x ∈ l -> SmE ts.length x
 | 0,_,_,_,_,e=>by cases e
 | f + 1,its,j,l,k,e=>by
   intro hi
   rw [sumL] at e
   split at e
   ·cases eb : postP st ts T (j + 1) with
    | none=>rw [eb] at e;cases e
    | some r=>
      obtain ⟨l0,k0⟩:=r
      rw [eb] at e
      exact sumL_ev hf h f _ _ _ _ e (app_ev (app_ev hi (post_ev hf h _ _ _ eb)) (sing_ev (exO_sm _ _)))
   ·simp only [Option.some.injEq,Prod.mk.injEq] at e
    obtain ⟨rfl,rfl⟩:=e
    exact hi
theorem sum_ev {st : Bool} {ts : List TK} {T : Nat -> Option (List EI × Nat)} (hf : Far ts.length T) (h : Ev (SmE ts.length) T) : Ev (SmE ts.length) (sumP st ts T):=fun i l j e=>by
 unfold sumP at e
 cases ea : postP st ts T i with
 | none=>rw [ea] at e;cases e
 | some r=>
   obtain ⟨l0,k0⟩:=r
   rw [ea] at e
   exact sumL_ev hf h _ _ _ _ _ e (post_ev hf h _ _ _ ea)
theorem fun_ev {st : Bool} {ts : List TK} {T : Nat -> Option (List EI × Nat)} (h : Ev (SmE ts.length) T) : Ev (SmE ts.length) (funP st ts T):=fun i l j e=>by
 unfold funP at e
 split at e
 ·cases et : tyP st ts (ts.length + 1) (i + 3) with
  | none=>rw [et] at e;cases e
  | some r=>
    obtain ⟨t,k0⟩:=r
    rw [et] at e
    have ht:=ty_ev _ _ _ _ et
    have hl:=ty_far _ _ _ _ et
    dsimp only at e
    split at e
    ·cases eb : T (k0 + 1) with
     | none=>rw [eb] at e;cases e
     | some r=>
       obtain ⟨l0,k1⟩:=r
       rw [eb] at e
       simp only [Option.some.injEq,Prod.mk.injEq] at e
       obtain ⟨rfl,rfl⟩:=e
       exact app_ev (h _ _ _ eb) (sing_ev ⟨Nat.zero_le _,by show t.length <= _;omega,ht⟩)
    ·cases e
 ·cases e
theorem if_ev {ts : List TK} {T : Nat -> Option (List EI × Nat)} (h : Ev (SmE ts.length) T) : Ev (SmE ts.length) (ifP ts T):=fun i l j e=>by
 unfold ifP at e
 cases e1 : T i with
 | none=>rw [e1] at e;cases e
 | some r=>
   obtain ⟨l1,k1⟩:=r
   rw [e1] at e
   dsimp only at e
   split at e
   ·cases e2 : T (k1 + 1) with
    | none=>rw [e2] at e;cases e
    | some r=>
      obtain ⟨l2,k2⟩:=r
      rw [e2] at e
      dsimp only at e
      split at e
      ·cases e3 : T (k2 + 1) with
       | none=>rw [e3] at e;cases e
       | some r=>
         obtain ⟨l3,k3⟩:=r
         rw [e3] at e
         simp only [Option.some.injEq,Prod.mk.injEq] at e
         obtain ⟨rfl,rfl⟩:=e
         exact app_ev (app_ev (app_ev (h _ _ _ e1) (h _ _ _ e2)) (h _ _ _ e3)) (sing_ev (exO_sm _ _))
      ·cases e
   ·cases e
theorem less_ev {st : Bool} {ts : List TK} {T : Nat -> Option (List EI × Nat)} (hf : Far ts.length T) (h : Ev (SmE ts.length) T) : Ev (SmE ts.length) (lessP st ts T):=fun i l j e=>by
 unfold lessP at e
 cases e1 : sumP st ts T i with
 | none=>rw [e1] at e;cases e
 | some r=>
   obtain ⟨l1,k1⟩:=r
   rw [e1] at e
   have h1:=sum_ev hf h _ _ _ e1
   dsimp only at e
   split at e
   ·cases e2 : sumP st ts T (k1 + 1) with
    | none=>rw [e2] at e;cases e
    | some r=>
      obtain ⟨l2,k2⟩:=r
      rw [e2] at e
      simp only [Option.some.injEq,Prod.mk.injEq] at e
      obtain ⟨rfl,rfl⟩:=e
      exact app_ev (app_ev h1 (sum_ev hf h _ _ _ e2)) (sing_ev (exO_sm _ _))
   ·simp only [Option.some.injEq,Prod.mk.injEq] at e
    obtain ⟨rfl,rfl⟩:=e
    exact h1
theorem ex_ev {st : Bool} {ts : List TK} : ∀ f,Ev (SmE ts.length) (exP st ts f)
 | 0=>fun i l j e=>by cases e
 | f + 1=>fun i l j e=>by
   rw [exP] at e
   split at e
   ·exact fun_ev (ex_ev f) _ _ _ e
   ·split at e
    ·exact if_ev (ex_ev f) _ _ _ e
    ·exact less_ev (ex_far f) (ex_ev f) _ _ _ e
theorem bad_sm (L : Nat) : SmD L dBad:=⟨Nat.zero_le _,(fun t ht=>by cases ht),Nat.zero_le _,fun t ht=>by cases ht⟩
theorem decl_sm (st : Bool) (ts : List TK) : SmD ts.length (declP st ts):=by
 unfold declP
 split
 ·split
  ·split
   ·exact ⟨Nat.zero_le _,(fun t ht=>by cases ht),Nat.zero_le _,fun t ht=>by cases ht⟩
   ·exact bad_sm _
  ·split
   ·split
    ·cases e1 : tyP st ts (ts.length + 1) 3 with
     | none=>exact bad_sm _
     | some r=>
       obtain ⟨t,j⟩:=r
       dsimp only
       split
       ·have:=ty_far _ _ _ _ e1
        exact ⟨by show t.length <= _;omega,ty_ev _ _ _ _ e1,Nat.zero_le _,fun t ht=>by cases ht⟩
       ·exact bad_sm _
    ·exact bad_sm _
   ·split
    ·split
     ·cases e1 : tyP st ts (ts.length + 1) 3 with
      | none=>exact bad_sm _
      | some r=>
        obtain ⟨t,j⟩:=r
        dsimp only
        split
        ·cases e2 : exP st ts (ts.length + 1) (j + 1) with
         | none=>exact bad_sm _
         | some r=>
           obtain ⟨x,k⟩:=r
           dsimp only
           split
           ·have h1:=ty_far _ _ _ _ e1
            have h2:=ex_far _ _ _ _ e2
            exact ⟨by show t.length <= _;omega,ty_ev _ _ _ _ e1,by show x.length <= _;omega,ex_ev _ _ _ _ e2⟩
           ·exact bad_sm _
        ·exact bad_sm _
     ·exact bad_sm _
    ·exact bad_sm _
 ·exact bad_sm _
theorem SmT.mono {L M : Nat} (h : L <= M) {x : TI} (hx : SmT L x) : SmT M x:=Nat.le_trans hx h
theorem SmE.mono {L M : Nat} (h : L <= M) {x : EI} (hx : SmE L x) : SmE M x:=⟨Nat.le_trans hx.1 h,Nat.le_trans hx.2.1 h,fun t ht=>(hx.2.2 t ht).mono h⟩
theorem SmD.mono {L M : Nat} (h : L <= M) {x : DC} (hx : SmD L x) : SmD M x:=⟨Nat.le_trans hx.1 h,fun t ht=>(hx.2.1 t ht).mono h,Nat.le_trans hx.2.2.1 h,fun t ht=>(hx.2.2.2 t ht).mono h⟩
theorem decs_sm (st : Bool) : ∀ (f : Nat) (ts : List TK),(decs st f ts).length <= ts.length /\ ∀ d,d ∈ decs st f ts -> SmD ts.length d
 | 0,_=>⟨Nat.zero_le _,fun d hd=>by cases hd⟩
 | f + 1,ts=>by
   rw [decs]
   split
   ·exact ⟨Nat.zero_le _,fun d hd=>by cases hd⟩
   case isFalse hne=>
    have hpos : 0 < ts.length:=by
     rcases ts with _ | ⟨a,l⟩
     ·exact absurd rfl hne
     ·simp
    cases semi ts with
    | none=>exact ⟨by show 1 <= _;omega,sing_ev (bad_sm _)⟩
    | some k=>
      obtain ⟨h1,h2⟩:=decs_sm st f (ts.drop (k + 1))
      have hd : (ts.drop (k + 1)).length <= ts.length:=by rw [List.length_drop];omega
      have hd1 : (ts.drop (k + 1)).length + 1 <= ts.length:=by rw [List.length_drop];omega
      refine ⟨by simp only [List.length_cons];omega,fun d hx=>?_⟩
      rcases List.mem_cons.1 hx with z | z
      ·rw [z];exact (decl_sm st _).mono (by rw [List.length_take];omega)
      ·exact (h2 d z).mono hd
end Go.Proofs.YtcehppndpccldaaGreatDoor
namespace Go.Proofs.YtcehppndpccldaaGreatDoor
open Go.RowKit
theorem map_get {α β : Type} {f : α -> β} {xs ys : List α} (h : xs.map f = ys.map f) {k : Nat} (h1 : k < xs.length) (h2 : k < ys.length) : f xs[k] = f ys[k]:=by
 have e1 : (xs.map f)[k]? = some (f xs[k]):=by rw [List.getElem?_map,List.getElem?_eq_getElem h1];rfl
 have e2 : (ys.map f)[k]? = some (f ys[k]):=by rw [List.getElem?_map,List.getElem?_eq_getElem h2];rfl
 rw [h,e2] at e1
 exact (Option.some.inj e1).symm
def MTR (w : World) (r : Option (List TI × Nat)) (e : Ending) (w' : World) : Prop:=Bw w w' /\ match r with
 | none=>∃ a n c,e = .returned (.agg #[.slice a n c,.int .i64 (-1)])
 | some (l,j)=>∃ a n c k zs,e = .returned (.agg #[.slice a n c,.int .i64 k]) /\ k = (j : Int) /\ RT w.heap.size w' (.slice a n c) zs /\ zs.map Prod.fst = l
def MTC (tb o : Nat) (ts : List TK) (f : Nat) : Prop:=∀ (w : World) (ao : Option Addr) (c : Nat) (a : Int) (i : Nat),MS w tb o ao ts -> a = i -> ts.length - i < f -> i <= 1100 -> Calls Tryz.prog 49 #[.slice ao ts.length c,.int .i64 a] w (MTR w (tyP false ts f i))
theorem below_box {w w1 : World} (h : Bw w w1) (a b : Value) : Bw w ((w1.setCell ⟨w.heap.size,0,none⟩ a).setCell ⟨w.heap.size,1,none⟩ b):=
 ⟨h.os,h.tape,h.output,by rw [World.size_setCell,World.size_setCell];exact h.size,fun k hk=>by
  rw [Below.heap_setCell _ _ _ _ (by show k ≠ w.heap.size;omega),Below.heap_setCell _ _ _ _ (by show k ≠ w.heap.size;omega)]
  exact h.block k hk⟩
abbrev bxT (w : World) : World:=w.alloc (.cells #[.slice none 0 0,.int .i64 0] 74)
theorem mb_int {tb o c : Nat} {ao : Option Addr} {ts : List TK} {T : Nat -> Option (List TI × Nat)} (w : World) (h : MS w tb o ao ts) {i : Nat} (hi9 : i <= 1100) (hc : isC ts i 1 = false) (q0 : isT ts i sInt = true) :
  Calls Tryz.prog 74 #[.slice ao ts.length c,.int .i64 (i : Int)] w (MTR w (baseP false ts T i)):=by
 have HR : Hid (baseP false ts T i = some ([tyO 1],i + 1)):=by
  show _ = _
  unfold baseP
  rw [hc,if_neg (by decide),if_pos q0]
 have HMS : Hid (MS (bxT w) tb o ao ts):=h.below (bel1 _ _)
 have HI : Hid (i <= 1100):=hi9
 clear h hc
 go_enter Tryz.func74,Tryz.ntmps74
 go_wp2_with fail
 refine (m_isb HMS.out (i:=i) (rfl) (l:=sInt) q0 rfl (by decide)).mono ?_
 rintro e w' ⟨rfl,rfl⟩
 go_wp2
 have R:=(row2 w (.slice (some ⟨w.heap.size + 1,0,none⟩) 1 1) (.int .i64 ((i : Int) + 1)) 74).alloc (.cells #[.int .i64 1,.string ⟨#[]⟩,.string ⟨#[]⟩,.slice none 0 0] 99)
 have L:=rt_lit (w.alloc (.cells #[.slice (some ⟨w.heap.size + 1,0,none⟩) 1 1,.int .i64 ((i : Int) + 1)] 74)) (B:=w.heap.size) (by simp) 1 ⟨#[]⟩ ⟨#[]⟩
 simp only [World.size_alloc] at L
 refine bodyPost_ret (ret_ty (k:=4) rfl (R.cell (i:=0) (by omega)) (R.cell (i:=1) (by omega)) _ rfl) rfl ?_
 rw [HR.out]
 exact ⟨(bel1 _ _).alloc (by simp) _,some ⟨w.heap.size + 1,0,none⟩,1,1,_,_,rfl,by omega,L,rfl⟩
theorem mb_bool {tb o c : Nat} {ao : Option Addr} {ts : List TK} {T : Nat -> Option (List TI × Nat)} (w : World) (h : MS w tb o ao ts) {i : Nat} (hi9 : i <= 1100) (hc : isC ts i 1 = false) (q0 : isT ts i sInt = false) (q1 : isT ts i sBool = true) :
  Calls Tryz.prog 74 #[.slice ao ts.length c,.int .i64 (i : Int)] w (MTR w (baseP false ts T i)):=by
 have HR : Hid (baseP false ts T i = some ([tyO 2],i + 1)):=by
  show _ = _
  unfold baseP
  rw [hc,if_neg (by decide),q0,if_neg (by decide),if_pos q1]
 have HMS : Hid (MS (bxT w) tb o ao ts):=h.below (bel1 _ _)
 have HI : Hid (i <= 1100):=hi9
 clear h hc
 go_enter Tryz.func74,Tryz.ntmps74
 go_wp2_with fail
 refine (m_isb HMS.out (i:=i) (rfl) (l:=sInt) q0 rfl (by decide)).mono ?_
 rintro e w' ⟨rfl,rfl⟩
 go_wp2_with fail
 refine (m_isb HMS.out (i:=i) (rfl) (l:=sBool) q1 rfl (by decide)).mono ?_
 rintro e w' ⟨rfl,rfl⟩
 go_wp2
 have R:=(row2 w (.slice (some ⟨w.heap.size + 1,0,none⟩) 1 1) (.int .i64 ((i : Int) + 1)) 74).alloc (.cells #[.int .i64 2,.string ⟨#[]⟩,.string ⟨#[]⟩,.slice none 0 0] 99)
 have L:=rt_lit (w.alloc (.cells #[.slice (some ⟨w.heap.size + 1,0,none⟩) 1 1,.int .i64 ((i : Int) + 1)] 74)) (B:=w.heap.size) (by simp) 2 ⟨#[]⟩ ⟨#[]⟩
 simp only [World.size_alloc] at L
 refine bodyPost_ret (ret_ty (k:=4) rfl (R.cell (i:=0) (by omega)) (R.cell (i:=1) (by omega)) _ rfl) rfl ?_
 rw [HR.out]
 exact ⟨(bel1 _ _).alloc (by simp) _,some ⟨w.heap.size + 1,0,none⟩,1,1,_,_,rfl,by omega,L,rfl⟩
theorem mb_any {tb o c : Nat} {ao : Option Addr} {ts : List TK} {T : Nat -> Option (List TI × Nat)} (w : World) (h : MS w tb o ao ts) {i : Nat} (hi9 : i <= 1100) (hc : isC ts i 1 = false) (q0 : isT ts i sInt = false) (q1 : isT ts i sBool = false) (q2 : isT ts i sAny = true) :
  Calls Tryz.prog 74 #[.slice ao ts.length c,.int .i64 (i : Int)] w (MTR w (baseP false ts T i)):=by
 have HR : Hid (baseP false ts T i = some ([tyO 3],i + 1)):=by
  show _ = _
  unfold baseP
  rw [hc,if_neg (by decide),q0,if_neg (by decide),q1,if_neg (by decide),if_pos q2]
 have HMS : Hid (MS (bxT w) tb o ao ts):=h.below (bel1 _ _)
 have HI : Hid (i <= 1100):=hi9
 clear h hc
 go_enter Tryz.func74,Tryz.ntmps74
 go_wp2_with fail
 refine (m_isb HMS.out (i:=i) (rfl) (l:=sInt) q0 rfl (by decide)).mono ?_
 rintro e w' ⟨rfl,rfl⟩
 go_wp2_with fail
 refine (m_isb HMS.out (i:=i) (rfl) (l:=sBool) q1 rfl (by decide)).mono ?_
 rintro e w' ⟨rfl,rfl⟩
 go_wp2_with fail
 refine (m_isb HMS.out (i:=i) (rfl) (l:=sAny) q2 rfl (by decide)).mono ?_
 rintro e w' ⟨rfl,rfl⟩
 go_wp2
 have R:=(row2 w (.slice (some ⟨w.heap.size + 1,0,none⟩) 1 1) (.int .i64 ((i : Int) + 1)) 74).alloc (.cells #[.int .i64 3,.string ⟨#[]⟩,.string ⟨#[]⟩,.slice none 0 0] 99)
 have L:=rt_lit (w.alloc (.cells #[.slice (some ⟨w.heap.size + 1,0,none⟩) 1 1,.int .i64 ((i : Int) + 1)] 74)) (B:=w.heap.size) (by simp) 3 ⟨#[]⟩ ⟨#[]⟩
 simp only [World.size_alloc] at L
 refine bodyPost_ret (ret_ty (k:=4) rfl (R.cell (i:=0) (by omega)) (R.cell (i:=1) (by omega)) _ rfl) rfl ?_
 rw [HR.out]
 exact ⟨(bel1 _ _).alloc (by simp) _,some ⟨w.heap.size + 1,0,none⟩,1,1,_,_,rfl,by omega,L,rfl⟩
theorem mb_none {tb o c : Nat} {ao : Option Addr} {ts : List TK} {T : Nat -> Option (List TI × Nat)} (w : World) (h : MS w tb o ao ts) {i : Nat} (hi9 : i <= 1100) (hc : isC ts i 1 = false) (q0 : isT ts i sInt = false) (q1 : isT ts i sBool = false) (q2 : isT ts i sAny = false) (q3 : isT ts i sLeft = false) (q4 : isT ts i sOpen = false) :
  Calls Tryz.prog 74 #[.slice ao ts.length c,.int .i64 (i : Int)] w (MTR w (baseP false ts T i)):=by
 have HR : Hid (baseP false ts T i = none):=by
  show _ = _
  unfold baseP
  rw [hc,if_neg (by decide),q0,if_neg (by decide),q1,if_neg (by decide),q2,if_neg (by decide),q4,if_neg (by decide),q3,if_neg (by decide)]
 have HMS : Hid (MS (bxT w) tb o ao ts):=h.below (bel1 _ _)
 have HI : Hid (i <= 1100):=hi9
 clear h
 go_enter Tryz.func74,Tryz.ntmps74
 go_wp2_with fail
 refine (m_isb HMS.out (i:=i) (rfl) (l:=sInt) q0 rfl (by decide)).mono ?_
 rintro e w' ⟨rfl,rfl⟩
 go_wp2_with fail
 refine (m_isb HMS.out (i:=i) (rfl) (l:=sBool) q1 rfl (by decide)).mono ?_
 rintro e w' ⟨rfl,rfl⟩
 go_wp2_with fail
 refine (m_isb HMS.out (i:=i) (rfl) (l:=sAny) q2 rfl (by decide)).mono ?_
 rintro e w' ⟨rfl,rfl⟩
 go_wp2_with fail
 refine (m_isN HMS.out (i:=i) (rfl) hc).mono ?_
 rintro e w' ⟨rfl,rfl⟩
 go_wp2_with fail
 refine (m_isb HMS.out (i:=i) (rfl) (l:=sLeft) q3 rfl (by decide)).mono ?_
 rintro e w' ⟨rfl,rfl⟩
 go_wp2_with fail
 refine (m_isb HMS.out (i:=i) (rfl) (l:=sOpen) q4 rfl (by decide)).mono ?_
 rintro e w' ⟨rfl,rfl⟩
 go_wp2_with fail
 refine (m_noType _).mono ?_
 rintro e w1 ⟨⟨va,n,c',rfl⟩,hb1⟩
 have R:=(row2 w (.slice none 0 0) (.int .i64 0) 74).of_block (hb1.out.block _ (by simp))
 have d0:=R.cell (i:=0) (by omega)
 have d1:=R.cell (i:=1) (by omega)
 have z0:=R.frozen 0
 have z1:=R.frozen 1
 go_wp2
 have R2:=(R.set 0 (.slice va n c')).set 1 (.int .i64 (-1))
 refine bodyPost_ret (ret_ty (k:=4) rfl (R2.cell (i:=0) (by omega)) (R2.cell (i:=1) (by omega)) _ rfl) rfl ?_
 rw [HR.out]
 exact ⟨below_box ((bel1 _ _).trans (hb1.out.mono (by simp))) _ _,va,n,c',rfl⟩
theorem row_drew {w : World} {b n : Nat} {t : TypeId} {f : Nat -> Value} (h : w.rowIs b t n f) : w.drew.rowIs b t n f:=h
theorem RT.drew {B : Nat} {w : World} {v : Value} {xs : List (TI × NPl)} (h : RT B w v xs) : RT B w.drew v xs:=⟨h.own,h.nm⟩
theorem RE.drew {B : Nat} {w : World} {v : Value} {xs : List (EI × EPl)} (h : RE B w v xs) : RE B w.drew v xs:=⟨h.own,fun x hx=>⟨(h.ok x hx).nm,(h.ok x hx).ty.drew,(h.ok x hx).is⟩⟩
theorem mb_name0 {tb o c : Nat} {ao : Option Addr} {ts : List TK} {T : Nat -> Option (List TI × Nat)} (w : World) (h : MS w tb o ao ts) {i : Nat} (hi9 : i <= 1100) (hc : isC ts i 1 = true) (p1 : isT ts (i + 1) sColon = false) :
  Calls Tryz.prog 74 #[.slice ao ts.length c,.int .i64 (i : Int)] w (MTR w (baseP false ts T i)):=by
 have hi:=isC_lt hc
 have hct : ∀ s,cls s ≠ 1 -> isT ts i s = false:=fun s hs=>isC_isT h.tk hc hs
 have q0:=hct sInt (by decide)
 have q1:=hct sBool (by decide)
 have q2:=hct sAny (by decide)
 have e:=h.at_ (by omega)
 subst e
 have hln:=h.tk.len
 have k1:=h.tk.c1 i hi
 rw [<- tx_at hi] at k1
 have tlt : tb < w.heap.size:=blt k1
 have BX:=bel1 w (.cells #[.slice none 0 0,.int .i64 0] 74)
 have k1':=(BX.cell (p:=⟨tb,o + i * 3 + 1,none⟩) tlt).trans k1
 have HMS : Hid (MS (bxT w) tb o (some ⟨tb,o,none⟩) ts):=h.below (bel1 _ _)
 have HI : Hid (i <= 1100):=hi9
 have HR : Hid (baseP false ts T i = some ([⟨4,e0,tx ts i,[]⟩],i + 1)):=by
  show _ = _
  unfold baseP
  rw [if_pos hc]
  have : pathP false ts i = some (e0,tx ts i,i + 1):=by
   unfold pathP
   rw [p1];rfl
  rw [this]
 obtain ⟨nn,hnn⟩:=xe (tx ts i)
 rw [<- hnn] at k1'
 have HNN : Hid (tx ts i = nn):=hnn.symm
 clear k1 hct hnn h
 go_enter Tryz.func74,Tryz.ntmps74
 go_wp2_with fail
 refine (m_isb HMS.out (i:=i) (rfl) (l:=sInt) q0 rfl (by decide)).mono ?_
 rintro e w' ⟨rfl,rfl⟩
 go_wp2_with fail
 refine (m_isb HMS.out (i:=i) (rfl) (l:=sBool) q1 rfl (by decide)).mono ?_
 rintro e w' ⟨rfl,rfl⟩
 go_wp2_with fail
 refine (m_isb HMS.out (i:=i) (rfl) (l:=sAny) q2 rfl (by decide)).mono ?_
 rintro e w' ⟨rfl,rfl⟩
 go_wp2_with fail
 refine (m_isN HMS.out (i:=i) (rfl) hc).mono ?_
 rintro e w' ⟨rfl,rfl⟩
 go_wp2_with fail
 refine (m_isb HMS.out (i:=i + 1) (by omega) (l:=sColon) p1 rfl (by decide)).mono ?_
 rintro e w' ⟨rfl,rfl⟩
 go_wp2
 have R:=(row2 w (.slice (some ⟨w.heap.size + 1,0,none⟩) 1 1) (.int .i64 ((i : Int) + 1)) 74).alloc (.cells #[.int .i64 4,.string ⟨#[]⟩,.string nn,.slice none 0 0] 99)
 have L:=rt_lit (w.alloc (.cells #[.slice (some ⟨w.heap.size + 1,0,none⟩) 1 1,.int .i64 ((i : Int) + 1)] 74)) (B:=w.heap.size) (by simp) 4 ⟨#[]⟩ nn
 simp only [World.size_alloc] at L
 refine bodyPost_ret (ret_ty (k:=4) rfl (R.cell (i:=0) (by omega)) (R.cell (i:=1) (by omega)) _ rfl) rfl ?_
 rw [HR.out,HNN.out]
 exact ⟨(bel1 _ _).alloc (by simp) _,some ⟨w.heap.size + 1,0,none⟩,1,1,_,_,rfl,by omega,L,rfl⟩
theorem mb_name1 {tb o c : Nat} {ao : Option Addr} {ts : List TK} {T : Nat -> Option (List TI × Nat)} (w : World) (h : MS w tb o ao ts) {i : Nat} (hi9 : i <= 1100) (hc : isC ts i 1 = true) (p1 : isT ts (i + 1) sColon = true) (p2 : isC ts (i + 2) 1 = false) :
  Calls Tryz.prog 74 #[.slice ao ts.length c,.int .i64 (i : Int)] w (MTR w (baseP false ts T i)):=by
 have hi:=isC_lt hc
 have hct : ∀ s,cls s ≠ 1 -> isT ts i s = false:=fun s hs=>isC_isT h.tk hc hs
 have q0:=hct sInt (by decide)
 have q1:=hct sBool (by decide)
 have q2:=hct sAny (by decide)
 have e:=h.at_ (by omega)
 subst e
 have hln:=h.tk.len
 have k1:=h.tk.c1 i hi
 rw [<- tx_at hi] at k1
 have tlt : tb < w.heap.size:=blt k1
 have BX:=bel1 w (.cells #[.slice none 0 0,.int .i64 0] 74)
 have k1':=(BX.cell (p:=⟨tb,o + i * 3 + 1,none⟩) tlt).trans k1
 have HMS : Hid (MS (bxT w) tb o (some ⟨tb,o,none⟩) ts):=h.below (bel1 _ _)
 have HI : Hid (i <= 1100):=hi9
 have HR : Hid (baseP false ts T i = some ([⟨4,e0,tx ts i,[]⟩],i + 1)):=by
  show _ = _
  unfold baseP
  rw [if_pos hc]
  have : pathP false ts i = some (e0,tx ts i,i + 1):=by
   unfold pathP
   rw [p1,p2];rfl
  rw [this]
 obtain ⟨nn,hnn⟩:=xe (tx ts i)
 rw [<- hnn] at k1'
 have HNN : Hid (tx ts i = nn):=hnn.symm
 clear k1 hct hnn h
 go_enter Tryz.func74,Tryz.ntmps74
 go_wp2_with fail
 refine (m_isb HMS.out (i:=i) (rfl) (l:=sInt) q0 rfl (by decide)).mono ?_
 rintro e w' ⟨rfl,rfl⟩
 go_wp2_with fail
 refine (m_isb HMS.out (i:=i) (rfl) (l:=sBool) q1 rfl (by decide)).mono ?_
 rintro e w' ⟨rfl,rfl⟩
 go_wp2_with fail
 refine (m_isb HMS.out (i:=i) (rfl) (l:=sAny) q2 rfl (by decide)).mono ?_
 rintro e w' ⟨rfl,rfl⟩
 go_wp2_with fail
 refine (m_isN HMS.out (i:=i) (rfl) hc).mono ?_
 rintro e w' ⟨rfl,rfl⟩
 go_wp2_with fail
 refine (m_isb HMS.out (i:=i + 1) (by omega) (l:=sColon) p1 rfl (by decide)).mono ?_
 rintro e w' ⟨rfl,rfl⟩
 go_wp2_with fail
 refine (m_isN HMS.out (i:=i + 2) (by omega) p2).mono ?_
 rintro e w' ⟨rfl,rfl⟩
 go_wp2
 have R:=(row2 w (.slice (some ⟨w.heap.size + 1,0,none⟩) 1 1) (.int .i64 ((i : Int) + 1)) 74).alloc (.cells #[.int .i64 4,.string ⟨#[]⟩,.string nn,.slice none 0 0] 99)
 have L:=rt_lit (w.alloc (.cells #[.slice (some ⟨w.heap.size + 1,0,none⟩) 1 1,.int .i64 ((i : Int) + 1)] 74)) (B:=w.heap.size) (by simp) 4 ⟨#[]⟩ nn
 simp only [World.size_alloc] at L
 refine bodyPost_ret (ret_ty (k:=4) rfl (R.cell (i:=0) (by omega)) (R.cell (i:=1) (by omega)) _ rfl) rfl ?_
 rw [HR.out,HNN.out]
 exact ⟨(bel1 _ _).alloc (by simp) _,some ⟨w.heap.size + 1,0,none⟩,1,1,_,_,rfl,by omega,L,rfl⟩
theorem mb_path {tb o c : Nat} {ao : Option Addr} {ts : List TK} {T : Nat -> Option (List TI × Nat)} (w : World) (h : MS w tb o ao ts) {i : Nat} (hi9 : i <= 1100) (hc : isC ts i 1 = true) (p1 : isT ts (i + 1) sColon = true) (p2 : isC ts (i + 2) 1 = true) :
  Calls Tryz.prog 74 #[.slice ao ts.length c,.int .i64 (i : Int)] w (MTR w (baseP false ts T i)):=by
 have hi:=isC_lt hc
 have hct : ∀ s,cls s ≠ 1 -> isT ts i s = false:=fun s hs=>isC_isT h.tk hc hs
 have q0:=hct sInt (by decide)
 have q1:=hct sBool (by decide)
 have q2:=hct sAny (by decide)
 have e:=h.at_ (by omega)
 subst e
 have hln:=h.tk.len
 have k1:=h.tk.c1 i hi
 rw [<- tx_at hi] at k1
 have tlt : tb < w.heap.size:=blt k1
 have BX:=bel1 w (.cells #[.slice none 0 0,.int .i64 0] 74)
 have k1':=(BX.cell (p:=⟨tb,o + i * 3 + 1,none⟩) tlt).trans k1
 have HMS : Hid (MS (bxT w) tb o (some ⟨tb,o,none⟩) ts):=h.below (bel1 _ _)
 have HI : Hid (i <= 1100):=hi9
 have hi2:=isC_lt p2
 have k2:=h.tk.c1 (i + 2) hi2
 rw [<- tx_at hi2] at k2
 have k2' : (bxT w).cell? ⟨tb,o + ((i : Int) + 2).toNat * 3 + 1,none⟩ = some (.string (tx ts (i + 2))):=by
  rw [show ((i : Int) + 2).toNat = i + 2 by omega]
  exact (BX.cell (p:=⟨tb,o + (i + 2) * 3 + 1,none⟩) tlt).trans k2
 have HR : Hid (baseP false ts T i = some ([⟨4,tx ts i,tx ts (i + 2),[]⟩],i + 3)):=by
  show _ = _
  unfold baseP
  rw [if_pos hc]
  have : pathP false ts i = some (tx ts i,tx ts (i + 2),i + 3):=by
   unfold pathP
   rw [p1,p2];rfl
  rw [this]
 obtain ⟨nn,hnn⟩:=xe (tx ts i)
 rw [<- hnn] at k1'
 have HNN : Hid (tx ts i = nn):=hnn.symm
 obtain ⟨mm,hmm⟩:=xe (tx ts (i + 2))
 rw [<- hmm] at k2'
 have HMM : Hid (tx ts (i + 2) = mm):=hmm.symm
 have htn : tb ≠ w.heap.size:=by omega
 have hi3 : (i : Int) + 2 < (ts.length : Int):=by omega
 have hi4 : (0 : Int) <= (i : Int) + 2:=by omega
 have hi5 : (i : Int) < (ts.length : Int):=by omega
 have hi6 : (0 : Int) <= (i : Int):=by omega
 have wr2 : IntKind.i64.wrap ((i : Int) + 2) = (i : Int) + 2:=wk (by omega)
 have wr3 : IntKind.i64.wrap ((i : Int) + 3) = (i : Int) + 3:=wk (by omega)
 rw [<- hnn] at k1
 rw [<- hmm] at k2
 have HK : Hid (∀ (x y : Obj),((w.alloc x).alloc y).drew.cell? ⟨tb,o + i * 3 + 1,none⟩ = some (.string nn) /\ ((w.alloc x).alloc y).drew.cell? ⟨tb,o + ((i : Int) + 2).toNat * 3 + 1,none⟩ = some (.string mm)):=fun x y=>by
  have B2 : Bw w ((w.alloc x).alloc y):=(bel1 _ _).alloc (by simp) _
  rw [show ((i : Int) + 2).toNat = i + 2 by omega]
  exact ⟨(B2.cell (p:=⟨tb,o + i * 3 + 1,none⟩) tlt).trans k1,(B2.cell (p:=⟨tb,o + (i + 2) * 3 + 1,none⟩) tlt).trans k2⟩
 clear k1 k2 hct hnn hmm h
 go_enter Tryz.func74,Tryz.ntmps74
 go_wp2_with fail
 refine (m_isb HMS.out (i:=i) (rfl) (l:=sInt) q0 rfl (by decide)).mono ?_
 rintro e w' ⟨rfl,rfl⟩
 go_wp2_with fail
 refine (m_isb HMS.out (i:=i) (rfl) (l:=sBool) q1 rfl (by decide)).mono ?_
 rintro e w' ⟨rfl,rfl⟩
 go_wp2_with fail
 refine (m_isb HMS.out (i:=i) (rfl) (l:=sAny) q2 rfl (by decide)).mono ?_
 rintro e w' ⟨rfl,rfl⟩
 go_wp2_with fail
 refine (m_isN HMS.out (i:=i) (rfl) hc).mono ?_
 rintro e w' ⟨rfl,rfl⟩
 go_wp2_with fail
 refine (m_isb HMS.out (i:=i + 1) (by omega) (l:=sColon) p1 rfl (by decide)).mono ?_
 rintro e w' ⟨rfl,rfl⟩
 go_wp2_with fail
 refine (m_isN HMS.out (i:=i + 2) (by omega) p2).mono ?_
 rintro e w' ⟨rfl,rfl⟩
 go_wp2
 go_region_held3 (fun w'=>w'.cell? ⟨tb,o + i * 3 + 1,none⟩ = some (.string nn) /\ w'.cell? ⟨tb,o + ((i : Int) + 2).toNat * 3 + 1,none⟩ = some (.string mm)) (first | exact HK.out _ _ | go_keep) (fail)
 go_wp2
 have R:=(row2 w (.slice (some ⟨w.heap.size + 1,0,none⟩) 1 1) (.int .i64 ((i : Int) + 3)) 74).alloc (.cells #[.int .i64 4,.string nn,.string mm,.slice none 0 0] 99)
 have R:=row_drew R
 have L:=rt_lit (w.alloc (.cells #[.slice (some ⟨w.heap.size + 1,0,none⟩) 1 1,.int .i64 ((i : Int) + 3)] 74)) (B:=w.heap.size) (by simp) 4 nn mm
 simp only [World.size_alloc] at L
 refine bodyPost_ret (ret_ty (k:=4) rfl (R.cell (i:=0) (by omega)) (R.cell (i:=1) (by omega)) _ rfl) rfl ?_
 rw [HR.out,HNN.out,HMM.out]
 exact ⟨((bel1 _ _).alloc (by simp) _).drew,some ⟨w.heap.size + 1,0,none⟩,1,1,_,_,rfl,by omega,L.drew,rfl⟩
theorem box_ty {w w2 : World} {f : Nat -> Value} (h : Bw w w2) (R : w2.rowIs w.heap.size 74 2 f) (a b : Value) : Bw w ((w2.setCell ⟨w.heap.size,0,none⟩ a).setCell ⟨w.heap.size,1,none⟩ b) /\ ∀ B v xs,RT B w2 v xs -> RT B ((w2.setCell ⟨w.heap.size,0,none⟩ a).setCell ⟨w.heap.size,1,none⟩ b) v xs:=
 ⟨below_box h a b,fun _ _ _ hx=>hx.kp ((kp_set R 0 a).trans (kp_set (R.set 0 a) 1 b)) (by decide) (by decide)⟩
theorem box_ex {w w2 : World} {f : Nat -> Value} (h : Bw w w2) (R : w2.rowIs w.heap.size 77 2 f) (a b : Value) : Bw w ((w2.setCell ⟨w.heap.size,0,none⟩ a).setCell ⟨w.heap.size,1,none⟩ b) /\ ∀ B v xs,RE B w2 v xs -> RE B ((w2.setCell ⟨w.heap.size,0,none⟩ a).setCell ⟨w.heap.size,1,none⟩ b) v xs:=
 ⟨below_box h a b,fun _ _ _ hx=>hx.kp ((kp_set R 0 a).trans (kp_set (R.set 0 a) 1 b)) (by decide) (by decide) (by decide)⟩
theorem mb_brk {tb o c : Nat} {ao : Option Addr} {ts : List TK} {f : Nat} (IH : MTC tb o ts f) (w : World) (h : MS w tb o ao ts) {i : Nat} (hf : ts.length - i < f + 1) (hs : isT ts i sLeft = true) :
  Calls Tryz.prog 74 #[.slice ao ts.length c,.int .i64 (i : Int)] w (MTR w (baseP false ts (tyP false ts f) i)):=by
 have hi:=isT_lt hs
 have hln:=h.tk.len
 have hc : isC ts i 1 = false:=by
  cases z : isC ts i 1 with
  | false=>rfl
  | true=>rw [isC_isT h.tk z (by decide)] at hs;cases hs
 have q0 : isT ts i sInt = false:=isT_one hs (by decide)
 have q1 : isT ts i sBool = false:=isT_one hs (by decide)
 have q2 : isT ts i sAny = false:=isT_one hs (by decide)
 have q4 : isT ts i sOpen = false:=isT_one hs (by decide)
 have HR0 : Hid (baseP false ts (tyP false ts f) i = brkP ts (tyP false ts f) (i + 1)):=by
  show _ = _
  unfold baseP
  rw [hc,if_neg (by decide),q0,if_neg (by decide),q1,if_neg (by decide),q2,if_neg (by decide),q4,if_neg (by decide),if_pos hs]
 have HMS : Hid (MS (bxT w) tb o ao ts):=h.below (bel1 _ _)
 have C : Hid (Calls Tryz.prog 49 #[.slice ao ts.length c,.int .i64 ((i : Int) + 1)] (bxT w) (MTR (bxT w) (tyP false ts f (i + 1)))):=IH _ _ _ _ _ HMS.out (by omega) (by omega) (by omega)
 have HFAR : Hid (Far ts.length (tyP false ts f)):=ty_far f
 clear h IH
 go_enter Tryz.func74,Tryz.ntmps74
 go_wp2_with fail
 refine (m_isb HMS.out (i:=i) (rfl) (l:=sInt) q0 rfl (by decide)).mono ?_
 rintro e w' ⟨rfl,rfl⟩
 go_wp2_with fail
 refine (m_isb HMS.out (i:=i) (rfl) (l:=sBool) q1 rfl (by decide)).mono ?_
 rintro e w' ⟨rfl,rfl⟩
 go_wp2_with fail
 refine (m_isb HMS.out (i:=i) (rfl) (l:=sAny) q2 rfl (by decide)).mono ?_
 rintro e w' ⟨rfl,rfl⟩
 go_wp2_with fail
 refine (m_isN HMS.out (i:=i) (rfl) hc).mono ?_
 rintro e w' ⟨rfl,rfl⟩
 go_wp2_with fail
 refine (m_isb HMS.out (i:=i) (rfl) (l:=sLeft) hs rfl (by decide)).mono ?_
 rintro e w' ⟨rfl,rfl⟩
 go_wp2_with fail
 refine C.out.mono ?_
 rintro e w2 ⟨hb2,hr⟩
 have R2:=(row2 w (.slice none 0 0) (.int .i64 0) 74).of_block (hb2.block _ (by simp))
 have HB2 : Hid (Bw w w2):=(bel1 _ _).trans (hb2.mono (by simp))
 have hws:=HB2.out.size
 cases ht : tyP false ts f (i + 1) with
 | none=>
   rw [ht] at hr
   obtain ⟨va,n,c',rfl⟩:=hr
   have HR : Hid (baseP false ts (tyP false ts f) i = none):=by show _ = _;rw [HR0.out];unfold brkP;rw [ht]
   have R3:=R2.alloc (.cells #[.slice va n c',.int .i64 (-1)] 74)
   have HB3 : Hid (Bw w (w2.alloc (.cells #[.slice va n c',.int .i64 (-1)] 74))):=HB2.out.alloc hws _
   clear ht R2 hb2
   go_wp2_with fail
   refine (m_noType _).mono ?_
   rintro e w4 ⟨⟨va4,n4,c4,rfl⟩,hb4⟩
   have R:=R3.of_block (hb4.out.block _ R3.lt)
   have d0:=R.cell (i:=0) (by omega)
   have d1:=R.cell (i:=1) (by omega)
   have z0:=R.frozen 0
   have z1:=R.frozen 1
   clear R3
   go_wp2
   have R2:=(R.set 0 (.slice va4 n4 c4)).set 1 (.int .i64 (-1))
   refine bodyPost_ret (ret_ty (k:=4) rfl (R2.cell (i:=0) (by omega)) (R2.cell (i:=1) (by omega)) _ rfl) rfl ?_
   rw [HR.out]
   exact ⟨below_box (HB3.out.trans (hb4.out.mono HB3.out.size)) _ _,va4,n4,c4,rfl⟩
 | some z=>
   obtain ⟨l,j⟩:=z
   rw [ht] at hr
   obtain ⟨va,n,c',k,zs,rfl,rfl,hrt,hzs⟩:=hr
   obtain ⟨far1,far2,far3⟩:=HFAR.out _ _ _ ht
   have R3:=R2.alloc (.cells #[.slice va n c',.int .i64 (j : Int)] 74)
   have HB3 : Hid (Bw w (w2.alloc (.cells #[.slice va n c',.int .i64 (j : Int)] 74))):=HB2.out.alloc hws _
   have HM2 : Hid (MS (w2.alloc (.cells #[.slice va n c',.int .i64 (j : Int)] 74)) tb o ao ts):=(HMS.out.below hb2).below (bel1 _ _)
   have hj0 : ¬ (j : Int) < 0:=by omega
   have HRT : Hid (RT (bxT w).heap.size w2 (.slice va n c') zs):=hrt
   cases hr2 : isT ts j sRight with
   | false=>
     have HR : Hid (baseP false ts (tyP false ts f) i = none):=by show _ = _;rw [HR0.out];unfold brkP;rw [ht];show (if isT ts j sRight = true then _ else none) = _;rw [hr2];rfl
     clear ht R2 hb2 hrt
     go_wp2_with fail
     refine (m_isb HM2.out (i:=j) (rfl) (l:=sRight) hr2 rfl (by decide)).mono ?_
     rintro e w' ⟨rfl,rfl⟩
     go_wp2_with fail
     refine (m_noType _).mono ?_
     rintro e w4 ⟨⟨va4,n4,c4,rfl⟩,hb4⟩
     have R:=R3.of_block (hb4.out.block _ R3.lt)
     have d0:=R.cell (i:=0) (by omega)
     have d1:=R.cell (i:=1) (by omega)
     have z0:=R.frozen 0
     have z1:=R.frozen 1
     clear R3
     go_wp2
     have R2:=(R.set 0 (.slice va4 n4 c4)).set 1 (.int .i64 (-1))
     refine bodyPost_ret (ret_ty (k:=4) rfl (R2.cell (i:=0) (by omega)) (R2.cell (i:=1) (by omega)) _ rfl) rfl ?_
     rw [HR.out]
     exact ⟨below_box (HB3.out.trans (hb4.out.mono HB3.out.size)) _ _,va4,n4,c4,rfl⟩
   | true=>
     have HR : Hid (baseP false ts (tyP false ts f) i = some (l,j + 1)):=by show _ = _;rw [HR0.out];unfold brkP;rw [ht];show (if isT ts j sRight = true then _ else none) = _;rw [hr2];rfl
     clear ht hb2 hrt
     have HR2 : Hid (w2.rowIs w.heap.size 74 2 (v2 (.slice none 0 0) (.int .i64 0))):=R2
     have x0:=R3.cell (i:=0) (by omega)
     have x1:=R3.cell (i:=1) (by omega)
     have y0:=R3.frozen 0
     have y1:=R3.frozen 1
     have xlt:=R2.lt
     have R5:=R2.alloc (.cells #[.slice va n c',.int .i64 ((j : Int) + 1)] 74)
     have x0':=R5.cell (i:=0) (by omega)
     have x1':=R5.cell (i:=1) (by omega)
     have y0':=R5.frozen 0
     have y1':=R5.frozen 1
     have R7:=(R2.set 0 (.slice va n c')).alloc (.cells #[.slice va n c',.int .i64 ((j : Int) + 1)] 74)
     have x0'':=R7.cell (i:=0) (by omega)
     have x1'':=R7.cell (i:=1) (by omega)
     have y0'':=R7.frozen 0
     have y1'':=R7.frozen 1
     have R8:=((R2.set 0 (.slice va n c')).set 1 (.int .i64 ((j : Int) + 1))).alloc (.cells #[.slice va n c',.int .i64 ((j : Int) + 1)] 74)
     clear R2 R3 R5 R7
     go_wp2_with fail
     refine (m_isb HM2.out (i:=j) (rfl) (l:=sRight) hr2 rfl (by decide)).mono ?_
     rintro e w' ⟨rfl,rfl⟩
     go_wp2
     refine bodyPost_ret (ret_ty (k:=4) rfl (R8.cell (i:=0) (by omega)) (R8.cell (i:=1) (by omega)) _ rfl) rfl ?_
     rw [HR.out]
     obtain ⟨W1,W2⟩:=box_ty HB2.out HR2.out (.slice va n c') (.int .i64 ((j : Int) + 1))
     exact ⟨W1.alloc W1.size _,va,n,c',(j : Int) + 1,zs,rfl,by omega,((W2 _ _ _ HRT.out).below (bel1 _ _)).mono (by simp),hzs⟩
def fMid {α : Type} (ts : List TK) (T : Nat -> Option (List α × Nat)) (sg : List UInt8) (f p : Nat) (ns : List ByteArray) (its : List α) : Option (List α × List ByteArray × Nat):=
 if isT ts p sShut then some (its,ns,p + 1) else if ns = [] then floop ts T sg f p ns its else if isT ts p sComma then floop ts T sg f (p + 1) ns its else none
theorem fMid_start {α : Type} (ts : List TK) (T : Nat -> Option (List α × Nat)) (sg : List UInt8) (j : Nat) : fldsP ts T sg j = fMid ts T sg (ts.length + 1) j [] []:=by
 unfold fldsP fMid
 rw [if_pos (rfl : ([] : List ByteArray) = [])]
theorem floop_gm {α : Type} {ts : List TK} {T : Nat -> Option (List α × Nat)} {sg : List UInt8} {f j k : Nat} {ns : List ByteArray} {its l : List α} (hc : isC ts j 1 = true) (hs : isT ts (j + 1) sg = true) (hn : hasN ns (tx ts j) = false) (hT : T (j + 2) = some (l,k)) : floop ts T sg (f + 1) j ns its = fMid ts T sg f k (ns ++ [tx ts j]) (its ++ l):=by
 rw [floop,if_pos hc,hn,if_neg (by decide),if_pos hs,hT]
 unfold fMid
 rw [if_neg (by simp : ¬ ns ++ [tx ts j] = [])]
theorem floop_c {α : Type} {ts : List TK} {T : Nat -> Option (List α × Nat)} {sg : List UInt8} {f j : Nat} {ns : List ByteArray} {its : List α} (hc : isC ts j 1 = false) : floop ts T sg f j ns its = none:=by
 cases f with
 | zero=>rfl
 | succ f=>rw [floop,hc];rfl
theorem floop_s {α : Type} {ts : List TK} {T : Nat -> Option (List α × Nat)} {sg : List UInt8} {f j : Nat} {ns : List ByteArray} {its : List α} (hs : isT ts (j + 1) sg = false) : floop ts T sg f j ns its = none:=by
 cases f with
 | zero=>rfl
 | succ f=>
   rw [floop,hs]
   split
   ·split <;> rfl
   ·rfl
theorem floop_n {α : Type} {ts : List TK} {T : Nat -> Option (List α × Nat)} {sg : List UInt8} {f j : Nat} {ns : List ByteArray} {its : List α} (hn : hasN ns (tx ts j) = true) : floop ts T sg f j ns its = none:=by
 cases f with
 | zero=>rfl
 | succ f=>rw [floop,hn];simp
theorem floop_t {α : Type} {ts : List TK} {T : Nat -> Option (List α × Nat)} {sg : List UInt8} {f j : Nat} {ns : List ByteArray} {its : List α} (hT : T (j + 2) = none) : floop ts T sg f j ns its = none:=by
 cases f with
 | zero=>rfl
 | succ f=>
   rw [floop,hT]
   split
   ·split
    ·rfl
    ·split <;> rfl
   ·rfl
theorem RT.lt {B : Nat} {w : World} {v : Value} {xs : List (TI × NPl)} (h : RT B w v xs) {b : Nat} (hb : b ∈ tisB xs) : B <= b /\ b < w.heap.size:=by
 obtain ⟨x,hx,hn,rfl⟩:=mem_tisB hb
 exact (h.nm x hx).lt hn
theorem RT.but {S : List Nat} {B : Nat} {w w' : World} {v : Value} {xs : List (TI × NPl)} (h : RT B w v xs) (hb : But S w w') (h1 : ∀ b,v.ownBlock = some b -> b ∉ S) (h2 : ∀ b,b ∈ tisB xs -> b ∉ S) : RT B w' v xs:=
 ⟨own_block h.own (fun k e=>hb.block k (h.own.lt k e.symm).2 (h1 k e.symm)),fun x hx=>(h.nm x hx).but hb (fun hn=>h2 _ (tisB_mem hx hn))⟩
theorem RiOK.lt {B : Nat} {w : World} {x : EI × EPl} (h : RiOK B w x) {b : Nat} (hb : b ∈ eiB x) : B <= b /\ b < w.heap.size:=by
 rcases mem_eiB hb with ⟨hn,rfl⟩ | e | e
 ·exact h.nm.lt hn
 ·exact h.ty.own.lt b e
 ·exact h.ty.lt e
theorem RE.lt {B : Nat} {w : World} {v : Value} {xs : List (EI × EPl)} (h : RE B w v xs) {b : Nat} (hb : b ∈ eisB xs) : B <= b /\ b < w.heap.size:=by
 obtain ⟨x,hx,hb⟩:=mem_eisB hb
 exact (h.ok x hx).lt hb
theorem RE.but {S : List Nat} {B : Nat} {w w' : World} {v : Value} {xs : List (EI × EPl)} (h : RE B w v xs) (hb : But S w w') (h1 : ∀ b,v.ownBlock = some b -> b ∉ S) (h2 : ∀ b,b ∈ eisB xs -> b ∉ S) : RE B w' v xs:=
 ⟨own_block h.own (fun k e=>hb.block k (h.own.lt k e.symm).2 (h1 k e.symm)),fun x hx=>⟨(h.ok x hx).nm.but hb (fun hn=>h2 _ (eisB_mem hx (eiB_nm hn))),(h.ok x hx).ty.but hb (fun b e=>h2 b (eisB_mem hx (eiB_ty e))) (fun b e=>h2 b (eisB_mem hx (eiB_zs e))),(h.ok x hx).is⟩⟩
theorem own_two {w : World} {B B' n n' k k' : Nat} {v v' : Value} {xs xs' : List Value} {t t' : TypeId} (h : w.ownsRow B t k v n xs) (h' : w.ownsRow B' t' k' v' n' xs') (hne : t ≠ t') {b : Nat} (e : v.ownBlock = some b) : v'.ownBlock ≠ some b:=fun e'=>by
 rcases h.2 with ⟨rfl,_⟩ | ⟨g,cap,cur,rfl,_,hh,_⟩
 ·cases e
 ·rcases h'.2 with ⟨rfl,_⟩ | ⟨g',cap',cur',rfl,_,hh',_⟩
  ·cases e'
  ·have e1 : g = b:=by simpa [Value.ownBlock] using e
   have e2 : g' = b:=by simpa [Value.ownBlock] using e'
   subst e1 e2
   rw [hh] at hh'
   simp only [Option.some.injEq,Obj.cells.injEq] at hh'
   exact hne hh'.2.1
structure MRecT (w : World) (ts : List TK) (T : Nat -> Option (List TI × Nat)) (sg : List UInt8) (R : Option (List TI × List ByteArray × Nat)) (f p : Nat) (ns : List ByteArray) (zs : List (TI × NPl)) (nv iv : Value) (wr : World) : Prop where
 below : Bw w wr
 box : wr.rowIs w.heap.size 74 2 (v2 (.slice none 0 0) (.int .i64 0))
 names : wr.ownsRow (w.heap.size + 1) 9 1 nv ns.length (sts ns)
 items : RT (w.heap.size + 1) wr iv zs
 sep : ∀ b,nv.ownBlock = some b -> b ∉ tisB zs
 is : R = fMid ts T sg f p ns (zs.map Prod.fst)
 fuel : ts.length + 1 <= f + p
 ple : p <= ts.length
 few : ns.length <= p /\ zs.length <= p
theorem MRecT.on {w wr w1 : World} {ts : List TK} {T : Nat -> Option (List TI × Nat)} {sg : List UInt8} {R : Option (List TI × List ByteArray × Nat)} {f p : Nat} {ns : List ByteArray} {zs : List (TI × NPl)} {nv iv : Value} (h : MRecT w ts T sg R f p ns zs nv iv wr) (hb : Bw wr w1) : MRecT w ts T sg R f p ns zs nv iv w1:=
 ⟨h.below.trans (hb.mono h.below.size),h.box.of_block (hb.block _ h.box.lt),own_block h.names (fun k e=>hb.block k (h.names.lt k e.symm).2),h.items.below hb,h.sep,h.is,h.fuel,h.ple,h.few⟩
theorem MRecT.name {w wr w5 : World} {ts : List TK} {T : Nat -> Option (List TI × Nat)} {sg : List UInt8} {R : Option (List TI × List ByteArray × Nat)} {f p : Nat} {ns : List ByteArray} {zs : List (TI × NPl)} {nv iv : Value} {o : Obj} {gg cap3 : Nat} {s : ByteArray} (h : MRecT w ts T sg R f p ns zs nv iv wr)
  (hown : w5.ownsRow (w.heap.size + 1) 9 1 (.slice (some ⟨gg,0,none⟩) (ns.length + 1) cap3) (ns.length + 1) (sts ns ++ [.string s])) (hg : (wr.alloc o).grownBy w5 nv.ownBlock) (hat : nv.ownBlock = some gg \/ gg = wr.heap.size + 1) :
  Bw w w5 /\ w5.rowIs w.heap.size 74 2 (v2 (.slice none 0 0) (.int .i64 0)) /\ w5.ownsRow (w.heap.size + 1) 9 1 (.slice (some ⟨gg,0,none⟩) (ns.length + 1) cap3) (ns ++ [s]).length (sts (ns ++ [s])) /\ RT (w.heap.size + 1) w5 iv zs /\ gg ∉ tisB zs /\ gg < w5.heap.size:=by
 have hb:=grown_but hg
 have hws:=h.below.size
 have hxl:=h.box.lt
 refine ⟨below_grown h.below hg (fun b e=>by have:=(h.names.lt b e).1;omega),h.box.of_block (hb.block _ hxl (by simp only [Option.mem_toList];intro e;have:=(h.names.lt _ e).1;omega)),by rw [sts_snoc,lap];exact hown,h.items.but hb (fun b e=>by simp only [Option.mem_toList];exact own_two h.items.own h.names (by decide) e) (fun b e=>by simp only [Option.mem_toList];intro z;exact h.sep b z e),?_,(hown.lt gg rfl).2⟩
 rcases hat with q | q
 ·exact h.sep gg q
 ·intro z
  have:=(h.items.lt z).2
  omega
structure MRecE (w : World) (ts : List TK) (T : Nat -> Option (List EI × Nat)) (sg : List UInt8) (R : Option (List EI × List ByteArray × Nat)) (f p : Nat) (ns : List ByteArray) (zs : List (EI × EPl)) (nv iv : Value) (wr : World) : Prop where
 below : Bw w wr
 box : wr.rowIs w.heap.size 77 2 (v2 (.slice none 0 0) (.int .i64 0))
 names : wr.ownsRow (w.heap.size + 1) 9 1 nv ns.length (sts ns)
 items : RE (w.heap.size + 1) wr iv zs
 sep : ∀ b,nv.ownBlock = some b -> b ∉ eisB zs
 is : R = fMid ts T sg f p ns (zs.map Prod.fst)
 fuel : ts.length + 1 <= f + p
 ple : p <= ts.length
 few : ns.length <= p /\ zs.length <= p
theorem MRecE.on {w wr w1 : World} {ts : List TK} {T : Nat -> Option (List EI × Nat)} {sg : List UInt8} {R : Option (List EI × List ByteArray × Nat)} {f p : Nat} {ns : List ByteArray} {zs : List (EI × EPl)} {nv iv : Value} (h : MRecE w ts T sg R f p ns zs nv iv wr) (hb : Bw wr w1) : MRecE w ts T sg R f p ns zs nv iv w1:=
 ⟨h.below.trans (hb.mono h.below.size),h.box.of_block (hb.block _ h.box.lt),own_block h.names (fun k e=>hb.block k (h.names.lt k e.symm).2),h.items.below hb,h.sep,h.is,h.fuel,h.ple,h.few⟩
theorem MRecE.name {w wr w5 : World} {ts : List TK} {T : Nat -> Option (List EI × Nat)} {sg : List UInt8} {R : Option (List EI × List ByteArray × Nat)} {f p : Nat} {ns : List ByteArray} {zs : List (EI × EPl)} {nv iv : Value} {o : Obj} {gg cap3 : Nat} {s : ByteArray} (h : MRecE w ts T sg R f p ns zs nv iv wr)
  (hown : w5.ownsRow (w.heap.size + 1) 9 1 (.slice (some ⟨gg,0,none⟩) (ns.length + 1) cap3) (ns.length + 1) (sts ns ++ [.string s])) (hg : (wr.alloc o).grownBy w5 nv.ownBlock) (hat : nv.ownBlock = some gg \/ gg = wr.heap.size + 1) :
  Bw w w5 /\ w5.rowIs w.heap.size 77 2 (v2 (.slice none 0 0) (.int .i64 0)) /\ w5.ownsRow (w.heap.size + 1) 9 1 (.slice (some ⟨gg,0,none⟩) (ns.length + 1) cap3) (ns ++ [s]).length (sts (ns ++ [s])) /\ RE (w.heap.size + 1) w5 iv zs /\ gg ∉ eisB zs /\ gg < w5.heap.size:=by
 have hb:=grown_but hg
 have hws:=h.below.size
 have hxl:=h.box.lt
 refine ⟨below_grown h.below hg (fun b e=>by have:=(h.names.lt b e).1;omega),h.box.of_block (hb.block _ hxl (by simp only [Option.mem_toList];intro e;have:=(h.names.lt _ e).1;omega)),by rw [sts_snoc,lap];exact hown,h.items.but hb (fun b e=>by simp only [Option.mem_toList];exact own_two h.items.own h.names (by decide) e) (fun b e=>by simp only [Option.mem_toList];intro z;exact h.sep b z e),?_,(hown.lt gg rfl).2⟩
 rcases hat with q | q
 ·exact h.sep gg q
 ·intro z
  have:=(h.items.lt z).2
  omega
end Go.Proofs.YtcehppndpccldaaGreatDoor
