/-
  JoK JoL JoM JoN JoP JoQ
-/
import Derived.Test.YtpbpbppimkeodaaGreatDoorSb
import Derived.Test.YtpbpbppimkeodaaGreatDoorSa
set_option maxRecDepth 100000
namespace Go.Proofs.YtpbpbppimkeodaaGreatDoor
open Go.RowKit Go.Maps
theorem Tryz.rowM : (124 : TypeId) < Tryz.prog.types.size:=of_decide_eq_true (by kernel_rfl)
theorem Tryz.cellsM : Tryz.prog.cellsOf 124 = 3:=by kernel_rfl
theorem Tryz.deepM : Tryz.prog.keyTypeAt (Tryz.prog.types.size + 1) 124 = true:=by kernel_rfl
theorem Tryz.wideM : (match Tryz.prog.underlying 124 with | some (.array _ _) | some (.struct _)=>true | _=>false) = true:=by rw [Tryz.underlying124]
theorem Tryz.lawM : Keyed Tryz.prog 124:=Keyed.of_law (deep_law_laid Tryz.laidOut' (m:=3) (by omega) Tryz.rowM (by kernel_rfl) Tryz.wideM)
theorem Tryz.formedM {c0 c1 c2 : Value} : (Value.agg #[c0,c1,c2]).formed Tryz.prog 124 = true:=by simp [Value.formed,Tryz.underlying124,Tryz.cellsM]
theorem Tryz.cells4' : Tryz.prog.cellsOf 4 = 1:=by kernel_rfl
theorem Tryz.infoM : (Tryz.prog.info? 124).map (fun i=>(i.zero,i.size,i.bytes)) = some (some (.agg #[.int .i64 0,.int .i64 0,.bool false]),3,24):=by kernel_rfl
def kq (q : Qn) : Lit:=(DataW.agg [.agg [.lit (.int .i64 (q.a : Int)),.lit (.int .i64 (q.b : Int))],.lit (.bool q.up)] : DataW Unit).asKey
def qv (q : Qn) : Value:=.agg #[.int .i64 (q.a : Int),.int .i64 (q.b : Int),.bool (q.up)]
theorem key_q {q : Qn} (ha : q.a < 4611686018427387904) (hb : q.b < 4611686018427387904) : keyOf Tryz.prog 124 (qv q) = some (kq q):=by
 have wa : (Lit.int .i64 (q.a : Int)).wf = true:=WalkArith.wf_i64 (by omega)
 have wb : (Lit.int .i64 (q.b : Int)).wf = true:=WalkArith.wf_i64 (by omega)
 have ht : DataW.Trod (H:=Unit) (fun _=>()) Tryz.prog default 0 (fun _=>true) true 124 (qv q) (.agg [.agg [.lit (.int .i64 (q.a : Int)),.lit (.int .i64 (q.b : Int))],.lit (.bool q.up)]) []:=by
  refine ⟨3,?_⟩
  simp [qv,DataW.trod,Tryz.underlying124,Tryz.underlying69,Tryz.underlying3,Tryz.underlying4,Tryz.cellsM,Tryz.cells69,Tryz.cells3',Value.cells,Tryz.cells4',wa,wb]
 exact (keyOf_asKey Tryz.deepM Tryz.wideM Tryz.formedM ht).1
theorem kq_inj {q r : Qn} (ha : q.a < 4611686018427387904) (hb : q.b < 4611686018427387904) (hx : r.a < 4611686018427387904) (hy : r.b < 4611686018427387904) (e : kq r = kq q) : r = q:=by
 have h:=Tryz.lawM.inj (key_q hx hy) (by rw [e];exact key_q ha hb)
 simp [qv] at h
 obtain ⟨h1,h2,h3⟩:=h
 have e1 : r.a = q.a:=by omega
 have e2 : r.b = q.b:=by omega
 clear h1 h2 e
 cases q
 cases r
 simp_all
def addM (ord : List Qn) (q : Qn) : List Qn:=if ord.contains q then ord else ord ++ [q]
def qcells (ord : List Qn) : List Value:=ord.flatMap fun q=>[.int .i64 (q.a : Int),.int .i64 (q.b : Int),.bool q.up]
def SmQ (q : Qn) : Prop:=q.a < 4611686018427387904 /\ q.b < 4611686018427387904
structure KnQ (w : World) (kb mb : Nat) (ov : Value) (D : DataW Unit) (ord : List Qn) (keep : Nat -> Prop) : Prop where
 row : w.rowIs kb 154 2 (v2 (.map (some mb)) ov)
 mlt : mb < kb
 map : w.ownsMap Tryz.prog 124 (plainElem Tryz.prog 3) mb ord.length D
 has : ∀ q,SmQ q -> Maps.has D (kq q) = ord.contains q
 val : ∀ q,SmQ q -> q ∈ ord -> D.atKey (kq q) (.lit (.int .i64 0)) = .lit (.int .i64 (ord.idxOf q : Int))
 own : w.ownsRow (kb + 1) 124 3 ov ord.length (qcells ord)
 far : ∀ k,keep k -> k < w.heap.size /\ k ≠ kb /\ k ≠ mb /\ some k ≠ ov.ownBlock
set_option maxHeartbeats 1000000 in
theorem kq_new (w : World) (keep : Nat -> Prop) (hk : ∀ k,keep k -> k < w.heap.size) :
  Calls Tryz.prog 109 #[] w fun e w'=>e = .returned (.pointer (some ⟨w.heap.size + 1,0,none⟩)) /\ KnQ w' (w.heap.size + 1) w.heap.size (.slice none 0 0) (.map []) [] keep /\ Kept keep w w':=by
 have hmm:=@run_makeMap Tryz.prog
 go_enter Tryz.func109,Tryz.ntmps109
 go_wp2
 go_ret
 have R:=row2 (w.alloc (.map #[] 0)) (.map (some w.heap.size)) (.slice none 0 0) 154
 simp only [World.size_alloc] at R
 refine ⟨rfl,⟨R,by omega,(World.ownsMap_made w Tryz.prog 124 (plainElem Tryz.prog 3)).alloc _,fun q _=>rfl,fun q _ h=>by simp at h,World.ownsRow_nil _ _ _ _,fun k h=>?_⟩,?_⟩
 ·have:=hk k h
  exact ⟨by simp;omega,by omega,by omega,by simp [Value.ownBlock]⟩
 ·have:=bel2 w (.map #[] 0) (.cells #[.map (some w.heap.size),.slice none 0 0] 154)
  exact ⟨this.os,this.tape,this.output,this.size,fun k h=>this.block k (hk k h)⟩
theorem look_q {w : World} {mb n : Nat} {D : DataW Unit} {q : Qn} (h : w.ownsMap Tryz.prog 124 (plainElem Tryz.prog 3) mb n D) (hq : SmQ q) :
  ∃ v : Int,(∀ m,(Instr.lookup 151 (.map (some mb)) (.agg #[.int .i64 (q.a : Int),.int .i64 (q.b : Int),.bool q.up]) true).run Tryz.prog (w.drewN m) = .ok (.tuple #[.int .i64 v,.bool (Maps.has D (kq q))]) (w.drewN m)) /\ D.atKey (kq q) (.lit (.int .i64 0)) = .lit (.int .i64 v):=by
 have hz : plainElem (H:=Unit) Tryz.prog 3 (.int .i64 0) = some (.lit (.int .i64 0),[]):=plainElem_int Tryz.underlying3 (by decide)
 have each : ∀ m,∃ v : Int,(Instr.lookup 151 (.map (some mb)) (.agg #[.int .i64 (q.a : Int),.int .i64 (q.b : Int),.bool q.up]) true).run Tryz.prog (w.drewN m) = .ok (.tuple #[.int .i64 v,.bool (Maps.has D (kq q))]) (w.drewN m) /\ D.atKey (kq q) (.lit (.int .i64 0)) = .lit (.int .i64 v):=fun m=>by
  have h' : (w.drewN m).ownsMap Tryz.prog 124 (plainElem Tryz.prog 3) mb n D:=h
  obtain ⟨v,ps,hrun,hR⟩:=h'.look_ok Tryz.lawM Tryz.underlying151 (Tryz.zero3 _) hz (key_q hq.1 hq.2)
  obtain ⟨x,rfl,hx,_⟩:=plainElem_int_inv Tryz.underlying3 hR
  simp only [Prod.mk.injEq] at hx
  exact ⟨x,hrun,hx.1⟩
 obtain ⟨v,_,hv⟩:=each 0
 refine ⟨v,fun m=>?_,hv⟩
 obtain ⟨v',hrun,hv'⟩:=each m
 rw [hv] at hv'
 simp only [DataW.lit.injEq,Lit.int.injEq,true_and] at hv'
 rw [hv'];exact hrun
theorem qcells_snoc (ord : List Qn) (q : Qn) : qcells (ord ++ [q]) = qcells ord ++ [.int .i64 (q.a : Int),.int .i64 (q.b : Int),.bool q.up]:=by simp [qcells]
theorem knq_step {w w1 w2 w3 : World} {kb mb : Nat} {oa : Option Addr} {cap gg cap3 : Nat} {D : DataW Unit} {ord : List Qn} {keep : Nat -> Prop} {q : Qn} {o2 : Obj}
  (h : KnQ w kb mb (.slice oa ord.length cap) D ord keep) (hq : SmQ q) (hc : ord.contains q = false) (hw1 : Kept (fun k=>k < w.heap.size) w w1) (hs1 : w1.heap.size = w.heap.size + 1)
  (hown2 : w2.ownsMap Tryz.prog 124 (plainElem Tryz.prog 3) mb (ord.length + 1) (D.put (kq q) (.lit (.int .i64 (ord.length : Int))))) (hg2 : w1.grownBy w2 (some mb))
  (hown3 : w3.ownsRow (kb + 1) 124 3 (.slice (some ⟨gg,0,none⟩) (ord.length + 1) cap3) (ord.length + 1) (qcells ord ++ [.int .i64 (q.a : Int),.int .i64 (q.b : Int),.bool q.up]))
  (hg3 : ((w2.alloc o2).drew).grownBy w3 (Value.slice oa ord.length cap).ownBlock) (hat : (Value.slice oa ord.length cap).ownBlock = some gg \/ gg = w2.heap.size + 1) :
  KnQ (w3.setCell ⟨kb,1,none⟩ (.slice (some ⟨gg,0,none⟩) (ord.length + 1) cap3)) kb mb (.slice (some ⟨gg,0,none⟩) (ord.length + 1) cap3) (D.put (kq q) (.lit (.int .i64 (ord.length : Int)))) (addM ord q) keep /\
  Kept keep w (w3.setCell ⟨kb,1,none⟩ (.slice (some ⟨gg,0,none⟩) (ord.length + 1) cap3)):=by
 have hA : addM ord q = ord ++ [q]:=by unfold addM;rw [hc];rfl
 have hna : q ∉ ord:=fun hm=>by rw [List.contains_iff_mem.2 hm] at hc;cases hc
 have hs2:=hg2.size
 have hs3:=hg3.size
 have e3 : ((w2.alloc o2).drew).heap.size = w2.heap.size + 1:=by simp
 have hkl:=h.row.lt
 have hml:=h.mlt
 have n1 : some kb ≠ (Value.slice oa ord.length cap).ownBlock:=fun e=>by have:=(h.own.lt kb e.symm).1;omega
 have nm : some mb ≠ (Value.slice oa ord.length cap).ownBlock:=fun e=>by have:=(h.own.lt mb e.symm).1;omega
 have b3 : ∀ k,k < w2.heap.size -> some k ≠ (Value.slice oa ord.length cap).ownBlock -> w3.heap[k]? = w2.heap[k]?:=fun k hk hn=>(hg3.block k (by rw [e3];omega) hn).trans (Below.heap_alloc _ _ _ hk)
 have rk : w3.rowIs kb 154 2 (v2 (.map (some mb)) (.slice oa ord.length cap)):=
  h.row.of_block (((b3 kb (by omega) n1).trans (hg2.block kb (by omega) (fun e=>by cases e;omega))).trans (hw1.block kb hkl))
 rw [hA]
 refine ⟨⟨(rk.set 1 _).congr (fun i hi=>?_),h.mlt,?_,fun x hx=>?_,fun x hx hm=>?_,?_,fun k hk=>?_⟩,?_⟩
 ·match i,hi with
  | 0,_=>rfl
  | 1,_=>rfl
 ·have hm : w3.ownsMap Tryz.prog 124 (plainElem Tryz.prog 3) mb (ord.length + 1) (D.put (kq q) (.lit (.int .i64 (ord.length : Int)))):=((hown2.alloc o2).drew).kept hg3 nm
  have hm':=hm.setCell (a:=⟨kb,1,none⟩) (by show mb ≠ kb;omega) (.slice (some ⟨gg,0,none⟩) (ord.length + 1) cap3)
  simpa using hm'
 ·by_cases z : x = q
  ·subst z
   rw [Maps.has_put_same h.map.isMap (Tryz.lawM.key (key_q hx.1 hx.2))]
   simp
  ·have hne : kq x ≠ kq q:=fun e=>z (kq_inj hq.1 hq.2 hx.1 hx.2 e)
   rw [Maps.has_put_other hne,h.has x hx]
   rw [Bool.eq_iff_iff]
   simp only [List.contains_iff_mem,List.mem_append,List.mem_singleton]
   exact ⟨Or.inl,fun y=>y.elim id (fun y=>absurd y z)⟩
 ·by_cases z : x = q
  ·subst z
   rw [Maps.atKey_put_same h.map.isMap (Tryz.lawM.key (key_q hx.1 hx.2)),List.idxOf_append,if_neg hna]
   simp
  ·have hne : kq x ≠ kq q:=fun e=>z (kq_inj hq.1 hq.2 hx.1 hx.2 e)
   rw [Maps.atKey_put_other hne]
   have hm' : x ∈ ord:=by
    rcases List.mem_append.1 hm with y | y
    ·exact y
    ·simp at y;exact absurd y z
   rw [h.val x hx hm',List.idxOf_append,if_pos hm']
 ·rw [qcells_snoc]
  have:=ownsRow_setCell_below hown3 (a:=⟨kb,1,none⟩) (by show kb < kb + 1;omega) (.slice (some ⟨gg,0,none⟩) (ord.length + 1) cap3)
  simpa using this
 ·obtain ⟨f1,f2,f3,f4⟩:=h.far k hk
  refine ⟨by simp [World.setCell];omega,f2,f3,?_⟩
  rcases hat with hat | hat
  ·rw [hat] at f4;simpa [Value.ownBlock] using f4
  ·simp [Value.ownBlock];omega
 ·refine ⟨?_,?_,?_,by simp [World.setCell];omega,fun k hk=>?_⟩
  ·exact hg3.os.trans (hg2.os.trans hw1.os)
  ·exact hg3.tape.trans (hg2.tape.trans hw1.tape)
  ·exact hg3.output.trans (hg2.output.trans hw1.output)
  ·obtain ⟨f1,f2,f3,f4⟩:=h.far k hk
   rw [Below.heap_setCell _ _ _ _ (by show k ≠ kb;exact f2),b3 k (by omega) f4,hg2.block k (by omega) (fun e=>by cases e;exact f3 rfl),hw1.block k f1]
set_option maxHeartbeats 4000000 in
theorem kq_number (kb mb : Nat) (ov : Value) (D : DataW Unit) (ord : List Qn) (keep : Nat -> Prop) (q : Qn) (w : World) (h : KnQ w kb mb ov D ord keep) (hq : SmQ q) (ho : ord.length <= 100000000) :
  Calls Tryz.prog 110 #[.pointer (some ⟨kb,0,none⟩),.agg #[.int .i64 (q.a : Int),.int .i64 (q.b : Int),.bool q.up]] w fun e w'=>
   ∃ (ov' : Value) (D' : DataW Unit),e = .returned (.tuple #[.int .i64 ((addM ord q).idxOf q : Int),.bool (!ord.contains q)]) /\ KnQ w' kb mb ov' D' (addM ord q) keep /\ Kept keep w w':=by
 obtain ⟨v,hlk,hat0⟩:=look_q (h.map.alloc (.cells #[.int .i64 (q.a : Int),.int .i64 (q.b : Int),.bool q.up] 124)) hq
 rw [h.has q hq] at hlk
 obtain ⟨oa,cap,rfl⟩:=own_form h.own
 have hR:=h.row.alloc (.cells #[.int .i64 (q.a : Int),.int .i64 (q.b : Int),.bool q.up] 124)
 have c0 : (w.alloc (.cells #[.int .i64 (q.a : Int),.int .i64 (q.b : Int),.bool q.up] 124)).cell? ⟨kb,0,none⟩ = some (.map (some mb)):=hR.cell (i:=0) (by omega)
 have c1 : (w.alloc (.cells #[.int .i64 (q.a : Int),.int .i64 (q.b : Int),.bool q.up] 124)).cell? ⟨kb,1,none⟩ = some (.slice oa ord.length cap):=hR.cell (i:=1) (by omega)
 have HH : Hid (KnQ w kb mb (.slice oa ord.length cap) D ord keep):=h
 have hkl:=h.row.lt
 clear h hR
 cases hcon : ord.contains q
 ·have HC : Hid (ord.contains q = false):=hcon
  have HXN : Hid ((addM ord q).idxOf q = ord.length):=by
   have hna : q ∉ ord:=fun hm=>by rw [List.contains_iff_mem.2 hm] at hcon;cases hcon
   show (addM ord q).idxOf q = ord.length
   unfold addM;rw [hcon]
   simp [List.idxOf_append,hna]
  rw [hcon] at hlk
  clear hcon
  go_enter Tryz.func110,Tryz.ntmps110
  go_wp2
  go_quiet (fail)
  go_wp2
  obtain ⟨i0,hi0,hz0,hz1,hz2⟩:=info_parts Tryz.infoM
  have hM : ((w.alloc (.cells #[.int .i64 (q.a : Int),.int .i64 (q.b : Int),.bool q.up] 124)).drewN (nq + 1)).ownsMap Tryz.prog 124 (plainElem Tryz.prog 3) mb ord.length D:=HH.out.map.alloc _
  obtain ⟨w2,hrun,hown2,hg2⟩:=hM.update Tryz.lawM Tryz.underlying151 (by unfold maxLen;omega) (key_q hq.1 hq.2) (plainElem_int Tryz.underlying3 (a:=(ord.length : Int)) (WalkArith.wf_i64 (by omega)))
  simp only [qv] at hrun
  clear hM hlk
  go_region
  go_wp2
  have hK:=HH.out
  have hs0 : ((w.alloc (.cells #[.int .i64 (q.a : Int),.int .i64 (q.b : Int),.bool q.up] 124)).drewN (nq + 1)).heap.size = w.heap.size + 1:=by simp
  have hs2:=hg2.size
  have hml:=hK.mlt
  have OWN : w2.ownsRow (kb + 1) 124 3 (.slice oa ord.length cap) ord.length (qcells ord):=own_kept (w:=(w.alloc (.cells #[.int .i64 (q.a : Int),.int .i64 (q.b : Int),.bool q.up] 124)).drewN (nq + 1)) (hK.own.alloc _) hg2 (fun k e=>by cases e;omega)
  have r2 : w2.rowIs kb 154 2 (v2 (.map (some mb)) (.slice oa ord.length cap)):=(hK.row.alloc (.cells #[.int .i64 (q.a : Int),.int .i64 (q.b : Int),.bool q.up] 124)).of_block (hg2.block kb (by rw [hs0];omega) (fun e=>by cases e;omega))
  have rB : w2.rowIs w.heap.size 124 3 (v3 (.int .i64 (q.a : Int)) (.int .i64 (q.b : Int)) (.bool q.up)):=(row3 w (.int .i64 (q.a : Int)) (.int .i64 (q.b : Int)) (.bool q.up) 124).of_block (hg2.block w.heap.size (by rw [hs0];omega) (fun e=>by cases e;omega))
  have n1 : some kb ≠ (Value.slice oa ord.length cap).ownBlock:=fun e=>by have:=(hK.own.lt kb e.symm).1;omega
  have nB : some w.heap.size ≠ (Value.slice oa ord.length cap).ownBlock:=fun e=>by have:=(hK.own.lt w.heap.size e.symm).2;omega
  have d1 : w2.cell? ⟨kb,1,none⟩ = some (.slice oa ord.length cap):=r2.cell (i:=1) (by omega)
  have d2:=r2.frozen 1
  have d1' : ((w2.alloc (.cells #[.int .i64 (q.a : Int),.int .i64 (q.b : Int),.bool q.up] 124)).drew).cell? ⟨kb,1,none⟩ = some (.slice oa ord.length cap):=(r2.alloc (.cells #[.int .i64 (q.a : Int),.int .i64 (q.b : Int),.bool q.up] 124)).cell (i:=1) (by omega)
  have d2' : ((w2.alloc (.cells #[.int .i64 (q.a : Int),.int .i64 (q.b : Int),.bool q.up] 124)).drew).frozen? ⟨kb,1,none⟩ = false:=(r2.alloc (.cells #[.int .i64 (q.a : Int),.int .i64 (q.b : Int),.bool q.up] 124)).frozen 1
  have e0 : w2.cell? ⟨w.heap.size,0,none⟩ = some (.int .i64 (q.a : Int)):=rB.cell (i:=0) (by omega)
  have e2 : w2.cell? ⟨w.heap.size,2,none⟩ = some (.bool q.up):=rB.cell (i:=2) (by omega)
  have e1 : w2.cell? ⟨w.heap.size,1,none⟩ = some (.int .i64 (q.b : Int)):=rB.cell (i:=1) (by omega)
  have hlt2 : w.heap.size < w2.heap.size:=by omega
  have hkl2 : kb < w2.heap.size:=by omega
  have hbs : kb + 1 <= w2.heap.size:=by omega
  have hbb : (ord.length + 1) * 24 <= 140737488355328:=by omega
  have hml2 : ord.length + 1 <= maxLen:=by unfold maxLen;omega
  clear hrun c0 c1 hK hs0 hs2
  go_region_law (refine step_append_lies _ (by rfl) _ _ _ (by rfl) (kb + 1) 124 i0 _ 3 24 Tryz.underlying152 hi0 hz0 hz1 hz2 rfl (by omega) (.slice oa ord.length cap) ord.length (qcells ord) (by rfl) ((OWN.alloc _).drew) ⟨w2.heap.size,0,none⟩ 1 1 [.int .i64 (q.a : Int),.int .i64 (q.b : Int),.bool q.up] (by rfl) (by rfl) (World.news_of_block (cs:=#[.int .i64 (q.a : Int),.int .i64 (q.b : Int),.bool q.up]) (t:=124) (fr:=(0,0)) (heap_alloc_new w2 _)) (by simp [Value.oneCell']) (by omega) hml2 hbb (by simp;omega) (w2.heap.size + 1) (by simp) ?_;intro gg cap3 w3 hown3 hg3 hat hlt3;have f1 : w3.cell? ⟨kb,1,none⟩ = some (.slice oa ord.length cap):=(hg3.cell_far ⟨kb,1,none⟩ (by simp;omega) n1).trans d1';have f2 : w3.frozen? ⟨kb,1,none⟩ = false:=(hg3.frozen_far ⟨kb,1,none⟩ (by simp;omega) n1).trans d2')
  all_goals
   have FIN:=knq_step HH.out hq HC.out (w1:=(w.alloc (.cells #[.int .i64 (q.a : Int),.int .i64 (q.b : Int),.bool q.up] 124)).drewN (nq + 1)) ⟨rfl,rfl,rfl,by simp,fun k hk=>Below.heap_alloc _ _ _ hk⟩ (by simp) hown2 hg2 hown3 hg3 hat
   clear hown2 hg2 hown3 hg3 hat f1 f2 d1 d2 e0 e1 e2 d1' d2' OWN r2 rB
   go_wp2
   go_ret2
   exact ⟨_,_,by rw [HXN.out];rfl,FIN.1,FIN.2⟩
 ·have HXN : Hid (v = (ord.idxOf q : Int)):=by
   have hm : q ∈ ord:=by simpa using hcon
   have:=HH.out.val q hq hm
   rw [hat0] at this
   show v = (ord.idxOf q : Int)
   simpa using this
  have HA : Hid (addM ord q = ord):=by show (if ord.contains q then ord else _) = ord;rw [if_pos hcon]
  rw [hcon] at hlk
  clear hcon
  go_enter Tryz.func110,Tryz.ntmps110
  go_wp2
  go_quiet (fail)
  go_wp2
  go_ret2
  have hK:=HH.out
  refine ⟨.slice oa ord.length cap,D,by rw [HA.out,<- HXN.out];rfl,?_,?_⟩
  ·rw [HA.out]
   refine ⟨hK.row.alloc _,hK.mlt,hK.map.alloc _,hK.has,hK.val,hK.own.alloc _,fun k hk=>?_⟩
   obtain ⟨f1,f2,f3,f4⟩:=hK.far k hk
   exact ⟨by simp;omega,f2,f3,f4⟩
  ·exact ⟨rfl,rfl,rfl,by simp,fun k hk=>Below.heap_alloc _ _ _ (hK.far k hk).1⟩
theorem addM_len (ord : List Qn) (q : Qn) : (addM ord q).length <= ord.length + 1:=by
 unfold addM
 split
 ·omega
 ·simp
theorem addM_mem (ord : List Qn) (q : Qn) : q ∈ addM ord q:=by
 unfold addM
 split
 ·rename_i h;simpa using h
 ·simp
theorem addM_idx (ord : List Qn) (q : Qn) : (addM ord q).idxOf q < (addM ord q).length:=List.idxOf_lt_length_of_mem (addM_mem ord q)
set_option maxHeartbeats 2000000 in
theorem p_kid (mxb kb mb : Nat) (ov : Value) (D : DataW Unit) (ord : List Qn) (keep : Nat -> Prop) (ta : Option Addr) (n tc : Nat) (q : Qn) (w : World) (h : KnQ w kb mb ov D ord keep) (hm : w.cell? ⟨mxb,0,none⟩ = some (.slice ta n tc)) (hkm : keep mxb) (hq : SmQ q) (ho : ord.length <= 90000000) (hn : n <= 1048576) :
  Calls Tryz.prog 127 #[.pointer (some ⟨mxb,0,none⟩),.pointer (some ⟨kb,0,none⟩),.int .i64 (q.a : Int),.int .i64 (q.b : Int),.bool q.up] w fun e w'=>
   ∃ (ov' : Value) (D' : DataW Unit),e = .returned (.int .i64 ((n + (addM ord q).idxOf q : Nat) : Int)) /\ KnQ w' kb mb ov' D' (addM ord q) keep /\ Kept keep w w':=by
 have HH : Hid (KnQ w kb mb ov D ord keep):=h
 clear h
 go_enter Tryz.func127,Tryz.ntmps127
 go_wp2_with fail
 refine (kq_number kb mb ov D ord keep q w HH.out hq (by omega)).mono ?_
 rintro e w1 ⟨ov',D',rfl,K1,KP⟩
 have m1 : w1.cell? ⟨mxb,0,none⟩ = some (.slice ta n tc):=(KP.cell (a:=⟨mxb,0,none⟩) hkm).trans hm
 have H1 : Hid (KnQ w1 kb mb ov' D' (addM ord q) keep /\ Kept keep w w1):=⟨K1,KP⟩
 have hl:=addM_len ord q
 have hx:=addM_idx ord q
 obtain ⟨t,ht⟩ : ∃ t,t = (addM ord q).idxOf q:=⟨_,rfl⟩
 have HT : Hid (t = (addM ord q).idxOf q):=ht
 rw [<- ht] at hx ⊢
 clear K1 KP ht
 go_wp2
 go_ret
 exact ⟨ov',D',by rw [<- HT.out];first | rfl | (congr 1;congr 1;omega) | simp,H1.out.1,H1.out.2⟩
end Go.Proofs.YtpbpbppimkeodaaGreatDoor
namespace Go.Proofs.YtpbpbppimkeodaaGreatDoor
def flipQ (q : Qn) : Qn:=⟨q.a,q.b,!q.up⟩
theorem flipQ_flip (q : Qn) : flipQ (flipQ q) = q:=by cases q;simp [flipQ]
theorem flipQ_inj {q r : Qn} (e : flipQ q = flipQ r) : q = r:=by rw [<- flipQ_flip q,e,flipQ_flip]
theorem flip_mem {L : List Qn} {q : Qn} : flipQ q ∈ L.map flipQ ↔ q ∈ L:=by
 rw [List.mem_map]
 exact ⟨fun ⟨r,h,e⟩=>by rw [<- flipQ_inj e];exact h,fun h=>⟨q,h,rfl⟩⟩
theorem addM_flip (L : List Qn) (q : Qn) : addM (L.map flipQ) (flipQ q) = (addQ L (.qn q)).map flipQ:=by
 unfold addM addQ
 by_cases h : q ∈ L
 ·have h2 : (L.map flipQ).contains (flipQ q) = true:=List.contains_iff_mem.2 (flip_mem.2 h)
  rw [h2];simp [h]
 ·have h2 : (L.map flipQ).contains (flipQ q) = false:=by
   cases hc : (L.map flipQ).contains (flipQ q)
   ·rfl
   ·exact absurd (flip_mem.1 (List.contains_iff_mem.1 hc)) h
  rw [h2];simp [h]
theorem idx_flip (L : List Qn) (q : Qn) : (L.map flipQ).idxOf (flipQ q) = L.idxOf q:=by
 induction L with
 | nil=>rfl
 | cons x t ih=>
   rw [List.map_cons,List.idxOf_cons,List.idxOf_cons,ih]
   by_cases e : x = q
   ·subst e;simp
   ·have e2 : ¬ flipQ x = flipQ q:=fun h=>e (flipQ_inj h)
    have b1 : (x == q) = false:=by simp [e]
    have b2 : (flipQ x == flipQ q) = false:=by simp [e2]
    rw [b1,b2]
def InQ (n : Nat) (L : List Qn) : Prop:=∀ q,q ∈ L -> q.a < n /\ q.b < n
def InK (n : Nat) (ks : List Kq) : Prop:=∀ k,k ∈ ks -> match k with | .ty a=>a < n | .qn q=>q.a < n /\ q.b < n
theorem addQ_in {n : Nat} {L : List Qn} {k : Kq} (h : InQ n L) (hk : InK n [k]) : InQ n (addQ L k):=by
 cases k with
 | ty a=>exact h
 | qn q=>
   have hq : q.a < n /\ q.b < n:=hk (.qn q) (List.mem_singleton.2 rfl)
   intro r hr
   have hr : r ∈ (if q ∈ L then L else L ++ [q]):=hr
   by_cases hm : q ∈ L
   ·rw [if_pos hm] at hr;exact h r hr
   ·rw [if_neg hm] at hr
    rcases List.mem_append.1 hr with z | z
    ·exact h r z
    ·rw [List.mem_singleton.1 z];exact hq
theorem addAll_in {n : Nat} : ∀ {ks : List Kq} {L : List Qn},InQ n L -> InK n ks -> InQ n (addAll L ks)
 | [],_,h,_=>h
 | k :: ks,L,h,hk=>addAll_in (ks:=ks) (L:=addQ L k) (addQ_in h (fun x hx=>hk x (by rw [List.mem_singleton.1 hx];exact List.mem_cons_self))) (fun x hx=>hk x (List.mem_cons_of_mem _ hx))
theorem mixF_mem {x y : ND} {up : Bool} : ∀ (f i j : Nat) (p : ByteArray × Kq),p ∈ mixF x y up f i j ->
  (∃ a,a < x.nn /\ p.1 = x.nm a /\ p.2 = .ty (kid x a)) \/ (∃ b,b < y.nn /\ p.1 = y.nm b /\ p.2 = .ty (kid y b)) \/ (∃ a b,a < x.nn /\ b < y.nn /\ p.1 = x.nm a /\ p.2 = .qn ⟨kid x a,kid y b,up⟩):=by
 intro f
 induction f with
 | zero=>intro i j p h;simp [mixF] at h
 | succ f ih=>
   intro i j p h
   rw [mixF] at h
   by_cases hc : i < x.nn \/ j < y.nn
   ·rw [if_pos hc] at h
    by_cases h1 : ¬ j < y.nn \/ (i < x.nn /\ lt (x.nm i) (y.nm j) = true)
    ·rw [if_pos h1] at h
     have hi : i < x.nn:=by rcases h1 with q | q <;> omega
     rcases List.mem_append.1 h with z | z
     ·cases up
      ·rw [if_neg (by decide)] at z
       rw [List.mem_singleton.1 z]
       exact Or.inl ⟨i,hi,rfl,rfl⟩
      ·simp at z
     ·exact ih _ _ _ z
    ·rw [if_neg h1] at h
     by_cases h2 : ¬ i < x.nn \/ lt (y.nm j) (x.nm i) = true
     ·rw [if_pos h2] at h
      have hj : j < y.nn:=by omega
      rcases List.mem_append.1 h with z | z
      ·cases up
       ·rw [if_neg (by decide)] at z
        rw [List.mem_singleton.1 z]
        exact Or.inr (Or.inl ⟨j,hj,rfl,rfl⟩)
       ·simp at z
      ·exact ih _ _ _ z
     ·rw [if_neg h2] at h
      have hj : j < y.nn:=by omega
      have hi : i < x.nn:=by omega
      rcases List.mem_cons.1 h with z | z
      ·rw [z]
       exact Or.inr (Or.inr ⟨i,j,hi,hj,rfl,rfl⟩)
      ·exact ih _ _ _ z
   ·rw [if_neg hc] at h
    simp at h
theorem mixF_len {x y : ND} {up : Bool} : ∀ (f i j : Nat),(mixF x y up f i j).length <= (x.nn - i) + (y.nn - j):=by
 intro f
 induction f with
 | zero=>intro i j;simp [mixF]
 | succ f ih=>
   intro i j
   rw [mixF]
   by_cases hc : i < x.nn \/ j < y.nn
   ·rw [if_pos hc]
    by_cases h1 : ¬ j < y.nn \/ (i < x.nn /\ lt (x.nm i) (y.nm j) = true)
    ·rw [if_pos h1]
     have hi : i < x.nn:=by rcases h1 with q | q <;> omega
     have:=ih (i + 1) j
     cases up <;> simp <;> omega
    ·rw [if_neg h1]
     by_cases h2 : ¬ i < x.nn \/ lt (y.nm j) (x.nm i) = true
     ·rw [if_pos h2]
      have hj : j < y.nn:=by omega
      have:=ih i (j + 1)
      cases up <;> simp <;> omega
     ·rw [if_neg h2]
      have hj : j < y.nn:=by omega
      have:=ih (i + 1) (j + 1)
      simp;omega
   ·rw [if_neg hc]
    simp
structure GoodH (n : Nat) (H : Nat -> ND) : Prop where
 kids : Kids n H
 rc : ∀ t,t < n -> (H t).kind = 3 -> (H t).nk = (H t).nn
 fn : ∀ t,t < n -> (H t).kind = 4 -> (H t).nk = 2
 bare : ∀ t,t < n -> (H t).kind ≠ 3 -> (H t).nn = 0
 two : ∀ t,t < n -> (H t).nn + (H t).nk <= 1048576
 n : n <= 4000
theorem GoodH.nk3 {n : Nat} {H : Nat -> ND} (h : GoodH n H) {t : Nat} (ht : t < n) (k : (H t).kind = 3) : (H t).nk = (H t).nn:=h.rc t ht k
theorem GoodH.nk4 {n : Nat} {H : Nat -> ND} (h : GoodH n H) {t : Nat} (ht : t < n) (k : (H t).kind = 4) : (H t).nk = 2:=h.fn t ht k
theorem GoodH.nn {n : Nat} {H : Nat -> ND} (h : GoodH n H) {t : Nat} (ht : t < n) : (H t).nn <= 524288:=by
 have h2:=h.two t ht
 by_cases k : (H t).kind = 3
 ·have:=h.nk3 ht k;omega
 ·have:=h.bare t ht k;omega
theorem mixQ_in {n : Nat} {H : Nat -> ND} (h : GoodH n H) {a b : Nat} (ha : a < n) (hb : b < n) (up : Bool) : InK n (mixQ (H a) (H b) up):=by
 intro k hk
 unfold mixQ at hk
 by_cases e : (H a).kind = (H b).kind
 ·rw [if_pos e] at hk
  by_cases h4 : (H a).kind = 4
  ·rw [if_pos h4] at hk
   have x2:=h.nk4 ha h4
   have y2:=h.nk4 hb (by rw [<- e];exact h4)
   rcases List.mem_cons.1 hk with z | z
   ·rw [z];exact ⟨h.kids.lt ha (by omega),h.kids.lt hb (by omega)⟩
   ·rw [List.mem_singleton.1 z];exact ⟨h.kids.lt ha (by omega),h.kids.lt hb (by omega)⟩
  ·rw [if_neg h4] at hk
   by_cases h3 : (H a).kind = 3
   ·rw [if_pos h3] at hk
    have x2:=h.nk3 ha h3
    have y2:=h.nk3 hb (by rw [<- e];exact h3)
    obtain ⟨p,hp,rfl⟩:=List.mem_map.1 hk
    rcases mixF_mem _ _ _ _ hp with ⟨c,hc,_,e2⟩ | ⟨c,hc,_,e2⟩ | ⟨c,d,hc,hd,_,e2⟩
    ·rw [e2];exact h.kids.lt ha (by omega)
    ·rw [e2];exact h.kids.lt hb (by omega)
    ·rw [e2];exact ⟨h.kids.lt ha (by omega),h.kids.lt hb (by omega)⟩
   ·rw [if_neg h3] at hk;simp at hk
 ·rw [if_neg e] at hk;simp at hk
theorem mixQ_len {n : Nat} {H : Nat -> ND} (h : GoodH n H) {a b : Nat} (ha : a < n) (hb : b < n) (up : Bool) : (mixQ (H a) (H b) up).length <= 1048576:=by
 unfold mixQ
 by_cases e : (H a).kind = (H b).kind
 ·rw [if_pos e]
  by_cases h4 : (H a).kind = 4
  ·rw [if_pos h4];simp
  ·rw [if_neg h4]
   by_cases h3 : (H a).kind = 3
   ·rw [if_pos h3,List.length_map]
    have:=mixF_len (x:=H a) (y:=H b) (up:=up) (((H a).nn - 0) + ((H b).nn - 0)) 0 0
    have h1:=h.nn ha
    have h2:=h.nn hb
    unfold mixAll
    omega
   ·rw [if_neg h3];simp
 ·rw [if_neg e];simp
theorem mixN_len {n : Nat} {H : Nat -> ND} (h : GoodH n H) {a b : Nat} (ha : a < n) (hb : b < n) (up : Bool) : (mixN (H a) (H b) up).length <= 1048576:=by
 unfold mixN
 by_cases e : (H a).kind = (H b).kind /\ (H a).kind = 3
 ·rw [if_pos e,List.length_map]
  have:=mixF_len (x:=H a) (y:=H b) (up:=up) (((H a).nn - 0) + ((H b).nn - 0)) 0 0
  have h1:=h.nn ha
  have h2:=h.nn hb
  unfold mixAll
  omega
 ·rw [if_neg e];simp
theorem addQ_len (L : List Qn) (k : Kq) : (addQ L k).length <= L.length + 1:=by
 cases k with
 | ty a=>show L.length <= _;omega
 | qn q=>
   show (if q ∈ L then L else L ++ [q]).length <= _
   split
   ·omega
   ·simp
theorem addAll_len : ∀ (ks : List Kq) (L : List Qn),(addAll L ks).length <= L.length + ks.length
 | [],L=>by show L.length <= _;simp
 | k :: ks,L=>by
   have h1:=addAll_len ks (addQ L k)
   have h2:=addQ_len L k
   show (addAll (addQ L k) ks).length <= _
   rw [List.length_cons]
   omega
theorem addQ_has (L : List Qn) (q : Qn) : q ∈ addQ L (.qn q):=by
 show q ∈ (if q ∈ L then L else L ++ [q])
 split
 ·assumption
 ·simp
theorem addAll_has : ∀ (ks : List Kq) (L : List Qn) (q : Qn),Kq.qn q ∈ ks -> q ∈ addAll L ks
 | k :: ks,L,q,h=>by
   rcases List.mem_cons.1 h with z | z
   ·subst z
    exact (addAll_pre ks _).subset (addQ_has L q)
   ·exact addAll_has ks _ q z
abbrev qAt (H : Nat -> ND) (q0 : Qn) (i : Nat) : Qn:=(qsTill H q0 i).getD i q0
theorem qs_succ (H : Nat -> ND) (q0 : Qn) (i : Nat) : qsTill H q0 (i + 1) = addAll (qsTill H q0 i) (mixQ (H (qAt H q0 i).a) (H (qAt H q0 i).b) (qAt H q0 i).up):=rfl
theorem qs_le {H : Nat -> ND} {q0 : Qn} {i k : Nat} (h : i <= k) : qsTill H q0 i <+: qsTill H q0 k:=by
 have:=qs_pre H q0 i (k - i)
 rw [show i + (k - i) = k from by omega] at this
 exact this
theorem getD_in {n : Nat} {L : List Qn} {q0 : Qn} (h : InQ n L) (h0 : q0.a < n /\ q0.b < n) (i : Nat) : (L.getD i q0).a < n /\ (L.getD i q0).b < n:=by
 by_cases hi : i < L.length
 ·have : L.getD i q0 ∈ L:=by simp [List.getD,List.getElem?_eq_getElem hi]
  exact h _ this
 ·have : L.getD i q0 = q0:=by simp [List.getD,List.getElem?_eq_none (Nat.le_of_not_lt hi)]
  rw [this];exact h0
theorem qs_in {n : Nat} {H : Nat -> ND} {q0 : Qn} (h : GoodH n H) (h0 : q0.a < n /\ q0.b < n) : ∀ i,InQ n (qsTill H q0 i)
 | 0=>fun q hq=>by rw [List.mem_singleton.1 hq];exact h0
 | i + 1=>by
   have ih:=qs_in h h0 i
   have hq:=getD_in ih h0 i
   rw [qs_succ]
   exact addAll_in ih (mixQ_in h hq.1 hq.2 _)
theorem qAt_in {n : Nat} {H : Nat -> ND} {q0 : Qn} (h : GoodH n H) (h0 : q0.a < n /\ q0.b < n) (i : Nat) : (qAt H q0 i).a < n /\ (qAt H q0 i).b < n:=getD_in (qs_in h h0 i) h0 i
structure FullQ (H : Nat -> ND) (q0 : Qn) (k : Nat) : Prop where
 few : ∀ i,i <= k -> (qsTill H q0 i).length <= 1000
 on : ∀ i,i < k -> i < (qsTill H q0 i).length
 still : ¬ k < (qsTill H q0 k).length
structure OverQ (H : Nat -> ND) (q0 : Qn) (k : Nat) : Prop where
 few : ∀ i,i < k -> (qsTill H q0 i).length <= 1000
 on : ∀ i,i < k -> i < (qsTill H q0 i).length
 over : 1000 < (qsTill H q0 k).length
theorem full_over {H : Nat -> ND} {q0 : Qn} {k l : Nat} (h : FullQ H q0 k) (g : OverQ H q0 l) : False:=by
 rcases Nat.lt_or_ge k l with z | z
 ·exact h.still (g.on k z)
 ·have:=h.few l z
  have:=g.over
  omega
theorem full_one {H : Nat -> ND} {q0 : Qn} {k l : Nat} (h : FullQ H q0 k) (g : FullQ H q0 l) : k = l:=by
 rcases Nat.lt_trichotomy k l with z | z | z
 ·exact absurd (g.on k z) h.still
 ·exact z
 ·exact absurd (h.on l z) g.still
theorem FullQ.len {H : Nat -> ND} {q0 : Qn} {k : Nat} (h : FullQ H q0 k) : (qsTill H q0 k).length = k:=by
 have h1:=h.still
 cases k with
 | zero=>simp [qsTill] at h1
 | succ k=>
   have h2:=h.on k (by omega)
   have h3 : (qsTill H q0 k).length <= (qsTill H q0 (k + 1)).length:=(qs_le (H:=H) (q0:=q0) (Nat.le_succ k)).length_le
   omega
theorem FullQ.pos {H : Nat -> ND} {q0 : Qn} {k : Nat} (h : FullQ H q0 k) : 0 < k:=by
 have h1:=h.still
 cases k with
 | zero=>simp [qsTill] at h1
 | succ k=>omega
theorem FullQ.at_ {H : Nat -> ND} {q0 : Qn} {k : Nat} (h : FullQ H q0 k) {i : Nat} (hi : i < k) : (qsTill H q0 k).getD i q0 = qAt H q0 i:=by
 have h1:=h.on i hi
 obtain ⟨t,ht⟩:=qs_le (H:=H) (q0:=q0) (Nat.le_of_lt hi)
 show (qsTill H q0 k).getD i q0 = (qsTill H q0 i).getD i q0
 rw [<- ht]
 simp [List.getD,List.getElem?_append_left h1]
def ClosedQ (H : Nat -> ND) (L : List Qn) : Prop:=∀ q,q ∈ L -> ∀ r,Kq.qn r ∈ mixQ (H q.a) (H q.b) q.up -> r ∈ L
theorem FullQ.closed {H : Nat -> ND} {q0 : Qn} {k : Nat} (h : FullQ H q0 k) : ClosedQ H (qsTill H q0 k):=by
 intro q hq r hr
 obtain ⟨i,hi,e⟩:=List.mem_iff_getElem.1 hq
 have hk : i < k:=by rw [<- h.len];exact hi
 have e2:=h.at_ hk
 have e3 : (qsTill H q0 k).getD i q0 = q:=by rw [<- e];simp [List.getD,List.getElem?_eq_getElem hi]
 rw [e3] at e2
 rw [e2] at hr
 have:=addAll_has _ (qsTill H q0 i) r hr
 rw [<- qs_succ] at this
 exact (qs_le hk).subset this
def mixD (n : Nat) (H : Nat -> ND) (L : List Qn) (q : Qn) : ND:=
 ⟨mixK (H q.a) (H q.b),(mixN (H q.a) (H q.b) q.up).length,fun i=>(mixN (H q.a) (H q.b) q.up).getD i ByteArray.empty,(mixQ (H q.a) (H q.b) q.up).length,fun j=>((((mixQ (H q.a) (H q.b) q.up).map (numK n L)).getD j 0 : Nat) : Int)⟩
def mixG (n : Nat) (H : Nat -> ND) (L : List Qn) (q0 : Qn) (i : Nat) : ND:=if i < n then H i else mixD n H L (L.getD (i - n) q0)
theorem mixG_lt {n : Nat} {H : Nat -> ND} {L : List Qn} {q0 : Qn} {i : Nat} (h : i < n) : mixG n H L q0 i = H i:=if_pos h
theorem mixG_ge {n : Nat} {H : Nat -> ND} {L : List Qn} {q0 : Qn} {i : Nat} (h : ¬ i < n) : mixG n H L q0 i = mixD n H L (L.getD (i - n) q0):=if_neg h
theorem numK_pre {n : Nat} {L M : List Qn} (h : L <+: M) {k : Kq} (hk : ∀ q,k = .qn q -> q ∈ L) : numK n L k = numK n M k:=by
 cases k with
 | ty a=>rfl
 | qn q=>
   show n + L.idxOf q = n + M.idxOf q
   rw [idx_pre h (hk q rfl)]
theorem addAll_snoc (L : List Qn) (ks : List Kq) (k : Kq) : addAll L (ks ++ [k]) = addQ (addAll L ks) k:=by
 unfold addAll
 rw [List.foldl_append]
 rfl
def ndQ (n : Nat) (H : Nat -> ND) (q0 : Qn) (i : Nat) : ND:=mixD n H (qsTill H q0 (i + 1)) (qAt H q0 i)
theorem ndQ_full {n : Nat} {H : Nat -> ND} {q0 : Qn} {k : Nat} (h : FullQ H q0 k) {i : Nat} (hi : i < k) : ndQ n H q0 i = mixD n H (qsTill H q0 k) ((qsTill H q0 k).getD i q0):=by
 rw [h.at_ hi]
 unfold ndQ mixD
 have e : (mixQ (H (qAt H q0 i).a) (H (qAt H q0 i).b) (qAt H q0 i).up).map (numK n (qsTill H q0 (i + 1))) = (mixQ (H (qAt H q0 i).a) (H (qAt H q0 i).b) (qAt H q0 i).up).map (numK n (qsTill H q0 k)):=by
  refine List.map_congr_left (fun k' hk'=>numK_pre (n:=n) (L:=qsTill H q0 (i + 1)) (M:=qsTill H q0 k) (qs_le (by omega)) (fun q e=>?_))
  rw [qs_succ]
  exact addAll_has _ _ q (by rw [<- e];exact hk')
 rw [e]
end Go.Proofs.YtpbpbppimkeodaaGreatDoor
