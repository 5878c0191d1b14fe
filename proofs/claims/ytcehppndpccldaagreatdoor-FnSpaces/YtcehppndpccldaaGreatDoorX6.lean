/-
  PgV PgW
-/
import Derived.Test.YtcehppndpccldaaGreatDoorX3
import Derived.Test.YtcehppndpccldaaGreatDoorX5
set_option maxHeartbeats 8000000
set_option maxRecDepth 100000
namespace Go.Proofs.YtcehppndpccldaaGreatDoor
theorem m_exprS {tb o : Nat} {ts : List TK} (ok : TkOK ts) {f : Nat} (IH : MEC tb o ts f) : MEC tb o ts (f + 1):=by
 intro w ao c a i h ha hf hi9
 subst ha
 cases q0 : isT ts i sFun with
 | true=>exact mx_fun IH w h hf q0
 | false=>
   cases q1 : isT ts i sIf with
   | true=>exact mx_if IH w h hf q1
   | false=>exact mx_less (fun w i h hf hi=>m_sum (fun w i h hf hi=>m_post ok IH w h hf hi) w h hf hi) w h hf hi9 q0 q1
theorem m_expr {tb o : Nat} {ts : List TK} (ok : TkOK ts) : ∀ f,MEC tb o ts f
 | 0=>fun _ _ _ _ _ _ _ hf=>absurd hf (Nat.not_lt_zero _)
 | f + 1=>m_exprS ok (m_expr ok f)
end Go.Proofs.YtcehppndpccldaaGreatDoor
namespace Go.Proofs.YtcehppndpccldaaGreatDoor
open Go.RowKit
theorem ret_dc {f : Func} {k : Nat} (hf : f.results = #[.cell k 46]) {V : World} {X : Nat} {a b c d : Value} (c0 : V.cell? ⟨X,0,none⟩ = some a) (c1 : V.cell? ⟨X,1,none⟩ = some b) (c2 : V.cell? ⟨X,2,none⟩ = some c) (c3 : V.cell? ⟨X,3,none⟩ = some d) (tmps : Array Value) (h : tmps[k]?.getD undef = .pointer (some ⟨X,0,none⟩)) :
  (results f tmps).run Tryz.prog V = .ok (.agg #[a,b,c,d]) V:=by
 unfold results
 rw [hf]
 simp [go_sem,h,c0,c1,c2,c3]
def MDR (w : World) (d : DC) (e : Ending) (w' : World) : Prop:=Bw w w' /\ ∃ p,e = .returned (dV d p) /\ RdOK w.heap.size w' d p
abbrev bxD (w : World) : World:=(w.alloc (.cells #[.int .i64 0,.string ⟨#[]⟩,.slice none 0 0,.slice none 0 0] 46)).alloc (.cells #[.int .i64 0,.string ⟨#[]⟩,.slice none 0 0,.slice none 0 0] 46)
structure XD (w W : World) : Prop where
 below : Bw w W
 box : W.rowIs w.heap.size 46 4 (v4 (.int .i64 0) (.string ⟨#[]⟩) (.slice none 0 0) (.slice none 0 0))
 bad : W.rowIs (w.heap.size + 1) 46 4 (v4 (.int .i64 0) (.string ⟨#[]⟩) (.slice none 0 0) (.slice none 0 0))
theorem XD.on {w W W1 : World} (h : XD w W) (hb : Bw W W1) : XD w W1:=⟨h.below.trans (hb.mono h.below.size),h.box.of_block (hb.block _ h.box.lt),h.bad.of_block (hb.block _ h.bad.lt)⟩
theorem XD.start (w : World) : XD w (bxD w):=⟨bel2 _ _ _,(row4 w _ _ _ _ _).alloc _,by have:=row4 (w.alloc (.cells #[.int .i64 0,.string ⟨#[]⟩,.slice none 0 0,.slice none 0 0] 46)) (.int .i64 0) (.string ⟨#[]⟩) (.slice none 0 0) (.slice none 0 0) 46;rw [World.size_alloc] at this;exact this⟩
theorem below_dc {w w1 : World} {f : Nat -> Value} (h : Bw w w1) (_hr : w1.rowIs w.heap.size 46 4 f) (a b c d : Value) : Bw w ((((w1.setCell ⟨w.heap.size,0,none⟩ a).setCell ⟨w.heap.size,1,none⟩ b).setCell ⟨w.heap.size,2,none⟩ c).setCell ⟨w.heap.size,3,none⟩ d):=
 ⟨h.os,h.tape,h.output,by rw [World.size_setCell,World.size_setCell,World.size_setCell,World.size_setCell];exact h.size,fun k hk=>by
  rw [Below.heap_setCell _ _ _ _ (by show k ≠ w.heap.size;omega),Below.heap_setCell _ _ _ _ (by show k ≠ w.heap.size;omega),Below.heap_setCell _ _ _ _ (by show k ≠ w.heap.size;omega),Below.heap_setCell _ _ _ _ (by show k ≠ w.heap.size;omega)]
  exact h.block k hk⟩
theorem kp_dc {w1 : World} {X : Nat} {f : Nat -> Value} (hr : w1.rowIs X 46 4 f) (a b c d : Value) : Kp 46 w1 ((((w1.setCell ⟨X,0,none⟩ a).setCell ⟨X,1,none⟩ b).setCell ⟨X,2,none⟩ c).setCell ⟨X,3,none⟩ d):=
 (((kp_set hr 0 a).trans (kp_set (hr.set 0 a) 1 b)).trans (kp_set ((hr.set 0 a).set 1 b) 2 c)).trans (kp_set (((hr.set 0 a).set 1 b).set 2 c) 3 d)
theorem md_short {tb o c : Nat} {ao : Option Addr} {ts : List TK} (w : World) (h : MS w tb o ao ts) (hs : ts.length < 2) :
  Calls Tryz.prog 24 #[.slice ao ts.length c] w (MDR w (declP false ts)):=by
 have hln:=h.tk.len
 have HMW : Hid (∀ W,Bw w W -> MS W tb o ao ts):=fun W hb=>h.below hb
 obtain ⟨W0,hW0⟩:=xe ((w.alloc (.cells #[.int .i64 0,.string ⟨#[]⟩,.slice none 0 0,.slice none 0 0] 46)).alloc (.cells #[.int .i64 0,.string ⟨#[]⟩,.slice none 0 0,.slice none 0 0] 46))
 have HX0 : Hid (XD w W0):=by rw [hW0];exact XD.start w
 have HMS : Hid (MS W0 tb o ao ts):=HMW.out _ HX0.out.below
 have HNO : Hid (declP false ts = dBad):=by
  show _ = _
  have : isC ts 1 1 = false:=by
   cases z : isC ts 1 1 with
   | false=>rfl
   | true=>have:=isC_lt z;omega
  unfold declP
  rw [this];rfl
 have g : (ts.length : Int) < 2:=by omega
 clear h
 go_enter Tryz.func24,Tryz.ntmps24
 go_upto_region 2 with fail
 rw [<- hW0]
 clear hW0
 have hxl:=HX0.out.box.lt
 have hxb:=HX0.out.bad.lt
 have d0 : W0.cell? ⟨w.heap.size,0,none⟩ = some (.int .i64 0):=HX0.out.box.cell (i:=0) (by omega)
 have d1 : W0.cell? ⟨w.heap.size,1,none⟩ = some (.string ⟨#[]⟩):=HX0.out.box.cell (i:=1) (by omega)
 have d2 : W0.cell? ⟨w.heap.size,2,none⟩ = some (.slice none 0 0):=HX0.out.box.cell (i:=2) (by omega)
 have d3 : W0.cell? ⟨w.heap.size,3,none⟩ = some (.slice none 0 0):=HX0.out.box.cell (i:=3) (by omega)
 have z0:=HX0.out.box.frozen 0
 have z1:=HX0.out.box.frozen 1
 have z2:=HX0.out.box.frozen 2
 have z3:=HX0.out.box.frozen 3
 have b0 : W0.cell? ⟨w.heap.size + 1,0,none⟩ = some (.int .i64 0):=HX0.out.bad.cell (i:=0) (by omega)
 have b1 : W0.cell? ⟨w.heap.size + 1,1,none⟩ = some (.string ⟨#[]⟩):=HX0.out.bad.cell (i:=1) (by omega)
 have b2 : W0.cell? ⟨w.heap.size + 1,2,none⟩ = some (.slice none 0 0):=HX0.out.bad.cell (i:=2) (by omega)
 have b3 : W0.cell? ⟨w.heap.size + 1,3,none⟩ = some (.slice none 0 0):=HX0.out.bad.cell (i:=3) (by omega)
 go_wp2
 have RX:=(((HX0.out.box.set 0 (.int .i64 0)).set 1 (.string ⟨#[]⟩)).set 2 (.slice none 0 0)).set 3 (.slice none 0 0)
 refine bodyPost_ret (ret_dc (k:=2) rfl (RX.cell (i:=0) (by omega)) (RX.cell (i:=1) (by omega)) (RX.cell (i:=2) (by omega)) (RX.cell (i:=3) (by omega)) _ rfl) rfl ?_
 rw [HNO.out]
 exact ⟨below_dc HX0.out.below HX0.out.box _ _ _ _,dp0,rfl,(dc_bare _ _ _ _).rd⟩
theorem md_noname {tb o c : Nat} {ao : Option Addr} {ts : List TK} (w : World) (h : MS w tb o ao ts) (hl : 2 <= ts.length) (hs : isC ts 1 1 = false) :
  Calls Tryz.prog 24 #[.slice ao ts.length c] w (MDR w (declP false ts)):=by
 have hln:=h.tk.len
 have HMW : Hid (∀ W,Bw w W -> MS W tb o ao ts):=fun W hb=>h.below hb
 obtain ⟨W0,hW0⟩:=xe ((w.alloc (.cells #[.int .i64 0,.string ⟨#[]⟩,.slice none 0 0,.slice none 0 0] 46)).alloc (.cells #[.int .i64 0,.string ⟨#[]⟩,.slice none 0 0,.slice none 0 0] 46))
 have HX0 : Hid (XD w W0):=by rw [hW0];exact XD.start w
 have HMS : Hid (MS W0 tb o ao ts):=HMW.out _ HX0.out.below
 have HNO : Hid (declP false ts = dBad):=by
  show _ = _
  unfold declP
  rw [hs];rfl
 have g : ¬ (ts.length : Int) < 2:=by omega
 clear h
 go_enter Tryz.func24,Tryz.ntmps24
 go_upto_region 2 with fail
 rw [<- hW0]
 clear hW0
 go_wp2_with fail
 refine (m_isN HMS.out (i:=1) (by omega) hs).mono ?_
 rintro e w' ⟨rfl,rfl⟩
 have hxl:=HX0.out.box.lt
 have hxb:=HX0.out.bad.lt
 have d0 : W0.cell? ⟨w.heap.size,0,none⟩ = some (.int .i64 0):=HX0.out.box.cell (i:=0) (by omega)
 have d1 : W0.cell? ⟨w.heap.size,1,none⟩ = some (.string ⟨#[]⟩):=HX0.out.box.cell (i:=1) (by omega)
 have d2 : W0.cell? ⟨w.heap.size,2,none⟩ = some (.slice none 0 0):=HX0.out.box.cell (i:=2) (by omega)
 have d3 : W0.cell? ⟨w.heap.size,3,none⟩ = some (.slice none 0 0):=HX0.out.box.cell (i:=3) (by omega)
 have z0:=HX0.out.box.frozen 0
 have z1:=HX0.out.box.frozen 1
 have z2:=HX0.out.box.frozen 2
 have z3:=HX0.out.box.frozen 3
 have b0 : W0.cell? ⟨w.heap.size + 1,0,none⟩ = some (.int .i64 0):=HX0.out.bad.cell (i:=0) (by omega)
 have b1 : W0.cell? ⟨w.heap.size + 1,1,none⟩ = some (.string ⟨#[]⟩):=HX0.out.bad.cell (i:=1) (by omega)
 have b2 : W0.cell? ⟨w.heap.size + 1,2,none⟩ = some (.slice none 0 0):=HX0.out.bad.cell (i:=2) (by omega)
 have b3 : W0.cell? ⟨w.heap.size + 1,3,none⟩ = some (.slice none 0 0):=HX0.out.bad.cell (i:=3) (by omega)
 go_wp2
 have RX:=(((HX0.out.box.set 0 (.int .i64 0)).set 1 (.string ⟨#[]⟩)).set 2 (.slice none 0 0)).set 3 (.slice none 0 0)
 refine bodyPost_ret (ret_dc (k:=2) rfl (RX.cell (i:=0) (by omega)) (RX.cell (i:=1) (by omega)) (RX.cell (i:=2) (by omega)) (RX.cell (i:=3) (by omega)) _ rfl) rfl ?_
 rw [HNO.out]
 exact ⟨below_dc HX0.out.below HX0.out.box _ _ _ _,dp0,rfl,(dc_bare _ _ _ _).rd⟩
theorem md_import {tb o c : Nat} {ao : Option Addr} {ts : List TK} (w : World) (h : MS w tb o ao ts) (hc : isC ts 1 1 = true) (hs : isT ts 0 sImport = true) (h2 : ts.length = 2) :
  Calls Tryz.prog 24 #[.slice ao ts.length c] w (MDR w (declP false ts)):=by
 have hln:=h.tk.len
 have HMW : Hid (∀ W,Bw w W -> MS W tb o ao ts):=fun W hb=>h.below hb
 obtain ⟨W0,hW0⟩:=xe ((w.alloc (.cells #[.int .i64 0,.string ⟨#[]⟩,.slice none 0 0,.slice none 0 0] 46)).alloc (.cells #[.int .i64 0,.string ⟨#[]⟩,.slice none 0 0,.slice none 0 0] 46))
 have HX0 : Hid (XD w W0):=by rw [hW0];exact XD.start w
 have HMS : Hid (MS W0 tb o ao ts):=HMW.out _ HX0.out.below
 have hl:=isC_lt hc
 have g : ¬ (ts.length : Int) < 2:=by omega
 have e:=h.at_ (by omega)
 subst e
 have k1:=h.tk.c1 1 hl
 rw [<- tx_at hl] at k1
 obtain ⟨nn,hnn⟩:=xe (tx ts 1)
 rw [<- hnn] at k1
 have k1' : W0.cell? ⟨tb,o + 1 * 3 + 1,none⟩ = some (.string nn):=((HX0.out.below).cell (p:=⟨tb,o + 1 * 3 + 1,none⟩) (blt k1)).trans k1
 have hq1 : (1 : Int) < (ts.length : Int):=by omega
 have HNN : Hid (tx ts 1 = nn):=hnn.symm
 have HYES : Hid (declP false ts = ⟨1,nn,[],[]⟩):=by show _ = _;unfold declP;rw [hc,if_pos rfl,hs,if_pos rfl,if_pos h2,<- hnn]
 have g2 : ((ts.length : Int) == 2) = true:=by rw [h2];rfl
 clear h k1 hnn h2
 go_enter Tryz.func24,Tryz.ntmps24
 go_upto_region 2 with fail
 rw [<- hW0]
 clear hW0
 go_wp2_with fail
 refine (m_isN HMS.out (i:=1) (by omega) hc).mono ?_
 rintro e w' ⟨rfl,rfl⟩
 go_wp2_with fail
 refine (m_isb HMS.out (i:=0) (rfl) (l:=sImport) hs rfl (by decide)).mono ?_
 rintro e w' ⟨rfl,rfl⟩
 have hxl:=HX0.out.box.lt
 have d0 : W0.cell? ⟨w.heap.size,0,none⟩ = some (.int .i64 0):=HX0.out.box.cell (i:=0) (by omega)
 have d1 : W0.cell? ⟨w.heap.size,1,none⟩ = some (.string ⟨#[]⟩):=HX0.out.box.cell (i:=1) (by omega)
 have d2 : W0.cell? ⟨w.heap.size,2,none⟩ = some (.slice none 0 0):=HX0.out.box.cell (i:=2) (by omega)
 have d3 : W0.cell? ⟨w.heap.size,3,none⟩ = some (.slice none 0 0):=HX0.out.box.cell (i:=3) (by omega)
 have z0:=HX0.out.box.frozen 0
 have z1:=HX0.out.box.frozen 1
 have z2:=HX0.out.box.frozen 2
 have z3:=HX0.out.box.frozen 3
 go_wp2
 have RX:=(((HX0.out.box.set 0 (.int .i64 1)).set 1 (.string nn)).set 2 (.slice none 0 0)).set 3 (.slice none 0 0)
 refine bodyPost_ret (ret_dc (k:=2) rfl (RX.cell (i:=0) (by omega)) (RX.cell (i:=1) (by omega)) (RX.cell (i:=2) (by omega)) (RX.cell (i:=3) (by omega)) _ rfl) rfl ?_
 rw [HYES.out]
 exact ⟨below_dc HX0.out.below HX0.out.box _ _ _ _,dp0,rfl,(dc_bare _ _ _ _).rd⟩
theorem md_import2 {tb o c : Nat} {ao : Option Addr} {ts : List TK} (w : World) (h : MS w tb o ao ts) (hc : isC ts 1 1 = true) (hs : isT ts 0 sImport = true) (h2 : ts.length ≠ 2) :
  Calls Tryz.prog 24 #[.slice ao ts.length c] w (MDR w (declP false ts)):=by
 have hln:=h.tk.len
 have HMW : Hid (∀ W,Bw w W -> MS W tb o ao ts):=fun W hb=>h.below hb
 obtain ⟨W0,hW0⟩:=xe ((w.alloc (.cells #[.int .i64 0,.string ⟨#[]⟩,.slice none 0 0,.slice none 0 0] 46)).alloc (.cells #[.int .i64 0,.string ⟨#[]⟩,.slice none 0 0,.slice none 0 0] 46))
 have HX0 : Hid (XD w W0):=by rw [hW0];exact XD.start w
 have HMS : Hid (MS W0 tb o ao ts):=HMW.out _ HX0.out.below
 have hl:=isC_lt hc
 have g : ¬ (ts.length : Int) < 2:=by omega
 have e:=h.at_ (by omega)
 subst e
 have k1:=h.tk.c1 1 hl
 rw [<- tx_at hl] at k1
 obtain ⟨nn,hnn⟩:=xe (tx ts 1)
 rw [<- hnn] at k1
 have k1' : W0.cell? ⟨tb,o + 1 * 3 + 1,none⟩ = some (.string nn):=((HX0.out.below).cell (p:=⟨tb,o + 1 * 3 + 1,none⟩) (blt k1)).trans k1
 have hq1 : (1 : Int) < (ts.length : Int):=by omega
 have HNN : Hid (tx ts 1 = nn):=hnn.symm
 have HNO : Hid (declP false ts = dBad):=by show _ = _;unfold declP;rw [hc,if_pos rfl,hs,if_pos rfl,if_neg h2]
 have g2 : ((ts.length : Int) == 2) = false:=bn2 (by omega)
 have q1 : isT ts 0 sType = false:=isT_one hs (by decide)
 have q2 : isT ts 0 sVal = false:=isT_one hs (by decide)
 clear h k1 hnn h2
 go_enter Tryz.func24,Tryz.ntmps24
 go_upto_region 2 with fail
 rw [<- hW0]
 clear hW0
 go_wp2_with fail
 refine (m_isN HMS.out (i:=1) (by omega) hc).mono ?_
 rintro e w' ⟨rfl,rfl⟩
 go_wp2_with fail
 refine (m_isb HMS.out (i:=0) (rfl) (l:=sImport) hs rfl (by decide)).mono ?_
 rintro e w' ⟨rfl,rfl⟩
 go_wp2_with fail
 refine (m_isb HMS.out (i:=0) (rfl) (l:=sType) q1 rfl (by decide)).mono ?_
 rintro e w' ⟨rfl,rfl⟩
 go_wp2_with fail
 refine (m_isb HMS.out (i:=0) (rfl) (l:=sVal) q2 rfl (by decide)).mono ?_
 rintro e w' ⟨rfl,rfl⟩
 have hxl:=HX0.out.box.lt
 have hxb:=HX0.out.bad.lt
 have d0 : W0.cell? ⟨w.heap.size,0,none⟩ = some (.int .i64 0):=HX0.out.box.cell (i:=0) (by omega)
 have d1 : W0.cell? ⟨w.heap.size,1,none⟩ = some (.string ⟨#[]⟩):=HX0.out.box.cell (i:=1) (by omega)
 have d2 : W0.cell? ⟨w.heap.size,2,none⟩ = some (.slice none 0 0):=HX0.out.box.cell (i:=2) (by omega)
 have d3 : W0.cell? ⟨w.heap.size,3,none⟩ = some (.slice none 0 0):=HX0.out.box.cell (i:=3) (by omega)
 have z0:=HX0.out.box.frozen 0
 have z1:=HX0.out.box.frozen 1
 have z2:=HX0.out.box.frozen 2
 have z3:=HX0.out.box.frozen 3
 have b0 : W0.cell? ⟨w.heap.size + 1,0,none⟩ = some (.int .i64 0):=HX0.out.bad.cell (i:=0) (by omega)
 have b1 : W0.cell? ⟨w.heap.size + 1,1,none⟩ = some (.string ⟨#[]⟩):=HX0.out.bad.cell (i:=1) (by omega)
 have b2 : W0.cell? ⟨w.heap.size + 1,2,none⟩ = some (.slice none 0 0):=HX0.out.bad.cell (i:=2) (by omega)
 have b3 : W0.cell? ⟨w.heap.size + 1,3,none⟩ = some (.slice none 0 0):=HX0.out.bad.cell (i:=3) (by omega)
 go_wp2
 have RX:=(((HX0.out.box.set 0 (.int .i64 0)).set 1 (.string ⟨#[]⟩)).set 2 (.slice none 0 0)).set 3 (.slice none 0 0)
 refine bodyPost_ret (ret_dc (k:=2) rfl (RX.cell (i:=0) (by omega)) (RX.cell (i:=1) (by omega)) (RX.cell (i:=2) (by omega)) (RX.cell (i:=3) (by omega)) _ rfl) rfl ?_
 rw [HNO.out]
 exact ⟨below_dc HX0.out.below HX0.out.box _ _ _ _,dp0,rfl,(dc_bare _ _ _ _).rd⟩
theorem md_word {tb o c : Nat} {ao : Option Addr} {ts : List TK} (w : World) (h : MS w tb o ao ts) (hc : isC ts 1 1 = true) (q0 : isT ts 0 sImport = false) (q1 : isT ts 0 sType = false) (q2 : isT ts 0 sVal = false) :
  Calls Tryz.prog 24 #[.slice ao ts.length c] w (MDR w (declP false ts)):=by
 have hln:=h.tk.len
 have HMW : Hid (∀ W,Bw w W -> MS W tb o ao ts):=fun W hb=>h.below hb
 obtain ⟨W0,hW0⟩:=xe ((w.alloc (.cells #[.int .i64 0,.string ⟨#[]⟩,.slice none 0 0,.slice none 0 0] 46)).alloc (.cells #[.int .i64 0,.string ⟨#[]⟩,.slice none 0 0,.slice none 0 0] 46))
 have HX0 : Hid (XD w W0):=by rw [hW0];exact XD.start w
 have HMS : Hid (MS W0 tb o ao ts):=HMW.out _ HX0.out.below
 have hl:=isC_lt hc
 have g : ¬ (ts.length : Int) < 2:=by omega
 have e:=h.at_ (by omega)
 subst e
 have k1:=h.tk.c1 1 hl
 rw [<- tx_at hl] at k1
 obtain ⟨nn,hnn⟩:=xe (tx ts 1)
 rw [<- hnn] at k1
 have k1' : W0.cell? ⟨tb,o + 1 * 3 + 1,none⟩ = some (.string nn):=((HX0.out.below).cell (p:=⟨tb,o + 1 * 3 + 1,none⟩) (blt k1)).trans k1
 have hq1 : (1 : Int) < (ts.length : Int):=by omega
 have HNN : Hid (tx ts 1 = nn):=hnn.symm
 have HNO : Hid (declP false ts = dBad):=by show _ = _;unfold declP;rw [hc,if_pos rfl,q0,if_neg (by decide),q1,if_neg (by decide),q2];rfl
 clear h k1 hnn
 go_enter Tryz.func24,Tryz.ntmps24
 go_upto_region 2 with fail
 rw [<- hW0]
 clear hW0
 go_wp2_with fail
 refine (m_isN HMS.out (i:=1) (by omega) hc).mono ?_
 rintro e w' ⟨rfl,rfl⟩
 go_wp2_with fail
 refine (m_isb HMS.out (i:=0) (rfl) (l:=sImport) q0 rfl (by decide)).mono ?_
 rintro e w' ⟨rfl,rfl⟩
 go_wp2_with fail
 refine (m_isb HMS.out (i:=0) (rfl) (l:=sType) q1 rfl (by decide)).mono ?_
 rintro e w' ⟨rfl,rfl⟩
 go_wp2_with fail
 refine (m_isb HMS.out (i:=0) (rfl) (l:=sVal) q2 rfl (by decide)).mono ?_
 rintro e w' ⟨rfl,rfl⟩
 have hxl:=HX0.out.box.lt
 have hxb:=HX0.out.bad.lt
 have d0 : W0.cell? ⟨w.heap.size,0,none⟩ = some (.int .i64 0):=HX0.out.box.cell (i:=0) (by omega)
 have d1 : W0.cell? ⟨w.heap.size,1,none⟩ = some (.string ⟨#[]⟩):=HX0.out.box.cell (i:=1) (by omega)
 have d2 : W0.cell? ⟨w.heap.size,2,none⟩ = some (.slice none 0 0):=HX0.out.box.cell (i:=2) (by omega)
 have d3 : W0.cell? ⟨w.heap.size,3,none⟩ = some (.slice none 0 0):=HX0.out.box.cell (i:=3) (by omega)
 have z0:=HX0.out.box.frozen 0
 have z1:=HX0.out.box.frozen 1
 have z2:=HX0.out.box.frozen 2
 have z3:=HX0.out.box.frozen 3
 have b0 : W0.cell? ⟨w.heap.size + 1,0,none⟩ = some (.int .i64 0):=HX0.out.bad.cell (i:=0) (by omega)
 have b1 : W0.cell? ⟨w.heap.size + 1,1,none⟩ = some (.string ⟨#[]⟩):=HX0.out.bad.cell (i:=1) (by omega)
 have b2 : W0.cell? ⟨w.heap.size + 1,2,none⟩ = some (.slice none 0 0):=HX0.out.bad.cell (i:=2) (by omega)
 have b3 : W0.cell? ⟨w.heap.size + 1,3,none⟩ = some (.slice none 0 0):=HX0.out.bad.cell (i:=3) (by omega)
 go_wp2
 have RX:=(((HX0.out.box.set 0 (.int .i64 0)).set 1 (.string ⟨#[]⟩)).set 2 (.slice none 0 0)).set 3 (.slice none 0 0)
 refine bodyPost_ret (ret_dc (k:=2) rfl (RX.cell (i:=0) (by omega)) (RX.cell (i:=1) (by omega)) (RX.cell (i:=2) (by omega)) (RX.cell (i:=3) (by omega)) _ rfl) rfl ?_
 rw [HNO.out]
 exact ⟨below_dc HX0.out.below HX0.out.box _ _ _ _,dp0,rfl,(dc_bare _ _ _ _).rd⟩
theorem md_type0 {tb o c : Nat} {ao : Option Addr} {ts : List TK} (w : World) (h : MS w tb o ao ts) (hc : isC ts 1 1 = true) (hs : isT ts 0 sType = true) (h2 : isT ts 2 sEq = false) :
  Calls Tryz.prog 24 #[.slice ao ts.length c] w (MDR w (declP false ts)):=by
 have hln:=h.tk.len
 have HMW : Hid (∀ W,Bw w W -> MS W tb o ao ts):=fun W hb=>h.below hb
 obtain ⟨W0,hW0⟩:=xe ((w.alloc (.cells #[.int .i64 0,.string ⟨#[]⟩,.slice none 0 0,.slice none 0 0] 46)).alloc (.cells #[.int .i64 0,.string ⟨#[]⟩,.slice none 0 0,.slice none 0 0] 46))
 have HX0 : Hid (XD w W0):=by rw [hW0];exact XD.start w
 have HMS : Hid (MS W0 tb o ao ts):=HMW.out _ HX0.out.below
 have hl:=isC_lt hc
 have g : ¬ (ts.length : Int) < 2:=by omega
 have e:=h.at_ (by omega)
 subst e
 have k1:=h.tk.c1 1 hl
 rw [<- tx_at hl] at k1
 obtain ⟨nn,hnn⟩:=xe (tx ts 1)
 rw [<- hnn] at k1
 have k1' : W0.cell? ⟨tb,o + 1 * 3 + 1,none⟩ = some (.string nn):=((HX0.out.below).cell (p:=⟨tb,o + 1 * 3 + 1,none⟩) (blt k1)).trans k1
 have hq1 : (1 : Int) < (ts.length : Int):=by omega
 have HNN : Hid (tx ts 1 = nn):=hnn.symm
 have q0 : isT ts 0 sImport = false:=isT_one hs (by decide)
 have q2 : isT ts 0 sVal = false:=isT_one hs (by decide)
 have HNO : Hid (declP false ts = dBad):=by show _ = _;unfold declP;rw [hc,if_pos rfl,q0,if_neg (by decide),hs,if_pos rfl,h2];rfl
 clear h k1 hnn
 go_enter Tryz.func24,Tryz.ntmps24
 go_upto_region 2 with fail
 rw [<- hW0]
 clear hW0
 go_wp2_with fail
 refine (m_isN HMS.out (i:=1) (by omega) hc).mono ?_
 rintro e w' ⟨rfl,rfl⟩
 go_wp2_with fail
 refine (m_isb HMS.out (i:=0) (rfl) (l:=sImport) q0 rfl (by decide)).mono ?_
 rintro e w' ⟨rfl,rfl⟩
 go_wp2_with fail
 refine (m_isb HMS.out (i:=0) (rfl) (l:=sType) hs rfl (by decide)).mono ?_
 rintro e w' ⟨rfl,rfl⟩
 go_wp2_with fail
 refine (m_isb HMS.out (i:=2) (rfl) (l:=sEq) h2 rfl (by decide)).mono ?_
 rintro e w' ⟨rfl,rfl⟩
 go_wp2_with fail
 refine (m_isb HMS.out (i:=0) (rfl) (l:=sVal) q2 rfl (by decide)).mono ?_
 rintro e w' ⟨rfl,rfl⟩
 have hxl:=HX0.out.box.lt
 have hxb:=HX0.out.bad.lt
 have d0 : W0.cell? ⟨w.heap.size,0,none⟩ = some (.int .i64 0):=HX0.out.box.cell (i:=0) (by omega)
 have d1 : W0.cell? ⟨w.heap.size,1,none⟩ = some (.string ⟨#[]⟩):=HX0.out.box.cell (i:=1) (by omega)
 have d2 : W0.cell? ⟨w.heap.size,2,none⟩ = some (.slice none 0 0):=HX0.out.box.cell (i:=2) (by omega)
 have d3 : W0.cell? ⟨w.heap.size,3,none⟩ = some (.slice none 0 0):=HX0.out.box.cell (i:=3) (by omega)
 have z0:=HX0.out.box.frozen 0
 have z1:=HX0.out.box.frozen 1
 have z2:=HX0.out.box.frozen 2
 have z3:=HX0.out.box.frozen 3
 have b0 : W0.cell? ⟨w.heap.size + 1,0,none⟩ = some (.int .i64 0):=HX0.out.bad.cell (i:=0) (by omega)
 have b1 : W0.cell? ⟨w.heap.size + 1,1,none⟩ = some (.string ⟨#[]⟩):=HX0.out.bad.cell (i:=1) (by omega)
 have b2 : W0.cell? ⟨w.heap.size + 1,2,none⟩ = some (.slice none 0 0):=HX0.out.bad.cell (i:=2) (by omega)
 have b3 : W0.cell? ⟨w.heap.size + 1,3,none⟩ = some (.slice none 0 0):=HX0.out.bad.cell (i:=3) (by omega)
 go_wp2
 have RX:=(((HX0.out.box.set 0 (.int .i64 0)).set 1 (.string ⟨#[]⟩)).set 2 (.slice none 0 0)).set 3 (.slice none 0 0)
 refine bodyPost_ret (ret_dc (k:=2) rfl (RX.cell (i:=0) (by omega)) (RX.cell (i:=1) (by omega)) (RX.cell (i:=2) (by omega)) (RX.cell (i:=3) (by omega)) _ rfl) rfl ?_
 rw [HNO.out]
 exact ⟨below_dc HX0.out.below HX0.out.box _ _ _ _,dp0,rfl,(dc_bare _ _ _ _).rd⟩
end Go.Proofs.YtcehppndpccldaaGreatDoor
