/-
  Merged for the claim: PgW PgX.
-/
import Derived.Test.YtdjkgilohhjfoaaGreatDoorM20
namespace Go.Proofs.YtdjkgilohhjfoaaGreatDoor
open Go.RowKit

theorem ret_dc {f : Func} {k : Nat} (hf : f.results = #[.cell k 58]) {V : World} {X : Nat} {a b c d : Value} (c0 : V.cell? ⟨X, 0, none⟩ = some a) (c1 : V.cell? ⟨X, 1, none⟩ = some b) (c2 : V.cell? ⟨X, 2, none⟩ = some c) (c3 : V.cell? ⟨X, 3, none⟩ = some d) (tmps : Array Value) (h : tmps[k]?.getD undef = .pointer (some ⟨X, 0, none⟩)) :
    (results f tmps).run Tryz.prog V = .ok (.agg #[a, b, c, d]) V := by
  unfold results
  rw [hf]
  simp [go_sem, h, c0, c1, c2, c3]

/-- What the model's reader of declarations gives. -/
def MDR (w : World) (d : DC) (e : Ending) (w' : World) : Prop := Below w.heap.size w w' ∧ ∃ p, e = .returned (dV d p) ∧ RdOK w.heap.size w' d p
abbrev bxD (w : World) : World := (w.alloc (.cells #[.int .i64 0, .string ⟨#[]⟩, .slice none 0 0, .slice none 0 0] 58)).alloc (.cells #[.int .i64 0, .string ⟨#[]⟩, .slice none 0 0, .slice none 0 0] 58)
/-- The two boxes stand untouched. -/
structure XD (w W : World) : Prop where
  below : Below w.heap.size w W
  box : W.rowIs w.heap.size 58 4 (v4 (.int .i64 0) (.string ⟨#[]⟩) (.slice none 0 0) (.slice none 0 0))
  bad : W.rowIs (w.heap.size + 1) 58 4 (v4 (.int .i64 0) (.string ⟨#[]⟩) (.slice none 0 0) (.slice none 0 0))
theorem XD.on {w W W1 : World} (h : XD w W) (hb : Below W.heap.size W W1) : XD w W1 := ⟨h.below.trans (hb.mono h.below.size), h.box.of_block (hb.block _ h.box.lt), h.bad.of_block (hb.block _ h.bad.lt)⟩
theorem XD.start (w : World) : XD w (bxD w) := ⟨bel2 _ _ _, (row4 w _ _ _ _ _).alloc _, by have := row4 (w.alloc (.cells #[.int .i64 0, .string ⟨#[]⟩, .slice none 0 0, .slice none 0 0] 58)) (.int .i64 0) (.string ⟨#[]⟩) (.slice none 0 0) (.slice none 0 0) 58; rw [World.size_alloc] at this; exact this⟩
theorem below_dc {w w1 : World} {f : Nat → Value} (h : Below w.heap.size w w1) (_hr : w1.rowIs w.heap.size 58 4 f) (a b c d : Value) : Below w.heap.size w ((((w1.setCell ⟨w.heap.size, 0, none⟩ a).setCell ⟨w.heap.size, 1, none⟩ b).setCell ⟨w.heap.size, 2, none⟩ c).setCell ⟨w.heap.size, 3, none⟩ d) :=
  ⟨h.os, h.tape, h.output, by rw [World.size_setCell, World.size_setCell, World.size_setCell, World.size_setCell]; exact h.size, fun k hk => by
    rw [Below.heap_setCell _ _ _ _ (by show k ≠ w.heap.size; omega), Below.heap_setCell _ _ _ _ (by show k ≠ w.heap.size; omega), Below.heap_setCell _ _ _ _ (by show k ≠ w.heap.size; omega), Below.heap_setCell _ _ _ _ (by show k ≠ w.heap.size; omega)]
    exact h.block k hk⟩
theorem kp_dc {w1 : World} {X : Nat} {f : Nat → Value} (hr : w1.rowIs X 58 4 f) (a b c d : Value) : Kp 58 w1 ((((w1.setCell ⟨X, 0, none⟩ a).setCell ⟨X, 1, none⟩ b).setCell ⟨X, 2, none⟩ c).setCell ⟨X, 3, none⟩ d) :=
  (((kp_set hr 0 a).trans (kp_set (hr.set 0 a) 1 b)).trans (kp_set ((hr.set 0 a).set 1 b) 2 c)).trans (kp_set (((hr.set 0 a).set 1 b).set 2 c) 3 d)

set_option maxRecDepth 100000 in
set_option maxHeartbeats 8000000 in
theorem md_short {tb o c : Nat} {ao : Option Addr} {ts : List TK} (w : World) (h : MS w tb o ao ts) (hs : ts.length < 2) :
    Calls Tryz.prog 54 #[.slice ao ts.length c] w (MDR w (declP false ts)) := by
  have hln := h.tk.len
  have HMW : Hid (∀ W, Below w.heap.size w W → MS W tb o ao ts) := fun W hb => h.below hb
  obtain ⟨W0, hW0⟩ : ∃ W0, W0 = (w.alloc (.cells #[.int .i64 0, .string ⟨#[]⟩, .slice none 0 0, .slice none 0 0] 58)).alloc (.cells #[.int .i64 0, .string ⟨#[]⟩, .slice none 0 0, .slice none 0 0] 58) := ⟨_, rfl⟩
  have HX0 : Hid (XD w W0) := by rw [hW0]; exact XD.start w
  have HMS : Hid (MS W0 tb o ao ts) := HMW.out _ HX0.out.below
  have HNO : Hid (declP false ts = dBad) := by
    show _ = _
    have : isC ts 1 1 = false := by
      cases z : isC ts 1 1 with
      | false => rfl
      | true => have := isC_lt z; omega
    unfold declP
    rw [this]; rfl
  have g : (ts.length : Int) < 2 := by omega
  clear h
  go_enter Tryz.func54, Tryz.ntmps54
  go_upto_region 2 with fail
  rw [← hW0]
  clear hW0
  have hxl := HX0.out.box.lt
  have hxb := HX0.out.bad.lt
  have d0 : W0.cell? ⟨w.heap.size, 0, none⟩ = some (.int .i64 0) := HX0.out.box.cell (i := 0) (by omega)
  have d1 : W0.cell? ⟨w.heap.size, 1, none⟩ = some (.string ⟨#[]⟩) := HX0.out.box.cell (i := 1) (by omega)
  have d2 : W0.cell? ⟨w.heap.size, 2, none⟩ = some (.slice none 0 0) := HX0.out.box.cell (i := 2) (by omega)
  have d3 : W0.cell? ⟨w.heap.size, 3, none⟩ = some (.slice none 0 0) := HX0.out.box.cell (i := 3) (by omega)
  have z0 := HX0.out.box.frozen 0
  have z1 := HX0.out.box.frozen 1
  have z2 := HX0.out.box.frozen 2
  have z3 := HX0.out.box.frozen 3
  have b0 : W0.cell? ⟨w.heap.size + 1, 0, none⟩ = some (.int .i64 0) := HX0.out.bad.cell (i := 0) (by omega)
  have b1 : W0.cell? ⟨w.heap.size + 1, 1, none⟩ = some (.string ⟨#[]⟩) := HX0.out.bad.cell (i := 1) (by omega)
  have b2 : W0.cell? ⟨w.heap.size + 1, 2, none⟩ = some (.slice none 0 0) := HX0.out.bad.cell (i := 2) (by omega)
  have b3 : W0.cell? ⟨w.heap.size + 1, 3, none⟩ = some (.slice none 0 0) := HX0.out.bad.cell (i := 3) (by omega)
  go_wp2
  have RX := (((HX0.out.box.set 0 (.int .i64 0)).set 1 (.string ⟨#[]⟩)).set 2 (.slice none 0 0)).set 3 (.slice none 0 0)
  refine bodyPost_ret (ret_dc (k := 2) rfl (RX.cell (i := 0) (by omega)) (RX.cell (i := 1) (by omega)) (RX.cell (i := 2) (by omega)) (RX.cell (i := 3) (by omega)) _ rfl) rfl ?_
  rw [HNO.out]
  exact ⟨below_dc HX0.out.below HX0.out.box _ _ _ _, dp0, rfl, (dc_bare _ _ _ _).rd⟩

set_option maxRecDepth 100000 in
set_option maxHeartbeats 8000000 in
theorem md_noname {tb o c : Nat} {ao : Option Addr} {ts : List TK} (w : World) (h : MS w tb o ao ts) (hl : 2 ≤ ts.length) (hs : isC ts 1 1 = false) :
    Calls Tryz.prog 54 #[.slice ao ts.length c] w (MDR w (declP false ts)) := by
  have hln := h.tk.len
  have HMW : Hid (∀ W, Below w.heap.size w W → MS W tb o ao ts) := fun W hb => h.below hb
  obtain ⟨W0, hW0⟩ : ∃ W0, W0 = (w.alloc (.cells #[.int .i64 0, .string ⟨#[]⟩, .slice none 0 0, .slice none 0 0] 58)).alloc (.cells #[.int .i64 0, .string ⟨#[]⟩, .slice none 0 0, .slice none 0 0] 58) := ⟨_, rfl⟩
  have HX0 : Hid (XD w W0) := by rw [hW0]; exact XD.start w
  have HMS : Hid (MS W0 tb o ao ts) := HMW.out _ HX0.out.below
  have HNO : Hid (declP false ts = dBad) := by
    show _ = _
    unfold declP
    rw [hs]; rfl
  have g : ¬ (ts.length : Int) < 2 := by omega
  clear h
  go_enter Tryz.func54, Tryz.ntmps54
  go_upto_region 2 with fail
  rw [← hW0]
  clear hW0
  go_wp2_with fail
  refine (m_isN HMS.out (i := 1) (by omega) hs).mono ?_
  rintro e w' ⟨rfl, rfl⟩
  have hxl := HX0.out.box.lt
  have hxb := HX0.out.bad.lt
  have d0 : W0.cell? ⟨w.heap.size, 0, none⟩ = some (.int .i64 0) := HX0.out.box.cell (i := 0) (by omega)
  have d1 : W0.cell? ⟨w.heap.size, 1, none⟩ = some (.string ⟨#[]⟩) := HX0.out.box.cell (i := 1) (by omega)
  have d2 : W0.cell? ⟨w.heap.size, 2, none⟩ = some (.slice none 0 0) := HX0.out.box.cell (i := 2) (by omega)
  have d3 : W0.cell? ⟨w.heap.size, 3, none⟩ = some (.slice none 0 0) := HX0.out.box.cell (i := 3) (by omega)
  have z0 := HX0.out.box.frozen 0
  have z1 := HX0.out.box.frozen 1
  have z2 := HX0.out.box.frozen 2
  have z3 := HX0.out.box.frozen 3
  have b0 : W0.cell? ⟨w.heap.size + 1, 0, none⟩ = some (.int .i64 0) := HX0.out.bad.cell (i := 0) (by omega)
  have b1 : W0.cell? ⟨w.heap.size + 1, 1, none⟩ = some (.string ⟨#[]⟩) := HX0.out.bad.cell (i := 1) (by omega)
  have b2 : W0.cell? ⟨w.heap.size + 1, 2, none⟩ = some (.slice none 0 0) := HX0.out.bad.cell (i := 2) (by omega)
  have b3 : W0.cell? ⟨w.heap.size + 1, 3, none⟩ = some (.slice none 0 0) := HX0.out.bad.cell (i := 3) (by omega)
  go_wp2
  have RX := (((HX0.out.box.set 0 (.int .i64 0)).set 1 (.string ⟨#[]⟩)).set 2 (.slice none 0 0)).set 3 (.slice none 0 0)
  refine bodyPost_ret (ret_dc (k := 2) rfl (RX.cell (i := 0) (by omega)) (RX.cell (i := 1) (by omega)) (RX.cell (i := 2) (by omega)) (RX.cell (i := 3) (by omega)) _ rfl) rfl ?_
  rw [HNO.out]
  exact ⟨below_dc HX0.out.below HX0.out.box _ _ _ _, dp0, rfl, (dc_bare _ _ _ _).rd⟩

set_option maxRecDepth 100000 in
set_option maxHeartbeats 8000000 in
theorem md_import {tb o c : Nat} {ao : Option Addr} {ts : List TK} (w : World) (h : MS w tb o ao ts) (hc : isC ts 1 1 = true) (hs : isT ts 0 sImport = true) (h2 : ts.length = 2) :
    Calls Tryz.prog 54 #[.slice ao ts.length c] w (MDR w (declP false ts)) := by
  have hln := h.tk.len
  have HMW : Hid (∀ W, Below w.heap.size w W → MS W tb o ao ts) := fun W hb => h.below hb
  obtain ⟨W0, hW0⟩ : ∃ W0, W0 = (w.alloc (.cells #[.int .i64 0, .string ⟨#[]⟩, .slice none 0 0, .slice none 0 0] 58)).alloc (.cells #[.int .i64 0, .string ⟨#[]⟩, .slice none 0 0, .slice none 0 0] 58) := ⟨_, rfl⟩
  have HX0 : Hid (XD w W0) := by rw [hW0]; exact XD.start w
  have HMS : Hid (MS W0 tb o ao ts) := HMW.out _ HX0.out.below
  have hl := isC_lt hc
  have g : ¬ (ts.length : Int) < 2 := by omega
  have e := h.at_ (by omega)
  subst e
  have k1 := h.tk.c1 1 hl
  rw [← tx_at hl] at k1
  obtain ⟨nn, hnn⟩ : ∃ z, z = tx ts 1 := ⟨_, rfl⟩
  rw [← hnn] at k1
  have k1' : W0.cell? ⟨tb, o + 1 * 3 + 1, none⟩ = some (.string nn) := ((HX0.out.below).cell (p := ⟨tb, o + 1 * 3 + 1, none⟩) (World.block_lt_of_cell? _ _ k1)).trans k1
  have hq1 : (1 : Int) < (ts.length : Int) := by omega
  have HNN : Hid (tx ts 1 = nn) := hnn.symm
  have HYES : Hid (declP false ts = ⟨1, nn, [], []⟩) := by show _ = _; unfold declP; rw [hc, if_pos rfl, hs, if_pos rfl, if_pos h2, ← hnn]
  have g2 : ((ts.length : Int) == 2) = true := by rw [h2]; rfl
  clear h k1 hnn h2
  go_enter Tryz.func54, Tryz.ntmps54
  go_upto_region 2 with fail
  rw [← hW0]
  clear hW0
  go_wp2_with fail
  refine (m_isN HMS.out (i := 1) (by omega) hc).mono ?_
  rintro e w' ⟨rfl, rfl⟩
  go_wp2_with fail
  refine (m_isb HMS.out (i := 0) (rfl) (l := sImport) hs rfl (by decide)).mono ?_
  rintro e w' ⟨rfl, rfl⟩
  have hxl := HX0.out.box.lt
  have d0 : W0.cell? ⟨w.heap.size, 0, none⟩ = some (.int .i64 0) := HX0.out.box.cell (i := 0) (by omega)
  have d1 : W0.cell? ⟨w.heap.size, 1, none⟩ = some (.string ⟨#[]⟩) := HX0.out.box.cell (i := 1) (by omega)
  have d2 : W0.cell? ⟨w.heap.size, 2, none⟩ = some (.slice none 0 0) := HX0.out.box.cell (i := 2) (by omega)
  have d3 : W0.cell? ⟨w.heap.size, 3, none⟩ = some (.slice none 0 0) := HX0.out.box.cell (i := 3) (by omega)
  have z0 := HX0.out.box.frozen 0
  have z1 := HX0.out.box.frozen 1
  have z2 := HX0.out.box.frozen 2
  have z3 := HX0.out.box.frozen 3
  go_wp2
  have RX := (((HX0.out.box.set 0 (.int .i64 1)).set 1 (.string nn)).set 2 (.slice none 0 0)).set 3 (.slice none 0 0)
  refine bodyPost_ret (ret_dc (k := 2) rfl (RX.cell (i := 0) (by omega)) (RX.cell (i := 1) (by omega)) (RX.cell (i := 2) (by omega)) (RX.cell (i := 3) (by omega)) _ rfl) rfl ?_
  rw [HYES.out]
  exact ⟨below_dc HX0.out.below HX0.out.box _ _ _ _, dp0, rfl, (dc_bare _ _ _ _).rd⟩

set_option maxRecDepth 100000 in
set_option maxHeartbeats 8000000 in
theorem md_import2 {tb o c : Nat} {ao : Option Addr} {ts : List TK} (w : World) (h : MS w tb o ao ts) (hc : isC ts 1 1 = true) (hs : isT ts 0 sImport = true) (h2 : ts.length ≠ 2) :
    Calls Tryz.prog 54 #[.slice ao ts.length c] w (MDR w (declP false ts)) := by
  have hln := h.tk.len
  have HMW : Hid (∀ W, Below w.heap.size w W → MS W tb o ao ts) := fun W hb => h.below hb
  obtain ⟨W0, hW0⟩ : ∃ W0, W0 = (w.alloc (.cells #[.int .i64 0, .string ⟨#[]⟩, .slice none 0 0, .slice none 0 0] 58)).alloc (.cells #[.int .i64 0, .string ⟨#[]⟩, .slice none 0 0, .slice none 0 0] 58) := ⟨_, rfl⟩
  have HX0 : Hid (XD w W0) := by rw [hW0]; exact XD.start w
  have HMS : Hid (MS W0 tb o ao ts) := HMW.out _ HX0.out.below
  have hl := isC_lt hc
  have g : ¬ (ts.length : Int) < 2 := by omega
  have e := h.at_ (by omega)
  subst e
  have k1 := h.tk.c1 1 hl
  rw [← tx_at hl] at k1
  obtain ⟨nn, hnn⟩ : ∃ z, z = tx ts 1 := ⟨_, rfl⟩
  rw [← hnn] at k1
  have k1' : W0.cell? ⟨tb, o + 1 * 3 + 1, none⟩ = some (.string nn) := ((HX0.out.below).cell (p := ⟨tb, o + 1 * 3 + 1, none⟩) (World.block_lt_of_cell? _ _ k1)).trans k1
  have hq1 : (1 : Int) < (ts.length : Int) := by omega
  have HNN : Hid (tx ts 1 = nn) := hnn.symm
  have HNO : Hid (declP false ts = dBad) := by show _ = _; unfold declP; rw [hc, if_pos rfl, hs, if_pos rfl, if_neg h2]
  have g2 : ((ts.length : Int) == 2) = false := beq_eq_false_iff_ne.2 (by omega)
  have q1 : isT ts 0 sType = false := isT_one hs (by decide)
  have q2 : isT ts 0 sVal = false := isT_one hs (by decide)
  clear h k1 hnn h2
  go_enter Tryz.func54, Tryz.ntmps54
  go_upto_region 2 with fail
  rw [← hW0]
  clear hW0
  go_wp2_with fail
  refine (m_isN HMS.out (i := 1) (by omega) hc).mono ?_
  rintro e w' ⟨rfl, rfl⟩
  go_wp2_with fail
  refine (m_isb HMS.out (i := 0) (rfl) (l := sImport) hs rfl (by decide)).mono ?_
  rintro e w' ⟨rfl, rfl⟩
  go_wp2_with fail
  refine (m_isb HMS.out (i := 0) (rfl) (l := sType) q1 rfl (by decide)).mono ?_
  rintro e w' ⟨rfl, rfl⟩
  go_wp2_with fail
  refine (m_isb HMS.out (i := 0) (rfl) (l := sVal) q2 rfl (by decide)).mono ?_
  rintro e w' ⟨rfl, rfl⟩
  have hxl := HX0.out.box.lt
  have hxb := HX0.out.bad.lt
  have d0 : W0.cell? ⟨w.heap.size, 0, none⟩ = some (.int .i64 0) := HX0.out.box.cell (i := 0) (by omega)
  have d1 : W0.cell? ⟨w.heap.size, 1, none⟩ = some (.string ⟨#[]⟩) := HX0.out.box.cell (i := 1) (by omega)
  have d2 : W0.cell? ⟨w.heap.size, 2, none⟩ = some (.slice none 0 0) := HX0.out.box.cell (i := 2) (by omega)
  have d3 : W0.cell? ⟨w.heap.size, 3, none⟩ = some (.slice none 0 0) := HX0.out.box.cell (i := 3) (by omega)
  have z0 := HX0.out.box.frozen 0
  have z1 := HX0.out.box.frozen 1
  have z2 := HX0.out.box.frozen 2
  have z3 := HX0.out.box.frozen 3
  have b0 : W0.cell? ⟨w.heap.size + 1, 0, none⟩ = some (.int .i64 0) := HX0.out.bad.cell (i := 0) (by omega)
  have b1 : W0.cell? ⟨w.heap.size + 1, 1, none⟩ = some (.string ⟨#[]⟩) := HX0.out.bad.cell (i := 1) (by omega)
  have b2 : W0.cell? ⟨w.heap.size + 1, 2, none⟩ = some (.slice none 0 0) := HX0.out.bad.cell (i := 2) (by omega)
  have b3 : W0.cell? ⟨w.heap.size + 1, 3, none⟩ = some (.slice none 0 0) := HX0.out.bad.cell (i := 3) (by omega)
  go_wp2
  have RX := (((HX0.out.box.set 0 (.int .i64 0)).set 1 (.string ⟨#[]⟩)).set 2 (.slice none 0 0)).set 3 (.slice none 0 0)
  refine bodyPost_ret (ret_dc (k := 2) rfl (RX.cell (i := 0) (by omega)) (RX.cell (i := 1) (by omega)) (RX.cell (i := 2) (by omega)) (RX.cell (i := 3) (by omega)) _ rfl) rfl ?_
  rw [HNO.out]
  exact ⟨below_dc HX0.out.below HX0.out.box _ _ _ _, dp0, rfl, (dc_bare _ _ _ _).rd⟩

set_option maxRecDepth 100000 in
set_option maxHeartbeats 8000000 in
theorem md_word {tb o c : Nat} {ao : Option Addr} {ts : List TK} (w : World) (h : MS w tb o ao ts) (hc : isC ts 1 1 = true) (q0 : isT ts 0 sImport = false) (q1 : isT ts 0 sType = false) (q2 : isT ts 0 sVal = false) :
    Calls Tryz.prog 54 #[.slice ao ts.length c] w (MDR w (declP false ts)) := by
  have hln := h.tk.len
  have HMW : Hid (∀ W, Below w.heap.size w W → MS W tb o ao ts) := fun W hb => h.below hb
  obtain ⟨W0, hW0⟩ : ∃ W0, W0 = (w.alloc (.cells #[.int .i64 0, .string ⟨#[]⟩, .slice none 0 0, .slice none 0 0] 58)).alloc (.cells #[.int .i64 0, .string ⟨#[]⟩, .slice none 0 0, .slice none 0 0] 58) := ⟨_, rfl⟩
  have HX0 : Hid (XD w W0) := by rw [hW0]; exact XD.start w
  have HMS : Hid (MS W0 tb o ao ts) := HMW.out _ HX0.out.below
  have hl := isC_lt hc
  have g : ¬ (ts.length : Int) < 2 := by omega
  have e := h.at_ (by omega)
  subst e
  have k1 := h.tk.c1 1 hl
  rw [← tx_at hl] at k1
  obtain ⟨nn, hnn⟩ : ∃ z, z = tx ts 1 := ⟨_, rfl⟩
  rw [← hnn] at k1
  have k1' : W0.cell? ⟨tb, o + 1 * 3 + 1, none⟩ = some (.string nn) := ((HX0.out.below).cell (p := ⟨tb, o + 1 * 3 + 1, none⟩) (World.block_lt_of_cell? _ _ k1)).trans k1
  have hq1 : (1 : Int) < (ts.length : Int) := by omega
  have HNN : Hid (tx ts 1 = nn) := hnn.symm
  have HNO : Hid (declP false ts = dBad) := by show _ = _; unfold declP; rw [hc, if_pos rfl, q0, if_neg (by decide), q1, if_neg (by decide), q2]; rfl
  clear h k1 hnn
  go_enter Tryz.func54, Tryz.ntmps54
  go_upto_region 2 with fail
  rw [← hW0]
  clear hW0
  go_wp2_with fail
  refine (m_isN HMS.out (i := 1) (by omega) hc).mono ?_
  rintro e w' ⟨rfl, rfl⟩
  go_wp2_with fail
  refine (m_isb HMS.out (i := 0) (rfl) (l := sImport) q0 rfl (by decide)).mono ?_
  rintro e w' ⟨rfl, rfl⟩
  go_wp2_with fail
  refine (m_isb HMS.out (i := 0) (rfl) (l := sType) q1 rfl (by decide)).mono ?_
  rintro e w' ⟨rfl, rfl⟩
  go_wp2_with fail
  refine (m_isb HMS.out (i := 0) (rfl) (l := sVal) q2 rfl (by decide)).mono ?_
  rintro e w' ⟨rfl, rfl⟩
  have hxl := HX0.out.box.lt
  have hxb := HX0.out.bad.lt
  have d0 : W0.cell? ⟨w.heap.size, 0, none⟩ = some (.int .i64 0) := HX0.out.box.cell (i := 0) (by omega)
  have d1 : W0.cell? ⟨w.heap.size, 1, none⟩ = some (.string ⟨#[]⟩) := HX0.out.box.cell (i := 1) (by omega)
  have d2 : W0.cell? ⟨w.heap.size, 2, none⟩ = some (.slice none 0 0) := HX0.out.box.cell (i := 2) (by omega)
  have d3 : W0.cell? ⟨w.heap.size, 3, none⟩ = some (.slice none 0 0) := HX0.out.box.cell (i := 3) (by omega)
  have z0 := HX0.out.box.frozen 0
  have z1 := HX0.out.box.frozen 1
  have z2 := HX0.out.box.frozen 2
  have z3 := HX0.out.box.frozen 3
  have b0 : W0.cell? ⟨w.heap.size + 1, 0, none⟩ = some (.int .i64 0) := HX0.out.bad.cell (i := 0) (by omega)
  have b1 : W0.cell? ⟨w.heap.size + 1, 1, none⟩ = some (.string ⟨#[]⟩) := HX0.out.bad.cell (i := 1) (by omega)
  have b2 : W0.cell? ⟨w.heap.size + 1, 2, none⟩ = some (.slice none 0 0) := HX0.out.bad.cell (i := 2) (by omega)
  have b3 : W0.cell? ⟨w.heap.size + 1, 3, none⟩ = some (.slice none 0 0) := HX0.out.bad.cell (i := 3) (by omega)
  go_wp2
  have RX := (((HX0.out.box.set 0 (.int .i64 0)).set 1 (.string ⟨#[]⟩)).set 2 (.slice none 0 0)).set 3 (.slice none 0 0)
  refine bodyPost_ret (ret_dc (k := 2) rfl (RX.cell (i := 0) (by omega)) (RX.cell (i := 1) (by omega)) (RX.cell (i := 2) (by omega)) (RX.cell (i := 3) (by omega)) _ rfl) rfl ?_
  rw [HNO.out]
  exact ⟨below_dc HX0.out.below HX0.out.box _ _ _ _, dp0, rfl, (dc_bare _ _ _ _).rd⟩

set_option maxRecDepth 100000 in
set_option maxHeartbeats 8000000 in
theorem md_type0 {tb o c : Nat} {ao : Option Addr} {ts : List TK} (w : World) (h : MS w tb o ao ts) (hc : isC ts 1 1 = true) (hs : isT ts 0 sType = true) (h2 : isT ts 2 sEq = false) :
    Calls Tryz.prog 54 #[.slice ao ts.length c] w (MDR w (declP false ts)) := by
  have hln := h.tk.len
  have HMW : Hid (∀ W, Below w.heap.size w W → MS W tb o ao ts) := fun W hb => h.below hb
  obtain ⟨W0, hW0⟩ : ∃ W0, W0 = (w.alloc (.cells #[.int .i64 0, .string ⟨#[]⟩, .slice none 0 0, .slice none 0 0] 58)).alloc (.cells #[.int .i64 0, .string ⟨#[]⟩, .slice none 0 0, .slice none 0 0] 58) := ⟨_, rfl⟩
  have HX0 : Hid (XD w W0) := by rw [hW0]; exact XD.start w
  have HMS : Hid (MS W0 tb o ao ts) := HMW.out _ HX0.out.below
  have hl := isC_lt hc
  have g : ¬ (ts.length : Int) < 2 := by omega
  have e := h.at_ (by omega)
  subst e
  have k1 := h.tk.c1 1 hl
  rw [← tx_at hl] at k1
  obtain ⟨nn, hnn⟩ : ∃ z, z = tx ts 1 := ⟨_, rfl⟩
  rw [← hnn] at k1
  have k1' : W0.cell? ⟨tb, o + 1 * 3 + 1, none⟩ = some (.string nn) := ((HX0.out.below).cell (p := ⟨tb, o + 1 * 3 + 1, none⟩) (World.block_lt_of_cell? _ _ k1)).trans k1
  have hq1 : (1 : Int) < (ts.length : Int) := by omega
  have HNN : Hid (tx ts 1 = nn) := hnn.symm
  have q0 : isT ts 0 sImport = false := isT_one hs (by decide)
  have q2 : isT ts 0 sVal = false := isT_one hs (by decide)
  have HNO : Hid (declP false ts = dBad) := by show _ = _; unfold declP; rw [hc, if_pos rfl, q0, if_neg (by decide), hs, if_pos rfl, h2]; rfl
  clear h k1 hnn
  go_enter Tryz.func54, Tryz.ntmps54
  go_upto_region 2 with fail
  rw [← hW0]
  clear hW0
  go_wp2_with fail
  refine (m_isN HMS.out (i := 1) (by omega) hc).mono ?_
  rintro e w' ⟨rfl, rfl⟩
  go_wp2_with fail
  refine (m_isb HMS.out (i := 0) (rfl) (l := sImport) q0 rfl (by decide)).mono ?_
  rintro e w' ⟨rfl, rfl⟩
  go_wp2_with fail
  refine (m_isb HMS.out (i := 0) (rfl) (l := sType) hs rfl (by decide)).mono ?_
  rintro e w' ⟨rfl, rfl⟩
  go_wp2_with fail
  refine (m_isb HMS.out (i := 2) (rfl) (l := sEq) h2 rfl (by decide)).mono ?_
  rintro e w' ⟨rfl, rfl⟩
  go_wp2_with fail
  refine (m_isb HMS.out (i := 0) (rfl) (l := sVal) q2 rfl (by decide)).mono ?_
  rintro e w' ⟨rfl, rfl⟩
  have hxl := HX0.out.box.lt
  have hxb := HX0.out.bad.lt
  have d0 : W0.cell? ⟨w.heap.size, 0, none⟩ = some (.int .i64 0) := HX0.out.box.cell (i := 0) (by omega)
  have d1 : W0.cell? ⟨w.heap.size, 1, none⟩ = some (.string ⟨#[]⟩) := HX0.out.box.cell (i := 1) (by omega)
  have d2 : W0.cell? ⟨w.heap.size, 2, none⟩ = some (.slice none 0 0) := HX0.out.box.cell (i := 2) (by omega)
  have d3 : W0.cell? ⟨w.heap.size, 3, none⟩ = some (.slice none 0 0) := HX0.out.box.cell (i := 3) (by omega)
  have z0 := HX0.out.box.frozen 0
  have z1 := HX0.out.box.frozen 1
  have z2 := HX0.out.box.frozen 2
  have z3 := HX0.out.box.frozen 3
  have b0 : W0.cell? ⟨w.heap.size + 1, 0, none⟩ = some (.int .i64 0) := HX0.out.bad.cell (i := 0) (by omega)
  have b1 : W0.cell? ⟨w.heap.size + 1, 1, none⟩ = some (.string ⟨#[]⟩) := HX0.out.bad.cell (i := 1) (by omega)
  have b2 : W0.cell? ⟨w.heap.size + 1, 2, none⟩ = some (.slice none 0 0) := HX0.out.bad.cell (i := 2) (by omega)
  have b3 : W0.cell? ⟨w.heap.size + 1, 3, none⟩ = some (.slice none 0 0) := HX0.out.bad.cell (i := 3) (by omega)
  go_wp2
  have RX := (((HX0.out.box.set 0 (.int .i64 0)).set 1 (.string ⟨#[]⟩)).set 2 (.slice none 0 0)).set 3 (.slice none 0 0)
  refine bodyPost_ret (ret_dc (k := 2) rfl (RX.cell (i := 0) (by omega)) (RX.cell (i := 1) (by omega)) (RX.cell (i := 2) (by omega)) (RX.cell (i := 3) (by omega)) _ rfl) rfl ?_
  rw [HNO.out]
  exact ⟨below_dc HX0.out.below HX0.out.box _ _ _ _, dp0, rfl, (dc_bare _ _ _ _).rd⟩


end Go.Proofs.YtdjkgilohhjfoaaGreatDoor

namespace Go.Proofs.YtdjkgilohhjfoaaGreatDoor
open Go.RowKit

set_option maxRecDepth 100000 in
set_option maxHeartbeats 8000000 in
theorem md_type1 {tb o c : Nat} {ao : Option Addr} {ts : List TK} (w : World) (h : MS w tb o ao ts) (hc : isC ts 1 1 = true) (hs : isT ts 0 sType = true) (h2 : isT ts 2 sEq = true) :
    Calls Tryz.prog 54 #[.slice ao ts.length c] w (MDR w (declP false ts)) := by
  have hln := h.tk.len
  have HMW : Hid (∀ W, Below w.heap.size w W → MS W tb o ao ts) := fun W hb => h.below hb
  obtain ⟨W0, hW0⟩ : ∃ W0, W0 = (w.alloc (.cells #[.int .i64 0, .string ⟨#[]⟩, .slice none 0 0, .slice none 0 0] 58)).alloc (.cells #[.int .i64 0, .string ⟨#[]⟩, .slice none 0 0, .slice none 0 0] 58) := ⟨_, rfl⟩
  have HX0 : Hid (XD w W0) := by rw [hW0]; exact XD.start w
  have HMS : Hid (MS W0 tb o ao ts) := HMW.out _ HX0.out.below
  have hl := isC_lt hc
  have g : ¬ (ts.length : Int) < 2 := by omega
  have e := h.at_ (by omega)
  subst e
  have k1 := h.tk.c1 1 hl
  rw [← tx_at hl] at k1
  obtain ⟨nn, hnn⟩ : ∃ z, z = tx ts 1 := ⟨_, rfl⟩
  rw [← hnn] at k1
  have k1' : W0.cell? ⟨tb, o + 1 * 3 + 1, none⟩ = some (.string nn) := ((HX0.out.below).cell (p := ⟨tb, o + 1 * 3 + 1, none⟩) (World.block_lt_of_cell? _ _ k1)).trans k1
  have hq1 : (1 : Int) < (ts.length : Int) := by omega
  have HNN : Hid (tx ts 1 = nn) := hnn.symm
  have q0 : isT ts 0 sImport = false := isT_one hs (by decide)
  have q2 : isT ts 0 sVal = false := isT_one hs (by decide)
  have HR0 : Hid (declP false ts = match tyP false ts (ts.length + 1) 3 with
        | none => dBad
        | some (t, j) => if j = ts.length then ⟨2, nn, t, []⟩ else dBad) := by
    show _ = _
    unfold declP
    rw [hc, if_pos rfl, q0, if_neg (by decide), hs, if_pos rfl, h2, if_pos rfl, ← hnn]
    cases tyP false ts (ts.length + 1) 3 with
    | none => rfl
    | some z => rfl
  have hl2 := isT_lt h2
  have CT : Hid (Calls Tryz.prog 63 #[.slice (some ⟨tb, o, none⟩) ts.length c, .int .i64 3] W0 (MTR W0 (tyP false ts (ts.length + 1) 3))) := m_type _ _ _ _ _ _ HMS.out (by omega) (by omega) (by omega)
  have HFT : Hid (Far ts.length (tyP false ts (ts.length + 1))) := ty_far _
  clear h k1 hnn
  go_enter Tryz.func54, Tryz.ntmps54
  go_upto_region 2 with fail
  rw [← hW0]
  clear hW0
  go_wp2_with fail
  refine (m_isN HMS.out (i := 1) (by omega) hc).mono ?_
  rintro e w' ⟨rfl, rfl⟩
  go_wp2_with fail
  refine (m_isb HMS.out (i := 0) (rfl) (l := sImport) q0 rfl (by decide)).mono ?_
  rintro e w' ⟨rfl, rfl⟩
  go_wp2_with fail
  refine (m_isb HMS.out (i := 0) (rfl) (l := sType) hs rfl (by decide)).mono ?_
  rintro e w' ⟨rfl, rfl⟩
  go_wp2_with fail
  refine (m_isb HMS.out (i := 2) (rfl) (l := sEq) h2 rfl (by decide)).mono ?_
  rintro e w' ⟨rfl, rfl⟩
  go_wp2_with fail
  refine CT.out.mono ?_
  rintro e w2 ⟨hb2, hr2⟩
  have HX2 : Hid (XD w w2) := HX0.out.on hb2
  cases ht : tyP false ts (ts.length + 1) 3 with
  | none =>
    rw [ht] at hr2
    obtain ⟨va, n, c', rfl⟩ := hr2
    have HNO : Hid (declP false ts = dBad) := by show _ = _; rw [HR0.out, ht]
    have HX3 : Hid (XD w (w2.alloc (.cells #[.slice va n c', .int .i64 (-1)] 108))) := HX2.out.on (bel1 _ _)
    have HM3 : Hid (MS (w2.alloc (.cells #[.slice va n c', .int .i64 (-1)] 108)) tb o (some ⟨tb, o, none⟩) ts) := HMW.out _ HX3.out.below
    have ge : (((-1 : Int)) == (ts.length : Int)) = false := beq_eq_false_iff_ne.2 (by omega)
    clear ht hb2 k1'
    go_wp2_with fail
    refine (m_isb HM3.out (i := 0) (rfl) (l := sVal) q2 rfl (by decide)).mono ?_
    rintro e w' ⟨rfl, rfl⟩
    have hxl := HX3.out.box.lt
    have hxb := HX3.out.bad.lt
    have d0 : (w2.alloc (.cells #[.slice va n c', .int .i64 (-1)] 108)).cell? ⟨w.heap.size, 0, none⟩ = some (.int .i64 0) := HX3.out.box.cell (i := 0) (by omega)
    have d1 : (w2.alloc (.cells #[.slice va n c', .int .i64 (-1)] 108)).cell? ⟨w.heap.size, 1, none⟩ = some (.string ⟨#[]⟩) := HX3.out.box.cell (i := 1) (by omega)
    have d2 : (w2.alloc (.cells #[.slice va n c', .int .i64 (-1)] 108)).cell? ⟨w.heap.size, 2, none⟩ = some (.slice none 0 0) := HX3.out.box.cell (i := 2) (by omega)
    have d3 : (w2.alloc (.cells #[.slice va n c', .int .i64 (-1)] 108)).cell? ⟨w.heap.size, 3, none⟩ = some (.slice none 0 0) := HX3.out.box.cell (i := 3) (by omega)
    have z0 := HX3.out.box.frozen 0
    have z1 := HX3.out.box.frozen 1
    have z2 := HX3.out.box.frozen 2
    have z3 := HX3.out.box.frozen 3
    have b0 : (w2.alloc (.cells #[.slice va n c', .int .i64 (-1)] 108)).cell? ⟨w.heap.size + 1, 0, none⟩ = some (.int .i64 0) := HX3.out.bad.cell (i := 0) (by omega)
    have b1 : (w2.alloc (.cells #[.slice va n c', .int .i64 (-1)] 108)).cell? ⟨w.heap.size + 1, 1, none⟩ = some (.string ⟨#[]⟩) := HX3.out.bad.cell (i := 1) (by omega)
    have b2 : (w2.alloc (.cells #[.slice va n c', .int .i64 (-1)] 108)).cell? ⟨w.heap.size + 1, 2, none⟩ = some (.slice none 0 0) := HX3.out.bad.cell (i := 2) (by omega)
    have b3 : (w2.alloc (.cells #[.slice va n c', .int .i64 (-1)] 108)).cell? ⟨w.heap.size + 1, 3, none⟩ = some (.slice none 0 0) := HX3.out.bad.cell (i := 3) (by omega)
    go_wp2
    have RX := (((HX3.out.box.set 0 (.int .i64 0)).set 1 (.string ⟨#[]⟩)).set 2 (.slice none 0 0)).set 3 (.slice none 0 0)
    refine bodyPost_ret (ret_dc (k := 2) rfl (RX.cell (i := 0) (by omega)) (RX.cell (i := 1) (by omega)) (RX.cell (i := 2) (by omega)) (RX.cell (i := 3) (by omega)) _ rfl) rfl ?_
    rw [HNO.out]
    exact ⟨below_dc HX3.out.below HX3.out.box _ _ _ _, dp0, rfl, (dc_bare _ _ _ _).rd⟩
  | some z =>
    obtain ⟨tl, j⟩ := z
    rw [ht] at hr2
    obtain ⟨va, n, c', k', us, rfl, rfl, hrt, hus⟩ := hr2
    obtain ⟨far1, far2, far3⟩ := HFT.out _ _ _ ht
    have HX3 : Hid (XD w (w2.alloc (.cells #[.slice va n c', .int .i64 (j : Int)] 108))) := HX2.out.on (bel1 _ _)
    have HM3 : Hid (MS (w2.alloc (.cells #[.slice va n c', .int .i64 (j : Int)] 108)) tb o (some ⟨tb, o, none⟩) ts) := HMW.out _ HX3.out.below
    have HRT : Hid (RT (w.heap.size + 1) (w2.alloc (.cells #[.slice va n c', .int .i64 (j : Int)] 108)) (.slice va n c') us) := (hrt.mono (by have := HX0.out.box.lt; omega)).below (bel1 _ _)
    by_cases hj : j = ts.length
    case neg =>
      have HNO : Hid (declP false ts = dBad) := by show _ = _; rw [HR0.out, ht]; exact if_neg hj
      have ge : (((j : Int)) == (ts.length : Int)) = false := beq_eq_false_iff_ne.2 (by omega)
      clear ht hb2 k1' hj hrt
      go_wp2_with fail
      refine (m_isb HM3.out (i := 0) (rfl) (l := sVal) q2 rfl (by decide)).mono ?_
      rintro e w' ⟨rfl, rfl⟩
      have hxl := HX3.out.box.lt
      have hxb := HX3.out.bad.lt
      have d0 : (w2.alloc (.cells #[.slice va n c', .int .i64 (j : Int)] 108)).cell? ⟨w.heap.size, 0, none⟩ = some (.int .i64 0) := HX3.out.box.cell (i := 0) (by omega)
      have d1 : (w2.alloc (.cells #[.slice va n c', .int .i64 (j : Int)] 108)).cell? ⟨w.heap.size, 1, none⟩ = some (.string ⟨#[]⟩) := HX3.out.box.cell (i := 1) (by omega)
      have d2 : (w2.alloc (.cells #[.slice va n c', .int .i64 (j : Int)] 108)).cell? ⟨w.heap.size, 2, none⟩ = some (.slice none 0 0) := HX3.out.box.cell (i := 2) (by omega)
      have d3 : (w2.alloc (.cells #[.slice va n c', .int .i64 (j : Int)] 108)).cell? ⟨w.heap.size, 3, none⟩ = some (.slice none 0 0) := HX3.out.box.cell (i := 3) (by omega)
      have z0 := HX3.out.box.frozen 0
      have z1 := HX3.out.box.frozen 1
      have z2 := HX3.out.box.frozen 2
      have z3 := HX3.out.box.frozen 3
      have b0 : (w2.alloc (.cells #[.slice va n c', .int .i64 (j : Int)] 108)).cell? ⟨w.heap.size + 1, 0, none⟩ = some (.int .i64 0) := HX3.out.bad.cell (i := 0) (by omega)
      have b1 : (w2.alloc (.cells #[.slice va n c', .int .i64 (j : Int)] 108)).cell? ⟨w.heap.size + 1, 1, none⟩ = some (.string ⟨#[]⟩) := HX3.out.bad.cell (i := 1) (by omega)
      have b2 : (w2.alloc (.cells #[.slice va n c', .int .i64 (j : Int)] 108)).cell? ⟨w.heap.size + 1, 2, none⟩ = some (.slice none 0 0) := HX3.out.bad.cell (i := 2) (by omega)
      have b3 : (w2.alloc (.cells #[.slice va n c', .int .i64 (j : Int)] 108)).cell? ⟨w.heap.size + 1, 3, none⟩ = some (.slice none 0 0) := HX3.out.bad.cell (i := 3) (by omega)
      go_wp2
      have RX := (((HX3.out.box.set 0 (.int .i64 0)).set 1 (.string ⟨#[]⟩)).set 2 (.slice none 0 0)).set 3 (.slice none 0 0)
      refine bodyPost_ret (ret_dc (k := 2) rfl (RX.cell (i := 0) (by omega)) (RX.cell (i := 1) (by omega)) (RX.cell (i := 2) (by omega)) (RX.cell (i := 3) (by omega)) _ rfl) rfl ?_
      rw [HNO.out]
      exact ⟨below_dc HX3.out.below HX3.out.box _ _ _ _, dp0, rfl, (dc_bare _ _ _ _).rd⟩
    case pos =>
      have HYES : Hid (declP false ts = ⟨2, nn, tl, []⟩) := by show _ = _; rw [HR0.out, ht]; exact if_pos hj
      have ge : (((j : Int)) == (ts.length : Int)) = true := beq_iff_eq.2 (by omega)
      have HUS : Hid (us.map Prod.fst = tl) := hus
      obtain ⟨W3, hW3⟩ : ∃ W3, W3 = w2.alloc (.cells #[.slice va n c', .int .i64 (j : Int)] 108) := ⟨_, rfl⟩
      rw [← hW3] at HX3 HRT
      have hxl := HX3.out.box.lt
      have hxl2 := HX2.out.box.lt
      have TB : W3.rowIs w2.heap.size 108 2 (v2 (.slice va n c') (.int .i64 (j : Int))) := by rw [hW3]; exact row2 w2 _ _ _
      have t0 : W3.cell? ⟨w2.heap.size, 0, none⟩ = some (.slice va n c') := TB.cell (i := 0) (by omega)
      have t1 : W3.cell? ⟨w2.heap.size, 1, none⟩ = some (.int .i64 (j : Int)) := TB.cell (i := 1) (by omega)
      have d0 : W3.cell? ⟨w.heap.size, 0, none⟩ = some (.int .i64 0) := HX3.out.box.cell (i := 0) (by omega)
      have d1 : W3.cell? ⟨w.heap.size, 1, none⟩ = some (.string ⟨#[]⟩) := HX3.out.box.cell (i := 1) (by omega)
      have d2 : W3.cell? ⟨w.heap.size, 2, none⟩ = some (.slice none 0 0) := HX3.out.box.cell (i := 2) (by omega)
      have d3 : W3.cell? ⟨w.heap.size, 3, none⟩ = some (.slice none 0 0) := HX3.out.box.cell (i := 3) (by omega)
      have z0 := HX3.out.box.frozen 0
      have z1 := HX3.out.box.frozen 1
      have z2 := HX3.out.box.frozen 2
      have z3 := HX3.out.box.frozen 3
      clear ht hb2 k1' hj hrt hus TB HM3
      go_upto_region 9 with fail
      rw [← hW3]
      clear hW3
      go_wp2
      have RX := (((HX3.out.box.set 0 (.int .i64 2)).set 1 (.string nn)).set 2 (.slice va n c')).set 3 (.slice none 0 0)
      refine bodyPost_ret (ret_dc (k := 2) rfl (RX.cell (i := 0) (by omega)) (RX.cell (i := 1) (by omega)) (RX.cell (i := 2) (by omega)) (RX.cell (i := 3) (by omega)) _ rfl) rfl ?_
      rw [HYES.out]
      exact ⟨below_dc HX3.out.below HX3.out.box _ _ _ _, ⟨.slice va n c', us, .slice none 0 0, []⟩, rfl, ⟨((HRT.out.kp (kp_dc HX3.out.box _ _ _ _) (by decide) (by decide)).mono (by omega)), HUS.out, (OE.nil _ _).re, rfl⟩⟩


end Go.Proofs.YtdjkgilohhjfoaaGreatDoor

