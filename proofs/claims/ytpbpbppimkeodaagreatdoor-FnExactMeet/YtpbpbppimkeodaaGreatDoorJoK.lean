/-
  What is known so far, of questions: the key.
-/
import Derived.Test.YtpbpbppimkeodaaGreatDoorKnownInt
import Derived.Test.YtpbpbppimkeodaaGreatDoorJoA
namespace Go.Proofs.YtpbpbppimkeodaaGreatDoor
open Go.RowKit Go.Maps

set_option maxRecDepth 100000 in
theorem Tryz.rowM : (124 : TypeId) < Tryz.prog.types.size := of_decide_eq_true (by kernel_rfl)
theorem Tryz.cellsM : Tryz.prog.cellsOf 124 = 3 := by kernel_rfl
theorem Tryz.deepM : Tryz.prog.keyTypeAt (Tryz.prog.types.size + 1) 124 = true := by kernel_rfl
theorem Tryz.wideM : (match Tryz.prog.underlying 124 with | some (.array _ _) | some (.struct _) => true | _ => false) = true := by rw [Tryz.underlying124]
set_option maxRecDepth 100000 in
theorem Tryz.lawM : Keyed Tryz.prog 124 := Keyed.of_law (deep_law_laid Tryz.laidOut' (m := 3) (by omega) Tryz.rowM (by kernel_rfl) Tryz.wideM)
theorem Tryz.formedM {c0 c1 c2 : Value} : (Value.agg #[c0, c1, c2]).formed Tryz.prog 124 = true := by simp [Value.formed, Tryz.underlying124, Tryz.cellsM]
theorem Tryz.cells4' : Tryz.prog.cellsOf 4 = 1 := by kernel_rfl
theorem Tryz.infoM : (Tryz.prog.info? 124).map (fun i => (i.zero, i.size, i.bytes)) = some (some (.agg #[.int .i64 0, .int .i64 0, .bool false]), 3, 24) := by kernel_rfl

/-- A question as a key (its third field is what the program calls meet). -/
def kq (q : Qn) : Lit := (DataW.agg [.agg [.lit (.int .i64 (q.a : Int)), .lit (.int .i64 (q.b : Int))], .lit (.bool q.up)] : DataW Unit).asKey
/-- A question as the program has it. -/
def qv (q : Qn) : Value := .agg #[.int .i64 (q.a : Int), .int .i64 (q.b : Int), .bool (q.up)]

set_option maxRecDepth 100000 in
theorem key_q {q : Qn} (ha : q.a < 4611686018427387904) (hb : q.b < 4611686018427387904) : keyOf Tryz.prog 124 (qv q) = some (kq q) := by
  have wa : (Lit.int .i64 (q.a : Int)).wf = true := WalkArith.wf_i64 (by omega)
  have wb : (Lit.int .i64 (q.b : Int)).wf = true := WalkArith.wf_i64 (by omega)
  have ht : DataW.Trod (H := Unit) (fun _ => ()) Tryz.prog default 0 (fun _ => true) true 124 (qv q) (.agg [.agg [.lit (.int .i64 (q.a : Int)), .lit (.int .i64 (q.b : Int))], .lit (.bool q.up)]) [] := by
    refine ⟨3, ?_⟩
    simp [qv, DataW.trod, Tryz.underlying124, Tryz.underlying69, Tryz.underlying3, Tryz.underlying4, Tryz.cellsM, Tryz.cells69, Tryz.cells3', Value.cells, Tryz.cells4', wa, wb]
  exact (keyOf_asKey Tryz.deepM Tryz.wideM Tryz.formedM ht).1

theorem kq_inj {q r : Qn} (ha : q.a < 4611686018427387904) (hb : q.b < 4611686018427387904) (hx : r.a < 4611686018427387904) (hy : r.b < 4611686018427387904) (e : kq r = kq q) : r = q := by
  have h := Tryz.lawM.inj (key_q hx hy) (by rw [e]; exact key_q ha hb)
  simp [qv] at h
  obtain ⟨h1, h2, h3⟩ := h
  have e1 : r.a = q.a := by omega
  have e2 : r.b = q.b := by omega
  clear h1 h2 e
  cases q
  cases r
  simp_all

end Go.Proofs.YtpbpbppimkeodaaGreatDoor
