/-
  The results of ParseScript lie in boxes.
-/
import Derived.Test.YthmihmnagnibmaaDoorPrI
namespace Go.Proofs.YthmihmnagnibmaaDoor
open Go Go.RowKit Go.Shelf

set_option maxRecDepth 100000 in
set_option maxHeartbeats 1000000 in
theorem res5 (tmps : Array Value) (W : World) (b : Nat) (wks cpy c : Int) (v : Value) (h2 : tmps[2]?.getD undef = .pointer (some ⟨b, 0, none⟩)) (h3 : tmps[3]?.getD undef = .pointer (some ⟨b + 1, 0, none⟩))
    (r0 : W.rowIs b 24 3 (t3 (.int .i64 wks) (.int .i64 cpy) v)) (r1 : W.rowIs (b + 1) 3 1 (fun _ => .int .i64 c)) :
    (results Tryd.f5 tmps).run Tryd.prog W = .ok (.tuple #[.agg #[.int .i64 wks, .int .i64 cpy, v], .int .i64 c]) W := by
  have c0 : W.cell? ⟨b, 0, none⟩ = some (.int .i64 wks) := r0.cell (i := 0) (by omega)
  have c1 : W.cell? ⟨b, 1, none⟩ = some (.int .i64 cpy) := r0.cell (i := 1) (by omega)
  have c2 : W.cell? ⟨b, 2, none⟩ = some v := r0.cell (i := 2) (by omega)
  have c3 : W.cell? ⟨b + 1, 0, none⟩ = some (.int .i64 c) := r1.cell (i := 0) (by omega)
  unfold results
  rw [show Tryd.f5.results = #[.cell 2 24, .cell 3 3] from rfl]
  simp [go_sem, h2, h3, c0, c1, c2, c3]

end Go.Proofs.YthmihmnagnibmaaDoor
