/-
  The model's expressions, of every fuel.
-/
import Derived.Test.YtcehppndpccldaaGreatDoorPgS
import Derived.Test.YtcehppndpccldaaGreatDoorPgU
namespace Go.Proofs.YtcehppndpccldaaGreatDoor

theorem m_exprS {tb o : Nat} {ts : List TK} (ok : TkOK ts) {f : Nat} (IH : MEC tb o ts f) : MEC tb o ts (f + 1) := by
  intro w ao c a i h ha hf hi9
  subst ha
  cases q0 : isT ts i sFun with
  | true => exact mx_fun IH w h hf q0
  | false =>
    cases q1 : isT ts i sIf with
    | true => exact mx_if IH w h hf q1
    | false => exact mx_less (fun w i h hf hi => m_sum (fun w i h hf hi => m_post ok IH w h hf hi) w h hf hi) w h hf hi9 q0 q1
theorem m_expr {tb o : Nat} {ts : List TK} (ok : TkOK ts) : ∀ f, MEC tb o ts f
  | 0 => fun _ _ _ _ _ _ _ hf => absurd hf (Nat.not_lt_zero _)
  | f + 1 => m_exprS ok (m_expr ok f)

end Go.Proofs.YtcehppndpccldaaGreatDoor
