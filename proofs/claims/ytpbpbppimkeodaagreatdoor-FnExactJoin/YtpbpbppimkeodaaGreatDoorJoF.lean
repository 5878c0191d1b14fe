/-
  What the model makes of two nodes, whatever they are.
-/
import Derived.Test.YtpbpbppimkeodaaGreatDoorJoD
import Derived.Test.YtpbpbppimkeodaaGreatDoorJoE
namespace Go.Proofs.YtpbpbppimkeodaaGreatDoor
open Go.RowKit Go.Maps

theorem m_mixed {n b o : Nat} {p : Nat → NP} {H : Nat → ND} (ao : Option Addr) (gc : Nat) (q : Qn) (w : World) (hG : NodesAt w ao b o n p H) (ha : q.a < n) (hb : q.b < n) (sx : ShQ (H q.a)) (sy : ShQ (H q.b)) :
    Calls Tryz.prog 60 #[.agg #[.slice ao n gc], .agg #[.int .i64 (q.a : Int), .int .i64 (q.b : Int), .bool q.up]] w (MixedPost w (H q.a) (H q.b) q.up) := by
  by_cases e : (H q.a).kind = (H q.b).kind
  · by_cases h4 : (H q.a).kind = 4
    · exact m_mixed4 ao gc q w hG ha hb sx sy ⟨h4, by rw [← e]; exact h4⟩
    · by_cases h3 : (H q.a).kind = 3
      · exact m_mixed3 ao gc q w hG ha hb sx sy ⟨h3, by rw [← e]; exact h3⟩
      · exact m_mixed0 ao gc q w hG ha hb sx sy (Or.inr ⟨h3, h4⟩)
  · exact m_mixed0 ao gc q w hG ha hb sx sy (Or.inl e)

end Go.Proofs.YtpbpbppimkeodaaGreatDoor
