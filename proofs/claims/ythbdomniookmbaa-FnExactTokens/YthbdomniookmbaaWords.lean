/-
  The contracts of the functions on bytes and words.
-/
import Derived.Test.YthbdomniookmbaaProg
import Derived.Test.YthbdomniookmbaaPure
import Derived.WalkKit
import Derived.WalkSpells
import Derived.WalkLawsBesides
namespace Go.Proofs.Ythbdomniookmbaa
open Go.RowKit

set_option maxHeartbeats 400000 in
theorem c18 (c : Int) (w : World) :
    Calls Try.prog 18 #[.int .u8 c] w fun e w' => e = .returned (.bool (sl c)) ∧ w' = w := by
  by_cases h1 : 97 ≤ c <;> by_cases h2 : c ≤ 122 <;>
  (go_enter Try.func18, Try.ntmps18
   go_wp2
   go_ret
   exact ⟨by simp [sl, h1, h2], rfl⟩)

set_option maxHeartbeats 1000000 in
theorem c30 (c : Int) (w : World) :
    Calls Try.prog 30 #[.int .u8 c] w fun e w' => e = .returned (.bool (wb c)) ∧ w' = w := by
  by_cases h1 : 97 ≤ c <;> by_cases h2 : c ≤ 122 <;> by_cases h3 : 48 ≤ c <;> by_cases h4 : c ≤ 57 <;> by_cases h5 : c = 95 <;> try (exfalso; omega)
  all_goals
    have h5' : (c == 95) = decide (c = 95) := by rw [Bool.eq_iff_iff]; simp
    go_enter Try.func30, Try.ntmps30
    go_wp2
    go_ret
    exact ⟨by simp [wb, *], rfl⟩

set_option maxHeartbeats 1000000 in
theorem c31 (s : ByteArray) (w : World) :
    Calls Try.prog 31 #[.string s] w fun e w' => e = .returned (.bool (rsv s.toList)) ∧ w' = w := by
  go_enter Try.func31, Try.ntmps31
  go_wp2
  all_goals
    go_ret
    exact ⟨by first | (simp_all [rsv]; done) | (refine congrArg (fun b => Ending.returned (Value.bool b)) ?_; rw [Bool.eq_iff_iff]; simp_all [rsv]), rfl⟩

set_option maxHeartbeats 1000000 in
theorem c41 (s : ByteArray) (w : World) :
    Calls Try.prog 41 #[.string s] w fun e w' => e = .returned (.bool (rsv s.toList)) ∧ w' = w := by
  go_enter Try.func41, Try.ntmps41
  go_wp2
  all_goals
    go_ret
    exact ⟨by simp_all [rsv], rfl⟩

end Go.Proofs.Ythbdomniookmbaa
