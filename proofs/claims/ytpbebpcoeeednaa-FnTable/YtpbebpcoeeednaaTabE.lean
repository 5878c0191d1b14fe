/-
  Tables: the comparison of two headers.
-/
import Derived.Test.YtpbebpcoeeednaaTabC
import Derived.Laws.StructEq
namespace Go.Proofs.Ytpbebpcoeeednaa
open Go.RowKit

theorem Try.fields73 : Try.prog.underlying 79 = some (.struct (Try.prog.fieldsOf 79)) := by kernel_rfl
theorem Try.fields41 : Try.prog.underlying 37 = some (.struct (Try.prog.fieldsOf 37)) := by kernel_rfl
theorem Try.stood73 : Try.prog.stoodInHeld 79 = false := by kernel_rfl
theorem Try.stood41 : Try.prog.stoodInHeld 37 = false := by kernel_rfl
theorem Try.guard73 : Try.prog.eqGuardType Try.prog.depth 79 = false := by kernel_rfl

theorem eq73 (a c a' c' : Int) (b b' : ByteArray) (W : World) :
    (Op.equalIn 10000 79 (.agg #[.int .i64 a, .string b, .int .i64 c]) (.agg #[.int .i64 a', .string b', .int .i64 c'])).run Try.prog W = .ok ((a == a') && ((b.toList == b'.toList) && (c == c'))) W := by
  rw [run_equalIn_struct W 9999 79 _ _ Try.fields73 Try.stood73]
  have h41 : ∀ W : World, (Op.equalIn 9999 37 (.agg #[.int .i64 a, .string b]) (.agg #[.int .i64 a', .string b'])).run Try.prog W = .ok ((a == a') && (b.toList == b'.toList)) W := fun W => by
    rw [run_equalIn_struct W 9998 37 _ _ Try.fields41 Try.stood41]
    simp only [Program.fieldsOf, Try.underlying37]
    cases h1 : (a == a') <;> cases h2 : (b.toList == b'.toList) <;> simp [Op.eqFields, go_sem, h1, h2, Try.underlying3, Try.underlying9]
  simp only [Program.fieldsOf, Try.underlying79]
  cases h1 : (a == a') <;> cases h2 : (b.toList == b'.toList) <;> cases h3 : (c == c') <;> simp [Op.eqFields, go_sem, h41, h1, h2, h3, Try.underlying3]

end Go.Proofs.Ytpbebpcoeeednaa
