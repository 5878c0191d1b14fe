/-
  Tables: the comparison of two headers.
-/
import Derived.Test.YtefplfcfoapnjaaTabC
import Derived.Laws.StructEq
namespace Go.Proofs.Ytefplfcfoapnjaa
open Go.RowKit

theorem Try.fields73 : Try.prog.underlying 73 = some (.struct (Try.prog.fieldsOf 73)) := by kernel_rfl
theorem Try.fields41 : Try.prog.underlying 41 = some (.struct (Try.prog.fieldsOf 41)) := by kernel_rfl
theorem Try.stood73 : Try.prog.stoodInHeld 73 = false := by kernel_rfl
theorem Try.stood41 : Try.prog.stoodInHeld 41 = false := by kernel_rfl
theorem Try.guard73 : Try.prog.eqGuardType Try.prog.depth 73 = false := by kernel_rfl

theorem eq73 (a c a' c' : Int) (b b' : ByteArray) (W : World) :
    (Op.equalIn 10000 73 (.agg #[.int .i64 a, .string b, .int .i64 c]) (.agg #[.int .i64 a', .string b', .int .i64 c'])).run Try.prog W = .ok ((a == a') && ((b.toList == b'.toList) && (c == c'))) W := by
  rw [run_equalIn_struct W 9999 73 _ _ Try.fields73 Try.stood73]
  have h41 : ∀ W : World, (Op.equalIn 9999 41 (.agg #[.int .i64 a, .string b]) (.agg #[.int .i64 a', .string b'])).run Try.prog W = .ok ((a == a') && (b.toList == b'.toList)) W := fun W => by
    rw [run_equalIn_struct W 9998 41 _ _ Try.fields41 Try.stood41]
    simp only [Program.fieldsOf, Try.underlying41]
    cases h1 : (a == a') <;> cases h2 : (b.toList == b'.toList) <;> simp [Op.eqFields, go_sem, h1, h2, Try.underlying3, Try.underlying9]
  simp only [Program.fieldsOf, Try.underlying73]
  cases h1 : (a == a') <;> cases h2 : (b.toList == b'.toList) <;> cases h3 : (c == c') <;> simp [Op.eqFields, go_sem, h41, h1, h2, h3, Try.underlying3]

end Go.Proofs.Ytefplfcfoapnjaa
