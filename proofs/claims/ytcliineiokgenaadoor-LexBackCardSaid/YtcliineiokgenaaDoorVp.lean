/- Whether two tokens are one, as the program asks. Conditions: none. -/
import Derived.Test.YtcliineiokgenaaDoorVo
namespace Go.Proofs.YtcliineiokgenaaDoor
open Go.RowKit
set_option linter.unusedSimpArgs false
set_option linter.unusedVariables false

theorem stood31 : Tryd.prog.stoodInHeld 31 = false := by kernel_rfl
theorem under31 : Tryd.prog.underlying 31 = some (.struct (Tryd.prog.fieldsOf 31)) := by simp only [Program.fieldsOf, Tryd.underlying31]
theorem guard31 : Tryd.prog.eqGuardType Tryd.prog.depth 31 = false := by kernel_rfl
theorem stood30 : Tryd.prog.stoodInHeld 30 = false := by kernel_rfl
theorem under30 : Tryd.prog.underlying 30 = some (.struct (Tryd.prog.fieldsOf 30)) := by simp only [Program.fieldsOf, Tryd.underlying30]
theorem guard30 : Tryd.prog.eqGuardType Tryd.prog.depth 30 = false := by kernel_rfl
theorem run_same31 (k n a : Int) (x : ByteArray) (w : World) : (binOp .neq 31 (.agg #[.int .i64 k, .string x, .int .i64 n, .int .i64 a]) (.agg #[.int .i64 k, .string x, .int .i64 n, .int .i64 a])).run Tryd.prog w = .ok (.bool false) w := by
  rw [run_neq_struct, run_equalIn_agg w 9999 31 _ _ under31 stood31]
  simp [go_sem, Tryd.underlying31]
theorem run_same30 (k n a : Int) (x : ByteArray) (w : World) : (binOp .neq 30 (.agg #[.int .i64 k, .string x, .int .i64 n, .int .i64 a]) (.agg #[.int .i64 k, .string x, .int .i64 n, .int .i64 a])).run Tryd.prog w = .ok (.bool false) w := by
  rw [run_neq_struct, run_equalIn_agg w 9999 30 _ _ under30 stood30]
  simp [go_sem, Tryd.underlying30]
end Go.Proofs.YtcliineiokgenaaDoor
