/- The walk of the law IeeeSigns. -/
import Derived.Test.YtnncokgdmdbidaaDoorFs
namespace Go.Proofs.YtnncokgdmdbidaaDoor
open Go.RowKit Go.Sort
set_option linter.unusedVariables false
set_option linter.unusedSimpArgs false

theorem at3_0 (a0 a1 a2 : Value) (w : World) : Sem.run Tryd.prog (Instr.index 56 (.agg #[a0, a1, a2]) (.int .i64 0)) w = Result.ok a0 w := by kernel_rfl
theorem at3_1 (a0 a1 a2 : Value) (w : World) : Sem.run Tryd.prog (Instr.index 56 (.agg #[a0, a1, a2]) (.int .i64 1)) w = Result.ok a1 w := by kernel_rfl
theorem at3_2 (a0 a1 a2 : Value) (w : World) : Sem.run Tryd.prog (Instr.index 56 (.agg #[a0, a1, a2]) (.int .i64 2)) w = Result.ok a2 w := by kernel_rfl
theorem xor_lt {x k : Nat} (hx : x < 18446744073709551616) (hk : k < 64) : x ^^^ 2 ^ k < 18446744073709551616 :=
  Nat.xor_lt_two_pow (n := 64) hx (Nat.pow_lt_pow_right (by decide) hk)

end Go.Proofs.YtnncokgdmdbidaaDoor
