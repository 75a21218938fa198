/- The walk of the law IeeeBack. -/
import Derived.Test.YtnncokgdmdbidaaDoorFbx
import Derived.Test.YtnncokgdmdbidaaDoorFby
import Derived.Test.YtnncokgdmdbidaaDoorFbz
namespace Go.Proofs.YtnncokgdmdbidaaDoor
open Go.RowKit Go.Sort
set_option linter.unusedVariables false
set_option linter.unusedSimpArgs false

theorem ieeeBack_walk (v : Int) (x : Nat) (w : World) (hv : -9223372036854775808 ≤ v ∧ v ≤ 9223372036854775807) (hx : x < 18446744073709551616) (hD : DB w) :
    Calls Tryd.prog 6 #[.int .i64 v, .int .u64 (x : Int)] w (BoolBelow true w) := by
  have h : v % 3 = 0 ∨ v % 3 = 1 ∨ v % 3 = 2 := by omega
  rcases h with h | h | h
  · exact back_16 v x w hv hx hD h
  · exact back_32 v x w hv hx hD h
  · exact back_64 v x w hv hx hD h
end Go.Proofs.YtnncokgdmdbidaaDoor
