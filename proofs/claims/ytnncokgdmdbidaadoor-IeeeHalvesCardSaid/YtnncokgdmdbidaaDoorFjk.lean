/- The walk of the law IeeeHalves. -/
import Derived.Test.YtnncokgdmdbidaaDoorFjc
namespace Go.Proofs.YtnncokgdmdbidaaDoor
open Go.RowKit Go.Sort
set_option linter.unusedVariables false

theorem ieeeHalves_walk (v k u : Int) (neg : Bool) (w : World) (hv : -9223372036854775808 ≤ v ∧ v ≤ 9223372036854775807) (hk : -9223372036854775808 ≤ k ∧ k ≤ 9223372036854775807) (hu : -9223372036854775808 ≤ u ∧ u ≤ 9223372036854775807) (hD : DB w) :
    Calls Tryd.prog 10 #[.int .i64 v, .int .i64 k, .int .i64 u, .bool neg] w (BoolBelow true w) := by
  have h3 : u % 3 = 0 ∨ u % 3 = 1 ∨ u % 3 = 2 := by omega
  rcases h3 with h | h | h
  · exact halves_16 v k u neg w hv hk hu hD h
  · exact halves_32 v k u neg w hv hk hu hD h
  · exact halves_64 v k u neg w hv hk hu hD h
end Go.Proofs.YtnncokgdmdbidaaDoor
