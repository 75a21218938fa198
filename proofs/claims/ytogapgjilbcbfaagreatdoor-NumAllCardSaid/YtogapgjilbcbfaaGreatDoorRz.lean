/- The walks of the reference's Shift, Bits. -/
import Derived.Test.YtogapgjilbcbfaaGreatDoorRx
import Derived.Laws.BitsAllLaws
import Derived.IntWalk
namespace Go.Proofs.YtogapgjilbcbfaaGreatDoor
open Go.RowKit
set_option linter.unusedVariables false
set_option linter.unusedSimpArgs false

theorem or_small {z t r : Nat} (hz : z < 2 ^ r) (ht : t % 2 ^ r = 0) (hz2 : z < 4294967296) (ht2 : t < 4294967296) : bits .or .u32 (z : Int) (t : Int) = ((z + t : Nat) : Int) := by
  rw [u32_or_nat z t hz2 ht2, Nat.or_comm, nat_join r t z ht hz, Nat.add_comm]
theorem or_none {t : Nat} (ht2 : t < 4294967296) : bits .or .u32 0 (t : Int) = (t : Int) := by
  have := u32_or_nat 0 t (by omega) ht2
  simpa using this
def ShRel (G B : Nat) (xs : List Nat) (n : Nat) (w : World) (g : Nat) (i : Value) (wr : World) : Prop :=
  ∃ (j : Nat) (zs : List Nat), xs.length - j ≤ g ∧ j ≤ xs.length ∧ i = .int .i64 (j : Int) ∧ RHInv xs zs n j ∧ Blk wr G zs [] ∧ Below B w wr

end Go.Proofs.YtogapgjilbcbfaaGreatDoor
