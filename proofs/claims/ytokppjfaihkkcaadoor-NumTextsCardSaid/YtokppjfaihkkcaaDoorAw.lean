/- The walks of layer 1's own awake and few. -/
import Derived.Test.YtokppjfaihkkcaaDoorB1
namespace Go.Proofs.YtokppjfaihkkcaaDoor
open Go.RowKit
set_option linter.unusedVariables false
set_option linter.unusedSimpArgs false
section
variable {w0 w : World} {l : List Ent} {v1 v2 : Value} {L1 L2 N1 N2 : Nat} {xs ys : List Nat}
end
end Go.Proofs.YtokppjfaihkkcaaDoor
