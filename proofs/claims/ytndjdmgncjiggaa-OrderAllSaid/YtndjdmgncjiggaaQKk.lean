/- The walk of tree's Set: a member that is not there. -/
import Derived.Test.YtndjdmgncjiggaaQk
namespace Go.Proofs.Ytndjdmgncjiggaa
open Go.RowKit Go.Shelf
set_option linter.unusedVariables false
set_option linter.unusedSimpArgs false

end Go.Proofs.Ytndjdmgncjiggaa
