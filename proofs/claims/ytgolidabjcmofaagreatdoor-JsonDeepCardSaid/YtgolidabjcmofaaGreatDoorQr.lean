/- Texts of the claim. -/
import Derived.Test.YtgolidabjcmofaaGreatDoorQq
import Derived.Laws.CopyOwn
namespace Go.Proofs.YtgolidabjcmofaaGreatDoor
open Go.RowKit Go.Shelf
set_option linter.unusedVariables false
set_option linter.unusedSimpArgs false
end Go.Proofs.YtgolidabjcmofaaGreatDoor
namespace Go.Proofs.YtgolidabjcmofaaGreatDoor
open Go.RowKit Go.Shelf
set_option linter.unusedVariables false
set_option linter.unusedSimpArgs false
theorem cells_len (c : Cel) : c.cells.length = 8 := rfl
end Go.Proofs.YtgolidabjcmofaaGreatDoor
