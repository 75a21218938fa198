/- Nothing of the shelf is wanted here: its names alone. -/
import Derived.Test.YtndjdmgncjiggaaProg
import Derived.Shelf.RegionOpen
import Derived.Shelf.Unicode.DecodeSlow
namespace Go.Proofs.Ytndjdmgncjiggaa
end Go.Proofs.Ytndjdmgncjiggaa
