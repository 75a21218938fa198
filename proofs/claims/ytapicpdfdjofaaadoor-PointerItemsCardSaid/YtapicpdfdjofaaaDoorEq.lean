/- Texts of the claim. -/
import Derived.Test.YtapicpdfdjofaaaDoorEp
set_option linter.unusedVariables false
set_option linter.unusedSimpArgs false
set_option maxHeartbeats 200000
set_option maxRecDepth 100000
namespace Go.Proofs.YtapicpdfdjofaaaDoor
open Go.RowKit Go.Shelf
def SetPost (t v:MT) (s:ByteArray) (p q:Nat) (X:Nat→Prop) (w:World) (e:Ending) (w':World):Prop :=
  ∃ u:MT,e=.returned u.c.val∧(∃ ka kc va vc,u.c=objC7 ka u.k.length kc va u.k.length vc)∧u.m=[]∧u.k=put1 t.k p q s∧u.v=put1 t.v p q v∧Ind X w' (fun W=>Rep W u)∧Below w.heap.size w w'
end Go.Proofs.YtapicpdfdjofaaaDoor
