/- Texts of the claim. -/
import Derived.Test.YtnacbakcalcgaaaGreatDoorHj
set_option linter.unusedVariables false
set_option linter.unusedSimpArgs false
set_option maxHeartbeats 200000
set_option maxRecDepth 100000
namespace Go.Proofs.YtnacbakcalcgaaaGreatDoor
open Go.RowKit Go.Shelf
def ViaQ (R:Act→World→Prop) (e:Exit) (a:Act) (w:World):Prop:=match e with | .normal=>R a w | _=>False
theorem wp_norm {P:Program} {C:Code} {Q:Exit→Act→World→Prop} {a:Act} {w:World} (h:∀ J:Act→World→Prop,(∀ a' w',Q .normal a' w'→J a' w')→C.wp P (ViaQ J) a w):C.wp P Q a w :=
  Code.wp_mono (fun e a' w' hr=>by cases e <;> first | exact hr | exact absurd hr id) (h (fun a w=>Q .normal a w) (fun _ _ h=>h))
theorem wp_first {P:Program} {C:Code} {K':Act→World→Prop} {Q':Exit→Act→World→Prop} {a:Act} {w:World} (J:Act→World→Prop) (hK:∀ a' w',Met J a' w'→K' a' w') (h:C.wp P (ViaQ J) a w):C.wp P (Exit.then K' Q') a w :=
  Code.wp_mono (fun e a' w' hr=>by cases e <;> first | exact hK a' w' hr | exact absurd hr id) h
end Go.Proofs.YtnacbakcalcgaaaGreatDoor
