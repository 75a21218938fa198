/- The walks of layer 4's laws: awake. -/
import Derived.Test.YtnoclbeamcmhhaaDoorU6
namespace Go.Proofs.YtnoclbeamcmhhaaDoor
open Go.RowKit Go.Shelf
set_option linter.unusedVariables false
set_option linter.unusedSimpArgs false

/-- A Boolean, and nothing that was there has turned. -/
def BoolBelow (b : Bool) (w : World) (e : Ending) (w' : World) : Prop := e = .returned (.bool b) ∧ Below w.heap.size w w'
theorem BoolBelow.mk {b : Bool} {w w' : World} {e : Ending} (he : e = .returned (.bool b)) (h : Below w.heap.size w w') : BoolBelow b w e w' := ⟨he, h⟩
theorem below_on {w w1 w2 : World} (h : Below w.heap.size w w1) (k : Below w1.heap.size w1 w2) : Below w.heap.size w w2 := h.trans (k.mono h.size)

theorem awake_rune : runeAt ⟨#[226, 130, 172]⟩ 0 = (8364, 3) := by decide +kernel
theorem awake_valid : validL (⟨#[97]⟩ : ByteArray).data.toList = true := by decide +kernel
theorem awake_wrong : validL (⟨#[255]⟩ : ByteArray).data.toList = false := by decide +kernel

end Go.Proofs.YtnoclbeamcmhhaaDoor
