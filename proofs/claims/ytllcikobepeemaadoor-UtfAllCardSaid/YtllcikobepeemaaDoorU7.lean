/- The walks of layer 4's laws: awake. -/
import Derived.Test.YtllcikobepeemaaDoorU6
namespace Go.Proofs.YtllcikobepeemaaDoor
open Go.RowKit Go.Shelf
set_option linter.unusedVariables false
set_option linter.unusedSimpArgs false

/-- A Boolean, and nothing that was there has turned. -/
def BoolBelow (b : Bool) (w : World) (e : Ending) (w' : World) : Prop := e = .returned (.bool b) ∧ Below w.heap.size w w'
theorem BoolBelow.mk {b : Bool} {w w' : World} {e : Ending} (he : e = .returned (.bool b)) (h : Below w.heap.size w w') : BoolBelow b w e w' := ⟨he, h⟩
theorem below_on {w w1 w2 : World} (h : Below w.heap.size w w1) (k : Below w1.heap.size w1 w2) : Below w.heap.size w w2 := h.trans (k.mono h.size)

theorem awake_rune : runeAt ⟨#[226, 130, 172]⟩ 0 = (8364, 3) := by decide +kernel
theorem awake_valid : validL (⟨#[97]⟩ : ByteArray).data.toList = true := by decide +kernel
theorem awake_wrong : validL (⟨#[255]⟩ : ByteArray).data.toList = false := by decide +kernel

set_option maxHeartbeats 1000000 in
set_option maxRecDepth 10000 in
theorem awake_any (w : World) (hT : UT w) : Calls Tryd.prog 7 #[] w (BoolBelow true w) := by
  have KR := Lib.hid (uRune_any ⟨#[226, 130, 172]⟩ 0 w (by decide) (by decide) hT)
  rw [awake_rune] at KR
  have KV := Lib.hid (fun W (h : Below w.heap.size w W) => valid_any ⟨#[97]⟩ W (by decide) (hT.below h))
  rw [awake_valid] at KV
  have KX := Lib.hid (fun W (h : Below w.heap.size w W) => valid_any ⟨#[255]⟩ W (by decide) (hT.below h))
  rw [awake_wrong] at KX
  clear hT
  go_enter Tryd.func7, Tryd.ntmps7
  go_wp2_with fail
  refine KR.out.mono ?_
  rintro r w1 ⟨rfl, hb1⟩
  have B1 := Lib.hid hb1; clear hb1
  go_wp2_with fail
  refine (KV.out _ B1.out).mono ?_
  rintro r w2 ⟨rfl, hb2⟩
  have B2 := Lib.hid (below_on B1.out hb2); clear hb2
  go_wp2_with fail
  refine (KX.out _ B2.out).mono ?_
  rintro r w3 ⟨rfl, hb3⟩
  have B3 := Lib.hid (below_on B2.out hb3); clear hb3
  go_wp2
  go_ret
  exact BoolBelow.mk rfl B3.out
end Go.Proofs.YtllcikobepeemaaDoor
