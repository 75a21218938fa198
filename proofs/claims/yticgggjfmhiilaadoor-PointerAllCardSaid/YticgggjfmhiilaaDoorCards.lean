/-
  DERIVED. GIVEN WITH THE SEED: THE CARDS: each row of YticgggjfmhiilaaDoorRows.lean that lists a variable, with what it lists TIED to the program's text (the seventh form; the later family's looks); each row that meets fmt, with fmt's text TOLD by the authors' own Lean function (tested against real Go, not proved from fmt's source: count such statements apart). THE CARD IS WHAT COUNTS. Prove the row's statement (the work); the ties are given (YticgggjfmhiilaaDoorTie.lean); close each card by the builder's one call (the guide's Derived/Test/ToyasCard.lean, 'card_holds'). Laid BY PROGRAM, IN A SANDBOX (cutbox-door.mjs). By AI agents, Wed Nov 11 2026. No macro, syntax, notation, axiom, sorry.
-/
import Derived.Test.YticgggjfmhiilaaDoorRows
import GoSem.ClaimSeven
namespace Go.Proofs.YticgggjfmhiilaaDoor
namespace Rows

/-- THE TIED CARD OF 'erratumlaw14.PointerAll'. -/
def pointerAllCard : Claim7 := { stood := { row := pointerAllRow, standIns := [], harness := (true, "338392caf409fe028518684b8715fe60cf7f96073374af5a64d63e54d537c160"), looks := false }, kinds := [], alts := [], laidByText := true, laidKinds := [.data, .pinned], laidTests := true, laidLooks := .later }
def PointerAllCardSaid : Prop := Claim7.holds Tryd.pinned (.plain (OpenSpec.ofChange pointerAllSpec)) pointerAllCard

/-- THE TIED CARD OF 'erratumlaw14.PointerPuts'. -/
def pointerPutsCard : Claim7 := { stood := { row := pointerPutsRow, standIns := [], harness := (true, "338392caf409fe028518684b8715fe60cf7f96073374af5a64d63e54d537c160"), looks := false }, kinds := [], alts := [], laidByText := true, laidKinds := [.data, .pinned], laidTests := true, laidLooks := .later }
def PointerPutsCardSaid : Prop := Claim7.holds Tryd.pinned (.plain (OpenSpec.ofChange pointerPutsSpec)) pointerPutsCard

/-- THE TIED CARD OF 'erratumlaw15.OpsParts'. -/
def opsPartsCard : Claim7 := { stood := { row := opsPartsRow, standIns := [], harness := (true, "338392caf409fe028518684b8715fe60cf7f96073374af5a64d63e54d537c160"), looks := false }, kinds := [], alts := [], laidByText := true, laidKinds := [.data, .pinned], laidTests := true, laidLooks := .later }
def OpsPartsCardSaid : Prop := Claim7.holds Tryd.pinned (.plain (OpenSpec.ofChange opsPartsSpec)) opsPartsCard

/-- THE TIED CARD OF 'erratumlaw15.OpsUndoes'. -/
def opsUndoesCard : Claim7 := { stood := { row := opsUndoesRow, standIns := [], harness := (true, "338392caf409fe028518684b8715fe60cf7f96073374af5a64d63e54d537c160"), looks := false }, kinds := [], alts := [], laidByText := true, laidKinds := [.data, .pinned], laidTests := true, laidLooks := .later }
def OpsUndoesCardSaid : Prop := Claim7.holds Tryd.pinned (.plain (OpenSpec.ofChange opsUndoesSpec)) opsUndoesCard

/-- THE TIED CARD OF 'erratumlaw15.OpsArrays'. -/
def opsArraysCard : Claim7 := { stood := { row := opsArraysRow, standIns := [], harness := (true, "338392caf409fe028518684b8715fe60cf7f96073374af5a64d63e54d537c160"), looks := false }, kinds := [], alts := [], laidByText := true, laidKinds := [.data, .pinned], laidTests := true, laidLooks := .later }
def OpsArraysCardSaid : Prop := Claim7.holds Tryd.pinned (.plain (OpenSpec.ofChange opsArraysSpec)) opsArraysCard

/-- THE TIED CARD OF 'erratumlaw15.OpsFails'. -/
def opsFailsCard : Claim7 := { stood := { row := opsFailsRow, standIns := [], harness := (true, "338392caf409fe028518684b8715fe60cf7f96073374af5a64d63e54d537c160"), looks := false }, kinds := [], alts := [], laidByText := true, laidKinds := [.data, .pinned], laidTests := true, laidLooks := .later }
def OpsFailsCardSaid : Prop := Claim7.holds Tryd.pinned (.plain (OpenSpec.ofChange opsFailsSpec)) opsFailsCard

/-- THE TIED CARD OF 'erratumlaw15.OpsWeight'. -/
def opsWeightCard : Claim7 := { stood := { row := opsWeightRow, standIns := [], harness := (true, "338392caf409fe028518684b8715fe60cf7f96073374af5a64d63e54d537c160"), looks := false }, kinds := [], alts := [], laidByText := true, laidKinds := [.data, .pinned], laidTests := true, laidLooks := .later }
def OpsWeightCardSaid : Prop := Claim7.holds Tryd.pinned (.plain (OpenSpec.ofChange opsWeightSpec)) opsWeightCard

/-- THE SECOND FORM's CARD OF 'erratumlaw14.PointerAll'. -/
def pointerAllUptoCard : Claim7 := { stood := { row := pointerAllUptoRow, standIns := [], harness := (true, "338392caf409fe028518684b8715fe60cf7f96073374af5a64d63e54d537c160"), looks := false }, kinds := [], alts := [], laidByText := true, laidKinds := [.data, .pinned], laidTests := true, laidLooks := .later }
def PointerAllUptoCardSaid : Prop := Claim7.holds Tryd.pinned (.plain (OpenSpec.upto pointerAllSpec)) pointerAllUptoCard

/-- THE SECOND FORM's CARD OF 'erratumlaw14.PointerPuts'. -/
def pointerPutsUptoCard : Claim7 := { stood := { row := pointerPutsUptoRow, standIns := [], harness := (true, "338392caf409fe028518684b8715fe60cf7f96073374af5a64d63e54d537c160"), looks := false }, kinds := [], alts := [], laidByText := true, laidKinds := [.data, .pinned], laidTests := true, laidLooks := .later }
def PointerPutsUptoCardSaid : Prop := Claim7.holds Tryd.pinned (.plain (OpenSpec.upto pointerPutsSpec)) pointerPutsUptoCard

/-- THE SECOND FORM's CARD OF 'erratumlaw15.OpsParts'. -/
def opsPartsUptoCard : Claim7 := { stood := { row := opsPartsUptoRow, standIns := [], harness := (true, "338392caf409fe028518684b8715fe60cf7f96073374af5a64d63e54d537c160"), looks := false }, kinds := [], alts := [], laidByText := true, laidKinds := [.data, .pinned], laidTests := true, laidLooks := .later }
def OpsPartsUptoCardSaid : Prop := Claim7.holds Tryd.pinned (.plain (OpenSpec.upto opsPartsSpec)) opsPartsUptoCard

/-- THE SECOND FORM's CARD OF 'erratumlaw15.OpsUndoes'. -/
def opsUndoesUptoCard : Claim7 := { stood := { row := opsUndoesUptoRow, standIns := [], harness := (true, "338392caf409fe028518684b8715fe60cf7f96073374af5a64d63e54d537c160"), looks := false }, kinds := [], alts := [], laidByText := true, laidKinds := [.data, .pinned], laidTests := true, laidLooks := .later }
def OpsUndoesUptoCardSaid : Prop := Claim7.holds Tryd.pinned (.plain (OpenSpec.upto opsUndoesSpec)) opsUndoesUptoCard

/-- THE SECOND FORM's CARD OF 'erratumlaw15.OpsArrays'. -/
def opsArraysUptoCard : Claim7 := { stood := { row := opsArraysUptoRow, standIns := [], harness := (true, "338392caf409fe028518684b8715fe60cf7f96073374af5a64d63e54d537c160"), looks := false }, kinds := [], alts := [], laidByText := true, laidKinds := [.data, .pinned], laidTests := true, laidLooks := .later }
def OpsArraysUptoCardSaid : Prop := Claim7.holds Tryd.pinned (.plain (OpenSpec.upto opsArraysSpec)) opsArraysUptoCard

/-- THE SECOND FORM's CARD OF 'erratumlaw15.OpsFails'. -/
def opsFailsUptoCard : Claim7 := { stood := { row := opsFailsUptoRow, standIns := [], harness := (true, "338392caf409fe028518684b8715fe60cf7f96073374af5a64d63e54d537c160"), looks := false }, kinds := [], alts := [], laidByText := true, laidKinds := [.data, .pinned], laidTests := true, laidLooks := .later }
def OpsFailsUptoCardSaid : Prop := Claim7.holds Tryd.pinned (.plain (OpenSpec.upto opsFailsSpec)) opsFailsUptoCard

/-- THE SECOND FORM's CARD OF 'erratumlaw15.OpsWeight'. -/
def opsWeightUptoCard : Claim7 := { stood := { row := opsWeightUptoRow, standIns := [], harness := (true, "338392caf409fe028518684b8715fe60cf7f96073374af5a64d63e54d537c160"), looks := false }, kinds := [], alts := [], laidByText := true, laidKinds := [.data, .pinned], laidTests := true, laidLooks := .later }
def OpsWeightUptoCardSaid : Prop := Claim7.holds Tryd.pinned (.plain (OpenSpec.upto opsWeightSpec)) opsWeightUptoCard
end Rows
end Go.Proofs.YticgggjfmhiilaaDoor
