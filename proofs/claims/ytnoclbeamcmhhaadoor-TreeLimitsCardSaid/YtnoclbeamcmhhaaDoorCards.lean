/-
  DERIVED. GIVEN WITH THE SEED: THE CARDS: each row of YtnoclbeamcmhhaaDoorRows.lean that lists a variable, with what it lists TIED to the program's text (the seventh form; the later family's looks); each row that meets fmt, with fmt's text TOLD by the authors' own Lean function (tested against real Go, not proved from fmt's source: count such statements apart). THE CARD IS WHAT COUNTS. Prove the row's statement (the work); the ties are given (YtnoclbeamcmhhaaDoorTie.lean); close each card by the builder's one call (the guide's Derived/Test/ToyasCard.lean, 'card_holds'). Laid BY PROGRAM, IN A SANDBOX (cutbox-door.mjs). By AI agents, Wed Nov 11 2026. No macro, syntax, notation, axiom, sorry.
-/
import Derived.Test.YtnoclbeamcmhhaaDoorRows
import GoSem.ClaimSeven
namespace Go.Proofs.YtnoclbeamcmhhaaDoor
namespace Rows

/-- THE TIED CARD OF 'erratumlaw05.TreeSets'. -/
def treeSetsCard : Claim7 := { stood := { row := treeSetsRow, standIns := [], harness := (true, "5323c95d217a5e33b6782826e4da7195aefed607bdfc2f21709697118579fe5f"), looks := true }, kinds := [], alts := [], laidByText := true, laidKinds := [.data, .pinned], laidTests := true, laidLooks := .later }
def TreeSetsCardSaid : Prop := Claim7.holds Tryd.pinned (.plain (OpenSpec.ofChange treeSetsSpec)) treeSetsCard

/-- THE TIED CARD OF 'erratumlaw05.TreeLimits'. -/
def treeLimitsCard : Claim7 := { stood := { row := treeLimitsRow, standIns := [], harness := (true, "5323c95d217a5e33b6782826e4da7195aefed607bdfc2f21709697118579fe5f"), looks := true }, kinds := [], alts := [], laidByText := true, laidKinds := [.data, .pinned], laidTests := true, laidLooks := .later }
def TreeLimitsCardSaid : Prop := Claim7.holds Tryd.pinned (.plain (OpenSpec.ofChange treeLimitsSpec)) treeLimitsCard

/-- THE TIED CARD OF 'erratumlaw05.TreeFields'. -/
def treeFieldsCard : Claim7 := { stood := { row := treeFieldsRow, standIns := [], harness := (true, "5323c95d217a5e33b6782826e4da7195aefed607bdfc2f21709697118579fe5f"), looks := true }, kinds := [], alts := [], laidByText := true, laidKinds := [.data, .pinned], laidTests := true, laidLooks := .later }
def TreeFieldsCardSaid : Prop := Claim7.holds Tryd.pinned (.plain (OpenSpec.ofChange treeFieldsSpec)) treeFieldsCard

/-- THE TIED CARD OF 'erratumlaw05.TreeSame'. -/
def treeSameCard : Claim7 := { stood := { row := treeSameRow, standIns := [], harness := (true, "5323c95d217a5e33b6782826e4da7195aefed607bdfc2f21709697118579fe5f"), looks := true }, kinds := [], alts := [], laidByText := true, laidKinds := [.data, .pinned], laidTests := true, laidLooks := .later }
def TreeSameCardSaid : Prop := Claim7.holds Tryd.pinned (.plain (OpenSpec.ofChange treeSameSpec)) treeSameCard

/-- THE TIED CARD OF 'erratumlaw07.JstrAll'. -/
def jstrAllCard : Claim7 := { stood := { row := jstrAllRow, standIns := [], harness := (true, "5323c95d217a5e33b6782826e4da7195aefed607bdfc2f21709697118579fe5f"), looks := true }, kinds := [], alts := [], laidByText := true, laidKinds := [.data, .pinned], laidTests := true, laidLooks := .later }
def JstrAllCardSaid : Prop := Claim7.holds Tryd.pinned (.plain (OpenSpec.ofChange jstrAllSpec)) jstrAllCard

/-- THE TIED CARD OF 'erratumlaw07.JstrBack'. -/
def jstrBackCard : Claim7 := { stood := { row := jstrBackRow, standIns := [], harness := (true, "5323c95d217a5e33b6782826e4da7195aefed607bdfc2f21709697118579fe5f"), looks := true }, kinds := [], alts := [], laidByText := true, laidKinds := [.data, .pinned], laidTests := true, laidLooks := .later }
def JstrBackCardSaid : Prop := Claim7.holds Tryd.pinned (.plain (OpenSpec.ofChange jstrBackSpec)) jstrBackCard

/-- THE TIED CARD OF 'erratumlaw07.JstrRunes'. -/
def jstrRunesCard : Claim7 := { stood := { row := jstrRunesRow, standIns := [], harness := (true, "5323c95d217a5e33b6782826e4da7195aefed607bdfc2f21709697118579fe5f"), looks := true }, kinds := [], alts := [], laidByText := true, laidKinds := [.data, .pinned], laidTests := true, laidLooks := .later }
def JstrRunesCardSaid : Prop := Claim7.holds Tryd.pinned (.plain (OpenSpec.ofChange jstrRunesSpec)) jstrRunesCard

/-- THE SECOND FORM's CARD OF 'erratumlaw05.TreeSets'. -/
def treeSetsUptoCard : Claim7 := { stood := { row := treeSetsUptoRow, standIns := [], harness := (true, "5323c95d217a5e33b6782826e4da7195aefed607bdfc2f21709697118579fe5f"), looks := true }, kinds := [], alts := [], laidByText := true, laidKinds := [.data, .pinned], laidTests := true, laidLooks := .later }
def TreeSetsUptoCardSaid : Prop := Claim7.holds Tryd.pinned (.plain (OpenSpec.upto treeSetsSpec)) treeSetsUptoCard

/-- THE SECOND FORM's CARD OF 'erratumlaw05.TreeLimits'. -/
def treeLimitsUptoCard : Claim7 := { stood := { row := treeLimitsUptoRow, standIns := [], harness := (true, "5323c95d217a5e33b6782826e4da7195aefed607bdfc2f21709697118579fe5f"), looks := true }, kinds := [], alts := [], laidByText := true, laidKinds := [.data, .pinned], laidTests := true, laidLooks := .later }
def TreeLimitsUptoCardSaid : Prop := Claim7.holds Tryd.pinned (.plain (OpenSpec.upto treeLimitsSpec)) treeLimitsUptoCard

/-- THE SECOND FORM's CARD OF 'erratumlaw05.TreeFields'. -/
def treeFieldsUptoCard : Claim7 := { stood := { row := treeFieldsUptoRow, standIns := [], harness := (true, "5323c95d217a5e33b6782826e4da7195aefed607bdfc2f21709697118579fe5f"), looks := true }, kinds := [], alts := [], laidByText := true, laidKinds := [.data, .pinned], laidTests := true, laidLooks := .later }
def TreeFieldsUptoCardSaid : Prop := Claim7.holds Tryd.pinned (.plain (OpenSpec.upto treeFieldsSpec)) treeFieldsUptoCard

/-- THE SECOND FORM's CARD OF 'erratumlaw05.TreeSame'. -/
def treeSameUptoCard : Claim7 := { stood := { row := treeSameUptoRow, standIns := [], harness := (true, "5323c95d217a5e33b6782826e4da7195aefed607bdfc2f21709697118579fe5f"), looks := true }, kinds := [], alts := [], laidByText := true, laidKinds := [.data, .pinned], laidTests := true, laidLooks := .later }
def TreeSameUptoCardSaid : Prop := Claim7.holds Tryd.pinned (.plain (OpenSpec.upto treeSameSpec)) treeSameUptoCard

/-- THE SECOND FORM's CARD OF 'erratumlaw07.JstrAll'. -/
def jstrAllUptoCard : Claim7 := { stood := { row := jstrAllUptoRow, standIns := [], harness := (true, "5323c95d217a5e33b6782826e4da7195aefed607bdfc2f21709697118579fe5f"), looks := true }, kinds := [], alts := [], laidByText := true, laidKinds := [.data, .pinned], laidTests := true, laidLooks := .later }
def JstrAllUptoCardSaid : Prop := Claim7.holds Tryd.pinned (.plain (OpenSpec.upto jstrAllSpec)) jstrAllUptoCard

/-- THE SECOND FORM's CARD OF 'erratumlaw07.JstrBack'. -/
def jstrBackUptoCard : Claim7 := { stood := { row := jstrBackUptoRow, standIns := [], harness := (true, "5323c95d217a5e33b6782826e4da7195aefed607bdfc2f21709697118579fe5f"), looks := true }, kinds := [], alts := [], laidByText := true, laidKinds := [.data, .pinned], laidTests := true, laidLooks := .later }
def JstrBackUptoCardSaid : Prop := Claim7.holds Tryd.pinned (.plain (OpenSpec.upto jstrBackSpec)) jstrBackUptoCard

/-- THE SECOND FORM's CARD OF 'erratumlaw07.JstrRunes'. -/
def jstrRunesUptoCard : Claim7 := { stood := { row := jstrRunesUptoRow, standIns := [], harness := (true, "5323c95d217a5e33b6782826e4da7195aefed607bdfc2f21709697118579fe5f"), looks := true }, kinds := [], alts := [], laidByText := true, laidKinds := [.data, .pinned], laidTests := true, laidLooks := .later }
def JstrRunesUptoCardSaid : Prop := Claim7.holds Tryd.pinned (.plain (OpenSpec.upto jstrRunesSpec)) jstrRunesUptoCard
end Rows
end Go.Proofs.YtnoclbeamcmhhaaDoor
