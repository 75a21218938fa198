/-
  DERIVED. GIVEN WITH THE SEED: THE CARDS: each row of YtnacbakcalcgaaaGreatDoorRows.lean that lists a variable, with what it lists TIED to the program's text (the seventh form; the later family's looks); each row that meets fmt, with fmt's text TOLD by the authors' own Lean function (tested against real Go, not proved from fmt's source: count such statements apart). THE CARD IS WHAT COUNTS. Prove the row's statement (the work); the ties are given (YtnacbakcalcgaaaGreatDoorTie.lean); close each card by the builder's one call (the guide's Derived/Test/ToyasCard.lean, 'card_holds'). Laid BY PROGRAM, IN A SANDBOX (cutbox-door.mjs). By AI agents, Wed Nov 11 2026. No macro, syntax, notation, axiom, sorry.
-/
import Derived.Test.YtnacbakcalcgaaaGreatDoorRows
import GoSem.ClaimSeven
namespace Go.Proofs.YtnacbakcalcgaaaGreatDoor
namespace Rows

/-- THE TIED CARD OF 'erratumlaw10.CborBack'. -/
def cborBackCard : Claim7 := { stood := { row := cborBackRow, standIns := [], harness := (true, "f1c450c028dcfad0b84b5f3c7ce46c81493f8cec020456acc42deb842fba98b3"), looks := true }, kinds := [], alts := [], laidByText := true, laidKinds := [.data, .data, .pinned], laidTests := true, laidLooks := .later }
def CborBackCardSaid : Prop := Claim7.holds Tryz.pinned (.plain (OpenSpec.ofChange cborBackSpec)) cborBackCard

/-- THE TIED CARD OF 'erratumlaw10.CborOpen'. -/
def cborOpenCard : Claim7 := { stood := { row := cborOpenRow, standIns := [], harness := (true, "f1c450c028dcfad0b84b5f3c7ce46c81493f8cec020456acc42deb842fba98b3"), looks := true }, kinds := [], alts := [], laidByText := true, laidKinds := [.data, .data, .pinned], laidTests := true, laidLooks := .later }
def CborOpenCardSaid : Prop := Claim7.holds Tryz.pinned (.plain (OpenSpec.ofChange cborOpenSpec)) cborOpenCard

/-- THE TIED CARD OF 'erratumlaw10.CborRefused'. -/
def cborRefusedCard : Claim7 := { stood := { row := cborRefusedRow, standIns := [], harness := (true, "f1c450c028dcfad0b84b5f3c7ce46c81493f8cec020456acc42deb842fba98b3"), looks := true }, kinds := [], alts := [], laidByText := true, laidKinds := [.data, .data, .pinned], laidTests := true, laidLooks := .later }
def CborRefusedCardSaid : Prop := Claim7.holds Tryz.pinned (.plain (OpenSpec.ofChange cborRefusedSpec)) cborRefusedCard

/-- THE TIED CARD OF 'erratumlaw10.CborBroken'. -/
def cborBrokenCard : Claim7 := { stood := { row := cborBrokenRow, standIns := [], harness := (true, "f1c450c028dcfad0b84b5f3c7ce46c81493f8cec020456acc42deb842fba98b3"), looks := true }, kinds := [], alts := [], laidByText := true, laidKinds := [.data, .data, .pinned], laidTests := true, laidLooks := .later }
def CborBrokenCardSaid : Prop := Claim7.holds Tryz.pinned (.plain (OpenSpec.ofChange cborBrokenSpec)) cborBrokenCard

/-- THE TIED CARD OF 'erratumlaw10.CborOrder'. -/
def cborOrderCard : Claim7 := { stood := { row := cborOrderRow, standIns := [], harness := (true, "f1c450c028dcfad0b84b5f3c7ce46c81493f8cec020456acc42deb842fba98b3"), looks := true }, kinds := [], alts := [], laidByText := true, laidKinds := [.data, .data, .pinned], laidTests := true, laidLooks := .later }
def CborOrderCardSaid : Prop := Claim7.holds Tryz.pinned (.plain (OpenSpec.ofChange cborOrderSpec)) cborOrderCard

/-- THE TIED CARD OF 'erratumlaw12.PackBack'. -/
def packBackCard : Claim7 := { stood := { row := packBackRow, standIns := [], harness := (true, "f1c450c028dcfad0b84b5f3c7ce46c81493f8cec020456acc42deb842fba98b3"), looks := true }, kinds := [], alts := [], laidByText := true, laidKinds := [.data, .data, .pinned], laidTests := true, laidLooks := .later }
def PackBackCardSaid : Prop := Claim7.holds Tryz.pinned (.plain (OpenSpec.ofChange packBackSpec)) packBackCard

/-- THE TIED CARD OF 'erratumlaw12.PackEdges'. -/
def packEdgesCard : Claim7 := { stood := { row := packEdgesRow, standIns := [], harness := (true, "f1c450c028dcfad0b84b5f3c7ce46c81493f8cec020456acc42deb842fba98b3"), looks := true }, kinds := [], alts := [], laidByText := true, laidKinds := [.data, .data, .pinned], laidTests := true, laidLooks := .later }
def PackEdgesCardSaid : Prop := Claim7.holds Tryz.pinned (.plain (OpenSpec.ofChange packEdgesSpec)) packEdgesCard

/-- THE TIED CARD OF 'erratumlaw12.PackForms'. -/
def packFormsCard : Claim7 := { stood := { row := packFormsRow, standIns := [], harness := (true, "f1c450c028dcfad0b84b5f3c7ce46c81493f8cec020456acc42deb842fba98b3"), looks := true }, kinds := [], alts := [], laidByText := true, laidKinds := [.data, .data, .pinned], laidTests := true, laidLooks := .later }
def PackFormsCardSaid : Prop := Claim7.holds Tryz.pinned (.plain (OpenSpec.ofChange packFormsSpec)) packFormsCard

/-- THE TIED CARD OF 'erratumlaw12.PackRefused'. -/
def packRefusedCard : Claim7 := { stood := { row := packRefusedRow, standIns := [], harness := (true, "f1c450c028dcfad0b84b5f3c7ce46c81493f8cec020456acc42deb842fba98b3"), looks := true }, kinds := [], alts := [], laidByText := true, laidKinds := [.data, .data, .pinned], laidTests := true, laidLooks := .later }
def PackRefusedCardSaid : Prop := Claim7.holds Tryz.pinned (.plain (OpenSpec.ofChange packRefusedSpec)) packRefusedCard

/-- THE TIED CARD OF 'erratumlaw12.PackOrder'. -/
def packOrderCard : Claim7 := { stood := { row := packOrderRow, standIns := [], harness := (true, "f1c450c028dcfad0b84b5f3c7ce46c81493f8cec020456acc42deb842fba98b3"), looks := true }, kinds := [], alts := [], laidByText := true, laidKinds := [.data, .data, .pinned], laidTests := true, laidLooks := .later }
def PackOrderCardSaid : Prop := Claim7.holds Tryz.pinned (.plain (OpenSpec.ofChange packOrderSpec)) packOrderCard

/-- THE SECOND FORM's CARD OF 'erratumlaw10.CborBack'. -/
def cborBackUptoCard : Claim7 := { stood := { row := cborBackUptoRow, standIns := [], harness := (true, "f1c450c028dcfad0b84b5f3c7ce46c81493f8cec020456acc42deb842fba98b3"), looks := true }, kinds := [], alts := [], laidByText := true, laidKinds := [.data, .data, .pinned], laidTests := true, laidLooks := .later }
def CborBackUptoCardSaid : Prop := Claim7.holds Tryz.pinned (.plain (OpenSpec.upto cborBackSpec)) cborBackUptoCard

/-- THE SECOND FORM's CARD OF 'erratumlaw10.CborOpen'. -/
def cborOpenUptoCard : Claim7 := { stood := { row := cborOpenUptoRow, standIns := [], harness := (true, "f1c450c028dcfad0b84b5f3c7ce46c81493f8cec020456acc42deb842fba98b3"), looks := true }, kinds := [], alts := [], laidByText := true, laidKinds := [.data, .data, .pinned], laidTests := true, laidLooks := .later }
def CborOpenUptoCardSaid : Prop := Claim7.holds Tryz.pinned (.plain (OpenSpec.upto cborOpenSpec)) cborOpenUptoCard

/-- THE SECOND FORM's CARD OF 'erratumlaw10.CborRefused'. -/
def cborRefusedUptoCard : Claim7 := { stood := { row := cborRefusedUptoRow, standIns := [], harness := (true, "f1c450c028dcfad0b84b5f3c7ce46c81493f8cec020456acc42deb842fba98b3"), looks := true }, kinds := [], alts := [], laidByText := true, laidKinds := [.data, .data, .pinned], laidTests := true, laidLooks := .later }
def CborRefusedUptoCardSaid : Prop := Claim7.holds Tryz.pinned (.plain (OpenSpec.upto cborRefusedSpec)) cborRefusedUptoCard

/-- THE SECOND FORM's CARD OF 'erratumlaw10.CborBroken'. -/
def cborBrokenUptoCard : Claim7 := { stood := { row := cborBrokenUptoRow, standIns := [], harness := (true, "f1c450c028dcfad0b84b5f3c7ce46c81493f8cec020456acc42deb842fba98b3"), looks := true }, kinds := [], alts := [], laidByText := true, laidKinds := [.data, .data, .pinned], laidTests := true, laidLooks := .later }
def CborBrokenUptoCardSaid : Prop := Claim7.holds Tryz.pinned (.plain (OpenSpec.upto cborBrokenSpec)) cborBrokenUptoCard

/-- THE SECOND FORM's CARD OF 'erratumlaw10.CborOrder'. -/
def cborOrderUptoCard : Claim7 := { stood := { row := cborOrderUptoRow, standIns := [], harness := (true, "f1c450c028dcfad0b84b5f3c7ce46c81493f8cec020456acc42deb842fba98b3"), looks := true }, kinds := [], alts := [], laidByText := true, laidKinds := [.data, .data, .pinned], laidTests := true, laidLooks := .later }
def CborOrderUptoCardSaid : Prop := Claim7.holds Tryz.pinned (.plain (OpenSpec.upto cborOrderSpec)) cborOrderUptoCard

/-- THE SECOND FORM's CARD OF 'erratumlaw12.PackBack'. -/
def packBackUptoCard : Claim7 := { stood := { row := packBackUptoRow, standIns := [], harness := (true, "f1c450c028dcfad0b84b5f3c7ce46c81493f8cec020456acc42deb842fba98b3"), looks := true }, kinds := [], alts := [], laidByText := true, laidKinds := [.data, .data, .pinned], laidTests := true, laidLooks := .later }
def PackBackUptoCardSaid : Prop := Claim7.holds Tryz.pinned (.plain (OpenSpec.upto packBackSpec)) packBackUptoCard

/-- THE SECOND FORM's CARD OF 'erratumlaw12.PackEdges'. -/
def packEdgesUptoCard : Claim7 := { stood := { row := packEdgesUptoRow, standIns := [], harness := (true, "f1c450c028dcfad0b84b5f3c7ce46c81493f8cec020456acc42deb842fba98b3"), looks := true }, kinds := [], alts := [], laidByText := true, laidKinds := [.data, .data, .pinned], laidTests := true, laidLooks := .later }
def PackEdgesUptoCardSaid : Prop := Claim7.holds Tryz.pinned (.plain (OpenSpec.upto packEdgesSpec)) packEdgesUptoCard

/-- THE SECOND FORM's CARD OF 'erratumlaw12.PackForms'. -/
def packFormsUptoCard : Claim7 := { stood := { row := packFormsUptoRow, standIns := [], harness := (true, "f1c450c028dcfad0b84b5f3c7ce46c81493f8cec020456acc42deb842fba98b3"), looks := true }, kinds := [], alts := [], laidByText := true, laidKinds := [.data, .data, .pinned], laidTests := true, laidLooks := .later }
def PackFormsUptoCardSaid : Prop := Claim7.holds Tryz.pinned (.plain (OpenSpec.upto packFormsSpec)) packFormsUptoCard

/-- THE SECOND FORM's CARD OF 'erratumlaw12.PackRefused'. -/
def packRefusedUptoCard : Claim7 := { stood := { row := packRefusedUptoRow, standIns := [], harness := (true, "f1c450c028dcfad0b84b5f3c7ce46c81493f8cec020456acc42deb842fba98b3"), looks := true }, kinds := [], alts := [], laidByText := true, laidKinds := [.data, .data, .pinned], laidTests := true, laidLooks := .later }
def PackRefusedUptoCardSaid : Prop := Claim7.holds Tryz.pinned (.plain (OpenSpec.upto packRefusedSpec)) packRefusedUptoCard

/-- THE SECOND FORM's CARD OF 'erratumlaw12.PackOrder'. -/
def packOrderUptoCard : Claim7 := { stood := { row := packOrderUptoRow, standIns := [], harness := (true, "f1c450c028dcfad0b84b5f3c7ce46c81493f8cec020456acc42deb842fba98b3"), looks := true }, kinds := [], alts := [], laidByText := true, laidKinds := [.data, .data, .pinned], laidTests := true, laidLooks := .later }
def PackOrderUptoCardSaid : Prop := Claim7.holds Tryz.pinned (.plain (OpenSpec.upto packOrderSpec)) packOrderUptoCard
end Rows
end Go.Proofs.YtnacbakcalcgaaaGreatDoor
