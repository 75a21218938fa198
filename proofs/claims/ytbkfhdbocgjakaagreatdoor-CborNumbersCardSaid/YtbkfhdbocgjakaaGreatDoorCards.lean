/-
  DERIVED. GIVEN WITH THE SEED: THE CARDS: each row of YtbkfhdbocgjakaaGreatDoorRows.lean that lists a variable, with what it lists TIED to the program's text (the seventh form; the later family's looks); each row that meets fmt, with fmt's text TOLD by the authors' own Lean function (tested against real Go, not proved from fmt's source: count such statements apart). THE CARD IS WHAT COUNTS. Prove the row's statement (the work); the ties are given (YtbkfhdbocgjakaaGreatDoorTie.lean); close each card by the builder's one call (the guide's Derived/Test/ToyasCard.lean, 'card_holds'). Laid BY PROGRAM, IN A SANDBOX (cutbox-door.mjs). By AI agents, Wed Nov 11 2026. No macro, syntax, notation, axiom, sorry.
-/
import Derived.Test.YtbkfhdbocgjakaaGreatDoorRows
import GoSem.ClaimSeven
namespace Go.Proofs.YtbkfhdbocgjakaaGreatDoor
namespace Rows

/-- THE TIED CARD OF 'erratumlaw10.CborBack'. -/
def cborBackCard : Claim7 := { stood := { row := cborBackRow, standIns := [], harness := (true, "4cf8b5ca9cb4ad3b2c3b789f75a8f3aedec4afbef34b527450288a52491c5e20"), looks := true }, kinds := [], alts := [], laidByText := true, laidKinds := [.data, .data, .pinned], laidTests := true, laidLooks := .later }
def CborBackCardSaid : Prop := Claim7.holds Tryz.pinned (.plain (OpenSpec.ofChange cborBackSpec)) cborBackCard

/-- THE TIED CARD OF 'erratumlaw10.CborNumbers'. -/
def cborNumbersCard : Claim7 := { stood := { row := cborNumbersRow, standIns := [], harness := (true, "4cf8b5ca9cb4ad3b2c3b789f75a8f3aedec4afbef34b527450288a52491c5e20"), looks := true }, kinds := [], alts := [], laidByText := true, laidKinds := [.data, .data, .pinned], laidTests := true, laidLooks := .later }
def CborNumbersCardSaid : Prop := Claim7.holds Tryz.pinned (.plain (OpenSpec.ofChange cborNumbersSpec)) cborNumbersCard

/-- THE TIED CARD OF 'erratumlaw10.CborOpen'. -/
def cborOpenCard : Claim7 := { stood := { row := cborOpenRow, standIns := [], harness := (true, "4cf8b5ca9cb4ad3b2c3b789f75a8f3aedec4afbef34b527450288a52491c5e20"), looks := true }, kinds := [], alts := [], laidByText := true, laidKinds := [.data, .data, .pinned], laidTests := true, laidLooks := .later }
def CborOpenCardSaid : Prop := Claim7.holds Tryz.pinned (.plain (OpenSpec.ofChange cborOpenSpec)) cborOpenCard

/-- THE TIED CARD OF 'erratumlaw10.CborRefused'. -/
def cborRefusedCard : Claim7 := { stood := { row := cborRefusedRow, standIns := [], harness := (true, "4cf8b5ca9cb4ad3b2c3b789f75a8f3aedec4afbef34b527450288a52491c5e20"), looks := true }, kinds := [], alts := [], laidByText := true, laidKinds := [.data, .data, .pinned], laidTests := true, laidLooks := .later }
def CborRefusedCardSaid : Prop := Claim7.holds Tryz.pinned (.plain (OpenSpec.ofChange cborRefusedSpec)) cborRefusedCard

/-- THE TIED CARD OF 'erratumlaw10.CborBroken'. -/
def cborBrokenCard : Claim7 := { stood := { row := cborBrokenRow, standIns := [], harness := (true, "4cf8b5ca9cb4ad3b2c3b789f75a8f3aedec4afbef34b527450288a52491c5e20"), looks := true }, kinds := [], alts := [], laidByText := true, laidKinds := [.data, .data, .pinned], laidTests := true, laidLooks := .later }
def CborBrokenCardSaid : Prop := Claim7.holds Tryz.pinned (.plain (OpenSpec.ofChange cborBrokenSpec)) cborBrokenCard

/-- THE TIED CARD OF 'erratumlaw10.CborOrder'. -/
def cborOrderCard : Claim7 := { stood := { row := cborOrderRow, standIns := [], harness := (true, "4cf8b5ca9cb4ad3b2c3b789f75a8f3aedec4afbef34b527450288a52491c5e20"), looks := true }, kinds := [], alts := [], laidByText := true, laidKinds := [.data, .data, .pinned], laidTests := true, laidLooks := .later }
def CborOrderCardSaid : Prop := Claim7.holds Tryz.pinned (.plain (OpenSpec.ofChange cborOrderSpec)) cborOrderCard

/-- THE SECOND FORM's CARD OF 'erratumlaw10.CborBack'. -/
def cborBackUptoCard : Claim7 := { stood := { row := cborBackUptoRow, standIns := [], harness := (true, "4cf8b5ca9cb4ad3b2c3b789f75a8f3aedec4afbef34b527450288a52491c5e20"), looks := true }, kinds := [], alts := [], laidByText := true, laidKinds := [.data, .data, .pinned], laidTests := true, laidLooks := .later }
def CborBackUptoCardSaid : Prop := Claim7.holds Tryz.pinned (.plain (OpenSpec.upto cborBackSpec)) cborBackUptoCard

/-- THE SECOND FORM's CARD OF 'erratumlaw10.CborNumbers'. -/
def cborNumbersUptoCard : Claim7 := { stood := { row := cborNumbersUptoRow, standIns := [], harness := (true, "4cf8b5ca9cb4ad3b2c3b789f75a8f3aedec4afbef34b527450288a52491c5e20"), looks := true }, kinds := [], alts := [], laidByText := true, laidKinds := [.data, .data, .pinned], laidTests := true, laidLooks := .later }
def CborNumbersUptoCardSaid : Prop := Claim7.holds Tryz.pinned (.plain (OpenSpec.upto cborNumbersSpec)) cborNumbersUptoCard

/-- THE SECOND FORM's CARD OF 'erratumlaw10.CborOpen'. -/
def cborOpenUptoCard : Claim7 := { stood := { row := cborOpenUptoRow, standIns := [], harness := (true, "4cf8b5ca9cb4ad3b2c3b789f75a8f3aedec4afbef34b527450288a52491c5e20"), looks := true }, kinds := [], alts := [], laidByText := true, laidKinds := [.data, .data, .pinned], laidTests := true, laidLooks := .later }
def CborOpenUptoCardSaid : Prop := Claim7.holds Tryz.pinned (.plain (OpenSpec.upto cborOpenSpec)) cborOpenUptoCard

/-- THE SECOND FORM's CARD OF 'erratumlaw10.CborRefused'. -/
def cborRefusedUptoCard : Claim7 := { stood := { row := cborRefusedUptoRow, standIns := [], harness := (true, "4cf8b5ca9cb4ad3b2c3b789f75a8f3aedec4afbef34b527450288a52491c5e20"), looks := true }, kinds := [], alts := [], laidByText := true, laidKinds := [.data, .data, .pinned], laidTests := true, laidLooks := .later }
def CborRefusedUptoCardSaid : Prop := Claim7.holds Tryz.pinned (.plain (OpenSpec.upto cborRefusedSpec)) cborRefusedUptoCard

/-- THE SECOND FORM's CARD OF 'erratumlaw10.CborBroken'. -/
def cborBrokenUptoCard : Claim7 := { stood := { row := cborBrokenUptoRow, standIns := [], harness := (true, "4cf8b5ca9cb4ad3b2c3b789f75a8f3aedec4afbef34b527450288a52491c5e20"), looks := true }, kinds := [], alts := [], laidByText := true, laidKinds := [.data, .data, .pinned], laidTests := true, laidLooks := .later }
def CborBrokenUptoCardSaid : Prop := Claim7.holds Tryz.pinned (.plain (OpenSpec.upto cborBrokenSpec)) cborBrokenUptoCard

/-- THE SECOND FORM's CARD OF 'erratumlaw10.CborOrder'. -/
def cborOrderUptoCard : Claim7 := { stood := { row := cborOrderUptoRow, standIns := [], harness := (true, "4cf8b5ca9cb4ad3b2c3b789f75a8f3aedec4afbef34b527450288a52491c5e20"), looks := true }, kinds := [], alts := [], laidByText := true, laidKinds := [.data, .data, .pinned], laidTests := true, laidLooks := .later }
def CborOrderUptoCardSaid : Prop := Claim7.holds Tryz.pinned (.plain (OpenSpec.upto cborOrderSpec)) cborOrderUptoCard
end Rows
end Go.Proofs.YtbkfhdbocgjakaaGreatDoor
