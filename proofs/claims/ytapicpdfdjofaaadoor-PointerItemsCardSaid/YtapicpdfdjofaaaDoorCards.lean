/-
  DERIVED. GIVEN WITH THE SEED: THE CARDS: each row of YtapicpdfdjofaaaDoorRows.lean that lists a variable, with what it lists TIED to the program's text (the seventh form; the later family's looks); each row that meets fmt, with fmt's text TOLD by the authors' own Lean function (tested against real Go, not proved from fmt's source: count such statements apart). THE CARD IS WHAT COUNTS. Prove the row's statement (the work); the ties are given (YtapicpdfdjofaaaDoorTie.lean); close each card by the builder's one call (the guide's Derived/Test/ToyasCard.lean, 'card_holds'). Laid BY PROGRAM, IN A SANDBOX (cutbox-door.mjs). By AI agents, Wed Nov 11 2026. No macro, syntax, notation, axiom, sorry.
-/
import Derived.Test.YtapicpdfdjofaaaDoorRows
import GoSem.ClaimSeven
namespace Go.Proofs.YtapicpdfdjofaaaDoor
namespace Rows

/-- THE TIED CARD OF 'erratumlaw14.PointerAll'. -/
def pointerAllCard : Claim7 := { stood := { row := pointerAllRow, standIns := [], harness := (true, "bad492e51889625afc41c0a4da6b5e1637c7dfb3621ec0b9c010b8ae68e97756"), looks := false }, kinds := [], alts := [], laidByText := true, laidKinds := [.data, .pinned], laidTests := true, laidLooks := .later }
def PointerAllCardSaid : Prop := Claim7.holds Tryd.pinned (.plain (OpenSpec.ofChange pointerAllSpec)) pointerAllCard

/-- THE TIED CARD OF 'erratumlaw14.PointerBack'. -/
def pointerBackCard : Claim7 := { stood := { row := pointerBackRow, standIns := [], harness := (true, "bad492e51889625afc41c0a4da6b5e1637c7dfb3621ec0b9c010b8ae68e97756"), looks := false }, kinds := [], alts := [], laidByText := true, laidKinds := [.data, .pinned], laidTests := true, laidLooks := .later }
def PointerBackCardSaid : Prop := Claim7.holds Tryd.pinned (.plain (OpenSpec.ofChange pointerBackSpec)) pointerBackCard

/-- THE TIED CARD OF 'erratumlaw14.PointerPuts'. -/
def pointerPutsCard : Claim7 := { stood := { row := pointerPutsRow, standIns := [], harness := (true, "bad492e51889625afc41c0a4da6b5e1637c7dfb3621ec0b9c010b8ae68e97756"), looks := false }, kinds := [], alts := [], laidByText := true, laidKinds := [.data, .pinned], laidTests := true, laidLooks := .later }
def PointerPutsCardSaid : Prop := Claim7.holds Tryd.pinned (.plain (OpenSpec.ofChange pointerPutsSpec)) pointerPutsCard

/-- THE TIED CARD OF 'erratumlaw14.PointerItems'. -/
def pointerItemsCard : Claim7 := { stood := { row := pointerItemsRow, standIns := [], harness := (true, "bad492e51889625afc41c0a4da6b5e1637c7dfb3621ec0b9c010b8ae68e97756"), looks := false }, kinds := [], alts := [], laidByText := true, laidKinds := [.data, .pinned], laidTests := true, laidLooks := .later }
def PointerItemsCardSaid : Prop := Claim7.holds Tryd.pinned (.plain (OpenSpec.ofChange pointerItemsSpec)) pointerItemsCard

/-- THE TIED CARD OF 'erratumlaw14.PointerWrong'. -/
def pointerWrongCard : Claim7 := { stood := { row := pointerWrongRow, standIns := [], harness := (true, "bad492e51889625afc41c0a4da6b5e1637c7dfb3621ec0b9c010b8ae68e97756"), looks := false }, kinds := [], alts := [], laidByText := true, laidKinds := [.data, .pinned], laidTests := true, laidLooks := .later }
def PointerWrongCardSaid : Prop := Claim7.holds Tryd.pinned (.plain (OpenSpec.ofChange pointerWrongSpec)) pointerWrongCard

/-- THE SECOND FORM's CARD OF 'erratumlaw14.PointerAll'. -/
def pointerAllUptoCard : Claim7 := { stood := { row := pointerAllUptoRow, standIns := [], harness := (true, "bad492e51889625afc41c0a4da6b5e1637c7dfb3621ec0b9c010b8ae68e97756"), looks := false }, kinds := [], alts := [], laidByText := true, laidKinds := [.data, .pinned], laidTests := true, laidLooks := .later }
def PointerAllUptoCardSaid : Prop := Claim7.holds Tryd.pinned (.plain (OpenSpec.upto pointerAllSpec)) pointerAllUptoCard

/-- THE SECOND FORM's CARD OF 'erratumlaw14.PointerBack'. -/
def pointerBackUptoCard : Claim7 := { stood := { row := pointerBackUptoRow, standIns := [], harness := (true, "bad492e51889625afc41c0a4da6b5e1637c7dfb3621ec0b9c010b8ae68e97756"), looks := false }, kinds := [], alts := [], laidByText := true, laidKinds := [.data, .pinned], laidTests := true, laidLooks := .later }
def PointerBackUptoCardSaid : Prop := Claim7.holds Tryd.pinned (.plain (OpenSpec.upto pointerBackSpec)) pointerBackUptoCard

/-- THE SECOND FORM's CARD OF 'erratumlaw14.PointerPuts'. -/
def pointerPutsUptoCard : Claim7 := { stood := { row := pointerPutsUptoRow, standIns := [], harness := (true, "bad492e51889625afc41c0a4da6b5e1637c7dfb3621ec0b9c010b8ae68e97756"), looks := false }, kinds := [], alts := [], laidByText := true, laidKinds := [.data, .pinned], laidTests := true, laidLooks := .later }
def PointerPutsUptoCardSaid : Prop := Claim7.holds Tryd.pinned (.plain (OpenSpec.upto pointerPutsSpec)) pointerPutsUptoCard

/-- THE SECOND FORM's CARD OF 'erratumlaw14.PointerItems'. -/
def pointerItemsUptoCard : Claim7 := { stood := { row := pointerItemsUptoRow, standIns := [], harness := (true, "bad492e51889625afc41c0a4da6b5e1637c7dfb3621ec0b9c010b8ae68e97756"), looks := false }, kinds := [], alts := [], laidByText := true, laidKinds := [.data, .pinned], laidTests := true, laidLooks := .later }
def PointerItemsUptoCardSaid : Prop := Claim7.holds Tryd.pinned (.plain (OpenSpec.upto pointerItemsSpec)) pointerItemsUptoCard

/-- THE SECOND FORM's CARD OF 'erratumlaw14.PointerWrong'. -/
def pointerWrongUptoCard : Claim7 := { stood := { row := pointerWrongUptoRow, standIns := [], harness := (true, "bad492e51889625afc41c0a4da6b5e1637c7dfb3621ec0b9c010b8ae68e97756"), looks := false }, kinds := [], alts := [], laidByText := true, laidKinds := [.data, .pinned], laidTests := true, laidLooks := .later }
def PointerWrongUptoCardSaid : Prop := Claim7.holds Tryd.pinned (.plain (OpenSpec.upto pointerWrongSpec)) pointerWrongUptoCard
end Rows
end Go.Proofs.YtapicpdfdjofaaaDoor
