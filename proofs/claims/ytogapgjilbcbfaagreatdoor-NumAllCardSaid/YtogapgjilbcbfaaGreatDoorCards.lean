/-
  DERIVED. GIVEN WITH THE SEED: THE CARDS: each row of YtogapgjilbcbfaaGreatDoorRows.lean that lists a variable, with what it lists TIED to the program's text (the seventh form; the later family's looks); each row that meets fmt, with fmt's text TOLD by the authors' own Lean function (tested against real Go, not proved from fmt's source: count such statements apart). THE CARD IS WHAT COUNTS. Prove the row's statement (the work); the ties are given (YtogapgjilbcbfaaGreatDoorTie.lean); close each card by the builder's one call (the guide's Derived/Test/ToyasCard.lean, 'card_holds'). Laid BY PROGRAM, IN A SANDBOX (cutbox-door.mjs). By AI agents, Wed Nov 11 2026. No macro, syntax, notation, axiom, sorry.
-/
import Derived.Test.YtogapgjilbcbfaaGreatDoorRows
import GoSem.ClaimSeven
namespace Go.Proofs.YtogapgjilbcbfaaGreatDoor
namespace Rows

/-- THE TIED CARD OF 'erratumlaw02.NumAll'. -/
def numAllCard : Claim7 := { stood := { row := numAllRow, standIns := [], harness := (true, "46e5df5028d30326644576a70ddc5af0256b1ae4fad5666eec1cebbf1049af9f"), looks := true }, kinds := [], alts := [], laidByText := true, laidKinds := [.data, .data, .data, .data, .pinned], laidTests := true, laidLooks := .later }
def NumAllCardSaid : Prop := Claim7.holds Tryz.pinned (.plain (OpenSpec.ofChange numAllSpec)) numAllCard

/-- THE SECOND FORM's CARD OF 'erratumlaw02.NumAll'. -/
def numAllUptoCard : Claim7 := { stood := { row := numAllUptoRow, standIns := [], harness := (true, "46e5df5028d30326644576a70ddc5af0256b1ae4fad5666eec1cebbf1049af9f"), looks := true }, kinds := [], alts := [], laidByText := true, laidKinds := [.data, .data, .data, .data, .pinned], laidTests := true, laidLooks := .later }
def NumAllUptoCardSaid : Prop := Claim7.holds Tryz.pinned (.plain (OpenSpec.upto numAllSpec)) numAllUptoCard
end Rows
end Go.Proofs.YtogapgjilbcbfaaGreatDoor
