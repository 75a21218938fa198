/-
  DERIVED. GIVEN WITH THE SEED: THE CARDS: each row of YtokppjfaihkkcaaDoorRows.lean that lists a variable, with what it lists TIED to the program's text (the seventh form; the later family's looks); each row that meets fmt, with fmt's text TOLD by the authors' own Lean function (tested against real Go, not proved from fmt's source: count such statements apart). THE CARD IS WHAT COUNTS. Prove the row's statement (the work); the ties are given (YtokppjfaihkkcaaDoorTie.lean); close each card by the builder's one call (the guide's Derived/Test/ToyasCard.lean, 'card_holds'). Laid BY PROGRAM, IN A SANDBOX (cutbox-door.mjs). By AI agents, Wed Nov 11 2026. No macro, syntax, notation, axiom, sorry.
-/
import Derived.Test.YtokppjfaihkkcaaDoorRows
import GoSem.ClaimSeven
namespace Go.Proofs.YtokppjfaihkkcaaDoor
namespace Rows

/-- THE TIED CARD OF 'erratumlaw02.NumTexts'. -/
def numTextsCard : Claim7 := { stood := { row := numTextsRow, standIns := [], harness := (true, "834c91acf29be85ed77c51fae3e7eff30c1100df888531bd39cfca06efb2e566"), looks := true }, kinds := [], alts := [], laidByText := true, laidKinds := [.data, .data, .data, .data, .pinned], laidTests := true, laidLooks := .later }
def NumTextsCardSaid : Prop := Claim7.holds Tryd.pinned (.plain (OpenSpec.ofChange numTextsSpec)) numTextsCard

/-- THE TIED CARD OF 'erratumlaw03.IeeeAll'. -/
def ieeeAllCard : Claim7 := { stood := { row := ieeeAllRow, standIns := [], harness := (true, "834c91acf29be85ed77c51fae3e7eff30c1100df888531bd39cfca06efb2e566"), looks := true }, kinds := [], alts := [], laidByText := true, laidKinds := [.data], laidTests := true, laidLooks := .later }
def IeeeAllCardSaid : Prop := Claim7.holds Tryd.pinned (.plain (OpenSpec.ofChange ieeeAllSpec)) ieeeAllCard

/-- THE TIED CARD OF 'erratumlaw03.IeeeFloats'. -/
def ieeeFloatsCard : Claim7 := { stood := { row := ieeeFloatsRow, standIns := [], harness := (true, "834c91acf29be85ed77c51fae3e7eff30c1100df888531bd39cfca06efb2e566"), looks := true }, kinds := [], alts := [], laidByText := true, laidKinds := [.data], laidTests := true, laidLooks := .later }
def IeeeFloatsCardSaid : Prop := Claim7.holds Tryd.pinned (.plain (OpenSpec.ofChange ieeeFloatsSpec)) ieeeFloatsCard

/-- THE TIED CARD OF 'erratumlaw03.IeeeEdges'. -/
def ieeeEdgesCard : Claim7 := { stood := { row := ieeeEdgesRow, standIns := [], harness := (true, "834c91acf29be85ed77c51fae3e7eff30c1100df888531bd39cfca06efb2e566"), looks := true }, kinds := [], alts := [], laidByText := true, laidKinds := [.data], laidTests := true, laidLooks := .later }
def IeeeEdgesCardSaid : Prop := Claim7.holds Tryd.pinned (.plain (OpenSpec.ofChange ieeeEdgesSpec)) ieeeEdgesCard

/-- THE SECOND FORM's CARD OF 'erratumlaw02.NumTexts'. -/
def numTextsUptoCard : Claim7 := { stood := { row := numTextsUptoRow, standIns := [], harness := (true, "834c91acf29be85ed77c51fae3e7eff30c1100df888531bd39cfca06efb2e566"), looks := true }, kinds := [], alts := [], laidByText := true, laidKinds := [.data, .data, .data, .data, .pinned], laidTests := true, laidLooks := .later }
def NumTextsUptoCardSaid : Prop := Claim7.holds Tryd.pinned (.plain (OpenSpec.upto numTextsSpec)) numTextsUptoCard

/-- THE SECOND FORM's CARD OF 'erratumlaw03.IeeeAll'. -/
def ieeeAllUptoCard : Claim7 := { stood := { row := ieeeAllUptoRow, standIns := [], harness := (true, "834c91acf29be85ed77c51fae3e7eff30c1100df888531bd39cfca06efb2e566"), looks := true }, kinds := [], alts := [], laidByText := true, laidKinds := [.data], laidTests := true, laidLooks := .later }
def IeeeAllUptoCardSaid : Prop := Claim7.holds Tryd.pinned (.plain (OpenSpec.upto ieeeAllSpec)) ieeeAllUptoCard

/-- THE SECOND FORM's CARD OF 'erratumlaw03.IeeeFloats'. -/
def ieeeFloatsUptoCard : Claim7 := { stood := { row := ieeeFloatsUptoRow, standIns := [], harness := (true, "834c91acf29be85ed77c51fae3e7eff30c1100df888531bd39cfca06efb2e566"), looks := true }, kinds := [], alts := [], laidByText := true, laidKinds := [.data], laidTests := true, laidLooks := .later }
def IeeeFloatsUptoCardSaid : Prop := Claim7.holds Tryd.pinned (.plain (OpenSpec.upto ieeeFloatsSpec)) ieeeFloatsUptoCard

/-- THE SECOND FORM's CARD OF 'erratumlaw03.IeeeEdges'. -/
def ieeeEdgesUptoCard : Claim7 := { stood := { row := ieeeEdgesUptoRow, standIns := [], harness := (true, "834c91acf29be85ed77c51fae3e7eff30c1100df888531bd39cfca06efb2e566"), looks := true }, kinds := [], alts := [], laidByText := true, laidKinds := [.data], laidTests := true, laidLooks := .later }
def IeeeEdgesUptoCardSaid : Prop := Claim7.holds Tryd.pinned (.plain (OpenSpec.upto ieeeEdgesSpec)) ieeeEdgesUptoCard
end Rows
end Go.Proofs.YtokppjfaihkkcaaDoor
