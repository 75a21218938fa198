/-
  DERIVED. GIVEN WITH THE SEED: THE CARDS: each row of YtijaphbccnadbaaGreatDoorRows.lean that lists a variable, with what it lists TIED to the program's text (the seventh form; the later family's looks); each row that meets fmt, with fmt's text TOLD by the authors' own Lean function (tested against real Go, not proved from fmt's source: count such statements apart). THE CARD IS WHAT COUNTS. Prove the row's statement (the work); the ties are given (YtijaphbccnadbaaGreatDoorTie.lean); close each card by the builder's one call (the guide's Derived/Test/ToyasCard.lean, 'card_holds'). Laid BY PROGRAM, IN A SANDBOX (cutbox-door.mjs). By AI agents, Wed Nov 11 2026. No macro, syntax, notation, axiom, sorry.
-/
import Derived.Test.YtijaphbccnadbaaGreatDoorRows
import GoSem.ClaimSeven
namespace Go.Proofs.YtijaphbccnadbaaGreatDoor
namespace Rows

/-- THE TIED CARD OF 'erratumlaw08.JsonAll'. -/
def jsonAllCard : Claim7 := { stood := { row := jsonAllRow, standIns := [], harness := (true, "7b55d99850ede99a925ac9aec52387fa82e62e83dfcdfa7115fa76f709ff92e6"), looks := true }, kinds := [], alts := [], laidByText := true, laidKinds := [.data, .data, .data, .data, .pinned], laidTests := true, laidLooks := .later }
def JsonAllCardSaid : Prop := Claim7.holds Tryz.pinned (.plain (OpenSpec.ofChange jsonAllSpec)) jsonAllCard

/-- THE TIED CARD OF 'erratumlaw08.JsonBack'. -/
def jsonBackCard : Claim7 := { stood := { row := jsonBackRow, standIns := [], harness := (true, "7b55d99850ede99a925ac9aec52387fa82e62e83dfcdfa7115fa76f709ff92e6"), looks := true }, kinds := [], alts := [], laidByText := true, laidKinds := [.data, .data, .data, .data, .pinned], laidTests := true, laidLooks := .later }
def JsonBackCardSaid : Prop := Claim7.holds Tryz.pinned (.plain (OpenSpec.ofChange jsonBackSpec)) jsonBackCard

/-- THE TIED CARD OF 'erratumlaw08.JsonBlanks'. -/
def jsonBlanksCard : Claim7 := { stood := { row := jsonBlanksRow, standIns := [], harness := (true, "7b55d99850ede99a925ac9aec52387fa82e62e83dfcdfa7115fa76f709ff92e6"), looks := true }, kinds := [], alts := [], laidByText := true, laidKinds := [.data, .data, .data, .data, .pinned], laidTests := true, laidLooks := .later }
def JsonBlanksCardSaid : Prop := Claim7.holds Tryz.pinned (.plain (OpenSpec.ofChange jsonBlanksSpec)) jsonBlanksCard

/-- THE TIED CARD OF 'erratumlaw08.JsonCuts'. -/
def jsonCutsCard : Claim7 := { stood := { row := jsonCutsRow, standIns := [], harness := (true, "7b55d99850ede99a925ac9aec52387fa82e62e83dfcdfa7115fa76f709ff92e6"), looks := true }, kinds := [], alts := [], laidByText := true, laidKinds := [.data, .data, .data, .data, .pinned], laidTests := true, laidLooks := .later }
def JsonCutsCardSaid : Prop := Claim7.holds Tryz.pinned (.plain (OpenSpec.ofChange jsonCutsSpec)) jsonCutsCard

/-- THE TIED CARD OF 'erratumlaw08.JsonTwice'. -/
def jsonTwiceCard : Claim7 := { stood := { row := jsonTwiceRow, standIns := [], harness := (true, "7b55d99850ede99a925ac9aec52387fa82e62e83dfcdfa7115fa76f709ff92e6"), looks := true }, kinds := [], alts := [], laidByText := true, laidKinds := [.data, .data, .data, .data, .pinned], laidTests := true, laidLooks := .later }
def JsonTwiceCardSaid : Prop := Claim7.holds Tryz.pinned (.plain (OpenSpec.ofChange jsonTwiceSpec)) jsonTwiceCard

/-- THE TIED CARD OF 'erratumlaw08.JsonDeep'. -/
def jsonDeepCard : Claim7 := { stood := { row := jsonDeepRow, standIns := [], harness := (true, "7b55d99850ede99a925ac9aec52387fa82e62e83dfcdfa7115fa76f709ff92e6"), looks := true }, kinds := [], alts := [], laidByText := true, laidKinds := [.data, .data, .data, .data, .pinned], laidTests := true, laidLooks := .later }
def JsonDeepCardSaid : Prop := Claim7.holds Tryz.pinned (.plain (OpenSpec.ofChange jsonDeepSpec)) jsonDeepCard

/-- THE SECOND FORM's CARD OF 'erratumlaw08.JsonAll'. -/
def jsonAllUptoCard : Claim7 := { stood := { row := jsonAllUptoRow, standIns := [], harness := (true, "7b55d99850ede99a925ac9aec52387fa82e62e83dfcdfa7115fa76f709ff92e6"), looks := true }, kinds := [], alts := [], laidByText := true, laidKinds := [.data, .data, .data, .data, .pinned], laidTests := true, laidLooks := .later }
def JsonAllUptoCardSaid : Prop := Claim7.holds Tryz.pinned (.plain (OpenSpec.upto jsonAllSpec)) jsonAllUptoCard

/-- THE SECOND FORM's CARD OF 'erratumlaw08.JsonBack'. -/
def jsonBackUptoCard : Claim7 := { stood := { row := jsonBackUptoRow, standIns := [], harness := (true, "7b55d99850ede99a925ac9aec52387fa82e62e83dfcdfa7115fa76f709ff92e6"), looks := true }, kinds := [], alts := [], laidByText := true, laidKinds := [.data, .data, .data, .data, .pinned], laidTests := true, laidLooks := .later }
def JsonBackUptoCardSaid : Prop := Claim7.holds Tryz.pinned (.plain (OpenSpec.upto jsonBackSpec)) jsonBackUptoCard

/-- THE SECOND FORM's CARD OF 'erratumlaw08.JsonBlanks'. -/
def jsonBlanksUptoCard : Claim7 := { stood := { row := jsonBlanksUptoRow, standIns := [], harness := (true, "7b55d99850ede99a925ac9aec52387fa82e62e83dfcdfa7115fa76f709ff92e6"), looks := true }, kinds := [], alts := [], laidByText := true, laidKinds := [.data, .data, .data, .data, .pinned], laidTests := true, laidLooks := .later }
def JsonBlanksUptoCardSaid : Prop := Claim7.holds Tryz.pinned (.plain (OpenSpec.upto jsonBlanksSpec)) jsonBlanksUptoCard

/-- THE SECOND FORM's CARD OF 'erratumlaw08.JsonCuts'. -/
def jsonCutsUptoCard : Claim7 := { stood := { row := jsonCutsUptoRow, standIns := [], harness := (true, "7b55d99850ede99a925ac9aec52387fa82e62e83dfcdfa7115fa76f709ff92e6"), looks := true }, kinds := [], alts := [], laidByText := true, laidKinds := [.data, .data, .data, .data, .pinned], laidTests := true, laidLooks := .later }
def JsonCutsUptoCardSaid : Prop := Claim7.holds Tryz.pinned (.plain (OpenSpec.upto jsonCutsSpec)) jsonCutsUptoCard

/-- THE SECOND FORM's CARD OF 'erratumlaw08.JsonTwice'. -/
def jsonTwiceUptoCard : Claim7 := { stood := { row := jsonTwiceUptoRow, standIns := [], harness := (true, "7b55d99850ede99a925ac9aec52387fa82e62e83dfcdfa7115fa76f709ff92e6"), looks := true }, kinds := [], alts := [], laidByText := true, laidKinds := [.data, .data, .data, .data, .pinned], laidTests := true, laidLooks := .later }
def JsonTwiceUptoCardSaid : Prop := Claim7.holds Tryz.pinned (.plain (OpenSpec.upto jsonTwiceSpec)) jsonTwiceUptoCard

/-- THE SECOND FORM's CARD OF 'erratumlaw08.JsonDeep'. -/
def jsonDeepUptoCard : Claim7 := { stood := { row := jsonDeepUptoRow, standIns := [], harness := (true, "7b55d99850ede99a925ac9aec52387fa82e62e83dfcdfa7115fa76f709ff92e6"), looks := true }, kinds := [], alts := [], laidByText := true, laidKinds := [.data, .data, .data, .data, .pinned], laidTests := true, laidLooks := .later }
def JsonDeepUptoCardSaid : Prop := Claim7.holds Tryz.pinned (.plain (OpenSpec.upto jsonDeepSpec)) jsonDeepUptoCard
end Rows
end Go.Proofs.YtijaphbccnadbaaGreatDoor
