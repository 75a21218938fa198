/-
  NARROWER THAN 'FOR EVERY INPUT', by the rows' own cells (each row's printed sentence says how): PointerAll: loops, laid · PointerBack: laid · PointerPuts: laid · PointerItems: laid · PointerWrong: laid.
  DERIVED. THE GIVEN ROWS OF THIS SEAT. 5 by the template 'for every input the law returns true; each argument reads behind the call as it read before'; 0 by the template 'total and deterministic' (their statements: YtapicpdfdjofaaaDoorTotals.lean).
  GIVEN WITH THE SEED: the statements are not yours to turn. If you find one false, say at which input.
  Laid BY PROGRAM, IN A SANDBOX (cutbox-rows.mjs): the forced cells as the released guide's own fill.sh prints them over the translation 6554236936638464… (all of the seat's roots in one cut). By AI agents, Wed Nov 11 2026. No macro, syntax, notation, axiom, sorry.
-/
import Derived.Test.YtapicpdfdjofaaaDoorChecked
import GoSem.PinnedTables
import GoSem.Claim
import GoSem.ClaimJoined
import GoSem.ClaimMapViews
import Derived.JoinedTies
import Derived.KernelRfl
namespace Go.Proofs.YtapicpdfdjofaaaDoor
/- THE CELL 'sum', in the pinned program and in every row, IS THE sha256 OF THE DUMP (.gsa) THAT YtapicpdfdjofaaaDoorProg.lean LOADS. Nothing in Lean hashes anything: it is a label: what it is worth is what the hold of that sum in a sandbox is worth. -/
noncomputable def Tryd.pinned : Pinned := { name := "ytapicpdfdjofaaadoor", sum := "6554236936638464a430e98e74b2b6318aaf5599f6fc1c98666acd6c48f78d3f", checked := Tryd.checked }
namespace Rows
def none {H : Type} : Left H := { results := [], args := [] }

/- WHAT THE LISTED PACKAGE-LEVEL VARIABLES READ AS WHEN THE CALL BEGINS. Each datum BY PROGRAM (the guide's laid-datum.mjs) off the statement by which the dump's own 'gosem.cut.vars' lays the variable. In a bare row this is a premise. The card (YtapicpdfdjofaaaDoorCards.lean) ties it to the program's text. -/
def laid_unicode_utf8_acceptRanges {H : Type} : DataW H := .agg [.agg [.lit (.int .u8 128), .lit (.int .u8 191)], .agg [.lit (.int .u8 160), .lit (.int .u8 191)], .agg [.lit (.int .u8 128), .lit (.int .u8 159)], .agg [.lit (.int .u8 144), .lit (.int .u8 191)], .agg [.lit (.int .u8 128), .lit (.int .u8 143)], .agg [.lit (.int .u8 0), .lit (.int .u8 0)], .agg [.lit (.int .u8 0), .lit (.int .u8 0)], .agg [.lit (.int .u8 0), .lit (.int .u8 0)], .agg [.lit (.int .u8 0), .lit (.int .u8 0)], .agg [.lit (.int .u8 0), .lit (.int .u8 0)], .agg [.lit (.int .u8 0), .lit (.int .u8 0)], .agg [.lit (.int .u8 0), .lit (.int .u8 0)], .agg [.lit (.int .u8 0), .lit (.int .u8 0)], .agg [.lit (.int .u8 0), .lit (.int .u8 0)], .agg [.lit (.int .u8 0), .lit (.int .u8 0)], .agg [.lit (.int .u8 0), .lit (.int .u8 0)]]
/-- One of Go's own tables, pinned by name: the form's constant. -/
def laid_unicode_utf8_first : DataW Unit := Go.Pinned.utf8First

/-- 'erratumlaw14.PointerAll': WHATEVER THE INPUT: true; the input reads as it did. -/
def pointerAllSpec : ChangeSpec := { name := "pointerAll", fn := fun _ => fun
  | [d1, d2, d3, d4, d5, d6, d7] => { results := [.lit (.bool true)], args := [d1, d2, d3, d4, d5, d6, d7] }
  | _ => none }
def pointerAllRow : OpenClaim := { program := "ytapicpdfdjofaaadoor", sum := "6554236936638464a430e98e74b2b6318aaf5599f6fc1c98666acd6c48f78d3f", func := "erratum/erratumlaw14.PointerAll", spec := "pointerAll", inPlace := ["internal/bytealg.CountString", "internal/bytealg.IndexByteString", "internal/bytealg.IndexString", "internal/abi.NoEscape", "internal/bytealg.MakeNoZero"], recurses := true, named := ["unicode/utf8.first", "unicode/utf8.acceptRanges", "internal/bytealg.MaxLen"], loops := true, apart := false, laid := [("unicode/utf8.acceptRanges", laid_unicode_utf8_acceptRanges), ("unicode/utf8.first", laid_unicode_utf8_first)] }
def PointerAllSaid : Prop := pointerAllRow.holds Tryd.pinned (OpenSpec.ofChange pointerAllSpec)

/-- ITS FALSE NEIGHBOUR: 'it returns false'. Refute it at one input. -/
def pointerAllWrong : ChangeSpec := { name := "pointerAll", fn := fun _ => fun
  | [d1, d2, d3, d4, d5, d6, d7] => { results := [.lit (.bool false)], args := [d1, d2, d3, d4, d5, d6, d7] }
  | _ => none }
def PointerAllWrongFalsely : Prop := pointerAllRow.holds Tryd.pinned (OpenSpec.ofChange pointerAllWrong)

/-- 'erratumlaw14.PointerBack': WHATEVER THE INPUT: true; the input reads as it did. -/
def pointerBackSpec : ChangeSpec := { name := "pointerBack", fn := fun _ => fun
  | [d1, d2] => { results := [.lit (.bool true)], args := [d1, d2] }
  | _ => none }
def pointerBackRow : OpenClaim := { program := "ytapicpdfdjofaaadoor", sum := "6554236936638464a430e98e74b2b6318aaf5599f6fc1c98666acd6c48f78d3f", func := "erratum/erratumlaw14.PointerBack", spec := "pointerBack", inPlace := ["internal/bytealg.CountString", "internal/bytealg.IndexByteString", "internal/bytealg.IndexString", "internal/abi.NoEscape", "internal/bytealg.MakeNoZero"], named := ["unicode/utf8.first", "unicode/utf8.acceptRanges", "internal/bytealg.MaxLen"], apart := false, laid := [("unicode/utf8.acceptRanges", laid_unicode_utf8_acceptRanges), ("unicode/utf8.first", laid_unicode_utf8_first)] }
def PointerBackSaid : Prop := pointerBackRow.holds Tryd.pinned (OpenSpec.ofChange pointerBackSpec)

/-- ITS FALSE NEIGHBOUR: 'it returns false'. Refute it at one input. -/
def pointerBackWrong : ChangeSpec := { name := "pointerBack", fn := fun _ => fun
  | [d1, d2] => { results := [.lit (.bool false)], args := [d1, d2] }
  | _ => none }
def PointerBackWrongFalsely : Prop := pointerBackRow.holds Tryd.pinned (OpenSpec.ofChange pointerBackWrong)

/-- 'erratumlaw14.PointerPuts': WHATEVER THE INPUT: true; the input reads as it did. -/
def pointerPutsSpec : ChangeSpec := { name := "pointerPuts", fn := fun _ => fun
  | [d1, d2, d3, d4] => { results := [.lit (.bool true)], args := [d1, d2, d3, d4] }
  | _ => none }
def pointerPutsRow : OpenClaim := { program := "ytapicpdfdjofaaadoor", sum := "6554236936638464a430e98e74b2b6318aaf5599f6fc1c98666acd6c48f78d3f", func := "erratum/erratumlaw14.PointerPuts", spec := "pointerPuts", inPlace := ["internal/bytealg.CountString", "internal/bytealg.IndexByteString", "internal/bytealg.IndexString", "internal/abi.NoEscape", "internal/bytealg.MakeNoZero"], recurses := true, named := ["unicode/utf8.first", "unicode/utf8.acceptRanges", "internal/bytealg.MaxLen"], apart := false, laid := [("unicode/utf8.acceptRanges", laid_unicode_utf8_acceptRanges), ("unicode/utf8.first", laid_unicode_utf8_first)] }
def PointerPutsSaid : Prop := pointerPutsRow.holds Tryd.pinned (OpenSpec.ofChange pointerPutsSpec)

/-- ITS FALSE NEIGHBOUR: 'it returns false'. Refute it at one input. -/
def pointerPutsWrong : ChangeSpec := { name := "pointerPuts", fn := fun _ => fun
  | [d1, d2, d3, d4] => { results := [.lit (.bool false)], args := [d1, d2, d3, d4] }
  | _ => none }
def PointerPutsWrongFalsely : Prop := pointerPutsRow.holds Tryd.pinned (OpenSpec.ofChange pointerPutsWrong)

/-- 'erratumlaw14.PointerItems': WHATEVER THE INPUT: true; the input reads as it did. -/
def pointerItemsSpec : ChangeSpec := { name := "pointerItems", fn := fun _ => fun
  | [d1, d2, d3] => { results := [.lit (.bool true)], args := [d1, d2, d3] }
  | _ => none }
def pointerItemsRow : OpenClaim := { program := "ytapicpdfdjofaaadoor", sum := "6554236936638464a430e98e74b2b6318aaf5599f6fc1c98666acd6c48f78d3f", func := "erratum/erratumlaw14.PointerItems", spec := "pointerItems", inPlace := ["internal/bytealg.CountString", "internal/bytealg.IndexByteString", "internal/bytealg.IndexString", "internal/abi.NoEscape", "internal/bytealg.MakeNoZero"], named := ["unicode/utf8.first", "unicode/utf8.acceptRanges", "internal/bytealg.MaxLen"], apart := false, laid := [("unicode/utf8.acceptRanges", laid_unicode_utf8_acceptRanges), ("unicode/utf8.first", laid_unicode_utf8_first)] }
def PointerItemsSaid : Prop := pointerItemsRow.holds Tryd.pinned (OpenSpec.ofChange pointerItemsSpec)

/-- ITS FALSE NEIGHBOUR: 'it returns false'. Refute it at one input. -/
def pointerItemsWrong : ChangeSpec := { name := "pointerItems", fn := fun _ => fun
  | [d1, d2, d3] => { results := [.lit (.bool false)], args := [d1, d2, d3] }
  | _ => none }
def PointerItemsWrongFalsely : Prop := pointerItemsRow.holds Tryd.pinned (OpenSpec.ofChange pointerItemsWrong)

/-- 'erratumlaw14.PointerWrong': WHATEVER THE INPUT: true; the input reads as it did. -/
def pointerWrongSpec : ChangeSpec := { name := "pointerWrong", fn := fun _ => fun
  | [d1, d2] => { results := [.lit (.bool true)], args := [d1, d2] }
  | _ => none }
def pointerWrongRow : OpenClaim := { program := "ytapicpdfdjofaaadoor", sum := "6554236936638464a430e98e74b2b6318aaf5599f6fc1c98666acd6c48f78d3f", func := "erratum/erratumlaw14.PointerWrong", spec := "pointerWrong", inPlace := ["internal/bytealg.CountString", "internal/bytealg.IndexByteString", "internal/bytealg.IndexString", "internal/abi.NoEscape", "internal/bytealg.MakeNoZero"], recurses := true, named := ["unicode/utf8.first", "unicode/utf8.acceptRanges", "internal/bytealg.MaxLen"], apart := false, laid := [("unicode/utf8.acceptRanges", laid_unicode_utf8_acceptRanges), ("unicode/utf8.first", laid_unicode_utf8_first)] }
def PointerWrongSaid : Prop := pointerWrongRow.holds Tryd.pinned (OpenSpec.ofChange pointerWrongSpec)

/-- ITS FALSE NEIGHBOUR: 'it returns false'. Refute it at one input. -/
def pointerWrongWrong : ChangeSpec := { name := "pointerWrong", fn := fun _ => fun
  | [d1, d2] => { results := [.lit (.bool false)], args := [d1, d2] }
  | _ => none }
def PointerWrongWrongFalsely : Prop := pointerWrongRow.holds Tryd.pinned (OpenSpec.ofChange pointerWrongWrong)

/- THE SECOND FORM. 'bulk': how many values and letters a reading holds, each counted each time it is reached (what is shared counts as often as it is met; a slice's spare places count too). A statement '..UptoSaid' is the law's where the arguments, and the package variables that the reading takes, are together of bulk at most 1048576: NARROWER than '..Said'. Prove '..Said' where nothing that the law and all that it calls make is longer than what came in: it says more and counts as full. Else prove '..UptoSaid'. A law counts once. -/
mutual
def uptoBulk {H : Type} : DataW H → Nat
  | .lit (.string bytes) => bytes.length + 1
  | .lit _ => 1
  | .nil => 1
  | .ptr d => uptoBulk d + 1
  | .slice elems spare => uptoBulkAll elems + uptoBulkAll spare + 1
  | .agg parts => uptoBulkAll parts + 1
  | .iface _ d => uptoBulk d + 1
  | .map entries => uptoBulkEntries entries + 1
  | .held _ => 1
def uptoBulkAll {H : Type} : List (DataW H) → Nat
  | [] => 0
  | d :: r => uptoBulk d + uptoBulkAll r
def uptoBulkEntries {H : Type} : List (Lit × DataW H) → Nat
  | [] => 0
  | x :: r => uptoBulkEntry x + uptoBulkEntries r
def uptoBulkEntry {H : Type} : Lit × DataW H → Nat
  | (.string bytes, d) => bytes.length + uptoBulk d + 1
  | (_, d) => uptoBulk d + 1
 end
def uptoSmall : (H : Type) → List (DataW H) → Bool := fun _ ds => decide (uptoBulkAll ds ≤ 1048576)
def OpenSpec.upto (s : _root_.Go.ChangeSpec) : _root_.Go.OpenSpec := { _root_.Go.OpenSpec.ofChange s with cond := some uptoSmall }

/-- 'erratumlaw14.PointerAll', WHERE WHAT IT READS IS OF BULK AT MOST 1048576: true; the input reads as it did. -/
def pointerAllUptoRow : OpenClaim := { program := "ytapicpdfdjofaaadoor", sum := "6554236936638464a430e98e74b2b6318aaf5599f6fc1c98666acd6c48f78d3f", func := "erratum/erratumlaw14.PointerAll", spec := "pointerAll", inPlace := ["internal/bytealg.CountString", "internal/bytealg.IndexByteString", "internal/bytealg.IndexString", "internal/abi.NoEscape", "internal/bytealg.MakeNoZero"], recurses := true, named := ["unicode/utf8.first", "unicode/utf8.acceptRanges", "internal/bytealg.MaxLen"], loops := true, apart := false, laid := [("unicode/utf8.acceptRanges", laid_unicode_utf8_acceptRanges), ("unicode/utf8.first", laid_unicode_utf8_first)], narrowed := true }
def PointerAllUptoSaid : Prop := pointerAllUptoRow.holds Tryd.pinned (OpenSpec.upto pointerAllSpec)

/-- 'erratumlaw14.PointerBack', WHERE WHAT IT READS IS OF BULK AT MOST 1048576: true; the input reads as it did. -/
def pointerBackUptoRow : OpenClaim := { program := "ytapicpdfdjofaaadoor", sum := "6554236936638464a430e98e74b2b6318aaf5599f6fc1c98666acd6c48f78d3f", func := "erratum/erratumlaw14.PointerBack", spec := "pointerBack", inPlace := ["internal/bytealg.CountString", "internal/bytealg.IndexByteString", "internal/bytealg.IndexString", "internal/abi.NoEscape", "internal/bytealg.MakeNoZero"], named := ["unicode/utf8.first", "unicode/utf8.acceptRanges", "internal/bytealg.MaxLen"], apart := false, laid := [("unicode/utf8.acceptRanges", laid_unicode_utf8_acceptRanges), ("unicode/utf8.first", laid_unicode_utf8_first)], narrowed := true }
def PointerBackUptoSaid : Prop := pointerBackUptoRow.holds Tryd.pinned (OpenSpec.upto pointerBackSpec)

/-- 'erratumlaw14.PointerPuts', WHERE WHAT IT READS IS OF BULK AT MOST 1048576: true; the input reads as it did. -/
def pointerPutsUptoRow : OpenClaim := { program := "ytapicpdfdjofaaadoor", sum := "6554236936638464a430e98e74b2b6318aaf5599f6fc1c98666acd6c48f78d3f", func := "erratum/erratumlaw14.PointerPuts", spec := "pointerPuts", inPlace := ["internal/bytealg.CountString", "internal/bytealg.IndexByteString", "internal/bytealg.IndexString", "internal/abi.NoEscape", "internal/bytealg.MakeNoZero"], recurses := true, named := ["unicode/utf8.first", "unicode/utf8.acceptRanges", "internal/bytealg.MaxLen"], apart := false, laid := [("unicode/utf8.acceptRanges", laid_unicode_utf8_acceptRanges), ("unicode/utf8.first", laid_unicode_utf8_first)], narrowed := true }
def PointerPutsUptoSaid : Prop := pointerPutsUptoRow.holds Tryd.pinned (OpenSpec.upto pointerPutsSpec)

/-- 'erratumlaw14.PointerItems', WHERE WHAT IT READS IS OF BULK AT MOST 1048576: true; the input reads as it did. -/
def pointerItemsUptoRow : OpenClaim := { program := "ytapicpdfdjofaaadoor", sum := "6554236936638464a430e98e74b2b6318aaf5599f6fc1c98666acd6c48f78d3f", func := "erratum/erratumlaw14.PointerItems", spec := "pointerItems", inPlace := ["internal/bytealg.CountString", "internal/bytealg.IndexByteString", "internal/bytealg.IndexString", "internal/abi.NoEscape", "internal/bytealg.MakeNoZero"], named := ["unicode/utf8.first", "unicode/utf8.acceptRanges", "internal/bytealg.MaxLen"], apart := false, laid := [("unicode/utf8.acceptRanges", laid_unicode_utf8_acceptRanges), ("unicode/utf8.first", laid_unicode_utf8_first)], narrowed := true }
def PointerItemsUptoSaid : Prop := pointerItemsUptoRow.holds Tryd.pinned (OpenSpec.upto pointerItemsSpec)

/-- 'erratumlaw14.PointerWrong', WHERE WHAT IT READS IS OF BULK AT MOST 1048576: true; the input reads as it did. -/
def pointerWrongUptoRow : OpenClaim := { program := "ytapicpdfdjofaaadoor", sum := "6554236936638464a430e98e74b2b6318aaf5599f6fc1c98666acd6c48f78d3f", func := "erratum/erratumlaw14.PointerWrong", spec := "pointerWrong", inPlace := ["internal/bytealg.CountString", "internal/bytealg.IndexByteString", "internal/bytealg.IndexString", "internal/abi.NoEscape", "internal/bytealg.MakeNoZero"], recurses := true, named := ["unicode/utf8.first", "unicode/utf8.acceptRanges", "internal/bytealg.MaxLen"], apart := false, laid := [("unicode/utf8.acceptRanges", laid_unicode_utf8_acceptRanges), ("unicode/utf8.first", laid_unicode_utf8_first)], narrowed := true }
def PointerWrongUptoSaid : Prop := pointerWrongUptoRow.holds Tryd.pinned (OpenSpec.upto pointerWrongSpec)

end Rows
end Go.Proofs.YtapicpdfdjofaaaDoor
