/-
  NARROWER THAN 'FOR EVERY INPUT', by the rows' own cells (each row's printed sentence says how): CborBack: loops, laid · CborNumbers: laid · CborOpen: laid · CborRefused: laid · CborBroken: laid · CborOrder: laid.
  DERIVED. THE GIVEN ROWS OF THIS SEAT. 6 by the template 'for every input the law returns true; each argument reads behind the call as it read before'; 0 by the template 'total and deterministic' (their statements: YtbkfhdbocgjakaaGreatDoorTotals.lean).
  GIVEN WITH THE SEED: the statements are not yours to turn. If you find one false, say at which input.
  Laid BY PROGRAM, IN A SANDBOX (cutbox-rows.mjs): the forced cells as the released guide's own fill.sh prints them over the translation 694c4b1a14316328… (all of the seat's roots in one cut). By AI agents, Wed Nov 11 2026. No macro, syntax, notation, axiom, sorry.
-/
import Derived.Test.YtbkfhdbocgjakaaGreatDoorChecked
import GoSem.PinnedTables
import GoSem.Claim
import GoSem.ClaimJoined
import GoSem.ClaimMapViews
import Derived.JoinedTies
import Derived.KernelRfl
namespace Go.Proofs.YtbkfhdbocgjakaaGreatDoor
/- THE CELL 'sum', in the pinned program and in every row, IS THE sha256 OF THE DUMP (.gsa) THAT YtbkfhdbocgjakaaGreatDoorProg.lean LOADS. Nothing in Lean hashes anything: it is a label: what it is worth is what the hold of that sum in a sandbox is worth. -/
noncomputable def Tryz.pinned : Pinned := { name := "ytbkfhdbocgjakaagreatdoor", sum := "694c4b1a14316328bc8a7500b42b3f9c1d3350cf21d87c55b44869d65e38f0ac", checked := Tryz.checked }
namespace Rows
def none {H : Type} : Left H := { results := [], args := [] }

/- WHAT THE LISTED PACKAGE-LEVEL VARIABLES READ AS WHEN THE CALL BEGINS. Each datum BY PROGRAM (the guide's laid-datum.mjs) off the statement by which the dump's own 'gosem.cut.vars' lays the variable. In a bare row this is a premise. The card (YtbkfhdbocgjakaaGreatDoorCards.lean) ties it to the program's text. -/
def laid_math_bits_deBruijn32tab {H : Type} : DataW H := .agg [.lit (.int .u8 0), .lit (.int .u8 1), .lit (.int .u8 28), .lit (.int .u8 2), .lit (.int .u8 29), .lit (.int .u8 14), .lit (.int .u8 24), .lit (.int .u8 3), .lit (.int .u8 30), .lit (.int .u8 22), .lit (.int .u8 20), .lit (.int .u8 15), .lit (.int .u8 25), .lit (.int .u8 17), .lit (.int .u8 4), .lit (.int .u8 8), .lit (.int .u8 31), .lit (.int .u8 27), .lit (.int .u8 13), .lit (.int .u8 23), .lit (.int .u8 21), .lit (.int .u8 19), .lit (.int .u8 16), .lit (.int .u8 7), .lit (.int .u8 26), .lit (.int .u8 12), .lit (.int .u8 18), .lit (.int .u8 6), .lit (.int .u8 11), .lit (.int .u8 5), .lit (.int .u8 10), .lit (.int .u8 9)]
def laid_unicode_utf8_acceptRanges {H : Type} : DataW H := .agg [.agg [.lit (.int .u8 128), .lit (.int .u8 191)], .agg [.lit (.int .u8 160), .lit (.int .u8 191)], .agg [.lit (.int .u8 128), .lit (.int .u8 159)], .agg [.lit (.int .u8 144), .lit (.int .u8 191)], .agg [.lit (.int .u8 128), .lit (.int .u8 143)], .agg [.lit (.int .u8 0), .lit (.int .u8 0)], .agg [.lit (.int .u8 0), .lit (.int .u8 0)], .agg [.lit (.int .u8 0), .lit (.int .u8 0)], .agg [.lit (.int .u8 0), .lit (.int .u8 0)], .agg [.lit (.int .u8 0), .lit (.int .u8 0)], .agg [.lit (.int .u8 0), .lit (.int .u8 0)], .agg [.lit (.int .u8 0), .lit (.int .u8 0)], .agg [.lit (.int .u8 0), .lit (.int .u8 0)], .agg [.lit (.int .u8 0), .lit (.int .u8 0)], .agg [.lit (.int .u8 0), .lit (.int .u8 0)], .agg [.lit (.int .u8 0), .lit (.int .u8 0)]]
/-- One of Go's own tables, pinned by name: the form's constant. -/
def laid_unicode_utf8_first : DataW Unit := Go.Pinned.utf8First

/-- 'erratumlaw10.CborBack': WHATEVER THE INPUT: true; the input reads as it did. -/
def cborBackSpec : ChangeSpec := { name := "cborBack", fn := fun _ => fun
  | [d1, d2] => { results := [.lit (.bool true)], args := [d1, d2] }
  | _ => none }
def cborBackRow : OpenClaim := { program := "ytbkfhdbocgjakaagreatdoor", sum := "694c4b1a14316328bc8a7500b42b3f9c1d3350cf21d87c55b44869d65e38f0ac", func := "erratum/erratumlaw10.CborBack", spec := "cborBack", unfollowed := true, recurses := true, named := ["unicode/utf8.first", "unicode/utf8.acceptRanges", "math/bits.deBruijn32tab"], loops := true, apart := false, laid := [("math/bits.deBruijn32tab", laid_math_bits_deBruijn32tab), ("unicode/utf8.acceptRanges", laid_unicode_utf8_acceptRanges), ("unicode/utf8.first", laid_unicode_utf8_first)] }
def CborBackSaid : Prop := cborBackRow.holds Tryz.pinned (OpenSpec.ofChange cborBackSpec)

/-- ITS FALSE NEIGHBOUR: 'it returns false'. Refute it at one input. -/
def cborBackWrong : ChangeSpec := { name := "cborBack", fn := fun _ => fun
  | [d1, d2] => { results := [.lit (.bool false)], args := [d1, d2] }
  | _ => none }
def CborBackWrongFalsely : Prop := cborBackRow.holds Tryz.pinned (OpenSpec.ofChange cborBackWrong)

/-- 'erratumlaw10.CborNumbers': WHATEVER THE INPUT: true; the input reads as it did. -/
def cborNumbersSpec : ChangeSpec := { name := "cborNumbers", fn := fun _ => fun
  | [d1, d2, d3] => { results := [.lit (.bool true)], args := [d1, d2, d3] }
  | _ => none }
def cborNumbersRow : OpenClaim := { program := "ytbkfhdbocgjakaagreatdoor", sum := "694c4b1a14316328bc8a7500b42b3f9c1d3350cf21d87c55b44869d65e38f0ac", func := "erratum/erratumlaw10.CborNumbers", spec := "cborNumbers", unfollowed := true, recurses := true, named := ["unicode/utf8.first", "unicode/utf8.acceptRanges", "math/bits.deBruijn32tab"], apart := false, laid := [("math/bits.deBruijn32tab", laid_math_bits_deBruijn32tab), ("unicode/utf8.acceptRanges", laid_unicode_utf8_acceptRanges), ("unicode/utf8.first", laid_unicode_utf8_first)] }
def CborNumbersSaid : Prop := cborNumbersRow.holds Tryz.pinned (OpenSpec.ofChange cborNumbersSpec)

/-- ITS FALSE NEIGHBOUR: 'it returns false'. Refute it at one input. -/
def cborNumbersWrong : ChangeSpec := { name := "cborNumbers", fn := fun _ => fun
  | [d1, d2, d3] => { results := [.lit (.bool false)], args := [d1, d2, d3] }
  | _ => none }
def CborNumbersWrongFalsely : Prop := cborNumbersRow.holds Tryz.pinned (OpenSpec.ofChange cborNumbersWrong)

/-- 'erratumlaw10.CborOpen': WHATEVER THE INPUT: true; the input reads as it did. -/
def cborOpenSpec : ChangeSpec := { name := "cborOpen", fn := fun _ => fun
  | [d1, d2, d3] => { results := [.lit (.bool true)], args := [d1, d2, d3] }
  | _ => none }
def cborOpenRow : OpenClaim := { program := "ytbkfhdbocgjakaagreatdoor", sum := "694c4b1a14316328bc8a7500b42b3f9c1d3350cf21d87c55b44869d65e38f0ac", func := "erratum/erratumlaw10.CborOpen", spec := "cborOpen", unfollowed := true, recurses := true, named := ["unicode/utf8.first", "unicode/utf8.acceptRanges", "math/bits.deBruijn32tab"], apart := false, laid := [("math/bits.deBruijn32tab", laid_math_bits_deBruijn32tab), ("unicode/utf8.acceptRanges", laid_unicode_utf8_acceptRanges), ("unicode/utf8.first", laid_unicode_utf8_first)] }
def CborOpenSaid : Prop := cborOpenRow.holds Tryz.pinned (OpenSpec.ofChange cborOpenSpec)

/-- ITS FALSE NEIGHBOUR: 'it returns false'. Refute it at one input. -/
def cborOpenWrong : ChangeSpec := { name := "cborOpen", fn := fun _ => fun
  | [d1, d2, d3] => { results := [.lit (.bool false)], args := [d1, d2, d3] }
  | _ => none }
def CborOpenWrongFalsely : Prop := cborOpenRow.holds Tryz.pinned (OpenSpec.ofChange cborOpenWrong)

/-- 'erratumlaw10.CborRefused': WHATEVER THE INPUT: true; the input reads as it did. -/
def cborRefusedSpec : ChangeSpec := { name := "cborRefused", fn := fun _ => fun
  | [d1, d2] => { results := [.lit (.bool true)], args := [d1, d2] }
  | _ => none }
def cborRefusedRow : OpenClaim := { program := "ytbkfhdbocgjakaagreatdoor", sum := "694c4b1a14316328bc8a7500b42b3f9c1d3350cf21d87c55b44869d65e38f0ac", func := "erratum/erratumlaw10.CborRefused", spec := "cborRefused", unfollowed := true, recurses := true, named := ["unicode/utf8.first", "unicode/utf8.acceptRanges", "math/bits.deBruijn32tab"], apart := false, laid := [("math/bits.deBruijn32tab", laid_math_bits_deBruijn32tab), ("unicode/utf8.acceptRanges", laid_unicode_utf8_acceptRanges), ("unicode/utf8.first", laid_unicode_utf8_first)] }
def CborRefusedSaid : Prop := cborRefusedRow.holds Tryz.pinned (OpenSpec.ofChange cborRefusedSpec)

/-- ITS FALSE NEIGHBOUR: 'it returns false'. Refute it at one input. -/
def cborRefusedWrong : ChangeSpec := { name := "cborRefused", fn := fun _ => fun
  | [d1, d2] => { results := [.lit (.bool false)], args := [d1, d2] }
  | _ => none }
def CborRefusedWrongFalsely : Prop := cborRefusedRow.holds Tryz.pinned (OpenSpec.ofChange cborRefusedWrong)

/-- 'erratumlaw10.CborBroken': WHATEVER THE INPUT: true; the input reads as it did. -/
def cborBrokenSpec : ChangeSpec := { name := "cborBroken", fn := fun _ => fun
  | [d1, d2] => { results := [.lit (.bool true)], args := [d1, d2] }
  | _ => none }
def cborBrokenRow : OpenClaim := { program := "ytbkfhdbocgjakaagreatdoor", sum := "694c4b1a14316328bc8a7500b42b3f9c1d3350cf21d87c55b44869d65e38f0ac", func := "erratum/erratumlaw10.CborBroken", spec := "cborBroken", unfollowed := true, recurses := true, named := ["unicode/utf8.first", "unicode/utf8.acceptRanges", "math/bits.deBruijn32tab"], apart := false, laid := [("math/bits.deBruijn32tab", laid_math_bits_deBruijn32tab), ("unicode/utf8.acceptRanges", laid_unicode_utf8_acceptRanges), ("unicode/utf8.first", laid_unicode_utf8_first)] }
def CborBrokenSaid : Prop := cborBrokenRow.holds Tryz.pinned (OpenSpec.ofChange cborBrokenSpec)

/-- ITS FALSE NEIGHBOUR: 'it returns false'. Refute it at one input. -/
def cborBrokenWrong : ChangeSpec := { name := "cborBroken", fn := fun _ => fun
  | [d1, d2] => { results := [.lit (.bool false)], args := [d1, d2] }
  | _ => none }
def CborBrokenWrongFalsely : Prop := cborBrokenRow.holds Tryz.pinned (OpenSpec.ofChange cborBrokenWrong)

/-- 'erratumlaw10.CborOrder': WHATEVER THE INPUT: true; the input reads as it did. -/
def cborOrderSpec : ChangeSpec := { name := "cborOrder", fn := fun _ => fun
  | [d1, d2] => { results := [.lit (.bool true)], args := [d1, d2] }
  | _ => none }
def cborOrderRow : OpenClaim := { program := "ytbkfhdbocgjakaagreatdoor", sum := "694c4b1a14316328bc8a7500b42b3f9c1d3350cf21d87c55b44869d65e38f0ac", func := "erratum/erratumlaw10.CborOrder", spec := "cborOrder", unfollowed := true, recurses := true, named := ["unicode/utf8.first", "unicode/utf8.acceptRanges", "math/bits.deBruijn32tab"], apart := false, laid := [("math/bits.deBruijn32tab", laid_math_bits_deBruijn32tab), ("unicode/utf8.acceptRanges", laid_unicode_utf8_acceptRanges), ("unicode/utf8.first", laid_unicode_utf8_first)] }
def CborOrderSaid : Prop := cborOrderRow.holds Tryz.pinned (OpenSpec.ofChange cborOrderSpec)

/-- ITS FALSE NEIGHBOUR: 'it returns false'. Refute it at one input. -/
def cborOrderWrong : ChangeSpec := { name := "cborOrder", fn := fun _ => fun
  | [d1, d2] => { results := [.lit (.bool false)], args := [d1, d2] }
  | _ => none }
def CborOrderWrongFalsely : Prop := cborOrderRow.holds Tryz.pinned (OpenSpec.ofChange cborOrderWrong)

/- THE SECOND FORM. 'bulk': how many values and letters a reading holds, each counted each time it is reached (what is shared counts as often as it is met; a slice's spare places count too). A statement '..UptoSaid' is the law's where the arguments, and the package variables that the reading takes, are together of bulk at most 1048576: NARROWER than '..Said'. Prove '..Said' where nothing that the law and all that it calls make is longer than what came in: it says more and counts as full. Else prove '..UptoSaid'. A law counts once. -/
mutual
def uptoBulk {H : Type} : DataW H → Nat
  | .lit (.string bytes) => bytes.length + 1
  | .lit _ => 1
  | .nil => 1
  | .ptr d => uptoBulk d + 1
  | .slice elems spare => uptoBulkAll elems + uptoBulkAll spare + 1
  | .agg parts => uptoBulkAll parts + 1
  | .iface _ d => uptoBulk d + 1
  | .map entries => uptoBulkEntries entries + 1
  | .held _ => 1
def uptoBulkAll {H : Type} : List (DataW H) → Nat
  | [] => 0
  | d :: r => uptoBulk d + uptoBulkAll r
def uptoBulkEntries {H : Type} : List (Lit × DataW H) → Nat
  | [] => 0
  | x :: r => uptoBulkEntry x + uptoBulkEntries r
def uptoBulkEntry {H : Type} : Lit × DataW H → Nat
  | (.string bytes, d) => bytes.length + uptoBulk d + 1
  | (_, d) => uptoBulk d + 1
 end
def uptoSmall : (H : Type) → List (DataW H) → Bool := fun _ ds => decide (uptoBulkAll ds ≤ 1048576)
def OpenSpec.upto (s : _root_.Go.ChangeSpec) : _root_.Go.OpenSpec := { _root_.Go.OpenSpec.ofChange s with cond := some uptoSmall }

/-- 'erratumlaw10.CborBack', WHERE WHAT IT READS IS OF BULK AT MOST 1048576: true; the input reads as it did. -/
def cborBackUptoRow : OpenClaim := { program := "ytbkfhdbocgjakaagreatdoor", sum := "694c4b1a14316328bc8a7500b42b3f9c1d3350cf21d87c55b44869d65e38f0ac", func := "erratum/erratumlaw10.CborBack", spec := "cborBack", unfollowed := true, recurses := true, named := ["unicode/utf8.first", "unicode/utf8.acceptRanges", "math/bits.deBruijn32tab"], loops := true, apart := false, laid := [("math/bits.deBruijn32tab", laid_math_bits_deBruijn32tab), ("unicode/utf8.acceptRanges", laid_unicode_utf8_acceptRanges), ("unicode/utf8.first", laid_unicode_utf8_first)], narrowed := true }
def CborBackUptoSaid : Prop := cborBackUptoRow.holds Tryz.pinned (OpenSpec.upto cborBackSpec)

/-- 'erratumlaw10.CborNumbers', WHERE WHAT IT READS IS OF BULK AT MOST 1048576: true; the input reads as it did. -/
def cborNumbersUptoRow : OpenClaim := { program := "ytbkfhdbocgjakaagreatdoor", sum := "694c4b1a14316328bc8a7500b42b3f9c1d3350cf21d87c55b44869d65e38f0ac", func := "erratum/erratumlaw10.CborNumbers", spec := "cborNumbers", unfollowed := true, recurses := true, named := ["unicode/utf8.first", "unicode/utf8.acceptRanges", "math/bits.deBruijn32tab"], apart := false, laid := [("math/bits.deBruijn32tab", laid_math_bits_deBruijn32tab), ("unicode/utf8.acceptRanges", laid_unicode_utf8_acceptRanges), ("unicode/utf8.first", laid_unicode_utf8_first)], narrowed := true }
def CborNumbersUptoSaid : Prop := cborNumbersUptoRow.holds Tryz.pinned (OpenSpec.upto cborNumbersSpec)

/-- 'erratumlaw10.CborOpen', WHERE WHAT IT READS IS OF BULK AT MOST 1048576: true; the input reads as it did. -/
def cborOpenUptoRow : OpenClaim := { program := "ytbkfhdbocgjakaagreatdoor", sum := "694c4b1a14316328bc8a7500b42b3f9c1d3350cf21d87c55b44869d65e38f0ac", func := "erratum/erratumlaw10.CborOpen", spec := "cborOpen", unfollowed := true, recurses := true, named := ["unicode/utf8.first", "unicode/utf8.acceptRanges", "math/bits.deBruijn32tab"], apart := false, laid := [("math/bits.deBruijn32tab", laid_math_bits_deBruijn32tab), ("unicode/utf8.acceptRanges", laid_unicode_utf8_acceptRanges), ("unicode/utf8.first", laid_unicode_utf8_first)], narrowed := true }
def CborOpenUptoSaid : Prop := cborOpenUptoRow.holds Tryz.pinned (OpenSpec.upto cborOpenSpec)

/-- 'erratumlaw10.CborRefused', WHERE WHAT IT READS IS OF BULK AT MOST 1048576: true; the input reads as it did. -/
def cborRefusedUptoRow : OpenClaim := { program := "ytbkfhdbocgjakaagreatdoor", sum := "694c4b1a14316328bc8a7500b42b3f9c1d3350cf21d87c55b44869d65e38f0ac", func := "erratum/erratumlaw10.CborRefused", spec := "cborRefused", unfollowed := true, recurses := true, named := ["unicode/utf8.first", "unicode/utf8.acceptRanges", "math/bits.deBruijn32tab"], apart := false, laid := [("math/bits.deBruijn32tab", laid_math_bits_deBruijn32tab), ("unicode/utf8.acceptRanges", laid_unicode_utf8_acceptRanges), ("unicode/utf8.first", laid_unicode_utf8_first)], narrowed := true }
def CborRefusedUptoSaid : Prop := cborRefusedUptoRow.holds Tryz.pinned (OpenSpec.upto cborRefusedSpec)

/-- 'erratumlaw10.CborBroken', WHERE WHAT IT READS IS OF BULK AT MOST 1048576: true; the input reads as it did. -/
def cborBrokenUptoRow : OpenClaim := { program := "ytbkfhdbocgjakaagreatdoor", sum := "694c4b1a14316328bc8a7500b42b3f9c1d3350cf21d87c55b44869d65e38f0ac", func := "erratum/erratumlaw10.CborBroken", spec := "cborBroken", unfollowed := true, recurses := true, named := ["unicode/utf8.first", "unicode/utf8.acceptRanges", "math/bits.deBruijn32tab"], apart := false, laid := [("math/bits.deBruijn32tab", laid_math_bits_deBruijn32tab), ("unicode/utf8.acceptRanges", laid_unicode_utf8_acceptRanges), ("unicode/utf8.first", laid_unicode_utf8_first)], narrowed := true }
def CborBrokenUptoSaid : Prop := cborBrokenUptoRow.holds Tryz.pinned (OpenSpec.upto cborBrokenSpec)

/-- 'erratumlaw10.CborOrder', WHERE WHAT IT READS IS OF BULK AT MOST 1048576: true; the input reads as it did. -/
def cborOrderUptoRow : OpenClaim := { program := "ytbkfhdbocgjakaagreatdoor", sum := "694c4b1a14316328bc8a7500b42b3f9c1d3350cf21d87c55b44869d65e38f0ac", func := "erratum/erratumlaw10.CborOrder", spec := "cborOrder", unfollowed := true, recurses := true, named := ["unicode/utf8.first", "unicode/utf8.acceptRanges", "math/bits.deBruijn32tab"], apart := false, laid := [("math/bits.deBruijn32tab", laid_math_bits_deBruijn32tab), ("unicode/utf8.acceptRanges", laid_unicode_utf8_acceptRanges), ("unicode/utf8.first", laid_unicode_utf8_first)], narrowed := true }
def CborOrderUptoSaid : Prop := cborOrderUptoRow.holds Tryz.pinned (OpenSpec.upto cborOrderSpec)

end Rows
end Go.Proofs.YtbkfhdbocgjakaaGreatDoor
