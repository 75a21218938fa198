/-
  NARROWER THAN 'FOR EVERY INPUT', by the rows' own cells (each row's printed sentence says how): CborBack: loops, laid · CborOpen: laid · CborRefused: laid · CborBroken: laid · CborOrder: laid · PackBack: loops, laid · PackEdges: laid · PackForms: laid · PackRefused: laid · PackOrder: laid.
  DERIVED. THE GIVEN ROWS OF THIS SEAT. 10 by the template 'for every input the law returns true; each argument reads behind the call as it read before'; 0 by the template 'total and deterministic' (their statements: YtnacbakcalcgaaaGreatDoorTotals.lean).
  GIVEN WITH THE SEED: the statements are not yours to turn. If you find one false, say at which input.
  Laid BY PROGRAM, IN A SANDBOX (cutbox-rows.mjs): the forced cells as the released guide's own fill.sh prints them over the translation e6e22dc389ec8d7a… (all of the seat's roots in one cut). By AI agents, Wed Nov 11 2026. No macro, syntax, notation, axiom, sorry.
-/
import Derived.Test.YtnacbakcalcgaaaGreatDoorChecked
import GoSem.PinnedTables
import GoSem.Claim
import GoSem.ClaimJoined
import GoSem.ClaimMapViews
import Derived.JoinedTies
import Derived.KernelRfl
namespace Go.Proofs.YtnacbakcalcgaaaGreatDoor
/- THE CELL 'sum', in the pinned program and in every row, IS THE sha256 OF THE DUMP (.gsa) THAT YtnacbakcalcgaaaGreatDoorProg.lean LOADS. Nothing in Lean hashes anything: it is a label: what it is worth is what the hold of that sum in a sandbox is worth. -/
noncomputable def Tryz.pinned : Pinned := { name := "ytnacbakcalcgaaagreatdoor", sum := "e6e22dc389ec8d7a3fcd2c008ab918ac5bf3ca730e779561b075e0fba325de11", checked := Tryz.checked }
namespace Rows
def none {H : Type} : Left H := { results := [], args := [] }

/- WHAT THE LISTED PACKAGE-LEVEL VARIABLES READ AS WHEN THE CALL BEGINS. Each datum BY PROGRAM (the guide's laid-datum.mjs) off the statement by which the dump's own 'gosem.cut.vars' lays the variable. In a bare row this is a premise. The card (YtnacbakcalcgaaaGreatDoorCards.lean) ties it to the program's text. -/
def laid_math_bits_deBruijn32tab {H : Type} : DataW H := .agg [.lit (.int .u8 0), .lit (.int .u8 1), .lit (.int .u8 28), .lit (.int .u8 2), .lit (.int .u8 29), .lit (.int .u8 14), .lit (.int .u8 24), .lit (.int .u8 3), .lit (.int .u8 30), .lit (.int .u8 22), .lit (.int .u8 20), .lit (.int .u8 15), .lit (.int .u8 25), .lit (.int .u8 17), .lit (.int .u8 4), .lit (.int .u8 8), .lit (.int .u8 31), .lit (.int .u8 27), .lit (.int .u8 13), .lit (.int .u8 23), .lit (.int .u8 21), .lit (.int .u8 19), .lit (.int .u8 16), .lit (.int .u8 7), .lit (.int .u8 26), .lit (.int .u8 12), .lit (.int .u8 18), .lit (.int .u8 6), .lit (.int .u8 11), .lit (.int .u8 5), .lit (.int .u8 10), .lit (.int .u8 9)]
def laid_unicode_utf8_acceptRanges {H : Type} : DataW H := .agg [.agg [.lit (.int .u8 128), .lit (.int .u8 191)], .agg [.lit (.int .u8 160), .lit (.int .u8 191)], .agg [.lit (.int .u8 128), .lit (.int .u8 159)], .agg [.lit (.int .u8 144), .lit (.int .u8 191)], .agg [.lit (.int .u8 128), .lit (.int .u8 143)], .agg [.lit (.int .u8 0), .lit (.int .u8 0)], .agg [.lit (.int .u8 0), .lit (.int .u8 0)], .agg [.lit (.int .u8 0), .lit (.int .u8 0)], .agg [.lit (.int .u8 0), .lit (.int .u8 0)], .agg [.lit (.int .u8 0), .lit (.int .u8 0)], .agg [.lit (.int .u8 0), .lit (.int .u8 0)], .agg [.lit (.int .u8 0), .lit (.int .u8 0)], .agg [.lit (.int .u8 0), .lit (.int .u8 0)], .agg [.lit (.int .u8 0), .lit (.int .u8 0)], .agg [.lit (.int .u8 0), .lit (.int .u8 0)], .agg [.lit (.int .u8 0), .lit (.int .u8 0)]]
/-- One of Go's own tables, pinned by name: the form's constant. -/
def laid_unicode_utf8_first : DataW Unit := Go.Pinned.utf8First

/-- 'erratumlaw10.CborBack': WHATEVER THE INPUT: true; the input reads as it did. -/
def cborBackSpec : ChangeSpec := { name := "cborBack", fn := fun _ => fun
  | [d1, d2] => { results := [.lit (.bool true)], args := [d1, d2] }
  | _ => none }
def cborBackRow : OpenClaim := { program := "ytnacbakcalcgaaagreatdoor", sum := "e6e22dc389ec8d7a3fcd2c008ab918ac5bf3ca730e779561b075e0fba325de11", func := "erratum/erratumlaw10.CborBack", spec := "cborBack", unfollowed := true, recurses := true, named := ["unicode/utf8.first", "unicode/utf8.acceptRanges", "math/bits.deBruijn32tab"], loops := true, apart := false, laid := [("math/bits.deBruijn32tab", laid_math_bits_deBruijn32tab), ("unicode/utf8.acceptRanges", laid_unicode_utf8_acceptRanges), ("unicode/utf8.first", laid_unicode_utf8_first)] }
def CborBackSaid : Prop := cborBackRow.holds Tryz.pinned (OpenSpec.ofChange cborBackSpec)

/-- ITS FALSE NEIGHBOUR: 'it returns false'. Refute it at one input. -/
def cborBackWrong : ChangeSpec := { name := "cborBack", fn := fun _ => fun
  | [d1, d2] => { results := [.lit (.bool false)], args := [d1, d2] }
  | _ => none }
def CborBackWrongFalsely : Prop := cborBackRow.holds Tryz.pinned (OpenSpec.ofChange cborBackWrong)

/-- 'erratumlaw10.CborOpen': WHATEVER THE INPUT: true; the input reads as it did. -/
def cborOpenSpec : ChangeSpec := { name := "cborOpen", fn := fun _ => fun
  | [d1, d2, d3] => { results := [.lit (.bool true)], args := [d1, d2, d3] }
  | _ => none }
def cborOpenRow : OpenClaim := { program := "ytnacbakcalcgaaagreatdoor", sum := "e6e22dc389ec8d7a3fcd2c008ab918ac5bf3ca730e779561b075e0fba325de11", func := "erratum/erratumlaw10.CborOpen", spec := "cborOpen", unfollowed := true, recurses := true, named := ["unicode/utf8.first", "unicode/utf8.acceptRanges", "math/bits.deBruijn32tab"], apart := false, laid := [("math/bits.deBruijn32tab", laid_math_bits_deBruijn32tab), ("unicode/utf8.acceptRanges", laid_unicode_utf8_acceptRanges), ("unicode/utf8.first", laid_unicode_utf8_first)] }
def CborOpenSaid : Prop := cborOpenRow.holds Tryz.pinned (OpenSpec.ofChange cborOpenSpec)

/-- ITS FALSE NEIGHBOUR: 'it returns false'. Refute it at one input. -/
def cborOpenWrong : ChangeSpec := { name := "cborOpen", fn := fun _ => fun
  | [d1, d2, d3] => { results := [.lit (.bool false)], args := [d1, d2, d3] }
  | _ => none }
def CborOpenWrongFalsely : Prop := cborOpenRow.holds Tryz.pinned (OpenSpec.ofChange cborOpenWrong)

/-- 'erratumlaw10.CborRefused': WHATEVER THE INPUT: true; the input reads as it did. -/
def cborRefusedSpec : ChangeSpec := { name := "cborRefused", fn := fun _ => fun
  | [d1, d2] => { results := [.lit (.bool true)], args := [d1, d2] }
  | _ => none }
def cborRefusedRow : OpenClaim := { program := "ytnacbakcalcgaaagreatdoor", sum := "e6e22dc389ec8d7a3fcd2c008ab918ac5bf3ca730e779561b075e0fba325de11", func := "erratum/erratumlaw10.CborRefused", spec := "cborRefused", unfollowed := true, recurses := true, named := ["unicode/utf8.first", "unicode/utf8.acceptRanges", "math/bits.deBruijn32tab"], apart := false, laid := [("math/bits.deBruijn32tab", laid_math_bits_deBruijn32tab), ("unicode/utf8.acceptRanges", laid_unicode_utf8_acceptRanges), ("unicode/utf8.first", laid_unicode_utf8_first)] }
def CborRefusedSaid : Prop := cborRefusedRow.holds Tryz.pinned (OpenSpec.ofChange cborRefusedSpec)

/-- ITS FALSE NEIGHBOUR: 'it returns false'. Refute it at one input. -/
def cborRefusedWrong : ChangeSpec := { name := "cborRefused", fn := fun _ => fun
  | [d1, d2] => { results := [.lit (.bool false)], args := [d1, d2] }
  | _ => none }
def CborRefusedWrongFalsely : Prop := cborRefusedRow.holds Tryz.pinned (OpenSpec.ofChange cborRefusedWrong)

/-- 'erratumlaw10.CborBroken': WHATEVER THE INPUT: true; the input reads as it did. -/
def cborBrokenSpec : ChangeSpec := { name := "cborBroken", fn := fun _ => fun
  | [d1, d2] => { results := [.lit (.bool true)], args := [d1, d2] }
  | _ => none }
def cborBrokenRow : OpenClaim := { program := "ytnacbakcalcgaaagreatdoor", sum := "e6e22dc389ec8d7a3fcd2c008ab918ac5bf3ca730e779561b075e0fba325de11", func := "erratum/erratumlaw10.CborBroken", spec := "cborBroken", unfollowed := true, recurses := true, named := ["unicode/utf8.first", "unicode/utf8.acceptRanges", "math/bits.deBruijn32tab"], apart := false, laid := [("math/bits.deBruijn32tab", laid_math_bits_deBruijn32tab), ("unicode/utf8.acceptRanges", laid_unicode_utf8_acceptRanges), ("unicode/utf8.first", laid_unicode_utf8_first)] }
def CborBrokenSaid : Prop := cborBrokenRow.holds Tryz.pinned (OpenSpec.ofChange cborBrokenSpec)

/-- ITS FALSE NEIGHBOUR: 'it returns false'. Refute it at one input. -/
def cborBrokenWrong : ChangeSpec := { name := "cborBroken", fn := fun _ => fun
  | [d1, d2] => { results := [.lit (.bool false)], args := [d1, d2] }
  | _ => none }
def CborBrokenWrongFalsely : Prop := cborBrokenRow.holds Tryz.pinned (OpenSpec.ofChange cborBrokenWrong)

/-- 'erratumlaw10.CborOrder': WHATEVER THE INPUT: true; the input reads as it did. -/
def cborOrderSpec : ChangeSpec := { name := "cborOrder", fn := fun _ => fun
  | [d1, d2] => { results := [.lit (.bool true)], args := [d1, d2] }
  | _ => none }
def cborOrderRow : OpenClaim := { program := "ytnacbakcalcgaaagreatdoor", sum := "e6e22dc389ec8d7a3fcd2c008ab918ac5bf3ca730e779561b075e0fba325de11", func := "erratum/erratumlaw10.CborOrder", spec := "cborOrder", unfollowed := true, recurses := true, named := ["unicode/utf8.first", "unicode/utf8.acceptRanges", "math/bits.deBruijn32tab"], apart := false, laid := [("math/bits.deBruijn32tab", laid_math_bits_deBruijn32tab), ("unicode/utf8.acceptRanges", laid_unicode_utf8_acceptRanges), ("unicode/utf8.first", laid_unicode_utf8_first)] }
def CborOrderSaid : Prop := cborOrderRow.holds Tryz.pinned (OpenSpec.ofChange cborOrderSpec)

/-- ITS FALSE NEIGHBOUR: 'it returns false'. Refute it at one input. -/
def cborOrderWrong : ChangeSpec := { name := "cborOrder", fn := fun _ => fun
  | [d1, d2] => { results := [.lit (.bool false)], args := [d1, d2] }
  | _ => none }
def CborOrderWrongFalsely : Prop := cborOrderRow.holds Tryz.pinned (OpenSpec.ofChange cborOrderWrong)

/-- 'erratumlaw12.PackBack': WHATEVER THE INPUT: true; the input reads as it did. -/
def packBackSpec : ChangeSpec := { name := "packBack", fn := fun _ => fun
  | [d1, d2] => { results := [.lit (.bool true)], args := [d1, d2] }
  | _ => none }
def packBackRow : OpenClaim := { program := "ytnacbakcalcgaaagreatdoor", sum := "e6e22dc389ec8d7a3fcd2c008ab918ac5bf3ca730e779561b075e0fba325de11", func := "erratum/erratumlaw12.PackBack", spec := "packBack", unfollowed := true, recurses := true, named := ["unicode/utf8.first", "unicode/utf8.acceptRanges", "math/bits.deBruijn32tab"], loops := true, apart := false, laid := [("math/bits.deBruijn32tab", laid_math_bits_deBruijn32tab), ("unicode/utf8.acceptRanges", laid_unicode_utf8_acceptRanges), ("unicode/utf8.first", laid_unicode_utf8_first)] }
def PackBackSaid : Prop := packBackRow.holds Tryz.pinned (OpenSpec.ofChange packBackSpec)

/-- ITS FALSE NEIGHBOUR: 'it returns false'. Refute it at one input. -/
def packBackWrong : ChangeSpec := { name := "packBack", fn := fun _ => fun
  | [d1, d2] => { results := [.lit (.bool false)], args := [d1, d2] }
  | _ => none }
def PackBackWrongFalsely : Prop := packBackRow.holds Tryz.pinned (OpenSpec.ofChange packBackWrong)

/-- 'erratumlaw12.PackEdges': WHATEVER THE INPUT: true; the input reads as it did. -/
def packEdgesSpec : ChangeSpec := { name := "packEdges", fn := fun _ => fun
  | [d1, d2, d3] => { results := [.lit (.bool true)], args := [d1, d2, d3] }
  | _ => none }
def packEdgesRow : OpenClaim := { program := "ytnacbakcalcgaaagreatdoor", sum := "e6e22dc389ec8d7a3fcd2c008ab918ac5bf3ca730e779561b075e0fba325de11", func := "erratum/erratumlaw12.PackEdges", spec := "packEdges", unfollowed := true, recurses := true, named := ["unicode/utf8.first", "unicode/utf8.acceptRanges", "math/bits.deBruijn32tab"], apart := false, laid := [("math/bits.deBruijn32tab", laid_math_bits_deBruijn32tab), ("unicode/utf8.acceptRanges", laid_unicode_utf8_acceptRanges), ("unicode/utf8.first", laid_unicode_utf8_first)] }
def PackEdgesSaid : Prop := packEdgesRow.holds Tryz.pinned (OpenSpec.ofChange packEdgesSpec)

/-- ITS FALSE NEIGHBOUR: 'it returns false'. Refute it at one input. -/
def packEdgesWrong : ChangeSpec := { name := "packEdges", fn := fun _ => fun
  | [d1, d2, d3] => { results := [.lit (.bool false)], args := [d1, d2, d3] }
  | _ => none }
def PackEdgesWrongFalsely : Prop := packEdgesRow.holds Tryz.pinned (OpenSpec.ofChange packEdgesWrong)

/-- 'erratumlaw12.PackForms': WHATEVER THE INPUT: true; the input reads as it did. -/
def packFormsSpec : ChangeSpec := { name := "packForms", fn := fun _ => fun
  | [d1, d2, d3] => { results := [.lit (.bool true)], args := [d1, d2, d3] }
  | _ => none }
def packFormsRow : OpenClaim := { program := "ytnacbakcalcgaaagreatdoor", sum := "e6e22dc389ec8d7a3fcd2c008ab918ac5bf3ca730e779561b075e0fba325de11", func := "erratum/erratumlaw12.PackForms", spec := "packForms", unfollowed := true, recurses := true, named := ["unicode/utf8.first", "unicode/utf8.acceptRanges", "math/bits.deBruijn32tab"], apart := false, laid := [("math/bits.deBruijn32tab", laid_math_bits_deBruijn32tab), ("unicode/utf8.acceptRanges", laid_unicode_utf8_acceptRanges), ("unicode/utf8.first", laid_unicode_utf8_first)] }
def PackFormsSaid : Prop := packFormsRow.holds Tryz.pinned (OpenSpec.ofChange packFormsSpec)

/-- ITS FALSE NEIGHBOUR: 'it returns false'. Refute it at one input. -/
def packFormsWrong : ChangeSpec := { name := "packForms", fn := fun _ => fun
  | [d1, d2, d3] => { results := [.lit (.bool false)], args := [d1, d2, d3] }
  | _ => none }
def PackFormsWrongFalsely : Prop := packFormsRow.holds Tryz.pinned (OpenSpec.ofChange packFormsWrong)

/-- 'erratumlaw12.PackRefused': WHATEVER THE INPUT: true; the input reads as it did. -/
def packRefusedSpec : ChangeSpec := { name := "packRefused", fn := fun _ => fun
  | [d1, d2] => { results := [.lit (.bool true)], args := [d1, d2] }
  | _ => none }
def packRefusedRow : OpenClaim := { program := "ytnacbakcalcgaaagreatdoor", sum := "e6e22dc389ec8d7a3fcd2c008ab918ac5bf3ca730e779561b075e0fba325de11", func := "erratum/erratumlaw12.PackRefused", spec := "packRefused", unfollowed := true, recurses := true, named := ["unicode/utf8.first", "unicode/utf8.acceptRanges", "math/bits.deBruijn32tab"], apart := false, laid := [("math/bits.deBruijn32tab", laid_math_bits_deBruijn32tab), ("unicode/utf8.acceptRanges", laid_unicode_utf8_acceptRanges), ("unicode/utf8.first", laid_unicode_utf8_first)] }
def PackRefusedSaid : Prop := packRefusedRow.holds Tryz.pinned (OpenSpec.ofChange packRefusedSpec)

/-- ITS FALSE NEIGHBOUR: 'it returns false'. Refute it at one input. -/
def packRefusedWrong : ChangeSpec := { name := "packRefused", fn := fun _ => fun
  | [d1, d2] => { results := [.lit (.bool false)], args := [d1, d2] }
  | _ => none }
def PackRefusedWrongFalsely : Prop := packRefusedRow.holds Tryz.pinned (OpenSpec.ofChange packRefusedWrong)

/-- 'erratumlaw12.PackOrder': WHATEVER THE INPUT: true; the input reads as it did. -/
def packOrderSpec : ChangeSpec := { name := "packOrder", fn := fun _ => fun
  | [d1, d2] => { results := [.lit (.bool true)], args := [d1, d2] }
  | _ => none }
def packOrderRow : OpenClaim := { program := "ytnacbakcalcgaaagreatdoor", sum := "e6e22dc389ec8d7a3fcd2c008ab918ac5bf3ca730e779561b075e0fba325de11", func := "erratum/erratumlaw12.PackOrder", spec := "packOrder", unfollowed := true, recurses := true, named := ["unicode/utf8.first", "unicode/utf8.acceptRanges", "math/bits.deBruijn32tab"], apart := false, laid := [("math/bits.deBruijn32tab", laid_math_bits_deBruijn32tab), ("unicode/utf8.acceptRanges", laid_unicode_utf8_acceptRanges), ("unicode/utf8.first", laid_unicode_utf8_first)] }
def PackOrderSaid : Prop := packOrderRow.holds Tryz.pinned (OpenSpec.ofChange packOrderSpec)

/-- ITS FALSE NEIGHBOUR: 'it returns false'. Refute it at one input. -/
def packOrderWrong : ChangeSpec := { name := "packOrder", fn := fun _ => fun
  | [d1, d2] => { results := [.lit (.bool false)], args := [d1, d2] }
  | _ => none }
def PackOrderWrongFalsely : Prop := packOrderRow.holds Tryz.pinned (OpenSpec.ofChange packOrderWrong)

/- THE SECOND FORM. 'bulk': how many values and letters a reading holds, each counted each time it is reached (what is shared counts as often as it is met; a slice's spare places count too). A statement '..UptoSaid' is the law's where the arguments, and the package variables that the reading takes, are together of bulk at most 1048576: NARROWER than '..Said'. Prove '..Said' where nothing that the law and all that it calls make is longer than what came in: it says more and counts as full. Else prove '..UptoSaid'. A law counts once. -/
mutual
def uptoBulk {H : Type} : DataW H → Nat
  | .lit (.string bytes) => bytes.length + 1
  | .lit _ => 1
  | .nil => 1
  | .ptr d => uptoBulk d + 1
  | .slice elems spare => uptoBulkAll elems + uptoBulkAll spare + 1
  | .agg parts => uptoBulkAll parts + 1
  | .iface _ d => uptoBulk d + 1
  | .map entries => uptoBulkEntries entries + 1
  | .held _ => 1
def uptoBulkAll {H : Type} : List (DataW H) → Nat
  | [] => 0
  | d :: r => uptoBulk d + uptoBulkAll r
def uptoBulkEntries {H : Type} : List (Lit × DataW H) → Nat
  | [] => 0
  | x :: r => uptoBulkEntry x + uptoBulkEntries r
def uptoBulkEntry {H : Type} : Lit × DataW H → Nat
  | (.string bytes, d) => bytes.length + uptoBulk d + 1
  | (_, d) => uptoBulk d + 1
 end
def uptoSmall : (H : Type) → List (DataW H) → Bool := fun _ ds => decide (uptoBulkAll ds ≤ 1048576)
def OpenSpec.upto (s : _root_.Go.ChangeSpec) : _root_.Go.OpenSpec := { _root_.Go.OpenSpec.ofChange s with cond := some uptoSmall }

/-- 'erratumlaw10.CborBack', WHERE WHAT IT READS IS OF BULK AT MOST 1048576: true; the input reads as it did. -/
def cborBackUptoRow : OpenClaim := { program := "ytnacbakcalcgaaagreatdoor", sum := "e6e22dc389ec8d7a3fcd2c008ab918ac5bf3ca730e779561b075e0fba325de11", func := "erratum/erratumlaw10.CborBack", spec := "cborBack", unfollowed := true, recurses := true, named := ["unicode/utf8.first", "unicode/utf8.acceptRanges", "math/bits.deBruijn32tab"], loops := true, apart := false, laid := [("math/bits.deBruijn32tab", laid_math_bits_deBruijn32tab), ("unicode/utf8.acceptRanges", laid_unicode_utf8_acceptRanges), ("unicode/utf8.first", laid_unicode_utf8_first)], narrowed := true }
def CborBackUptoSaid : Prop := cborBackUptoRow.holds Tryz.pinned (OpenSpec.upto cborBackSpec)

/-- 'erratumlaw10.CborOpen', WHERE WHAT IT READS IS OF BULK AT MOST 1048576: true; the input reads as it did. -/
def cborOpenUptoRow : OpenClaim := { program := "ytnacbakcalcgaaagreatdoor", sum := "e6e22dc389ec8d7a3fcd2c008ab918ac5bf3ca730e779561b075e0fba325de11", func := "erratum/erratumlaw10.CborOpen", spec := "cborOpen", unfollowed := true, recurses := true, named := ["unicode/utf8.first", "unicode/utf8.acceptRanges", "math/bits.deBruijn32tab"], apart := false, laid := [("math/bits.deBruijn32tab", laid_math_bits_deBruijn32tab), ("unicode/utf8.acceptRanges", laid_unicode_utf8_acceptRanges), ("unicode/utf8.first", laid_unicode_utf8_first)], narrowed := true }
def CborOpenUptoSaid : Prop := cborOpenUptoRow.holds Tryz.pinned (OpenSpec.upto cborOpenSpec)

/-- 'erratumlaw10.CborRefused', WHERE WHAT IT READS IS OF BULK AT MOST 1048576: true; the input reads as it did. -/
def cborRefusedUptoRow : OpenClaim := { program := "ytnacbakcalcgaaagreatdoor", sum := "e6e22dc389ec8d7a3fcd2c008ab918ac5bf3ca730e779561b075e0fba325de11", func := "erratum/erratumlaw10.CborRefused", spec := "cborRefused", unfollowed := true, recurses := true, named := ["unicode/utf8.first", "unicode/utf8.acceptRanges", "math/bits.deBruijn32tab"], apart := false, laid := [("math/bits.deBruijn32tab", laid_math_bits_deBruijn32tab), ("unicode/utf8.acceptRanges", laid_unicode_utf8_acceptRanges), ("unicode/utf8.first", laid_unicode_utf8_first)], narrowed := true }
def CborRefusedUptoSaid : Prop := cborRefusedUptoRow.holds Tryz.pinned (OpenSpec.upto cborRefusedSpec)

/-- 'erratumlaw10.CborBroken', WHERE WHAT IT READS IS OF BULK AT MOST 1048576: true; the input reads as it did. -/
def cborBrokenUptoRow : OpenClaim := { program := "ytnacbakcalcgaaagreatdoor", sum := "e6e22dc389ec8d7a3fcd2c008ab918ac5bf3ca730e779561b075e0fba325de11", func := "erratum/erratumlaw10.CborBroken", spec := "cborBroken", unfollowed := true, recurses := true, named := ["unicode/utf8.first", "unicode/utf8.acceptRanges", "math/bits.deBruijn32tab"], apart := false, laid := [("math/bits.deBruijn32tab", laid_math_bits_deBruijn32tab), ("unicode/utf8.acceptRanges", laid_unicode_utf8_acceptRanges), ("unicode/utf8.first", laid_unicode_utf8_first)], narrowed := true }
def CborBrokenUptoSaid : Prop := cborBrokenUptoRow.holds Tryz.pinned (OpenSpec.upto cborBrokenSpec)

/-- 'erratumlaw10.CborOrder', WHERE WHAT IT READS IS OF BULK AT MOST 1048576: true; the input reads as it did. -/
def cborOrderUptoRow : OpenClaim := { program := "ytnacbakcalcgaaagreatdoor", sum := "e6e22dc389ec8d7a3fcd2c008ab918ac5bf3ca730e779561b075e0fba325de11", func := "erratum/erratumlaw10.CborOrder", spec := "cborOrder", unfollowed := true, recurses := true, named := ["unicode/utf8.first", "unicode/utf8.acceptRanges", "math/bits.deBruijn32tab"], apart := false, laid := [("math/bits.deBruijn32tab", laid_math_bits_deBruijn32tab), ("unicode/utf8.acceptRanges", laid_unicode_utf8_acceptRanges), ("unicode/utf8.first", laid_unicode_utf8_first)], narrowed := true }
def CborOrderUptoSaid : Prop := cborOrderUptoRow.holds Tryz.pinned (OpenSpec.upto cborOrderSpec)

/-- 'erratumlaw12.PackBack', WHERE WHAT IT READS IS OF BULK AT MOST 1048576: true; the input reads as it did. -/
def packBackUptoRow : OpenClaim := { program := "ytnacbakcalcgaaagreatdoor", sum := "e6e22dc389ec8d7a3fcd2c008ab918ac5bf3ca730e779561b075e0fba325de11", func := "erratum/erratumlaw12.PackBack", spec := "packBack", unfollowed := true, recurses := true, named := ["unicode/utf8.first", "unicode/utf8.acceptRanges", "math/bits.deBruijn32tab"], loops := true, apart := false, laid := [("math/bits.deBruijn32tab", laid_math_bits_deBruijn32tab), ("unicode/utf8.acceptRanges", laid_unicode_utf8_acceptRanges), ("unicode/utf8.first", laid_unicode_utf8_first)], narrowed := true }
def PackBackUptoSaid : Prop := packBackUptoRow.holds Tryz.pinned (OpenSpec.upto packBackSpec)

/-- 'erratumlaw12.PackEdges', WHERE WHAT IT READS IS OF BULK AT MOST 1048576: true; the input reads as it did. -/
def packEdgesUptoRow : OpenClaim := { program := "ytnacbakcalcgaaagreatdoor", sum := "e6e22dc389ec8d7a3fcd2c008ab918ac5bf3ca730e779561b075e0fba325de11", func := "erratum/erratumlaw12.PackEdges", spec := "packEdges", unfollowed := true, recurses := true, named := ["unicode/utf8.first", "unicode/utf8.acceptRanges", "math/bits.deBruijn32tab"], apart := false, laid := [("math/bits.deBruijn32tab", laid_math_bits_deBruijn32tab), ("unicode/utf8.acceptRanges", laid_unicode_utf8_acceptRanges), ("unicode/utf8.first", laid_unicode_utf8_first)], narrowed := true }
def PackEdgesUptoSaid : Prop := packEdgesUptoRow.holds Tryz.pinned (OpenSpec.upto packEdgesSpec)

/-- 'erratumlaw12.PackForms', WHERE WHAT IT READS IS OF BULK AT MOST 1048576: true; the input reads as it did. -/
def packFormsUptoRow : OpenClaim := { program := "ytnacbakcalcgaaagreatdoor", sum := "e6e22dc389ec8d7a3fcd2c008ab918ac5bf3ca730e779561b075e0fba325de11", func := "erratum/erratumlaw12.PackForms", spec := "packForms", unfollowed := true, recurses := true, named := ["unicode/utf8.first", "unicode/utf8.acceptRanges", "math/bits.deBruijn32tab"], apart := false, laid := [("math/bits.deBruijn32tab", laid_math_bits_deBruijn32tab), ("unicode/utf8.acceptRanges", laid_unicode_utf8_acceptRanges), ("unicode/utf8.first", laid_unicode_utf8_first)], narrowed := true }
def PackFormsUptoSaid : Prop := packFormsUptoRow.holds Tryz.pinned (OpenSpec.upto packFormsSpec)

/-- 'erratumlaw12.PackRefused', WHERE WHAT IT READS IS OF BULK AT MOST 1048576: true; the input reads as it did. -/
def packRefusedUptoRow : OpenClaim := { program := "ytnacbakcalcgaaagreatdoor", sum := "e6e22dc389ec8d7a3fcd2c008ab918ac5bf3ca730e779561b075e0fba325de11", func := "erratum/erratumlaw12.PackRefused", spec := "packRefused", unfollowed := true, recurses := true, named := ["unicode/utf8.first", "unicode/utf8.acceptRanges", "math/bits.deBruijn32tab"], apart := false, laid := [("math/bits.deBruijn32tab", laid_math_bits_deBruijn32tab), ("unicode/utf8.acceptRanges", laid_unicode_utf8_acceptRanges), ("unicode/utf8.first", laid_unicode_utf8_first)], narrowed := true }
def PackRefusedUptoSaid : Prop := packRefusedUptoRow.holds Tryz.pinned (OpenSpec.upto packRefusedSpec)

/-- 'erratumlaw12.PackOrder', WHERE WHAT IT READS IS OF BULK AT MOST 1048576: true; the input reads as it did. -/
def packOrderUptoRow : OpenClaim := { program := "ytnacbakcalcgaaagreatdoor", sum := "e6e22dc389ec8d7a3fcd2c008ab918ac5bf3ca730e779561b075e0fba325de11", func := "erratum/erratumlaw12.PackOrder", spec := "packOrder", unfollowed := true, recurses := true, named := ["unicode/utf8.first", "unicode/utf8.acceptRanges", "math/bits.deBruijn32tab"], apart := false, laid := [("math/bits.deBruijn32tab", laid_math_bits_deBruijn32tab), ("unicode/utf8.acceptRanges", laid_unicode_utf8_acceptRanges), ("unicode/utf8.first", laid_unicode_utf8_first)], narrowed := true }
def PackOrderUptoSaid : Prop := packOrderUptoRow.holds Tryz.pinned (OpenSpec.upto packOrderSpec)

end Rows
end Go.Proofs.YtnacbakcalcgaaaGreatDoor
