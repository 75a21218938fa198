/-
  No cell of these rows narrows 'for every input' (looked for: loops, veiled, ifaces, maps, wideKeys, modest, calm, conditions, laid).
  DERIVED. THE GIVEN ROWS OF THIS SEAT. 3 by the template 'for every input the law returns true; each argument reads behind the call as it read before'; 0 by the template 'total and deterministic' (their statements: YtokgodobmcbdoaaTotals.lean).
  GIVEN WITH THE SEED: the statements are not yours to turn. If you find one false, say at which input.
  Laid BY PROGRAM, IN A SANDBOX (cutbox-rows.mjs): the forced cells as the released guide's own fill.sh prints them over the translation 4a4d4a3b4c29fe4f… (all of the seat's roots in one cut). By AI agents, Wed Nov 11 2026. No macro, syntax, notation, axiom, sorry.
-/
import Derived.Test.YtokgodobmcbdoaaChecked
import GoSem.Claim
import GoSem.ClaimJoined
import GoSem.ClaimMapViews
import Derived.JoinedTies
import Derived.KernelRfl
namespace Go.Proofs.Ytokgodobmcbdoaa
/- THE CELL 'sum', in the pinned program and in every row, IS THE sha256 OF THE DUMP (.gsa) THAT YtokgodobmcbdoaaProg.lean LOADS. Nothing in Lean hashes anything: it is a label: what it is worth is what the hold of that sum in a sandbox is worth. -/
noncomputable def Try.pinned : Pinned := { name := "ytokgodobmcbdoaa", sum := "4a4d4a3b4c29fe4f65c0e8407324203d73b49b94d234a6e0ffd5c826ac7fa457", checked := Try.checked }
namespace Rows
def none {H : Type} : Left H := { results := [], args := [] }

/-- 'erratumlaw09.CheadAll': WHATEVER THE INPUT: true; the input reads as it did. -/
def cheadAllSpec : ChangeSpec := { name := "cheadAll", fn := fun _ => fun
  | [d1, d2, d3, d4] => { results := [.lit (.bool true)], args := [d1, d2, d3, d4] }
  | _ => none }
def cheadAllRow : OpenClaim := { program := "ytokgodobmcbdoaa", sum := "4a4d4a3b4c29fe4f65c0e8407324203d73b49b94d234a6e0ffd5c826ac7fa457", func := "erratum/erratumlaw09.CheadAll", spec := "cheadAll", apart := false }
def CheadAllSaid : Prop := cheadAllRow.holds Try.pinned (OpenSpec.ofChange cheadAllSpec)

/-- ITS FALSE NEIGHBOUR: 'it returns false'. Refute it at one input. -/
def cheadAllWrong : ChangeSpec := { name := "cheadAll", fn := fun _ => fun
  | [d1, d2, d3, d4] => { results := [.lit (.bool false)], args := [d1, d2, d3, d4] }
  | _ => none }
def CheadAllWrongFalsely : Prop := cheadAllRow.holds Try.pinned (OpenSpec.ofChange cheadAllWrong)

/-- 'erratumlaw09.CheadBack': WHATEVER THE INPUT: true; the input reads as it did. -/
def cheadBackSpec : ChangeSpec := { name := "cheadBack", fn := fun _ => fun
  | [d1, d2, d3, d4] => { results := [.lit (.bool true)], args := [d1, d2, d3, d4] }
  | _ => none }
def cheadBackRow : OpenClaim := { program := "ytokgodobmcbdoaa", sum := "4a4d4a3b4c29fe4f65c0e8407324203d73b49b94d234a6e0ffd5c826ac7fa457", func := "erratum/erratumlaw09.CheadBack", spec := "cheadBack", apart := false }
def CheadBackSaid : Prop := cheadBackRow.holds Try.pinned (OpenSpec.ofChange cheadBackSpec)

/-- ITS FALSE NEIGHBOUR: 'it returns false'. Refute it at one input. -/
def cheadBackWrong : ChangeSpec := { name := "cheadBack", fn := fun _ => fun
  | [d1, d2, d3, d4] => { results := [.lit (.bool false)], args := [d1, d2, d3, d4] }
  | _ => none }
def CheadBackWrongFalsely : Prop := cheadBackRow.holds Try.pinned (OpenSpec.ofChange cheadBackWrong)

/-- 'erratumlaw09.CheadOrder': WHATEVER THE INPUT: true; the input reads as it did. -/
def cheadOrderSpec : ChangeSpec := { name := "cheadOrder", fn := fun _ => fun
  | [d1, d2, d3, d4, d5] => { results := [.lit (.bool true)], args := [d1, d2, d3, d4, d5] }
  | _ => none }
def cheadOrderRow : OpenClaim := { program := "ytokgodobmcbdoaa", sum := "4a4d4a3b4c29fe4f65c0e8407324203d73b49b94d234a6e0ffd5c826ac7fa457", func := "erratum/erratumlaw09.CheadOrder", spec := "cheadOrder", apart := false }
def CheadOrderSaid : Prop := cheadOrderRow.holds Try.pinned (OpenSpec.ofChange cheadOrderSpec)

/-- ITS FALSE NEIGHBOUR: 'it returns false'. Refute it at one input. -/
def cheadOrderWrong : ChangeSpec := { name := "cheadOrder", fn := fun _ => fun
  | [d1, d2, d3, d4, d5] => { results := [.lit (.bool false)], args := [d1, d2, d3, d4, d5] }
  | _ => none }
def CheadOrderWrongFalsely : Prop := cheadOrderRow.holds Try.pinned (OpenSpec.ofChange cheadOrderWrong)

/- THE SECOND FORM. 'bulk': how many values and letters a reading holds, each counted each time it is reached (what is shared counts as often as it is met; a slice's spare places count too). A statement '..UptoSaid' is the law's where the arguments, and the package variables that the reading takes, are together of bulk at most 1048576: NARROWER than '..Said'. Prove '..Said' where nothing that the law and all that it calls make is longer than what came in: it says more and counts as full. Else prove '..UptoSaid'. A law counts once. -/
mutual
def uptoBulk {H : Type} : DataW H → Nat
  | .lit (.string bytes) => bytes.length + 1
  | .lit _ => 1
  | .nil => 1
  | .ptr d => uptoBulk d + 1
  | .slice elems spare => uptoBulkAll elems + uptoBulkAll spare + 1
  | .agg parts => uptoBulkAll parts + 1
  | .iface _ d => uptoBulk d + 1
  | .map entries => uptoBulkEntries entries + 1
  | .held _ => 1
def uptoBulkAll {H : Type} : List (DataW H) → Nat
  | [] => 0
  | d :: r => uptoBulk d + uptoBulkAll r
def uptoBulkEntries {H : Type} : List (Lit × DataW H) → Nat
  | [] => 0
  | x :: r => uptoBulkEntry x + uptoBulkEntries r
def uptoBulkEntry {H : Type} : Lit × DataW H → Nat
  | (.string bytes, d) => bytes.length + uptoBulk d + 1
  | (_, d) => uptoBulk d + 1
 end
def uptoSmall : (H : Type) → List (DataW H) → Bool := fun _ ds => decide (uptoBulkAll ds ≤ 1048576)
def OpenSpec.upto (s : _root_.Go.ChangeSpec) : _root_.Go.OpenSpec := { _root_.Go.OpenSpec.ofChange s with cond := some uptoSmall }

/-- 'erratumlaw09.CheadAll', WHERE WHAT IT READS IS OF BULK AT MOST 1048576: true; the input reads as it did. -/
def cheadAllUptoRow : OpenClaim := { program := "ytokgodobmcbdoaa", sum := "4a4d4a3b4c29fe4f65c0e8407324203d73b49b94d234a6e0ffd5c826ac7fa457", func := "erratum/erratumlaw09.CheadAll", spec := "cheadAll", apart := false, narrowed := true }
def CheadAllUptoSaid : Prop := cheadAllUptoRow.holds Try.pinned (OpenSpec.upto cheadAllSpec)

/-- 'erratumlaw09.CheadBack', WHERE WHAT IT READS IS OF BULK AT MOST 1048576: true; the input reads as it did. -/
def cheadBackUptoRow : OpenClaim := { program := "ytokgodobmcbdoaa", sum := "4a4d4a3b4c29fe4f65c0e8407324203d73b49b94d234a6e0ffd5c826ac7fa457", func := "erratum/erratumlaw09.CheadBack", spec := "cheadBack", apart := false, narrowed := true }
def CheadBackUptoSaid : Prop := cheadBackUptoRow.holds Try.pinned (OpenSpec.upto cheadBackSpec)

/-- 'erratumlaw09.CheadOrder', WHERE WHAT IT READS IS OF BULK AT MOST 1048576: true; the input reads as it did. -/
def cheadOrderUptoRow : OpenClaim := { program := "ytokgodobmcbdoaa", sum := "4a4d4a3b4c29fe4f65c0e8407324203d73b49b94d234a6e0ffd5c826ac7fa457", func := "erratum/erratumlaw09.CheadOrder", spec := "cheadOrder", apart := false, narrowed := true }
def CheadOrderUptoSaid : Prop := cheadOrderUptoRow.holds Try.pinned (OpenSpec.upto cheadOrderSpec)

end Rows
end Go.Proofs.Ytokgodobmcbdoaa
