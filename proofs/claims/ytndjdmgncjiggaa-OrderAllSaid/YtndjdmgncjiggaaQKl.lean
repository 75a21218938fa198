/- The walks of slices.Equal on texts, tree's alike, parts. -/
import Derived.Test.YtndjdmgncjiggaaQk
namespace Go.Proofs.Ytndjdmgncjiggaa
open Go.RowKit Go.Shelf
set_option linter.unusedVariables false
set_option linter.unusedSimpArgs false

def EQ (l m : List ByteArray) (w : World) (k : Nat) (i : Value) (wr : World) : Prop :=
  ∃ j : Nat, j ≤ l.length ∧ l.length - j ≤ k ∧ i = .int .i64 (j : Int) ∧ (∀ q, q < j → l.getD q ByteArray.empty = m.getD q ByteArray.empty) ∧ Below w.heap.size w wr
theorem eq_all {l m : List ByteArray} (hl : l.length = m.length) (h : ∀ q, q < l.length → l.getD q ByteArray.empty = m.getD q ByteArray.empty) : l = m := by
  apply List.ext_getElem hl
  intro i h1 h2
  have := h i h1
  simpa [List.getD, h1, h2] using this

end Go.Proofs.Ytndjdmgncjiggaa
