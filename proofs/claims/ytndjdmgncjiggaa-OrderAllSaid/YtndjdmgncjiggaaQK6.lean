/- The walk of tree's sound. -/
import Derived.Test.YtndjdmgncjiggaaQe
namespace Go.Proofs.Ytndjdmgncjiggaa
open Go.RowKit Go.Shelf
set_option linter.unusedVariables false
set_option linter.unusedSimpArgs false

/-- Whether a tree may be, whatever the trees in it are. -/
def soundB (t : MT) : Bool :=
  if t.c.k = 1 then blankB t.c
  else if t.c.k = 2 then blankB { t.c with b := false }
  else if t.c.k = 3 then chkB t.c.neg t.m t.c.e && blankB { t.c with neg := false, ma := none, mn := 0, mc := 0, e := 0 }
  else if t.c.k = 4 then validL t.c.s.data.toList && (decide (t.c.s.size ≤ 2000) && blankB { t.c with s := ⟨#[]⟩ })
  else if t.c.k = 5 then decide (t.c.s.size ≤ 2000) && blankB { t.c with s := ⟨#[]⟩ }
  else if t.c.k = 7 then decide (t.c.kn = t.c.vn) && (risesB t.k && (decide (t.c.vn ≤ 300) && blankB { t.c with ka := none, kn := 0, kc := 0, va := none, vn := 0, vc := 0 }))
  else if t.c.k = 6 then decide (t.c.vn ≤ 300) && blankB { t.c with va := none, vn := 0, vc := 0 }
  else false
/-- A box, and a copy of it. -/
def two (w : World) (c : Cel) : World := (w.alloc (.cells c.cells.toArray 31)).alloc (.cells c.cells.toArray 31)
theorem two_box (w : World) (c : Cel) : BoxT (two w c) w.heap.size c ∧ BoxT (two w c) (w.heap.size + 1) c := by
  refine ⟨?_, ?_⟩
  · exact (Below.heap_alloc _ _ _ (by simp)).trans (heap_alloc_new w _)
  · have := heap_alloc_new (w.alloc (.cells c.cells.toArray 31)) (.cells c.cells.toArray 31)
    rw [World.size_alloc] at this; exact this
theorem two_below (w : World) (c : Cel) : Below w.heap.size w (two w c) := ((Below.refl _ _).alloc (Nat.le_refl _) _).alloc (by simp) _
theorem two_size (w : World) (c : Cel) : (two w c).heap.size = w.heap.size + 2 := by simp [two]
/-- What stands in the copy behind a call. -/
theorem two_after {w w1 : World} {c : Cel} (h : Below (two w c).heap.size (two w c) w1) : BoxT w1 w.heap.size c ∧ BoxT w1 (w.heap.size + 1) c ∧ Below w.heap.size w w1 ∧ w.heap.size + 2 ≤ w1.heap.size := by
  obtain ⟨h1, h2⟩ := two_box w c
  have hs := two_size w c
  exact ⟨h1.on (h.block _ (by omega)), h2.on (h.block _ (by omega)), below_on (two_below w c) h, by have := h.size; omega⟩

def two2 (w : World) (c d : Cel) : World := (w.alloc (.cells c.cells.toArray 31)).alloc (.cells d.cells.toArray 31)
theorem two_below2 (w : World) (c d : Cel) : Below w.heap.size w (two2 w c d) := ((Below.refl _ _).alloc (Nat.le_refl _) _).alloc (by simp) _
end Go.Proofs.Ytndjdmgncjiggaa
