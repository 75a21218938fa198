/- The walks of tree's Member, Unset, Set. -/
import Derived.Test.YtndjdmgncjiggaaQj
namespace Go.Proofs.Ytndjdmgncjiggaa
open Go.RowKit Go.Shelf
set_option linter.unusedVariables false
set_option linter.unusedSimpArgs false

/-- An object's names, its values: as many of both; of another value none. -/
def nmsL (t : MT) : List ByteArray := if t.c.k = 7 then t.k.take (min t.c.kn t.c.vn) else []
def valsL (t : MT) : List MT := if t.c.k = 7 then t.v.take (min t.c.kn t.c.vn) else []
theorem nms_len {w : World} {t : MT} (h : Rd1 w t) : (nmsL t).length = (valsL t).length := by
  unfold nmsL valsL
  split
  · have := h.kn; have := h.vn; simp; omega
  · rfl
/-- What members answers, as slices that can be read. -/
theorem mem_ok {w : World} {t : MT} (h : Rd1 w t) : ∃ ad n cap ad' cap', (if t.c.k = 7 then #[.slice t.c.ka (min t.c.kn t.c.vn) t.c.kc, .slice t.c.va (min t.c.kn t.c.vn) t.c.vc] else #[.slice none 0 0, .slice none 0 0]) = #[Value.slice ad n cap, Value.slice ad' n cap'] ∧
    (nmsL t).length = n ∧ (valsL t).length = n ∧ n ≤ cap ∧ n ≤ cap' ∧ n ≤ t.c.kn ∧ n ≤ t.c.vn ∧ RdV w ad (sv (nmsL t)) ∧ RdV w ad' (flat ((valsL t).map MT.c)) := by
  unfold nmsL valsL
  split
  · have h1 := h.kn; have h2 := h.vn; have h3 := h.kc; have h4 := h.vc
    refine ⟨_, _, _, _, _, rfl, by simp; omega, by simp; omega, by omega, by omega, by omega, by omega, ?_, ?_⟩
    · have := h.kr.take (min t.c.kn t.c.vn)
      simpa [sv, List.map_take] using this
    · rw [List.map_take, flat_take]; exact h.vr.take _
  · exact ⟨_, _, _, _, _, rfl, rfl, rfl, Nat.le_refl _, Nat.le_refl _, Nat.zero_le _, Nat.zero_le _, RdV.nil _ _, RdV.nil _ _⟩
/-- The member of a name. -/
def memC (t : MT) (s : ByteArray) : Cel := match ixL (nmsL t) s with | none => leafC 0 false ⟨#[]⟩ | some i => ((valsL t).getD i (leafT 0 false ⟨#[]⟩)).c
def memB (t : MT) (s : ByteArray) : Bool := (ixL (nmsL t) s).isSome
theorem memC_no {t : MT} {s : ByteArray} (h : ixL (nmsL t) s = none) : memC t s = leafC 0 false ⟨#[]⟩ := by unfold memC; rw [h]
theorem memC_at {t : MT} {s : ByteArray} {i : Nat} (h : ixL (nmsL t) s = some i) : memC t s = ((valsL t).getD i (leafT 0 false ⟨#[]⟩)).c := by unfold memC; rw [h]

/-- The world behind the store of a value into a variable. -/
def put0 (w : World) (b : Nat) (c : Cel) : World :=
  (((((((w.setCell ⟨b, 0, none⟩ (.int .i64 c.k)).setCell ⟨b, 1, none⟩ (.bool c.b)).setCell ⟨b, 2, none⟩ (.bool c.neg)).setCell ⟨b, 3, none⟩ (.slice c.ma c.mn c.mc)).setCell ⟨b, 4, none⟩ (.int .i64 c.e)).setCell ⟨b, 5, none⟩ (.string c.s)).setCell ⟨b, 6, none⟩ (.slice c.ka c.kn c.kc)).setCell ⟨b, 7, none⟩ (.slice c.va c.vn c.vc)
theorem put0_eq (w : World) (b : Nat) (c : Cel) : put0 w b c = put8 w b (0 * 8) c := by simp [put0, put8]
theorem box_blk {w : World} {b : Nat} {c : Cel} (h : BoxT w b c) : BlkV w b 31 (flat [c]) := by unfold BlkV; unfold BoxT at h; simpa [flat] using h
theorem blk_box {w : World} {b : Nat} {c : Cel} (h : BlkV w b 31 (flat [c])) : BoxT w b c := by unfold BlkV at h; unfold BoxT; simpa [flat] using h
theorem put0_box {w : World} {b : Nat} {c0 c : Cel} (h : BoxT w b c0) : BoxT (put0 w b c) b c := by
  rw [put0_eq]
  exact blk_box (put8_blk (box_blk h) 0 (by simp) c)
theorem put0_but (w : World) (b : Nat) (c : Cel) : But b w (put0 w b c) := by rw [put0_eq]; exact put8_but _ _ _ _
/-- A variable's cells: what they hold, and that they may be written. -/
def Var (w : World) (b : Nat) (c : Cel) : Prop :=
  (w.cell? ⟨b, 0, none⟩ = some (.int .i64 c.k) ∧ w.cell? ⟨b, 1, none⟩ = some (.bool c.b) ∧ w.cell? ⟨b, 2, none⟩ = some (.bool c.neg) ∧ w.cell? ⟨b, 3, none⟩ = some (.slice c.ma c.mn c.mc) ∧
    w.cell? ⟨b, 4, none⟩ = some (.int .i64 c.e) ∧ w.cell? ⟨b, 5, none⟩ = some (.string c.s) ∧ w.cell? ⟨b, 6, none⟩ = some (.slice c.ka c.kn c.kc) ∧ w.cell? ⟨b, 7, none⟩ = some (.slice c.va c.vn c.vc)) ∧
  (w.frozen? ⟨b, 0, none⟩ = false ∧ w.frozen? ⟨b, 1, none⟩ = false ∧ w.frozen? ⟨b, 2, none⟩ = false ∧ w.frozen? ⟨b, 3, none⟩ = false ∧ w.frozen? ⟨b, 4, none⟩ = false ∧ w.frozen? ⟨b, 5, none⟩ = false ∧ w.frozen? ⟨b, 6, none⟩ = false ∧ w.frozen? ⟨b, 7, none⟩ = false)
theorem BoxT.var {w : World} {b : Nat} {c : Cel} (h : BoxT w b c) : Var w b c := ⟨h.cells, h.free 0, h.free 1, h.free 2, h.free 3, h.free 4, h.free 5, h.free 6, h.free 7⟩
theorem two2_box (w : World) (c d : Cel) : BoxT (two2 w c d) w.heap.size c ∧ BoxT (two2 w c d) (w.heap.size + 1) d := by
  refine ⟨(Below.heap_alloc _ _ _ (by simp)).trans (heap_alloc_new w _), ?_⟩
  have := heap_alloc_new (w.alloc (.cells c.cells.toArray 31)) (.cells d.cells.toArray 31)
  rw [World.size_alloc] at this; exact this
theorem two2_size (w : World) (c d : Cel) : (two2 w c d).heap.size = w.heap.size + 2 := by simp [two2]

theorem getD_mapc {l : List MT} {i : Nat} (h : i < l.length) (d : MT) : (l.map MT.c).getD i zeroC = (l.getD i d).c := by simp [List.getD, h]
end Go.Proofs.Ytndjdmgncjiggaa
