/- The walks of tree's all, Nodes, Depth, Weight, Check. -/
import Derived.Test.YtndjdmgncjiggaaQK6
namespace Go.Proofs.Ytndjdmgncjiggaa
open Go.RowKit Go.Shelf
set_option linter.unusedVariables false
set_option linter.unusedSimpArgs false
attribute [local go_sem] Oper.semAt_some

/-- What all's callers lay ahead of their loop. -/
theorem below_pre {w00 w W : World} (hb : Below w00.heap.size w00 w) {V : Nat → Prop} (hV : ∀ k, V k → w00.heap.size ≤ k) (h : KeepB V w W) : Below w00.heap.size w00 W := hb.trans (h.below hb.size hV)
theorem pre_le {xs pre : List (Nat × MT)} {x : Nat × MT} (h : pre ++ [x] <+: xs) : pre.length + 1 ≤ xs.length := by
  have := h.length_le; simpa using this
/-- One cell, which a loop's body writes. -/
def OneB (W : World) (b : Nat) (t : TypeId) (v : Value) : Prop := W.heap[b]? = some (.cells #[v] t)
theorem OneB.cell {W : World} {b t v} (h : OneB W b t v) : W.cell? ⟨b, 0, none⟩ = some v := by unfold OneB at h; simp [World.cell?, h]
theorem OneB.free {W : World} {b t v} (h : OneB W b t v) : W.frozen? ⟨b, 0, none⟩ = false := by unfold OneB at h; simp [World.frozen?, h]
theorem OneB.on {W W' : World} {b t v} (h : OneB W b t v) (hk : W'.heap[b]? = W.heap[b]?) : OneB W' b t v := by unfold OneB; rw [hk]; exact h
theorem OneB.set {W : World} {b t v} (h : OneB W b t v) (u : Value) : OneB (W.setCell ⟨b, 0, none⟩ u) b t u := by
  unfold OneB at h ⊢; simp [World.setCell, Array.getElem?_modify, h]
theorem OneB.lt {W : World} {b t v} (h : OneB W b t v) : b < W.heap.size := (Array.getElem?_eq_some_iff.1 h).1

/-- How deep the deepest is. -/
def deepL (l : List (Nat × MT)) : Nat := l.foldl (fun a x => max a x.1) 0
theorem deepL_snoc (l : List (Nat × MT)) (x : Nat × MT) : deepL (l ++ [x]) = max (deepL l) x.1 := by simp [deepL]
/-- What one weighs without those in it. -/
def wt (c : Cel) : Nat := if c.k = 3 then 1 + c.mn else if c.k = 4 ∨ c.k = 5 then 1 + c.s.size else 1
def wtL (l : List (Nat × MT)) : Nat := l.foldl (fun a x => a + wt x.2.c) 0
theorem wtL_snoc (l : List (Nat × MT)) (x : Nat × MT) : wtL (l ++ [x]) = wtL l + wt x.2.c := by simp [wtL]
theorem wtL_from (l : List (Nat × MT)) : ∀ a, l.foldl (fun a x => a + wt x.2.c) a = a + wtL l := by
  unfold wtL
  induction l with
  | nil => intro a; rfl
  | cons x l ih => intro a; rw [List.foldl_cons, List.foldl_cons, ih, ih (0 + _)]; omega
theorem wtL_app (l m : List (Nat × MT)) : wtL (l ++ m) = wtL l + wtL m := by
  unfold wtL; rw [List.foldl_append, wtL_from]; rfl
/-- Whether a tree may be. -/
def checkB (t : MT) : Bool := decide (t.nodes ≤ 2000) && (t.pre 1).all (fun x => decide (x.1 ≤ 64) && soundB x.2)
theorem checkB_yes {t : MT} {pre : List (Nat × MT)} (he : pre = t.pre 1) (hp : pre.length ≤ 2000) (ha : pre.all (fun x => decide (x.1 ≤ 64) && soundB x.2) = true) : checkB t = true := by
  subst he
  unfold checkB
  rw [← t.pre_len 1, decide_eq_true hp, ha]; rfl
theorem checkB_many {t : MT} {pre : List (Nat × MT)} (he : pre <+: t.pre 1) (hp : 2000 < pre.length) : checkB t = false := by
  have := he.length_le
  rw [t.pre_len 1] at this
  unfold checkB
  rw [decide_eq_false (by omega), Bool.false_and]
theorem checkB_no {t : MT} {pre : List (Nat × MT)} {x : Nat × MT} (he : pre ++ [x] <+: t.pre 1) (hp : (decide (x.1 ≤ 64) && soundB x.2) = false) : checkB t = false := by
  have hm : x ∈ t.pre 1 := he.subset (by simp)
  unfold checkB
  cases hb : (t.pre 1).all (fun x => decide (x.1 ≤ 64) && soundB x.2)
  · rw [Bool.and_false]
  · rw [List.all_eq_true.1 hb x hm] at hp; cases hp

end Go.Proofs.Ytndjdmgncjiggaa
