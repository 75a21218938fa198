/- The walk of tree's Same. -/
import Derived.Test.YtndjdmgncjiggaaQKm
import Derived.Deep.CutRange
import Derived.Deep.RegionHeldLaw
namespace Go.Proofs.Ytndjdmgncjiggaa
open Go.RowKit Go.Shelf
set_option linter.unusedVariables false
set_option linter.unusedSimpArgs false

theorem step_callT {w : World} {ops : Array Oper} {o : Oper} {a : Act} {K : Act → World → Prop} {Q : Exit → Act → World → Prop} {E : Prop} (hgd : o.guard = none) (n : Nat) (fn : Func) (hf : Try.prog.funcs[n]? = some fn) (hn : (fn.name == "runtime.NumGoroutine") = false) (hb : fn.body.isNone = false)
    (args : Array Operand) (ts : Array TypeId) (ho : o.op = .call { callee := .value (.func n), args := args, argTypes := ts }) (vs : Array Value) (hv : args.map a.eval = vs) {Post : Ending → World → Prop} (C : Calls Try.prog n vs w Post)
    (h : ∀ r w', Post r w' → ∃ v, r = .returned v ∧ K (a.put o.dst v) w') :
    if Region.wanted o (yielded ops a.tmps) = true then Oper.wp Try.prog o a w K Q else E := by
  have hw : Region.wanted o (yielded ops a.tmps) = true := by simp [Region.wanted, hgd]
  rw [if_pos hw]
  have hx : (execOp a.eval o).run Try.prog w = .ok (.enter n vs) w := by
    have e0 : a.eval (.func n) = .func (.func n) #[] #[] := rfl
    simp [execOp, ho, resolve, Deferred.ofValue, invoke, callFunc, hf, hv, e0, go_sem]
    rw [if_neg (by simpa using hn), if_neg (by intro h0; rw [h0] at hb; cases hb)]
  unfold Oper.wp
  rw [hx, Oper.upon_enter]
  exact C.mono (fun r w' hp => by obtain ⟨v, rfl, hk⟩ := h r w' hp; exact hk)
theorem own_two (w : World) (B : Nat) (e : TypeId) (x y : Value) (hB : B ≤ w.heap.size) : (w.alloc (.cells #[x, y] e)).ownsRow B e 2 (.slice (some ⟨w.heap.size, 0, none⟩) 1 1) 1 [x, y] :=
  ⟨rfl, .inr ⟨w.heap.size, 1, #[x, y], rfl, hB, heap_alloc_new w _, Nat.le_refl _, by decide, rfl, rfl⟩⟩
theorem own_set2 {w : World} {B : Nat} {e : TypeId} {g n m cap : Nat} {xs : List Value} (h : w.ownsRow B e 2 (.slice (some ⟨g, 0, none⟩) m cap) (n + 1) xs) (i : Nat) (x : Value) : (w.setCell ⟨g, i, none⟩ x).ownsRow B e 2 (.slice (some ⟨g, 0, none⟩) m cap) (n + 1) (xs.set i x) := by
  rcases h.2 with ⟨h0, _⟩ | ⟨g', cap', cur, he, hB, hg, hc, hm, hs, ht⟩
  · cases h0
  · cases he
    refine ⟨by rw [List.length_set]; exact h.1, .inr ⟨g, cap, cur.setIfInBounds i x, rfl, hB, ?_, hc, hm, ?_, ?_⟩⟩
    · simp [World.setCell, Array.getElem?_modify, hg]
    · simp; omega
    · rw [← ht, Array.toList_setIfInBounds, List.take_set]
theorem bdc {w w' : World} (h : Below w.drew.heap.size w.drew w') : Below w.heap.size w w' := (below_drew (Below.refl _ _)).trans h
theorem bby {w w1 w2 : World} (h : Below w.heap.size w w1) (h2 : Below w1.heap.size w1 w2) : Below w.heap.size w w2 := h.trans (h2.mono h.size)
def ViaQ (R : Act → World → Prop) (e : Exit) (a : Act) (w : World) : Prop := match e with | .normal => R a w | _ => False
theorem wp_norm {P : Program} {C : Code} {Q : Exit → Act → World → Prop} {a : Act} {w : World} (h : ∀ J : Act → World → Prop, (∀ a' w', Q .normal a' w' → J a' w') → C.wp P (ViaQ J) a w) : C.wp P Q a w :=
  Code.wp_mono (fun e a' w' hr => by cases e <;> first | exact hr | exact absurd hr id) (h (fun a w => Q .normal a w) (fun _ _ h => h))
theorem wp_first {P : Program} {C : Code} {K' : Act → World → Prop} {Q' : Exit → Act → World → Prop} {a : Act} {w : World} (J : Act → World → Prop) (hK : ∀ a' w', Met J a' w' → K' a' w') (h : C.wp P (ViaQ J) a w) : C.wp P (Exit.then K' Q') a w :=
  Code.wp_mono (fun e a' w' hr => by cases e <;> first | exact hK a' w' hr | exact absurd hr id) h
theorem rd_two (w : World) (e : TypeId) (x y : Value) : RdV (w.alloc (.cells #[x, y] e)) (some ⟨w.heap.size, 0, none⟩) [x, y] := by
  intro i hi
  refine ⟨w.heap.size, 0, rfl, by simp, ?_⟩
  match i, hi with
  | 0, _ => simp
  | 1, _ => simp
theorem set2_cell {w : World} {g h i j o : Nat} (x y : Value) (hne : h ≠ g) : (((w.setCell ⟨g, i, none⟩ x).setCell ⟨g, j, none⟩ y).drew).cell? ⟨h, o, none⟩ = w.cell? ⟨h, o, none⟩ := by
  show ((w.setCell ⟨g, i, none⟩ x).setCell ⟨g, j, none⟩ y).cell? ⟨h, o, none⟩ = _
  rw [World.cell?_setCell_other (h := by simp [hne]), World.cell?_setCell_other (h := by simp [hne])]
/-- The place behind the first. -/
theorem se_none {w : World} {b o sm : Nat} {x : MT} {l : List MT} (h : SEOk w ⟨some ⟨b, o, none⟩, sm + 1, 0 + 1, x :: l⟩) : sm = 0 ∧ SEOk w ⟨some ⟨b, o, none⟩, 0, 0, l⟩ := by
  have h1 : l.length + 1 = sm + 1 := h.ln
  have h2 : sm + 1 ≤ 0 + 1 := h.lc
  have h3 : l = [] := List.eq_nil_of_length_eq_zero (by omega)
  subst h3
  exact ⟨by omega, rfl, Nat.le_refl _, Nat.zero_le _, RdV.nil _ _, fun s hs => by cases hs⟩
theorem se_more {w : World} {b o sm sd : Nat} {x : MT} {l : List MT} (h : SEOk w ⟨some ⟨b, o, none⟩, sm + 1, sd + 1, x :: l⟩) : SEOk w ⟨some ⟨b, o + 8, none⟩, sm, sd, l⟩ := by
  have h1 : l.length + 1 = sm + 1 := h.ln
  have h2 : sm + 1 ≤ sd + 1 := h.lc
  have h3 : sm + 1 ≤ 1000000000000000 := h.lm
  refine ⟨by show l.length = sm; omega, by show sm ≤ sd; omega, by show sm ≤ _; omega, ?_, fun s hs => h.rp s (by simp [hs])⟩
  have := h.rd.drop 8
  rw [← flat_tail] at this
  exact this
/-- The world behind the store of what is left of two lists. -/
def StoreCut (g q : Nat) (l l' : List MT) (w1 W2 wx : World) : Prop := ∃ (e : PE) (wm : World), e.a.l = l ∧ e.b.l = l' ∧ POk w1 e ∧ Below W2.heap.size W2 wm ∧ wx = ((wm.setCell ⟨g, q * 2, none⟩ e.a.val).setCell ⟨g, q * 2 + 1, none⟩ e.b.val).drew
/-- What parts answers, of a tree whose parts are known. -/
def PartsPost (v : Value) (w : World) (e : Ending) (w' : World) : Prop := e = .returned v ∧ Below w.heap.size w w'
end Go.Proofs.Ytndjdmgncjiggaa
