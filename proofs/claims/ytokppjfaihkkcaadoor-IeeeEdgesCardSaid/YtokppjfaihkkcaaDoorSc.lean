/- A call of a function by its contract, as one step of a region that draws its order. -/
import Derived.Deep.RegionLaw
import Derived.Deep.RegionHeldLaw
import Derived.Test.YtokppjfaihkkcaaDoorFgs
import Derived.Test.YtokppjfaihkkcaaDoorRn
namespace Go.Proofs.YtokppjfaihkkcaaDoor
open Go.RowKit Go.Sort
set_option linter.unusedVariables false
set_option linter.unusedSimpArgs false

theorem Ctx.dropTwo {w0 w : World} {a b : Ent} {l : List Ent} (h : Ctx w0 w (a :: b :: l)) : Ctx w0 w (a :: l) :=
  ⟨h.below, fun y hy => h.all y (by rcases List.mem_cons.1 hy with rfl | h1 <;> simp [*])⟩
theorem step_call {w : World} {ops : Array Oper} {o : Oper} {a : Act} {K : Act → World → Prop} {Q : Exit → Act → World → Prop} {E : Prop} (hgd : o.guard = none) (n : Nat) (fn : Func) (hf : Tryd.prog.funcs[n]? = some fn) (hn : (fn.name == "runtime.NumGoroutine") = false) (hb : fn.body.isNone = false)
    (args : Array Operand) (ts : Array TypeId) (ho : o.op = .call { callee := .value (.func n), args := args, argTypes := ts }) (vs : Array Value) (hv : args.map a.eval = vs) {Post : Ending → World → Prop} (C : Calls Tryd.prog n vs w Post)
    (h : ∀ r w', Post r w' → ∃ v, r = .returned v ∧ K (a.put o.dst v) w') :
    if Region.wanted o (yielded ops a.tmps) = true then Oper.wp Tryd.prog o a w K Q else E := by
  have hw : Region.wanted o (yielded ops a.tmps) = true := by simp [Region.wanted, hgd]
  rw [if_pos hw]
  have hx : (execOp a.eval o).run Tryd.prog w = .ok (.enter n vs) w := by
    have e0 : a.eval (.func n) = .func (.func n) #[] #[] := rfl
    simp [execOp, ho, resolve, Deferred.ofValue, invoke, callFunc, hf, hv, e0, go_sem]
    rw [if_neg (by simpa using hn), if_neg (by intro h0; rw [h0] at hb; cases hb)]
  unfold Oper.wp
  rw [hx, Oper.upon_enter]
  exact C.mono (fun r w' hp => by obtain ⟨v, rfl, hk⟩ := h r w' hp; exact hk)
/-- One limb appended: what else is in the world stays. -/
theorem step_append2 {w : World} {ops : Array Oper} {o : Oper} {a : Act} {K : Act → World → Prop} {Q : Exit → Act → World → Prop} {E : Prop} (hgd : o.guard = none) (s x : Operand)
    (ho : o.op = .call { callee := .builtin .append, args := #[s, x], argTypes := #[23, 23] }) (B : Nat) (v : Value) (xs : List Nat) (hs : a.eval s = v) (hown : Own B w v xs)
    (ad : Addr) (c : Nat) (y : Nat) (hx : a.eval x = .slice (some ad) 1 c) (hy : y < B32) (hc : w.cell? ad = some (.int .u32 (y : Int))) (hl : xs.length ≤ 1000000000) (hB : B ≤ w.heap.size)
    (h : ∀ v' w', Own B w' v' (xs ++ [y]) → Below B w w' → w.grownBy w' v.ownBlock → K (a.put o.dst v') w') :
    if Region.wanted o (yielded ops a.tmps) = true then Oper.wp Tryd.prog o a w K Q else E := by
  obtain ⟨i0, hi, hz0, hz1, hz2⟩ := info_parts info_u32
  refine step_append_lies w hgd s x 23 ho B 54 i0 (.int .u32 0) 1 4 Tryd.underlying23 hi hz0 hz1 hz2 rfl (by decide) v xs.length (xs.map lv) hs hown.row ad 1 c [lv y] hx rfl ?_ ?_ (by omega) (by unfold maxLen; omega) (by omega) hB _ rfl ?_
  · intro j u hj
    rcases j with _ | j
    · simp only [List.getElem?_cons_zero, Option.some.injEq] at hj
      subst hj; simpa [Addr.add, lv] using hc
    · simp at hj
  · intro u hu; simp only [List.mem_singleton] at hu; subst hu; rfl
  · intro g cap w' hown' hgr _ _
    refine h _ w' ?_ ((Below.refl _ _).grown hgr hB hown.blockGe) hgr
    have e : xs.map lv ++ [lv y] = (xs ++ [y]).map lv := by simp
    rw [e, show xs.length + 1 = (xs ++ [y]).length by simp] at hown'
    have := own_of_row hown' (hown.1.append (Okl.cons hy Okl.nil))
    simpa using this
/-- A box of nought, that nothing has touched. -/
structure BxZ (w : World) (g : Nat) : Prop where
  lt : g < w.heap.size
  c0 : w.cell? ⟨g, 0, none⟩ = some (.bool false)
  c1 : w.cell? ⟨g, 1, none⟩ = some (.slice none 0 0)
  c2 : w.cell? ⟨g, 2, none⟩ = some (.int .i64 0)
  f0 : w.frozen? ⟨g, 0, none⟩ = false
  f1 : w.frozen? ⟨g, 1, none⟩ = false
  f2 : w.frozen? ⟨g, 2, none⟩ = false
theorem BxZ.step {w w' : World} {g : Nat} (h : BxZ w g) (hb : Below w.heap.size w w') : BxZ w' g :=
  ⟨Nat.lt_of_lt_of_le h.lt hb.size, (hb.cell (p := ⟨g, 0, none⟩) h.lt).trans h.c0, (hb.cell (p := ⟨g, 1, none⟩) h.lt).trans h.c1, (hb.cell (p := ⟨g, 2, none⟩) h.lt).trans h.c2,
    (hb.frozen (p := ⟨g, 0, none⟩) h.lt).trans h.f0, (hb.frozen (p := ⟨g, 1, none⟩) h.lt).trans h.f1, (hb.frozen (p := ⟨g, 2, none⟩) h.lt).trans h.f2⟩
theorem BxZ.grown {B : Nat} {w w' : World} {g k : Nat} (h : BxZ w g) (hb : Below B w w') (hg : w.grownBy w' (some k)) (hne : g ≠ k) : BxZ w' g := by
  have e : ∀ j, some (Addr.block ⟨g, j, none⟩) ≠ some k := fun j hj => hne (Option.some.inj hj)
  exact ⟨Nat.lt_of_lt_of_le h.lt hb.size, (hg.cell_far ⟨g, 0, none⟩ h.lt (e 0)).trans h.c0, (hg.cell_far ⟨g, 1, none⟩ h.lt (e 1)).trans h.c1, (hg.cell_far ⟨g, 2, none⟩ h.lt (e 2)).trans h.c2,
    (hg.frozen_far ⟨g, 0, none⟩ h.lt (e 0)).trans h.f0, (hg.frozen_far ⟨g, 1, none⟩ h.lt (e 1)).trans h.f1, (hg.frozen_far ⟨g, 2, none⟩ h.lt (e 2)).trans h.f2⟩
theorem bxz_new (w : World) : BxZ (w.alloc (.cells #[.bool false, .slice none 0 0, .int .i64 0] 25)) w.heap.size := ⟨by simp, by simp, by simp, by simp, by simp, by simp, by simp⟩
theorem BxZ.alloc {w : World} {g : Nat} (h : BxZ w g) (o : Obj) : BxZ (w.alloc o) g := h.step ((Below.refl _ _).alloc (Nat.le_refl _) _)
/-- The limbs that a call has copied: where they lie. -/
theorem own_at {B : Nat} {w : World} {v : Value} {xs : List Nat} (h : Own B w v xs) (h0 : xs ≠ []) : ∃ g cap, v = .slice (some ⟨g, 0, none⟩) xs.length cap ∧ B ≤ g ∧ g < w.heap.size := by
  obtain ⟨_, ⟨_, h1⟩ | ⟨g, cap, r, e, hg, hb, hc⟩⟩ := h
  · exact absurd h1 h0
  · exact ⟨g, cap, e, hg, hb.lt⟩
theorem bx_box3 {w : World} {g : Nat} (h : BxZ w g) (neg : Bool) (v : Value) (e : Int) : Bx (((w.setCell ⟨g, 0, none⟩ (.bool neg)).setCell ⟨g, 1, none⟩ v).setCell ⟨g, 2, none⟩ (.int .i64 e)) g neg v e := by
  obtain ⟨zl, z0, z1, z2, _, _, _⟩ := h
  have a1 : (w.setCell ⟨g, 0, none⟩ (.bool neg)).cell? ⟨g, 1, none⟩ = some (.slice none 0 0) := by rw [World.cell?_setCell_other (h := by simp)]; exact z1
  have a2 : ((w.setCell ⟨g, 0, none⟩ (.bool neg)).setCell ⟨g, 1, none⟩ v).cell? ⟨g, 2, none⟩ = some (.int .i64 0) := by rw [World.cell?_setCell_other (h := by simp), World.cell?_setCell_other (h := by simp)]; exact z2
  refine ⟨by simpa [World.setCell] using zl, ?_, ?_, ?_⟩
  · rw [World.cell?_setCell_other (h := by simp), World.cell?_setCell_other (h := by simp), World.cell?_setCell_same (h := z0)]
  · rw [World.cell?_setCell_other (h := by simp), World.cell?_setCell_same (h := a1)]
  · rw [World.cell?_setCell_same (h := a2)]
end Go.Proofs.YtokppjfaihkkcaaDoor
