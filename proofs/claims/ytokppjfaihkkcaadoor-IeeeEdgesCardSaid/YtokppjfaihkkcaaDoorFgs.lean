/- One limb appended, as a step of a region that draws its order. -/
import Derived.Deep.AppendLies
import Derived.Test.YtokppjfaihkkcaaDoorFi
import Derived.Test.YtokppjfaihkkcaaDoorFb
namespace Go.Proofs.YtokppjfaihkkcaaDoor
open Go.RowKit Go.Sort
set_option linter.unusedVariables false
set_option linter.unusedSimpArgs false

theorem step_append {w : World} {ops : Array Oper} {o : Oper} {a : Act} {K : Act → World → Prop} {Q : Exit → Act → World → Prop} {E : Prop} (hgd : o.guard = none) (s x : Operand)
    (ho : o.op = .call { callee := .builtin .append, args := #[s, x], argTypes := #[23, 23] }) (B : Nat) (v : Value) (xs : List Nat) (hs : a.eval s = v) (hown : Own B w v xs)
    (ad : Addr) (c : Nat) (y : Nat) (hx : a.eval x = .slice (some ad) 1 c) (hy : y < B32) (hc : w.cell? ad = some (.int .u32 (y : Int))) (hl : xs.length ≤ 1000000000) (hB : B ≤ w.heap.size)
    (h : ∀ v' w', Own B w' v' (xs ++ [y]) → Below B w w' → K (a.put o.dst v') w') :
    if Region.wanted o (yielded ops a.tmps) = true then Oper.wp Tryd.prog o a w K Q else E := by
  obtain ⟨i0, hi, hz0, hz1, hz2⟩ := info_parts info_u32
  refine step_append_lies w hgd s x 23 ho B 54 i0 (.int .u32 0) 1 4 Tryd.underlying23 hi hz0 hz1 hz2 rfl (by decide) v xs.length (xs.map lv) hs hown.row ad 1 c [lv y] hx rfl ?_ ?_ (by omega) (by unfold maxLen; omega) (by omega) hB _ rfl ?_
  · intro j u hj
    rcases j with _ | j
    · simp only [List.getElem?_cons_zero, Option.some.injEq] at hj
      subst hj; simpa [Addr.add, lv] using hc
    · simp at hj
  · intro u hu; simp only [List.mem_singleton] at hu; subst hu; rfl
  · intro g cap w' hown' hgr _ _
    refine h _ w' ?_ ((Below.refl _ _).grown hgr hB hown.blockGe)
    have e : xs.map lv ++ [lv y] = (xs ++ [y]).map lv := by simp
    rw [e, show xs.length + 1 = (xs ++ [y]).length by simp] at hown'
    have := own_of_row hown' (hown.1.append (Okl.cons hy Okl.nil))
    simpa using this
end Go.Proofs.YtokppjfaihkkcaaDoor
