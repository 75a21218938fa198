/- Texts of the claim. -/
import Derived.Test.YtgolidabjcmofaaGreatDoorQK7
import Derived.Deep.RegionLaw
import Derived.Test.YtgolidabjcmofaaGreatDoorQa
namespace Go.Proofs.YtgolidabjcmofaaGreatDoor
open Go.RowKit
set_option linter.unusedVariables false
set_option linter.unusedSimpArgs false
section
variable {t e : TypeId} {z : Value} {size bytes : Nat}
end
theorem own_viewN {w : World} {B : Nat} {e : TypeId} {size : Nat} {v : Value} {n : Nat} {vs : List Value} (h : w.ownsRow B e size v n vs) :
    ∃ ad cap, v = .slice ad n cap ∧ n ≤ cap ∧ RdV w ad vs ∧ vs.length = n * size ∧ (∀ a, ad = some a → B ≤ a.block ∧ a.block < w.heap.size) ∧ (ad = none → cap = 0 ∧ n = 0) := by
  have hl : vs.length = n * size := h.1
  rcases h.2 with ⟨rfl, h0⟩ | ⟨g, cap, cur, rfl, hB, hg, hc, hm, hs, ht⟩
  · subst h0
    have : vs = [] := List.eq_nil_of_length_eq_zero (by simpa using hl)
    subst this
    exact ⟨none, 0, rfl, Nat.le_refl _, RdV.nil _ _, by simp, (fun a h => by cases h), fun _ => ⟨rfl, rfl⟩⟩
  · have hlt : g < w.heap.size := (Array.getElem?_eq_some_iff.1 hg).1
    refine ⟨_, cap, rfl, hc, ?_, hl, (fun a h => by cases h; exact ⟨hB, hlt⟩), fun h => by cases h⟩
    intro i hi
    refine ⟨g, 0, rfl, hlt, ?_⟩
    have hv : vs[i]? = some vs[i] := List.getElem?_eq_getElem hi
    have := World.ownsRow.cells h (g := g) rfl i vs[i] hv
    have hadd : (⟨g, 0, none⟩ : Addr).add i = ⟨g, 0 + i, none⟩ := by unfold Addr.add; split <;> simp_all
    rw [hadd] at this
    rw [this, hv]
end Go.Proofs.YtgolidabjcmofaaGreatDoor
namespace Go.Proofs.YtgolidabjcmofaaGreatDoor
open Go.RowKit Go.Shelf
set_option linter.unusedSimpArgs false
set_option linter.unusedVariables false
def RpQ (R : Act → World → Prop) (T : List PanicEntry → World → Prop) (e : Exit) (a : Act) (w : World) : Prop := match e with | .normal => R a w | .panic c => a.defers = [] ∧ T c w | _ => False
theorem rp_norm {P : Program} {C : Code} {Q : Exit → Act → World → Prop} {a : Act} {w : World} (h : ∀ (J : Act → World → Prop) (T : List PanicEntry → World → Prop), (∀ a' w', Q .normal a' w' → J a' w') → (∀ c w', (∀ a', a'.defers = [] → Q (.panic c) a' w') → T c w') → C.wp P (RpQ J T) a w) : C.wp P Q a w :=
  Code.wp_mono (fun e a' w' hr => by cases e <;> first | exact hr | exact hr.2 a' hr.1 | exact absurd hr id) (h (fun a w => Q .normal a w) (fun c w => ∀ a', a'.defers = [] → Q (.panic c) a' w) (fun _ _ h => h) (fun _ _ h => h))
section
variable {P : Program} {ops : Array Oper} {Q : Exit → Act → World → Prop} {S : Array Bool → World → Prop}
theorem rp_call {a : Act} {w : World} {K : Act → World → Prop} (i : Nat) (o : Oper) (n : Nat) (fn : Func) (f : Operand) (args : Array Operand) (ts : Array TypeId) (vs : Array Value) (dd : Option Tmp)
    (hi : ops[i]? = some o) (hdd : o.dst = dd) (hw : Region.wanted o (yielded ops a.tmps) = true)
    (ho : o.op = .call { callee := .value f, args := args, argTypes := ts }) (hff : a.eval f = .func (.func n) #[] #[]) (hfn : P.funcs[n]? = some fn) (hn : (fn.name == "runtime.NumGoroutine") = false) (hb : fn.body.isNone = false)
    (hv : args.map a.eval = vs) {Post : Ending → World → Prop} (C : Calls P n vs w Post) (h : ∀ r w', Post r w' → (∃ v, r = .returned v ∧ K (a.put dd v) w') ∨ (∃ c, r = .panicked c ∧ Q (.panic c) a w')) : wpOp P ops Q i K a w := by
  subst hdd
  unfold wpOp
  simp only [hi]
  rw [if_pos hw]
  refine .inl ?_
  unfold Oper.wp
  rw [rg_enter w a.eval o n fn f args ts vs ho hff hfn hn hb hv, Oper.upon_enter]
  exact C.mono (fun r w' hp => by
    rcases h r w' hp with ⟨v, rfl, hk⟩ | ⟨c, rfl, hq⟩
    · exact hk
    · exact hq)
theorem rp_storeM {a : Act} {w : World} {K : Act → World → Prop} (i : Nat) (o : Oper) (ty : TypeId) (x y : Operand) (b k : Nat) (cs : Array Value) (hi : ops[i]? = some o) (hdd : o.dst = none) (hw : Region.wanted o (yielded ops a.tmps) = true)
    (ho : o.op = .store ty x y) (hx : a.eval x = .pointer (some ⟨b, k, none⟩)) (hy : a.eval y = .agg cs) (h1 : (P.info? ty).map (·.size) = some cs.size) (hone : ∀ v ∈ cs, v.oneCell' = true)
    (hb : ∀ j, j < cs.size → (w.cell? ⟨b, k + j, none⟩).isSome = true ∧ w.frozen? ⟨b, k + j, none⟩ = false)
    (h : K a (w.setCells b k cs.toList)) : wpOp P ops Q i K a w := by
  unfold wpOp
  simp only [hi]
  rw [if_pos hw]
  refine .inl ?_
  refine wp_store_mid ty x y ho b k cs hx hy ?_ h1 ?_ ?_
  · intro j hj
    exact hb j hj
  · rw [Array.all_eq_true]
    intro j hj
    exact hone _ (Array.getElem_mem hj)
  · rw [hdd]
    exact h
end
end Go.Proofs.YtgolidabjcmofaaGreatDoor
