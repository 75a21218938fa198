/- Regions that draw their order and hold calls and conversions of bytes, step by step. -/
import Derived.Test.YtmnaccojekojkaaRh
import Derived.Deep.CutRange
import Derived.Deep.DeepCutAuto
namespace Go.Proofs.Ytmnaccojekojkaa
set_option linter.unusedSimpArgs false
set_option linter.unusedVariables false
section
variable {P : Program} {ops : Array Oper} {Q : Exit → Act → World → Prop} {S : Array Bool → World → Prop}
def RcQ (R : Act → World → Prop) (e : Exit) (a : Act) (w : World) : Prop := match e with | .normal => R a w | _ => False
theorem rc_norm {P : Program} {C : Code} {Q : Exit → Act → World → Prop} {a : Act} {w : World} (h : ∀ J : Act → World → Prop, (∀ a' w', Q .normal a' w' → J a' w') → C.wp P (RcQ J) a w) : C.wp P Q a w :=
  Code.wp_mono (fun e a' w' hr => by cases e <;> first | exact hr | exact absurd hr id) (h (fun a w => Q .normal a w) (fun _ _ h => h))
theorem rc_first {P : Program} {C : Code} {K' : Act → World → Prop} {Q' : Exit → Act → World → Prop} {a : Act} {w : World} (J : Act → World → Prop) (hK : ∀ a' w', Met J a' w' → K' a' w') (h : C.wp P (RcQ J) a w) : C.wp P (Exit.then K' Q') a w :=
  Code.wp_mono (fun e a' w' hr => by cases e <;> first | exact hK a' w' hr | exact absurd hr id) h
theorem rc_call {a : Act} {w : World} {K : Act → World → Prop} (i : Nat) (o : Oper) (n : Nat) (fn : Func) (f : Operand) (args : Array Operand) (ts : Array TypeId) (vs : Array Value) (dd : Option Tmp)
    (hi : ops[i]? = some o) (hdd : o.dst = dd) (hw : Region.wanted o (yielded ops a.tmps) = true)
    (ho : o.op = .call { callee := .value f, args := args, argTypes := ts }) (hff : a.eval f = .func (.func n) #[] #[]) (hfn : P.funcs[n]? = some fn) (hn : (fn.name == "runtime.NumGoroutine") = false) (hb : fn.body.isNone = false)
    (hv : args.map a.eval = vs) {Post : Ending → World → Prop} (C : Calls P n vs w Post) (h : ∀ r w', Post r w' → ∃ v, r = .returned v ∧ K (a.put dd v) w') : wpOp P ops Q i K a w := by
  subst hdd
  unfold wpOp
  simp only [hi]
  rw [if_pos hw]
  refine .inl ?_
  unfold Oper.wp
  rw [rg_enter w a.eval o n fn f args ts vs ho hff hfn hn hb hv, Oper.upon_enter]
  exact C.mono (fun r w' hp => by obtain ⟨v, rfl, hk⟩ := h r w' hp; exact hk)
theorem rc_conv (w : World) (ev : Operand → Value) (o : Oper) (s d : TypeId) (x : Operand) (xv v : Value) (ho : o.op = .convert s d x) (hx : ev x = xv) (hc : Sem.run P (convert s d xv) w = .ok v w) : (execOp ev o).run P w = .ok (.value v) w := by
  simp [execOp, ho, hx, hc, Result.andThen]
/-- A conversion of what stays is taken first. -/
theorem rc_take {f : Nat} {L : Array Bool} {a : Act} {w : World} (i : Nat) (o : Oper) (s d : TypeId) (x : Operand) (xv v : Value)
    (dd : Option Tmp) (hi : ops[i]? = some o) (hdd : o.dst = dd) (hs : Region.noSelect ops = true) (hf : Region.free .any ops L i = true) (hr : (Region.ready .any ops L).contains i = true)
    (hQ : ∀ c a w, Q (.panic c) (a.put dd v) w → Q (.panic c) a w) (hI : ∀ L w, S (L.setIfInBounds i true) w ↔ S L w) (hw : Region.wanted o (yielded ops a.tmps) = true) (ho : o.op = .convert s d x) (hx : a.eval x = xv)
    (hS : ∀ L W, Cl ops L → L.getD i true = false → S L W → Sem.run P (convert s d xv) W = .ok v W) (hC : Cl ops L) (h0 : S L w)
    (h : Cl ops (L.setIfInBounds i true) → S (L.setIfInBounds i true) w → wpAnyL P ops Q S f (L.setIfInBounds i true) (a.put dd v) w) : wpAnyL P ops Q S (f + 1) L a w := by
  subst hdd
  exact wpAnyL_take hi hs hf hr hQ hI (.inl ⟨hw, fun W ⟨L', h3, h1, h2⟩ => rc_conv W _ o s d x xv v ho hx (hS L' W h3 h1 h2)⟩) hC h0 h
theorem rc_addS (w : World) (ev : Operand → Value) (o : Oper) (ty ty' : TypeId) (x y : Operand) (s t : ByteArray) (ho : o.op = .binOp .add ty x y ty') (hx : ev x = .string s) (hy : ev y = .string t) (hn : s.size + t.size ≤ 1000000) :
    (execOp ev o).run P w = .ok (.value (.string (s ++ t))) w := by
  have h : ¬ (IntKind.i64.max < (s.size : Int) + (t.size : Int)) := by
    have : IntKind.i64.max = 9223372036854775807 := rfl
    omega
  simp [execOp, ho, hx, hy, go_sem, binOp, Op.stringOp, h]
  omega
theorem rc_neqS (w : World) (ev : Operand → Value) (o : Oper) (ty ty' : TypeId) (x y : Operand) (s : ByteArray) (ho : o.op = .binOp .neq ty x y ty') (hx : ev x = .string s) (hy : ev y = .string s) :
    (execOp ev o).run P w = .ok (.value (.bool false)) w := by
  simp [execOp, ho, hx, hy, go_sem, binOp, Op.stringOp]
theorem rc_three {p : Nat → Prop} (i j l : Nat) (h : p i) (h2 : p j) (h3 : p l) : ∀ k ∈ [i, j, l], p k := fun k hk => by
  rcases List.mem_cons.1 hk with rfl | hk
  · exact h
  · exact rl_two _ _ h2 h3 k hk
end
end Go.Proofs.Ytmnaccojekojkaa
