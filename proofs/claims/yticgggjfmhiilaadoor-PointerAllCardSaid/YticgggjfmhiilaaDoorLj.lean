/- Texts of the claim. -/
import Derived.Test.YticgggjfmhiilaaDoorLh
import Derived.Deep.RegionHeldLaw
set_option linter.unusedVariables false
set_option linter.unusedSimpArgs false
set_option maxHeartbeats 200000
set_option maxRecDepth 100000
namespace Go.Proofs.YticgggjfmhiilaaDoor
open Go.RowKit Go.Shelf
theorem step_callT {w:World} {ops:Array Oper} {o:Oper} {a:Act} {K:Act→World→Prop} {Q:Exit→Act→World→Prop} {E:Prop} (hgd:o.guard=none) (n:Nat) (fn:Func) (hf:Tryd.prog.funcs[n]? = some fn) (hn:(fn.name == "runtime.NumGoroutine")=false) (hb:fn.body.isNone=false)
    (args:Array Operand) (ts:Array TypeId) (ho:o.op=.call { callee:=.value (.func n),args:=args,argTypes:=ts }) (vs:Array Value) (hv:args.map a.eval=vs) {Post:Ending→World→Prop} (C:Calls Tryd.prog n vs w Post)
    (h:∀ r w',Post r w'→∃ v,r=.returned v∧K (a.put o.dst v) w') :
    if Region.wanted o (yielded ops a.tmps)=true then Oper.wp Tryd.prog o a w K Q else E:=by
  have hw:Region.wanted o (yielded ops a.tmps)=true:=by simp [Region.wanted,hgd]
  rw [if_pos hw]
  have hx:(execOp a.eval o).run Tryd.prog w=.ok (.enter n vs) w:=by
    have e0:a.eval (.func n)=.func (.func n) #[] #[]:=rfl
    simp [execOp,ho,resolve,Deferred.ofValue,invoke,callFunc,hf,hv,e0,go_sem]
    rw [if_neg (by simpa using hn),if_neg (by intro h0;rw [h0] at hb;cases hb)]
  unfold Oper.wp
  rw [hx,Oper.upon_enter]
  exact C.mono (fun r w' hp=>by obtain ⟨v,rfl,hk⟩:=h r w' hp;exact hk)
theorem bdc {w w':World} (h:Below w.drew.heap.size w.drew w'):Below w.heap.size w w':=(below_drew (Below.refl _ _)).trans h
theorem bby {w w1 w2:World} (h:Below w.heap.size w w1) (h2:Below w1.heap.size w1 w2):Below w.heap.size w w2:=h.trans (h2.mono h.size)
def ViaQ (R:Act→World→Prop) (e:Exit) (a:Act) (w:World):Prop:=match e with | .normal=>R a w | _=>False
theorem wp_norm {P:Program} {C:Code} {Q:Exit→Act→World→Prop} {a:Act} {w:World} (h:∀ J:Act→World→Prop,(∀ a' w',Q .normal a' w'→J a' w')→C.wp P (ViaQ J) a w):C.wp P Q a w :=
  Code.wp_mono (fun e a' w' hr=>by cases e <;> first | exact hr | exact absurd hr id) (h (fun a w=>Q .normal a w) (fun _ _ h=>h))
theorem wp_first {P:Program} {C:Code} {K':Act→World→Prop} {Q':Exit→Act→World→Prop} {a:Act} {w:World} (J:Act→World→Prop) (hK:∀ a' w',Met J a' w'→K' a' w') (h:C.wp P (ViaQ J) a w):C.wp P (Exit.then K' Q') a w :=
  Code.wp_mono (fun e a' w' hr=>by cases e <;> first | exact hK a' w' hr | exact absurd hr id) h
end Go.Proofs.YticgggjfmhiilaaDoor
