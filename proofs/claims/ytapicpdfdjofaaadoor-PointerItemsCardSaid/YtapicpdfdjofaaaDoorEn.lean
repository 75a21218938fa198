/- Texts of the claim. -/
import Derived.Test.YtapicpdfdjofaaaDoorEk
import Derived.Deep.DrawnRows
set_option linter.unusedVariables false
set_option linter.unusedSimpArgs false
set_option maxHeartbeats 200000
set_option maxRecDepth 100000
namespace Go.Proofs.YtapicpdfdjofaaaDoor
open Go.RowKit Go.Sort

end Go.Proofs.YtapicpdfdjofaaaDoor
namespace Go.Proofs.YtapicpdfdjofaaaDoor
open Go.RowKit Go.Sort
open Go.RowKit Go.Sort
structure Bx (w:World) (g:Nat) (neg:Bool) (v:Value) (e:Int):Prop where
  lt:g<w.heap.size
  c0:w.cell? ⟨g,0,none⟩=some (.bool neg)
  c1:w.cell? ⟨g,1,none⟩=some v
  c2:w.cell? ⟨g,2,none⟩=some (.int .i64 e)
theorem Bx.step {w w':World} {g:Nat} {neg:Bool} {v:Value} {e:Int} (h:Bx w g neg v e) (hb:Below w.heap.size w w'):Bx w' g neg v e :=
  ⟨Nat.lt_of_lt_of_le h.lt hb.size,(hb.cell (p:=⟨g,0,none⟩) h.lt).trans h.c0,(hb.cell (p:=⟨g,1,none⟩) h.lt).trans h.c1,(hb.cell (p:=⟨g,2,none⟩) h.lt).trans h.c2⟩
theorem Ctx.on {w0 w w':World} {l l':List Ent} (hc:Ctx w w' l') (h:Ctx w0 w l):Ctx w0 w' l':=⟨below_on h.below hc.below,hc.all⟩
end Go.Proofs.YtapicpdfdjofaaaDoor
namespace Go.Proofs.YtapicpdfdjofaaaDoor
open Go.RowKit




end Go.Proofs.YtapicpdfdjofaaaDoor
namespace Go.Proofs.YtapicpdfdjofaaaDoor
open Go.RowKit Go.Sort



end Go.Proofs.YtapicpdfdjofaaaDoor
namespace Go.Proofs.YtapicpdfdjofaaaDoor
section
variable {P : Program} {ops : Array Oper} {Q : Exit → Act → World → Prop} {S : World → Prop}
theorem rg_run1 (w:World) (ad:Addr) (ty:TypeId) (v:Value) (d:TypeDesc) (hc:w.cell? ad=some v) (hu:P.underlying ty=some d) (hd:d.isRow=false) :
    (Instr.loadAt ty (.pointer (some ad))).run P w=.ok v w:=by
  have hagg:(isAgg ty).run P w=.ok false w:=by
    unfold isAgg
    rw [Sem.run_bind,run_underlying hu w]
    cases d <;> simp_all
  simp [Instr.loadAt,Instr.sureAddr,Sem.run_bind,Sem.run_pure,Result.andThen_ok,loadVar,hagg,run_load,hc,Result.andThen]
theorem rg_load1 {fuel:Nat} {L:Array Bool} {a:Act} {w:World} (i:Nat) (o:Oper) (ty:TypeId) (x:Operand) (ad:Addr) (v:Value) (d:TypeDesc)
    (dd:Option Tmp) (hi:ops[i]? = some o) (hdd:o.dst=dd) (hs:Region.noSelect ops=true) (hf:Region.free .any ops L i=true) (hr:(Region.ready .any ops L).contains i=true)
    (hQ:∀ c a w,Q (.panic c) (a.put dd v) w→Q (.panic c) a w) (hw:Region.wanted o (yielded ops a.tmps)=true) (ho:o.op=.load ty x) (hx:a.eval x=.pointer (some ad))
    (hu:P.underlying ty=some d) (hd:d.isRow=false) (hS:∀ w,S w→w.cell? ad=some v) (h0:S w)
    (h:wpAnyH P .any ops Q S fuel (L.setIfInBounds i true) (a.put dd v) w):wpAnyH P .any ops Q S (fuel+1) L a w:=by
  subst hdd
  exact wpAnyH_take hi hs hf hr hQ (.inl ⟨hw,fun w hw'=>by
    unfold execOp
    simp only [ho,hx,Sem.run_bind,Sem.run_pure,Result.andThen_ok,rg_run1 w ad ty v d (hS w hw') hu hd]⟩) h0 h
theorem rg_pure {fuel:Nat} {L:Array Bool} {a:Act} {w:World} (i:Nat) (o:Oper) (v:Value)
    (dd:Option Tmp) (hi:ops[i]? = some o) (hdd:o.dst=dd) (hs:Region.noSelect ops=true) (hf:Region.free .any ops L i=true) (hr:(Region.ready .any ops L).contains i=true)
    (hQ:∀ c a w,Q (.panic c) (a.put dd v) w→Q (.panic c) a w) (hw:Region.wanted o (yielded ops a.tmps)=true) (hx:∀ w,(execOp a.eval o).run P w=.ok (.value v) w) (h0:S w)
    (h:wpAnyH P .any ops Q S fuel (L.setIfInBounds i true) (a.put dd v) w):wpAnyH P .any ops Q S (fuel+1) L a w:=by
  subst hdd
  exact wpAnyH_take hi hs hf hr hQ (.inl ⟨hw,fun w _=>hx w⟩) h0 h
theorem rg_skip {fuel:Nat} {L:Array Bool} {a:Act} {w:World} (i:Nat) (o:Oper)
    (dd:Option Tmp) (hi:ops[i]? = some o) (hdd:o.dst=dd) (hs:Region.noSelect ops=true) (hf:Region.free .any ops L i=true) (hr:(Region.ready .any ops L).contains i=true)
    (hQ:∀ c a w,Q (.panic c) (a.put dd undef) w→Q (.panic c) a w) (hw:Region.wanted o (yielded ops a.tmps)=false) (h0:S w)
    (h:wpAnyH P .any ops Q S fuel (L.setIfInBounds i true) (a.put dd undef) w):wpAnyH P .any ops Q S (fuel+1) L a w:=by
  subst hdd
  exact wpAnyH_take hi hs hf hr hQ (.inr ⟨hw,rfl⟩) h0 h
theorem rg_enter (w:World) (ev:Operand→Value) (o:Oper) (n:Nat) (fn:Func) (f:Operand) (args:Array Operand) (ts:Array TypeId) (vs:Array Value)
    (ho:o.op=.call { callee:=.value f,args:=args,argTypes:=ts }) (hff:ev f=.func (.func n) #[] #[]) (hfn:P.funcs[n]? = some fn) (hn:(fn.name == "runtime.NumGoroutine")=false) (hb:fn.body.isNone=false)
    (hv:args.map ev=vs):(execOp ev o).run P w=.ok (.enter n vs) w:=by
  simp [execOp,ho,resolve,Deferred.ofValue,invoke,callFunc,hfn,hv,hff,go_sem]
  rw [if_neg (by simpa using hn),if_neg (by intro h0;rw [h0] at hb;cases hb)]
theorem rg_call {fuel:Nat} {L:Array Bool} {a:Act} {w:World} (i:Nat) (o:Oper) (n:Nat) (fn:Func) (f:Operand) (args:Array Operand) (ts:Array TypeId) (vs:Array Value)
    (dd:Option Tmp) (hi:ops[i]? = some o) (hdd:o.dst=dd) (hr:Region.ready .any ops L=[i]) (hw:Region.wanted o (yielded ops a.tmps)=true)
    (ho:o.op=.call { callee:=.value f,args:=args,argTypes:=ts }) (hff:a.eval f=.func (.func n) #[] #[]) (hfn:P.funcs[n]? = some fn) (hn:(fn.name == "runtime.NumGoroutine")=false) (hb:fn.body.isNone=false)
    (hv:args.map a.eval=vs) {Post:Ending→World→Prop} (C:Calls P n vs w Post)
    (h:∀ r w',Post r w'→∃ v,r=.returned v∧S w'∧wpAnyH P .any ops Q S fuel (L.setIfInBounds i true) (a.put dd v) w'):wpAnyH P .any ops Q S (fuel+1) L a w:=by
  subst hdd
  refine wpAnyH_all hr (by simp) (fun j hj=>?_)
  rw [List.mem_singleton.1 hj]
  unfold wpOp
  simp only [hi]
  rw [if_pos hw]
  refine .inl ?_
  have hx:(execOp a.eval o).run P w=.ok (.enter n vs) w:=rg_enter w a.eval o n fn f args ts vs ho hff hfn hn hb hv
  unfold Oper.wp
  rw [hx,Oper.upon_enter]
  exact C.mono (fun r w' hp=>by obtain ⟨v,rfl,hk⟩:=h r w' hp;exact hk)
theorem rg_eqB (w:World) (ev:Operand→Value) (o:Oper) (ty ty':TypeId) (x y:Operand) (b:Bool) (hu:P.underlying ty=some .bool) (ho:o.op=.binOp .eql ty x y ty') (hx:ev x=.bool b) (hy:ev y=.bool b) :
    (execOp ev o).run P w=.ok (.value (.bool true)) w:=by
  have h1:(Op.equal ty (.bool b) (.bool b)).run P w=.ok true w:=by
    show (Op.equalIn (_+1) ty (.bool b) (.bool b)).run P w=_
    rw [Op.equalIn]
    simp [Sem.run_bind,run_underlying hu]
  have h2:(binOp .eql ty (.bool b) (.bool b)).run P w=.ok (.bool true) w:=by
    show (do pure (Value.bool (← Op.equal ty (.bool b) (.bool b)))).run P w=_
    simp [Sem.run_bind,h1,Result.andThen]
  simp [execOp,ho,hx,hy,go_sem,h2,Result.andThen]
theorem rg_eqI (w:World) (ev:Operand→Value) (o:Oper) (ty ty':TypeId) (x y:Operand) (k:IntKind) (n:Int) (ho:o.op=.binOp .eql ty x y ty') (hx:ev x=.int k n) (hy:ev y=.int k n) :
    (execOp ev o).run P w=.ok (.value (.bool true)) w:=by
  simp [execOp,ho,hx,hy,go_sem]
theorem rg_eqS (w:World) (ev:Operand→Value) (o:Oper) (ty ty':TypeId) (x y:Operand) (s:ByteArray) (ho:o.op=.binOp .eql ty x y ty') (hx:ev x=.string s) (hy:ev y=.string s) :
    (execOp ev o).run P w=.ok (.value (.bool true)) w:=by
  simp [execOp,ho,hx,hy,go_sem,binOp,Op.stringOp]
def RgQ (R:Act→World→Prop) (e:Exit) (a:Act) (w:World):Prop:=match e with | .normal=>R a w | _=>False
theorem rg_norm {C:Code} {a:Act} {w:World} (h:∀ J:Act→World→Prop,(∀ a' w',Q .normal a' w'→J a' w')→C.wp P (RgQ J) a w):C.wp P Q a w :=
  Code.wp_mono (fun e a' w' hr=>by cases e <;> first | exact hr | exact absurd hr id) (h (fun a w=>Q .normal a w) (fun _ _ h=>h))
end
end Go.Proofs.YtapicpdfdjofaaaDoor
