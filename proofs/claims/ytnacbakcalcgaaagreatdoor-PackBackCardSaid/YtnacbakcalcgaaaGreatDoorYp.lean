/- Texts of the claim. -/
import Derived.Test.YtnacbakcalcgaaaGreatDoorYo
set_option linter.unusedSimpArgs false
set_option linter.unusedVariables false
set_option maxHeartbeats 200000
set_option maxRecDepth 100000
namespace Go.Proofs.YtnacbakcalcgaaaGreatDoor
section
variable {P : Program} {ops : Array Oper} {Q : Exit → Act → World → Prop} {S : World → Prop}
theorem rg_run1 (w:World) (ad:Addr) (ty:TypeId) (v:Value) (d:TypeDesc) (hc:w.cell? ad=some v) (hu:P.underlying ty=some d) (hd:d.isRow=false) :
    (Instr.loadAt ty (.pointer (some ad))).run P w=.ok v w:=by
  have hagg:(isAgg ty).run P w=.ok false w:=by
    unfold isAgg
    rw [Sem.run_bind,run_underlying hu w]
    cases d <;> simp_all
  simp [Instr.loadAt,Instr.sureAddr,Sem.run_bind,Sem.run_pure,Result.andThen_ok,loadVar,hagg,run_load,hc,Result.andThen]
theorem rg_load1 {fuel:Nat} {L:Array Bool} {a:Act} {w:World} (i:Nat) (o:Oper) (ty:TypeId) (x:Operand) (ad:Addr) (v:Value) (d:TypeDesc)
    (dd:Option Tmp) (hi:ops[i]? = some o) (hdd:o.dst=dd) (hs:Region.noSelect ops=true) (hf:Region.free .any ops L i=true) (hr:(Region.ready .any ops L).contains i=true)
    (hQ:∀ c a w,Q (.panic c) (a.put dd v) w→Q (.panic c) a w) (hw:Region.wanted o (yielded ops a.tmps)=true) (ho:o.op=.load ty x) (hx:a.eval x=.pointer (some ad))
    (hu:P.underlying ty=some d) (hd:d.isRow=false) (hS:∀ w,S w→w.cell? ad=some v) (h0:S w)
    (h:wpAnyH P .any ops Q S fuel (L.setIfInBounds i true) (a.put dd v) w):wpAnyH P .any ops Q S (fuel+1) L a w:=by
  subst hdd
  exact wpAnyH_take hi hs hf hr hQ (.inl ⟨hw,fun w hw'=>by
    unfold execOp
    simp only [ho,hx,Sem.run_bind,Sem.run_pure,Result.andThen_ok,rg_run1 w ad ty v d (hS w hw') hu hd]⟩) h0 h
theorem rg_pure {fuel:Nat} {L:Array Bool} {a:Act} {w:World} (i:Nat) (o:Oper) (v:Value)
    (dd:Option Tmp) (hi:ops[i]? = some o) (hdd:o.dst=dd) (hs:Region.noSelect ops=true) (hf:Region.free .any ops L i=true) (hr:(Region.ready .any ops L).contains i=true)
    (hQ:∀ c a w,Q (.panic c) (a.put dd v) w→Q (.panic c) a w) (hw:Region.wanted o (yielded ops a.tmps)=true) (hx:∀ w,(execOp a.eval o).run P w=.ok (.value v) w) (h0:S w)
    (h:wpAnyH P .any ops Q S fuel (L.setIfInBounds i true) (a.put dd v) w):wpAnyH P .any ops Q S (fuel+1) L a w:=by
  subst hdd
  exact wpAnyH_take hi hs hf hr hQ (.inl ⟨hw,fun w _=>hx w⟩) h0 h
theorem rg_skip {fuel:Nat} {L:Array Bool} {a:Act} {w:World} (i:Nat) (o:Oper)
    (dd:Option Tmp) (hi:ops[i]? = some o) (hdd:o.dst=dd) (hs:Region.noSelect ops=true) (hf:Region.free .any ops L i=true) (hr:(Region.ready .any ops L).contains i=true)
    (hQ:∀ c a w,Q (.panic c) (a.put dd undef) w→Q (.panic c) a w) (hw:Region.wanted o (yielded ops a.tmps)=false) (h0:S w)
    (h:wpAnyH P .any ops Q S fuel (L.setIfInBounds i true) (a.put dd undef) w):wpAnyH P .any ops Q S (fuel+1) L a w:=by
  subst hdd
  exact wpAnyH_take hi hs hf hr hQ (.inr ⟨hw,rfl⟩) h0 h
theorem rg_enter (w:World) (ev:Operand→Value) (o:Oper) (n:Nat) (fn:Func) (f:Operand) (args:Array Operand) (ts:Array TypeId) (vs:Array Value)
    (ho:o.op=.call { callee:=.value f,args:=args,argTypes:=ts }) (hff:ev f=.func (.func n) #[] #[]) (hfn:P.funcs[n]? = some fn) (hn:(fn.name == "runtime.NumGoroutine")=false) (hb:fn.body.isNone=false)
    (hv:args.map ev=vs):(execOp ev o).run P w=.ok (.enter n vs) w:=by
  simp [execOp,ho,resolve,Deferred.ofValue,invoke,callFunc,hfn,hv,hff,go_sem]
  rw [if_neg (by simpa using hn),if_neg (by intro h0;rw [h0] at hb;cases hb)]
theorem rg_call {fuel:Nat} {L:Array Bool} {a:Act} {w:World} (i:Nat) (o:Oper) (n:Nat) (fn:Func) (f:Operand) (args:Array Operand) (ts:Array TypeId) (vs:Array Value)
    (dd:Option Tmp) (hi:ops[i]? = some o) (hdd:o.dst=dd) (hr:Region.ready .any ops L=[i]) (hw:Region.wanted o (yielded ops a.tmps)=true)
    (ho:o.op=.call { callee:=.value f,args:=args,argTypes:=ts }) (hff:a.eval f=.func (.func n) #[] #[]) (hfn:P.funcs[n]? = some fn) (hn:(fn.name == "runtime.NumGoroutine")=false) (hb:fn.body.isNone=false)
    (hv:args.map a.eval=vs) {Post:Ending→World→Prop} (C:Calls P n vs w Post)
    (h:∀ r w',Post r w'→∃ v,r=.returned v∧S w'∧wpAnyH P .any ops Q S fuel (L.setIfInBounds i true) (a.put dd v) w'):wpAnyH P .any ops Q S (fuel+1) L a w:=by
  subst hdd
  refine wpAnyH_all hr (by simp) (fun j hj=>?_)
  rw [List.mem_singleton.1 hj]
  unfold wpOp
  simp only [hi]
  rw [if_pos hw]
  refine .inl ?_
  have hx:(execOp a.eval o).run P w=.ok (.enter n vs) w:=rg_enter w a.eval o n fn f args ts vs ho hff hfn hn hb hv
  unfold Oper.wp
  rw [hx,Oper.upon_enter]
  exact C.mono (fun r w' hp=>by obtain ⟨v,rfl,hk⟩:=h r w' hp;exact hk)
def RgQ (R:Act→World→Prop) (e:Exit) (a:Act) (w:World):Prop:=match e with | .normal=>R a w | _=>False
theorem rg_norm {C:Code} {a:Act} {w:World} (h:∀ J:Act→World→Prop,(∀ a' w',Q .normal a' w'→J a' w')→C.wp P (RgQ J) a w):C.wp P Q a w :=
  Code.wp_mono (fun e a' w' hr=>by cases e <;> first | exact hr | exact absurd hr id) (h (fun a w=>Q .normal a w) (fun _ _ h=>h))
end
section
variable {P : Program} {ops : Array Oper} {Q : Exit → Act → World → Prop} {S : Array Bool → World → Prop}
theorem rl_idx (w:World) (ev:Operand→Value) (o:Oper) (t:TypeId) (x ix:Operand) (e:TypeId) (b k n c j m size:Nat) (ho:o.op=.indexAddr t x ix) (hx:ev x=.slice (some ⟨b,k,none⟩) n c) (hi:ev ix=.int .i64 (j:Int))
    (hu:P.underlying t=some (.slice e)) (hz:(P.info? e).map (·.size)=some size) (hj:j<n) (hm:j*size=m):(execOp ev o).run P w=.ok (.value (.pointer (some ⟨b,k+m,none⟩))) w:=by
  subst hm
  obtain ⟨info,hz2,hs⟩:∃ info,P.info? e=some info∧info.size=size:=by
    cases hq:P.info? e with
    | none=>simp [hq] at hz
    | some info=>exact ⟨info,rfl,by simpa [hq] using hz⟩
  subst hs
  have h1:(0:Int)≤(j:Int)∧(j:Int)<(n:Int):=by omega
  simp [execOp,ho,hx,hi,Instr.indexAt,asIntOf,Sem.run_bind,run_underlying hu,sizeOf,typeInfo,hz2,hj,Addr.add,Result.andThen]
  try (split <;> simp_all)
end
section
variable {P : Program} {ops : Array Oper} {Q : Exit → Act → World → Prop} {S : Array Bool → World → Prop}
end
end Go.Proofs.YtnacbakcalcgaaaGreatDoor
namespace Go.Proofs.YtnacbakcalcgaaaGreatDoor
open Go.RowKit Go.Shelf
section
variable {P : Program} {ops : Array Oper} {Q : Exit → Act → World → Prop} {S : Array Bool → World → Prop}
end
end Go.Proofs.YtnacbakcalcgaaaGreatDoor
namespace Go.Proofs.YtnacbakcalcgaaaGreatDoor
section
variable {P : Program}
theorem rd_gtr (w:World) (ev:Operand→Value) (o:Oper) (ty ty':TypeId) (x y:Operand) (a b:Int) (r:Bool) (ho:o.op=.binOp .gtr ty x y ty') (hx:ev x=.int .i64 a) (hy:ev y=.int .i64 b) (h:decide (b<a)=r) :
    (execOp ev o).run P w=.ok (.value (.bool r)) w:=by
  subst h
  simp [execOp,ho,hx,hy,go_sem]
theorem rd_sub (w:World) (ev:Operand→Value) (o:Oper) (ty ty':TypeId) (x y:Operand) (a b c:Int) (ho:o.op=.binOp .sub ty x y ty') (hx:ev x=.int .i64 a) (hy:ev y=.int .i64 b) (h:a - b=c) (h1:-9223372036854775808≤c) (h2:c≤9223372036854775807) :
    (execOp ev o).run P w=.ok (.value (.int .i64 c)) w:=by
  have hw:IntKind.i64.wrap (a - b)=c:=by rw [IntKind.wrap_i64];omega
  simp [execOp,ho,hx,hy,go_sem,binOp,Op.intArith,hw]
end
end Go.Proofs.YtnacbakcalcgaaaGreatDoor
namespace Go.Proofs.YtnacbakcalcgaaaGreatDoor
open Go.RowKit Go.Lib Go.Sort Go.Shelf
theorem cellOf {W:World} {b:Nat} {c:Array Value} {t:TypeId} (h:W.heap[b]? = some (.cells c t)) (i:Nat) {v:Value} (hv:c[i]? = some v):W.cell? ⟨b,i,none⟩=some v:=by
  simp [World.cell?,h,hv]
theorem freeOf {W:World} {b:Nat} {c:Array Value} {t:TypeId} (h:W.heap[b]? = some (.cells c t)) (i:Nat):W.frozen? ⟨b,i,none⟩=false:=by
  simp [World.frozen?,h]
theorem set_otherC {w:World} {b i:Nat} {v:Value} {k:Nat} (h:k ≠ b):(w.setCell ⟨b,i,none⟩ v).heap[k]? = w.heap[k]?:=Below.heap_setCell _ _ _ _ (by simpa using h)
def ValN (w:World) (r:MT ⊕ Int) (e:Ending) (w':World):Prop:=match r with
  | .inl t=>∃ t':MT,e=.returned t'.c.val∧t'.bare=t∧Ind (fun k=>k<w.heap.size) w' (fun W=>Rep W t')∧Below w.heap.size w w'
  | .inr x=>e=.panicked [{ v:=.iface 32 (.int .i64 x),recovered:=false }]∧Below w.heap.size w w'
theorem ValN.yes {w w':World} {r:MT ⊕ Int} {e:Ending} {t:MT} (t':MT) (h:r=.inl t) (he:e=.returned t'.c.val) (hb:t'.bare=t) (hi:Ind (fun k=>k<w.heap.size) w' (fun W=>Rep W t')) (hw:Below w.heap.size w w'):ValN w r e w':=by
  subst h;exact ⟨t',he,hb,hi,hw⟩
theorem ValN.no {w w':World} {r:MT ⊕ Int} {x:Int} (h:r=.inr x) (hw:Below w.heap.size w w'):ValN w r (.panicked [{ v:=.iface 32 (.int .i64 x),recovered:=false }]) w':=by
  subst h;exact ⟨rfl,hw⟩
def BdR (r:Option (Bool × Nat × Int)):Prop:=∀ p,r=some p→(limbs p.2.1).length≤90∧-1200≤p.2.2∧p.2.2≤1200
theorem mkN_bd (neg:Bool) (N:Nat) (e:Int):BdR (mkN neg N e):=by
  intro p h
  unfold mkN at h
  split at h
  · simp only [Option.some.injEq] at h
    subst h
    simp [limbs_zero]
  · split at h
    · rename_i hb
      simp only [Option.some.injEq] at h
      subst h
      exact hb
    · cases h
theorem exactN_bd (width:Int) (x:Nat):BdR (exactN width x):=by
  intro p h
  unfold exactN at h
  split at h
  · simp only [Option.some.injEq] at h
    subst h
    simp only
    unfold exMW exEW
    cases hlo:layOf width with
    | none=>simp [limbs_zero]
    | some q =>
      obtain ⟨e,f⟩:=q
      simp only
      by_cases hk:kindF e f x=1
      · rw [if_pos hk,if_pos hk]
        have:=ex_bounds (layOf_lay hlo) hk
        exact ⟨this.2.2.1,this.2.2.2.1,this.2.2.2.2⟩
      · rw [if_neg hk,if_neg hk];simp [limbs_zero]
  · cases h
theorem numT_bareC (neg:Bool) (ad:Option Addr) (n cap:Nat) (x:Int) (m:List Nat):(numT neg ad n cap x m).bare=numT neg none n 0 x m:=by rw [MT.bare_eq];rfl
end Go.Proofs.YtnacbakcalcgaaaGreatDoor
