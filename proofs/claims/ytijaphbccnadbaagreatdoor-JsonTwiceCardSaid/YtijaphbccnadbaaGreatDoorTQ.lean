/- Texts of the claim. -/
import Derived.Test.YtijaphbccnadbaaGreatDoorTv
set_option linter.unusedVariables false
set_option linter.unusedSimpArgs false
set_option maxHeartbeats 200000
set_option maxRecDepth 100000
namespace Go.Proofs.YtijaphbccnadbaaGreatDoor
open Go.RowKit Go.Shelf
section
variable {P : Program}
theorem rl_arith (w:World) (ev:Operand→Value) (o:Oper) (op:BinOp) (ty ty':TypeId) (x y:Operand) (a b r:Int) (ho:o.op=.binOp op ty x y ty') (hx:ev x=.int .i64 a) (hy:ev y=.int .i64 b)
    (h:(binOp op ty (.int .i64 a) (.int .i64 b)).run P w=.ok (.int .i64 r) w):(execOp ev o).run P w=.ok (.value (.int .i64 r)) w:=by
  simp [execOp,ho,hx,hy,eqGuard,h,Result.andThen]
theorem ar_quo (w:World) (ty:TypeId) (A B:Nat) (hA:A≤1073741824) (hB:0<B) (hB2:B≤1000):(binOp .quo ty (.int .i64 (A:Int)) (.int .i64 (B:Int))).run P w=.ok (.int .i64 ((A / B:Nat):Int)) w:=by
  have h2:A / B≤A:=Nat.div_le_self _ _
  have h3:((A / B:Nat):Int)=(A:Int) / (B:Int):=by simp
  have h4:IntKind.i64.wrap ((A:Int) / (B:Int))=(A:Int) / (B:Int):=by
    rw [← h3]
    generalize A / B=q at h2 ⊢
    exact IntWalk.i64_in _ (by omega)
  simp [binOp,Op.intDiv,go_sem]
  rw [if_neg (by omega),h4]
theorem ar_rem (w:World) (ty:TypeId) (A B:Nat) (hA:A≤1073741824) (hB:0<B) (hB2:B≤1000):(binOp .rem ty (.int .i64 (A:Int)) (.int .i64 (B:Int))).run P w=.ok (.int .i64 ((A % B:Nat):Int)) w:=by
  simp [binOp,Op.intDiv,go_sem]
  rw [if_neg (by omega),Int.tmod_eq_emod_of_nonneg (by omega)]
theorem ar_mul (w:World) (ty:TypeId) (A B:Nat) (hA:A≤1000) (hB2:B≤1000):(binOp .mul ty (.int .i64 (A:Int)) (.int .i64 (B:Int))).run P w=.ok (.int .i64 ((A*B:Nat):Int)) w:=by
  have h2:A*B≤1000*1000:=Nat.mul_le_mul hA hB2
  have h4:IntKind.i64.wrap ((A:Int)*(B:Int))=(A:Int)*(B:Int):=by rw [← Int.natCast_mul];exact IntWalk.i64_in _ (by omega)
  simp [binOp,Op.intArith,go_sem]
  exact h4
theorem ar_add (w:World) (ty:TypeId) (A B:Nat) (hA:A≤1073741824) (hB2:B≤1073741824):(binOp .add ty (.int .i64 (A:Int)) (.int .i64 (B:Int))).run P w=.ok (.int .i64 ((A+B:Nat):Int)) w:=by
  simp [binOp,Op.intArith,go_sem]
  exact IntWalk.i64_in _ (by omega)
end
section
variable {P : Program} {ops : Array Oper} {Q : Exit → Act → World → Prop}
theorem si1 {A:Prop} {L:Array Bool} (i a:Nat) (ha:(i == a)=false) (M:Prop):(M∧((L.setIfInBounds i true).getD a false=false→A)) ↔ (M∧(L.getD a false=false→A)):=by
  rw [getD_set_ne false (by simpa using ha)]
theorem rl_call {a:Act} {w:World} {K:Act→World→Prop} (i:Nat) (o:Oper) (n:Nat) (fn:Func) (f:Operand) (args:Array Operand) (ts:Array TypeId) (vs:Array Value) (dd:Option Tmp)
    (hi:ops[i]? = some o) (hdd:o.dst=dd) (hw:Region.wanted o (yielded ops a.tmps)=true)
    (ho:o.op=.call { callee:=.value f,args:=args,argTypes:=ts }) (hff:a.eval f=.func (.func n) #[] #[]) (hfn:P.funcs[n]? = some fn) (hn:(fn.name == "runtime.NumGoroutine")=false) (hb:fn.body.isNone=false)
    (hv:args.map a.eval=vs) {Post:Ending→World→Prop} (C:Calls P n vs w Post) (h:∀ r w',Post r w'→∃ v,r=.returned v∧K (a.put dd v) w'):wpOp P ops Q i K a w:=by
  subst hdd
  unfold wpOp
  simp only [hi]
  rw [if_pos hw]
  refine .inl ?_
  unfold Oper.wp
  rw [rg_enter w a.eval o n fn f args ts vs ho hff hfn hn hb hv,Oper.upon_enter]
  exact C.mono (fun r w' hp=>by obtain ⟨v,rfl,hk⟩:=h r w' hp;exact hk)
theorem rl_ldrun (w:World) (ev:Operand→Value) (o:Oper) (ty:TypeId) (x:Operand) (ad:Addr) (v:Value) (d:TypeDesc) (ho:o.op=.load ty x) (hx:ev x=.pointer (some ad)) (hu:P.underlying ty=some d) (hd:d.isRow=false) (hc:w.cell? ad=some v) :
    (execOp ev o).run P w=.ok (.value v) w:=by
  unfold execOp
  simp only [ho,hx,Sem.run_bind,Sem.run_pure,Result.andThen_ok,rg_run1 w ad ty v d hc hu hd]
theorem setCells_put0 (w:World) (b:Nat) (c:Cel):w.setCells b 0 c.cells=put0 w b c:=by
  simp [World.setCells,Cel.cells,put0]
theorem rl_storeT {a:Act} {w:World} {K:Act→World→Prop} (i:Nat) (o:Oper) (ty:TypeId) (x y:Operand) (b:Nat) (c c0:Cel) (d:TypeDesc) (hi:ops[i]? = some o) (hdd:o.dst=none) (hw:Region.wanted o (yielded ops a.tmps)=true)
    (ho:o.op=.store ty x y) (hx:a.eval x=.pointer (some ⟨b,0,none⟩)) (hy:a.eval y=c.val) (h1:(P.info? ty).map (·.size)=some 8) (hb:BoxT w b c0)
    (h:K a (put0 w b c)):wpOp P ops Q i K a w:=by
  unfold wpOp
  simp only [hi]
  rw [if_pos hw]
  refine .inl ?_
  have h8:c.cells.length=8:=by simp [Cel.cells]
  refine wp_store_mid ty x y ho b 0 c.cells.toArray hx hy ?_ (by simpa [h8] using h1) (all_oneCell_toArray (cel_one c)) ?_
  · intro j hj
    rw [List.size_toArray,h8] at hj
    refine ⟨?_,by rw [Nat.zero_add];exact hb.free j⟩
    rw [Nat.zero_add]
    obtain ⟨x0,x1,x2,x3,x4,x5,x6,x7⟩:=hb.cells
    match j,hj with
    | 0,_=>rw [x0];rfl
    | 1,_=>rw [x1];rfl
    | 2,_=>rw [x2];rfl
    | 3,_=>rw [x3];rfl
    | 4,_=>rw [x4];rfl
    | 5,_=>rw [x5];rfl
    | 6,_=>rw [x6];rfl
    | 7,_=>rw [x7];rfl
  · rw [hdd]
    have:=setCells_put0 w b c
    simp only [List.toList_toArray]
    rw [this]
    exact h
end
def nms8:List ByteArray:=[⟨#[97]⟩,⟨#[98]⟩,⟨#[99]⟩,⟨#[100,100]⟩,⟨#[101]⟩,⟨#[]⟩,⟨#[120,47,121]⟩,⟨#[122,126]⟩]
def NamesP (w:World) (e:Ending) (w':World):Prop:=e=.returned (.slice (some ⟨w.heap.size,0,none⟩) 8 8)∧w'=w.alloc (.cells (sv nms8).toArray 9)
theorem names_any (w:World):Calls Tryz.prog 115 #[] w (NamesP w):=by
  go_enter Tryz.func115,Tryz.ntmps115
  go_wp2
  go_ret
  exact ⟨rfl,rfl⟩
theorem nms8_sm:∀ j,j<8→okN (nms8.getD j ByteArray.empty)=true∧(nms8.getD j ByteArray.empty).size≤3:=by decide +kernel
theorem nms8_ok:∀ j,j<8→okN (nms8.getD j ByteArray.empty)=true:=by decide +kernel
structure ObS (W8:World) (b8 d n:Nat) (t:MT) (wr:World):Prop where
  but:But b8 W8 wr
  lt:b8<W8.heap.size
  box:BoxT wr b8 t.c
  obj:∃ ka kc va vc,t.c=objC7 ka t.k.length kc va t.k.length vc
  tm:t.m=[]
  kv:t.v.length=t.k.length
  le:t.k.length≤n
  ris:Ris t.k
  ok:∀ s∈t.k,okN s=true∧s.size≤3
  fit:∀ x∈t.v,Fit d x
  ind:Ind (fun k=>k<W8.heap.size) wr (fun W=>Rep W t)
theorem ObS.o7 {W8 wr:World} {b8 d n:Nat} {t:MT} (h:ObS W8 b8 d n t wr) (hn:n≤100):Obj7 t:=by
  obtain ⟨ka,kc,va,vc,e⟩:=h.obj
  exact ⟨by rw [e];rfl,by rw [e];rfl,by rw [e];rfl,h.kv,Nat.le_trans h.le hn,h.ris⟩
theorem put1_mem {α:Type} {l:List α} {p q:Nat} {x y:α} (h:y∈put1 l p q x):y∈l∨y=x:=by
  unfold put1 at h
  rcases List.mem_append.1 h with h | h
  · rcases List.mem_append.1 h with h | h
    · exact .inl (List.mem_of_mem_take h)
    · exact .inr (List.mem_singleton.1 h)
  · exact .inl (List.mem_of_mem_drop h)
theorem spl_ex {N:List ByteArray} (hr:Ris N) (s:ByteArray):∃ p q,Spl N s p q:=by
  cases hi:ixL N s with
  | none=>exact ⟨_,_,spl_none hr hi⟩
  | some i=>exact ⟨_,_,spl_some hr hi⟩
theorem ObS.step {W8 wr wc w3:World} {b8 d n:Nat} {t x:MT} {s:ByteArray} {p q:Nat} {e:Ending} (h:ObS W8 b8 d n t wr) (hs:okN s=true∧s.size≤3) (hp:Spl t.k s p q) (hf:Fit d x) (hb:Below wr.heap.size wr wc) (hS:SetPost t x s p q (fun k=>k<W8.heap.size) wc e w3) :
    ∃ u:MT,e=.returned u.c.val∧ObS W8 b8 d (n+1) u (put0 w3 b8 u.c)∧BoxT w3 b8 t.c:=by
  obtain ⟨u,he,ho,hm,hk,hv,hi,hb3⟩:=hS
  have hs1:=hb.size;have hs3:=hb3.size;have hlt:=h.lt;have hsw:=h.but.size
  have hb03:Below wr.heap.size wr w3:=hb.trans (hb3.mono hs1)
  have hbox:BoxT w3 b8 t.c:=h.box.on (hb03.block _ h.box.lt)
  have hput:=put0_but w3 b8 u.c
  have l1:=put1_len t.k p q s hp.pq hp.ql
  have l2:=put1_len t.v p q x hp.pq (by rw [h.kv];exact hp.ql)
  have hpq:=hp.pq
  refine ⟨u,he,⟨(h.but.trans (But.of_below hb03)).trans hput,h.lt,put0_box hbox,ho,hm,?_,?_,?_,?_,?_,?_⟩,hbox⟩
  · rw [hk,hv];have:=h.kv;omega
  · rw [hk];have:=h.le;omega
  · rw [hk];exact spl_ris h.ris hp
  · intro y hy
    rw [hk] at hy
    rcases put1_mem hy with hy | rfl
    · exact h.ok y hy
    · exact hs
  · intro y hy
    rw [hv] at hy
    rcases put1_mem hy with hy | rfl
    · exact h.fit y hy
    · exact hf
  · exact hi.to hput.size (fun k hk1 hk2=>hput.block k hk1 (fun e=>hk2 (by omega))) (fun _ _ h=>h) (fun _ h=>h)
def OBL (W8:World) (b8:Nat) (v0:Value) (d m g:Nat) (u iv:Value) (wr:World):Prop :=
  ∃ (i:Nat) (t:MT),i≤m∧m - i≤g∧iv=.int .i64 (i:Int)∧(∀ W,IntsV W v0→IntsV W u)∧ObS W8 b8 d i t wr
theorem risesB_of {l:List ByteArray} (hr:Ris l) (ho:∀ s∈l,okN s=true):risesB l=true:=by
  rw [risesB_iff]
  intro i hi
  have h1:okN (l.getD i ByteArray.empty)=true:=ho _ (by simp [List.getD,hi])
  unfold nameAt
  rw [h1]
  by_cases h0:i=0
  · simp [h0]
  · have:=hr (i - 1) i (by omega) hi
    simp
    exact .inr (by simpa using this)
theorem obj_end {d d' n:Nat} {v0 u0:Value} {w W8 W:World} {b8:Nat} {t:MT} (hd:d=d'+1) (hb:Below w.heap.size w W8) (hb8:w.heap.size<b8) (h1:∀ W,IntsV W v0→IntsV W u0) (h:ObS W8 b8 d' n t W) (hl:n≤3) :
    MadeP d v0 w (.returned (.tuple #[t.c.val,u0])) (put0 W w.heap.size t.c):=by
  subst hd
  have hs:=h.but.size;have hlt:=h.lt;have hsb:=hb.size;have hle:=h.le
  refine made_end rfl (hb.trans (h.but.below (by omega) hb.size)) h1 ?_ ⟨?_,by rw [h.kv];omega,h.fit⟩
  · exact h.ind.to (Nat.le_refl _) (fun _ _ _=>rfl) (fun k hk (hx:k<w.heap.size∨k=w.heap.size)=>show k<W8.heap.size by omega) (fun _ h=>h)
  · obtain ⟨ka,kc,va,vc,e⟩:=h.obj
    have e3:t.k.all (fun k=>decide (k.size≤3))=true:=List.all_eq_true.2 fun s hs=>decide_eq_true (h.ok s hs).2
    unfold fitB smB soundB
    rw [e,e3,h.tm]
    have e1:=risesB_of h.ris (fun s hs=>(h.ok s hs).1)
    have e2:t.k.length≤300:=by omega
    simp [objC7,blankB,e1,e2]
    exact ⟨rfl,rfl⟩
end Go.Proofs.YtijaphbccnadbaaGreatDoor
