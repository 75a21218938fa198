/- Texts of the claim. -/
import Derived.Test.YtapicpdfdjofaaaDoorEq
set_option linter.unusedVariables false
set_option linter.unusedSimpArgs false
set_option maxHeartbeats 200000
set_option maxRecDepth 100000
namespace Go.Proofs.YtapicpdfdjofaaaDoor
open Go.RowKit Go.Shelf
def iz (x:Int):Value:=.int .i64 x
def IntsV (w:World) (v:Value):Prop:=∃ (a:Option Addr) (n c:Nat) (xs:List Int),v=.slice a n c∧RdV w a (xs.map iz)∧xs.length=n∧n≤c∧n≤1000000∧∀ x∈xs,-9223372036854775808≤x∧x≤9223372036854775807
theorem IntsV.on {w w':World} {v:Value} (h:IntsV w v) (hb:Below w.heap.size w w'):IntsV w' v:=by
  obtain ⟨a,n,c,xs,h1,h2,h3⟩:=h
  exact ⟨a,n,c,xs,h1,h2.on hb,h3⟩
def smB (t:MT):Bool:=decide (t.m.length≤6) && (decide (t.c.s.size≤12) && t.k.all fun k=>decide (k.size≤3))
def fitB (t:MT):Bool:=soundB t && smB t
def Fit:Nat→MT→Prop
  | 0,t=>fitB t=true∧t.v=[]
  | d+1,t=>fitB t=true∧t.v.length≤3∧∀ s∈t.v,Fit d s
theorem Fit.own {d:Nat} {t:MT} (h:Fit d t):fitB t=true:=by cases d <;> exact h.1
def AX (B:Nat) (v:Value) (k:Nat):Prop:=k<B∨v.ownBlock=some k
structure ArS (W8:World) (b8:Nat) (us:List MT) (va:Option Addr) (vc:Nat) (wr:World):Prop where
  but:But b8 W8 wr
  lt:b8<W8.heap.size
  box:BoxT wr b8 (arrC va us.length vc)
  ow:wr.ownsRow W8.heap.size 28 8 (.slice va us.length vc) us.length (flat (us.map MT.c))
  ind:Ind (AX W8.heap.size (.slice va us.length vc)) wr (fun W=>∀ x∈us,Rep W x)
theorem own_lt {w:World} {B:Nat} {e:TypeId} {size:Nat} {v:Value} {n:Nat} {xs:List Value} (h:w.ownsRow B e size v n xs) {k:Nat} (hk:v.ownBlock=some k):k<w.heap.size:=by
  obtain ⟨_,cs,h2⟩:=own_block h hk
  exact (Array.getElem?_eq_some_iff.1 h2).1
theorem ArS.step {W8 wr w1 w3 w5:World} {b8:Nat} {us:List MT} {x:MT} {va:Option Addr} {vc g cap:Nat} (h:ArS W8 b8 us va vc wr) (h1:Below wr.heap.size wr w1) (hx:Ind (fun k=>k<wr.heap.size) w1 (fun W=>Rep W x)) (h3:Below w1.heap.size w1 w3)
    (ho5:w5.ownsRow W8.heap.size 28 8 (.slice (some ⟨g,0,none⟩) (us.length+1) cap) (us.length+1) (flat (us.map MT.c)++x.c.cells)) (hg5:w3.grownBy w5 (Value.slice va us.length vc).ownBlock) (hor:(Value.slice va us.length vc).ownBlock=some g∨g=w3.heap.size) :
    ArS W8 b8 (us++[x]) (some ⟨g,0,none⟩) cap (w5.setCell ⟨b8,7,none⟩ (.slice (some ⟨g,0,none⟩) (us.length+1) cap)):=by
  have hown:∀ k,(Value.slice va us.length vc).ownBlock=some k→W8.heap.size≤k∧k<wr.heap.size:=fun k hk=>⟨(own_block h.ow hk).1,own_lt h.ow hk⟩
  have hs1:=h1.size;have hs3:=h3.size;have hs5:=hg5.size;have hlt:=h.lt;have hsw:=h.but.size
  have hgB:W8.heap.size≤g:=(own_block ho5 rfl).1
  have hset:∀ k,k ≠ b8→(w5.setCell ⟨b8,7,none⟩ (.slice (some ⟨g,0,none⟩) (us.length+1) cap)).heap[k]? = w5.heap[k]?:=fun k hk=>set_heap _ _ _ _ _ hk
  have hszs:(w5.setCell ⟨b8,7,none⟩ (.slice (some ⟨g,0,none⟩) (us.length+1) cap)).heap.size=w5.heap.size:=by simp [World.setCell]
  have hkeep:∀ k,k<w1.heap.size→(Value.slice va us.length vc).ownBlock ≠ some k→w5.heap[k]? = w1.heap[k]?:=fun k hk hne=>by
    rw [hg5.block k (by omega) (fun e=>hne e.symm),h3.block k hk]
  have hb3:Below wr.heap.size wr w3:=h1.trans (h3.mono hs1)
  have hbut5:But b8 W8 w5:=grow_but (B:=0) (h.but.trans (But.of_below hb3)) (own_onN h.ow hb3) hg5
  have hbox5:BoxT w5 b8 (arrC va us.length vc):=h.box.on (by
    rw [hkeep b8 (by have:=h.box.lt;omega) (fun e=>by have:=(hown _ e).1;omega),h1.block b8 h.box.lt])
  have hbox6:=box_set (w:=w5) hbox5 (some ⟨g,0,none⟩) (us.length+1) cap
  have e1:(us++[x]).length=us.length+1:=by simp
  have e2:flat ((us++[x]).map MT.c)=flat (us.map MT.c)++x.c.cells:=by simp [flat]
  refine ⟨hbut5.trans ((But.refl _ _).setCell _ _),hlt,by rw [e1];exact hbox6,?_,?_⟩
  · rw [e1,e2]
    exact own_heap ho5 (fun k hk=>hset k (by have:=(own_block ho5 hk).1;omega))
  · intro W hs hk y hy
    rw [hszs] at hs hk
    have hW:∀ k,k<w1.heap.size→W8.heap.size≤k→(Value.slice va us.length vc).ownBlock ≠ some k→W.heap[k]? = w1.heap[k]?:=fun k h1' h2' h3'=>by
      rw [hk k (by omega) (fun hx=>by
        rcases hx with hx | hx
        · omega
        · rw [e1] at hx
          simp only [Value.ownBlock,Option.some.injEq] at hx
          rcases hor with ho | ho
          · rw [hx] at ho;exact h3' ho
          · omega),hset k (by omega),hkeep k h1' h3']
    rcases List.mem_append.1 hy with hy | hy
    · exact h.ind W (by omega) (fun k hk1 hk2=>by
        rw [hW k (by omega) (Nat.le_of_not_lt (fun h=>hk2 (.inl h))) (fun e=>hk2 (.inr e)),h1.block k hk1]) y hy
    · rw [List.mem_singleton.1 hy]
      exact hx W (by omega) (fun k hk1 hk2=>hW k hk1 (by omega) (fun e=>by have:=(hown k e).2;omega))
theorem ArS.mid {W8 wr w1 w3 w5:World} {b8:Nat} {us:List MT} {va:Option Addr} {vc:Nat} (h:ArS W8 b8 us va vc wr) (h1:Below wr.heap.size wr w1) (h3:Below w1.heap.size w1 w3) (hg5:w3.grownBy w5 (Value.slice va us.length vc).ownBlock):BoxT w5 b8 (arrC va us.length vc):=by
  have hs1:=h1.size;have hs3:=h3.size;have hlt:=h.box.lt;have hl8:=h.lt
  refine h.box.on ?_
  rw [hg5.block b8 (by omega) (fun e=>by have:=(own_block h.ow e.symm).1;omega),h3.block b8 (by omega),h1.block b8 hlt]
section
variable {P : Program}
end
section
variable {P : Program} {ops : Array Oper} {Q : Exit → Act → World → Prop}
theorem si1 {A:Prop} {L:Array Bool} (i a:Nat) (ha:(i == a)=false) (M:Prop):(M∧((L.setIfInBounds i true).getD a false=false→A)) ↔ (M∧(L.getD a false=false→A)):=by
  rw [getD_set_ne false (by simpa using ha)]
theorem setCells_put0 (w:World) (b:Nat) (c:Cel):w.setCells b 0 c.cells=put0 w b c:=by
  simp [World.setCells,Cel.cells,put0]
theorem rl_storeT {a:Act} {w:World} {K:Act→World→Prop} (i:Nat) (o:Oper) (ty:TypeId) (x y:Operand) (b:Nat) (c c0:Cel) (d:TypeDesc) (hi:ops[i]? = some o) (hdd:o.dst=none) (hw:Region.wanted o (yielded ops a.tmps)=true)
    (ho:o.op=.store ty x y) (hx:a.eval x=.pointer (some ⟨b,0,none⟩)) (hy:a.eval y=c.val) (h1:(P.info? ty).map (·.size)=some 8) (hb:BoxT w b c0)
    (h:K a (put0 w b c)):wpOp P ops Q i K a w:=by
  unfold wpOp
  simp only [hi]
  rw [if_pos hw]
  refine .inl ?_
  have h8:c.cells.length=8:=by simp [Cel.cells]
  refine wp_store_mid ty x y ho b 0 c.cells.toArray hx hy ?_ (by simpa [h8] using h1) (all_oneCell_toArray (cel_one c)) ?_
  · intro j hj
    rw [List.size_toArray,h8] at hj
    refine ⟨?_,by rw [Nat.zero_add];exact hb.free j⟩
    rw [Nat.zero_add]
    obtain ⟨x0,x1,x2,x3,x4,x5,x6,x7⟩:=hb.cells
    match j,hj with
    | 0,_=>rw [x0];rfl
    | 1,_=>rw [x1];rfl
    | 2,_=>rw [x2];rfl
    | 3,_=>rw [x3];rfl
    | 4,_=>rw [x4];rfl
    | 5,_=>rw [x5];rfl
    | 6,_=>rw [x6];rfl
    | 7,_=>rw [x7];rfl
  · rw [hdd]
    have:=setCells_put0 w b c
    simp only [List.toList_toArray]
    rw [this]
    exact h
end
structure ObS (W8:World) (b8 d n:Nat) (t:MT) (wr:World):Prop where
  but:But b8 W8 wr
  lt:b8<W8.heap.size
  box:BoxT wr b8 t.c
  obj:∃ ka kc va vc,t.c=objC7 ka t.k.length kc va t.k.length vc
  tm:t.m=[]
  kv:t.v.length=t.k.length
  le:t.k.length≤n
  ris:Ris t.k
  ok:∀ s∈t.k,okN s=true∧s.size≤3
  fit:∀ x∈t.v,Fit d x
  ind:Ind (fun k=>k<W8.heap.size) wr (fun W=>Rep W t)
theorem put1_mem {α:Type} {l:List α} {p q:Nat} {x y:α} (h:y∈put1 l p q x):y∈l∨y=x:=by
  unfold put1 at h
  rcases List.mem_append.1 h with h | h
  · rcases List.mem_append.1 h with h | h
    · exact .inl (List.mem_of_mem_take h)
    · exact .inr (List.mem_singleton.1 h)
  · exact .inl (List.mem_of_mem_drop h)
theorem ObS.step {W8 wr wc w3:World} {b8 d n:Nat} {t x:MT} {s:ByteArray} {p q:Nat} {e:Ending} (h:ObS W8 b8 d n t wr) (hs:okN s=true∧s.size≤3) (hp:Spl t.k s p q) (hf:Fit d x) (hb:Below wr.heap.size wr wc) (hS:SetPost t x s p q (fun k=>k<W8.heap.size) wc e w3) :
    ∃ u:MT,e=.returned u.c.val∧ObS W8 b8 d (n+1) u (put0 w3 b8 u.c)∧BoxT w3 b8 t.c:=by
  obtain ⟨u,he,ho,hm,hk,hv,hi,hb3⟩:=hS
  have hs1:=hb.size;have hs3:=hb3.size;have hlt:=h.lt;have hsw:=h.but.size
  have hb03:Below wr.heap.size wr w3:=hb.trans (hb3.mono hs1)
  have hbox:BoxT w3 b8 t.c:=h.box.on (hb03.block _ h.box.lt)
  have hput:=put0_but w3 b8 u.c
  have l1:=put1_len t.k p q s hp.pq hp.ql
  have l2:=put1_len t.v p q x hp.pq (by rw [h.kv];exact hp.ql)
  have hpq:=hp.pq
  refine ⟨u,he,⟨(h.but.trans (But.of_below hb03)).trans hput,h.lt,put0_box hbox,ho,hm,?_,?_,?_,?_,?_,?_⟩,hbox⟩
  · rw [hk,hv];have:=h.kv;omega
  · rw [hk];have:=h.le;omega
  · rw [hk];exact spl_ris h.ris hp
  · intro y hy
    rw [hk] at hy
    rcases put1_mem hy with hy | rfl
    · exact h.ok y hy
    · exact hs
  · intro y hy
    rw [hv] at hy
    rcases put1_mem hy with hy | rfl
    · exact h.fit y hy
    · exact hf
  · exact hi.to hput.size (fun k hk1 hk2=>hput.block k hk1 (fun e=>hk2 (by omega))) (fun _ _ h=>h) (fun _ h=>h)
end Go.Proofs.YtapicpdfdjofaaaDoor
namespace Go.Proofs.YtapicpdfdjofaaaDoor
section
variable {P : Program} {ops : Array Oper} {Q : Exit → Act → World → Prop} {S : Array Bool → World → Prop}
def RcQ (R:Act→World→Prop) (e:Exit) (a:Act) (w:World):Prop:=match e with | .normal=>R a w | _=>False
theorem rc_norm {P:Program} {C:Code} {Q:Exit→Act→World→Prop} {a:Act} {w:World} (h:∀ J:Act→World→Prop,(∀ a' w',Q .normal a' w'→J a' w')→C.wp P (RcQ J) a w):C.wp P Q a w :=
  Code.wp_mono (fun e a' w' hr=>by cases e <;> first | exact hr | exact absurd hr id) (h (fun a w=>Q .normal a w) (fun _ _ h=>h))
theorem rc_first {P:Program} {C:Code} {K':Act→World→Prop} {Q':Exit→Act→World→Prop} {a:Act} {w:World} (J:Act→World→Prop) (hK:∀ a' w',Met J a' w'→K' a' w') (h:C.wp P (RcQ J) a w):C.wp P (Exit.then K' Q') a w :=
  Code.wp_mono (fun e a' w' hr=>by cases e <;> first | exact hK a' w' hr | exact absurd hr id) h
theorem rc_call {a:Act} {w:World} {K:Act→World→Prop} (i:Nat) (o:Oper) (n:Nat) (fn:Func) (f:Operand) (args:Array Operand) (ts:Array TypeId) (vs:Array Value) (dd:Option Tmp)
    (hi:ops[i]? = some o) (hdd:o.dst=dd) (hw:Region.wanted o (yielded ops a.tmps)=true)
    (ho:o.op=.call { callee:=.value f,args:=args,argTypes:=ts }) (hff:a.eval f=.func (.func n) #[] #[]) (hfn:P.funcs[n]? = some fn) (hn:(fn.name == "runtime.NumGoroutine")=false) (hb:fn.body.isNone=false)
    (hv:args.map a.eval=vs) {Post:Ending→World→Prop} (C:Calls P n vs w Post) (h:∀ r w',Post r w'→∃ v,r=.returned v∧K (a.put dd v) w'):wpOp P ops Q i K a w:=by
  subst hdd
  unfold wpOp
  simp only [hi]
  rw [if_pos hw]
  refine .inl ?_
  unfold Oper.wp
  rw [rg_enter w a.eval o n fn f args ts vs ho hff hfn hn hb hv,Oper.upon_enter]
  exact C.mono (fun r w' hp=>by obtain ⟨v,rfl,hk⟩:=h r w' hp;exact hk)
end
end Go.Proofs.YtapicpdfdjofaaaDoor
