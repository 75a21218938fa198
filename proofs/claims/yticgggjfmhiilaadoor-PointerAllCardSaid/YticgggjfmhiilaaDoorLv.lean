/- Texts of the claim. -/
import Derived.Test.YticgggjfmhiilaaDoorLu
set_option linter.unusedVariables false
set_option linter.unusedSimpArgs false
set_option maxHeartbeats 32000000
set_option maxRecDepth 100000
namespace Go.Proofs.YticgggjfmhiilaaDoor
open Go.RowKit Go.Shelf
def iz (x:Int):Value:=.int .i64 x
def IntsV (w:World) (v:Value):Prop:=∃ (a:Option Addr) (n c:Nat) (xs:List Int),v=.slice a n c∧RdV w a (xs.map iz)∧xs.length=n∧n≤c∧n≤1000000∧∀ x∈xs,-9223372036854775808≤x∧x≤9223372036854775807
theorem IntsV.on {w w':World} {v:Value} (h:IntsV w v) (hb:Below w.heap.size w w'):IntsV w' v:=by
  obtain ⟨a,n,c,xs,h1,h2,h3⟩:=h
  exact ⟨a,n,c,xs,h1,h2.on hb,h3⟩
def smB (t:MT):Bool:=decide (t.m.length≤6) && (decide (t.c.s.size≤12) && t.k.all fun k=>decide (k.size≤3))
def fitB (t:MT):Bool:=soundB t && smB t
def Fit:Nat→MT→Prop
  | 0,t=>fitB t=true∧t.v=[]
  | d+1,t=>fitB t=true∧t.v.length≤3∧∀ s∈t.v,Fit d s
theorem Fit.own {d:Nat} {t:MT} (h:Fit d t):fitB t=true:=by cases d <;> exact h.1
def AX (B:Nat) (v:Value) (k:Nat):Prop:=k<B∨v.ownBlock=some k
structure ArS (W8:World) (b8:Nat) (us:List MT) (va:Option Addr) (vc:Nat) (wr:World):Prop where
  but:But b8 W8 wr
  lt:b8<W8.heap.size
  box:BoxT wr b8 (arrC va us.length vc)
  ow:wr.ownsRow W8.heap.size 28 8 (.slice va us.length vc) us.length (flat (us.map MT.c))
  ind:Ind (AX W8.heap.size (.slice va us.length vc)) wr (fun W=>∀ x∈us,Rep W x)
theorem own_lt {w:World} {B:Nat} {e:TypeId} {size:Nat} {v:Value} {n:Nat} {xs:List Value} (h:w.ownsRow B e size v n xs) {k:Nat} (hk:v.ownBlock=some k):k<w.heap.size:=by
  obtain ⟨_,cs,h2⟩:=own_block h hk
  exact (Array.getElem?_eq_some_iff.1 h2).1
theorem ArS.step {W8 wr w1 w3 w5:World} {b8:Nat} {us:List MT} {x:MT} {va:Option Addr} {vc g cap:Nat} (h:ArS W8 b8 us va vc wr) (h1:Below wr.heap.size wr w1) (hx:Ind (fun k=>k<wr.heap.size) w1 (fun W=>Rep W x)) (h3:Below w1.heap.size w1 w3)
    (ho5:w5.ownsRow W8.heap.size 28 8 (.slice (some ⟨g,0,none⟩) (us.length+1) cap) (us.length+1) (flat (us.map MT.c)++x.c.cells)) (hg5:w3.grownBy w5 (Value.slice va us.length vc).ownBlock) (hor:(Value.slice va us.length vc).ownBlock=some g∨g=w3.heap.size) :
    ArS W8 b8 (us++[x]) (some ⟨g,0,none⟩) cap (w5.setCell ⟨b8,7,none⟩ (.slice (some ⟨g,0,none⟩) (us.length+1) cap)):=by
  have hown:∀ k,(Value.slice va us.length vc).ownBlock=some k→W8.heap.size≤k∧k<wr.heap.size:=fun k hk=>⟨(own_block h.ow hk).1,own_lt h.ow hk⟩
  have hs1:=h1.size;have hs3:=h3.size;have hs5:=hg5.size;have hlt:=h.lt;have hsw:=h.but.size
  have hgB:W8.heap.size≤g:=(own_block ho5 rfl).1
  have hset:∀ k,k ≠ b8→(w5.setCell ⟨b8,7,none⟩ (.slice (some ⟨g,0,none⟩) (us.length+1) cap)).heap[k]? = w5.heap[k]?:=fun k hk=>set_heap _ _ _ _ _ hk
  have hszs:(w5.setCell ⟨b8,7,none⟩ (.slice (some ⟨g,0,none⟩) (us.length+1) cap)).heap.size=w5.heap.size:=by simp [World.setCell]
  have hkeep:∀ k,k<w1.heap.size→(Value.slice va us.length vc).ownBlock ≠ some k→w5.heap[k]? = w1.heap[k]?:=fun k hk hne=>by
    rw [hg5.block k (by omega) (fun e=>hne e.symm),h3.block k hk]
  have hb3:Below wr.heap.size wr w3:=h1.trans (h3.mono hs1)
  have hbut5:But b8 W8 w5:=grow_but (B:=0) (h.but.trans (But.of_below hb3)) (own_onN h.ow hb3) hg5
  have hbox5:BoxT w5 b8 (arrC va us.length vc):=h.box.on (by
    rw [hkeep b8 (by have:=h.box.lt;omega) (fun e=>by have:=(hown _ e).1;omega),h1.block b8 h.box.lt])
  have hbox6:=box_set (w:=w5) hbox5 (some ⟨g,0,none⟩) (us.length+1) cap
  have e1:(us++[x]).length=us.length+1:=by simp
  have e2:flat ((us++[x]).map MT.c)=flat (us.map MT.c)++x.c.cells:=by simp [flat]
  refine ⟨hbut5.trans ((But.refl _ _).setCell _ _),hlt,by rw [e1];exact hbox6,?_,?_⟩
  · rw [e1,e2]
    exact own_heap ho5 (fun k hk=>hset k (by have:=(own_block ho5 hk).1;omega))
  · intro W hs hk y hy
    rw [hszs] at hs hk
    have hW:∀ k,k<w1.heap.size→W8.heap.size≤k→(Value.slice va us.length vc).ownBlock ≠ some k→W.heap[k]? = w1.heap[k]?:=fun k h1' h2' h3'=>by
      rw [hk k (by omega) (fun hx=>by
        rcases hx with hx | hx
        · omega
        · rw [e1] at hx
          simp only [Value.ownBlock,Option.some.injEq] at hx
          rcases hor with ho | ho
          · rw [hx] at ho;exact h3' ho
          · omega),hset k (by omega),hkeep k h1' h3']
    rcases List.mem_append.1 hy with hy | hy
    · exact h.ind W (by omega) (fun k hk1 hk2=>by
        rw [hW k (by omega) (Nat.le_of_not_lt (fun h=>hk2 (.inl h))) (fun e=>hk2 (.inr e)),h1.block k hk1]) y hy
    · rw [List.mem_singleton.1 hy]
      exact hx W (by omega) (fun k hk1 hk2=>hW k hk1 (by omega) (fun e=>by have:=(hown k e).2;omega))
theorem ArS.mid {W8 wr w1 w3 w5:World} {b8:Nat} {us:List MT} {va:Option Addr} {vc:Nat} (h:ArS W8 b8 us va vc wr) (h1:Below wr.heap.size wr w1) (h3:Below w1.heap.size w1 w3) (hg5:w3.grownBy w5 (Value.slice va us.length vc).ownBlock):BoxT w5 b8 (arrC va us.length vc):=by
  have hs1:=h1.size;have hs3:=h3.size;have hlt:=h.box.lt;have hl8:=h.lt
  refine h.box.on ?_
  rw [hg5.block b8 (by omega) (fun e=>by have:=(own_block h.ow e.symm).1;omega),h3.block b8 (by omega),h1.block b8 hlt]
section
variable {P : Program}
end
section
variable {P : Program} {ops : Array Oper} {Q : Exit → Act → World → Prop}
theorem si1 {A:Prop} {L:Array Bool} (i a:Nat) (ha:(i == a)=false) (M:Prop):(M∧((L.setIfInBounds i true).getD a false=false→A)) ↔ (M∧(L.getD a false=false→A)):=by
  rw [getD_set_ne false (by simpa using ha)]
theorem setCells_put0 (w:World) (b:Nat) (c:Cel):w.setCells b 0 c.cells=put0 w b c:=by
  simp [World.setCells,Cel.cells,put0]
theorem rl_storeT {a:Act} {w:World} {K:Act→World→Prop} (i:Nat) (o:Oper) (ty:TypeId) (x y:Operand) (b:Nat) (c c0:Cel) (d:TypeDesc) (hi:ops[i]? = some o) (hdd:o.dst=none) (hw:Region.wanted o (yielded ops a.tmps)=true)
    (ho:o.op=.store ty x y) (hx:a.eval x=.pointer (some ⟨b,0,none⟩)) (hy:a.eval y=c.val) (h1:(P.info? ty).map (·.size)=some 8) (hb:BoxT w b c0)
    (h:K a (put0 w b c)):wpOp P ops Q i K a w:=by
  unfold wpOp
  simp only [hi]
  rw [if_pos hw]
  refine .inl ?_
  have h8:c.cells.length=8:=by simp [Cel.cells]
  refine wp_store_mid ty x y ho b 0 c.cells.toArray hx hy ?_ (by simpa [h8] using h1) (all_oneCell_toArray (cel_one c)) ?_
  · intro j hj
    rw [List.size_toArray,h8] at hj
    refine ⟨?_,by rw [Nat.zero_add];exact hb.free j⟩
    rw [Nat.zero_add]
    obtain ⟨x0,x1,x2,x3,x4,x5,x6,x7⟩:=hb.cells
    match j,hj with
    | 0,_=>rw [x0];rfl
    | 1,_=>rw [x1];rfl
    | 2,_=>rw [x2];rfl
    | 3,_=>rw [x3];rfl
    | 4,_=>rw [x4];rfl
    | 5,_=>rw [x5];rfl
    | 6,_=>rw [x6];rfl
    | 7,_=>rw [x7];rfl
  · rw [hdd]
    have:=setCells_put0 w b c
    simp only [List.toList_toArray]
    rw [this]
    exact h
end
structure ObS (W8:World) (b8 d n:Nat) (t:MT) (wr:World):Prop where
  but:But b8 W8 wr
  lt:b8<W8.heap.size
  box:BoxT wr b8 t.c
  obj:∃ ka kc va vc,t.c=objC7 ka t.k.length kc va t.k.length vc
  tm:t.m=[]
  kv:t.v.length=t.k.length
  le:t.k.length≤n
  ris:Ris t.k
  ok:∀ s∈t.k,okN s=true∧s.size≤3
  fit:∀ x∈t.v,Fit d x
  ind:Ind (fun k=>k<W8.heap.size) wr (fun W=>Rep W t)
theorem put1_mem {α:Type} {l:List α} {p q:Nat} {x y:α} (h:y∈put1 l p q x):y∈l∨y=x:=by
  unfold put1 at h
  rcases List.mem_append.1 h with h | h
  · rcases List.mem_append.1 h with h | h
    · exact .inl (List.mem_of_mem_take h)
    · exact .inr (List.mem_singleton.1 h)
  · exact .inl (List.mem_of_mem_drop h)
theorem ObS.step {W8 wr wc w3:World} {b8 d n:Nat} {t x:MT} {s:ByteArray} {p q:Nat} {e:Ending} (h:ObS W8 b8 d n t wr) (hs:okN s=true∧s.size≤3) (hp:Spl t.k s p q) (hf:Fit d x) (hb:Below wr.heap.size wr wc) (hS:SetPost t x s p q (fun k=>k<W8.heap.size) wc e w3) :
    ∃ u:MT,e=.returned u.c.val∧ObS W8 b8 d (n+1) u (put0 w3 b8 u.c)∧BoxT w3 b8 t.c:=by
  obtain ⟨u,he,ho,hm,hk,hv,hi,hb3⟩:=hS
  have hs1:=hb.size;have hs3:=hb3.size;have hlt:=h.lt;have hsw:=h.but.size
  have hb03:Below wr.heap.size wr w3:=hb.trans (hb3.mono hs1)
  have hbox:BoxT w3 b8 t.c:=h.box.on (hb03.block _ h.box.lt)
  have hput:=put0_but w3 b8 u.c
  have l1:=put1_len t.k p q s hp.pq hp.ql
  have l2:=put1_len t.v p q x hp.pq (by rw [h.kv];exact hp.ql)
  have hpq:=hp.pq
  refine ⟨u,he,⟨(h.but.trans (But.of_below hb03)).trans hput,h.lt,put0_box hbox,ho,hm,?_,?_,?_,?_,?_,?_⟩,hbox⟩
  · rw [hk,hv];have:=h.kv;omega
  · rw [hk];have:=h.le;omega
  · rw [hk];exact spl_ris h.ris hp
  · intro y hy
    rw [hk] at hy
    rcases put1_mem hy with hy | rfl
    · exact h.ok y hy
    · exact hs
  · intro y hy
    rw [hv] at hy
    rcases put1_mem hy with hy | rfl
    · exact h.fit y hy
    · exact hf
  · exact hi.to hput.size (fun k hk1 hk2=>hput.block k hk1 (fun e=>hk2 (by omega))) (fun _ _ h=>h) (fun _ h=>h)
end Go.Proofs.YticgggjfmhiilaaDoor
namespace Go.Proofs.YticgggjfmhiilaaDoor
section
variable {P : Program} {ops : Array Oper} {Q : Exit → Act → World → Prop} {S : Array Bool → World → Prop}
def RcQ (R:Act→World→Prop) (e:Exit) (a:Act) (w:World):Prop:=match e with | .normal=>R a w | _=>False
theorem rc_norm {P:Program} {C:Code} {Q:Exit→Act→World→Prop} {a:Act} {w:World} (h:∀ J:Act→World→Prop,(∀ a' w',Q .normal a' w'→J a' w')→C.wp P (RcQ J) a w):C.wp P Q a w :=
  Code.wp_mono (fun e a' w' hr=>by cases e <;> first | exact hr | exact absurd hr id) (h (fun a w=>Q .normal a w) (fun _ _ h=>h))
theorem rc_first {P:Program} {C:Code} {K':Act→World→Prop} {Q':Exit→Act→World→Prop} {a:Act} {w:World} (J:Act→World→Prop) (hK:∀ a' w',Met J a' w'→K' a' w') (h:C.wp P (RcQ J) a w):C.wp P (Exit.then K' Q') a w :=
  Code.wp_mono (fun e a' w' hr=>by cases e <;> first | exact hK a' w' hr | exact absurd hr id) h
theorem rc_call {a:Act} {w:World} {K:Act→World→Prop} (i:Nat) (o:Oper) (n:Nat) (fn:Func) (f:Operand) (args:Array Operand) (ts:Array TypeId) (vs:Array Value) (dd:Option Tmp)
    (hi:ops[i]? = some o) (hdd:o.dst=dd) (hw:Region.wanted o (yielded ops a.tmps)=true)
    (ho:o.op=.call { callee:=.value f,args:=args,argTypes:=ts }) (hff:a.eval f=.func (.func n) #[] #[]) (hfn:P.funcs[n]? = some fn) (hn:(fn.name == "runtime.NumGoroutine")=false) (hb:fn.body.isNone=false)
    (hv:args.map a.eval=vs) {Post:Ending→World→Prop} (C:Calls P n vs w Post) (h:∀ r w',Post r w'→∃ v,r=.returned v∧K (a.put dd v) w'):wpOp P ops Q i K a w:=by
  subst hdd
  unfold wpOp
  simp only [hi]
  rw [if_pos hw]
  refine .inl ?_
  unfold Oper.wp
  rw [rg_enter w a.eval o n fn f args ts vs ho hff hfn hn hb hv,Oper.upon_enter]
  exact C.mono (fun r w' hp=>by obtain ⟨v,rfl,hk⟩:=h r w' hp;exact hk)
end
end Go.Proofs.YticgggjfmhiilaaDoor
namespace Go.Proofs.YticgggjfmhiilaaDoor
open Go.RowKit Go.Shelf
def PutR:MT→List ByteArray→MT→MT→Prop
  | t,[],v,u=>u=v
  | t,s::r,v,u=>∃ j g y,placeM t s=some j∧PutR (t.v.getD j (leafT 0 false ⟨#[]⟩)) r v y∧u=setV t y j g
theorem stepM_at {t:MT} {s:ByteArray} {j:Nat} (h:placeM t s=some j):stepM t s=some (t.v.getD j (leafT 0 false ⟨#[]⟩)):=by unfold stepM;rw [h];rfl
theorem PutR.append:∀ (a:List ByteArray) {b:List ByteArray} {t x v y u:MT},getM t a=some x→PutR x b v y→PutR t a y u→PutR t (a++b) v u:=by
  intro a
  induction a with
  | nil=>intro b t x v y u h1 h2 h3;simp [getM] at h1;subst h1;rw [PutR] at h3;subst h3;exact h2
  | cons s a ih =>
    intro b t x v y u h1 h2 h3
    obtain ⟨j,g,z,e1,e2,e3⟩:=h3
    rw [getM,stepM_at e1] at h1
    exact ⟨j,g,z,e1,ih h1 h2 e2,e3⟩
def PutP (X:Nat→Prop) (t:MT) (l:List ByteArray) (v:MT) (w:World) (e:Ending) (w':World):Prop :=
  ((getM t l=none∧e=.returned (.tuple #[zeroV,.bool false]))∨(∃ u,PutR t l v u∧e=.returned (.tuple #[u.c.val,.bool true])∧Ind X w' (fun W=>Rep W u)))∧Below w.heap.size w w'
theorem getM_sml:∀ (l:List ByteArray) {w:World} {t u:MT},Rep w t→Sml t→getM t l=some u→Sml u:=by
  intro l
  induction l with
  | nil=>intro w t u hR h e;simp [getM] at e;subst e;exact h
  | cons s l ih =>
    intro w t u hR h e
    rw [getM] at e
    cases hs:stepM t s with
    | none=>rw [hs] at e;cases e
    | some x =>
      rw [hs] at e
      have hx:=stepM_rep hR hs
      unfold stepM at hs
      cases hp:placeM t s with
      | none=>rw [hp] at hs;cases hs
      | some j =>
        rw [hp] at hs
        have hj:=placeM_lt hp
        have hv:=hR.own.vn
        simp at hs
        refine ih hx (fun y hy=>h y ?_) e
        subst hs
        exact MT.sub_v (by simp [show j<t.v.length by omega]) hy
theorem ind_more {X:Nat→Prop} {w W:World} {P:World→Prop} {m:Nat} (h:Ind X w P) (hb:Below w.heap.size w W):Ind (fun k=>X k∨(w.heap.size≤k∧k<m)) W P :=
  h.to hb.size (fun k hk _=>hb.block k hk) (fun k hk hx=>hx.resolve_right (by omega)) (fun _ h=>h)
theorem div2 (n:Nat):Int.tdiv (n:Int) 2=((n / 2:Nat):Int):=by rw [Int.tdiv_eq_ediv_of_nonneg (by omega)];omega
theorem put_t:∀ (n:Nat) (X:Nat→Prop) (t v:MT) (ad:Option Addr) (cap:Nat) (l:List ByteArray) (w:World),(∀ k,X k→k<w.heap.size)→Ind X w (fun W=>Rep W t)→Ind X w (fun W=>Rep W v)→Sml t→l.length=n→RdV w ad (sv l)→n≤1000000→n≤cap→(∀ x∈l,x.size≤4000000000000) →
    Calls Tryd.prog 27 #[t.c.val,.slice ad n cap,v.c.val] w (PutP X t l v w):=by
  intro n
  induction n using Nat.strongRecOn with
  | _ n IH =>
  intro X t v ad cap l w hX hR hV hSm hl hr hn hcap hs
  obtain ⟨Wb,hWb⟩:∃ x,thrP w t.c v.c (leafC 0 false ⟨#[]⟩)=x:=⟨_,rfl⟩
  have hb0:Below w.heap.size w Wb:=by rw [← hWb];exact thrP_below _ _ _ _
  have hbx:BoxT Wb w.heap.size t.c∧BoxT Wb (w.heap.size+1) v.c∧BoxT Wb (w.heap.size+1+1) (leafC 0 false ⟨#[]⟩):=by rw [← hWb];exact thrP_box _ _ _ _
  have HRT:=Lib.hid (fun W (h:Below w.heap.size w W)=>(⟨(hR.below h).here,(hV.below h).here⟩:Rep W t∧Rep W v))
  have HRI:=Lib.hid (fun W (h:Below w.heap.size w W)=>(⟨hR.below h,hV.below h⟩:Ind X W (fun W=>Rep W t)∧Ind X W (fun W=>Rep W v)))
  have HXX:=Lib.hid hX
  have HR0:=Lib.hid (And.intro hR hV)
  have HPR:=Lib.hid (fun W (h:Below w.heap.size w W)=>hr.on h)
  have HB0:=Lib.hid hb0
  have HBX:=Lib.hid (fun W (h:Below Wb.heap.size Wb W)=>((⟨hbx.1.on (h.block _ hbx.1.lt),hbx.2.1.on (h.block _ hbx.2.1.lt),hbx.2.2.on (h.block _ hbx.2.2.lt)⟩):BoxT W w.heap.size t.c∧BoxT W (w.heap.size+1) v.c∧BoxT W (w.heap.size+1+1) (leafC 0 false ⟨#[]⟩)))
  have HSM:=Lib.hid hSm
  have HL:=Lib.hid hl
  have HS:=Lib.hid hs
  have HIH:=Lib.hid IH
  have hvn:=(hSm t t.sub_refl).2.2
  have hlt3:=hbx.2.2.lt
  obtain ⟨b,hb⟩:∃ b,w.heap.size=b:=⟨_,rfl⟩
  have HBB:=Lib.hid hb
  clear hR hV hb0 hbx hSm hl hs hr IH hX
  obtain ⟨ct,hct⟩:∃ c,t.c=c:=⟨_,rfl⟩
  obtain ⟨cv,hcv⟩:∃ c,v.c=c:=⟨_,rfl⟩
  have HCT:=Lib.hid hct
  have HCV:=Lib.hid hcv
  rw [hct] at hWb HBX hvn ⊢
  rw [hcv] at hWb HBX ⊢
  clear hct hcv
  have hWb2:thrP w ct cv (leafC 0 false ⟨#[]⟩)=Wb:=hWb
  have hct2:∃ c,ct=c:=⟨_,rfl⟩
  obtain ⟨tk,tb,tneg,tma,tmn,tmc,te,ts,tka,tkn,tkc,tva,tvn,tvc⟩:=ct
  obtain ⟨zk,zb,zneg,zma,zmn,zmc,ze,zs,zka,zkn,zkc,zva,zvn,zvc⟩:=cv
  unfold Cel.val
  unfold thrP two2 Cel.cells leafC at hWb
  simp only at hWb hvn
  have HWB:=Lib.hid hWb
  clear hWb hWb2 hct2
  obtain ⟨⟨c0,c1,c2,c3,c4,c5,c6,c7⟩,⟨e0,e1,e2,e3,e4,e5,e6,e7⟩,_⟩:=(⟨(HBX.out Wb (Below.refl _ _)).1.cells,(HBX.out Wb (Below.refl _ _)).2.1.cells,trivial⟩:_∧_∧True)
  simp only at c0 c1 c2 c3 c4 c5 c6 c7 e0 e1 e2 e3 e4 e5 e6 e7
  have hx3:=(HBX.out Wb (Below.refl _ _)).2.2
  rw [hb] at c0 c1 c2 c3 c4 c5 c6 c7 e0 e1 e2 e3 e4 e5 e6 e7 hx3 HBX
  by_cases h0:n=0
  · subst h0
    have hl0:l=[]:=List.eq_nil_of_length_eq_zero HL.out
    have HE:=Lib.hid (show PutP X t l v w (.returned (.tuple #[(⟨zk,zb,zneg,zma,zmn,zmc,ze,zs,zka,zkn,zkc,zva,zvn,zvc⟩:Cel).val,.bool true])) (put0 Wb (b+1+1) ⟨zk,zb,zneg,zma,zmn,zmc,ze,zs,zka,zkn,zkc,zva,zvn,zvc⟩) from by
      have hbb:=HB0.out.trans ((put0_but Wb (b+1+1) ⟨zk,zb,zneg,zma,zmn,zmc,ze,zs,zka,zkn,zkc,zva,zvn,zvc⟩).below (by rw [HBB.out];omega) HB0.out.size)
      refine ⟨.inr ⟨v,by rw [hl0];rfl,by rw [HCV.out],(HRI.out _ hbb).2⟩,hbb⟩)
    obtain ⟨⟨g0,g1,g2,g3,g4,g5,g6,g7⟩,f0,f1,f2,f3,f4,f5,f6,f7⟩:=hx3.var
    have hbx:=(put0_box hx3 (c:=⟨zk,zb,zneg,zma,zmn,zmc,ze,zs,zka,zkn,zkc,zva,zvn,zvc⟩)).cells
    unfold put0 at hbx HE
    unfold Cel.val at HE
    simp only [leafC] at hbx HE g0 g1 g2 g3 g4 g5 g6 g7
    obtain ⟨d0,d1,d2,d3,d4,d5,d6,d7⟩:=hbx
    clear hx3 hl0
    go_enter Tryd.func27,Tryd.ntmps27
    go_upto_region 3 with fail
    rw [HWB.out]
    go_wp2_with fail
    exact bodyPost_ret (v:=.tuple #[.agg #[.int .i64 zk,.bool zb,.bool zneg,.slice zma zmn zmc,.int .i64 ze,.string zs,.slice zka zkn zkc,.slice zva zvn zvc],.bool true]) (by simp [results,Tryd.results27,go_sem,d0,d1,d2,d3,d4,d5,d6,d7]) rfl HE.out
  have HX3:=Lib.hid hx3
  clear hx3
  by_cases h1:n=1
  · subst h1
    obtain ⟨s0,hs0⟩:∃ s0,l=[s0]:=by
      have:=HL.out
      match l,this with
      | [x],_=>exact ⟨x,rfl⟩
    have hss:=HS.out s0 (by rw [hs0];simp)
    obtain ⟨bk,o,rfl,hbk,hcx⟩:=HPR.out Wb HB0.out 0 (by rw [hs0];simp [sv])
    rw [hs0] at hcx
    simp only [Nat.add_zero,sv,List.map_cons,List.getElem?_cons_zero] at hcx
    have HC:=Lib.hid (fun W (h:Below Wb.heap.size Wb W)=>((h.cell (p:=⟨bk,o,none⟩) hbk).trans hcx:W.cell? ⟨bk,o,none⟩=some (.string s0)))
    have KP:=Lib.hid (fun W (h:Below Wb.heap.size Wb W)=>(by
      have hbw:=HB0.out.trans (h.mono HB0.out.size)
      have hs1:=h.size
      have hs2:=hbw.size
      have:=putIn_t (fun k=>X k∨(w.heap.size≤k∧k<Wb.heap.size)) t v s0 W (fun k hk=>by rcases hk with hk | hk;(have:=HXX.out k hk;omega);omega) (ind_more HR0.out.1 hbw) (ind_more HR0.out.2 hbw) hss (by rw [HCT.out];exact hvn)
      rw [HCT.out,HCV.out] at this
      exact this:Calls Tryd.prog 56 #[(⟨tk,tb,tneg,tma,tmn,tmc,te,ts,tka,tkn,tkc,tva,tvn,tvc⟩:Cel).val,.string s0,(⟨zk,zb,zneg,zma,zmn,zmc,ze,zs,zka,zkn,zkc,zva,zvn,zvc⟩:Cel).val] W (PutP1 (fun k=>X k∨(w.heap.size≤k∧k<Wb.heap.size)) t v s0 W)))
    have HL0:=Lib.hid hs0
    clear hcx hs0 c0 c1 c2 c3 c4 c5 c6 c7 e0 e1 e2 e3 e4 e5 e6 e7
    go_enter Tryd.func27,Tryd.ntmps27
    go_upto_region 5 with fail
    rw [HWB.out]
    refine rc_norm (fun J hJ=>?_)
    have HJ:=Lib.hid hJ
    clear hJ
    refine rl_start (S:=fun L W=>True∧(L.getD 8 false=false→Below Wb.heap.size Wb W)) (by kernel_rfl) ⟨trivial,fun _=>below_drew (Below.refl _ _)⟩ (fun hC hS=>?_)
    refine rl_loadM 0 _ 28 (.tmp 3) b 0 (⟨tk,tb,tneg,tma,tmn,tmc,te,ts,tka,tkn,tkc,tva,tvn,tvc⟩:Cel).cells _ (some 19) rfl (by kernel_rfl) (by kernel_rfl) (by kernel_rfl) (by kernel_rfl) (fun _ _ _ h=>h) (fun L W=>si1 0 8 rfl _) (by kernel_rfl) rfl (by kernel_rfl) Tryd.underlying28 rfl (by kernel_rfl) (fun L W hC h1 hS=>box_range (HBX.out W (hS.2 (cl_no hC 0 8 _ rfl (by kernel_rfl) h1))).1) hC hS (fun hC hS=>?_)
    refine rl_pure 1 _ (.slice (some ⟨bk,o,none⟩) 1 cap) (some 20) rfl (by kernel_rfl) (by kernel_rfl) (by kernel_rfl) (by kernel_rfl) (fun _ _ _ h=>h) (fun L W=>si1 1 8 rfl _) (by kernel_rfl) (fun w=>by kernel_rfl) hC hS (fun hC hS=>?_)
    refine rl_pure 2 _ (.pointer (some ⟨bk,o+0,none⟩)) (some 21) rfl (by kernel_rfl) (by kernel_rfl) (by kernel_rfl) (by kernel_rfl) (fun _ _ _ h=>h) (fun L W=>si1 2 8 rfl _) (by kernel_rfl) (fun w=>rl_idx w _ _ _ _ _ 9 bk o 1 cap 0 0 1 rfl (by kernel_rfl) (by kernel_rfl) Tryd.underlying22 (by kernel_rfl) (by decide) rfl) hC hS (fun hC hS=>?_)
    refine rl_load1 3 _ 9 (.tmp 21) ⟨bk,o+0,none⟩ (.string s0) _ (some 22) rfl (by kernel_rfl) (by kernel_rfl) (by kernel_rfl) (by kernel_rfl) (fun _ _ _ h=>h) (fun L W=>si1 3 8 rfl _) (by kernel_rfl) rfl (by kernel_rfl) Tryd.underlying9 rfl (fun L W hC h1 hS=>HC.out W (hS.2 (cl_no hC 3 8 _ rfl (by kernel_rfl) h1))) hC hS (fun hC hS=>?_)
    refine rl_loadM 4 _ 28 (.tmp 5) (b+1) 0 (⟨zk,zb,zneg,zma,zmn,zmc,ze,zs,zka,zkn,zkc,zva,zvn,zvc⟩:Cel).cells _ (some 23) rfl (by kernel_rfl) (by kernel_rfl) (by kernel_rfl) (by kernel_rfl) (fun _ _ _ h=>h) (fun L W=>si1 4 8 rfl _) (by kernel_rfl) rfl (by kernel_rfl) Tryd.underlying28 rfl (by kernel_rfl) (fun L W hC h1 hS=>box_range (HBX.out W (hS.2 (cl_no hC 4 8 _ rfl (by kernel_rfl) h1))).2.1) hC hS (fun hC hS=>?_)
    refine rl_all [5] (by kernel_rfl) (by simp) hC (rl_one _ ?_)
    refine rc_call 5 _ 56 _ _ _ _ #[(⟨tk,tb,tneg,tma,tmn,tmc,te,ts,tka,tkn,tkc,tva,tvn,tvc⟩:Cel).val,.string s0,(⟨zk,zb,zneg,zma,zmn,zmc,ze,zs,zka,zkn,zkc,zva,zvn,zvc⟩:Cel).val] (some 24) rfl (by kernel_rfl) (by kernel_rfl) rfl (by kernel_rfl) Tryd.func56 (by kernel_rfl) (by kernel_rfl) (by kernel_rfl) (KP.out _ (hS.2 (by kernel_rfl))) ?_
    have hS0:=hS.2 (by kernel_rfl)
    rintro r' w5 ⟨hd,hq⟩
    have hB:=hS0.trans (hq.mono hS0.size)
    have hx3:=(HBX.out _ hB).2.2
    have hb5:=HB0.out.trans (hB.mono HB0.out.size)
    rcases hd with ⟨hpm,rfl⟩ | ⟨j,g,hpm,rfl,hrep⟩
    · refine ⟨_,rfl,?_⟩
      refine rl_and ⟨trivial,fun _=>hB⟩ (fun hS hC=>?_)
      refine rl_pure 6 _ ((leafC 0 false ⟨#[]⟩).val) (some 25) rfl (by kernel_rfl) (by kernel_rfl) (by kernel_rfl) (by kernel_rfl) (fun _ _ _ h=>h) (fun L W=>si1 6 8 rfl _) (by kernel_rfl) (fun w=>by kernel_rfl) hC hS (fun hC hS=>?_)
      refine rl_pure 7 _ (.bool false) (some 26) rfl (by kernel_rfl) (by kernel_rfl) (by kernel_rfl) (by kernel_rfl) (fun _ _ _ h=>h) (fun L W=>si1 7 8 rfl _) (by kernel_rfl) (fun w=>by kernel_rfl) hC hS (fun hC hS=>?_)
      refine rl_all [8] (by kernel_rfl) (by simp) hC (rl_one _ ?_)
      have hbx2:=put0_box hx3 (c:=leafC 0 false ⟨#[]⟩)
      have hbb:=hb5.trans ((put0_but w5 (b+1+1) (leafC 0 false ⟨#[]⟩)).below (by rw [HBB.out];omega) hb5.size)
      refine rl_storeT 8 _ 28 (.tmp 6) (.tmp 25) (b+1+1) (leafC 0 false ⟨#[]⟩) (leafC 0 false ⟨#[]⟩) (TypeDesc.struct #[]) rfl (by kernel_rfl) (by kernel_rfl) rfl (by kernel_rfl) (by kernel_rfl) (by kernel_rfl) hx3 ?_
      refine rl_and ⟨trivial,fun h=>Bool.noConfusion (show true=false from h)⟩ (fun hS hC=>?_)
      refine rl_pure 9 _ (.bool false) (some 7) rfl (by kernel_rfl) (by kernel_rfl) (by kernel_rfl) (by kernel_rfl) (fun _ _ _ h=>h) (fun L W=>si1 9 8 rfl _) (by kernel_rfl) (fun w=>by kernel_rfl) hC hS (fun hC hS=>?_)
      refine rl_done (by kernel_rfl) ?_ _
      have HE:=Lib.hid (show PutP X t l v w (.returned (.tuple #[zeroV,.bool false])) (put0 w5 (b+1+1) (leafC 0 false ⟨#[]⟩)) from ⟨.inl ⟨by rw [HL0.out,getM];unfold stepM;rw [hpm];rfl,rfl⟩,hbb⟩)
      have hbc:=hbx2.cells
      clear hbx2 hbb hb5 hB hS0 hq hx3
      refine HJ.out _ _ ?_
      clear HJ hS hC
      simp only [Act.put,List.setIfInBounds_toArray,List.set_cons_zero,List.set_cons_succ]
      generalize put0 w5 (b+1+1) (leafC 0 false ⟨#[]⟩)=w6 at *
      simp only [leafC] at hbc
      obtain ⟨d0,d1,d2,d3,d4,d5,d6,d7⟩:=hbc
      go_wp2_with fail
      exact bodyPost_ret (v:=.tuple #[.agg #[.int .i64 0,.bool false,.bool false,.slice none 0 0,.int .i64 0,.string ⟨#[]⟩,.slice none 0 0,.slice none 0 0],.bool false]) (by simp [results,Tryd.results27,go_sem,d0,d1,d2,d3,d4,d5,d6,d7]) rfl HE.out
    · refine ⟨_,rfl,?_⟩
      obtain ⟨U,hU⟩:∃ U,setV t v j g=U:=⟨_,rfl⟩
      rw [hU] at hrep ⊢
      refine rl_and ⟨trivial,fun _=>hB⟩ (fun hS hC=>?_)
      refine rl_pure 6 _ ((U.c).val) (some 25) rfl (by kernel_rfl) (by kernel_rfl) (by kernel_rfl) (by kernel_rfl) (fun _ _ _ h=>h) (fun L W=>si1 6 8 rfl _) (by kernel_rfl) (fun w=>by kernel_rfl) hC hS (fun hC hS=>?_)
      refine rl_pure 7 _ (.bool true) (some 26) rfl (by kernel_rfl) (by kernel_rfl) (by kernel_rfl) (by kernel_rfl) (fun _ _ _ h=>h) (fun L W=>si1 7 8 rfl _) (by kernel_rfl) (fun w=>by kernel_rfl) hC hS (fun hC hS=>?_)
      refine rl_all [8] (by kernel_rfl) (by simp) hC (rl_one _ ?_)
      have hbx2:=put0_box hx3 (c:=U.c)
      have hbb:=hb5.trans ((put0_but w5 (b+1+1) (U.c)).below (by rw [HBB.out];omega) hb5.size)
      refine rl_storeT 8 _ 28 (.tmp 6) (.tmp 25) (b+1+1) (U.c) (leafC 0 false ⟨#[]⟩) (TypeDesc.struct #[]) rfl (by kernel_rfl) (by kernel_rfl) rfl (by kernel_rfl) (by kernel_rfl) (by kernel_rfl) hx3 ?_
      refine rl_and ⟨trivial,fun h=>Bool.noConfusion (show true=false from h)⟩ (fun hS hC=>?_)
      refine rl_pure 9 _ (.bool true) (some 7) rfl (by kernel_rfl) (by kernel_rfl) (by kernel_rfl) (by kernel_rfl) (fun _ _ _ h=>h) (fun L W=>si1 9 8 rfl _) (by kernel_rfl) (fun w=>by kernel_rfl) hC hS (fun hC hS=>?_)
      refine rl_done (by kernel_rfl) ?_ _
      have hlw:=hx3.lt
      have hgg:=HX3.out.lt
      have HE:=Lib.hid (show PutP X t l v w (.returned (.tuple #[U.c.val,.bool true])) (put0 w5 (b+1+1) U.c) from ⟨.inr ⟨U,by rw [HL0.out];exact ⟨j,g,v,hpm,rfl,hU.symm⟩,rfl,hrep.to (put0_but _ _ _).size (fun k hk hx=>(put0_but w5 (b+1+1) U.c).block k hk (fun e=>hx (.inr ⟨by rw [HBB.out];omega,by omega⟩))) (fun k _ hx=>.inl hx) (fun _ h=>h)⟩,hbb⟩)
      have hbc:=hbx2.cells
      clear hbx2 hbb hb5 hB hS0 hq hx3 hrep hU hlw hgg
      refine HJ.out _ _ ?_
      clear HJ hS hC
      simp only [Act.put,List.setIfInBounds_toArray,List.set_cons_zero,List.set_cons_succ]
      generalize put0 w5 (b+1+1) U.c=w6 at *
      generalize U.c=uc at *
      obtain ⟨uk,ub,uneg,uma,umn,umc,ue,us,uka,ukn,ukc,uva,uvn,uvc⟩:=uc
      simp only at hbc
      unfold Cel.val at HE ⊢
      obtain ⟨d0,d1,d2,d3,d4,d5,d6,d7⟩:=hbc
      go_wp2_with fail
      exact bodyPost_ret (v:=.tuple #[.agg #[.int .i64 uk,.bool ub,.bool uneg,.slice uma umn umc,.int .i64 ue,.string us,.slice uka ukn ukc,.slice uva uvn uvc],.bool true]) (by simp [results,Tryd.results27,go_sem,d0,d1,d2,d3,d4,d5,d6,d7]) rfl HE.out
  · obtain ⟨bk,o,rfl,hbk⟩:=(HPR.out Wb HB0.out).shape (by rw [sv_len,HL.out];omega)
    obtain ⟨h,hhd⟩:∃ h,n / 2=h:=⟨_,rfl⟩
    have hdv:Int.tdiv (n:Int) 2=(h:Int):=by rw [div2,hhd]
    have h1h:1≤h∧h<n∧n - h<n:=by omega
    obtain ⟨h2,h3,h4⟩:=h1h
    have hz1:(0:Int)≤(h:Int):=by omega
    have hz2:(h:Int)≤(cap:Int):=by omega
    have hz3:(h:Int)≤(n:Int):=by omega
    have hz4:(n:Int)≤(cap:Int):=by omega
    have hz5:¬ cap=h:=by omega
    have hz6:¬ (cap:Int)=(h:Int):=by omega
    have hn0:((n:Int) == 0)=false:=beq_eq_false_iff_ne.2 (by omega)
    have hn1:((n:Int) == 1)=false:=beq_eq_false_iff_ne.2 (by omega)
    clear c0 c1 c2 c3 c4 c5 c6 c7 e0 e1 e2 e3 e4 e5 e6 e7 hhd
    go_enter Tryd.func27,Tryd.ntmps27
    go_upto_region 6 with fail
    rw [HWB.out]
    go_wp2
    go_quiet (fail)
    have hbd:=below_drewN (Below.refl Wb.heap.size Wb) nq
    generalize Wb.drewN nq=Wd at *
    have hwd:=HB0.out.trans (hbd.mono HB0.out.size)
    have hszd:=hbd.size
    have HLA:=Lib.hid (show l=l.take h++l.drop h from (List.take_append_drop h l).symm)
    have hln:(l.take h).length=h:=by rw [List.length_take,HL.out];omega
    have hld:(l.drop h).length=n - h:=by rw [List.length_drop,HL.out]
    have HPN:=Lib.hid (fun W (hw:Below w.heap.size w W)=>((by have:=(HPR.out W hw).take h;simpa [sv,List.map_take] using this):RdV W (some ⟨bk,o,none⟩) (sv (l.take h))))
    have HPF:=Lib.hid (fun W (hw:Below w.heap.size w W)=>((by have:=(HPR.out W hw).drop h;simpa [sv,List.map_drop] using this):RdV W (some ⟨bk,o+h,none⟩) (sv (l.drop h))))
    have KG:=Lib.hid (get_t t (some ⟨bk,o,none⟩) h cap (l.take h) Wd (HRT.out Wd hwd).1 hln (HPN.out Wd hwd) (by omega) (by omega) (fun x hx=>HS.out x (List.mem_of_mem_take hx)))
    rw [HCT.out] at KG
    have HLN:=Lib.hid hln
    have HLD:=Lib.hid hld
    have HBD:=Lib.hid hbd
    have HWD:=Lib.hid hwd
    have HX1:=Lib.hid (fun W (hw:Below Wb.heap.size Wb W)=>(HBX.out W hw).1)
    obtain ⟨c0,c1,c2,c3,c4,c5,c6,c7⟩:=(HBX.out Wd hbd).1.cells
    simp only at c0 c1 c2 c3 c4 c5 c6 c7
    unfold Cel.val at KG
    simp only at KG
    clear hln hld hbd hwd hdv hz5 hz6
    go_wp2_with fail
    refine KG.out.mono ?_
    rintro r w2 ⟨hd,hb2⟩
    have HB2:=Lib.hid (HBD.out.trans (hb2.mono hszd))
    have hs2:=hb2.size
    clear hb2 KG c0 c1 c2 c3 c4 c5 c6 c7
    rcases hd with ⟨x,hgx,rfl⟩ | ⟨hgn,rfl⟩
    case inr =>
      obtain ⟨W3,hW3⟩:∃ W,w2.alloc (.cells #[.int .i64 0,.bool false,.bool false,.slice none 0 0,.int .i64 0,.string ⟨#[]⟩,.slice none 0 0,.slice none 0 0] 28)=W:=⟨_,rfl⟩
      have hb3:Below w2.heap.size w2 W3:=by rw [← hW3];exact (Below.refl _ _).alloc (Nat.le_refl _) _
      have HB3:=HB2.out.trans (hb3.mono (by omega))
      have hx3:=(HBX.out W3 HB3).2.2
      have hw3:=HB0.out.trans (HB3.mono HB0.out.size)
      have hbb:=hw3.trans ((put0_but W3 (b+1+1) (leafC 0 false ⟨#[]⟩)).below (by rw [HBB.out];omega) hw3.size)
      have HE:=Lib.hid (show PutP X t l v w (.returned (.tuple #[zeroV,.bool false])) (put0 W3 (b+1+1) (leafC 0 false ⟨#[]⟩)) from ⟨.inl ⟨by rw [HLA.out,getM_append,hgn];rfl,rfl⟩,hbb⟩)
      obtain ⟨⟨g0,g1,g2,g3,g4,g5,g6,g7⟩,f0,f1,f2,f3,f4,f5,f6,f7⟩:=hx3.var
      have hbx:=(put0_box hx3 (c:=leafC 0 false ⟨#[]⟩)).cells
      have HW3:=Lib.hid hW3
      unfold put0 leafC at hbx HE
      unfold zeroV at HE ⊢
      simp only [leafC] at hbx HE g0 g1 g2 g3 g4 g5 g6 g7
      obtain ⟨d0,d1,d2,d3,d4,d5,d6,d7⟩:=hbx
      clear hx3 hw3 hbb hb3 HB3 hW3
      go_upto_region 8 with fail
      rw [HW3.out]
      go_wp2_with fail
      exact bodyPost_ret (v:=.tuple #[.agg #[.int .i64 0,.bool false,.bool false,.slice none 0 0,.int .i64 0,.string ⟨#[]⟩,.slice none 0 0,.slice none 0 0],.bool false]) (by simp [results,Tryd.results27,go_sem,d0,d1,d2,d3,d4,d5,d6,d7]) rfl HE.out
    have HGX:=Lib.hid hgx
    have hxr:Ind X w (fun W=>Rep W x):=fun W a1 a2=>getM_rep _ (HR0.out.1 W a1 a2) hgx
    have hxs:Sml x:=getM_sml _ (HR0.out.1.here) HSM.out hgx
    obtain ⟨cx,hcx⟩:∃ c,x.c=c:=⟨_,rfl⟩
    obtain ⟨W3,hW3⟩:∃ W,w2.alloc (.cells cx.cells.toArray 28)=W:=⟨_,rfl⟩
    have hb3:Below w2.heap.size w2 W3:=by rw [← hW3];exact (Below.refl _ _).alloc (Nat.le_refl _) _
    have hs3:W3.heap.size=w2.heap.size+1:=by rw [← hW3];simp
    have hxb:BoxT W3 w2.heap.size cx:=by rw [← hW3];exact heap_alloc_new w2 _
    have HB3:=Lib.hid (HB2.out.trans (hb3.mono (by omega)))
    have hw3:=HB0.out.trans (HB3.out.mono HB0.out.size)
    obtain ⟨b10,hb10⟩:∃ q,w2.heap.size=q:=⟨_,rfl⟩
    have HB10:=Lib.hid hb10
    have hbw:=HB0.out.size
    obtain ⟨X',hX'⟩:∃ Y:Nat→Prop,Y=fun k=>X k∨(w.heap.size≤k∧k<W3.heap.size):=⟨_,rfl⟩
    have HXT:=Lib.hid hX'
    have hXl:∀ k,X' k→k<W3.heap.size:=by
      intro k hk;rw [hX'] at hk
      rcases hk with hk | hk
      · have:=HXX.out k hk;omega
      · exact hk.2
    have HXL:=Lib.hid hXl
    have HMR:=Lib.hid (fun W (P:World→Prop) (hp:Ind X w P) (hw:Below w.heap.size w W)=>((by rw [hX'];exact ind_more hp hw):Ind X' W P))
    have KF:=Lib.hid (HIH.out (n - h) h4 X' x v (some ⟨bk,o+h,none⟩) (cap - h) (l.drop h) W3 hXl (HMR.out W3 _ hxr hw3) (HMR.out W3 _ HR0.out.2 hw3) hxs HLD.out (HPF.out W3 hw3) (by omega) (by omega) (fun y hy=>HS.out y (List.mem_of_mem_drop hy)))
    rw [hcx,HCV.out] at KF
    rw [hb10] at hxb
    have HXB:=Lib.hid hxb
    have hx2:=(HBX.out W3 HB3.out).2.1
    rw [hcx]
    have HCX:=Lib.hid hcx
    obtain ⟨xk,xb,xneg,xma,xmn,xmc,xe,xs,xka,xkn,xkc,xva,xvn,xvc⟩:=cx
    unfold Cel.val at KF ⊢
    unfold Cel.cells at hW3
    simp only at KF hW3
    have HW3:=Lib.hid hW3
    have HW3B:=Lib.hid hw3
    clear hgx hxr hxs hcx hW3 hb3 hw3 hX' hXl
    go_upto_region 8 with fail
    rw [HW3.out]
    obtain ⟨y0,y1,y2,y3,y4,y5,y6,y7⟩:=hxb.cells
    simp only at y0 y1 y2 y3 y4 y5 y6 y7
    obtain ⟨e0,e1,e2,e3,e4,e5,e6,e7⟩:=hx2.cells
    simp only at e0 e1 e2 e3 e4 e5 e6 e7
    clear hxb hx2 HW3
    go_wp2_with fail
    refine KF.out.mono ?_
    rintro r w5 ⟨hd,hb5⟩
    have hxb5:=HXB.out.on (hb5.block _ HXB.out.lt)
    have HB5:=Lib.hid (HB3.out.trans (hb5.mono HB3.out.size))
    have HW5:=Lib.hid (HW3B.out.trans (hb5.mono HW3B.out.size))
    have hs5:=hb5.size
    clear y0 y1 y2 y3 y4 y5 y6 y7 e0 e1 e2 e3 e4 e5 e6 e7 KF hb5
    rcases hd with ⟨hgn,rfl⟩ | ⟨y,hpr,rfl,hyr⟩
    · have HZ:=Lib.hid (show getM t l=none by rw [HLA.out,getM_append,HGX.out];exact hgn)
      obtain ⟨W6,hW6⟩:∃ W,put0 w5 b10 (leafC 0 false ⟨#[]⟩)=W:=⟨_,rfl⟩
      have hbu:=put0_but w5 b10 (leafC 0 false ⟨#[]⟩)
      rw [hW6] at hbu
      have hx3:=((HBX.out w5 HB5.out).2.2).on (hbu.block _ ((HBX.out w5 HB5.out).2.2).lt (by have:=HX3.out.lt;omega))
      have hw6:=HW5.out.trans (hbu.below (by omega) HW5.out.size)
      have hbb:=hw6.trans ((put0_but W6 (b+1+1) (leafC 0 false ⟨#[]⟩)).below (by rw [HBB.out];omega) hw6.size)
      have HE:=Lib.hid (show PutP X t l v w (.returned (.tuple #[zeroV,.bool false])) (put0 W6 (b+1+1) (leafC 0 false ⟨#[]⟩)) from ⟨.inl ⟨HZ.out,rfl⟩,hbb⟩)
      obtain ⟨⟨g0,g1,g2,g3,g4,g5,g6,g7⟩,f0,f1,f2,f3,f4,f5,f6,f7⟩:=hx3.var
      obtain ⟨⟨k0,k1,k2,k3,k4,k5,k6,k7⟩,q0,q1,q2,q3,q4,q5,q6,q7⟩:=hxb5.var
      have hbx:=(put0_box hx3 (c:=leafC 0 false ⟨#[]⟩)).cells
      unfold put0 leafC at hW6
      simp only at hW6
      have HW6:=Lib.hid hW6
      unfold put0 leafC at hbx HE
      unfold zeroV at HE ⊢
      simp only [leafC] at hbx HE g0 g1 g2 g3 g4 g5 g6 g7 k0 k1 k2 k3 k4 k5 k6 k7
      obtain ⟨d0,d1,d2,d3,d4,d5,d6,d7⟩:=hbx
      clear hx3 hw6 hbb hbu hW6 hxb5
      go_upto_region 11 with fail
      rw [HW6.out]
      go_wp2_with fail
      exact bodyPost_ret (v:=.tuple #[.agg #[.int .i64 0,.bool false,.bool false,.slice none 0 0,.int .i64 0,.string ⟨#[]⟩,.slice none 0 0,.slice none 0 0],.bool false]) (by simp [results,Tryd.results27,go_sem,d0,d1,d2,d3,d4,d5,d6,d7]) rfl HE.out
    · obtain ⟨cy,hcy⟩:∃ c,y.c=c:=⟨_,rfl⟩
      obtain ⟨W6,hW6⟩:∃ W,put0 w5 b10 cy=W:=⟨_,rfl⟩
      have hbu:=put0_but w5 b10 cy
      have hxb6:=put0_box hxb5 (c:=cy)
      rw [hW6] at hbu hxb6
      have hw6:=HW5.out.trans (hbu.below (by omega) HW5.out.size)
      have hB6:∀ W,Below W6.heap.size W6 W→(BoxT W b (⟨tk,tb,tneg,tma,tmn,tmc,te,ts,tka,tkn,tkc,tva,tvn,tvc⟩:Cel)∧BoxT W (b+1+1) (leafC 0 false ⟨#[]⟩)):=by
        intro W hW
        have h5:=HBX.out w5 HB5.out
        have hl3:=HX3.out.lt
        have a1:=h5.1.on (hbu.block _ h5.1.lt (by have:=HX3.out.lt;omega))
        have a2:=h5.2.2.on (hbu.block _ h5.2.2.lt (by have:=HX3.out.lt;omega))
        exact ⟨a1.on (hW.block _ a1.lt),a2.on (hW.block _ a2.lt)⟩
      have hyr6:Ind X' W6 (fun W=>Rep W y):=hyr.to hbu.size (fun k hk hx=>hbu.block k hk (fun e=>hx (by rw [HXT.out];exact .inr ⟨by rw [e];omega,by rw [e];omega⟩))) (fun k _ h=>h) (fun _ h=>h)
      have hs6:=hbu.size
      have KN:=Lib.hid (HIH.out h h3 X' t y (some ⟨bk,o,none⟩) cap (l.take h) W6 (fun k hk=>by have:=HXL.out k hk;omega) (HMR.out W6 _ HR0.out.1 hw6) hyr6 HSM.out HLN.out (HPN.out W6 hw6) (by omega) (by omega) (fun z hz=>HS.out z (List.mem_of_mem_take hz)))
      rw [HCT.out,hcy] at KN
      rw [hcy]
      have HPRR:=Lib.hid hpr
      obtain ⟨⟨k0,k1,k2,k3,k4,k5,k6,k7⟩,q0,q1,q2,q3,q4,q5,q6,q7⟩:=hxb5.var
      obtain ⟨m0,m1,m2,m3,m4,m5,m6,m7⟩:=hxb6.cells
      obtain ⟨c0,c1,c2,c3,c4,c5,c6,c7⟩:=(hB6 W6 (Below.refl _ _)).1.cells
      have HB6:=Lib.hid hB6
      have HW6B:=Lib.hid hw6
      obtain ⟨yk,yb,yneg,yma,ymn,ymc,ye,ys,yka,ykn,ykc,yva,yvn,yvc⟩:=cy
      unfold put0 at hW6
      unfold Cel.val at KN ⊢
      simp only at hW6 KN k0 k1 k2 k3 k4 k5 k6 k7 m0 m1 m2 m3 m4 m5 m6 m7 c0 c1 c2 c3 c4 c5 c6 c7
      have HW6:=Lib.hid hW6
      clear hbu hxb6 hw6 hB6 hyr6 hpr hW6 hxb5 hyr hcy
      go_upto_region 11 with fail
      rw [HW6.out]
      clear k0 k1 k2 k3 k4 k5 k6 k7 q0 q1 q2 q3 q4 q5 q6 q7 HW6
      go_wp2_with fail
      refine KN.out.mono ?_
      rintro r w9 ⟨hd,hb9⟩
      rcases hd with ⟨hgn,_⟩ | ⟨u,hpu,rfl,hur⟩
      · rw [HGX.out] at hgn;cases hgn
      · have hx3:=(HB6.out w9 hb9).2
        have hw9:=HW6B.out.trans (hb9.mono HW6B.out.size)
        have hs9:=hb9.size
        have hbb:=hw9.trans ((put0_but w9 (b+1+1) u.c).below (by rw [HBB.out];omega) hw9.size)
        have HE:=Lib.hid (show PutP X t l v w (.returned (.tuple #[u.c.val,.bool true])) (put0 w9 (b+1+1) u.c) from ⟨.inr ⟨u,by rw [HLA.out];exact PutR.append _ HGX.out HPRR.out hpu,rfl,hur.to (put0_but _ _ _).size (fun k hk hx=>(put0_but w9 (b+1+1) u.c).block k hk (fun e=>hx (by rw [HXT.out];exact .inr ⟨by rw [HBB.out];omega,by have:=HX3.out.lt;omega⟩))) (fun k _ hx=>by rw [HXT.out];exact .inl hx) (fun _ h=>h)⟩,hbb⟩)
        obtain ⟨⟨g0,g1,g2,g3,g4,g5,g6,g7⟩,f0,f1,f2,f3,f4,f5,f6,f7⟩:=hx3.var
        have hbx:=(put0_box hx3 (c:=u.c)).cells
        clear hx3 hw9 hbb hb9 hpu hur KN m0 m1 m2 m3 m4 m5 m6 m7 c0 c1 c2 c3 c4 c5 c6 c7
        generalize u.c=uc at *
        obtain ⟨uk,ub,uneg,uma,umn,umc,ue,us,uka,ukn,ukc,uva,uvn,uvc⟩:=uc
        unfold put0 at hbx HE
        unfold Cel.val at HE ⊢
        simp only [leafC] at hbx HE g0 g1 g2 g3 g4 g5 g6 g7
        obtain ⟨d0,d1,d2,d3,d4,d5,d6,d7⟩:=hbx
        go_wp2_with fail
        exact bodyPost_ret (v:=.tuple #[.agg #[.int .i64 uk,.bool ub,.bool uneg,.slice uma umn umc,.int .i64 ue,.string us,.slice uka ukn ukc,.slice uva uvn uvc],.bool true]) (by simp [results,Tryd.results27,go_sem,d0,d1,d2,d3,d4,d5,d6,d7]) rfl HE.out
def Objs (t:MT):Prop:=∀ s,t.sub s→s.c.k=7→Obj7 s∧s.c.b=false∧s.c.neg=false∧s.m=[]∧s.c.mn=0∧s.c.e=0∧s.c.s=⟨#[]⟩
theorem Objs.part {t s:MT} (h:Objs t) (hs:s∈t.v):Objs s:=fun u hu=>h u (MT.sub_v hs hu)
theorem blank_none {c:Cel} (h:blankB c=true):c.b=false∧c.neg=false∧c.mn=0∧c.e=0∧c.s=⟨#[]⟩∧c.kn=0:=by
  unfold blankB at h
  simp only [Bool.and_eq_true,decide_eq_true_eq,Bool.not_eq_true'] at h
  obtain ⟨h1,h2,h3,h4,h5,h6,_⟩:=h
  exact ⟨h1,h2,h3,h4,ByteArray.ext (Array.eq_empty_of_size_eq_zero h5),h6⟩
theorem check_objs {w:World} {t:MT} (hR:Rep w t) (h:checkB t=true) (hL:LgB t):Objs t:=by
  intro s hs h7
  obtain ⟨_,h2⟩:=check_sound h
  have h3:=h2 s hs
  unfold soundB at h3
  rw [if_neg (by omega),if_neg (by omega),if_neg (by omega),if_neg (by omega),if_neg (by omega),if_pos h7] at h3
  simp only [Bool.and_eq_true,decide_eq_true_eq] at h3
  obtain ⟨e1,e2,e3,e4⟩:=h3
  have o:=hR s hs
  have e5:=o.kn;have e6:=o.vn;have e7:=o.mn
  obtain ⟨l1,l2,l3,l4,l5⟩:=hL s hs
  obtain ⟨b1,b2,b3,b4,b5,b6⟩:=blank_none e4
  simp only at b1 b2 b3 b4 b5 b6
  exact ⟨⟨fun _=>h7,e5.symm,by omega,by omega,by omega,ris_of e2⟩,b1,b2,List.eq_nil_of_length_eq_zero (by omega),b3,b4,b5⟩
theorem put1_set {α:Type} (l:List α) (j:Nat) (x:α) (h:j<l.length):put1 l j (j+1) x=l.set j x:=by
  unfold put1
  rw [List.set_eq_take_append_cons_drop,if_pos h]
  simp
def PutQ:MT→List ByteArray→MT→MT→Prop
  | t,[],v,u=>u=v
  | t,s::r,v,u=>∃ j y,placeM t s=some j∧PutQ (t.v.getD j (leafT 0 false ⟨#[]⟩)) r v y∧u.bare=(setV t y j 0).bare
theorem setV_bare (t y:MT) (j g:Nat):(setV t y j g).bare=.mk t.c.bare t.m t.k ((t.v.map MT.bare).set j y.bare):=by
  unfold setV
  rw [MT.bare,MT.bareL_map,List.map_set]
  rfl
theorem idxFromS_at (x:ByteArray):∀ (zs:List ByteArray) (i:Nat),0≤Lib.idxFromS zs x i→∃ j,j<zs.length∧Lib.idxFromS zs x i=((i+j:Nat):Int)∧zs.getD j ByteArray.empty=x:=by
  intro zs
  induction zs with
  | nil=>intro i h;exact absurd h (by simp [Lib.idxFromS])
  | cons z zs ih =>
    intro i h
    by_cases hz:z=x
    · exact ⟨0,by simp,by simp [Lib.idxFromS,hz],by simpa using hz⟩
    · simp only [Lib.idxFromS,if_neg hz] at h ⊢
      obtain ⟨j,h1,h2,h3⟩:=ih (i+1) h
      exact ⟨j+1,by simpa using h1,by rw [h2];congr 1;omega,by simpa using h3⟩
theorem place_spl {t:MT} {s:ByteArray} {j:Nat} (h7:t.c.k=7) (ho:Obj7 t) (h:placeM t s=some j):Spl t.k s j (j+1)∧j<t.k.length:=by
  unfold placeM at h
  rw [if_pos h7] at h
  split at h
  · rename_i h2
    obtain ⟨i,i1,i2,i3⟩:=idxFromS_at s t.k 0 h2.1
    have e:Lib.idxOfS t.k s=(i:Int):=by unfold Lib.idxOfS;rw [i2];simp
    rw [e] at h
    simp at h
    subst h
    refine ⟨⟨by omega,Nat.le_refl _,i1,fun k hk=>by rw [← i3];exact ho.ris k i hk i1,fun k hk hl=>by rw [← i3];exact ho.ris i k (by omega) hl,fun _=>i3⟩,i1⟩
  · cases h
theorem step_place {t x:MT} {s:ByteArray} (h:stepM t s=some x):∃ j,placeM t s=some j∧x=t.v.getD j (leafT 0 false ⟨#[]⟩):=by
  unfold stepM at h
  cases hp:placeM t s with
  | none=>rw [hp] at h;cases h
  | some j=>rw [hp] at h;simp at h;exact ⟨j,rfl,h.symm⟩
theorem step_kind {t x:MT} {s:ByteArray} (h:stepM t s=some x) (h7:¬ t.c.k=7):t.c.k=6∧∃ j,idxL s.data.toList ((t.c.vn:Int) - 1)=some j∧placeM t s=some j∧x=t.v.getD j (leafT 0 false ⟨#[]⟩):=by
  obtain ⟨j,h1,h2⟩:=step_place h
  have h3:=h1
  unfold placeM at h3
  rw [if_neg h7] at h3
  by_cases h6:t.c.k=6
  · rw [if_pos h6] at h3;exact ⟨h6,j,h3,h1,h2⟩
  · rw [if_neg h6] at h3;cases h3
theorem set_bare {t y u:MT} {s:ByteArray} {j:Nat} {ka va:Option Addr} {kc vc:Nat} (h7:t.c.k=7) (hb:t.c.b=false∧t.c.neg=false∧t.m=[]∧t.c.mn=0∧t.c.e=0∧t.c.s=⟨#[]⟩) (ho:Obj7 t) (hp:Spl t.k s j (j+1)) (hj:j<t.k.length) (hc:u.c=objC7 ka u.k.length kc va u.k.length vc) (hm:u.m=[]) (hk:u.k=put1 t.k j (j+1) s) (hv:u.v=put1 t.v j (j+1) y):u.bare=(setV t y j 0).bare:=by
  have e1:u.k=t.k:=by
    rw [hk,put1_set _ _ _ hj,← hp.mid rfl]
    simp [List.getD,hj]
  have e2:u.v=t.v.set j y:=by rw [hv,put1_set _ _ _ (by rw [ho.kv];exact hj)]
  rw [setV_bare]
  obtain ⟨c,m,k,v⟩:=u
  obtain ⟨ct,mt,kt,vt⟩:=t
  replace e1:k=kt:=e1
  replace e2:v=vt.set j y:=e2
  replace hm:m=[]:=hm
  replace hc:c=objC7 ka k.length kc va k.length vc:=hc
  obtain ⟨b1,b2,b3,b4,b5,b6⟩:=hb
  have k1:=ho.kn;have k2:=ho.vn
  replace b1:ct.b=false:=b1
  replace b2:ct.neg=false:=b2
  replace b3:mt=[]:=b3
  replace b4:ct.mn=0:=b4
  replace b5:ct.e=0:=b5
  replace b6:ct.s=⟨#[]⟩:=b6
  replace k1:ct.kn=kt.length:=k1
  replace k2:ct.vn=kt.length:=k2
  replace h7:ct.k=7:=h7
  subst e1 e2 hm hc
  rw [MT.bare,MT.bareL_map,List.map_set,b3]
  congr 1
  obtain ⟨q0,q1,q2,q3,q4,q5,q6,q7,q8,q9,q10,q11,q12,q13⟩:=ct
  simp only at b1 b2 b4 b5 b6 k1 k2 h7
  subst b1 b2 b4 b5 b6 k1 h7
  show Cel.bare (objC7 ka k.length kc va k.length vc)=Cel.bare ⟨7,false,false,q3,0,q5,0,⟨#[]⟩,q8,k.length,q10,q11,q12,q13⟩
  simp only [Cel.bare,objC7]
  rw [k2]
def RPutP (X:Nat→Prop) (t:MT) (l:List ByteArray) (v:MT) (w:World) (e:Ending) (w':World):Prop :=
  ((getM t l=none∧e=.returned (.tuple #[zeroV,.bool false]))∨(∃ u,PutQ t l v u∧e=.returned (.tuple #[u.c.val,.bool true])∧Ind X w' (fun W=>Rep W u)))∧Below w.heap.size w w'
theorem ind_part {X:Nat→Prop} {w:World} {t:MT} {j:Nat} (h:Ind X w (fun W=>Rep W t)) (hj:j<t.v.length):Ind X w (fun W=>Rep W (t.v.getD j (leafT 0 false ⟨#[]⟩))) :=
  fun W h1 h2=>(h W h1 h2).part (by simp [List.getD,hj])
theorem idxFromS_past (x:ByteArray):∀ (zs:List ByteArray) (j i:Nat),(∀ k,k<j→zs.getD k ByteArray.empty ≠ x)→Lib.idxFromS zs x i = -1∨((i+j:Nat):Int)≤Lib.idxFromS zs x i:=by
  intro zs
  induction zs with
  | nil=>intro j i _;left;rfl
  | cons z zs ih =>
    intro j i h
    by_cases hz:z=x
    · right
      have h0:j=0:=by
        cases j with
        | zero=>rfl
        | succ j=>exact absurd (by simpa using hz) (h 0 (by omega))
      simp only [Lib.idxFromS,if_pos hz]
      omega
    · simp only [Lib.idxFromS,if_neg hz]
      cases j with
      | zero =>
        rcases ih 0 (i+1) (fun k hk=>by omega) with h1 | h1
        · exact .inl h1
        · right;omega
      | succ j =>
        rcases ih j (i+1) (fun k hk=>by simpa using h (k+1) (by omega)) with h1 | h1
        · exact .inl h1
        · right;omega
def memM (t:MT) (s:ByteArray):Option Nat:=if t.c.k=7 then placeM t s else none
theorem memM_hit {t:MT} {s:ByteArray} {j:Nat} (h7:t.c.k=7) (hj:j<t.k.length) (hv:j<t.c.vn) (hs:t.k.getD j ByteArray.empty=s) (hn:∀ i,i<j→t.k.getD i ByteArray.empty ≠ s):memM t s=some j:=by
  have h:=Lib.idxFromS_hit s t.k j 0 hj hs hn
  unfold memM placeM Lib.idxOfS
  rw [if_pos h7,if_pos h7,h,if_pos (by omega)]
  congr 1
  omega
theorem memM_miss {t:MT} {s:ByteArray} {j:Nat} (hj:t.c.k=7→t.k.length≤j∨t.c.vn≤j) (hn:∀ i,i<j→t.k.getD i ByteArray.empty ≠ s):memM t s=none:=by
  unfold memM
  by_cases h7:t.c.k=7
  · rw [if_pos h7]
    unfold placeM
    rw [if_pos h7]
    rw [if_neg]
    rintro ⟨h1,h2⟩
    rcases hj h7 with h3 | h3
    · have:=Lib.idxFromS_miss s t.k 0 (fun i hi=>hn i (by omega))
      unfold Lib.idxOfS at h1
      omega
    · unfold Lib.idxOfS at h1 h2
      rcases idxFromS_past s t.k j 0 hn with h | h <;> omega
  · rw [if_neg h7]
def MemA (t:MT) (s:ByteArray) (w:World) (e:Ending) (w':World):Prop :=
  ((∃ j,memM t s=some j∧e=.returned (.tuple #[(t.v.getD j (leafT 0 false ⟨#[]⟩)).c.val,.bool true]))∨(memM t s=none∧e=.returned (.tuple #[zeroV,.bool false])))∧Below w.heap.size w w'
def MeI (t:MT) (s:ByteArray) (n:Nat) (Wb:World) (k:Nat) (i:Value) (wr:World):Prop :=
  ∃ j:Nat,j≤n∧n - j≤k∧i=.int .i64 (j:Int)∧(∀ i,i<j→t.k.getD i ByteArray.empty ≠ s)∧Below Wb.heap.size Wb wr
theorem refMemberA_any (t:MT) (s:ByteArray) (w:World) (hR:Rep w t) :
    Calls Tryd.prog 80 #[t.c.val,.string s] w (MemA t s w):=by
  obtain ⟨Wb,hWb⟩:∃ x,two2 w t.c (leafC 0 false ⟨#[]⟩)=x:=⟨_,rfl⟩
  have HB0:=Lib.hid (show Below w.heap.size w Wb by rw [← hWb];exact two_below2 _ _ _)
  have HBX:=Lib.hid (fun W (h:Below Wb.heap.size Wb W)=>((by rw [← hWb] at h;exact ⟨(two2_box w t.c (leafC 0 false ⟨#[]⟩)).1.on (h.block _ (by rw [two2_size];omega)),(two2_box w t.c (leafC 0 false ⟨#[]⟩)).2.on (h.block _ (by rw [two2_size];omega))⟩):BoxT W w.heap.size t.c∧BoxT W (w.heap.size+1) (leafC 0 false ⟨#[]⟩)))
  have HRR:=Lib.hid (fun W (h:Below Wb.heap.size Wb W)=>(hR.on (HB0.out.trans (h.mono HB0.out.size)):Rep W t))
  have hlm:=hR.own.lm
  have hkn:=hR.own.kn
  have hvn:=hR.own.vn
  have HHIT:=Lib.hid (fun (j:Nat) (h7:t.c.k=7) (hj:j<t.k.length) (hv:j<t.c.vn)=>memM_hit (s:=s) h7 hj hv)
  have HMISS:=Lib.hid (fun (j:Nat) (hj:t.c.k=7→t.k.length≤j∨t.c.vn≤j)=>memM_miss (s:=s) hj)
  obtain ⟨c,hc⟩:∃ c,t.c=c:=⟨_,rfl⟩
  have HK:=Lib.hid (fun W (h:Rep W t)=>h.own.kr)
  have HV:=Lib.hid (fun W (h:Rep W t)=>h.own.vr)
  rw [hc] at HBX HK HV hWb hlm hkn hvn HHIT HMISS ⊢
  have HC:=Lib.hid hc
  clear hR hc
  obtain ⟨k,b0,neg,ma,mn,mc,e,st,ka,kn,kc,va,vn,vc⟩:=c
  simp only at HK HV hlm hkn hvn HHIT HMISS
  obtain ⟨hl1,hl2,hl3⟩:=hlm
  unfold Cel.val
  unfold two2 Cel.cells leafC at hWb
  simp only at hWb
  have HWB:=Lib.hid hWb
  clear hWb
  have HNL:=Lib.hid hkn
  have HVL:=Lib.hid hvn
  clear hkn hvn
  go_enter Tryd.func80,Tryd.ntmps80
  go_wp2_with fail
  rw [HWB.out]
  clear HWB
  go_loopg [6] kn (fun k i wr=>MeI t s kn Wb k i wr)
  case atStart=>exact ⟨0,Nat.zero_le _,by omega,rfl,fun i hi=>by omega,Below.refl _ _⟩
  case round =>
    obtain ⟨j,hj,hk,rfl,hno,hb⟩:=hrel
    obtain ⟨c0,c1,c2,c3,c4,c5,c6,c7⟩:=(HBX.out _ hb).1.cells
    simp only at c0 c1 c2 c3 c4 c5 c6 c7
    have hvar:=(HBX.out _ hb).2.var
    unfold Var at hvar
    obtain ⟨⟨g0,g1,g2,g3,g4,g5,g6,g7⟩,f0,f1,f2,f3,f4,f5,f6,f7⟩:=hvar
    simp only [leafC] at g0 g1 g2 g3 g4 g5 g6 g7
    have HB:=Lib.hid hb
    have HNO:=Lib.hid hno
    have HBOX:=Lib.hid (HBX.out _ hb).2
    have HEND:=Lib.hid (fun cc=>(show Below w.heap.size w (put0 wr (w.heap.size+1) cc) from (HB0.out.trans (hb.mono HB0.out.size)).trans ((put0_but _ _ _).below (by omega) (Nat.le_trans HB0.out.size hb.size))))
    clear hb hno
    by_cases hgo:j<kn∧j<vn∧k=7
    case neg =>
      have HZ:=Lib.hid (HMISS.out j (fun h7=>by have:=HNL.out;omega) HNO.out)
      have HE2:=Lib.hid (show MemA t s w (.returned (.tuple #[zeroV,.bool false])) (put0 wr (w.heap.size+1) (leafC 0 false ⟨#[]⟩)) from ⟨.inr ⟨HZ.out,rfl⟩,HEND.out (leafC 0 false ⟨#[]⟩)⟩)
      have hbx:=(put0_box HBOX.out (c:=leafC 0 false ⟨#[]⟩)).cells
      unfold put0 leafC at hbx HE2
      unfold zeroV at HE2
      simp only at hbx HE2
      obtain ⟨d0,d1,d2,d3,d4,d5,d6,d7⟩:=hbx
      by_cases h1:j<kn
      · have hjz:(j:Int)<(kn:Int):=by omega
        by_cases h2:j<vn
        · have hjz2:(j:Int)<(vn:Int):=by omega
          have hk7:¬ k=7:=fun h=>hgo ⟨h1,h2,h⟩
          have hd:decide (k=7)=false:=decide_eq_false hk7
          have hd2:(k == 7)=false:=beq_eq_false_iff_ne.2 hk7
          clear hgo hk7
          go_wp2
          exact bodyPost_ret (v:=.tuple #[.agg #[.int .i64 0,.bool false,.bool false,.slice none 0 0,.int .i64 0,.string ⟨#[]⟩,.slice none 0 0,.slice none 0 0],.bool false]) (by simp [results,Tryd.results80,go_sem,d0,d1,d2,d3,d4,d5,d6,d7]) rfl HE2.out
        · have hjz2:¬ (j:Int)<(vn:Int):=by omega
          clear hgo
          go_wp2
          exact bodyPost_ret (v:=.tuple #[.agg #[.int .i64 0,.bool false,.bool false,.slice none 0 0,.int .i64 0,.string ⟨#[]⟩,.slice none 0 0,.slice none 0 0],.bool false]) (by simp [results,Tryd.results80,go_sem,d0,d1,d2,d3,d4,d5,d6,d7]) rfl HE2.out
      · have hjz:¬ (j:Int)<(kn:Int):=by omega
        clear hgo
        go_wp2
        exact bodyPost_ret (v:=.tuple #[.agg #[.int .i64 0,.bool false,.bool false,.slice none 0 0,.int .i64 0,.string ⟨#[]⟩,.slice none 0 0,.slice none 0 0],.bool false]) (by simp [results,Tryd.results80,go_sem,d0,d1,d2,d3,d4,d5,d6,d7]) rfl HE2.out
    case pos =>
      obtain ⟨hlt,hlv,rfl⟩:=hgo
      obtain ⟨kk,rfl⟩:∃ k,gk=k+1:=⟨gk - 1,by omega⟩
      have hjz:(j:Int)<(kn:Int):=by omega
      have hjz2:(j:Int)<(vn:Int):=by omega
      have hjl:j<t.k.length:=by have:=HNL.out;omega
      have HH:=Lib.hid (HHIT.out j rfl hjl hlv)
      have HNX:=Lib.hid (fun (h:t.k.getD j ByteArray.empty ≠ s)=>(show MeI t s kn Wb kk (.int .i64 ((j:Int)+1)) wr from ⟨j+1,by omega,by omega,rfl,fun i hi=>by
        by_cases hij:i=j
        · subst hij;exact h
        · exact HNO.out i (by omega),HB.out⟩))
      obtain ⟨bk,o,rfl,hbl,hcx⟩:=HK.out wr (HRR.out _ HB.out) j (by rw [sv_len];exact hjl)
      rw [sv_get _ _ hjl] at hcx
      generalize t.k.getD j ByteArray.empty=x at *
      by_cases hxs:x=s
      · have HH:=Lib.hid (HH.out hxs HNO.out)
        have he:(x.toList == s.toList)=true:=(Lib.bytes_beq_iff _ _).2 hxs
        have hvl:j<t.v.length:=by have:=HVL.out;omega
        have hrd:=HV.out wr (HRR.out _ HB.out)
        obtain ⟨xbk,xo,rfl,hxl⟩:=hrd.shape (by rw [flat_len,List.length_map];omega)
        obtain ⟨x0,x1,x2,x3,x4,x5,x6,x7⟩:=flat_at hrd j (by rw [List.length_map];omega) (c:=(t.v.getD j (leafT 0 false ⟨#[]⟩)).c) (getD_mapc hvl _)
        have HE2:=Lib.hid (show MemA t s w (.returned (.tuple #[(t.v.getD j (leafT 0 false ⟨#[]⟩)).c.val,.bool true])) (put0 wr (w.heap.size+1) (t.v.getD j (leafT 0 false ⟨#[]⟩)).c) from ⟨.inl ⟨j,HH.out,rfl⟩,HEND.out _⟩)
        have hbx:=(put0_box HBOX.out (c:=(t.v.getD j (leafT 0 false ⟨#[]⟩)).c)).cells
        clear hrd hxs
        generalize (t.v.getD j (leafT 0 false ⟨#[]⟩)).c=xc at *
        obtain ⟨xk,xb,xneg,xma,xmn,xmc,xe,xs,xka,xkn,xkc,xva,xvn,xvc⟩:=xc
        simp only at x0 x1 x2 x3 x4 x5 x6 x7
        unfold put0 at hbx HE2
        unfold Cel.val at HE2
        simp only at hbx HE2
        obtain ⟨d0,d1,d2,d3,d4,d5,d6,d7⟩:=hbx
        go_wp2
        exact bodyPost_ret (v:=.tuple #[.agg #[.int .i64 xk,.bool xb,.bool xneg,.slice xma xmn xmc,.int .i64 xe,.string xs,.slice xka xkn xkc,.slice xva xvn xvc],.bool true]) (by simp [results,Tryd.results80,go_sem,d0,d1,d2,d3,d4,d5,d6,d7]) rfl HE2.out
      · have he:(x.toList == s.toList)=false:=(Lib.bytes_beq_false_iff _ _).2 hxs
        have HN:=Lib.hid (HNX.out hxs)
        have hj100:(j:Int)≤1000000000000000:=by omega
        clear hxs
        go_wp2
        go_roundg kk
        case rel=>exact HN.out
        case measure=>omega
theorem str_getD (s:ByteArray) (j:Nat) (h:j<s.size):s.data.toList.getD j 0=s[j]'h:=by
  have hs:j<s.data.size:=h
  have h1:s.data[j]? = some (s.data[j]'hs):=Array.getElem?_eq_getElem hs
  simp [List.getD,h1,ByteArray.getElem_eq_getElem_data]
def RIdx (l:List UInt8) (most:Int) (w:World) (e:Ending) (w':World):Prop :=
  e=.returned (.tuple #[.int .i64 (idxV (idxL l most)),.bool (idxL l most).isSome])∧w'=w
theorem refIndexA_any (s:ByteArray) (most:Int) (w:World) (hm:-9223372036854775808≤most∧most≤9223372036854775807) :
    Calls Tryd.prog 16 #[.string s,.int .i64 most] w (RIdx s.data.toList most w):=by
  have hln:s.data.toList.length=s.size:=by rw [Array.length_toList];rfl
  by_cases h0:s.size<1
  · have h0z:(s.size:Int)<1:=by omega
    have HF:=Lib.hid (show RIdx s.data.toList most w (.returned (.tuple #[.int .i64 0,.bool false])) w from by
      have:idxL s.data.toList most=none:=by unfold idxL;rw [if_pos (.inl (List.eq_nil_of_length_eq_zero (by omega)))]
      exact ⟨by rw [this];rfl,rfl⟩)
    clear hln h0
    go_enter Tryd.func16,Tryd.ntmps16
    go_wp2_with fail
    go_ret2
    exact HF.out
  have h0z:¬ (s.size:Int)<1:=by omega
  by_cases h4:4<s.size
  · have h4z:(4:Int)<(s.size:Int):=by omega
    have HF:=Lib.hid (show RIdx s.data.toList most w (.returned (.tuple #[.int .i64 0,.bool false])) w from by
      have:idxL s.data.toList most=none:=by unfold idxL;rw [if_pos (.inr (.inl (by omega)))]
      exact ⟨by rw [this];rfl,rfl⟩)
    clear hln h0 h4
    go_enter Tryd.func16,Tryd.ntmps16
    go_wp2_with fail
    go_ret2
    exact HF.out
  have h4z:¬ (4:Int)<(s.size:Int):=by omega
  have hp:0<s.size:=by omega
  have hg0:=str_getD s 0 hp
  by_cases hbad:s.data.toList.getD 0 0=48∧s.data.toList ≠ [48]
  · have HF:=Lib.hid (show RIdx s.data.toList most w (.returned (.tuple #[.int .i64 0,.bool false])) w from by
      have:idxL s.data.toList most=none:=by unfold idxL;rw [if_pos (.inr (.inr hbad))]
      exact ⟨by rw [this];rfl,rfl⟩)
    have h48:(((s[0]'hp).toNat:Nat):Int)=48:=by rw [← hg0,hbad.1];rfl
    have h1z:(1:Int)<(s.size:Int):=by
      have:s.size ≠ 1:=by
        intro h1
        rw [h1] at hln
        refine hbad.2 ?_
        obtain ⟨x,hx⟩:=List.length_eq_one_iff.1 hln
        have h2:=hbad.1
        rw [hx] at h2 ⊢
        simp at h2
        rw [h2]
      omega
    clear hln hbad hg0 h0 h4
    go_enter Tryd.func16,Tryd.ntmps16
    go_wp2_with fail
    go_ret2
    exact HF.out
  have hD:((((s[0]'hp).toNat:Nat):Int)=48∧¬ (1:Int)<(s.size:Int))∨¬ (((s[0]'hp).toNat:Nat):Int)=48:=by
    by_cases h:(((s[0]'hp).toNat:Nat):Int)=48
    · left
      refine ⟨h,fun h1=>?_⟩
      refine hbad ⟨?_,fun e=>?_⟩
      · rw [hg0];apply UInt8.toNat_inj.1;rw [show (48:UInt8).toNat=48 from rfl];omega
      · rw [e] at hln;simp at hln;omega
    · exact .inr h
  have HX:Hid (idxL s.data.toList most=match idxF 0 s.data.toList with | none=>none | some n=>if most<(n:Int) then none else some n):=Lib.hid (by
    unfold idxL
    have hng:¬ (s.data.toList=[]∨4<s.data.toList.length∨(s.data.toList.getD 0 0=48∧s.data.toList ≠ [48])):=by
      rintro (h | h | h)
      · rw [h] at hln;simp at hln;omega
      · omega
      · exact hbad h
    rw [if_neg hng]
    cases idxF 0 s.data.toList <;> rfl)
  have HFN:=Lib.hid (fun (e:Ending) (h:e=.returned (.tuple #[.int .i64 (idxV (idxL s.data.toList most)),.bool (idxL s.data.toList most).isSome]))=>(show RIdx s.data.toList most w e w from ⟨h,rfl⟩))
  have HLN:=Lib.hid hln
  clear hln hbad hg0 h0
  rcases hD with ⟨h48,h1z⟩ | h48
  all_goals
    go_enter Tryd.func16,Tryd.ntmps16
    go_wp2_with fail
    go_loopg [6,7] s.size (fun g nv i wr=>IG s.data.toList s.size w g nv i wr)
    case atStart=>exact ⟨0,0,by omega,by omega,rfl,by decide,rfl,by simp,rfl⟩
    case round =>
      obtain ⟨k,m,hk,hg,rfl,hmk,rfl,ht,rfl⟩:=hrel
      have hk4:10 ^ k≤10 ^ 4:=Nat.pow_le_pow_right (by decide) (by omega)
      by_cases hlt:k<s.size
      · obtain ⟨g,rfl⟩:∃ g,gk=g+1:=⟨gk - 1,by omega⟩
        have hkz:(k:Int)<(s.size:Int):=by omega
        have hkl:k<s.data.toList.length:=by rw [HLN.out];exact hlt
        rw [idxF_at m _ k hkl,str_getD s k hlt] at ht
        obtain ⟨y,hy⟩:∃ y,s[k]'hlt=y:=⟨_,rfl⟩
        have hlt2:=y.toNat_lt
        rw [hy] at ht
        obtain ⟨x,hx⟩:∃ x,y.toNat=x:=⟨_,rfl⟩
        rw [hx] at ht hlt2
        by_cases hx1:x<48
        · rw [if_pos (.inl hx1)] at ht
          have hx1z:((y.toNat:Nat):Int)<48:=by omega
          have HE:=Lib.hid (HFN.out (.returned (.tuple #[.int .i64 0,.bool false])) (by rw [HX.out,ht];rfl))
          clear ht h48
          go_wp2_with fail
          go_ret2
          exact HE.out
        by_cases hx2:57<x
        · rw [if_pos (.inr hx2)] at ht
          have hx1z:¬ ((y.toNat:Nat):Int)<48:=by omega
          have hx2z:(57:Int)<((y.toNat:Nat):Int):=by omega
          have HE:=Lib.hid (HFN.out (.returned (.tuple #[.int .i64 0,.bool false])) (by rw [HX.out,ht];rfl))
          clear ht h48
          go_wp2_with fail
          go_ret2
          exact HE.out
        rw [if_neg (by omega)] at ht
        have hx1z:¬ ((y.toNat:Nat):Int)<48:=by omega
        have hx2z:¬ (57:Int)<((y.toNat:Nat):Int):=by omega
        have hw1:-9223372036854775808≤10*(m:Int)∧10*(m:Int)≤9223372036854775807:=by omega
        have hw2:0≤((y.toNat:Nat):Int) - 48∧((y.toNat:Nat):Int) - 48≤255:=by omega
        have hw3:-9223372036854775808≤10*(m:Int)+(((y.toNat:Nat):Int) - 48)∧10*(m:Int)+(((y.toNat:Nat):Int) - 48)≤9223372036854775807:=by omega
        have HN:=Lib.hid (show IG s.data.toList s.size wr g (.int .i64 (10*(m:Int)+((x:Int) - 48))) (.int .i64 ((k:Int)+1)) wr from
          ⟨k+1,10*m+(x - 48),by omega,by omega,by congr 1;omega,by rw [Nat.pow_succ];omega,by simp,ht,rfl⟩)
        clear ht h48
        go_wp2
        go_roundg g
        case rel=>exact HN.out
        case measure=>omega
      · obtain rfl:k=s.size:=by omega
        have hkz:¬ (s.size:Int)<(s.size:Int):=by omega
        have he:s.data.toList.drop s.size=[]:=List.drop_eq_nil_of_le (by rw [HLN.out];exact Nat.le_refl _)
        rw [he,idxF] at ht
        by_cases hmm:most<(m:Int)
        · have HE:=Lib.hid (HFN.out (.returned (.tuple #[.int .i64 0,.bool false])) (by rw [HX.out,ht];simp [hmm,idxV]))
          clear ht he h48
          go_wp2
          go_ret2
          exact HE.out
        · have HE:=Lib.hid (HFN.out (.returned (.tuple #[.int .i64 (m:Int),.bool true])) (by rw [HX.out,ht];simp [hmm,idxV]))
          clear ht he h48
          go_wp2
          go_ret2
          exact HE.out
end Go.Proofs.YticgggjfmhiilaaDoor
