/- Texts of the claim. -/
import Derived.Test.YtapicpdfdjofaaaDoorEo
set_option linter.unusedVariables false
set_option linter.unusedSimpArgs false
set_option maxHeartbeats 200000
set_option maxRecDepth 100000
namespace Go.Proofs.YtapicpdfdjofaaaDoor
open Go.RowKit Go.Shelf

end Go.Proofs.YtapicpdfdjofaaaDoor
namespace Go.Proofs.YtapicpdfdjofaaaDoor
section
variable {P : Program} {ops : Array Oper} {Q : Exit → Act → World → Prop} {S : Array Bool → World → Prop}
def wpAnyL (P:Program) (ops:Array Oper) (Q:Exit→Act→World→Prop) (S:Array Bool→World→Prop):Nat→Array Bool→Act→World→Prop
  | 0,L,a,w=>Region.ready .any ops L=[]∧Q .normal a w
  | f+1,L,a,w=>(Region.ready .any ops L=[]→Q .normal a w) ∧
    ∀ i∈Region.ready .any ops L,wpOp P ops Q i (fun a' w'=>S (L.setIfInBounds i true) w'∧wpAnyL P ops Q S f (L.setIfInBounds i true) a' w') a w
theorem wpAny_of_L:∀ (f:Nat) (L:Array Bool) (a:Act) (w:World),wpAnyL P ops Q S f L a w→wpAny P .any ops Q f L a w
  | 0,_,_,_,h=>h
  | f+1,_,_,_,h=>⟨h.1,fun i hi=>wpOp_mono (fun a' w' h'=>wpAny_of_L f _ a' w' h'.2) (h.2 i hi)⟩
def Cl (ops:Array Oper) (L:Array Bool):Prop:=∀ j o,ops[j]? = some o→L.getD j false=true→∀ e∈o.after,Region.binds .any e=true→L.getD e.on false=true
theorem cl_start (n:Nat):Cl ops (Array.replicate n false):=fun j o _ h=>by
  exfalso
  by_cases hj:j<n
  iterate 2
    · simp [hj] at h
theorem cl_set {L:Array Bool} {j:Nat} (h:Cl ops L) (hj:j∈Region.ready .any ops L):Cl ops (L.setIfInBounds j true):=by
  obtain ⟨_,oj,hoj,hall⟩:=mem_ready.1 hj
  intro k o ho hk e he hb
  by_cases hjk:j=k
  · subst hjk
    rw [hoj] at ho;cases ho
    exact getD_set_true (hall e he hb)
  · rw [getD_set_ne false hjk] at hk
    exact getD_set_true (h k o ho hk e he hb)
theorem cl_no {L:Array Bool} (h:Cl ops L) (i j:Nat) (o:Oper) (ho:ops[j]? = some o) (he:(o.after.any fun e=>e.on == i && Region.binds .any e)=true) (hi:L.getD i true=false):L.getD j false=false:=by
  cases hj:L.getD j false
  · rfl
  · exfalso
    rw [Array.any_eq_true] at he
    obtain ⟨k,hk,hx⟩:=he
    rw [Bool.and_eq_true,beq_iff_eq] at hx
    have:=h j o ho hj _ (Array.getElem_mem hk) hx.2
    rw [hx.1] at this
    rcases Nat.lt_or_ge i L.size with h' | h'
    · simp [h'] at hi this;rw [hi] at this;cases this
    · simp [Array.getElem?_eq_none h'] at this
def SI (ops:Array Oper) (S:Array Bool→World→Prop) (i:Nat) (w:World):Prop:=∃ L:Array Bool,Cl ops L∧L.getD i true=false∧S L w
theorem rl_self {i:Nat} {oi:Oper} {v:Value} {a:Act} {w:World} {L:Array Bool} {K:Act→World→Prop} (hi:ops[i]? = some oi) (hy:YieldsIf P ops (SI ops S i) oi v a) (hC:Cl ops L) (h0:L.getD i true=false) (hS:S L w) (h:K (a.put oi.dst v) w):wpOp P ops Q i K a w:=by
  have hy2:YieldsIf P ops (fun W=>W=w) oi v a:=hy.imp (fun ⟨hw,hv⟩=>⟨hw,fun W hW=>by subst hW;exact hv _ ⟨L,hC,h0,hS⟩⟩) id
  exact hy2.wpOp hi rfl h
theorem wpAnyL_first {i : Nat} {oi : Oper} {v : Value} (hi : ops[i]? = some oi) (hsel : ∀ (j : Nat) (o : Oper) cs b, ops[j]? = some o → o.op ≠ .select cs b)
    (hQ : ∀ c a w, Q (.panic c) (a.put oi.dst v) w → Q (.panic c) a w) (hI : ∀ L w, S (L.setIfInBounds i true) w ↔ S L w) :
    ∀ (f : Nat) (L : Array Bool) (a : Act) (w : World), Cl ops L →
      (∀ j oj, ops[j]? = some oj → j ≠ i → L.getD j true = false → (∀ e ∈ oj.after, Region.binds .any e = true → e.on ≠ i) → oi.apart ops oj = true) →
      i ∈ Region.ready .any ops L → YieldsIf P ops (SI ops S i) oi v a → S L w →
      wpAnyL P ops Q S f (L.setIfInBounds i true) (a.put oi.dst v) w → wpAnyL P ops Q S (f + 1) L a w := by
  intro f
  induction f with
  | zero =>
    intro L a w hC _ hr hy hS H
    refine ⟨fun h => (by rw [h] at hr; cases hr), fun j hj => ?_⟩
    by_cases hji : j = i
    · subst hji
      exact rl_self hi hy hC (mem_ready.1 hj).1 hS ⟨(hI L w).2 hS, H⟩
    · have := ready_mono hj hji
      rw [H.1] at this
      cases this
  | succ f ih =>
    intro L a w hC hfree hr hy hS H
    refine ⟨fun h => (by rw [h] at hr; cases hr), fun j hj => ?_⟩
    by_cases hji : j = i
    · subst hji
      exact rl_self hi hy hC (mem_ready.1 hj).1 hS ⟨(hI L w).2 hS, H⟩
    · have h1 := H.2 j (ready_mono hj hji)
      obtain ⟨hjun, oj, hoj, hall⟩ := mem_ready.1 hj
      have h0 := (mem_ready.1 hr).1
      have hnot : ∀ e ∈ oj.after, Region.binds .any e = true → e.on ≠ i := fun e he hb heq => by
        have h1 := hall e he hb
        rw [heq] at h1
        rcases Nat.lt_or_ge i L.size with h' | h'
        · simp [h'] at h0 h1; rw [h0] at h1; cases h1
        · simp [Array.getElem?_eq_none h'] at h1
      have h2 := wpOp_putIf hoj (hfree j oj hoj hji hjun hnot) (fun cs b => hsel i oi cs b hi) (fun cs b => hsel j oj cs b hoj) hQ hy h1
      have hfree' : ∀ k ok, ops[k]? = some ok → k ≠ i → (L.setIfInBounds j true).getD k true = false →
          (∀ e ∈ ok.after, Region.binds .any e = true → e.on ≠ i) → oi.apart ops ok = true := fun k ok hk hki hun hno => by
        refine hfree k ok hk hki ?_ hno
        by_cases hjk : j = k
        · subst hjk; exact hjun
        · rw [getD_set_ne true hjk] at hun; exact hun
      refine wpOp_mono (fun a' w' h3 => ?_) h2
      have h4 : S ((L.setIfInBounds j true).setIfInBounds i true) w' := by rw [Array.setIfInBounds_comm _ _ hji]; exact h3.2.1
      have h5 := (hI _ _).1 h4
      exact ⟨h5, ih (L.setIfInBounds j true) a' w' (cl_set hC hj) hfree' (ready_mono hr (Ne.symm hji)) h3.1 h5 (by rw [Array.setIfInBounds_comm _ _ hji]; exact h3.2.2)⟩
theorem wpAnyL_take {i:Nat} {oi:Oper} {v:Value} {f:Nat} {L:Array Bool} {a:Act} {w:World} (hi:ops[i]? = some oi)
    (hs:Region.noSelect ops=true) (hf:Region.free .any ops L i=true) (hr:(Region.ready .any ops L).contains i=true)
    (hQ:∀ c a w,Q (.panic c) (a.put oi.dst v) w→Q (.panic c) a w) (hI:∀ L w,S (L.setIfInBounds i true) w ↔ S L w) (hy:YieldsIf P ops (SI ops S i) oi v a) (hC:Cl ops L) (hS:S L w)
    (h:Cl ops (L.setIfInBounds i true)→S (L.setIfInBounds i true) w→wpAnyL P ops Q S f (L.setIfInBounds i true) (a.put oi.dst v) w):wpAnyL P ops Q S (f+1) L a w :=
  wpAnyL_first hi (Region.noSelect_spec hs) hQ hI f L a w hC (Region.free_spec hi hf) (by simpa using hr) hy hS (h (cl_set hC (by simpa using hr)) ((hI _ _).2 hS))
theorem rl_start {id:Nat} {a:Act} {w:World} (hm:P.follows .mixedOrders=true) (hS:S (Array.replicate ops.size false) w.drew)
    (h:Cl ops (Array.replicate ops.size false)→S (Array.replicate ops.size false) w.drew→wpAnyL P ops Q S ops.size (Array.replicate ops.size false) a w.drew):(Code.region id ops true).wp P Q a w :=
  wp_region_any hm (wpAny_of_L _ _ _ _ (h (cl_start _) hS))
theorem rl_done {L:Array Bool} {a:Act} {w:World} (hr:Region.ready .any ops L=[]) (h:Q .normal a w):∀ f,wpAnyL P ops Q S f L a w
  | 0=>⟨hr,h⟩
  | _+1=>⟨fun _=>h,by rw [hr];simp⟩
theorem rl_load1 {f:Nat} {L:Array Bool} {a:Act} {w:World} (i:Nat) (o:Oper) (ty:TypeId) (x:Operand) (ad:Addr) (v:Value) (d:TypeDesc)
    (dd:Option Tmp) (hi:ops[i]? = some o) (hdd:o.dst=dd) (hs:Region.noSelect ops=true) (hf:Region.free .any ops L i=true) (hr:(Region.ready .any ops L).contains i=true)
    (hQ:∀ c a w,Q (.panic c) (a.put dd v) w→Q (.panic c) a w) (hI:∀ L w,S (L.setIfInBounds i true) w ↔ S L w) (hw:Region.wanted o (yielded ops a.tmps)=true) (ho:o.op=.load ty x) (hx:a.eval x=.pointer (some ad))
    (hu:P.underlying ty=some d) (hd:d.isRow=false) (hS:∀ L W,Cl ops L→L.getD i true=false→S L W→W.cell? ad=some v) (hC:Cl ops L) (h0:S L w)
    (h:Cl ops (L.setIfInBounds i true)→S (L.setIfInBounds i true) w→wpAnyL P ops Q S f (L.setIfInBounds i true) (a.put dd v) w):wpAnyL P ops Q S (f+1) L a w:=by
  subst hdd
  exact wpAnyL_take hi hs hf hr hQ hI (.inl ⟨hw,fun W ⟨L',h3,h1,h2⟩=>by
    unfold execOp
    simp only [ho,hx,Sem.run_bind,Sem.run_pure,Result.andThen_ok,rg_run1 W ad ty v d (hS L' W h3 h1 h2) hu hd]⟩) hC h0 h
theorem rl_loadM {f:Nat} {L:Array Bool} {a:Act} {w:World} (i:Nat) (o:Oper) (ty:TypeId) (x:Operand) (b k:Nat) (cs:List Value) (d:TypeDesc)
    (dd:Option Tmp) (hi:ops[i]? = some o) (hdd:o.dst=dd) (hs:Region.noSelect ops=true) (hf:Region.free .any ops L i=true) (hr:(Region.ready .any ops L).contains i=true)
    (hQ:∀ c a w,Q (.panic c) (a.put dd (.agg cs.toArray)) w→Q (.panic c) a w) (hI:∀ L w,S (L.setIfInBounds i true) w ↔ S L w) (hw:Region.wanted o (yielded ops a.tmps)=true) (ho:o.op=.load ty x) (hx:a.eval x=.pointer (some ⟨b,k,none⟩))
    (hu:P.underlying ty=some d) (hd:d.isRow=true) (hz:(P.info? ty).map (·.size)=some cs.length) (hS:∀ L W,Cl ops L→L.getD i true=false→S L W→W.rangeAt b k cs) (hC:Cl ops L) (h0:S L w)
    (h:Cl ops (L.setIfInBounds i true)→S (L.setIfInBounds i true) w→wpAnyL P ops Q S f (L.setIfInBounds i true) (a.put dd (.agg cs.toArray)) w):wpAnyL P ops Q S (f+1) L a w:=by
  subst hdd
  exact wpAnyL_take hi hs hf hr hQ hI (yieldsIf_load_mid hw ty x ho b k hx cs d (fun W ⟨L',h3,h1,h2⟩=>hS L' W h3 h1 h2) hu hd hz) hC h0 h
theorem rl_pure {f:Nat} {L:Array Bool} {a:Act} {w:World} (i:Nat) (o:Oper) (v:Value)
    (dd:Option Tmp) (hi:ops[i]? = some o) (hdd:o.dst=dd) (hs:Region.noSelect ops=true) (hf:Region.free .any ops L i=true) (hr:(Region.ready .any ops L).contains i=true)
    (hQ:∀ c a w,Q (.panic c) (a.put dd v) w→Q (.panic c) a w) (hI:∀ L w,S (L.setIfInBounds i true) w ↔ S L w) (hw:Region.wanted o (yielded ops a.tmps)=true) (hx:∀ w,(execOp a.eval o).run P w=.ok (.value v) w) (hC:Cl ops L) (h0:S L w)
    (h:Cl ops (L.setIfInBounds i true)→S (L.setIfInBounds i true) w→wpAnyL P ops Q S f (L.setIfInBounds i true) (a.put dd v) w):wpAnyL P ops Q S (f+1) L a w:=by
  subst hdd
  exact wpAnyL_take hi hs hf hr hQ hI (.inl ⟨hw,fun w _=>hx w⟩) hC h0 h
theorem rl_all {f:Nat} {L:Array Bool} {a:Act} {w:World} (rs:List Nat) (hr:Region.ready .any ops L=rs) (hne:rs ≠ [])
    (hC:Cl ops L) (h:∀ i∈rs,wpOp P ops Q i (fun a' w'=>S (L.setIfInBounds i true) w'∧(Cl ops (L.setIfInBounds i true)→wpAnyL P ops Q S f (L.setIfInBounds i true) a' w')) a w):wpAnyL P ops Q S (f+1) L a w :=
  ⟨fun h0=>absurd (hr ▸ h0) hne,fun i hi=>wpOp_mono (fun a' w' h'=>⟨h'.1,h'.2 (cl_set hC hi)⟩) (h i (hr ▸ hi))⟩
theorem rl_one {p:Nat→Prop} (i:Nat) (h:p i):∀ j∈[i],p j:=fun j hj=>by rw [List.mem_singleton.1 hj];exact h
theorem rl_two {p:Nat→Prop} (i j:Nat) (h:p i) (h2:p j):∀ k∈[i,j],p k:=fun k hk=>by
  rcases List.mem_cons.1 hk with rfl | hk
  · exact h
  · rw [List.mem_singleton.1 hk];exact h2
theorem rl_val {a:Act} {w:World} {K:Act→World→Prop} (i:Nat) (o:Oper) (v:Value) (w':World) (dd:Option Tmp) (hi:ops[i]? = some o) (hdd:o.dst=dd) (hw:Region.wanted o (yielded ops a.tmps)=true)
    (hx:(execOp a.eval o).run P w=.ok (.value v) w') (h:K (a.put dd v) w'):wpOp P ops Q i K a w:=by
  subst hdd
  unfold wpOp
  simp only [hi]
  rw [if_pos hw]
  refine .inl ?_
  unfold Oper.wp
  rw [hx];exact h
theorem rl_store {a:Act} {w:World} {K:Act→World→Prop} (i:Nat) (o:Oper) (ty:TypeId) (x y:Operand) (ad:Addr) (v:Value) (hi:ops[i]? = some o) (hdd:o.dst=none) (hw:Region.wanted o (yielded ops a.tmps)=true)
    (ho:o.op=.store ty x y) (hx:a.eval x=.pointer (some ad)) (hy:a.eval y=v) (h1:(P.info? ty).map (·.size)=some 1) (hv:v.oneCell'=true) (hc:(w.cell? ad).isSome=true) (hf:w.frozen? ad=false)
    (h:K a (w.setCell ad v)):wpOp P ops Q i K a w:=by
  unfold wpOp
  simp only [hi]
  rw [if_pos hw]
  refine .inl ?_
  cases hq:P.info? ty with
  | none=>simp [hq] at h1
  | some info =>
    have hz:info.size=1:=by simpa [hq] using h1
    have hcs:v.cells=#[v]:=by cases v <;> simp_all [Value.cells,Value.oneCell']
    have hrun:(execOp a.eval o).run P w=.ok .skip (w.setCell ad v):=by
      obtain ⟨old,ho2⟩:=Option.isSome_iff_exists.1 hc
      have hst:(store ad v).run P w=.ok () (w.setCell ad v):=by rw [run_store P w ad v .plain hv];simp [ho2,hf]
      simp [execOp,ho,hx,hy,Instr.storeAt,Instr.sureAddr,storeVar,sizeOf,typeInfo,hq,hz,hcs,storeCells,hst,Addr.add,Result.andThen]
    unfold Oper.wp
    rw [hrun]
    show K (a.put o.dst undef) _
    rw [hdd];exact h
theorem rl_law {a:Act} {w:World} {K:Act→World→Prop} (i:Nat) (o:Oper) (dd:Option Tmp) (hi:ops[i]? = some o) (hdd:o.dst=dd) (hw:Region.wanted o (yielded ops a.tmps)=true)
    {R:Value→World→Prop} (hx:∀ K:Act→World→Prop,(∀ v w',R v w'→K (a.put o.dst v) w')→o.wp P a w K Q) (h:∀ v w',R v w'→K (a.put dd v) w'):wpOp P ops Q i K a w:=by
  subst hdd
  unfold wpOp
  simp only [hi]
  rw [if_pos hw]
  exact .inl (hx K h)
theorem rl_and {A B C:Prop} (ha:A) (h:A→B→C):A∧(B→C):=⟨ha,h ha⟩
end
end Go.Proofs.YtapicpdfdjofaaaDoor
namespace Go.Proofs.YtapicpdfdjofaaaDoor
open Go.RowKit Go.Shelf
structure Grw (W2:World) (bu:Nat) (c:Cel) (vK:Value) (nK:Nat) (xK:List Value) (vV:Value) (nV:Nat) (xV:List Value) (W:World):Prop where
  but:But bu W2 W
  lt:bu<W2.heap.size
  box:BoxT W bu c
  ok:W.ownsRow W2.heap.size 9 1 vK nK xK
  ov:W.ownsRow W2.heap.size 28 8 vV nV xV
theorem own_block {w:World} {B:Nat} {e:TypeId} {size:Nat} {v:Value} {n:Nat} {xs:List Value} (h:w.ownsRow B e size v n xs) {k:Nat} (hk:v.ownBlock=some k):B≤k∧∃ cs,w.heap[k]? = some (.cells cs e):=by
  rcases h.2 with ⟨rfl,_⟩ | ⟨g,cap,cur,rfl,hB,hg,_⟩
  · cases hk
  · simp only [Value.ownBlock,Option.some.injEq] at hk
    subst hk
    exact ⟨hB,cur,hg⟩
theorem own_heap {w w':World} {B:Nat} {e:TypeId} {size:Nat} {v:Value} {n:Nat} {xs:List Value} (h:w.ownsRow B e size v n xs) (hb:∀ k,v.ownBlock=some k→w'.heap[k]? = w.heap[k]?):w'.ownsRow B e size v n xs:=by
  refine ⟨h.1,?_⟩
  rcases h.2 with h2 | ⟨g,cap,cur,rfl,hB,hg,rest⟩
  · exact .inl h2
  · exact .inr ⟨g,cap,cur,rfl,hB,by rw [hb g rfl];exact hg,rest⟩
section
variable {W2 W w' : World} {bu : Nat} {c : Cel} {vK vV : Value} {nK nV : Nat} {xK xV : List Value}
theorem Grw.below (h:Grw W2 bu c vK nK xK vV nV xV W) (hb:Below W.heap.size W w'):Grw W2 bu c vK nK xK vV nV xV w' :=
  ⟨h.but.trans (But.of_below hb),h.lt,h.box.on (hb.block _ h.box.lt),own_onN h.ok hb,own_onN h.ov hb⟩
theorem Grw.alloc (h:Grw W2 bu c vK nK xK vV nV xV W) (o:Obj):Grw W2 bu c vK nK xK vV nV xV (W.alloc o):=h.below ((Below.refl _ _).alloc (Nat.le_refl _) _)
theorem grow_but {W2 W w':World} {bu:Nat} (h:But bu W2 W) {B:Nat} {e:TypeId} {size:Nat} {v:Value} {n:Nat} {xs:List Value} (ho:W.ownsRow W2.heap.size e size v n xs) (hg:W.grownBy w' v.ownBlock):But bu W2 w' :=
  ⟨hg.os.trans h.os,hg.tape.trans h.tape,hg.output.trans h.output,Nat.le_trans h.size hg.size,fun k h1 h2=>by
    rw [hg.block k (Nat.lt_of_lt_of_le h1 h.size) (fun e=>by have:=(own_block ho e.symm).1;omega)];exact h.block k h1 h2⟩
theorem set_heap (w:World) (b i k:Nat) (v:Value) (h:k ≠ b):(w.setCell ⟨b,i,none⟩ v).heap[k]? = w.heap[k]?:=by
  simp [World.setCell,Array.getElem?_modify,Ne.symm h]
theorem Grw.set (h:Grw W2 bu c vK nK xK vV nV xV W) (i:Nat) (v:Value) {c':Cel} (hb:BoxT (W.setCell ⟨bu,i,none⟩ v) bu c'):Grw W2 bu c' vK nK xK vV nV xV (W.setCell ⟨bu,i,none⟩ v) :=
  ⟨h.but.trans ((But.refl _ _).setCell _ _),h.lt,hb,
    own_heap h.ok (fun k hk=>set_heap _ _ _ _ _ (by have:=(own_block h.ok hk).1;have:=h.lt;omega)),
    own_heap h.ov (fun k hk=>set_heap _ _ _ _ _ (by have:=(own_block h.ov hk).1;have:=h.lt;omega))⟩
theorem rd_lit (W:World) (g:Nat) (cs:List Value) (e:TypeId) (h:W.heap[g]? = some (.cells cs.toArray e)):RdV W (some ⟨g,0,none⟩) cs :=
  BlkV.all (e:=e) (by unfold BlkV;exact h)
end
theorem box_range {w:World} {b:Nat} {c:Cel} (h:BoxT w b c):w.rangeAt b 0 c.cells:=fun j v hv=>by
  unfold BoxT at h
  simp [World.cell?,h,hv]
end Go.Proofs.YtapicpdfdjofaaaDoor
