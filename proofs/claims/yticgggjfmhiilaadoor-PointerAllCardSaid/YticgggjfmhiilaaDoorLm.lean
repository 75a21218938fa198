/- Texts of the claim. -/
import Derived.Test.YticgggjfmhiilaaDoorLl
set_option linter.unusedSimpArgs false
set_option linter.unusedVariables false
set_option maxHeartbeats 8000000
set_option maxRecDepth 100000
namespace Go.Proofs.YticgggjfmhiilaaDoor
section
variable {P : Program} {ops : Array Oper} {Q : Exit → Act → World → Prop} {S : Array Bool → World → Prop}
def wpAnyL (P:Program) (ops:Array Oper) (Q:Exit→Act→World→Prop) (S:Array Bool→World→Prop):Nat→Array Bool→Act→World→Prop
  | 0,L,a,w=>Region.ready .any ops L=[]∧Q .normal a w
  | f+1,L,a,w=>(Region.ready .any ops L=[]→Q .normal a w) ∧
    ∀ i∈Region.ready .any ops L,wpOp P ops Q i (fun a' w'=>S (L.setIfInBounds i true) w'∧wpAnyL P ops Q S f (L.setIfInBounds i true) a' w') a w
theorem wpAny_of_L:∀ (f:Nat) (L:Array Bool) (a:Act) (w:World),wpAnyL P ops Q S f L a w→wpAny P .any ops Q f L a w
  | 0,_,_,_,h=>h
  | f+1,_,_,_,h=>⟨h.1,fun i hi=>wpOp_mono (fun a' w' h'=>wpAny_of_L f _ a' w' h'.2) (h.2 i hi)⟩
def Cl (ops:Array Oper) (L:Array Bool):Prop:=∀ j o,ops[j]? = some o→L.getD j false=true→∀ e∈o.after,Region.binds .any e=true→L.getD e.on false=true
theorem cl_start (n:Nat):Cl ops (Array.replicate n false):=fun j o _ h=>by
  exfalso
  by_cases hj:j<n
  iterate 2
    · simp [hj] at h
theorem cl_set {L:Array Bool} {j:Nat} (h:Cl ops L) (hj:j∈Region.ready .any ops L):Cl ops (L.setIfInBounds j true):=by
  obtain ⟨_,oj,hoj,hall⟩:=mem_ready.1 hj
  intro k o ho hk e he hb
  by_cases hjk:j=k
  · subst hjk
    rw [hoj] at ho;cases ho
    exact getD_set_true (hall e he hb)
  · rw [getD_set_ne false hjk] at hk
    exact getD_set_true (h k o ho hk e he hb)
theorem cl_no {L:Array Bool} (h:Cl ops L) (i j:Nat) (o:Oper) (ho:ops[j]? = some o) (he:(o.after.any fun e=>e.on == i && Region.binds .any e)=true) (hi:L.getD i true=false):L.getD j false=false:=by
  cases hj:L.getD j false
  · rfl
  · exfalso
    rw [Array.any_eq_true] at he
    obtain ⟨k,hk,hx⟩:=he
    rw [Bool.and_eq_true,beq_iff_eq] at hx
    have:=h j o ho hj _ (Array.getElem_mem hk) hx.2
    rw [hx.1] at this
    rcases Nat.lt_or_ge i L.size with h' | h'
    · simp [h'] at hi this;rw [hi] at this;cases this
    · simp [Array.getElem?_eq_none h'] at this
def SI (ops:Array Oper) (S:Array Bool→World→Prop) (i:Nat) (w:World):Prop:=∃ L:Array Bool,Cl ops L∧L.getD i true=false∧S L w
theorem rl_self {i:Nat} {oi:Oper} {v:Value} {a:Act} {w:World} {L:Array Bool} {K:Act→World→Prop} (hi:ops[i]? = some oi) (hy:YieldsIf P ops (SI ops S i) oi v a) (hC:Cl ops L) (h0:L.getD i true=false) (hS:S L w) (h:K (a.put oi.dst v) w):wpOp P ops Q i K a w:=by
  have hy2:YieldsIf P ops (fun W=>W=w) oi v a:=hy.imp (fun ⟨hw,hv⟩=>⟨hw,fun W hW=>by subst hW;exact hv _ ⟨L,hC,h0,hS⟩⟩) id
  exact hy2.wpOp hi rfl h
theorem wpAnyL_first {i : Nat} {oi : Oper} {v : Value} (hi : ops[i]? = some oi) (hsel : ∀ (j : Nat) (o : Oper) cs b, ops[j]? = some o → o.op ≠ .select cs b)
    (hQ : ∀ c a w, Q (.panic c) (a.put oi.dst v) w → Q (.panic c) a w) (hI : ∀ L w, S (L.setIfInBounds i true) w ↔ S L w) :
    ∀ (f : Nat) (L : Array Bool) (a : Act) (w : World), Cl ops L →
      (∀ j oj, ops[j]? = some oj → j ≠ i → L.getD j true = false → (∀ e ∈ oj.after, Region.binds .any e = true → e.on ≠ i) → oi.apart ops oj = true) →
      i ∈ Region.ready .any ops L → YieldsIf P ops (SI ops S i) oi v a → S L w →
      wpAnyL P ops Q S f (L.setIfInBounds i true) (a.put oi.dst v) w → wpAnyL P ops Q S (f + 1) L a w := by
  intro f
  induction f with
  | zero =>
    intro L a w hC _ hr hy hS H
    refine ⟨fun h => (by rw [h] at hr; cases hr), fun j hj => ?_⟩
    by_cases hji : j = i
    · subst hji
      exact rl_self hi hy hC (mem_ready.1 hj).1 hS ⟨(hI L w).2 hS, H⟩
    · have := ready_mono hj hji
      rw [H.1] at this
      cases this
  | succ f ih =>
    intro L a w hC hfree hr hy hS H
    refine ⟨fun h => (by rw [h] at hr; cases hr), fun j hj => ?_⟩
    by_cases hji : j = i
    · subst hji
      exact rl_self hi hy hC (mem_ready.1 hj).1 hS ⟨(hI L w).2 hS, H⟩
    · have h1 := H.2 j (ready_mono hj hji)
      obtain ⟨hjun, oj, hoj, hall⟩ := mem_ready.1 hj
      have h0 := (mem_ready.1 hr).1
      have hnot : ∀ e ∈ oj.after, Region.binds .any e = true → e.on ≠ i := fun e he hb heq => by
        have h1 := hall e he hb
        rw [heq] at h1
        rcases Nat.lt_or_ge i L.size with h' | h'
        · simp [h'] at h0 h1; rw [h0] at h1; cases h1
        · simp [Array.getElem?_eq_none h'] at h1
      have h2 := wpOp_putIf hoj (hfree j oj hoj hji hjun hnot) (fun cs b => hsel i oi cs b hi) (fun cs b => hsel j oj cs b hoj) hQ hy h1
      have hfree' : ∀ k ok, ops[k]? = some ok → k ≠ i → (L.setIfInBounds j true).getD k true = false →
          (∀ e ∈ ok.after, Region.binds .any e = true → e.on ≠ i) → oi.apart ops ok = true := fun k ok hk hki hun hno => by
        refine hfree k ok hk hki ?_ hno
        by_cases hjk : j = k
        · subst hjk; exact hjun
        · rw [getD_set_ne true hjk] at hun; exact hun
      refine wpOp_mono (fun a' w' h3 => ?_) h2
      have h4 : S ((L.setIfInBounds j true).setIfInBounds i true) w' := by rw [Array.setIfInBounds_comm _ _ hji]; exact h3.2.1
      have h5 := (hI _ _).1 h4
      exact ⟨h5, ih (L.setIfInBounds j true) a' w' (cl_set hC hj) hfree' (ready_mono hr (Ne.symm hji)) h3.1 h5 (by rw [Array.setIfInBounds_comm _ _ hji]; exact h3.2.2)⟩
theorem wpAnyL_take {i:Nat} {oi:Oper} {v:Value} {f:Nat} {L:Array Bool} {a:Act} {w:World} (hi:ops[i]? = some oi)
    (hs:Region.noSelect ops=true) (hf:Region.free .any ops L i=true) (hr:(Region.ready .any ops L).contains i=true)
    (hQ:∀ c a w,Q (.panic c) (a.put oi.dst v) w→Q (.panic c) a w) (hI:∀ L w,S (L.setIfInBounds i true) w ↔ S L w) (hy:YieldsIf P ops (SI ops S i) oi v a) (hC:Cl ops L) (hS:S L w)
    (h:Cl ops (L.setIfInBounds i true)→S (L.setIfInBounds i true) w→wpAnyL P ops Q S f (L.setIfInBounds i true) (a.put oi.dst v) w):wpAnyL P ops Q S (f+1) L a w :=
  wpAnyL_first hi (Region.noSelect_spec hs) hQ hI f L a w hC (Region.free_spec hi hf) (by simpa using hr) hy hS (h (cl_set hC (by simpa using hr)) ((hI _ _).2 hS))
theorem rl_start {id:Nat} {a:Act} {w:World} (hm:P.follows .mixedOrders=true) (hS:S (Array.replicate ops.size false) w.drew)
    (h:Cl ops (Array.replicate ops.size false)→S (Array.replicate ops.size false) w.drew→wpAnyL P ops Q S ops.size (Array.replicate ops.size false) a w.drew):(Code.region id ops true).wp P Q a w :=
  wp_region_any hm (wpAny_of_L _ _ _ _ (h (cl_start _) hS))
theorem rl_done {L:Array Bool} {a:Act} {w:World} (hr:Region.ready .any ops L=[]) (h:Q .normal a w):∀ f,wpAnyL P ops Q S f L a w
  | 0=>⟨hr,h⟩
  | _+1=>⟨fun _=>h,by rw [hr];simp⟩
theorem rl_load1 {f:Nat} {L:Array Bool} {a:Act} {w:World} (i:Nat) (o:Oper) (ty:TypeId) (x:Operand) (ad:Addr) (v:Value) (d:TypeDesc)
    (dd:Option Tmp) (hi:ops[i]? = some o) (hdd:o.dst=dd) (hs:Region.noSelect ops=true) (hf:Region.free .any ops L i=true) (hr:(Region.ready .any ops L).contains i=true)
    (hQ:∀ c a w,Q (.panic c) (a.put dd v) w→Q (.panic c) a w) (hI:∀ L w,S (L.setIfInBounds i true) w ↔ S L w) (hw:Region.wanted o (yielded ops a.tmps)=true) (ho:o.op=.load ty x) (hx:a.eval x=.pointer (some ad))
    (hu:P.underlying ty=some d) (hd:d.isRow=false) (hS:∀ L W,Cl ops L→L.getD i true=false→S L W→W.cell? ad=some v) (hC:Cl ops L) (h0:S L w)
    (h:Cl ops (L.setIfInBounds i true)→S (L.setIfInBounds i true) w→wpAnyL P ops Q S f (L.setIfInBounds i true) (a.put dd v) w):wpAnyL P ops Q S (f+1) L a w:=by
  subst hdd
  exact wpAnyL_take hi hs hf hr hQ hI (.inl ⟨hw,fun W ⟨L',h3,h1,h2⟩=>by
    unfold execOp
    simp only [ho,hx,Sem.run_bind,Sem.run_pure,Result.andThen_ok,rg_run1 W ad ty v d (hS L' W h3 h1 h2) hu hd]⟩) hC h0 h
theorem rl_loadM {f:Nat} {L:Array Bool} {a:Act} {w:World} (i:Nat) (o:Oper) (ty:TypeId) (x:Operand) (b k:Nat) (cs:List Value) (d:TypeDesc)
    (dd:Option Tmp) (hi:ops[i]? = some o) (hdd:o.dst=dd) (hs:Region.noSelect ops=true) (hf:Region.free .any ops L i=true) (hr:(Region.ready .any ops L).contains i=true)
    (hQ:∀ c a w,Q (.panic c) (a.put dd (.agg cs.toArray)) w→Q (.panic c) a w) (hI:∀ L w,S (L.setIfInBounds i true) w ↔ S L w) (hw:Region.wanted o (yielded ops a.tmps)=true) (ho:o.op=.load ty x) (hx:a.eval x=.pointer (some ⟨b,k,none⟩))
    (hu:P.underlying ty=some d) (hd:d.isRow=true) (hz:(P.info? ty).map (·.size)=some cs.length) (hS:∀ L W,Cl ops L→L.getD i true=false→S L W→W.rangeAt b k cs) (hC:Cl ops L) (h0:S L w)
    (h:Cl ops (L.setIfInBounds i true)→S (L.setIfInBounds i true) w→wpAnyL P ops Q S f (L.setIfInBounds i true) (a.put dd (.agg cs.toArray)) w):wpAnyL P ops Q S (f+1) L a w:=by
  subst hdd
  exact wpAnyL_take hi hs hf hr hQ hI (yieldsIf_load_mid hw ty x ho b k hx cs d (fun W ⟨L',h3,h1,h2⟩=>hS L' W h3 h1 h2) hu hd hz) hC h0 h
theorem rl_pure {f:Nat} {L:Array Bool} {a:Act} {w:World} (i:Nat) (o:Oper) (v:Value)
    (dd:Option Tmp) (hi:ops[i]? = some o) (hdd:o.dst=dd) (hs:Region.noSelect ops=true) (hf:Region.free .any ops L i=true) (hr:(Region.ready .any ops L).contains i=true)
    (hQ:∀ c a w,Q (.panic c) (a.put dd v) w→Q (.panic c) a w) (hI:∀ L w,S (L.setIfInBounds i true) w ↔ S L w) (hw:Region.wanted o (yielded ops a.tmps)=true) (hx:∀ w,(execOp a.eval o).run P w=.ok (.value v) w) (hC:Cl ops L) (h0:S L w)
    (h:Cl ops (L.setIfInBounds i true)→S (L.setIfInBounds i true) w→wpAnyL P ops Q S f (L.setIfInBounds i true) (a.put dd v) w):wpAnyL P ops Q S (f+1) L a w:=by
  subst hdd
  exact wpAnyL_take hi hs hf hr hQ hI (.inl ⟨hw,fun w _=>hx w⟩) hC h0 h
theorem rl_all {f:Nat} {L:Array Bool} {a:Act} {w:World} (rs:List Nat) (hr:Region.ready .any ops L=rs) (hne:rs ≠ [])
    (hC:Cl ops L) (h:∀ i∈rs,wpOp P ops Q i (fun a' w'=>S (L.setIfInBounds i true) w'∧(Cl ops (L.setIfInBounds i true)→wpAnyL P ops Q S f (L.setIfInBounds i true) a' w')) a w):wpAnyL P ops Q S (f+1) L a w :=
  ⟨fun h0=>absurd (hr ▸ h0) hne,fun i hi=>wpOp_mono (fun a' w' h'=>⟨h'.1,h'.2 (cl_set hC hi)⟩) (h i (hr ▸ hi))⟩
theorem rl_one {p:Nat→Prop} (i:Nat) (h:p i):∀ j∈[i],p j:=fun j hj=>by rw [List.mem_singleton.1 hj];exact h
theorem rl_two {p:Nat→Prop} (i j:Nat) (h:p i) (h2:p j):∀ k∈[i,j],p k:=fun k hk=>by
  rcases List.mem_cons.1 hk with rfl | hk
  · exact h
  · rw [List.mem_singleton.1 hk];exact h2
theorem rl_val {a:Act} {w:World} {K:Act→World→Prop} (i:Nat) (o:Oper) (v:Value) (w':World) (dd:Option Tmp) (hi:ops[i]? = some o) (hdd:o.dst=dd) (hw:Region.wanted o (yielded ops a.tmps)=true)
    (hx:(execOp a.eval o).run P w=.ok (.value v) w') (h:K (a.put dd v) w'):wpOp P ops Q i K a w:=by
  subst hdd
  unfold wpOp
  simp only [hi]
  rw [if_pos hw]
  refine .inl ?_
  unfold Oper.wp
  rw [hx];exact h
theorem rl_store {a:Act} {w:World} {K:Act→World→Prop} (i:Nat) (o:Oper) (ty:TypeId) (x y:Operand) (ad:Addr) (v:Value) (hi:ops[i]? = some o) (hdd:o.dst=none) (hw:Region.wanted o (yielded ops a.tmps)=true)
    (ho:o.op=.store ty x y) (hx:a.eval x=.pointer (some ad)) (hy:a.eval y=v) (h1:(P.info? ty).map (·.size)=some 1) (hv:v.oneCell'=true) (hc:(w.cell? ad).isSome=true) (hf:w.frozen? ad=false)
    (h:K a (w.setCell ad v)):wpOp P ops Q i K a w:=by
  unfold wpOp
  simp only [hi]
  rw [if_pos hw]
  refine .inl ?_
  cases hq:P.info? ty with
  | none=>simp [hq] at h1
  | some info =>
    have hz:info.size=1:=by simpa [hq] using h1
    have hcs:v.cells=#[v]:=by cases v <;> simp_all [Value.cells,Value.oneCell']
    have hrun:(execOp a.eval o).run P w=.ok .skip (w.setCell ad v):=by
      obtain ⟨old,ho2⟩:=Option.isSome_iff_exists.1 hc
      have hst:(store ad v).run P w=.ok () (w.setCell ad v):=by rw [run_store P w ad v .plain hv];simp [ho2,hf]
      simp [execOp,ho,hx,hy,Instr.storeAt,Instr.sureAddr,storeVar,sizeOf,typeInfo,hq,hz,hcs,storeCells,hst,Addr.add,Result.andThen]
    unfold Oper.wp
    rw [hrun]
    show K (a.put o.dst undef) _
    rw [hdd];exact h
theorem rl_law {a:Act} {w:World} {K:Act→World→Prop} (i:Nat) (o:Oper) (dd:Option Tmp) (hi:ops[i]? = some o) (hdd:o.dst=dd) (hw:Region.wanted o (yielded ops a.tmps)=true)
    {R:Value→World→Prop} (hx:∀ K:Act→World→Prop,(∀ v w',R v w'→K (a.put o.dst v) w')→o.wp P a w K Q) (h:∀ v w',R v w'→K (a.put dd v) w'):wpOp P ops Q i K a w:=by
  subst hdd
  unfold wpOp
  simp only [hi]
  rw [if_pos hw]
  exact .inl (hx K h)
theorem rl_and {A B C:Prop} (ha:A) (h:A→B→C):A∧(B→C):=⟨ha,h ha⟩
theorem rl_idx (w:World) (ev:Operand→Value) (o:Oper) (t:TypeId) (x ix:Operand) (e:TypeId) (b k n c j m size:Nat) (ho:o.op=.indexAddr t x ix) (hx:ev x=.slice (some ⟨b,k,none⟩) n c) (hi:ev ix=.int .i64 (j:Int))
    (hu:P.underlying t=some (.slice e)) (hz:(P.info? e).map (·.size)=some size) (hj:j<n) (hm:j*size=m):(execOp ev o).run P w=.ok (.value (.pointer (some ⟨b,k+m,none⟩))) w:=by
  subst hm
  obtain ⟨info,hz2,hs⟩:∃ info,P.info? e=some info∧info.size=size:=by
    cases hq:P.info? e with
    | none=>simp [hq] at hz
    | some info=>exact ⟨info,rfl,by simpa [hq] using hz⟩
  subst hs
  have h1:(0:Int)≤(j:Int)∧(j:Int)<(n:Int):=by omega
  simp [execOp,ho,hx,hi,Instr.indexAt,asIntOf,Sem.run_bind,run_underlying hu,sizeOf,typeInfo,hz2,hj,Addr.add,Result.andThen]
  try (split <;> simp_all)
end
section
variable {P : Program}
theorem rd_gtr (w:World) (ev:Operand→Value) (o:Oper) (ty ty':TypeId) (x y:Operand) (a b:Int) (r:Bool) (ho:o.op=.binOp .gtr ty x y ty') (hx:ev x=.int .i64 a) (hy:ev y=.int .i64 b) (h:decide (b<a)=r) :
    (execOp ev o).run P w=.ok (.value (.bool r)) w:=by
  subst h
  simp [execOp,ho,hx,hy,go_sem]
theorem rd_sub (w:World) (ev:Operand→Value) (o:Oper) (ty ty':TypeId) (x y:Operand) (a b c:Int) (ho:o.op=.binOp .sub ty x y ty') (hx:ev x=.int .i64 a) (hy:ev y=.int .i64 b) (h:a - b=c) (h1:-9223372036854775808≤c) (h2:c≤9223372036854775807) :
    (execOp ev o).run P w=.ok (.value (.int .i64 c)) w:=by
  have hw:IntKind.i64.wrap (a - b)=c:=by rw [IntKind.wrap_i64];omega
  simp [execOp,ho,hx,hy,go_sem,binOp,Op.intArith,hw]
theorem rd_slice (w:World) (ev:Operand→Value) (o:Oper) (t e:TypeId) (x y:Operand) (a:Option Addr) (n c j:Nat) (ho:o.op=.slice t x (some y) none none) (hx:ev x=.slice a n c) (hy:ev y=.int .i64 (j:Int))
    (hu:P.underlying t=some (.slice e)) (hz:(P.info? e).map (·.size)=some 1) (hj:j≤n) (hn:n≤c) :
    (execOp ev o).run P w=.ok (.value (.slice (if c=j then a else Option.map (fun x=>x.add j) a) (n - j) (c - j))) w:=by
  obtain ⟨info,hz2,hs⟩:∃ info,P.info? e=some info∧info.size=1:=by
    cases hq:P.info? e with
    | none=>simp [hq] at hz
    | some info=>exact ⟨info,rfl,by simpa [hq] using hz⟩
  have h1:(0:Int)≤(j:Int):=by omega
  have h2:(j:Int)≤(n:Int):=by omega
  have h3:(n:Int)≤(c:Int):=by omega
  simp [execOp,ho,hx,hy,Instr.sliceAt,Instr.slice,Instr.sliceBounds,Sem.run_bind,run_underlying hu,sizeOf,typeInfo,hz2,hs,Result.andThen]
  have hb:Sem.run P (Instr.sliceBound (Value.int IntKind.i64 (j:Int)) n BoundsCode.sliceB) w=.ok j w:=by
    simp [Instr.sliceBound,go_sem,asIntOf,hj]
  rw [hb]
end
end Go.Proofs.YticgggjfmhiilaaDoor
namespace Go.Proofs.YticgggjfmhiilaaDoor
open Go.RowKit Go.Shelf
theorem rd_leqA {P:Program} (w:World) (ev:Operand→Value) (o:Oper) (ty ty':TypeId) (x y:Operand) (s t:ByteArray) (r:Bool) (ho:o.op=.binOp .leq ty x y ty') (hx:ev x=.string s) (hy:ev y=.string t) (h:ltS t s = !r) :
    (execOp ev o).run P w=.ok (.value (.bool r)) w:=by
  cases r with
  | false =>
    obtain ⟨h1,h2⟩:=ltS_yes (show ltS t s=true from h)
    simp [execOp,ho,hx,hy,go_sem,binOp,Op.stringOp,h1,h2]
  | true =>
    rcases ltS_no (show ltS t s=false from h) with h1 | ⟨h1,h2⟩
    · simp [execOp,ho,hx,hy,go_sem,binOp,Op.stringOp,h1]
    · simp [execOp,ho,hx,hy,go_sem,binOp,Op.stringOp,h1,h2]
def NRA (l:List ByteArray) (w:World) (k:Nat) (i:Value) (wr:World):Prop :=
  ∃ j:Nat,j≤l.length∧l.length - j≤k∧i=.int .i64 (j:Int)∧(∀ q,q<j→nameAt l q=true)∧Below w.heap.size w wr
theorem refNames_any (ad:Option Addr) (n cap:Nat) (l:List ByteArray) (w:World) (hl:l.length=n) (hcap:n≤cap) (hr:RdV w ad (sv l)) (h3:n≤1000000000000000) (hz:∀ s∈l,s.size≤1000000) :
    Calls Tryd.prog 110 #[.slice ad n cap] w (BoolBelow (risesB l && decide (n≤300)) w):=by
  have HL:=Lib.hid hl
  have HRD:=Lib.hid (fun W (h:Below w.heap.size w W)=>hr.on h)
  have H3:=Lib.hid h3
  have HZ:=Lib.hid hz
  have HNO:=Lib.hid (fun W (j:Nat) (hj:j<n) (hx:nameAt l j=false) (hb:Below w.heap.size w W)=>(show BoolBelow (risesB l && decide (n≤300)) w (.returned (.bool false)) W from BoolBelow.mk (by rw [risesB_no (by rw [hl];exact hj) hx];rfl) hb))
  clear hl hr hz
  have HST:=Lib.hid (show NRA l w n (.int .i64 0) w from ⟨0,Nat.zero_le _,by rw [HL.out];omega,rfl,fun q h=>absurd h (Nat.not_lt_zero q),Below.refl _ _⟩)
  go_enter Tryd.func110,Tryd.ntmps110
  go_wp2
  go_loopg [3] n (fun k i wr=>NRA l w k i wr)
  case atStart=>exact HST.out
  case round =>
    clear HST
    obtain ⟨j,hj,hk,rfl,hall,hb⟩:=hrel
    rw [HL.out] at hj hk
    have HB:=Lib.hid hb
    clear hb
    by_cases hlt:j<n
    · obtain ⟨k,rfl⟩:∃ k,gk=k+1:=⟨gk - 1,by omega⟩
      have hjz:(j:Int)<(n:Int):=by omega
      have hjl:j<l.length:=by rw [HL.out];exact hlt
      obtain ⟨b,o,rfl,hbl,hc⟩:=HRD.out wr HB.out j (by rw [sv_len];exact hjl)
      have hallj:nameAt l j=true→∀ q,q<j+1→nameAt l q=true:=by
        intro hx q hq
        rcases Nat.lt_or_ge q j with h1 | h1
        · exact hall q h1
        · obtain rfl:q=j:=by omega
          exact hx
      have HNX:=Lib.hid (fun W (hx:nameAt l j=true) (h:Below w.heap.size w W)=>(show NRA l w k (.int .i64 ((j:Int)+1)) W from ⟨j+1,by rw [HL.out];omega,by rw [HL.out];omega,rfl,hallj hx,h⟩))
      have HX:=Lib.hid (fun W (h:Below wr.heap.size wr W)=>(by
        obtain ⟨b',o',e,_,hc⟩:=HRD.out W (below_on HB.out h) j (by rw [sv_len];omega)
        cases e
        rw [sv_get _ _ (by omega)] at hc;exact hc:W.cell? ⟨b,o+j,none⟩=some (.string (l.getD j ByteArray.empty))))
      have HPR:=Lib.hid (fun W (h:Below wr.heap.size wr W) (i:Nat) (h0:j=i+1)=>(by
        obtain ⟨b',o',e,_,hc⟩:=HRD.out W (below_on HB.out h) i (by rw [sv_len];omega)
        cases e
        rw [sv_get _ _ (by omega)] at hc;exact hc:W.cell? ⟨b,o+i,none⟩=some (.string (l.getD i ByteArray.empty))))
      have hxz:=HZ.out (l.getD j ByteArray.empty) (by simp [List.getD,hjl])
      have KV:=Lib.hid (fun W=>refValid_any (l.getD j ByteArray.empty) W hxz)
      have HJN:=Lib.hid hlt
      have hna:nameAt l j=(okN (l.getD j ByteArray.empty) && (decide (j=0) || ltS (l.getD (j - 1) ByteArray.empty) (l.getD j ByteArray.empty))):=rfl
      unfold okN at hna
      have HNA:=Lib.hid hna
      clear hc hall hallj hna
      cases hv:validL (l.getD j ByteArray.empty).data.toList with
      | false =>
        rw [hv] at KV
        have HBAD:=Lib.hid (show nameAt l j=false by rw [HNA.out,hv];simp)
        clear hv HNA
        generalize l.getD j ByteArray.empty=x at *
        go_upto_region 4 with fail
        refine rg_norm (fun J hJ=>?_)
        have HJ:=Lib.hid hJ
        clear hJ
        refine wp_region_held_drew (S:=fun W=>Below wr.heap.size wr W) (by kernel_rfl) (below_drew (Below.refl _ _)) (fun hH=>?_)
        refine rg_pure 0 _ (.slice (some ⟨b,o,none⟩) n cap) (some 10) rfl (by kernel_rfl) (by kernel_rfl) (by kernel_rfl) (by kernel_rfl) (fun _ _ _ h=>h) (by kernel_rfl) (fun w=>by kernel_rfl) hH ?_
        refine rg_pure 1 _ (.int .i64 (j:Int)) (some 11) rfl (by kernel_rfl) (by kernel_rfl) (by kernel_rfl) (by kernel_rfl) (fun _ _ _ h=>h) (by kernel_rfl) (fun w=>by kernel_rfl) hH ?_
        refine rg_pure 2 _ (.pointer (some ⟨b,o+j,none⟩)) (some 12) rfl (by kernel_rfl) (by kernel_rfl) (by kernel_rfl) (by kernel_rfl) (fun _ _ _ h=>h) (by kernel_rfl) (fun w=>rl_idx w _ _ _ _ _ 9 b o n cap j j 1 rfl (by kernel_rfl) (by kernel_rfl) Tryd.underlying22 (by kernel_rfl) HJN.out (Nat.mul_one _)) hH ?_
        refine rg_load1 3 _ 9 (.tmp 12) ⟨b,o+j,none⟩ (.string x) _ (some 13) rfl (by kernel_rfl) (by kernel_rfl) (by kernel_rfl) (by kernel_rfl) (fun _ _ _ h=>h) (by kernel_rfl) rfl (by kernel_rfl) Tryd.underlying9 rfl (fun W hW=>HX.out W hW) hH ?_
        refine rg_call 4 _ 45 _ _ _ _ #[.string x] (some 14) rfl (by kernel_rfl) (by kernel_rfl) (by kernel_rfl) rfl (by kernel_rfl) Tryd.func45 (by kernel_rfl) (by kernel_rfl) (by kernel_rfl) (KV.out _) ?_
        rintro r' w' ⟨rfl,hb⟩
        replace hH:=hH.trans (hb.mono hH.size)
        refine ⟨_,rfl,hH,?_⟩
        refine rg_pure 5 _ (.bool true) (some 15) rfl (by kernel_rfl) (by kernel_rfl) (by kernel_rfl) (by kernel_rfl) (fun _ _ _ h=>h) (by kernel_rfl) (fun w=>by kernel_rfl) hH ?_
        refine rg_pure 6 _ (.bool true) (some 16) rfl (by kernel_rfl) (by kernel_rfl) (by kernel_rfl) (by kernel_rfl) (fun _ _ _ h=>h) (by kernel_rfl) (fun w=>by kernel_rfl) hH ?_
        refine rg_skip 7 _ (some 17) rfl (by kernel_rfl) (by kernel_rfl) (by kernel_rfl) (by kernel_rfl) (fun _ _ _ h=>h) (by kernel_rfl) hH ?_
        refine rg_skip 8 _ (some 18) rfl (by kernel_rfl) (by kernel_rfl) (by kernel_rfl) (by kernel_rfl) (fun _ _ _ h=>h) (by kernel_rfl) hH ?_
        refine rg_skip 9 _ (some 19) rfl (by kernel_rfl) (by kernel_rfl) (by kernel_rfl) (by kernel_rfl) (fun _ _ _ h=>h) (by kernel_rfl) hH ?_
        refine rg_skip 10 _ (some 20) rfl (by kernel_rfl) (by kernel_rfl) (by kernel_rfl) (by kernel_rfl) (fun _ _ _ h=>h) (by kernel_rfl) hH ?_
        refine rg_skip 11 _ (some 21) rfl (by kernel_rfl) (by kernel_rfl) (by kernel_rfl) (by kernel_rfl) (fun _ _ _ h=>h) (by kernel_rfl) hH ?_
        refine rg_skip 12 _ (some 22) rfl (by kernel_rfl) (by kernel_rfl) (by kernel_rfl) (by kernel_rfl) (fun _ _ _ h=>h) (by kernel_rfl) hH ?_
        refine rg_pure 13 _ (.bool true) (some 23) rfl (by kernel_rfl) (by kernel_rfl) (by kernel_rfl) (by kernel_rfl) (fun _ _ _ h=>h) (by kernel_rfl) (fun w=>by kernel_rfl) hH ?_
        refine rg_pure 14 _ (.bool true) (some 24) rfl (by kernel_rfl) (by kernel_rfl) (by kernel_rfl) (by kernel_rfl) (fun _ _ _ h=>h) (by kernel_rfl) (fun w=>by kernel_rfl) hH ?_
        refine rg_skip 15 _ (some 25) rfl (by kernel_rfl) (by kernel_rfl) (by kernel_rfl) (by kernel_rfl) (fun _ _ _ h=>h) (by kernel_rfl) hH ?_
        refine rg_skip 16 _ (some 26) rfl (by kernel_rfl) (by kernel_rfl) (by kernel_rfl) (by kernel_rfl) (fun _ _ _ h=>h) (by kernel_rfl) hH ?_
        refine rg_skip 17 _ (some 27) rfl (by kernel_rfl) (by kernel_rfl) (by kernel_rfl) (by kernel_rfl) (fun _ _ _ h=>h) (by kernel_rfl) hH ?_
        refine rg_skip 18 _ (some 28) rfl (by kernel_rfl) (by kernel_rfl) (by kernel_rfl) (by kernel_rfl) (fun _ _ _ h=>h) (by kernel_rfl) hH ?_
        refine rg_skip 19 _ (some 29) rfl (by kernel_rfl) (by kernel_rfl) (by kernel_rfl) (by kernel_rfl) (fun _ _ _ h=>h) (by kernel_rfl) hH ?_
        refine rg_skip 20 _ (some 30) rfl (by kernel_rfl) (by kernel_rfl) (by kernel_rfl) (by kernel_rfl) (fun _ _ _ h=>h) (by kernel_rfl) hH ?_
        refine rg_skip 21 _ (some 31) rfl (by kernel_rfl) (by kernel_rfl) (by kernel_rfl) (by kernel_rfl) (fun _ _ _ h=>h) (by kernel_rfl) hH ?_
        refine rg_skip 22 _ (some 32) rfl (by kernel_rfl) (by kernel_rfl) (by kernel_rfl) (by kernel_rfl) (fun _ _ _ h=>h) (by kernel_rfl) hH ?_
        refine rg_skip 23 _ (some 33) rfl (by kernel_rfl) (by kernel_rfl) (by kernel_rfl) (by kernel_rfl) (fun _ _ _ h=>h) (by kernel_rfl) hH ?_
        refine rg_skip 24 _ (some 34) rfl (by kernel_rfl) (by kernel_rfl) (by kernel_rfl) (by kernel_rfl) (fun _ _ _ h=>h) (by kernel_rfl) hH ?_
        refine rg_skip 25 _ (some 35) rfl (by kernel_rfl) (by kernel_rfl) (by kernel_rfl) (by kernel_rfl) (fun _ _ _ h=>h) (by kernel_rfl) hH ?_
        refine rg_skip 26 _ (some 36) rfl (by kernel_rfl) (by kernel_rfl) (by kernel_rfl) (by kernel_rfl) (fun _ _ _ h=>h) (by kernel_rfl) hH ?_
        refine rg_skip 27 _ (some 37) rfl (by kernel_rfl) (by kernel_rfl) (by kernel_rfl) (by kernel_rfl) (fun _ _ _ h=>h) (by kernel_rfl) hH ?_
        refine rg_skip 28 _ (some 38) rfl (by kernel_rfl) (by kernel_rfl) (by kernel_rfl) (by kernel_rfl) (fun _ _ _ h=>h) (by kernel_rfl) hH ?_
        refine rg_pure 29 _ (.bool true) (some 39) rfl (by kernel_rfl) (by kernel_rfl) (by kernel_rfl) (by kernel_rfl) (fun _ _ _ h=>h) (by kernel_rfl) (fun w=>by kernel_rfl) hH ?_
        refine wpAnyH_done (by kernel_rfl) ?_ _
        have HFF:=Lib.hid (below_on HB.out hH)
        clear hH
        refine HJ.out _ _ ?_
        clear HJ
        simp only [Act.put,List.setIfInBounds_toArray,List.set_cons_zero,List.set_cons_succ]
        go_wp2_with fail
        go_ret
        exact HNO.out _ j HJN.out HBAD.out HFF.out
      | true =>
        rw [hv] at KV
        by_cases h2:(l.getD j ByteArray.empty).size≤2000
        case neg =>
          have HS2:=Lib.hid (show decide ((2000:Int)<((l.getD j ByteArray.empty).size:Int))=true from decide_eq_true (by omega))
          have HBAD:=Lib.hid (show nameAt l j=false by rw [HNA.out,decide_eq_false h2];rfl)
          clear hv HNA h2 hxz
          generalize l.getD j ByteArray.empty=x at *
          go_upto_region 4 with fail
          refine rg_norm (fun J hJ=>?_)
          have HJ:=Lib.hid hJ
          clear hJ
          refine wp_region_held_drew (S:=fun W=>Below wr.heap.size wr W) (by kernel_rfl) (below_drew (Below.refl _ _)) (fun hH=>?_)
          refine rg_pure 0 _ (.slice (some ⟨b,o,none⟩) n cap) (some 10) rfl (by kernel_rfl) (by kernel_rfl) (by kernel_rfl) (by kernel_rfl) (fun _ _ _ h=>h) (by kernel_rfl) (fun w=>by kernel_rfl) hH ?_
          refine rg_pure 1 _ (.int .i64 (j:Int)) (some 11) rfl (by kernel_rfl) (by kernel_rfl) (by kernel_rfl) (by kernel_rfl) (fun _ _ _ h=>h) (by kernel_rfl) (fun w=>by kernel_rfl) hH ?_
          refine rg_pure 2 _ (.pointer (some ⟨b,o+j,none⟩)) (some 12) rfl (by kernel_rfl) (by kernel_rfl) (by kernel_rfl) (by kernel_rfl) (fun _ _ _ h=>h) (by kernel_rfl) (fun w=>rl_idx w _ _ _ _ _ 9 b o n cap j j 1 rfl (by kernel_rfl) (by kernel_rfl) Tryd.underlying22 (by kernel_rfl) HJN.out (Nat.mul_one _)) hH ?_
          refine rg_load1 3 _ 9 (.tmp 12) ⟨b,o+j,none⟩ (.string x) _ (some 13) rfl (by kernel_rfl) (by kernel_rfl) (by kernel_rfl) (by kernel_rfl) (fun _ _ _ h=>h) (by kernel_rfl) rfl (by kernel_rfl) Tryd.underlying9 rfl (fun W hW=>HX.out W hW) hH ?_
          refine rg_call 4 _ 45 _ _ _ _ #[.string x] (some 14) rfl (by kernel_rfl) (by kernel_rfl) (by kernel_rfl) rfl (by kernel_rfl) Tryd.func45 (by kernel_rfl) (by kernel_rfl) (by kernel_rfl) (KV.out _) ?_
          rintro r' w' ⟨rfl,hb⟩
          replace hH:=hH.trans (hb.mono hH.size)
          refine ⟨_,rfl,hH,?_⟩
          refine rg_pure 5 _ (.bool false) (some 15) rfl (by kernel_rfl) (by kernel_rfl) (by kernel_rfl) (by kernel_rfl) (fun _ _ _ h=>h) (by kernel_rfl) (fun w=>by kernel_rfl) hH ?_
          refine rg_pure 6 _ (.bool false) (some 16) rfl (by kernel_rfl) (by kernel_rfl) (by kernel_rfl) (by kernel_rfl) (fun _ _ _ h=>h) (by kernel_rfl) (fun w=>by kernel_rfl) hH ?_
          refine rg_pure 7 _ (.slice (some ⟨b,o,none⟩) n cap) (some 17) rfl (by kernel_rfl) (by kernel_rfl) (by kernel_rfl) (by kernel_rfl) (fun _ _ _ h=>h) (by kernel_rfl) (fun w=>by kernel_rfl) hH ?_
          refine rg_pure 8 _ (.int .i64 (j:Int)) (some 18) rfl (by kernel_rfl) (by kernel_rfl) (by kernel_rfl) (by kernel_rfl) (fun _ _ _ h=>h) (by kernel_rfl) (fun w=>by kernel_rfl) hH ?_
          refine rg_pure 9 _ (.pointer (some ⟨b,o+j,none⟩)) (some 19) rfl (by kernel_rfl) (by kernel_rfl) (by kernel_rfl) (by kernel_rfl) (fun _ _ _ h=>h) (by kernel_rfl) (fun w=>rl_idx w _ _ _ _ _ 9 b o n cap j j 1 rfl (by kernel_rfl) (by kernel_rfl) Tryd.underlying22 (by kernel_rfl) HJN.out (Nat.mul_one _)) hH ?_
          refine rg_load1 10 _ 9 (.tmp 19) ⟨b,o+j,none⟩ (.string x) _ (some 20) rfl (by kernel_rfl) (by kernel_rfl) (by kernel_rfl) (by kernel_rfl) (fun _ _ _ h=>h) (by kernel_rfl) rfl (by kernel_rfl) Tryd.underlying9 rfl (fun W hW=>HX.out W hW) hH ?_
          refine rg_pure 11 _ (.int .i64 (x.size:Int)) (some 21) rfl (by kernel_rfl) (by kernel_rfl) (by kernel_rfl) (by kernel_rfl) (fun _ _ _ h=>h) (by kernel_rfl) (fun w=>by kernel_rfl) hH ?_
          refine rg_pure 12 _ (.bool true) (some 22) rfl (by kernel_rfl) (by kernel_rfl) (by kernel_rfl) (by kernel_rfl) (fun _ _ _ h=>h) (by kernel_rfl) (fun w=>rd_gtr w _ _ _ _ _ _ (x.size:Int) 2000 true rfl (by kernel_rfl) (by kernel_rfl) HS2.out) hH ?_
          refine rg_pure 13 _ (.bool true) (some 23) rfl (by kernel_rfl) (by kernel_rfl) (by kernel_rfl) (by kernel_rfl) (fun _ _ _ h=>h) (by kernel_rfl) (fun w=>by kernel_rfl) hH ?_
          refine rg_pure 14 _ (.bool true) (some 24) rfl (by kernel_rfl) (by kernel_rfl) (by kernel_rfl) (by kernel_rfl) (fun _ _ _ h=>h) (by kernel_rfl) (fun w=>by kernel_rfl) hH ?_
          refine rg_skip 15 _ (some 25) rfl (by kernel_rfl) (by kernel_rfl) (by kernel_rfl) (by kernel_rfl) (fun _ _ _ h=>h) (by kernel_rfl) hH ?_
          refine rg_skip 16 _ (some 26) rfl (by kernel_rfl) (by kernel_rfl) (by kernel_rfl) (by kernel_rfl) (fun _ _ _ h=>h) (by kernel_rfl) hH ?_
          refine rg_skip 17 _ (some 27) rfl (by kernel_rfl) (by kernel_rfl) (by kernel_rfl) (by kernel_rfl) (fun _ _ _ h=>h) (by kernel_rfl) hH ?_
          refine rg_skip 18 _ (some 28) rfl (by kernel_rfl) (by kernel_rfl) (by kernel_rfl) (by kernel_rfl) (fun _ _ _ h=>h) (by kernel_rfl) hH ?_
          refine rg_skip 19 _ (some 29) rfl (by kernel_rfl) (by kernel_rfl) (by kernel_rfl) (by kernel_rfl) (fun _ _ _ h=>h) (by kernel_rfl) hH ?_
          refine rg_skip 20 _ (some 30) rfl (by kernel_rfl) (by kernel_rfl) (by kernel_rfl) (by kernel_rfl) (fun _ _ _ h=>h) (by kernel_rfl) hH ?_
          refine rg_skip 21 _ (some 31) rfl (by kernel_rfl) (by kernel_rfl) (by kernel_rfl) (by kernel_rfl) (fun _ _ _ h=>h) (by kernel_rfl) hH ?_
          refine rg_skip 22 _ (some 32) rfl (by kernel_rfl) (by kernel_rfl) (by kernel_rfl) (by kernel_rfl) (fun _ _ _ h=>h) (by kernel_rfl) hH ?_
          refine rg_skip 23 _ (some 33) rfl (by kernel_rfl) (by kernel_rfl) (by kernel_rfl) (by kernel_rfl) (fun _ _ _ h=>h) (by kernel_rfl) hH ?_
          refine rg_skip 24 _ (some 34) rfl (by kernel_rfl) (by kernel_rfl) (by kernel_rfl) (by kernel_rfl) (fun _ _ _ h=>h) (by kernel_rfl) hH ?_
          refine rg_skip 25 _ (some 35) rfl (by kernel_rfl) (by kernel_rfl) (by kernel_rfl) (by kernel_rfl) (fun _ _ _ h=>h) (by kernel_rfl) hH ?_
          refine rg_skip 26 _ (some 36) rfl (by kernel_rfl) (by kernel_rfl) (by kernel_rfl) (by kernel_rfl) (fun _ _ _ h=>h) (by kernel_rfl) hH ?_
          refine rg_skip 27 _ (some 37) rfl (by kernel_rfl) (by kernel_rfl) (by kernel_rfl) (by kernel_rfl) (fun _ _ _ h=>h) (by kernel_rfl) hH ?_
          refine rg_skip 28 _ (some 38) rfl (by kernel_rfl) (by kernel_rfl) (by kernel_rfl) (by kernel_rfl) (fun _ _ _ h=>h) (by kernel_rfl) hH ?_
          refine rg_pure 29 _ (.bool true) (some 39) rfl (by kernel_rfl) (by kernel_rfl) (by kernel_rfl) (by kernel_rfl) (fun _ _ _ h=>h) (by kernel_rfl) (fun w=>by kernel_rfl) hH ?_
          refine wpAnyH_done (by kernel_rfl) ?_ _
          have HFF:=Lib.hid (below_on HB.out hH)
          clear hH
          refine HJ.out _ _ ?_
          clear HJ
          simp only [Act.put,List.setIfInBounds_toArray,List.set_cons_zero,List.set_cons_succ]
          go_wp2_with fail
          go_ret
          exact HNO.out _ j HJN.out HBAD.out HFF.out
        have HS2:=Lib.hid (show decide ((2000:Int)<((l.getD j ByteArray.empty).size:Int))=false from decide_eq_false (by omega))
        by_cases h0:j=0
        · have HJ0:=Lib.hid (show decide ((0:Int)<(j:Int))=false from decide_eq_false (by omega))
          have HOK:=Lib.hid (show nameAt l j=true by rw [HNA.out,hv,decide_eq_true h2,decide_eq_true h0];rfl)
          clear hv HNA h2 hxz h0
          generalize l.getD j ByteArray.empty=x at *
          go_upto_region 4 with fail
          refine rg_norm (fun J hJ=>?_)
          have HJ:=Lib.hid hJ
          clear hJ
          refine wp_region_held_drew (S:=fun W=>Below wr.heap.size wr W) (by kernel_rfl) (below_drew (Below.refl _ _)) (fun hH=>?_)
          refine rg_pure 0 _ (.slice (some ⟨b,o,none⟩) n cap) (some 10) rfl (by kernel_rfl) (by kernel_rfl) (by kernel_rfl) (by kernel_rfl) (fun _ _ _ h=>h) (by kernel_rfl) (fun w=>by kernel_rfl) hH ?_
          refine rg_pure 1 _ (.int .i64 (j:Int)) (some 11) rfl (by kernel_rfl) (by kernel_rfl) (by kernel_rfl) (by kernel_rfl) (fun _ _ _ h=>h) (by kernel_rfl) (fun w=>by kernel_rfl) hH ?_
          refine rg_pure 2 _ (.pointer (some ⟨b,o+j,none⟩)) (some 12) rfl (by kernel_rfl) (by kernel_rfl) (by kernel_rfl) (by kernel_rfl) (fun _ _ _ h=>h) (by kernel_rfl) (fun w=>rl_idx w _ _ _ _ _ 9 b o n cap j j 1 rfl (by kernel_rfl) (by kernel_rfl) Tryd.underlying22 (by kernel_rfl) HJN.out (Nat.mul_one _)) hH ?_
          refine rg_load1 3 _ 9 (.tmp 12) ⟨b,o+j,none⟩ (.string x) _ (some 13) rfl (by kernel_rfl) (by kernel_rfl) (by kernel_rfl) (by kernel_rfl) (fun _ _ _ h=>h) (by kernel_rfl) rfl (by kernel_rfl) Tryd.underlying9 rfl (fun W hW=>HX.out W hW) hH ?_
          refine rg_call 4 _ 45 _ _ _ _ #[.string x] (some 14) rfl (by kernel_rfl) (by kernel_rfl) (by kernel_rfl) rfl (by kernel_rfl) Tryd.func45 (by kernel_rfl) (by kernel_rfl) (by kernel_rfl) (KV.out _) ?_
          rintro r' w' ⟨rfl,hb⟩
          replace hH:=hH.trans (hb.mono hH.size)
          refine ⟨_,rfl,hH,?_⟩
          refine rg_pure 5 _ (.bool false) (some 15) rfl (by kernel_rfl) (by kernel_rfl) (by kernel_rfl) (by kernel_rfl) (fun _ _ _ h=>h) (by kernel_rfl) (fun w=>by kernel_rfl) hH ?_
          refine rg_pure 6 _ (.bool false) (some 16) rfl (by kernel_rfl) (by kernel_rfl) (by kernel_rfl) (by kernel_rfl) (fun _ _ _ h=>h) (by kernel_rfl) (fun w=>by kernel_rfl) hH ?_
          refine rg_pure 7 _ (.slice (some ⟨b,o,none⟩) n cap) (some 17) rfl (by kernel_rfl) (by kernel_rfl) (by kernel_rfl) (by kernel_rfl) (fun _ _ _ h=>h) (by kernel_rfl) (fun w=>by kernel_rfl) hH ?_
          refine rg_pure 8 _ (.int .i64 (j:Int)) (some 18) rfl (by kernel_rfl) (by kernel_rfl) (by kernel_rfl) (by kernel_rfl) (fun _ _ _ h=>h) (by kernel_rfl) (fun w=>by kernel_rfl) hH ?_
          refine rg_pure 9 _ (.pointer (some ⟨b,o+j,none⟩)) (some 19) rfl (by kernel_rfl) (by kernel_rfl) (by kernel_rfl) (by kernel_rfl) (fun _ _ _ h=>h) (by kernel_rfl) (fun w=>rl_idx w _ _ _ _ _ 9 b o n cap j j 1 rfl (by kernel_rfl) (by kernel_rfl) Tryd.underlying22 (by kernel_rfl) HJN.out (Nat.mul_one _)) hH ?_
          refine rg_load1 10 _ 9 (.tmp 19) ⟨b,o+j,none⟩ (.string x) _ (some 20) rfl (by kernel_rfl) (by kernel_rfl) (by kernel_rfl) (by kernel_rfl) (fun _ _ _ h=>h) (by kernel_rfl) rfl (by kernel_rfl) Tryd.underlying9 rfl (fun W hW=>HX.out W hW) hH ?_
          refine rg_pure 11 _ (.int .i64 (x.size:Int)) (some 21) rfl (by kernel_rfl) (by kernel_rfl) (by kernel_rfl) (by kernel_rfl) (fun _ _ _ h=>h) (by kernel_rfl) (fun w=>by kernel_rfl) hH ?_
          refine rg_pure 12 _ (.bool false) (some 22) rfl (by kernel_rfl) (by kernel_rfl) (by kernel_rfl) (by kernel_rfl) (fun _ _ _ h=>h) (by kernel_rfl) (fun w=>rd_gtr w _ _ _ _ _ _ (x.size:Int) 2000 false rfl (by kernel_rfl) (by kernel_rfl) HS2.out) hH ?_
          refine rg_pure 13 _ (.bool false) (some 23) rfl (by kernel_rfl) (by kernel_rfl) (by kernel_rfl) (by kernel_rfl) (fun _ _ _ h=>h) (by kernel_rfl) (fun w=>by kernel_rfl) hH ?_
          refine rg_pure 14 _ (.bool false) (some 24) rfl (by kernel_rfl) (by kernel_rfl) (by kernel_rfl) (by kernel_rfl) (fun _ _ _ h=>h) (by kernel_rfl) (fun w=>by kernel_rfl) hH ?_
          refine rg_pure 15 _ (.int .i64 (j:Int)) (some 25) rfl (by kernel_rfl) (by kernel_rfl) (by kernel_rfl) (by kernel_rfl) (fun _ _ _ h=>h) (by kernel_rfl) (fun w=>by kernel_rfl) hH ?_
          refine rg_pure 16 _ (.bool false) (some 26) rfl (by kernel_rfl) (by kernel_rfl) (by kernel_rfl) (by kernel_rfl) (fun _ _ _ h=>h) (by kernel_rfl) (fun w=>rd_gtr w _ _ _ _ _ _ (j:Int) 0 false rfl (by kernel_rfl) (by kernel_rfl) HJ0.out) hH ?_
          refine rg_pure 17 _ (.bool false) (some 27) rfl (by kernel_rfl) (by kernel_rfl) (by kernel_rfl) (by kernel_rfl) (fun _ _ _ h=>h) (by kernel_rfl) (fun w=>by kernel_rfl) hH ?_
          refine rg_skip 18 _ (some 28) rfl (by kernel_rfl) (by kernel_rfl) (by kernel_rfl) (by kernel_rfl) (fun _ _ _ h=>h) (by kernel_rfl) hH ?_
          refine rg_skip 19 _ (some 29) rfl (by kernel_rfl) (by kernel_rfl) (by kernel_rfl) (by kernel_rfl) (fun _ _ _ h=>h) (by kernel_rfl) hH ?_
          refine rg_skip 20 _ (some 30) rfl (by kernel_rfl) (by kernel_rfl) (by kernel_rfl) (by kernel_rfl) (fun _ _ _ h=>h) (by kernel_rfl) hH ?_
          refine rg_skip 21 _ (some 31) rfl (by kernel_rfl) (by kernel_rfl) (by kernel_rfl) (by kernel_rfl) (fun _ _ _ h=>h) (by kernel_rfl) hH ?_
          refine rg_skip 22 _ (some 32) rfl (by kernel_rfl) (by kernel_rfl) (by kernel_rfl) (by kernel_rfl) (fun _ _ _ h=>h) (by kernel_rfl) hH ?_
          refine rg_skip 23 _ (some 33) rfl (by kernel_rfl) (by kernel_rfl) (by kernel_rfl) (by kernel_rfl) (fun _ _ _ h=>h) (by kernel_rfl) hH ?_
          refine rg_skip 24 _ (some 34) rfl (by kernel_rfl) (by kernel_rfl) (by kernel_rfl) (by kernel_rfl) (fun _ _ _ h=>h) (by kernel_rfl) hH ?_
          refine rg_skip 25 _ (some 35) rfl (by kernel_rfl) (by kernel_rfl) (by kernel_rfl) (by kernel_rfl) (fun _ _ _ h=>h) (by kernel_rfl) hH ?_
          refine rg_skip 26 _ (some 36) rfl (by kernel_rfl) (by kernel_rfl) (by kernel_rfl) (by kernel_rfl) (fun _ _ _ h=>h) (by kernel_rfl) hH ?_
          refine rg_skip 27 _ (some 37) rfl (by kernel_rfl) (by kernel_rfl) (by kernel_rfl) (by kernel_rfl) (fun _ _ _ h=>h) (by kernel_rfl) hH ?_
          refine rg_pure 28 _ (.bool false) (some 38) rfl (by kernel_rfl) (by kernel_rfl) (by kernel_rfl) (by kernel_rfl) (fun _ _ _ h=>h) (by kernel_rfl) (fun w=>by kernel_rfl) hH ?_
          refine rg_pure 29 _ (.bool false) (some 39) rfl (by kernel_rfl) (by kernel_rfl) (by kernel_rfl) (by kernel_rfl) (fun _ _ _ h=>h) (by kernel_rfl) (fun w=>by kernel_rfl) hH ?_
          refine wpAnyH_done (by kernel_rfl) ?_ _
          have HFF:=Lib.hid (below_on HB.out hH)
          clear hH
          refine HJ.out _ _ ?_
          clear HJ
          simp only [Act.put,List.setIfInBounds_toArray,List.set_cons_zero,List.set_cons_succ]
          go_wp2_with fail
          go_roundg k
          case rel=>exact HNX.out _ HOK.out HFF.out
          case measure=>omega
        · obtain ⟨i,hji⟩:∃ i,j=i+1:=⟨j - 1,by omega⟩
          have HJ0:=Lib.hid (show decide ((0:Int)<(j:Int))=true from decide_eq_true (by omega))
          have hna2:nameAt l j=ltS (l.getD i ByteArray.empty) (l.getD j ByteArray.empty):=by rw [HNA.out,hv,decide_eq_true h2,decide_eq_false h0,show j - 1=i by omega];rfl
          have HNA2:=Lib.hid hna2
          have HPI:=Lib.hid (fun W h=>HPR.out W h i hji)
          have HSB:=Lib.hid (show (j:Int) - 1=(i:Int) by omega)
          have HIN:=Lib.hid (show i<n by omega)
          have HI0:=Lib.hid (show (-9223372036854775808:Int)≤(i:Int)∧(i:Int)≤9223372036854775807 by have:=H3.out;omega)
          clear hna2 h0 hv HNA h2 hxz hji HPR
          generalize l.getD j ByteArray.empty=x at *
          generalize l.getD i ByteArray.empty=y at *
          cases hlx:ltS y x with
          | true =>
            have HLT:=Lib.hid (show ltS y x = !false from hlx)
            have HOK:=Lib.hid (show nameAt l j=true by rw [HNA2.out,hlx])
            clear hlx
            go_upto_region 4 with fail
            refine rg_norm (fun J hJ=>?_)
            have HJ:=Lib.hid hJ
            clear hJ
            refine wp_region_held_drew (S:=fun W=>Below wr.heap.size wr W) (by kernel_rfl) (below_drew (Below.refl _ _)) (fun hH=>?_)
            refine rg_pure 0 _ (.slice (some ⟨b,o,none⟩) n cap) (some 10) rfl (by kernel_rfl) (by kernel_rfl) (by kernel_rfl) (by kernel_rfl) (fun _ _ _ h=>h) (by kernel_rfl) (fun w=>by kernel_rfl) hH ?_
            refine rg_pure 1 _ (.int .i64 (j:Int)) (some 11) rfl (by kernel_rfl) (by kernel_rfl) (by kernel_rfl) (by kernel_rfl) (fun _ _ _ h=>h) (by kernel_rfl) (fun w=>by kernel_rfl) hH ?_
            refine rg_pure 2 _ (.pointer (some ⟨b,o+j,none⟩)) (some 12) rfl (by kernel_rfl) (by kernel_rfl) (by kernel_rfl) (by kernel_rfl) (fun _ _ _ h=>h) (by kernel_rfl) (fun w=>rl_idx w _ _ _ _ _ 9 b o n cap j j 1 rfl (by kernel_rfl) (by kernel_rfl) Tryd.underlying22 (by kernel_rfl) HJN.out (Nat.mul_one _)) hH ?_
            refine rg_load1 3 _ 9 (.tmp 12) ⟨b,o+j,none⟩ (.string x) _ (some 13) rfl (by kernel_rfl) (by kernel_rfl) (by kernel_rfl) (by kernel_rfl) (fun _ _ _ h=>h) (by kernel_rfl) rfl (by kernel_rfl) Tryd.underlying9 rfl (fun W hW=>HX.out W hW) hH ?_
            refine rg_call 4 _ 45 _ _ _ _ #[.string x] (some 14) rfl (by kernel_rfl) (by kernel_rfl) (by kernel_rfl) rfl (by kernel_rfl) Tryd.func45 (by kernel_rfl) (by kernel_rfl) (by kernel_rfl) (KV.out _) ?_
            rintro r' w' ⟨rfl,hb⟩
            replace hH:=hH.trans (hb.mono hH.size)
            refine ⟨_,rfl,hH,?_⟩
            refine rg_pure 5 _ (.bool false) (some 15) rfl (by kernel_rfl) (by kernel_rfl) (by kernel_rfl) (by kernel_rfl) (fun _ _ _ h=>h) (by kernel_rfl) (fun w=>by kernel_rfl) hH ?_
            refine rg_pure 6 _ (.bool false) (some 16) rfl (by kernel_rfl) (by kernel_rfl) (by kernel_rfl) (by kernel_rfl) (fun _ _ _ h=>h) (by kernel_rfl) (fun w=>by kernel_rfl) hH ?_
            refine rg_pure 7 _ (.slice (some ⟨b,o,none⟩) n cap) (some 17) rfl (by kernel_rfl) (by kernel_rfl) (by kernel_rfl) (by kernel_rfl) (fun _ _ _ h=>h) (by kernel_rfl) (fun w=>by kernel_rfl) hH ?_
            refine rg_pure 8 _ (.int .i64 (j:Int)) (some 18) rfl (by kernel_rfl) (by kernel_rfl) (by kernel_rfl) (by kernel_rfl) (fun _ _ _ h=>h) (by kernel_rfl) (fun w=>by kernel_rfl) hH ?_
            refine rg_pure 9 _ (.pointer (some ⟨b,o+j,none⟩)) (some 19) rfl (by kernel_rfl) (by kernel_rfl) (by kernel_rfl) (by kernel_rfl) (fun _ _ _ h=>h) (by kernel_rfl) (fun w=>rl_idx w _ _ _ _ _ 9 b o n cap j j 1 rfl (by kernel_rfl) (by kernel_rfl) Tryd.underlying22 (by kernel_rfl) HJN.out (Nat.mul_one _)) hH ?_
            refine rg_load1 10 _ 9 (.tmp 19) ⟨b,o+j,none⟩ (.string x) _ (some 20) rfl (by kernel_rfl) (by kernel_rfl) (by kernel_rfl) (by kernel_rfl) (fun _ _ _ h=>h) (by kernel_rfl) rfl (by kernel_rfl) Tryd.underlying9 rfl (fun W hW=>HX.out W hW) hH ?_
            refine rg_pure 11 _ (.int .i64 (x.size:Int)) (some 21) rfl (by kernel_rfl) (by kernel_rfl) (by kernel_rfl) (by kernel_rfl) (fun _ _ _ h=>h) (by kernel_rfl) (fun w=>by kernel_rfl) hH ?_
            refine rg_pure 12 _ (.bool false) (some 22) rfl (by kernel_rfl) (by kernel_rfl) (by kernel_rfl) (by kernel_rfl) (fun _ _ _ h=>h) (by kernel_rfl) (fun w=>rd_gtr w _ _ _ _ _ _ (x.size:Int) 2000 false rfl (by kernel_rfl) (by kernel_rfl) HS2.out) hH ?_
            refine rg_pure 13 _ (.bool false) (some 23) rfl (by kernel_rfl) (by kernel_rfl) (by kernel_rfl) (by kernel_rfl) (fun _ _ _ h=>h) (by kernel_rfl) (fun w=>by kernel_rfl) hH ?_
            refine rg_pure 14 _ (.bool false) (some 24) rfl (by kernel_rfl) (by kernel_rfl) (by kernel_rfl) (by kernel_rfl) (fun _ _ _ h=>h) (by kernel_rfl) (fun w=>by kernel_rfl) hH ?_
            refine rg_pure 15 _ (.int .i64 (j:Int)) (some 25) rfl (by kernel_rfl) (by kernel_rfl) (by kernel_rfl) (by kernel_rfl) (fun _ _ _ h=>h) (by kernel_rfl) (fun w=>by kernel_rfl) hH ?_
            refine rg_pure 16 _ (.bool true) (some 26) rfl (by kernel_rfl) (by kernel_rfl) (by kernel_rfl) (by kernel_rfl) (fun _ _ _ h=>h) (by kernel_rfl) (fun w=>rd_gtr w _ _ _ _ _ _ (j:Int) 0 true rfl (by kernel_rfl) (by kernel_rfl) HJ0.out) hH ?_
            refine rg_pure 17 _ (.bool true) (some 27) rfl (by kernel_rfl) (by kernel_rfl) (by kernel_rfl) (by kernel_rfl) (fun _ _ _ h=>h) (by kernel_rfl) (fun w=>by kernel_rfl) hH ?_
            refine rg_pure 18 _ (.slice (some ⟨b,o,none⟩) n cap) (some 28) rfl (by kernel_rfl) (by kernel_rfl) (by kernel_rfl) (by kernel_rfl) (fun _ _ _ h=>h) (by kernel_rfl) (fun w=>by kernel_rfl) hH ?_
            refine rg_pure 19 _ (.int .i64 (j:Int)) (some 29) rfl (by kernel_rfl) (by kernel_rfl) (by kernel_rfl) (by kernel_rfl) (fun _ _ _ h=>h) (by kernel_rfl) (fun w=>by kernel_rfl) hH ?_
            refine rg_pure 20 _ (.pointer (some ⟨b,o+j,none⟩)) (some 30) rfl (by kernel_rfl) (by kernel_rfl) (by kernel_rfl) (by kernel_rfl) (fun _ _ _ h=>h) (by kernel_rfl) (fun w=>rl_idx w _ _ _ _ _ 9 b o n cap j j 1 rfl (by kernel_rfl) (by kernel_rfl) Tryd.underlying22 (by kernel_rfl) HJN.out (Nat.mul_one _)) hH ?_
            refine rg_load1 21 _ 9 (.tmp 30) ⟨b,o+j,none⟩ (.string x) _ (some 31) rfl (by kernel_rfl) (by kernel_rfl) (by kernel_rfl) (by kernel_rfl) (fun _ _ _ h=>h) (by kernel_rfl) rfl (by kernel_rfl) Tryd.underlying9 rfl (fun W hW=>HX.out W hW) hH ?_
            refine rg_pure 22 _ (.slice (some ⟨b,o,none⟩) n cap) (some 32) rfl (by kernel_rfl) (by kernel_rfl) (by kernel_rfl) (by kernel_rfl) (fun _ _ _ h=>h) (by kernel_rfl) (fun w=>by kernel_rfl) hH ?_
            refine rg_pure 23 _ (.int .i64 (j:Int)) (some 33) rfl (by kernel_rfl) (by kernel_rfl) (by kernel_rfl) (by kernel_rfl) (fun _ _ _ h=>h) (by kernel_rfl) (fun w=>by kernel_rfl) hH ?_
            refine rg_pure 24 _ (.int .i64 (i:Int)) (some 34) rfl (by kernel_rfl) (by kernel_rfl) (by kernel_rfl) (by kernel_rfl) (fun _ _ _ h=>h) (by kernel_rfl) (fun w=>rd_sub w _ _ _ _ _ _ (j:Int) 1 (i:Int) rfl (by kernel_rfl) (by kernel_rfl) HSB.out HI0.out.1 HI0.out.2) hH ?_
            refine rg_pure 25 _ (.pointer (some ⟨b,o+i,none⟩)) (some 35) rfl (by kernel_rfl) (by kernel_rfl) (by kernel_rfl) (by kernel_rfl) (fun _ _ _ h=>h) (by kernel_rfl) (fun w=>rl_idx w _ _ _ _ _ 9 b o n cap i i 1 rfl (by kernel_rfl) (by kernel_rfl) Tryd.underlying22 (by kernel_rfl) HIN.out (Nat.mul_one _)) hH ?_
            refine rg_load1 26 _ 9 (.tmp 35) ⟨b,o+i,none⟩ (.string y) _ (some 36) rfl (by kernel_rfl) (by kernel_rfl) (by kernel_rfl) (by kernel_rfl) (fun _ _ _ h=>h) (by kernel_rfl) rfl (by kernel_rfl) Tryd.underlying9 rfl (fun W hW=>HPI.out W hW) hH ?_
            refine rg_pure 27 _ (.bool false) (some 37) rfl (by kernel_rfl) (by kernel_rfl) (by kernel_rfl) (by kernel_rfl) (fun _ _ _ h=>h) (by kernel_rfl) (fun w=>rd_leqA w _ _ _ _ _ _ x y false rfl (by kernel_rfl) (by kernel_rfl) HLT.out) hH ?_
            refine rg_pure 28 _ (.bool false) (some 38) rfl (by kernel_rfl) (by kernel_rfl) (by kernel_rfl) (by kernel_rfl) (fun _ _ _ h=>h) (by kernel_rfl) (fun w=>by kernel_rfl) hH ?_
            refine rg_pure 29 _ (.bool false) (some 39) rfl (by kernel_rfl) (by kernel_rfl) (by kernel_rfl) (by kernel_rfl) (fun _ _ _ h=>h) (by kernel_rfl) (fun w=>by kernel_rfl) hH ?_
            refine wpAnyH_done (by kernel_rfl) ?_ _
            have HFF:=Lib.hid (below_on HB.out hH)
            clear hH
            refine HJ.out _ _ ?_
            clear HJ
            simp only [Act.put,List.setIfInBounds_toArray,List.set_cons_zero,List.set_cons_succ]
            go_wp2_with fail
            go_roundg k
            case rel=>exact HNX.out _ HOK.out HFF.out
            case measure=>omega
          | false =>
            have HLT:=Lib.hid (show ltS y x = !true from hlx)
            have HBAD:=Lib.hid (show nameAt l j=false by rw [HNA2.out,hlx])
            clear hlx
            go_upto_region 4 with fail
            refine rg_norm (fun J hJ=>?_)
            have HJ:=Lib.hid hJ
            clear hJ
            refine wp_region_held_drew (S:=fun W=>Below wr.heap.size wr W) (by kernel_rfl) (below_drew (Below.refl _ _)) (fun hH=>?_)
            refine rg_pure 0 _ (.slice (some ⟨b,o,none⟩) n cap) (some 10) rfl (by kernel_rfl) (by kernel_rfl) (by kernel_rfl) (by kernel_rfl) (fun _ _ _ h=>h) (by kernel_rfl) (fun w=>by kernel_rfl) hH ?_
            refine rg_pure 1 _ (.int .i64 (j:Int)) (some 11) rfl (by kernel_rfl) (by kernel_rfl) (by kernel_rfl) (by kernel_rfl) (fun _ _ _ h=>h) (by kernel_rfl) (fun w=>by kernel_rfl) hH ?_
            refine rg_pure 2 _ (.pointer (some ⟨b,o+j,none⟩)) (some 12) rfl (by kernel_rfl) (by kernel_rfl) (by kernel_rfl) (by kernel_rfl) (fun _ _ _ h=>h) (by kernel_rfl) (fun w=>rl_idx w _ _ _ _ _ 9 b o n cap j j 1 rfl (by kernel_rfl) (by kernel_rfl) Tryd.underlying22 (by kernel_rfl) HJN.out (Nat.mul_one _)) hH ?_
            refine rg_load1 3 _ 9 (.tmp 12) ⟨b,o+j,none⟩ (.string x) _ (some 13) rfl (by kernel_rfl) (by kernel_rfl) (by kernel_rfl) (by kernel_rfl) (fun _ _ _ h=>h) (by kernel_rfl) rfl (by kernel_rfl) Tryd.underlying9 rfl (fun W hW=>HX.out W hW) hH ?_
            refine rg_call 4 _ 45 _ _ _ _ #[.string x] (some 14) rfl (by kernel_rfl) (by kernel_rfl) (by kernel_rfl) rfl (by kernel_rfl) Tryd.func45 (by kernel_rfl) (by kernel_rfl) (by kernel_rfl) (KV.out _) ?_
            rintro r' w' ⟨rfl,hb⟩
            replace hH:=hH.trans (hb.mono hH.size)
            refine ⟨_,rfl,hH,?_⟩
            refine rg_pure 5 _ (.bool false) (some 15) rfl (by kernel_rfl) (by kernel_rfl) (by kernel_rfl) (by kernel_rfl) (fun _ _ _ h=>h) (by kernel_rfl) (fun w=>by kernel_rfl) hH ?_
            refine rg_pure 6 _ (.bool false) (some 16) rfl (by kernel_rfl) (by kernel_rfl) (by kernel_rfl) (by kernel_rfl) (fun _ _ _ h=>h) (by kernel_rfl) (fun w=>by kernel_rfl) hH ?_
            refine rg_pure 7 _ (.slice (some ⟨b,o,none⟩) n cap) (some 17) rfl (by kernel_rfl) (by kernel_rfl) (by kernel_rfl) (by kernel_rfl) (fun _ _ _ h=>h) (by kernel_rfl) (fun w=>by kernel_rfl) hH ?_
            refine rg_pure 8 _ (.int .i64 (j:Int)) (some 18) rfl (by kernel_rfl) (by kernel_rfl) (by kernel_rfl) (by kernel_rfl) (fun _ _ _ h=>h) (by kernel_rfl) (fun w=>by kernel_rfl) hH ?_
            refine rg_pure 9 _ (.pointer (some ⟨b,o+j,none⟩)) (some 19) rfl (by kernel_rfl) (by kernel_rfl) (by kernel_rfl) (by kernel_rfl) (fun _ _ _ h=>h) (by kernel_rfl) (fun w=>rl_idx w _ _ _ _ _ 9 b o n cap j j 1 rfl (by kernel_rfl) (by kernel_rfl) Tryd.underlying22 (by kernel_rfl) HJN.out (Nat.mul_one _)) hH ?_
            refine rg_load1 10 _ 9 (.tmp 19) ⟨b,o+j,none⟩ (.string x) _ (some 20) rfl (by kernel_rfl) (by kernel_rfl) (by kernel_rfl) (by kernel_rfl) (fun _ _ _ h=>h) (by kernel_rfl) rfl (by kernel_rfl) Tryd.underlying9 rfl (fun W hW=>HX.out W hW) hH ?_
            refine rg_pure 11 _ (.int .i64 (x.size:Int)) (some 21) rfl (by kernel_rfl) (by kernel_rfl) (by kernel_rfl) (by kernel_rfl) (fun _ _ _ h=>h) (by kernel_rfl) (fun w=>by kernel_rfl) hH ?_
            refine rg_pure 12 _ (.bool false) (some 22) rfl (by kernel_rfl) (by kernel_rfl) (by kernel_rfl) (by kernel_rfl) (fun _ _ _ h=>h) (by kernel_rfl) (fun w=>rd_gtr w _ _ _ _ _ _ (x.size:Int) 2000 false rfl (by kernel_rfl) (by kernel_rfl) HS2.out) hH ?_
            refine rg_pure 13 _ (.bool false) (some 23) rfl (by kernel_rfl) (by kernel_rfl) (by kernel_rfl) (by kernel_rfl) (fun _ _ _ h=>h) (by kernel_rfl) (fun w=>by kernel_rfl) hH ?_
            refine rg_pure 14 _ (.bool false) (some 24) rfl (by kernel_rfl) (by kernel_rfl) (by kernel_rfl) (by kernel_rfl) (fun _ _ _ h=>h) (by kernel_rfl) (fun w=>by kernel_rfl) hH ?_
            refine rg_pure 15 _ (.int .i64 (j:Int)) (some 25) rfl (by kernel_rfl) (by kernel_rfl) (by kernel_rfl) (by kernel_rfl) (fun _ _ _ h=>h) (by kernel_rfl) (fun w=>by kernel_rfl) hH ?_
            refine rg_pure 16 _ (.bool true) (some 26) rfl (by kernel_rfl) (by kernel_rfl) (by kernel_rfl) (by kernel_rfl) (fun _ _ _ h=>h) (by kernel_rfl) (fun w=>rd_gtr w _ _ _ _ _ _ (j:Int) 0 true rfl (by kernel_rfl) (by kernel_rfl) HJ0.out) hH ?_
            refine rg_pure 17 _ (.bool true) (some 27) rfl (by kernel_rfl) (by kernel_rfl) (by kernel_rfl) (by kernel_rfl) (fun _ _ _ h=>h) (by kernel_rfl) (fun w=>by kernel_rfl) hH ?_
            refine rg_pure 18 _ (.slice (some ⟨b,o,none⟩) n cap) (some 28) rfl (by kernel_rfl) (by kernel_rfl) (by kernel_rfl) (by kernel_rfl) (fun _ _ _ h=>h) (by kernel_rfl) (fun w=>by kernel_rfl) hH ?_
            refine rg_pure 19 _ (.int .i64 (j:Int)) (some 29) rfl (by kernel_rfl) (by kernel_rfl) (by kernel_rfl) (by kernel_rfl) (fun _ _ _ h=>h) (by kernel_rfl) (fun w=>by kernel_rfl) hH ?_
            refine rg_pure 20 _ (.pointer (some ⟨b,o+j,none⟩)) (some 30) rfl (by kernel_rfl) (by kernel_rfl) (by kernel_rfl) (by kernel_rfl) (fun _ _ _ h=>h) (by kernel_rfl) (fun w=>rl_idx w _ _ _ _ _ 9 b o n cap j j 1 rfl (by kernel_rfl) (by kernel_rfl) Tryd.underlying22 (by kernel_rfl) HJN.out (Nat.mul_one _)) hH ?_
            refine rg_load1 21 _ 9 (.tmp 30) ⟨b,o+j,none⟩ (.string x) _ (some 31) rfl (by kernel_rfl) (by kernel_rfl) (by kernel_rfl) (by kernel_rfl) (fun _ _ _ h=>h) (by kernel_rfl) rfl (by kernel_rfl) Tryd.underlying9 rfl (fun W hW=>HX.out W hW) hH ?_
            refine rg_pure 22 _ (.slice (some ⟨b,o,none⟩) n cap) (some 32) rfl (by kernel_rfl) (by kernel_rfl) (by kernel_rfl) (by kernel_rfl) (fun _ _ _ h=>h) (by kernel_rfl) (fun w=>by kernel_rfl) hH ?_
            refine rg_pure 23 _ (.int .i64 (j:Int)) (some 33) rfl (by kernel_rfl) (by kernel_rfl) (by kernel_rfl) (by kernel_rfl) (fun _ _ _ h=>h) (by kernel_rfl) (fun w=>by kernel_rfl) hH ?_
            refine rg_pure 24 _ (.int .i64 (i:Int)) (some 34) rfl (by kernel_rfl) (by kernel_rfl) (by kernel_rfl) (by kernel_rfl) (fun _ _ _ h=>h) (by kernel_rfl) (fun w=>rd_sub w _ _ _ _ _ _ (j:Int) 1 (i:Int) rfl (by kernel_rfl) (by kernel_rfl) HSB.out HI0.out.1 HI0.out.2) hH ?_
            refine rg_pure 25 _ (.pointer (some ⟨b,o+i,none⟩)) (some 35) rfl (by kernel_rfl) (by kernel_rfl) (by kernel_rfl) (by kernel_rfl) (fun _ _ _ h=>h) (by kernel_rfl) (fun w=>rl_idx w _ _ _ _ _ 9 b o n cap i i 1 rfl (by kernel_rfl) (by kernel_rfl) Tryd.underlying22 (by kernel_rfl) HIN.out (Nat.mul_one _)) hH ?_
            refine rg_load1 26 _ 9 (.tmp 35) ⟨b,o+i,none⟩ (.string y) _ (some 36) rfl (by kernel_rfl) (by kernel_rfl) (by kernel_rfl) (by kernel_rfl) (fun _ _ _ h=>h) (by kernel_rfl) rfl (by kernel_rfl) Tryd.underlying9 rfl (fun W hW=>HPI.out W hW) hH ?_
            refine rg_pure 27 _ (.bool true) (some 37) rfl (by kernel_rfl) (by kernel_rfl) (by kernel_rfl) (by kernel_rfl) (fun _ _ _ h=>h) (by kernel_rfl) (fun w=>rd_leqA w _ _ _ _ _ _ x y true rfl (by kernel_rfl) (by kernel_rfl) HLT.out) hH ?_
            refine rg_pure 28 _ (.bool true) (some 38) rfl (by kernel_rfl) (by kernel_rfl) (by kernel_rfl) (by kernel_rfl) (fun _ _ _ h=>h) (by kernel_rfl) (fun w=>by kernel_rfl) hH ?_
            refine rg_pure 29 _ (.bool true) (some 39) rfl (by kernel_rfl) (by kernel_rfl) (by kernel_rfl) (by kernel_rfl) (fun _ _ _ h=>h) (by kernel_rfl) (fun w=>by kernel_rfl) hH ?_
            refine wpAnyH_done (by kernel_rfl) ?_ _
            have HFF:=Lib.hid (below_on HB.out hH)
            clear hH
            refine HJ.out _ _ ?_
            clear HJ
            simp only [Act.put,List.setIfInBounds_toArray,List.set_cons_zero,List.set_cons_succ]
            go_wp2_with fail
            go_ret
            exact HNO.out _ j HJN.out HBAD.out HFF.out
    · obtain rfl:j=n:=by omega
      have hjz:¬ (j:Int)<(j:Int):=by omega
      have hri:risesB l=true:=risesB_iff.2 (fun q hq=>hall q (by rw [HL.out] at hq;exact hq))
      have HRI:=Lib.hid hri
      clear hall hri
      by_cases h300:j≤300
      · have h3z:(j:Int)≤300:=by omega
        go_wp2
        go_ret
        exact BoolBelow.mk (by first | rfl | simp [HRI.out,h300]) HB.out
      · have h3z:¬ (j:Int)≤300:=by omega
        go_wp2
        go_ret
        exact BoolBelow.mk (by first | rfl | simp [HRI.out,h300]) HB.out
end Go.Proofs.YticgggjfmhiilaaDoor
