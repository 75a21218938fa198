/- Texts of the claim. -/
import Derived.Test.YtijaphbccnadbaaGreatDoorShelf
import Derived.Shelf.Strings.BuilderK
import Derived.OrdersHeld
import Derived.Deep.MidRow
import Derived.Deep.RegionHeldLaw
import Derived.Test.YtijaphbccnadbaaGreatDoorProg
import Derived.Deep.CutRange
import Derived.Deep.DeepCutAuto
import Derived.Test.YtijaphbccnadbaaGreatDoorRows
import Derived.Below
import Derived.WalkKit
import Derived.WalkSpells
import Derived.WalkLawsBesides
import Derived.Deep.QuietTactic
import Derived.BigQuiet
import Derived.Lib.Hide
set_option linter.unusedVariables false
set_option linter.unusedSimpArgs false
set_option maxHeartbeats 200000
set_option maxRecDepth 100000
namespace Go.Proofs.YtijaphbccnadbaaGreatDoor
open Go.Shelf Go.RowKit
def lays166_ren:Go.Shelf.Ren:=⟨fun | 166=>95 | 240=>141 | 276=>177 | n=>n,fun | 0=>0 | 3=>3 | 4=>4 | 5=>5 | 9=>9 | 20=>20 | 37=>60 | 70=>59 | 72=>62 | 75=>120 | 80=>65 | 164=>182 | n=>n,fun | n=>n⟩
theorem lays166:Go.Proofs.Lays.n166 Tryz.prog lays166_ren:={
  mixed:=by kernel_rfl
  f166:=Tryz.func95.trans (congrArg some (by kernel_rfl))
  f240:=Tryz.func141.trans (congrArg some (by kernel_rfl))
  f276:=Tryz.func177.trans (congrArg some (by kernel_rfl))
  t0:=Tryz.underlying0
  a0:=Tryz.isAgg0
  z0:=Tryz.sizeOf0
  v0:=Tryz.zeroValue0
  t3:=Tryz.underlying3
  a3:=Tryz.isAgg3
  z3:=Tryz.sizeOf3
  v3:=Tryz.zeroValue3
  t4:=Tryz.underlying4
  a4:=Tryz.isAgg4
  z4:=Tryz.sizeOf4
  v4:=Tryz.zeroValue4
  t9:=Tryz.underlying9
  a9:=Tryz.isAgg9
  z9:=Tryz.sizeOf9
  v9:=Tryz.zeroValue9
  t20:=Tryz.underlying20
  a20:=Tryz.isAgg20
  z20:=Tryz.sizeOf20
  v20:=Tryz.zeroValue20
  t37:=Tryz.underlying60
  a37:=Tryz.isAgg60
  z37:=Tryz.sizeOf60
  v37:=Tryz.zeroValue60
  t70:=Tryz.underlying59
  a70:=Tryz.isAgg59
  z70:=Tryz.sizeOf59
  v70:=Tryz.zeroValue59
  t72:=Tryz.underlying62
  a72:=Tryz.isAgg62
  z72:=Tryz.sizeOf62
  v72:=Tryz.zeroValue62
  t75:=Tryz.underlying120
  a75:=Tryz.isAgg120
  z75:=Tryz.sizeOf120
  v75:=Tryz.zeroValue120
  t164:=Tryz.underlying182
  a164:=Tryz.isAgg182
  z164:=Tryz.sizeOf182
  v164:=Tryz.zeroValue182 }
theorem extra166:Builder.Extra Tryz.prog lays166_ren:={
  sizeBuilder:=by kernel_rfl
  liesBuilder:=by kernel_rfl
  t5:=Tryz.underlying5
  a5:=Tryz.isAgg5
  z5:=Tryz.sizeOf5
  v5:=Tryz.zeroValue5
  infoByte:=by kernel_rfl
  cellsByte:=by kernel_rfl
  sizeByte:=by kernel_rfl
  neB5:=by decide }
def lays167_ren:Go.Shelf.Ren:=⟨fun | 167=>101 | 240=>141 | 276=>177 | n=>n,fun | 0=>0 | 3=>3 | 4=>4 | 5=>5 | 9=>9 | 20=>20 | 37=>60 | 70=>59 | 72=>62 | 75=>120 | 80=>65 | 164=>182 | n=>n,fun | n=>n⟩
theorem lays167:Go.Proofs.Lays.n167 Tryz.prog lays167_ren:={
  mixed:=by kernel_rfl
  f167:=Tryz.func101.trans (congrArg some (by kernel_rfl))
  f240:=Tryz.func141.trans (congrArg some (by kernel_rfl))
  f276:=Tryz.func177.trans (congrArg some (by kernel_rfl))
  t0:=Tryz.underlying0
  a0:=Tryz.isAgg0
  z0:=Tryz.sizeOf0
  v0:=Tryz.zeroValue0
  t4:=Tryz.underlying4
  a4:=Tryz.isAgg4
  z4:=Tryz.sizeOf4
  v4:=Tryz.zeroValue4
  t5:=Tryz.underlying5
  a5:=Tryz.isAgg5
  z5:=Tryz.sizeOf5
  v5:=Tryz.zeroValue5
  t9:=Tryz.underlying9
  a9:=Tryz.isAgg9
  z9:=Tryz.sizeOf9
  v9:=Tryz.zeroValue9
  t20:=Tryz.underlying20
  a20:=Tryz.isAgg20
  z20:=Tryz.sizeOf20
  v20:=Tryz.zeroValue20
  t37:=Tryz.underlying60
  a37:=Tryz.isAgg60
  z37:=Tryz.sizeOf60
  v37:=Tryz.zeroValue60
  t70:=Tryz.underlying59
  a70:=Tryz.isAgg59
  z70:=Tryz.sizeOf59
  v70:=Tryz.zeroValue59
  t72:=Tryz.underlying62
  a72:=Tryz.isAgg62
  z72:=Tryz.sizeOf62
  v72:=Tryz.zeroValue62
  t75:=Tryz.underlying120
  a75:=Tryz.isAgg120
  z75:=Tryz.sizeOf120
  v75:=Tryz.zeroValue120
  t164:=Tryz.underlying182
  a164:=Tryz.isAgg182
  z164:=Tryz.sizeOf182
  v164:=Tryz.zeroValue182 }
theorem extra167:Builder.Extra Tryz.prog lays167_ren:={
  sizeBuilder:=by kernel_rfl
  liesBuilder:=by kernel_rfl
  t5:=Tryz.underlying5
  a5:=Tryz.isAgg5
  z5:=Tryz.sizeOf5
  v5:=Tryz.zeroValue5
  infoByte:=by kernel_rfl
  cellsByte:=by kernel_rfl
  sizeByte:=by kernel_rfl
  neB5:=by decide }
theorem writeByte_k (B b:Nat) (bs:List Value) (c:Int) (w:World) (h:Lib.IsBuilderF 62 5 B b bs w) (hlen:bs.length+1≤140737488355328) (hBw:B≤w.heap.size) :
    Calls Tryz.prog 101 #[.pointer (some ⟨b,0,none⟩),.int .u8 c] w fun e w'=>e=.returned .nilIface∧(Lib.BuilderAtF 62 5 B b (.pointer (some ⟨b,0,none⟩)) (bs++[.int .u8 c]) w'∧Below B w w'∧Lib.OthersKept 5 (some b) w w') :=
  Any.Builder_WriteByte_k lays167 extra167 B b bs c w h hlen hBw
theorem writeString_k (B b:Nat) (bs:List Value) (s:ByteArray) (w:World) (h:Lib.IsBuilderF 62 5 B b bs w) (hlen:bs.length+s.size≤140737488355328) (hBw:B≤w.heap.size) :
    Calls Tryz.prog 95 #[.pointer (some ⟨b,0,none⟩),.string s] w fun e w'=>e=.returned (.tuple #[.int .i64 s.size,.nilIface])∧(Lib.BuilderAtF 62 5 B b (.pointer (some ⟨b,0,none⟩)) (bs++Lib.strCells s) w'∧Below B w w'∧Lib.OthersKept 5 (some b) w w') :=
  Any.Builder_WriteString_k lays166 extra166 B b bs s w h hlen hBw
end Go.Proofs.YtijaphbccnadbaaGreatDoor
namespace Go.Proofs.YtijaphbccnadbaaGreatDoor
section
variable {P : Program} {ops : Array Oper} {Q : Exit → Act → World → Prop} {S : World → Prop}
theorem rg_run1 (w:World) (ad:Addr) (ty:TypeId) (v:Value) (d:TypeDesc) (hc:w.cell? ad=some v) (hu:P.underlying ty=some d) (hd:d.isRow=false) :
    (Instr.loadAt ty (.pointer (some ad))).run P w=.ok v w:=by
  have hagg:(isAgg ty).run P w=.ok false w:=by
    unfold isAgg
    rw [Sem.run_bind,run_underlying hu w]
    cases d <;> simp_all
  simp [Instr.loadAt,Instr.sureAddr,Sem.run_bind,Sem.run_pure,Result.andThen_ok,loadVar,hagg,run_load,hc,Result.andThen]
theorem rg_enter (w:World) (ev:Operand→Value) (o:Oper) (n:Nat) (fn:Func) (f:Operand) (args:Array Operand) (ts:Array TypeId) (vs:Array Value)
    (ho:o.op=.call { callee:=.value f,args:=args,argTypes:=ts }) (hff:ev f=.func (.func n) #[] #[]) (hfn:P.funcs[n]? = some fn) (hn:(fn.name == "runtime.NumGoroutine")=false) (hb:fn.body.isNone=false)
    (hv:args.map ev=vs):(execOp ev o).run P w=.ok (.enter n vs) w:=by
  simp [execOp,ho,resolve,Deferred.ofValue,invoke,callFunc,hfn,hv,hff,go_sem]
  rw [if_neg (by simpa using hn),if_neg (by intro h0;rw [h0] at hb;cases hb)]
end
section
variable {P : Program} {ops : Array Oper} {Q : Exit → Act → World → Prop} {S : Array Bool → World → Prop}
def wpAnyL (P:Program) (ops:Array Oper) (Q:Exit→Act→World→Prop) (S:Array Bool→World→Prop):Nat→Array Bool→Act→World→Prop
  | 0,L,a,w=>Region.ready .any ops L=[]∧Q .normal a w
  | f+1,L,a,w=>(Region.ready .any ops L=[]→Q .normal a w) ∧
    ∀ i∈Region.ready .any ops L,wpOp P ops Q i (fun a' w'=>S (L.setIfInBounds i true) w'∧wpAnyL P ops Q S f (L.setIfInBounds i true) a' w') a w
theorem wpAny_of_L:∀ (f:Nat) (L:Array Bool) (a:Act) (w:World),wpAnyL P ops Q S f L a w→wpAny P .any ops Q f L a w
  | 0,_,_,_,h=>h
  | f+1,_,_,_,h=>⟨h.1,fun i hi=>wpOp_mono (fun a' w' h'=>wpAny_of_L f _ a' w' h'.2) (h.2 i hi)⟩
def Cl (ops:Array Oper) (L:Array Bool):Prop:=∀ j o,ops[j]? = some o→L.getD j false=true→∀ e∈o.after,Region.binds .any e=true→L.getD e.on false=true
theorem cl_start (n:Nat):Cl ops (Array.replicate n false):=fun j o _ h=>by
  exfalso
  by_cases hj:j<n
  iterate 2
    · simp [hj] at h
theorem cl_set {L:Array Bool} {j:Nat} (h:Cl ops L) (hj:j∈Region.ready .any ops L):Cl ops (L.setIfInBounds j true):=by
  obtain ⟨_,oj,hoj,hall⟩:=mem_ready.1 hj
  intro k o ho hk e he hb
  by_cases hjk:j=k
  · subst hjk
    rw [hoj] at ho;cases ho
    exact getD_set_true (hall e he hb)
  · rw [getD_set_ne false hjk] at hk
    exact getD_set_true (h k o ho hk e he hb)
theorem cl_no {L:Array Bool} (h:Cl ops L) (i j:Nat) (o:Oper) (ho:ops[j]? = some o) (he:(o.after.any fun e=>e.on == i && Region.binds .any e)=true) (hi:L.getD i true=false):L.getD j false=false:=by
  cases hj:L.getD j false
  · rfl
  · exfalso
    rw [Array.any_eq_true] at he
    obtain ⟨k,hk,hx⟩:=he
    rw [Bool.and_eq_true,beq_iff_eq] at hx
    have:=h j o ho hj _ (Array.getElem_mem hk) hx.2
    rw [hx.1] at this
    rcases Nat.lt_or_ge i L.size with h' | h'
    · simp [h'] at hi this;rw [hi] at this;cases this
    · simp [Array.getElem?_eq_none h'] at this
def SI (ops:Array Oper) (S:Array Bool→World→Prop) (i:Nat) (w:World):Prop:=∃ L:Array Bool,Cl ops L∧L.getD i true=false∧S L w
theorem rl_self {i:Nat} {oi:Oper} {v:Value} {a:Act} {w:World} {L:Array Bool} {K:Act→World→Prop} (hi:ops[i]? = some oi) (hy:YieldsIf P ops (SI ops S i) oi v a) (hC:Cl ops L) (h0:L.getD i true=false) (hS:S L w) (h:K (a.put oi.dst v) w):wpOp P ops Q i K a w:=by
  have hy2:YieldsIf P ops (fun W=>W=w) oi v a:=hy.imp (fun ⟨hw,hv⟩=>⟨hw,fun W hW=>by subst hW;exact hv _ ⟨L,hC,h0,hS⟩⟩) id
  exact hy2.wpOp hi rfl h
theorem wpAnyL_first {i : Nat} {oi : Oper} {v : Value} (hi : ops[i]? = some oi) (hsel : ∀ (j : Nat) (o : Oper) cs b, ops[j]? = some o → o.op ≠ .select cs b)
    (hQ : ∀ c a w, Q (.panic c) (a.put oi.dst v) w → Q (.panic c) a w) (hI : ∀ L w, S (L.setIfInBounds i true) w ↔ S L w) :
    ∀ (f : Nat) (L : Array Bool) (a : Act) (w : World), Cl ops L →
      (∀ j oj, ops[j]? = some oj → j ≠ i → L.getD j true = false → (∀ e ∈ oj.after, Region.binds .any e = true → e.on ≠ i) → oi.apart ops oj = true) →
      i ∈ Region.ready .any ops L → YieldsIf P ops (SI ops S i) oi v a → S L w →
      wpAnyL P ops Q S f (L.setIfInBounds i true) (a.put oi.dst v) w → wpAnyL P ops Q S (f + 1) L a w := by
  intro f
  induction f with
  | zero =>
    intro L a w hC _ hr hy hS H
    refine ⟨fun h => (by rw [h] at hr; cases hr), fun j hj => ?_⟩
    by_cases hji : j = i
    · subst hji
      exact rl_self hi hy hC (mem_ready.1 hj).1 hS ⟨(hI L w).2 hS, H⟩
    · have := ready_mono hj hji
      rw [H.1] at this
      cases this
  | succ f ih =>
    intro L a w hC hfree hr hy hS H
    refine ⟨fun h => (by rw [h] at hr; cases hr), fun j hj => ?_⟩
    by_cases hji : j = i
    · subst hji
      exact rl_self hi hy hC (mem_ready.1 hj).1 hS ⟨(hI L w).2 hS, H⟩
    · have h1 := H.2 j (ready_mono hj hji)
      obtain ⟨hjun, oj, hoj, hall⟩ := mem_ready.1 hj
      have h0 := (mem_ready.1 hr).1
      have hnot : ∀ e ∈ oj.after, Region.binds .any e = true → e.on ≠ i := fun e he hb heq => by
        have h1 := hall e he hb
        rw [heq] at h1
        rcases Nat.lt_or_ge i L.size with h' | h'
        · simp [h'] at h0 h1; rw [h0] at h1; cases h1
        · simp [Array.getElem?_eq_none h'] at h1
      have h2 := wpOp_putIf hoj (hfree j oj hoj hji hjun hnot) (fun cs b => hsel i oi cs b hi) (fun cs b => hsel j oj cs b hoj) hQ hy h1
      have hfree' : ∀ k ok, ops[k]? = some ok → k ≠ i → (L.setIfInBounds j true).getD k true = false →
          (∀ e ∈ ok.after, Region.binds .any e = true → e.on ≠ i) → oi.apart ops ok = true := fun k ok hk hki hun hno => by
        refine hfree k ok hk hki ?_ hno
        by_cases hjk : j = k
        · subst hjk; exact hjun
        · rw [getD_set_ne true hjk] at hun; exact hun
      refine wpOp_mono (fun a' w' h3 => ?_) h2
      have h4 : S ((L.setIfInBounds j true).setIfInBounds i true) w' := by rw [Array.setIfInBounds_comm _ _ hji]; exact h3.2.1
      have h5 := (hI _ _).1 h4
      exact ⟨h5, ih (L.setIfInBounds j true) a' w' (cl_set hC hj) hfree' (ready_mono hr (Ne.symm hji)) h3.1 h5 (by rw [Array.setIfInBounds_comm _ _ hji]; exact h3.2.2)⟩
theorem wpAnyL_take {i:Nat} {oi:Oper} {v:Value} {f:Nat} {L:Array Bool} {a:Act} {w:World} (hi:ops[i]? = some oi)
    (hs:Region.noSelect ops=true) (hf:Region.free .any ops L i=true) (hr:(Region.ready .any ops L).contains i=true)
    (hQ:∀ c a w,Q (.panic c) (a.put oi.dst v) w→Q (.panic c) a w) (hI:∀ L w,S (L.setIfInBounds i true) w ↔ S L w) (hy:YieldsIf P ops (SI ops S i) oi v a) (hC:Cl ops L) (hS:S L w)
    (h:Cl ops (L.setIfInBounds i true)→S (L.setIfInBounds i true) w→wpAnyL P ops Q S f (L.setIfInBounds i true) (a.put oi.dst v) w):wpAnyL P ops Q S (f+1) L a w :=
  wpAnyL_first hi (Region.noSelect_spec hs) hQ hI f L a w hC (Region.free_spec hi hf) (by simpa using hr) hy hS (h (cl_set hC (by simpa using hr)) ((hI _ _).2 hS))
theorem rl_start {id:Nat} {a:Act} {w:World} (hm:P.follows .mixedOrders=true) (hS:S (Array.replicate ops.size false) w.drew)
    (h:Cl ops (Array.replicate ops.size false)→S (Array.replicate ops.size false) w.drew→wpAnyL P ops Q S ops.size (Array.replicate ops.size false) a w.drew):(Code.region id ops true).wp P Q a w :=
  wp_region_any hm (wpAny_of_L _ _ _ _ (h (cl_start _) hS))
theorem rl_done {L:Array Bool} {a:Act} {w:World} (hr:Region.ready .any ops L=[]) (h:Q .normal a w):∀ f,wpAnyL P ops Q S f L a w
  | 0=>⟨hr,h⟩
  | _+1=>⟨fun _=>h,by rw [hr];simp⟩
theorem rl_load1 {f:Nat} {L:Array Bool} {a:Act} {w:World} (i:Nat) (o:Oper) (ty:TypeId) (x:Operand) (ad:Addr) (v:Value) (d:TypeDesc)
    (dd:Option Tmp) (hi:ops[i]? = some o) (hdd:o.dst=dd) (hs:Region.noSelect ops=true) (hf:Region.free .any ops L i=true) (hr:(Region.ready .any ops L).contains i=true)
    (hQ:∀ c a w,Q (.panic c) (a.put dd v) w→Q (.panic c) a w) (hI:∀ L w,S (L.setIfInBounds i true) w ↔ S L w) (hw:Region.wanted o (yielded ops a.tmps)=true) (ho:o.op=.load ty x) (hx:a.eval x=.pointer (some ad))
    (hu:P.underlying ty=some d) (hd:d.isRow=false) (hS:∀ L W,Cl ops L→L.getD i true=false→S L W→W.cell? ad=some v) (hC:Cl ops L) (h0:S L w)
    (h:Cl ops (L.setIfInBounds i true)→S (L.setIfInBounds i true) w→wpAnyL P ops Q S f (L.setIfInBounds i true) (a.put dd v) w):wpAnyL P ops Q S (f+1) L a w:=by
  subst hdd
  exact wpAnyL_take hi hs hf hr hQ hI (.inl ⟨hw,fun W ⟨L',h3,h1,h2⟩=>by
    unfold execOp
    simp only [ho,hx,Sem.run_bind,Sem.run_pure,Result.andThen_ok,rg_run1 W ad ty v d (hS L' W h3 h1 h2) hu hd]⟩) hC h0 h
theorem rl_loadM {f:Nat} {L:Array Bool} {a:Act} {w:World} (i:Nat) (o:Oper) (ty:TypeId) (x:Operand) (b k:Nat) (cs:List Value) (d:TypeDesc)
    (dd:Option Tmp) (hi:ops[i]? = some o) (hdd:o.dst=dd) (hs:Region.noSelect ops=true) (hf:Region.free .any ops L i=true) (hr:(Region.ready .any ops L).contains i=true)
    (hQ:∀ c a w,Q (.panic c) (a.put dd (.agg cs.toArray)) w→Q (.panic c) a w) (hI:∀ L w,S (L.setIfInBounds i true) w ↔ S L w) (hw:Region.wanted o (yielded ops a.tmps)=true) (ho:o.op=.load ty x) (hx:a.eval x=.pointer (some ⟨b,k,none⟩))
    (hu:P.underlying ty=some d) (hd:d.isRow=true) (hz:(P.info? ty).map (·.size)=some cs.length) (hS:∀ L W,Cl ops L→L.getD i true=false→S L W→W.rangeAt b k cs) (hC:Cl ops L) (h0:S L w)
    (h:Cl ops (L.setIfInBounds i true)→S (L.setIfInBounds i true) w→wpAnyL P ops Q S f (L.setIfInBounds i true) (a.put dd (.agg cs.toArray)) w):wpAnyL P ops Q S (f+1) L a w:=by
  subst hdd
  exact wpAnyL_take hi hs hf hr hQ hI (yieldsIf_load_mid hw ty x ho b k hx cs d (fun W ⟨L',h3,h1,h2⟩=>hS L' W h3 h1 h2) hu hd hz) hC h0 h
theorem rl_pure {f:Nat} {L:Array Bool} {a:Act} {w:World} (i:Nat) (o:Oper) (v:Value)
    (dd:Option Tmp) (hi:ops[i]? = some o) (hdd:o.dst=dd) (hs:Region.noSelect ops=true) (hf:Region.free .any ops L i=true) (hr:(Region.ready .any ops L).contains i=true)
    (hQ:∀ c a w,Q (.panic c) (a.put dd v) w→Q (.panic c) a w) (hI:∀ L w,S (L.setIfInBounds i true) w ↔ S L w) (hw:Region.wanted o (yielded ops a.tmps)=true) (hx:∀ w,(execOp a.eval o).run P w=.ok (.value v) w) (hC:Cl ops L) (h0:S L w)
    (h:Cl ops (L.setIfInBounds i true)→S (L.setIfInBounds i true) w→wpAnyL P ops Q S f (L.setIfInBounds i true) (a.put dd v) w):wpAnyL P ops Q S (f+1) L a w:=by
  subst hdd
  exact wpAnyL_take hi hs hf hr hQ hI (.inl ⟨hw,fun w _=>hx w⟩) hC h0 h
theorem rl_all {f:Nat} {L:Array Bool} {a:Act} {w:World} (rs:List Nat) (hr:Region.ready .any ops L=rs) (hne:rs ≠ [])
    (hC:Cl ops L) (h:∀ i∈rs,wpOp P ops Q i (fun a' w'=>S (L.setIfInBounds i true) w'∧(Cl ops (L.setIfInBounds i true)→wpAnyL P ops Q S f (L.setIfInBounds i true) a' w')) a w):wpAnyL P ops Q S (f+1) L a w :=
  ⟨fun h0=>absurd (hr ▸ h0) hne,fun i hi=>wpOp_mono (fun a' w' h'=>⟨h'.1,h'.2 (cl_set hC hi)⟩) (h i (hr ▸ hi))⟩
theorem rl_one {p:Nat→Prop} (i:Nat) (h:p i):∀ j∈[i],p j:=fun j hj=>by rw [List.mem_singleton.1 hj];exact h
theorem rl_two {p:Nat→Prop} (i j:Nat) (h:p i) (h2:p j):∀ k∈[i,j],p k:=fun k hk=>by
  rcases List.mem_cons.1 hk with rfl | hk
  · exact h
  · rw [List.mem_singleton.1 hk];exact h2
theorem rl_val {a:Act} {w:World} {K:Act→World→Prop} (i:Nat) (o:Oper) (v:Value) (w':World) (dd:Option Tmp) (hi:ops[i]? = some o) (hdd:o.dst=dd) (hw:Region.wanted o (yielded ops a.tmps)=true)
    (hx:(execOp a.eval o).run P w=.ok (.value v) w') (h:K (a.put dd v) w'):wpOp P ops Q i K a w:=by
  subst hdd
  unfold wpOp
  simp only [hi]
  rw [if_pos hw]
  refine .inl ?_
  unfold Oper.wp
  rw [hx];exact h
theorem rl_store {a:Act} {w:World} {K:Act→World→Prop} (i:Nat) (o:Oper) (ty:TypeId) (x y:Operand) (ad:Addr) (v:Value) (hi:ops[i]? = some o) (hdd:o.dst=none) (hw:Region.wanted o (yielded ops a.tmps)=true)
    (ho:o.op=.store ty x y) (hx:a.eval x=.pointer (some ad)) (hy:a.eval y=v) (h1:(P.info? ty).map (·.size)=some 1) (hv:v.oneCell'=true) (hc:(w.cell? ad).isSome=true) (hf:w.frozen? ad=false)
    (h:K a (w.setCell ad v)):wpOp P ops Q i K a w:=by
  unfold wpOp
  simp only [hi]
  rw [if_pos hw]
  refine .inl ?_
  cases hq:P.info? ty with
  | none=>simp [hq] at h1
  | some info =>
    have hz:info.size=1:=by simpa [hq] using h1
    have hcs:v.cells=#[v]:=by cases v <;> simp_all [Value.cells,Value.oneCell']
    have hrun:(execOp a.eval o).run P w=.ok .skip (w.setCell ad v):=by
      obtain ⟨old,ho2⟩:=Option.isSome_iff_exists.1 hc
      have hst:(store ad v).run P w=.ok () (w.setCell ad v):=by rw [run_store P w ad v .plain hv];simp [ho2,hf]
      simp [execOp,ho,hx,hy,Instr.storeAt,Instr.sureAddr,storeVar,sizeOf,typeInfo,hq,hz,hcs,storeCells,hst,Addr.add,Result.andThen]
    unfold Oper.wp
    rw [hrun]
    show K (a.put o.dst undef) _
    rw [hdd];exact h
theorem rl_law {a:Act} {w:World} {K:Act→World→Prop} (i:Nat) (o:Oper) (dd:Option Tmp) (hi:ops[i]? = some o) (hdd:o.dst=dd) (hw:Region.wanted o (yielded ops a.tmps)=true)
    {R:Value→World→Prop} (hx:∀ K:Act→World→Prop,(∀ v w',R v w'→K (a.put o.dst v) w')→o.wp P a w K Q) (h:∀ v w',R v w'→K (a.put dd v) w'):wpOp P ops Q i K a w:=by
  subst hdd
  unfold wpOp
  simp only [hi]
  rw [if_pos hw]
  exact .inl (hx K h)
theorem rl_and {A B C:Prop} (ha:A) (h:A→B→C):A∧(B→C):=⟨ha,h ha⟩
theorem rl_idx (w:World) (ev:Operand→Value) (o:Oper) (t:TypeId) (x ix:Operand) (e:TypeId) (b k n c j m size:Nat) (ho:o.op=.indexAddr t x ix) (hx:ev x=.slice (some ⟨b,k,none⟩) n c) (hi:ev ix=.int .i64 (j:Int))
    (hu:P.underlying t=some (.slice e)) (hz:(P.info? e).map (·.size)=some size) (hj:j<n) (hm:j*size=m):(execOp ev o).run P w=.ok (.value (.pointer (some ⟨b,k+m,none⟩))) w:=by
  subst hm
  obtain ⟨info,hz2,hs⟩:∃ info,P.info? e=some info∧info.size=size:=by
    cases hq:P.info? e with
    | none=>simp [hq] at hz
    | some info=>exact ⟨info,rfl,by simpa [hq] using hz⟩
  subst hs
  have h1:(0:Int)≤(j:Int)∧(j:Int)<(n:Int):=by omega
  simp [execOp,ho,hx,hi,Instr.indexAt,asIntOf,Sem.run_bind,run_underlying hu,sizeOf,typeInfo,hz2,hj,Addr.add,Result.andThen]
  try (split <;> simp_all)
end
section
variable {P : Program} {ops : Array Oper} {Q : Exit → Act → World → Prop} {S : Array Bool → World → Prop}
def RcQ (R:Act→World→Prop) (e:Exit) (a:Act) (w:World):Prop:=match e with | .normal=>R a w | _=>False
theorem rc_norm {P:Program} {C:Code} {Q:Exit→Act→World→Prop} {a:Act} {w:World} (h:∀ J:Act→World→Prop,(∀ a' w',Q .normal a' w'→J a' w')→C.wp P (RcQ J) a w):C.wp P Q a w :=
  Code.wp_mono (fun e a' w' hr=>by cases e <;> first | exact hr | exact absurd hr id) (h (fun a w=>Q .normal a w) (fun _ _ h=>h))
theorem rc_first {P:Program} {C:Code} {K':Act→World→Prop} {Q':Exit→Act→World→Prop} {a:Act} {w:World} (J:Act→World→Prop) (hK:∀ a' w',Met J a' w'→K' a' w') (h:C.wp P (RcQ J) a w):C.wp P (Exit.then K' Q') a w :=
  Code.wp_mono (fun e a' w' hr=>by cases e <;> first | exact hK a' w' hr | exact absurd hr id) h
theorem rc_call {a:Act} {w:World} {K:Act→World→Prop} (i:Nat) (o:Oper) (n:Nat) (fn:Func) (f:Operand) (args:Array Operand) (ts:Array TypeId) (vs:Array Value) (dd:Option Tmp)
    (hi:ops[i]? = some o) (hdd:o.dst=dd) (hw:Region.wanted o (yielded ops a.tmps)=true)
    (ho:o.op=.call { callee:=.value f,args:=args,argTypes:=ts }) (hff:a.eval f=.func (.func n) #[] #[]) (hfn:P.funcs[n]? = some fn) (hn:(fn.name == "runtime.NumGoroutine")=false) (hb:fn.body.isNone=false)
    (hv:args.map a.eval=vs) {Post:Ending→World→Prop} (C:Calls P n vs w Post) (h:∀ r w',Post r w'→∃ v,r=.returned v∧K (a.put dd v) w'):wpOp P ops Q i K a w:=by
  subst hdd
  unfold wpOp
  simp only [hi]
  rw [if_pos hw]
  refine .inl ?_
  unfold Oper.wp
  rw [rg_enter w a.eval o n fn f args ts vs ho hff hfn hn hb hv,Oper.upon_enter]
  exact C.mono (fun r w' hp=>by obtain ⟨v,rfl,hk⟩:=h r w' hp;exact hk)
end
end Go.Proofs.YtijaphbccnadbaaGreatDoor
namespace Go.Proofs.YtijaphbccnadbaaGreatDoor
open Go.RowKit
open Go.RowKit
def B32:Nat:=4294967296
theorem B32_eq:B32=4294967296:=rfl
theorem B32_pos:0<B32:=by decide
def val:List Nat→Nat
  | []=>0
  | x::xs=>x+B32*val xs
def Okl (xs:List Nat):Prop:=∀ x∈xs,x<B32
theorem Okl.nil:Okl []:=by intro x h;cases h
theorem Okl.cons {x:Nat} {xs:List Nat} (h:x<B32) (hs:Okl xs):Okl (x::xs):=by
  intro y hy;rcases List.mem_cons.1 hy with rfl | hy
  · exact h
  · exact hs y hy
theorem Okl.head {x:Nat} {xs:List Nat} (h:Okl (x::xs)):x<B32:=h x (by simp)
theorem Okl.tail {x:Nat} {xs:List Nat} (h:Okl (x::xs)):Okl xs:=fun y hy=>h y (by simp [hy])
theorem Okl.take {xs:List Nat} (h:Okl xs) (n:Nat):Okl (xs.take n):=fun y hy=>h y (List.mem_of_mem_take hy)
theorem Okl.drop {xs:List Nat} (h:Okl xs) (n:Nat):Okl (xs.drop n):=fun y hy=>h y (List.mem_of_mem_drop hy)
theorem Okl.append {xs ys:List Nat} (h:Okl xs) (k:Okl ys):Okl (xs++ys):=by
  intro y hy;rcases List.mem_append.1 hy with hy | hy
  · exact h y hy
  · exact k y hy
theorem Okl.set {xs:List Nat} (h:Okl xs) (i v:Nat) (hv:v<B32):Okl (xs.set i v):=by
  intro y hy;rcases List.mem_or_eq_of_mem_set hy with hy | hy
  · exact h y hy
  · exact hy ▸ hv
theorem Okl.getD {xs:List Nat} (h:Okl xs) (i:Nat):xs.getD i 0<B32:=by
  by_cases hi:i<xs.length
  · simp only [List.getD,List.getElem?_eq_getElem hi,Option.getD_some];exact h _ (List.getElem_mem hi)
  · simp only [List.getD,List.getElem?_eq_none (Nat.le_of_not_lt hi),Option.getD_none];exact B32_pos
theorem Okl.replicate (n:Nat):Okl (List.replicate n 0):=by
  intro y hy;rw [(List.mem_replicate.1 hy).2];exact B32_pos
theorem val_append (xs ys:List Nat):val (xs++ys)=val xs+B32 ^ xs.length*val ys:=by
  induction xs with
  | nil=>simp [val]
  | cons x xs ih=>simp only [List.cons_append,val,ih,List.length_cons,Nat.pow_succ];grind
theorem val_replicate (n:Nat):val (List.replicate n 0)=0:=by
  induction n with
  | zero=>rfl
  | succ n ih=>simp [List.replicate_succ,val,ih]
theorem val_lt {xs:List Nat} (h:Okl xs):val xs<B32 ^ xs.length:=by
  induction xs with
  | nil=>simp [val]
  | cons x xs ih =>
    have h1:=h.head
    have h2:=ih h.tail
    simp only [val,List.length_cons,Nat.pow_succ]
    have:B32*(val xs+1)≤B32*B32 ^ xs.length:=Nat.mul_le_mul_left _ h2
    rw [Nat.mul_comm (B32 ^ xs.length)]
    rw [Nat.mul_add] at this;omega
theorem val_take_drop (xs:List Nat) (n:Nat) (h:n≤xs.length):val xs=val (xs.take n)+B32 ^ n*val (xs.drop n):=by
  conv=>lhs;rw [← List.take_append_drop n xs]
  rw [val_append,List.length_take,Nat.min_eq_left h]
theorem val_take_succ (xs:List Nat) (n:Nat) (h:n<xs.length):val (xs.take (n+1))=val (xs.take n)+B32 ^ n*xs.getD n 0:=by
  rw [List.take_succ_eq_append_getElem h,val_append,List.length_take,Nat.min_eq_left (by omega)]
  simp [val,List.getD,h]
theorem val_set_take (xs:List Nat) (n v:Nat) (h:n<xs.length):val ((xs.set n v).take (n+1))=val (xs.take n)+B32 ^ n*v:=by
  rw [val_take_succ _ _ (by simpa using h),List.take_set_of_le (Nat.le_refl _)]
  simp [List.getD,h]
def limbsF:Nat→Nat→List Nat
  | 0,_=>[]
  | f+1,N=>if N=0 then [] else N % B32::limbsF f (N / B32)
def limbs (N:Nat):List Nat:=limbsF N N
theorem limbsF_eq : ∀ (f g N : Nat), N ≤ f → N ≤ g → limbsF f N = limbsF g N := by
  intro f
  induction f with
  | zero => intro g N h _; obtain rfl : N = 0 := by omega
            cases g <;> simp [limbsF]
  | succ f ih =>
    intro g N h k
    cases g with
    | zero => obtain rfl : N = 0 := by omega
              simp [limbsF]
    | succ g =>
      simp only [limbsF]
      split
      · rfl
      · rename_i hN
        have : N / B32 < N := Nat.div_lt_self (by omega) (by decide)
        rw [ih g (N / B32) (by omega) (by omega)]
theorem limbs_zero:limbs 0=[]:=rfl
theorem limbs_pos {N:Nat} (h:N ≠ 0):limbs N=N % B32::limbs (N / B32):=by
  unfold limbs
  obtain ⟨f,rfl⟩:∃ f,N=f+1:=⟨N - 1,by omega⟩
  conv=>lhs;rw [limbsF,if_neg h]
  have:(f+1) / B32<f+1:=Nat.div_lt_self (by omega) (by decide)
  rw [limbsF_eq f ((f+1) / B32) _ (by omega) (Nat.le_refl _)]
theorem limbs_ind {P:Nat→Prop} (z:P 0) (s:∀ N,N ≠ 0→P (N / B32)→P N):∀ N,P N:=by
  intro N
  induction N using Nat.strongRecOn with
  | _ N ih =>
    by_cases h:N=0
    · subst h;exact z
    · exact s N h (ih _ (Nat.div_lt_self (by omega) (by decide)))
theorem limbs_ok (N:Nat):Okl (limbs N):=by
  refine limbs_ind (P:=fun N=>Okl (limbs N)) ?_ ?_ N
  · exact Okl.nil
  · intro N h ih;rw [limbs_pos h];exact Okl.cons (Nat.mod_lt _ B32_pos) ih
theorem val_limbs (N:Nat):val (limbs N)=N:=by
  refine limbs_ind (P:=fun N=>val (limbs N)=N) rfl ?_ N
  intro N h ih;rw [limbs_pos h,val,ih];exact Nat.mod_add_div N B32
theorem limbs_nil_iff (N:Nat):limbs N=[] ↔ N=0:=by
  constructor
  · intro h;rw [← val_limbs N,h];rfl
  · rintro rfl;rfl
theorem limbs_length_le {n N : Nat} (h : N < B32 ^ n) : (limbs N).length ≤ n := by
  induction n generalizing N with
  | zero => obtain rfl : N = 0 := by simp at h; exact h
            simp [limbs_zero]
  | succ n ih =>
    by_cases h0 : N = 0
    · subst h0; simp [limbs_zero]
    · rw [limbs_pos h0, List.length_cons]
      have : N / B32 < B32 ^ n := by rw [Nat.div_lt_iff_lt_mul B32_pos, ← Nat.pow_succ]; exact h
      have := ih this; omega
theorem limbs_lt_pow (N:Nat):N<B32 ^ (limbs N).length:=by
  have:=val_lt (limbs_ok N);rwa [val_limbs] at this
theorem limbs_val {xs:List Nat} (h:Okl xs) (ht:∀ n,xs.length=n+1→xs.getD n 0 ≠ 0):limbs (val xs)=xs:=by
  induction xs with
  | nil=>rfl
  | cons x xs ih =>
    have hx:limbs (val xs)=xs:=ih h.tail (fun n hn=>by have:=ht (n+1) (by simp [hn]);simpa using this)
    have hne:val (x::xs) ≠ 0:=by
      cases xs with
      | nil=>have:=ht 0 rfl;simp at this;simp [val];omega
      | cons y ys =>
        intro h0
        simp only [val] at h0
        have h1:B32*(y+B32*val ys)=0:=by omega
        have h2:val (y::ys)=0:=by
          simp only [val];rcases Nat.mul_eq_zero.1 h1 with h | h
          · exact absurd h (by decide)
          · exact h
        rw [h2] at hx;cases hx
    rw [limbs_pos hne]
    have hm:val (x::xs) % B32=x:=by simp only [val,Nat.add_mul_mod_self_left];exact Nat.mod_eq_of_lt h.head
    have hd:val (x::xs) / B32=val xs:=by simp only [val];rw [Nat.add_mul_div_left _ _ B32_pos,Nat.div_eq_of_lt h.head,Nat.zero_add]
    rw [hm,hd,hx]
def cutLen (xs:List Nat):Nat→Nat
  | 0=>0
  | n+1=>if xs.getD n 0=0 then cutLen xs n else n+1
theorem cutLen_le (xs:List Nat):∀ n,cutLen xs n≤n
  | 0=>Nat.le_refl _
  | n+1=>by unfold cutLen;split;exact Nat.le_succ_of_le (cutLen_le xs n);exact Nat.le_refl _
theorem val_cut (xs:List Nat):∀ n,n≤xs.length→val (xs.take (cutLen xs n))=val (xs.take n)
  | 0,_=>rfl
  | n+1,h=>by
    unfold cutLen;split
    · rename_i h0;rw [val_cut xs n (by omega),val_take_succ _ _ (by omega),h0];simp
    · rfl
theorem cut_top (xs:List Nat):∀ n m,cutLen xs n=m+1→xs.getD m 0 ≠ 0
  | 0,m,h=>by simp [cutLen] at h
  | n+1,m,h=>by
    unfold cutLen at h;split at h
    · exact cut_top xs n m h
    · rename_i h0;obtain rfl:n=m:=by omega
      exact h0
theorem cut_limbs {xs:List Nat} (h:Okl xs):xs.take (cutLen xs xs.length)=limbs (val xs):=by
  have hl:=cutLen_le xs xs.length
  have e:val (xs.take (cutLen xs xs.length))=val xs:=by rw [val_cut _ _ (Nat.le_refl _),List.take_length]
  rw [← e]
  refine (limbs_val (h.take _) ?_).symm
  intro n hn
  rw [List.length_take,Nat.min_eq_left hl] at hn
  have:=cut_top xs _ n hn
  simpa [List.getD,List.getElem?_take,hn] using this
theorem cutLen_eq {xs:List Nat} (h:Okl xs):cutLen xs xs.length=(limbs (val xs)).length:=by
  rw [← cut_limbs h,List.length_take,Nat.min_eq_left (cutLen_le _ _)]
theorem limbs_cutLen (N:Nat):cutLen (limbs N) (limbs N).length=(limbs N).length:=by
  rw [cutLen_eq (limbs_ok N),val_limbs]
def lv (n:Nat):Value:=.int .u32 (n:Int)
def Rd (w:World) (ad:Option Addr) (xs:List Nat):Prop :=
  ∀ i,i<xs.length→∃ b o,ad=some ⟨b,o,none⟩∧b<w.heap.size∧w.cell? ⟨b,o+i,none⟩=some (.int .u32 ((xs.getD i 0:Nat):Int))
theorem Rd.at {w:World} {b o:Nat} {xs:List Nat} (h:Rd w (some ⟨b,o,none⟩) xs) (i:Nat) (hi:i<xs.length) :
    w.cell? ⟨b,o+i,none⟩=some (.int .u32 ((xs.getD i 0:Nat):Int)):=by
  obtain ⟨b',o',e,_,hc⟩:=h i hi
  cases e;exact hc
theorem Rd.lt {w:World} {ad:Option Addr} {xs:List Nat} (h:Rd w ad xs) (a:Addr) (e:ad=some a) (hx:0<xs.length):a.block<w.heap.size:=by
  obtain ⟨b,o,e',hb,_⟩:=h 0 hx
  rw [e] at e';cases e';exact hb
theorem Rd.apart {w:World} {ad:Option Addr} {xs:List Nat} (h:Rd w ad xs) {g:Nat} (hg:w.heap.size≤g) (a:Addr) (e:ad=some a) (hx:0<xs.length):a.block ≠ g:=by
  have:=h.lt a e hx;omega
theorem Rd.nil (w:World) (ad:Option Addr):Rd w ad []:=by intro i h;simp at h
theorem Rd.take {w:World} {ad:Option Addr} {xs:List Nat} (h:Rd w ad xs) (n:Nat):Rd w ad (xs.take n):=by
  intro i hi
  rw [List.length_take] at hi
  obtain ⟨b,o,e,hb,hc⟩:=h i (by omega)
  exact ⟨b,o,e,hb,by rw [hc];simp [List.getD,show i<n by omega]⟩
theorem Rd.below {w w':World} {ad:Option Addr} {xs:List Nat} (h:Rd w ad xs) (hb:Below w.heap.size w w'):Rd w' ad xs:=by
  intro i hi
  obtain ⟨b,o,e,hlt,hc⟩:=h i hi
  exact ⟨b,o,e,Nat.lt_of_lt_of_le hlt hb.size,by rw [hb.cell (p:=⟨b,o+i,none⟩) hlt];exact hc⟩
def Blk (w:World) (g:Nat) (ys:List Nat) (r:List Value):Prop:=w.heap[g]? = some (.cells (ys.map lv++r).toArray 130 (0,0))
def put (g:Nat) (ys:List Nat) (r:List Value) (w:World):World:={ w with heap:=w.heap.setIfInBounds g (.cells (ys.map lv++r).toArray 130 (0,0)) }
theorem Blk.lt {w:World} {g:Nat} {ys:List Nat} {r:List Value} (h:Blk w g ys r):g<w.heap.size:=by
  rcases Nat.lt_or_ge g w.heap.size with h1 | h1
  · exact h1
  · rw [Blk,Array.getElem?_eq_none h1] at h;cases h
theorem Blk.cell {w:World} {g:Nat} {ys:List Nat} {r:List Value} (h:Blk w g ys r) (i:Nat) (hi:i<ys.length) :
    w.cell? ⟨g,i,none⟩=some (.int .u32 ((ys.getD i 0:Nat):Int)):=by
  unfold Blk at h
  have e:(List.map lv ys++r)[i]? = some (lv (ys.getD i 0)):=by
    rw [List.getElem?_append_left (by simpa using hi)]
    simp [List.getD,hi]
  simp only [World.cell?,h]
  simpa [lv] using e
theorem Blk.free {w:World} {g:Nat} {ys:List Nat} {r:List Value} (h:Blk w g ys r) (i:Nat):w.frozen? ⟨g,i,none⟩=false:=by
  unfold Blk at h
  simp [World.frozen?,h]
theorem Blk.rd {w:World} {g:Nat} {ys:List Nat} {r:List Value} (h:Blk w g ys r) (o n:Nat) (hn:o+n≤ys.length):Rd w (some ⟨g,o,none⟩) ((ys.drop o).take n):=by
  intro i hi
  rw [List.length_take,List.length_drop] at hi
  refine ⟨g,o,rfl,h.lt,?_⟩
  rw [h.cell (o+i) (by omega)]
  simp [List.getD,show i<n by omega]
theorem Blk.rd_all {w:World} {g:Nat} {ys:List Nat} {r:List Value} (h:Blk w g ys r):Rd w (some ⟨g,0,none⟩) ys:=by
  have:=h.rd 0 ys.length (by omega)
  simpa using this
theorem put_heap (g:Nat) (ys:List Nat) (r:List Value) (w:World):(put g ys r w).heap.size=w.heap.size:=by simp [put]
theorem put_blk {w:World} {g:Nat} (ys:List Nat) (r:List Value) (h:g<w.heap.size):Blk (put g ys r w) g ys r:=by
  simp [Blk,put,h]
theorem put_put (g:Nat) (ys zs:List Nat) (r r':List Value) (w:World):put g ys r (put g zs r' w)=put g ys r w:=by
  simp [put]
theorem put_other (g:Nat) (ys:List Nat) (r:List Value) (w:World) (k:Nat) (h:k ≠ g):(put g ys r w).heap[k]? = w.heap[k]?:=by
  simp only [put];rw [Array.getElem?_setIfInBounds_ne (by omega)]
theorem put_cell (g:Nat) (ys:List Nat) (r:List Value) (w:World) (a:Addr) (h:a.block ≠ g):(put g ys r w).cell? a=w.cell? a :=
  World.cell?_of_block (put_other g ys r w _ h)
theorem put_same {w:World} {g:Nat} {ys:List Nat} {r:List Value} (h:Blk w g ys r):put g ys r w=w:=by
  have hlt:=h.lt
  unfold Blk at h
  have e:w.heap.setIfInBounds g (.cells (ys.map lv++r).toArray 130 (0,0))=w.heap:=by
    apply Array.ext_getElem?
    intro k
    by_cases hk:k=g
    · subst hk;rw [Array.getElem?_setIfInBounds_self_of_lt hlt,h]
    · rw [Array.getElem?_setIfInBounds_ne (by omega)]
  simp only [put];rw [e]
theorem set_blk {w:World} {g:Nat} {ys:List Nat} {r:List Value} (h:Blk w g ys r) (i v:Nat) (hi:i<ys.length):w.setCell ⟨g,i,none⟩ (.int .u32 (v:Int))=put g (ys.set i v) r w:=by
  have hlt:=h.lt
  unfold Blk at h
  have e:(w.setCell ⟨g,i,none⟩ (.int .u32 (v:Int))).heap=w.heap.setIfInBounds g (.cells ((ys.set i v).map lv++r).toArray 130 (0,0)):=by
    apply Array.ext_getElem?
    intro k
    simp only [World.setCell,Array.getElem?_modify]
    by_cases hk:g=k
    · subst hk;rw [Array.getElem?_setIfInBounds_self_of_lt hlt,h];simp [lv,hi]
    · rw [if_neg hk,Array.getElem?_setIfInBounds_ne hk]
  unfold put;rw [← e];rfl
theorem put_below {B:Nat} {a w:World} (h:Below B a w) {g:Nat} (hg:B≤g) (ys:List Nat) (r:List Value):Below B a (put g ys r w) :=
  h.trans ⟨rfl,rfl,rfl,by rw [put_heap];exact Nat.le_refl _,fun k hk=>put_other g ys r w k (by omega)⟩
theorem Rd.put {w:World} {ad:Option Addr} {xs:List Nat} (h:Rd w ad xs) {g:Nat} (hne:∀ a,ad=some a→0<xs.length→a.block ≠ g) (ys:List Nat) (r:List Value):Rd (put g ys r w) ad xs:=by
  intro i hi
  obtain ⟨b,o,e,hb,hc⟩:=h i hi
  exact ⟨b,o,e,by rw [put_heap];exact hb,by rw [put_cell g ys r w ⟨b,o+i,none⟩ (hne ⟨b,o,none⟩ e (by omega))];exact hc⟩
theorem Rd.drewN {w:World} {ad:Option Addr} {xs:List Nat} (h:Rd w ad xs) (q:Nat):Rd (w.drewN q) ad xs:=h
theorem Blk.drewN {w:World} {g:Nat} {ys:List Nat} {r:List Value} (h:Blk w g ys r) (q:Nat):Blk (w.drewN q) g ys r:=h
theorem Blk.below {w w':World} {g:Nat} {ys:List Nat} {r:List Value} (h:Blk w g ys r) {B:Nat} (hb:Below B w w') (hg:g<B):Blk w' g ys r:=by
  unfold Blk;rw [hb.block g hg];exact h
def Own (B:Nat) (w:World) (v:Value) (xs:List Nat):Prop :=
  Okl xs∧((v=.slice none 0 0∧xs=[])∨∃ g cap r,v=.slice (some ⟨g,0,none⟩) xs.length cap∧B≤g∧Blk w g xs r∧cap=xs.length+r.length∧cap≤maxLen)
theorem Own.nil (B:Nat) (w:World):Own B w (.slice none 0 0) []:=⟨Okl.nil,.inl ⟨rfl,rfl⟩⟩
theorem Own.view {B:Nat} {w:World} {v:Value} {xs:List Nat} (h:Own B w v xs) :
    ∃ ad cap,v=.slice ad xs.length cap∧xs.length≤cap∧Rd w ad xs∧∀ a,ad=some a→B≤a.block∧a.block<w.heap.size:=by
  obtain ⟨_,⟨rfl,rfl⟩ | ⟨g,cap,r,rfl,hg,hb,hc,_⟩⟩:=h
  · exact ⟨none,0,rfl,Nat.le_refl _,Rd.nil _ _,fun a h=>by cases h⟩
  · exact ⟨_,cap,rfl,by omega,hb.rd_all,fun a h=>by cases h;exact ⟨hg,hb.lt⟩⟩
theorem Own.mono {B B':Nat} {w:World} {v:Value} {xs:List Nat} (h:Own B w v xs) (hB:B'≤B):Own B' w v xs:=by
  obtain ⟨ho,h | ⟨g,cap,r,e,hg,hb,hc⟩⟩:=h
  · exact ⟨ho,.inl h⟩
  · exact ⟨ho,.inr ⟨g,cap,r,e,by omega,hb,hc⟩⟩
theorem Own.below {B:Nat} {w w':World} {v:Value} {xs:List Nat} (h:Own B w v xs) (hb:Below w.heap.size w w'):Own B w' v xs:=by
  obtain ⟨ho,h | ⟨g,cap,r,e,hg,hk,hc⟩⟩:=h
  · exact ⟨ho,.inl h⟩
  · exact ⟨ho,.inr ⟨g,cap,r,e,hg,hk.below hb hk.lt,hc⟩⟩
theorem Own.drewN {B:Nat} {w:World} {v:Value} {xs:List Nat} (h:Own B w v xs) (q:Nat):Own B (w.drewN q) v xs:=h
theorem Blk.own {w:World} {g B:Nat} {ys:List Nat} {r:List Value} (h:Blk w g ys r) (hg:B≤g) (ho:Okl ys) (n cap:Nat) (hn:n≤ys.length) (hc:cap=ys.length+r.length) (hm:cap≤maxLen) :
    Own B w (.slice (some ⟨g,0,none⟩) n cap) (ys.take n):=by
  refine ⟨ho.take n,.inr ⟨g,cap,(ys.drop n).map lv++r,?_,hg,?_,?_,hm⟩⟩
  · rw [List.length_take,Nat.min_eq_left hn]
  · unfold Blk at h ⊢;rw [h,← List.append_assoc,← List.map_append,List.take_append_drop]
  · simp;omega
end Go.Proofs.YtijaphbccnadbaaGreatDoor
