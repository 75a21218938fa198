/- Texts of the claim. -/
import Derived.Test.YtijaphbccnadbaaGreatDoorShelf
import Derived.Shelf.Strings.BuilderK
import Derived.Test.YtijaphbccnadbaaGreatDoorTt
import Derived.Deep.CutRange
import Derived.Deep.DeepCutAuto
import Derived.Test.YtijaphbccnadbaaGreatDoorTo
import Derived.Shelf.Strings.SlTrimAscii
import Derived.RegionTactic
import Derived.Deep.RegionHeld3
import Derived.StillTailTactics
import Derived.Test.YtijaphbccnadbaaGreatDoorTj
set_option linter.unusedVariables false
set_option linter.unusedSimpArgs false
set_option maxHeartbeats 2000000
set_option maxRecDepth 100000
namespace Go.Proofs.YtijaphbccnadbaaGreatDoor
open Go.Shelf Go.RowKit
def lays166_ren:Go.Shelf.Ren:=⟨fun | 166=>95 | 240=>141 | 276=>177 | n=>n,fun | 0=>0 | 3=>3 | 4=>4 | 5=>5 | 9=>9 | 20=>20 | 37=>60 | 70=>59 | 72=>62 | 75=>120 | 80=>65 | 164=>182 | n=>n,fun | n=>n⟩
theorem lays166:Go.Proofs.Lays.n166 Tryz.prog lays166_ren:={
  mixed:=by kernel_rfl
  f166:=Tryz.func95.trans (congrArg some (by kernel_rfl))
  f240:=Tryz.func141.trans (congrArg some (by kernel_rfl))
  f276:=Tryz.func177.trans (congrArg some (by kernel_rfl))
  t0:=Tryz.underlying0
  a0:=Tryz.isAgg0
  z0:=Tryz.sizeOf0
  v0:=Tryz.zeroValue0
  t3:=Tryz.underlying3
  a3:=Tryz.isAgg3
  z3:=Tryz.sizeOf3
  v3:=Tryz.zeroValue3
  t4:=Tryz.underlying4
  a4:=Tryz.isAgg4
  z4:=Tryz.sizeOf4
  v4:=Tryz.zeroValue4
  t9:=Tryz.underlying9
  a9:=Tryz.isAgg9
  z9:=Tryz.sizeOf9
  v9:=Tryz.zeroValue9
  t20:=Tryz.underlying20
  a20:=Tryz.isAgg20
  z20:=Tryz.sizeOf20
  v20:=Tryz.zeroValue20
  t37:=Tryz.underlying60
  a37:=Tryz.isAgg60
  z37:=Tryz.sizeOf60
  v37:=Tryz.zeroValue60
  t70:=Tryz.underlying59
  a70:=Tryz.isAgg59
  z70:=Tryz.sizeOf59
  v70:=Tryz.zeroValue59
  t72:=Tryz.underlying62
  a72:=Tryz.isAgg62
  z72:=Tryz.sizeOf62
  v72:=Tryz.zeroValue62
  t75:=Tryz.underlying120
  a75:=Tryz.isAgg120
  z75:=Tryz.sizeOf120
  v75:=Tryz.zeroValue120
  t164:=Tryz.underlying182
  a164:=Tryz.isAgg182
  z164:=Tryz.sizeOf182
  v164:=Tryz.zeroValue182 }
theorem extra166:Builder.Extra Tryz.prog lays166_ren:={
  sizeBuilder:=by kernel_rfl
  liesBuilder:=by kernel_rfl
  t5:=Tryz.underlying5
  a5:=Tryz.isAgg5
  z5:=Tryz.sizeOf5
  v5:=Tryz.zeroValue5
  infoByte:=by kernel_rfl
  cellsByte:=by kernel_rfl
  sizeByte:=by kernel_rfl
  neB5:=by decide }
def lays167_ren:Go.Shelf.Ren:=⟨fun | 167=>101 | 240=>141 | 276=>177 | n=>n,fun | 0=>0 | 3=>3 | 4=>4 | 5=>5 | 9=>9 | 20=>20 | 37=>60 | 70=>59 | 72=>62 | 75=>120 | 80=>65 | 164=>182 | n=>n,fun | n=>n⟩
theorem lays167:Go.Proofs.Lays.n167 Tryz.prog lays167_ren:={
  mixed:=by kernel_rfl
  f167:=Tryz.func101.trans (congrArg some (by kernel_rfl))
  f240:=Tryz.func141.trans (congrArg some (by kernel_rfl))
  f276:=Tryz.func177.trans (congrArg some (by kernel_rfl))
  t0:=Tryz.underlying0
  a0:=Tryz.isAgg0
  z0:=Tryz.sizeOf0
  v0:=Tryz.zeroValue0
  t4:=Tryz.underlying4
  a4:=Tryz.isAgg4
  z4:=Tryz.sizeOf4
  v4:=Tryz.zeroValue4
  t5:=Tryz.underlying5
  a5:=Tryz.isAgg5
  z5:=Tryz.sizeOf5
  v5:=Tryz.zeroValue5
  t9:=Tryz.underlying9
  a9:=Tryz.isAgg9
  z9:=Tryz.sizeOf9
  v9:=Tryz.zeroValue9
  t20:=Tryz.underlying20
  a20:=Tryz.isAgg20
  z20:=Tryz.sizeOf20
  v20:=Tryz.zeroValue20
  t37:=Tryz.underlying60
  a37:=Tryz.isAgg60
  z37:=Tryz.sizeOf60
  v37:=Tryz.zeroValue60
  t70:=Tryz.underlying59
  a70:=Tryz.isAgg59
  z70:=Tryz.sizeOf59
  v70:=Tryz.zeroValue59
  t72:=Tryz.underlying62
  a72:=Tryz.isAgg62
  z72:=Tryz.sizeOf62
  v72:=Tryz.zeroValue62
  t75:=Tryz.underlying120
  a75:=Tryz.isAgg120
  z75:=Tryz.sizeOf120
  v75:=Tryz.zeroValue120
  t164:=Tryz.underlying182
  a164:=Tryz.isAgg182
  z164:=Tryz.sizeOf182
  v164:=Tryz.zeroValue182 }
theorem extra167:Builder.Extra Tryz.prog lays167_ren:={
  sizeBuilder:=by kernel_rfl
  liesBuilder:=by kernel_rfl
  t5:=Tryz.underlying5
  a5:=Tryz.isAgg5
  z5:=Tryz.sizeOf5
  v5:=Tryz.zeroValue5
  infoByte:=by kernel_rfl
  cellsByte:=by kernel_rfl
  sizeByte:=by kernel_rfl
  neB5:=by decide }
theorem writeByte_k (B b:Nat) (bs:List Value) (c:Int) (w:World) (h:Lib.IsBuilderF 62 5 B b bs w) (hlen:bs.length+1≤140737488355328) (hBw:B≤w.heap.size) :
    Calls Tryz.prog 101 #[.pointer (some ⟨b,0,none⟩),.int .u8 c] w fun e w'=>e=.returned .nilIface∧(Lib.BuilderAtF 62 5 B b (.pointer (some ⟨b,0,none⟩)) (bs++[.int .u8 c]) w'∧Below B w w'∧Lib.OthersKept 5 (some b) w w') :=
  Any.Builder_WriteByte_k lays167 extra167 B b bs c w h hlen hBw
theorem writeString_k (B b:Nat) (bs:List Value) (s:ByteArray) (w:World) (h:Lib.IsBuilderF 62 5 B b bs w) (hlen:bs.length+s.size≤140737488355328) (hBw:B≤w.heap.size) :
    Calls Tryz.prog 95 #[.pointer (some ⟨b,0,none⟩),.string s] w fun e w'=>e=.returned (.tuple #[.int .i64 s.size,.nilIface])∧(Lib.BuilderAtF 62 5 B b (.pointer (some ⟨b,0,none⟩)) (bs++Lib.strCells s) w'∧Below B w w'∧Lib.OthersKept 5 (some b) w w') :=
  Any.Builder_WriteString_k lays166 extra166 B b bs s w h hlen hBw
end Go.Proofs.YtijaphbccnadbaaGreatDoor
namespace Go.Proofs.YtijaphbccnadbaaGreatDoor
section
variable {P : Program} {ops : Array Oper} {Q : Exit → Act → World → Prop} {S : Array Bool → World → Prop}
def RcQ (R:Act→World→Prop) (e:Exit) (a:Act) (w:World):Prop:=match e with | .normal=>R a w | _=>False
theorem rc_norm {P:Program} {C:Code} {Q:Exit→Act→World→Prop} {a:Act} {w:World} (h:∀ J:Act→World→Prop,(∀ a' w',Q .normal a' w'→J a' w')→C.wp P (RcQ J) a w):C.wp P Q a w :=
  Code.wp_mono (fun e a' w' hr=>by cases e <;> first | exact hr | exact absurd hr id) (h (fun a w=>Q .normal a w) (fun _ _ h=>h))
theorem rc_first {P:Program} {C:Code} {K':Act→World→Prop} {Q':Exit→Act→World→Prop} {a:Act} {w:World} (J:Act→World→Prop) (hK:∀ a' w',Met J a' w'→K' a' w') (h:C.wp P (RcQ J) a w):C.wp P (Exit.then K' Q') a w :=
  Code.wp_mono (fun e a' w' hr=>by cases e <;> first | exact hK a' w' hr | exact absurd hr id) h
theorem rc_call {a:Act} {w:World} {K:Act→World→Prop} (i:Nat) (o:Oper) (n:Nat) (fn:Func) (f:Operand) (args:Array Operand) (ts:Array TypeId) (vs:Array Value) (dd:Option Tmp)
    (hi:ops[i]? = some o) (hdd:o.dst=dd) (hw:Region.wanted o (yielded ops a.tmps)=true)
    (ho:o.op=.call { callee:=.value f,args:=args,argTypes:=ts }) (hff:a.eval f=.func (.func n) #[] #[]) (hfn:P.funcs[n]? = some fn) (hn:(fn.name == "runtime.NumGoroutine")=false) (hb:fn.body.isNone=false)
    (hv:args.map a.eval=vs) {Post:Ending→World→Prop} (C:Calls P n vs w Post) (h:∀ r w',Post r w'→∃ v,r=.returned v∧K (a.put dd v) w'):wpOp P ops Q i K a w:=by
  subst hdd
  unfold wpOp
  simp only [hi]
  rw [if_pos hw]
  refine .inl ?_
  unfold Oper.wp
  rw [rg_enter w a.eval o n fn f args ts vs ho hff hfn hn hb hv,Oper.upon_enter]
  exact C.mono (fun r w' hp=>by obtain ⟨v,rfl,hk⟩:=h r w' hp;exact hk)
end
end Go.Proofs.YtijaphbccnadbaaGreatDoor
namespace Go.Proofs.YtijaphbccnadbaaGreatDoor
open Go.RowKit Go.Shelf
def RpQ (R:Act→World→Prop) (T:List PanicEntry→World→Prop) (e:Exit) (a:Act) (w:World):Prop:=match e with | .normal=>R a w | .panic c=>a.defers=[]∧T c w | _=>False
theorem rp_norm {P:Program} {C:Code} {Q:Exit→Act→World→Prop} {a:Act} {w:World} (h:∀ (J:Act→World→Prop) (T:List PanicEntry→World→Prop),(∀ a' w',Q .normal a' w'→J a' w')→(∀ c w',(∀ a',a'.defers=[]→Q (.panic c) a' w')→T c w')→C.wp P (RpQ J T) a w):C.wp P Q a w :=
  Code.wp_mono (fun e a' w' hr=>by cases e <;> first | exact hr | exact hr.2 a' hr.1 | exact absurd hr id) (h (fun a w=>Q .normal a w) (fun c w=>∀ a',a'.defers=[]→Q (.panic c) a' w) (fun _ _ h=>h) (fun _ _ h=>h))
section
variable {P : Program} {ops : Array Oper} {Q : Exit → Act → World → Prop} {S : Array Bool → World → Prop}
theorem rp_call {a:Act} {w:World} {K:Act→World→Prop} (i:Nat) (o:Oper) (n:Nat) (fn:Func) (f:Operand) (args:Array Operand) (ts:Array TypeId) (vs:Array Value) (dd:Option Tmp)
    (hi:ops[i]? = some o) (hdd:o.dst=dd) (hw:Region.wanted o (yielded ops a.tmps)=true)
    (ho:o.op=.call { callee:=.value f,args:=args,argTypes:=ts }) (hff:a.eval f=.func (.func n) #[] #[]) (hfn:P.funcs[n]? = some fn) (hn:(fn.name == "runtime.NumGoroutine")=false) (hb:fn.body.isNone=false)
    (hv:args.map a.eval=vs) {Post:Ending→World→Prop} (C:Calls P n vs w Post) (h:∀ r w',Post r w'→(∃ v,r=.returned v∧K (a.put dd v) w')∨(∃ c,r=.panicked c∧Q (.panic c) a w')):wpOp P ops Q i K a w:=by
  subst hdd
  unfold wpOp
  simp only [hi]
  rw [if_pos hw]
  refine .inl ?_
  unfold Oper.wp
  rw [rg_enter w a.eval o n fn f args ts vs ho hff hfn hn hb hv,Oper.upon_enter]
  exact C.mono (fun r w' hp=>by
    rcases h r w' hp with ⟨v,rfl,hk⟩ | ⟨c,rfl,hq⟩
    · exact hk
    · exact hq)
theorem rp_storeM {a:Act} {w:World} {K:Act→World→Prop} (i:Nat) (o:Oper) (ty:TypeId) (x y:Operand) (b k:Nat) (cs:Array Value) (hi:ops[i]? = some o) (hdd:o.dst=none) (hw:Region.wanted o (yielded ops a.tmps)=true)
    (ho:o.op=.store ty x y) (hx:a.eval x=.pointer (some ⟨b,k,none⟩)) (hy:a.eval y=.agg cs) (h1:(P.info? ty).map (·.size)=some cs.size) (hone:∀ v∈cs,v.oneCell'=true)
    (hb:∀ j,j<cs.size→(w.cell? ⟨b,k+j,none⟩).isSome=true∧w.frozen? ⟨b,k+j,none⟩=false)
    (h:K a (w.setCells b k cs.toList)):wpOp P ops Q i K a w:=by
  unfold wpOp
  simp only [hi]
  rw [if_pos hw]
  refine .inl ?_
  refine wp_store_mid ty x y ho b k cs hx hy ?_ h1 ?_ ?_
  · intro j hj
    exact hb j hj
  · rw [Array.all_eq_true]
    intro j hj
    exact hone _ (Array.getElem_mem hj)
  · rw [hdd]
    exact h
end
end Go.Proofs.YtijaphbccnadbaaGreatDoor
namespace Go.Proofs.YtijaphbccnadbaaGreatDoor
open Go.Shelf Go.RowKit
theorem infoBuilder:∃ j,Tryz.prog.info? 62=some j∧j.size=2:=by
  obtain ⟨j,hj,hjs⟩:=Option.map_eq_some_iff.1 (show (Tryz.prog.info? 62).map (·.size)=some 2 by kernel_rfl)
  exact ⟨j,hj,hjs⟩
theorem lays240:Go.Proofs.Lays.n240 Tryz.prog lays166_ren:={ lays166 with }
/-- copyCheck at a fresh builder that lies in a writer: it stores its own address. -/
theorem ccW_fresh (b:Nat) (w:World) (h0:w.cell? ⟨b,0,none⟩=some (.pointer none)) (hsh:w.shape? b=some (64,2)) (hfz:w.frozen? ⟨b,0,none⟩=false) :
    Calls Tryz.prog 141 #[.pointer (some ⟨b,0,none⟩)] w fun e w'=>e=.returned (.tuple #[])∧w'=w.setCell ⟨b,0,none⟩ (.pointer (some ⟨b,0,none⟩)):=by
  obtain ⟨j,hj,hjs⟩:=infoBuilder
  go_enter Tryz.func141,Tryz.ntmps141
  go_wp2
  rw [Lib.run_to_unsafe w ⟨b,0,none⟩ Tryz.underlying59 Tryz.underlying182 hj (by rw [hjs];decide) hsh (Nat.zero_lt_succ 1)]
  simp only [Result.andThen]
  rw [Oper.upon_value]
  go_wp2
  rw [run_callFunc_extern Tryz.func177 (by kernel_rfl) (by kernel_rfl) (by kernel_rfl) (e:=Extern.AbiNoEscape.same) (by kernel_rfl)]
  rw [Lib.run_noEscape]
  simp only [Result.andThen]
  rw [Oper.upon_value]
  go_wp2
  rw [Lib.run_from_unsafe w ⟨b,0,none⟩ Tryz.underlying182 Tryz.underlying59 hj hsh (by kernel_rfl)]
  simp only [Result.andThen]
  rw [Oper.upon_value]
  go_wp2
  go_end0
  exact ⟨rfl,rfl⟩
def WrJ (B b:Nat) (l:List UInt8) (w:World):Prop:=Lib.IsBuilderF 64 5 B b (Lib.byteCells l) w
abbrev KepW (b:Nat) (w w':World):Prop:=Lib.OthersKept 5 (some b) w w'
theorem copyW (B b:Nat) (bs:List Value) (w:World) (h:Lib.IsBuilderF 64 5 B b bs w) :
    Calls Tryz.prog 141 #[.pointer (some ⟨b,0,none⟩)] w fun e w'=>e=.returned (.tuple #[])∧Lib.BuilderAtF 64 5 B b (.pointer (some ⟨b,0,none⟩)) bs w'∧Below B w w'∧KepW b w w':=by
  rcases h with h | h
  · refine (ccW_fresh b w h.cell0 h.shape h.frozen0).mono ?_
    rintro e w' ⟨rfl,rfl⟩
    exact ⟨rfl,h.used _,(Below.refl B w).setCell (p:=⟨b,0,none⟩) h.1 _,(Lib.OthersKept.refl _ _ w).setCell ⟨b,0,none⟩ rfl _⟩
  · refine (Any.Builder_copyCheck_used lays240 extra166.toX72 b w h.cell0).mono ?_
    rintro e w' ⟨rfl,rfl⟩
    exact ⟨rfl,h,Below.refl _ _,Lib.OthersKept.refl _ _ _⟩
theorem lenW (B b:Nat) (bs:List Value) (w:World) (h:Lib.IsBuilderF 64 5 B b bs w) :
    Calls Tryz.prog 94 #[.pointer (some ⟨b,0,none⟩)] w fun e w'=>e=.returned (.int .i64 bs.length)∧w'=w:=by
  obtain ⟨p,hB,v,hbk,hown,hne⟩:∃ p,Lib.BuilderAtF 64 5 B b p bs w:=by
    rcases h with h | h
    iterate 2
      · exact ⟨_,h⟩
  obtain ⟨ao,cap,rfl⟩:∃ ao cap,v=.slice ao bs.length cap:=by
    rcases hown.2 with ⟨hv,h0⟩ | ⟨g,cap,cur,fz,hv,_⟩
    · exact ⟨none,0,by rw [hv,h0]⟩
    · exact ⟨_,_,hv⟩
  have c1:w.cell? ⟨b,1,none⟩=some (.slice ao bs.length cap):=by rw [Lib.cell_of_heap hbk];rfl
  clear hown hbk hne
  go_enter Tryz.func94,Tryz.ntmps94
  go_wp2
  go_ret
  exact ⟨rfl,rfl⟩
theorem writeStringW (B b:Nat) (bs:List Value) (s:ByteArray) (w:World) (h:Lib.IsBuilderF 64 5 B b bs w) (hlen:bs.length+s.size≤140737488355328) (hBw:B≤w.heap.size) :
    Calls Tryz.prog 95 #[.pointer (some ⟨b,0,none⟩),.string s] w fun e w'=>e=.returned (.tuple #[.int .i64 s.size,.nilIface])∧Lib.BuilderAtF 64 5 B b (.pointer (some ⟨b,0,none⟩)) (bs++Lib.strCells s) w'∧Below B w w'∧KepW b w w':=by
  obtain ⟨i0,hi,hz0,hz1,hz2⟩:=info_parts extra166.infoByte
  have KC:=Lib.hid (copyW B b bs w h)
  clear h
  go_enter Tryz.func95,Tryz.ntmps95
  go_wp2_with fail
  refine KC.out.mono ?_
  rintro e w1 ⟨rfl,h1,hb1,hk1⟩
  obtain ⟨hB,v,hbk,hown,hne⟩:=h1
  have c0:w1.cell? ⟨b,0,none⟩=some (.pointer (some ⟨b,0,none⟩)):=by rw [Lib.cell_of_heap hbk];rfl
  have c1:w1.cell? ⟨b,1,none⟩=some v:=by rw [Lib.cell_of_heap hbk];rfl
  go_wp2_with (at_builtin;refine Lib.wpList_append_own_stringF _ rfl _ _ 60 9 rfl B 5 i0 Tryz.underlying60 Tryz.underlying9 hi hz0 hz1 hz2 _ _ _ rfl hown s rfl ?c3 ?c4 ?c5 ?_)
  case c3=>unfold maxLen;omega
  case c4=>omega
  case c5=>have:=hb1.size;omega
  intro v' w2 hown' hgrow _
  have hlt:b<w1.heap.size:=(Array.getElem?_eq_some_iff.1 hbk).1
  have hb2:w2.heap[b]? = some (.cells #[.pointer (some ⟨b,0,none⟩),v] 64 (0,0)):=by
    rw [hgrow.block b hlt (fun e=>hne e.symm)]
    exact hbk
  have d0:w2.cell? ⟨b,0,none⟩=some (.pointer (some ⟨b,0,none⟩)):=by rw [Lib.cell_of_heap hb2];rfl
  have d1:w2.cell? ⟨b,1,none⟩=some v:=by rw [Lib.cell_of_heap hb2];rfl
  have f1:w2.frozen? ⟨b,1,none⟩=false:=Lib.frozen_of_heap hb2 1
  obtain ⟨ao,n',cap,rfl⟩:∃ ao n' cap,v'=.slice ao n' cap:=by
    rcases hown'.2 with ⟨hv,_⟩ | ⟨g,cap,cur,fz,hv,_⟩
    iterate 2
      · exact ⟨_,_,_,hv⟩
  have HP:=Lib.hid (Lib.BuilderAtF.put (T:=64) (e:=5) hB hb2 (bs':=bs++Lib.strCells s) (by simpa [Lib.strCells_length] using hown') (by decide))
  have HBB:=Lib.hid ((hb1.grown hgrow (by have:=hb1.size;omega) (fun k hk=>(hown.lt k hk).1)).setCell (p:=⟨b,1,none⟩) hB (.slice ao n' cap))
  have HKK:=Lib.hid ((hk1.grown hgrow (Lib.ownsRowF_kind hown)).setCell ⟨b,1,none⟩ rfl (.slice ao n' cap))
  clear hown hown' hgrow hbk hb2 hb1 hk1 KC
  go_wp2
  go_ret2
  exact ⟨rfl,HP.out,HBB.out,HKK.out⟩
theorem cell_freeze (w:World) {g b j:Nat} (n:Nat) (h:b ≠ g):(w.freeze ⟨g,0,none⟩ n).cell? ⟨b,j,none⟩=w.cell? ⟨b,j,none⟩:=by
  apply World.cell?_of_block (a:=⟨b,j,none⟩)
  unfold World.freeze
  split
  · rfl
  · simp [Array.getElem?_modify,h.symm]
theorem ex_usd {P:Program} (w:World) (ev:Operand→Value) (o:Oper) (x:Operand) (ts:Array TypeId) (a:Addr) (n c:Nat) (ho:o.op=.call { callee:=.builtin .unsafeSliceData,args:=#[x],argTypes:=ts }) (hx:ev x=.slice (some a) n c) (hc:c ≠ 0) :
    (execOp ev o).run P w=.ok (.value (.pointer (some a))) w:=by
  have:=Lib.run_unsafeSliceData_row (P:=P) (w:=w) ts o.type a n c hc
  unfold execOp
  simp only [ho,resolve,invoke,builtin,Sem.run_bind,Sem.run_pure,Result.andThen_ok,List.map_toArray,List.map_cons,List.map_nil,hx,this]
theorem ex_us {P:Program} (w w':World) (ev:Operand→Value) (o:Oper) (x y:Operand) (ts:Array TypeId) (vx vy v:Value) (ho:o.op=.call { callee:=.builtin .unsafeString,args:=#[x,y],argTypes:=ts }) (hx:ev x=vx) (hy:ev y=vy) (hr:(Builtin.unsafeString_ ts o.type #[vx,vy]).run P w=.ok v w') :
    (execOp ev o).run P w=.ok (.value v) w':=by
  unfold execOp
  simp only [ho,resolve,invoke,builtin,Sem.run_bind,Sem.run_pure,Result.andThen_ok,List.map_toArray,List.map_cons,List.map_nil,hx,hy,hr]
theorem stringW (B b:Nat) (l:List UInt8) (w:World) (h:WrJ B b l w) (h0:l ≠ []) :
    Calls Tryz.prog 34 #[.pointer (some ⟨b,0,none⟩)] w fun e w'=>e=.returned (.string ⟨l.toArray⟩)∧Below B w w'∧KepW b w w':=by
  obtain ⟨p,hB,v,hbk,hown,hne⟩:∃ p,Lib.BuilderAtF 64 5 B b p (Lib.byteCells l) w:=by
    rcases h with h | h
    iterate 2
      · exact ⟨_,h⟩
  have hl0:l.length ≠ 0:=by simpa using h0
  rw [Lib.byteCells_length] at hown
  obtain ⟨g,cap,cur,fz,rfl,hbg,hg,hfz,hnc,hcm,hcs,htake⟩:∃ g cap cur fz,v=.slice (some ⟨g,0,none⟩) l.length cap∧B≤g∧w.heap[g]? = some (.cells cur 5 fz)∧fz.2≤l.length*1∧l.length≤cap∧cap≤maxLen∧cur.size=cap*1∧cur.toList.take (l.length*1)=Lib.byteCells l:=by
    rcases hown.2 with ⟨_,hz⟩ | ⟨g,cap,cur,fz,hv,r⟩
    · exact absurd hz hl0
    · exact ⟨g,cap,cur,fz,hv,r⟩
  have c1:w.drew.cell? ⟨b,1,none⟩=some (.slice (some ⟨g,0,none⟩) l.length cap):=by
    have:w.drew.heap[b]? = some (.cells #[p,.slice (some ⟨g,0,none⟩) l.length cap] 64 (0,0)):=hbk
    rw [Lib.cell_of_heap this];rfl
  have hSD:(Builtin.unsafeSliceData_ #[60] 87 #[.slice (some ⟨g,0,none⟩) l.length cap]).run Tryz.prog w.drew=.ok (.pointer (some ⟨g,0,none⟩)) w.drew :=
    Lib.run_unsafeSliceData_row _ _ _ _ _ _ (by omega)
  have hUS:(Builtin.unsafeString_ #[87,3] 9 #[.pointer (some ⟨g,0,none⟩),.int .i64 l.length]).run Tryz.prog w.drew=.ok (.string ⟨l.toArray⟩) (w.drew.freeze ⟨g,0,none⟩ l.length):=by
    refine Lib.run_unsafeString_row w.drew 87 3 9 5 Tryz.underlying87 extra166.cellsByte g cur.size (by have hg':w.drew.heap[g]? = some (.cells cur 5 fz):=hg;simp [World.shape?,hg']) l h0 (by omega) (by unfold maxLen at hcm;omega) ?_
    intro j x hx
    have:=hown.cells (g:=g) rfl j (.int .u8 x.toNat) (by simp [Lib.byteCells,hx])
    exact this
  have HF:=Lib.hid (And.intro (Lib.below_freeze (Below.drew (Below.refl B w)) (p:=⟨g,0,none⟩) hbg l.length) (((Lib.OthersKept.refl 5 (some b) w).drew).freeze ⟨g,0,none⟩ l.length ⟨cur,fz,hg⟩))
  have hc0:cap ≠ 0:=by omega
  have hbg2:b ≠ g:=fun e=>hne (by show some g=some b;rw [e])
  clear hown hbk hne hg htake hcs
  go_enter Tryz.func34,Tryz.ntmps34
  go_upto_region 1 with fail
  refine rc_norm (fun J hJ=>?_)
  have HJ:=Lib.hid hJ
  clear hJ
  refine rl_start (S:=fun _ W=>W.cell? ⟨b,1,none⟩=some (.slice (some ⟨g,0,none⟩) l.length cap)) (by kernel_rfl) c1 (fun hC hS=>?_)
  refine rl_pure 0 _ (.pointer (some ⟨b,0,none⟩)) (some 3) rfl (by kernel_rfl) (by kernel_rfl) (by kernel_rfl) (by kernel_rfl) (fun _ _ _ h=>h) (fun _ _=>Iff.rfl) (by kernel_rfl) (fun w=>by kernel_rfl) hC hS (fun hC hS=>?_)
  refine rl_pure 1 _ (.pointer (some ⟨b,0,none⟩)) (some 4) rfl (by kernel_rfl) (by kernel_rfl) (by kernel_rfl) (by kernel_rfl) (fun _ _ _ h=>h) (fun _ _=>Iff.rfl) (by kernel_rfl) (fun w=>by kernel_rfl) hC hS (fun hC hS=>?_)
  refine rl_pure 2 _ (.pointer (some ⟨b,1,none⟩)) (some 5) rfl (by kernel_rfl) (by kernel_rfl) (by kernel_rfl) (by kernel_rfl) (fun _ _ _ h=>h) (fun _ _=>Iff.rfl) (by kernel_rfl) (fun w=>by kernel_rfl) hC hS (fun hC hS=>?_)
  refine rl_load1 3 _ 60 (.tmp 5) ⟨b,1,none⟩ (.slice (some ⟨g,0,none⟩) l.length cap) _ (some 6) rfl (by kernel_rfl) (by kernel_rfl) (by kernel_rfl) (by kernel_rfl) (fun _ _ _ h=>h) (fun _ _=>Iff.rfl) (by kernel_rfl) rfl (by kernel_rfl) Tryz.underlying60 rfl (fun L W hC h1 hS=>hS) hC hS (fun hC hS=>?_)
  refine rl_pure 4 _ (.pointer (some ⟨g,0,none⟩)) (some 7) rfl (by kernel_rfl) (by kernel_rfl) (by kernel_rfl) (by kernel_rfl) (fun _ _ _ h=>h) (fun _ _=>Iff.rfl) (by kernel_rfl) (fun w=>ex_usd w _ _ _ _ ⟨g,0,none⟩ l.length cap rfl (by kernel_rfl) hc0) hC hS (fun hC hS=>?_)
  refine rl_pure 5 _ (.pointer (some ⟨b,0,none⟩)) (some 8) rfl (by kernel_rfl) (by kernel_rfl) (by kernel_rfl) (by kernel_rfl) (fun _ _ _ h=>h) (fun _ _=>Iff.rfl) (by kernel_rfl) (fun w=>by kernel_rfl) hC hS (fun hC hS=>?_)
  refine rl_pure 6 _ (.pointer (some ⟨b,0,none⟩)) (some 9) rfl (by kernel_rfl) (by kernel_rfl) (by kernel_rfl) (by kernel_rfl) (fun _ _ _ h=>h) (fun _ _=>Iff.rfl) (by kernel_rfl) (fun w=>by kernel_rfl) hC hS (fun hC hS=>?_)
  refine rl_pure 7 _ (.pointer (some ⟨b,1,none⟩)) (some 10) rfl (by kernel_rfl) (by kernel_rfl) (by kernel_rfl) (by kernel_rfl) (fun _ _ _ h=>h) (fun _ _=>Iff.rfl) (by kernel_rfl) (fun w=>by kernel_rfl) hC hS (fun hC hS=>?_)
  refine rl_load1 8 _ 60 (.tmp 10) ⟨b,1,none⟩ (.slice (some ⟨g,0,none⟩) l.length cap) _ (some 11) rfl (by kernel_rfl) (by kernel_rfl) (by kernel_rfl) (by kernel_rfl) (fun _ _ _ h=>h) (fun _ _=>Iff.rfl) (by kernel_rfl) rfl (by kernel_rfl) Tryz.underlying60 rfl (fun L W hC h1 hS=>hS) hC hS (fun hC hS=>?_)
  refine rl_pure 9 _ (.int .i64 ((l.length:Nat):Int)) (some 12) rfl (by kernel_rfl) (by kernel_rfl) (by kernel_rfl) (by kernel_rfl) (fun _ _ _ h=>h) (fun _ _=>Iff.rfl) (by kernel_rfl) (fun w=>by kernel_rfl) hC hS (fun hC hS=>?_)
  refine rl_all [10] (by kernel_rfl) (by simp) hC (rl_one _ ?_)
  refine rl_val 10 _ (.string ⟨l.toArray⟩) (w.drew.freeze ⟨g,0,none⟩ l.length) (some 13) rfl (by kernel_rfl) (by kernel_rfl) (ex_us w.drew _ _ _ _ _ _ _ _ _ rfl (by kernel_rfl) (by kernel_rfl) hUS) ?_
  refine rl_and (by rw [show (w.drew.freeze ⟨g,0,none⟩ l.length).cell? ⟨b,1,none⟩=w.drew.cell? ⟨b,1,none⟩ from cell_freeze _ _ hbg2];exact c1) (fun hS hC=>?_)
  refine rl_pure 11 _ (.string ⟨l.toArray⟩) (some 2) rfl (by kernel_rfl) (by kernel_rfl) (by kernel_rfl) (by kernel_rfl) (fun _ _ _ h=>h) (fun _ _=>Iff.rfl) (by kernel_rfl) (fun w=>by kernel_rfl) hC hS (fun hC hS=>?_)
  refine rl_done (by kernel_rfl) ?_ _
  refine HJ.out _ _ ?_
  clear HJ hS hC c1 hSD hUS
  simp only [Act.put,List.setIfInBounds_toArray,List.set_cons_zero,List.set_cons_succ]
  go_wp2
  go_ret
  exact ⟨rfl,HF.out.1,HF.out.2⟩
end Go.Proofs.YtijaphbccnadbaaGreatDoor
namespace Go.Proofs.YtijaphbccnadbaaGreatDoor
open Go.RowKit Go.Shelf Go.Lib
theorem trimJ (s cutset:ByteArray) (w:World) (hcs:cutset.size<4294967281) (hascii:∀ (j:Nat) b,cutset.data.toList[j]? = some b→b.toNat<128) :
    Calls Tryz.prog 51 #[.string s,.string cutset] w fun e w'=>e=.returned (.string ⟨(Lib.trimLeftS s.data.toList cutset.data.toList).toArray⟩)∧Below w.heap.size w w' :=
  Any.strings_TrimLeft_ascii Tryz.lays161 (fun w=>by kernel_rfl) (by kernel_rfl) s cutset w hcs hascii
def blanksL:List UInt8:=[9,10,13,32]
def skipL (l:List UInt8):List UInt8:=Lib.trimLeftS l blanksL
def nextL (l:List UInt8):UInt8:=(skipL l).headD 0
theorem skipL_len (l:List UInt8):(skipL l).length≤l.length:=by
  unfold skipL Lib.trimLeftS;exact (List.dropWhile_sublist _).length_le
theorem skipL_skipL (l:List UInt8):skipL (skipL l)=skipL l:=by
  unfold skipL Lib.trimLeftS
  induction l with
  | nil=>rfl
  | cons x l ih =>
    rw [List.dropWhile_cons]
    split
    · exact ih
    · rename_i h;rw [List.dropWhile_cons,if_neg h]
structure Oth (g:Nat) (w w':World):Prop where
  os:w'.os=w.os
  tape:w'.tape=w.tape
  output:w'.output=w.output
  size:w.heap.size≤w'.heap.size
  block:∀ k,k<w.heap.size→k ≠ g→w'.heap[k]? = w.heap[k]?
theorem Oth.refl (g:Nat) (w:World):Oth g w w:=⟨rfl,rfl,rfl,Nat.le_refl _,fun _ _ _=>rfl⟩
theorem Oth.trans {g:Nat} {a b c:World} (h:Oth g a b) (k:Oth g b c):Oth g a c :=
  ⟨k.os.trans h.os,k.tape.trans h.tape,k.output.trans h.output,Nat.le_trans h.size k.size,fun i hi hg=>(k.block i (Nat.lt_of_lt_of_le hi h.size) hg).trans (h.block i hi hg)⟩
theorem Oth.of_below {g:Nat} {w w':World} (h:Below w.heap.size w w'):Oth g w w':=⟨h.os,h.tape,h.output,h.size,fun k hk _=>h.block k hk⟩
theorem Oth.drew {g:Nat} {a w:World} (h:Oth g a w):Oth g a w.drew:=h.trans ⟨rfl,rfl,rfl,Nat.le_refl _,fun _ _ _=>rfl⟩
theorem Oth.setCell {g:Nat} {a w:World} (h:Oth g a w) (i:Nat) (v:Value):Oth g a (w.setCell ⟨g,i,none⟩ v) :=
  h.trans ⟨rfl,rfl,rfl,by simp [World.setCell],fun k hk hg=>Below.heap_setCell _ _ _ _ (by simpa using hg)⟩
theorem Oth.below {g:Nat} {w w':World} (h:Oth g w w') {B:Nat} (hg:B≤g) (hB:B≤w.heap.size):Below B w w' :=
  ⟨h.os,h.tape,h.output,h.size,fun k hk=>h.block k (Nat.lt_of_lt_of_le hk hB) (by omega)⟩
def RdJ (g:Nat) (l:List UInt8) (d n:Nat) (w:World):Prop:=w.heap[g]? = some (.cells #[.string ⟨l.toArray⟩,.int .i64 (d:Int),.int .i64 (n:Int)] 51)
theorem RdJ.lt {g:Nat} {l:List UInt8} {d n:Nat} {w:World} (h:RdJ g l d n w):g<w.heap.size:=by
  unfold RdJ at h;exact (Array.getElem?_eq_some_iff.1 h).1
theorem RdJ.c0 {g:Nat} {l:List UInt8} {d n:Nat} {w:World} (h:RdJ g l d n w):w.cell? ⟨g,0,none⟩=some (.string ⟨l.toArray⟩):=by
  unfold RdJ at h;simp [World.cell?,h]
theorem RdJ.c1 {g:Nat} {l:List UInt8} {d n:Nat} {w:World} (h:RdJ g l d n w):w.cell? ⟨g,1,none⟩=some (.int .i64 (d:Int)):=by
  unfold RdJ at h;simp [World.cell?,h]
theorem RdJ.c2 {g:Nat} {l:List UInt8} {d n:Nat} {w:World} (h:RdJ g l d n w):w.cell? ⟨g,2,none⟩=some (.int .i64 (n:Int)):=by
  unfold RdJ at h;simp [World.cell?,h]
theorem RdJ.fz {g:Nat} {l:List UInt8} {d n:Nat} {w:World} (h:RdJ g l d n w) (i:Nat):w.frozen? ⟨g,i,none⟩=false:=by
  unfold RdJ at h;simp [World.frozen?,h]
theorem RdJ.on {g:Nat} {l:List UInt8} {d n:Nat} {w w':World} (h:RdJ g l d n w) (hb:Below w.heap.size w w'):RdJ g l d n w':=by
  have:=hb.block g h.lt
  unfold RdJ at *;rw [this];exact h
structure StJ (g:Nat) (l:List UInt8) (d n:Nat) (w w':World):Prop where
  oth:Oth g w w'
  rd:RdJ g l d n w'
theorem StJ.trans {g:Nat} {l l':List UInt8} {d n d' n':Nat} {w w1 w2:World} (h:StJ g l d n w w1) (k:StJ g l' d' n' w1 w2):StJ g l' d' n' w w2:=⟨h.oth.trans k.oth,k.rd⟩
theorem StJ.of_below {g:Nat} {l:List UInt8} {d n:Nat} {w w':World} (h:RdJ g l d n w) (hb:Below w.heap.size w w'):StJ g l d n w w':=⟨.of_below hb,h.on hb⟩
theorem StJ.drew {g:Nat} {l:List UInt8} {d n:Nat} {a w:World} (h:StJ g l d n a w):StJ g l d n a w.drew:=⟨h.oth.drew,h.rd⟩
theorem StJ.left {g:Nat} {l l':List UInt8} {d n:Nat} {a w:World} (h:StJ g l d n a w):StJ g l' d n a (w.setCell ⟨g,0,none⟩ (.string ⟨l'.toArray⟩)):=by
  refine ⟨h.oth.setCell _ _,?_⟩
  have:=h.rd
  unfold RdJ at *
  simp [World.setCell,Array.getElem?_modify,this]
theorem StJ.depth {g:Nat} {l:List UInt8} {d n d':Nat} {a w:World} (h:StJ g l d n a w):StJ g l d' n a (w.setCell ⟨g,1,none⟩ (.int .i64 (d':Int))):=by
  refine ⟨h.oth.setCell _ _,?_⟩
  have:=h.rd
  unfold RdJ at *
  simp [World.setCell,Array.getElem?_modify,this]
theorem StJ.nodes {g:Nat} {l:List UInt8} {d n n':Nat} {a w:World} (h:StJ g l d n a w):StJ g l d n' a (w.setCell ⟨g,2,none⟩ (.int .i64 (n':Int))):=by
  refine ⟨h.oth.setCell _ _,?_⟩
  have:=h.rd
  unfold RdJ at *
  simp [World.setCell,Array.getElem?_modify,this]
def ThrowJ (x:Int) (g:Nat) (w:World) (e:Ending) (w':World):Prop:=e=.panicked [{ v:=.iface 31 (.int .i64 x),recovered:=false }]∧∃ l d n,StJ g l d n w w'
theorem ThrowJ.on {x:Int} {g:Nat} {l:List UInt8} {d n:Nat} {w w1 w':World} {e:Ending} (h:StJ g l d n w w1) (h2:ThrowJ x g w1 e w'):ThrowJ x g w e w':=by
  obtain ⟨he,l,d,n,hj⟩:=h2
  exact ⟨he,l,d,n,h.trans hj⟩
def DoneJ (g:Nat) (l:List UInt8) (d n:Nat) (w:World) (e:Ending) (w':World):Prop:=e=.returned (.tuple #[])∧StJ g l d n w w'
theorem skip_any (g:Nat) (l:List UInt8) (d n:Nat) (w:World) (hr:RdJ g l d n w) :
    Calls Tryz.prog 26 #[.pointer (some ⟨g,0,none⟩)] w (DoneJ g (skipL l) d n w):=by
  have K:=Lib.hid (trimJ ⟨l.toArray⟩ ⟨#[9,10,13,32]⟩ w (by decide) (by
    intro j b hb
    match j with
    | 0 | 1 | 2 | 3=>injection hb with hb;subst hb;decide
    | j+4=>cases hb))
  have H0:=Lib.hid hr
  have c0:=hr.c0
  have f0:=hr.fz 0
  clear hr
  go_enter Tryz.func26,Tryz.ntmps26
  go_wp2_with fail
  refine K.out.mono ?_
  rintro r w1 ⟨rfl,hb⟩
  have F1:=Lib.hid ((H0.out.on hb).fz 0)
  have HB:=Lib.hid (StJ.of_below H0.out hb)
  have c1:=(H0.out.on hb).c0
  have f1:=F1.out
  clear c0 f0 hb
  go_wp2
  exact bodyPost_ret (v:=.tuple #[]) (by simp [results,Tryz.results26,go_sem]) rfl ⟨rfl,HB.out.left⟩
theorem nextL_nil {l:List UInt8} (h:skipL l=[]):nextL l=0:=by unfold nextL;rw [h];rfl
theorem nextL_cons {l r:List UInt8} {x:UInt8} (h:skipL l=x::r):nextL l=x:=by unfold nextL;rw [h];rfl
def NextJ (g:Nat) (l:List UInt8) (d n:Nat) (w:World) (e:Ending) (w':World):Prop:=e=.returned (.int .u8 (((nextL l).toNat:Nat):Int))∧StJ g (skipL l) d n w w'
theorem next_any (g:Nat) (l:List UInt8) (d n:Nat) (w:World) (hr:RdJ g l d n w) :
    Calls Tryz.prog 45 #[.pointer (some ⟨g,0,none⟩)] w (NextJ g l d n w):=by
  have K:=Lib.hid (skip_any g l d n w hr)
  clear hr
  go_enter Tryz.func45,Tryz.ntmps45
  go_wp2_with fail
  refine K.out.mono ?_
  rintro r w1 ⟨rfl,h1⟩
  have H1:=Lib.hid h1
  have c0:=h1.rd.c0
  have f0:=h1.rd.fz 0
  clear h1
  cases hs:skipL l with
  | nil =>
    have HS:=Lib.hid hs
    rw [hs] at c0
    clear hs
    go_wp2
    go_ret
    exact ⟨by rw [nextL_nil HS.out];rfl,H1.out⟩
  | cons x r =>
    have HS:=Lib.hid hs
    rw [hs] at c0
    clear hs
    go_wp2
    go_ret
    exact ⟨by rw [nextL_cons HS.out];rfl,H1.out⟩
def TakeJ (g:Nat) (c:UInt8) (l:List UInt8) (d n:Nat) (w:World) (e:Ending) (w':World):Prop :=
  (nextL l=c∧e=.returned (.bool true)∧StJ g (skipL l).tail d n w w')∨(nextL l ≠ c∧e=.returned (.bool false)∧StJ g (skipL l) d n w w')
theorem head_cons {l:List UInt8} {c:UInt8} (h0:c ≠ 0) (h:nextL l=c):∃ r,skipL l=c::r:=by
  unfold nextL at h
  cases hs:skipL l with
  | nil=>rw [hs] at h;exact absurd h.symm h0
  | cons x r=>rw [hs] at h;simp at h;subst h;exact ⟨r,rfl⟩
theorem str_tail (c:UInt8) (r:List UInt8):({ data:=(c::r).toArray }:ByteArray).extract 1 ({ data:=(c::r).toArray }:ByteArray).size = { data:=r.toArray }:=by
  apply ByteArray.ext
  apply Array.ext'
  simp [ByteArray.data_extract,ByteArray.size]
theorem take_anyj (g:Nat) (c:UInt8) (h0:c ≠ 0) (l:List UInt8) (d n:Nat) (w:World) (hl:l.length≤1000000) (hr:RdJ g l d n w) :
    Calls Tryz.prog 122 #[.pointer (some ⟨g,0,none⟩),.int .u8 ((c.toNat:Nat):Int)] w (TakeJ g c l d n w):=by
  have K:=Lib.hid (next_any g l d n w hr)
  have hlen:=skipL_len l
  clear hr
  go_enter Tryz.func122,Tryz.ntmps122
  go_wp2_with fail
  refine K.out.mono ?_
  rintro r w1 ⟨rfl,h1⟩
  have H1:=Lib.hid h1
  have c0:=h1.rd.c0
  have f0:=h1.rd.fz 0
  clear h1
  by_cases hx:nextL l=c
  · obtain ⟨r,hs⟩:=head_cons h0 hx
    have HX:=Lib.hid hx
    have HS:=Lib.hid hs
    have hrl:r.length+1≤1000000:=by rw [hs] at hlen;simp at hlen;omega
    rw [hs] at c0
    rw [hx]
    have hbe:(((c.toNat:Nat):Int) != ((c.toNat:Nat):Int))=false:=by simp
    have hsz:({ data:=(c::r).toArray }:ByteArray).size=r.length+1:=by simp [ByteArray.size]
    have hext:=str_tail c r
    rw [hsz] at hext
    clear hs hx hlen
    generalize ({ data:=(c::r).toArray }:ByteArray)=s at *
    go_wp2
    go_ret
    refine .inl ⟨HX.out,rfl,?_⟩
    have:=H1.out.left (l':=r)
    rw [HS.out]
    simpa [hext,hsz] using this
  · have HX:=Lib.hid hx
    have hne:(nextL l).toNat ≠ c.toNat:=fun e=>hx (UInt8.toNat_inj.1 e)
    have hbe:((((nextL l).toNat:Nat):Int) != ((c.toNat:Nat):Int))=true:=by rw [bne_iff_ne];omega
    clear hx hne
    go_wp2
    go_ret
    exact .inr ⟨HX.out,rfl,H1.out⟩
def MustJ (g:Nat) (c:UInt8) (l:List UInt8) (d n:Nat) (w:World) (e:Ending) (w':World):Prop :=
  (nextL l=c∧DoneJ g (skipL l).tail d n w e w')∨(nextL l ≠ c∧ThrowJ 2 g w e w')
theorem must_any (g:Nat) (c:UInt8) (h0:c ≠ 0) (l:List UInt8) (d n:Nat) (w:World) (hl:l.length≤1000000) (hr:RdJ g l d n w) :
    Calls Tryz.prog 79 #[.pointer (some ⟨g,0,none⟩),.int .u8 ((c.toNat:Nat):Int)] w (MustJ g c l d n w):=by
  have K:=Lib.hid (take_anyj g c h0 l d n w hl hr)
  clear hr
  go_enter Tryz.func79,Tryz.ntmps79
  go_wp2_with fail
  refine K.out.mono ?_
  rintro r w1 (⟨hx,rfl,h1⟩ | ⟨hx,rfl,h1⟩)
  · have H1:=Lib.hid h1;clear h1
    have HX:=Lib.hid hx;clear hx
    go_wp2
    exact bodyPost_ret (v:=.tuple #[]) (by simp [results,Tryz.results79,go_sem]) rfl (.inl ⟨HX.out,rfl,H1.out⟩)
  · have H1:=Lib.hid h1;clear h1
    have HX:=Lib.hid hx;clear hx
    go_wp2
    exact ⟨rfl,.inr ⟨HX.out,rfl,_,_,_,H1.out⟩⟩
def EnterJ (g a:Nat) (l:List UInt8) (d n:Nat) (w:World) (e:Ending) (w':World):Prop :=
  (a<300∧d≤64∧n<2000∧DoneJ g l d (n+1) w e w')∨(¬ (a<300∧d≤64∧n<2000)∧ThrowJ 4 g w e w')
theorem enter_any (g a:Nat) (l:List UInt8) (d n:Nat) (w:World) (ha:a≤1000000) (hd:d≤1000000) (hn:n≤1000000) (hr:RdJ g l d n w) :
    Calls Tryz.prog 123 #[.pointer (some ⟨g,0,none⟩),.int .i64 (a:Int)] w (EnterJ g a l d n w):=by
  have H0:Hid (StJ g l d (n+1) w (w.setCell ⟨g,2,none⟩ (.int .i64 ((n:Int)+1)))):=Lib.hid ((StJ.of_below hr (Below.refl _ _)).nodes (n':=n+1))
  have c1:(w.setCell ⟨g,2,none⟩ (.int .i64 ((n:Int)+1))).cell? ⟨g,1,none⟩=some (.int .i64 (d:Int)):=H0.out.rd.c1
  have c3:(w.setCell ⟨g,2,none⟩ (.int .i64 ((n:Int)+1))).cell? ⟨g,2,none⟩=some (.int .i64 ((n:Int)+1)):=H0.out.rd.c2
  have c2:=hr.c2
  have f2:=hr.fz 2
  clear hr
  by_cases b1:a<300
  · have d1:decide ((300:Int)≤(a:Int))=false:=decide_eq_false (by omega)
    by_cases b2:d≤64
    · have d2:decide ((64:Int)<(d:Int))=false:=decide_eq_false (by omega)
      by_cases b3:n<2000
      · have d3:decide ((2000:Int)<(n:Int)+1)=false:=decide_eq_false (by omega)
        have HB:=Lib.hid (And.intro b1 (And.intro b2 b3))
        clear b1 b2 b3
        go_enter Tryz.func123,Tryz.ntmps123
        go_wp2
        exact bodyPost_ret (v:=.tuple #[]) (by simp [results,Tryz.results123,go_sem]) rfl (.inl ⟨HB.out.1,HB.out.2.1,HB.out.2.2,rfl,H0.out⟩)
      · have d3:decide ((2000:Int)<(n:Int)+1)=true:=decide_eq_true (by omega)
        have HB:Hid (¬ (a<300∧d≤64∧n<2000)):=Lib.hid (fun h=>b3 h.2.2)
        clear b1 b2 b3
        go_enter Tryz.func123,Tryz.ntmps123
        go_wp2
        exact ⟨rfl,.inr ⟨HB.out,rfl,_,_,_,H0.out⟩⟩
    · have d2:decide ((64:Int)<(d:Int))=true:=decide_eq_true (by omega)
      have HB:Hid (¬ (a<300∧d≤64∧n<2000)):=Lib.hid (fun h=>b2 h.2.1)
      clear b1 b2
      go_enter Tryz.func123,Tryz.ntmps123
      go_wp2
      exact ⟨rfl,.inr ⟨HB.out,rfl,_,_,_,H0.out⟩⟩
  · have d1:decide ((300:Int)≤(a:Int))=true:=decide_eq_true (by omega)
    have HB:Hid (¬ (a<300∧d≤64∧n<2000)):=Lib.hid (fun h=>b1 h.1)
    clear b1
    go_enter Tryz.func123,Tryz.ntmps123
    go_wp2
    exact ⟨rfl,.inr ⟨HB.out,rfl,_,_,_,H0.out⟩⟩
end Go.Proofs.YtijaphbccnadbaaGreatDoor
namespace Go.Proofs.YtijaphbccnadbaaGreatDoor
def plainB (c:UInt8):Bool:=decide (32≤c.toNat) && (decide (c.toNat ≠ 34) && decide (c.toNat ≠ 92))
theorem plainB_iff {c:UInt8}:plainB c=true ↔ 32≤c.toNat∧c.toNat ≠ 34∧c.toNat ≠ 92:=by simp [plainB]
theorem plainB_not {c:UInt8} (h:plainB c=false):c.toNat<32∨c.toNat=34∨c.toNat=92:=by
  have:¬ (32≤c.toNat∧c.toNat ≠ 34∧c.toNat ≠ 92):=fun e=>by rw [plainB_iff.2 e] at h;cases h
  omega
def hexd (n:Nat):UInt8:=if n<10 then UInt8.ofNat (48+n) else UInt8.ofNat (87+n)
def escB (c:UInt8):List UInt8 :=
  if c.toNat=34 then [92,34] else if c.toNat=92 then [92,92] else if c.toNat=8 then [92,98] else if c.toNat=9 then [92,116]
  else if c.toNat=10 then [92,110] else if c.toNat=12 then [92,102] else if c.toNat=13 then [92,114]
  else [92,117,48,48,hexd (c.toNat / 16),hexd (c.toNat % 16)]
def qb (c:UInt8):List UInt8:=if plainB c then [c] else escB c
def bodyL (l:List UInt8):List UInt8:=l.flatMap qb
theorem bodyL_cons (c:UInt8) (l:List UInt8):bodyL (c::l)=qb c++bodyL l:=rfl
theorem bodyL_append (a b:List UInt8):bodyL (a++b)=bodyL a++bodyL b:=by simp [bodyL]
theorem bodyL_plain {l:List UInt8} (h:∀ c∈l,plainB c=true):bodyL l=l:=by
  induction l with
  | nil=>rfl
  | cons c l ih=>rw [bodyL_cons,ih (fun x hx=>h x (by simp [hx]))];simp [qb,h c (by simp)]
theorem escB_len (c:UInt8):2≤(escB c).length∧(escB c).length≤6:=by
  unfold escB;repeat' split
  all_goals simp
theorem qb_len (c:UInt8):1≤(qb c).length∧(qb c).length≤6:=by
  unfold qb;split
  · simp
  · have:=escB_len c;omega
theorem bodyL_len (l:List UInt8):l.length≤(bodyL l).length∧(bodyL l).length≤6*l.length:=by
  induction l with
  | nil=>simp [bodyL]
  | cons c l ih=>have:=qb_len c;rw [bodyL_cons,List.length_append,List.length_cons];omega
def quoteL (l:List UInt8):List UInt8:=if validL l then 34::(bodyL l++[34]) else []
theorem quoteL_len (l:List UInt8):(quoteL l).length≤6*l.length+2:=by
  unfold quoteL;split
  · have:=bodyL_len l;simp;omega
  · simp
def plainN (l:List UInt8):Nat:=(l.takeWhile plainB).length
theorem plainN_le (l:List UInt8):plainN l≤l.length:=by
  unfold plainN;exact (List.takeWhile_prefix plainB).length_le
theorem plainN_take (l:List UInt8):l.take (plainN l)=l.takeWhile plainB:=by
  unfold plainN
  have e:l.takeWhile plainB++l.dropWhile plainB=l:=List.takeWhile_append_dropWhile
  generalize l.takeWhile plainB=a at *
  generalize l.dropWhile plainB=b at *
  subst e;exact List.take_left
theorem plainN_all (l:List UInt8):∀ c∈l.take (plainN l),plainB c=true:=by
  rw [plainN_take]
  intro c hc
  have:=List.all_takeWhile (p:=plainB) (l:=l)
  rw [List.all_eq_true] at this
  exact this c hc
theorem plainN_stop {l:List UInt8} (h:plainN l<l.length):plainB (l.getD (plainN l) 0)=false:=by
  induction l with
  | nil=>simp [plainN] at h
  | cons c l ih =>
    unfold plainN at h ⊢
    rw [List.takeWhile_cons] at h ⊢
    by_cases hc:plainB c=true
    · rw [if_pos hc] at h ⊢
      simp only [List.length_cons] at h ⊢
      have:=ih (by unfold plainN;omega)
      unfold plainN at this
      simpa using this
    · rw [if_neg hc]
      simpa using hc
theorem plainN_lt {l:List UInt8} {k:Nat} (h:k<plainN l):plainB (l.getD k 0)=true:=by
  have h1:=plainN_le l
  have h2:=plainN_all l (l.getD k 0) (by
    rw [List.mem_take_iff_getElem]
    exact ⟨k,by omega,by simp [List.getD,show k<l.length by omega]⟩)
  exact h2
def hexN (c:Nat):Option Nat :=
  if 48≤c∧c≤57 then some (c - 48) else if 97≤c∧c≤102 then some (c - 87) else if 65≤c∧c≤70 then some (c - 55) else none
theorem hexN_lt {c n:Nat} (h:hexN c=some n):n<16:=by
  unfold hexN at h
  repeat' split at h
  all_goals first | (cases h;omega) | (simp at h;omega) | cases h
theorem hexN_hexd:∀ n:Fin 16,hexN (hexd n.val).toNat=some n.val:=by decide
def hexF:Nat→Nat→List UInt8→Option Nat
  | 0,v,_=>some v
  | k+1,v,l=>match l with
    | []=>none
    | c::l=>match hexN c.toNat with
      | none=>none
      | some n=>hexF k (v*16+n) l
def fourL (l:List UInt8):Option Nat:=hexF 4 0 l
theorem hexF_lt:∀ (k v:Nat) (l:List UInt8) (r:Nat),hexF k v l=some r→r<(v+1)*16 ^ k:=by
  intro k
  induction k with
  | zero=>intro v l r h;simp [hexF] at h;subst h;simp
  | succ k ih =>
    intro v l r h
    cases l with
    | nil=>simp [hexF] at h
    | cons c l =>
      simp only [hexF] at h
      cases hn:hexN c.toNat with
      | none=>rw [hn] at h;cases h
      | some n =>
        rw [hn] at h
        have h1:=ih _ _ _ h
        have h2:=hexN_lt hn
        rw [Nat.pow_succ]
        have h3:(v*16+n+1)*16 ^ k≤(v+1)*(16 ^ k*16):=by
          rw [Nat.mul_comm (16 ^ k) 16,← Nat.mul_assoc]
          exact Nat.mul_le_mul_right _ (by omega)
        omega
theorem fourL_lt {l:List UInt8} {r:Nat} (h:fourL l=some r):r<65536:=by
  have:=hexF_lt 4 0 l r h;simpa using this
theorem hexF_short:∀ (k v:Nat) (l:List UInt8),l.length<k→hexF k v l=none:=by
  intro k
  induction k with
  | zero=>intro v l h;omega
  | succ k ih =>
    intro v l h
    cases l with
    | nil=>rfl
    | cons c l =>
      simp only [hexF]
      cases hexN c.toNat with
      | none=>rfl
      | some n=>exact ih _ _ (by simp at h;omega)
theorem fourL_len {l:List UInt8} {r:Nat} (h:fourL l=some r):4≤l.length:=by
  rcases Nat.lt_or_ge l.length 4 with h1 | h1
  · rw [fourL,hexF_short 4 0 l h1] at h;cases h
  · exact h1
def simpleE (c:Nat):Option UInt8 :=
  if c=34 then some 34 else if c=92 then some 92 else if c=47 then some 47 else if c=98 then some 8 else if c=102 then some 12
  else if c=110 then some 10 else if c=114 then some 13 else if c=116 then some 9 else none
def lowL (l:List UInt8):Option Nat :=
  if bt l 0=92∧bt l 1=117 then
    match fourL (l.drop 2) with
    | none=>none
    | some r=>if 56320≤r∧r≤57343 then some r else none
  else none
def escL (l : List UInt8) : Option (List UInt8 × Nat) :=
  match l with
  | [] => none
  | c :: l => if c.toNat = 117 then
      match fourL l with
      | none => none
      | some r =>
        if r < 55296 ∨ 57343 < r then some (enc (r : Int), 5)
        else if 56320 ≤ r then none
        else match lowL (l.drop 4) with
          | none => none
          | some low => some (enc ((65536 + (r - 55296) * 1024 + (low - 56320) : Nat) : Int), 11)
    else match simpleE c.toNat with
      | none => none
      | some x => some ([x], 1)
theorem lowL_len {l:List UInt8} {r:Nat} (h:lowL l=some r):6≤l.length∧56320≤r∧r≤57343:=by
  unfold lowL at h
  split at h
  · split at h
    · cases h
    · rename_i r' h1
      have:=fourL_len h1
      rw [List.length_drop] at this
      split at h
      · cases h;omega
      · cases h
  · cases h
theorem escL_len {l x:List UInt8} {n:Nat} (h:escL l=some (x,n)):1≤n∧n≤l.length:=by
  unfold escL at h
  split at h
  · cases h
  · rename_i c l
    split at h
    · split at h
      · cases h
      · rename_i r hr
        have h4:=fourL_len hr
        split at h
        · cases h;simp;omega
        · split at h
          · cases h
          · split at h
            · cases h
            · rename_i low hl
              have:=lowL_len hl
              rw [List.length_drop] at this
              simp only [Option.some.injEq,Prod.mk.injEq] at h
              obtain ⟨_,rfl⟩:=h
              simp only [List.length_cons];omega
    · split at h
      · cases h
      · cases h;simp
def glue (x:List UInt8) (n:Nat) (r:Option (List UInt8 × Nat)):Option (List UInt8 × Nat):=r.map fun p=>(x++p.1,n+p.2)
theorem glue_glue (x y:List UInt8) (n m:Nat) (r:Option (List UInt8 × Nat)):glue x n (glue y m r)=glue (x++y) (n+m) r:=by
  cases r with
  | none=>rfl
  | some p=>simp [glue,List.append_assoc,Nat.add_assoc]
theorem glue_nil (r:Option (List UInt8 × Nat)):glue [] 0 r=r:=by
  cases r with
  | none=>rfl
  | some p=>simp [glue]
def unqF:Nat→List UInt8→Option (List UInt8 × Nat)
  | 0,_=>none
  | f+1,l=>match l with
    | []=>none
    | c::l' =>
      if c.toNat=34 then some ([],1)
      else if c.toNat=92 then
        match escL l' with
        | none=>none
        | some (x,n)=>glue x (1+n) (unqF f (l'.drop n))
      else if (runeL (c::l')).1<32 then none
      else glue ((c::l').take (runeL (c::l')).2) (runeL (c::l')).2 (unqF f ((c::l').drop (runeL (c::l')).2))
def unqL (l:List UInt8):Option (List UInt8 × Nat):=unqF l.length l
theorem unqF_nil (f:Nat):unqF f []=none:=by cases f <;> rfl
theorem unqF_eq : ∀ (f g : Nat) (l : List UInt8), l.length ≤ f → l.length ≤ g → unqF f l = unqF g l := by
  intro f
  induction f with
  | zero => intro g l h _; have : l = [] := List.eq_nil_of_length_eq_zero (by omega)
            rw [this, unqF_nil, unqF_nil]
  | succ f ih =>
    intro g l h k
    cases g with
    | zero => have : l = [] := List.eq_nil_of_length_eq_zero (by omega)
              rw [this, unqF_nil, unqF_nil]
    | succ g =>
      cases l with
      | nil => rfl
      | cons c l' =>
        have hw := runeL_width (c :: l') (by simp)
        simp only [List.length_cons] at h k hw
        simp only [unqF]
        split
        · rfl
        · split
          · cases he : escL l' with
            | none => rfl
            | some p =>
              obtain ⟨x, n⟩ := p
              have := escL_len he
              simp only
              rw [ih g (l'.drop n) (by rw [List.length_drop]; omega) (by rw [List.length_drop]; omega)]
          · split
            · rfl
            · rw [ih g _ (by rw [List.length_drop, List.length_cons]; omega) (by rw [List.length_drop, List.length_cons]; omega)]
theorem unqL_end {c:UInt8} (h:c.toNat=34) (l:List UInt8):unqL (c::l)=some ([],1):=by
  unfold unqL;simp only [List.length_cons,unqF,if_pos h]
theorem unqL_esc {c:UInt8} (h:c.toNat=92) {l x:List UInt8} {n:Nat} (he:escL l=some (x,n)):unqL (c::l)=glue x (1+n) (unqL (l.drop n)):=by
  have hl:=escL_len he
  unfold unqL;simp only [List.length_cons,unqF,if_neg (show ¬ c.toNat=34 by omega),if_pos h,he]
  rw [unqF_eq _ (l.drop n).length _ (by rw [List.length_drop];omega) (Nat.le_refl _)]
theorem unqL_noesc {c:UInt8} (h:c.toNat=92) {l:List UInt8} (he:escL l=none):unqL (c::l)=none:=by
  unfold unqL;simp only [List.length_cons,unqF,if_neg (show ¬ c.toNat=34 by omega),if_pos h,he]
theorem unqL_bad {c:UInt8} (h1:c.toNat ≠ 34) (h2:c.toNat ≠ 92) {l:List UInt8} (hr:(runeL (c::l)).1<32):unqL (c::l)=none:=by
  unfold unqL;simp only [List.length_cons,unqF,if_neg h1,if_neg h2,if_pos hr]
theorem unqL_rune {c:UInt8} (h1:c.toNat ≠ 34) (h2:c.toNat ≠ 92) {l:List UInt8} (hr:¬ (runeL (c::l)).1<32) :
    unqL (c::l)=glue ((c::l).take (runeL (c::l)).2) (runeL (c::l)).2 (unqL ((c::l).drop (runeL (c::l)).2)):=by
  have hw:=runeL_width (c::l) (by simp)
  unfold unqL;simp only [List.length_cons,unqF,if_neg h1,if_neg h2,if_neg hr]
  rw [unqF_eq _ ((c::l).drop (runeL (c::l)).2).length _ (by rw [List.length_drop,List.length_cons];omega) (Nat.le_refl _)]
theorem runeL_ascii {c:UInt8} (h:c.toNat<128) (l:List UInt8):runeL (c::l)=((c.toNat:Int),1):=by
  have hok:okR (c.toNat:Int)=true:=okR_iff.2 (by omega)
  have he:enc (c.toNat:Int)=[c]:=by
    unfold enc encN
    simp only [Int.toNat_natCast,if_pos h]
    simp
  have:=runeL_enc hok l
  rw [he] at this
  exact this
theorem unqL_low {c:UInt8} (h:c.toNat<32) (l:List UInt8):unqL (c::l)=none :=
  unqL_bad (by omega) (by omega) (by rw [runeL_ascii (by omega)];show (c.toNat:Int)<32;omega)
theorem enc_head {r:Int} (h:okR r=true) {c:UInt8} {l:List UInt8} (he:enc r=c::l):(c.toNat<128∧r=c.toNat∧l=[])∨(128≤r∧128≤c.toNat∧∀ x∈l,128≤x.toNat):=by
  have key:∀ y:Nat,128≤y→y<256→128≤(UInt8.ofNat y).toNat:=by intro y h1 h2;rw [UInt8.toNat_ofNat'];omega
  obtain ⟨n,rfl,hn⟩:=okR_nat h
  unfold enc encN at he
  rw [Int.toNat_natCast] at he
  split at he
  · rename_i h1
    left
    simp only [List.map_cons,List.map_nil,List.cons.injEq] at he
    obtain ⟨rfl,rfl⟩:=he
    have e:(UInt8.ofNat n).toNat=n:=by rw [UInt8.toNat_ofNat'];omega
    rw [e];exact ⟨h1,rfl,rfl⟩
  · right
    repeat' split at he
    all_goals
      simp only [List.map_cons,List.map_nil,List.cons.injEq] at he
      obtain ⟨rfl,rfl⟩:=he
      refine ⟨by omega,key _ (by omega) (by omega),?_⟩
      intro x hx
      simp only [List.mem_cons,List.not_mem_nil,or_false] at hx
      first
        | (rcases hx with rfl | rfl | rfl <;> exact key _ (by omega) (by omega))
        | (rcases hx with rfl | rfl <;> exact key _ (by omega) (by omega))
        | (subst hx;exact key _ (by omega) (by omega))
theorem enc_plain {r:Int} (h:okR r=true) (hp:∀ c∈enc r,plainB c=true):32≤r:=by
  cases he:enc r with
  | nil=>exact absurd he (enc_ne r)
  | cons c l =>
    rcases enc_head h he with ⟨h1,h2,h3⟩ | ⟨h1,_⟩
    · have:=plainB_iff.1 (hp c (by rw [he];simp));omega
    · omega
end Go.Proofs.YtijaphbccnadbaaGreatDoor
