/- Texts of the claim. -/
import Derived.Test.YtijaphbccnadbaaGreatDoorSR
import Derived.Test.YtijaphbccnadbaaGreatDoorSJ
import Derived.Test.YtijaphbccnadbaaGreatDoorSP
set_option linter.unusedVariables false
set_option linter.unusedSimpArgs false
set_option maxHeartbeats 16000000
set_option maxRecDepth 100000
namespace Go.Proofs.YtijaphbccnadbaaGreatDoor
open Go.Shelf Go.RowKit Go.Lib
theorem boxC8 {k:Int} {b neg:Bool} {ma:Option Addr} {mn mc:Nat} {e:Int} {s:ByteArray} {ka:Option Addr} {kn kc:Nat} {va:Option Addr} {vn vc:Nat} (w:World) {W:World}
    (h:Below (w.alloc (.cells #[.int .i64 k,.bool b,.bool neg,.slice ma mn mc,.int .i64 e,.string s,.slice ka kn kc,.slice va vn vc] 28)).heap.size (w.alloc (.cells #[.int .i64 k,.bool b,.bool neg,.slice ma mn mc,.int .i64 e,.string s,.slice ka kn kc,.slice va vn vc] 28)) W) :
    W.cell? ⟨w.heap.size,0,none⟩=some (.int .i64 k)∧W.cell? ⟨w.heap.size,1,none⟩=some (.bool b)∧W.cell? ⟨w.heap.size,2,none⟩=some (.bool neg)∧W.cell? ⟨w.heap.size,3,none⟩=some (.slice ma mn mc)∧W.cell? ⟨w.heap.size,4,none⟩=some (.int .i64 e)∧W.cell? ⟨w.heap.size,5,none⟩=some (.string s)∧W.cell? ⟨w.heap.size,6,none⟩=some (.slice ka kn kc)∧W.cell? ⟨w.heap.size,7,none⟩=some (.slice va vn vc):=by
  have q:=(h.block _ (by simp)).trans (heap_alloc_new w (.cells #[.int .i64 k,.bool b,.bool neg,.slice ma mn mc,.int .i64 e,.string s,.slice ka kn kc,.slice va vn vc] 28))
  exact ⟨(box_cellsJ q 0 _ rfl).1,(box_cellsJ q 1 _ rfl).1,(box_cellsJ q 2 _ rfl).1,(box_cellsJ q 3 _ rfl).1,(box_cellsJ q 4 _ rfl).1,(box_cellsJ q 5 _ rfl).1,(box_cellsJ q 6 _ rfl).1,(box_cellsJ q 7 _ rfl).1⟩
theorem belowC_new (w:World) (o:Obj):Below w.heap.size w (w.alloc o):=(Below.refl _ _).alloc (Nat.le_refl _) _
def PlnC (w:World) (e:Ending) (w':World):Prop:=∃ u:MT,e=.returned u.c.val∧Rep w' u∧(checkB u=true∧NoB u∧(encJ u).length≤11060∧Fit 4 u.bare)∧Below w.heap.size w w'
theorem one_rep {w1 W:World} {u:MT} (h:Rep w1 u) (hb:Below (w1.alloc (.cells u.c.cells.toArray 28)).heap.size (w1.alloc (.cells u.c.cells.toArray 28)) W):Rep W (arrT (some ⟨w1.heap.size,0,none⟩) 1 1 [u]):=by
  refine arrT_rep rfl (Nat.le_refl _) (by decide) ?_ (fun s hs=>by rw [List.mem_singleton.1 hs];exact (h.on (belowC_new w1 _)).on hb)
  have e:(flat ([u].map MT.c))=u.c.cells:=by simp [flat]
  rw [e]
  exact BlkV.all (e:=28) (by unfold BlkV;exact (hb.block _ (by simp)).trans (heap_alloc_new w1 _))
theorem strC_take (L:List UInt8) (m:Nat):(⟨L.toArray⟩:ByteArray).extract 0 m=⟨(L.take m).toArray⟩:=by
  apply ByteArray.ext
  apply Array.toList_inj.1
  simp [ByteArray.data_extract]
theorem jsonCuts_main (ad:Option Addr) (n cap:Nat) (k0:Int) (w:World) (h60z:¬ (60:Int)<(n:Int)) (hk0:-9223372036854775808≤k0∧k0≤9223372036854775807) (hU:UT w) (hT:TB w)
    (KM:Hid (Calls Tryz.prog 19 #[.slice ad n cap,.int .i64 4] w (PlnC w))) :
    Calls Tryz.prog 6 #[.slice ad n cap,.int .i64 k0] w (BoolBelow true w):=by
  have HU:=Lib.hid (fun W (h:Below w.heap.size w W)=>hU.below h);have HT:=Lib.hid (fun W (h:Below w.heap.size w W)=>hT.below h)
  have AW:Hid (∀ W,Below w.heap.size w W→Calls Tryz.prog 10 #[] W (BoolBelow true w)):=Lib.hid (fun W h=>(awakeJ_any W (hU.below h) (hT.below h)).mono fun _ _ hp=>⟨hp.1,below_on h hp.2⟩)
  have HK0:=Lib.hid hk0
  clear hk0 hU hT
  go_enter Tryz.func6,Tryz.ntmps6
  go_wp2_with fail
  refine KM.out.mono ?_
  rintro r w1 ⟨u,rfl,hR,⟨hck,hnb,hel,hfb⟩,hb1⟩
  have hfit:=fit_unbare hfb
  have hco:=Coh.of hR
  have KE:=Lib.hid (fun W (h:Below (w1.alloc (.cells u.c.cells.toArray 28)).heap.size (w1.alloc (.cells u.c.cells.toArray 28)) W)=>encode_anyj (arrT (some ⟨w1.heap.size,0,none⟩) 1 1 [u]) W (one_rep hR h) (HU.out _ (below_on hb1 (below_on (belowC_new w1 _) h))) (HT.out _ (below_on hb1 (below_on (belowC_new w1 _) h))))
  rw [encode_one hfit hnb hel] at KE
  unfold EncPost at KE
  change Hid (∀ W,_→Calls _ _ _ W (fun e w'=>e=.returned (.tuple #[.string ⟨(inArr (encJ u)).toArray⟩,.int .i64 0])∧Below W.heap.size W w')) at KE
  have hcut:=Lib.hid (fun p q he hq=>decode_cut (p:=p) (q:=q) hfit hnb hco hel he hq)
  have hm1:=Lib.hid (decode_more (x:=93) (r:=[]) hfit hnb hco hel (by decide) (by decide) (by decide))
  have hm2:=Lib.hid (show decodeL (inArr (encJ u)++inArr (encJ u))=.inr 2 from decode_more (x:=91) hfit hnb hco hel (by decide) (by decide) (by simp;omega))
  have hLl:=inArr_len (encJ u)
  have HB1:=Lib.hid hb1
  clear hck hnb hfb hfit hco hR hb1 KM
  generalize inArr (encJ u)=L at *
  generalize encJ u=l at *
  have hsl:(⟨L.toArray⟩:ByteArray).size=L.length:=by show L.toArray.size=_;simp
  have KP:=Lib.hid (fun W=>place_any k0 (L.length:Int) W HK0.out ⟨by omega,by omega⟩)
  have hp1:=Int.emod_nonneg k0 (show (L.length:Int) ≠ 0 by omega)
  have hp2:=Int.emod_lt_of_pos k0 (show (0:Int)<(L.length:Int) by omega)
  generalize k0 % (L.length:Int)=r at *
  obtain ⟨m,rfl⟩:∃ m:Nat,r=m:=⟨r.toNat,by omega⟩
  have hm:m<L.length:=by omega
  have hc0:decodeL (L.take m)=.inr 2:=hcut.out (L.take m) (L.drop m) (List.take_append_drop m L).symm (by
    intro e
    have:=congrArg List.length e
    simp at this
    omega)
  have KD1:=Lib.hid (fun W (h:Below w.heap.size w W)=>decode_anyj (L.take m) W (by rw [List.length_take];omega) (HU.out W h))
  have KD2:=Lib.hid (fun W (h:Below w.heap.size w W)=>decode_anyj (L++[93]) W (by simp;omega) (HU.out W h))
  have KD3:=Lib.hid (fun W (h:Below w.heap.size w W)=>decode_anyj (L++L) W (by rw [List.length_append];omega) (HU.out W h))
  rw [hc0] at KD1
  rw [hm1.out] at KD2
  rw [hm2.out] at KD3
  rw [← strC_take] at KD1
  have e2:(⟨(L++[93]).toArray⟩:ByteArray)=⟨L.toArray⟩++⟨#[93]⟩:=(strU_app L [93]).symm
  have e3:(⟨(L++L).toArray⟩:ByteArray)=⟨L.toArray⟩++⟨L.toArray⟩:=(strU_app L L).symm
  rw [e2] at KD2
  rw [e3] at KD3
  unfold DecPost at KD1 KD2 KD3
  rw [← hsl] at KP
  have hS2:2≤(⟨L.toArray⟩:ByteArray).size∧(⟨L.toArray⟩:ByteArray).size≤11062:=by omega
  have hmS:m≤(⟨L.toArray⟩:ByteArray).size:=by omega
  clear hcut hm1 hm2 hLl hel hp1 hp2 hc0 e2 e3 hsl hm
  generalize (⟨L.toArray⟩:ByteArray)=S at *
  generalize u.c=c at *
  obtain ⟨qk,qb,qneg,qma,qmn,qmc,qe,qs,qka,qkn,qkc,qva,qvn,qvc⟩:=c
  unfold Cel.val at *
  change Hid (∀ W,Below (w1.alloc (.cells #[.int .i64 qk,.bool qb,.bool qneg,.slice qma qmn qmc,.int .i64 qe,.string qs,.slice qka qkn qkc,.slice qva qvn qvc] 28)).heap.size (w1.alloc (.cells #[.int .i64 qk,.bool qb,.bool qneg,.slice qma qmn qmc,.int .i64 qe,.string qs,.slice qka qkn qkc,.slice qva qvn qvc] 28)) W→Calls Tryz.prog 13 #[.agg #[.int .i64 6,.bool false,.bool false,.slice none 0 0,.int .i64 0,.string ⟨#[]⟩,.slice none 0 0,.slice (some ⟨w1.heap.size,0,none⟩) 1 1]] W _) at KE
  obtain ⟨W1,hW1⟩:∃ x,w1.alloc (.cells #[.int .i64 qk,.bool qb,.bool qneg,.slice qma qmn qmc,.int .i64 qe,.string qs,.slice qka qkn qkc,.slice qva qvn qvc] 28)=x:=⟨_,rfl⟩
  have hb2:Below w1.heap.size w1 W1:=by rw [← hW1];exact belowC_new _ _
  rw [hW1] at KE
  have HW1:=Lib.hid hW1
  have HB2:=Lib.hid (below_on HB1.out hb2)
  clear hW1 hb2
  obtain ⟨W2,hW2⟩:∃ x,W1.alloc (.cells #[.int .i64 6,.bool false,.bool false,.slice none 0 0,.int .i64 0,.string ⟨#[]⟩,.slice none 0 0,.slice (some ⟨w1.heap.size,0,none⟩) 1 1] 28)=x:=⟨_,rfl⟩
  have hb3:Below W1.heap.size W1 W2:=by rw [← hW2];exact belowC_new _ _
  obtain ⟨c0,c1,c2,c3,c4,c5,c6,c7⟩:=(by have:=boxC8 W1 (k:=6) (b:=false) (neg:=false) (ma:=none) (mn:=0) (mc:=0) (e:=0) (s:=⟨#[]⟩) (ka:=none) (kn:=0) (kc:=0) (va:=some ⟨w1.heap.size,0,none⟩) (vn:=1) (vc:=1) (Below.refl _ _);rw [hW2] at this;exact this:W2.cell? ⟨W1.heap.size,0,none⟩=some (.int .i64 6)∧W2.cell? ⟨W1.heap.size,1,none⟩=some (.bool false)∧W2.cell? ⟨W1.heap.size,2,none⟩=some (.bool false)∧W2.cell? ⟨W1.heap.size,3,none⟩=some (.slice none 0 0)∧W2.cell? ⟨W1.heap.size,4,none⟩=some (.int .i64 0)∧W2.cell? ⟨W1.heap.size,5,none⟩=some (.string ⟨#[]⟩)∧W2.cell? ⟨W1.heap.size,6,none⟩=some (.slice none 0 0)∧W2.cell? ⟨W1.heap.size,7,none⟩=some (.slice (some ⟨w1.heap.size,0,none⟩) 1 1))
  have HW2:=Lib.hid hW2
  have HB3:=Lib.hid (below_on HB2.out hb3)
  have KE:=Lib.hid (KE.out _ hb3)
  clear hW2 hb3
  go_wp2_with fail
  rw [HW1.out]
  go_wp2_with fail
  rw [HW2.out]
  go_wp2_with fail
  refine KE.out.mono ?_
  rintro r w3 ⟨rfl,hb3⟩
  have HB4:=Lib.hid (below_on HB3.out hb3)
  clear hb3 KE c0 c1 c2 c3 c4 c5 c6 c7
  have d2:¬ (S.size:Int)<2:=by omega
  go_wp2_with fail
  refine (KP.out _).mono ?_
  rintro r w4 ⟨rfl,rfl⟩
  have hmz:(m:Int)≤(S.size:Int):=by omega
  go_wp2_with fail
  refine (KD1.out _ HB4.out).mono ?_
  rintro r w5 ⟨rfl,hb5⟩
  have HB5:=Lib.hid (below_on (below_on HB4.out hb5) (belowC_new w5 (.cells #[.int .i64 0,.bool false,.bool false,.slice none 0 0,.int .i64 0,.string ⟨#[]⟩,.slice none 0 0,.slice none 0 0] 28)))
  clear hb5
  go_wp2_with fail
  refine (KD2.out _ HB5.out).mono ?_
  rintro r w6 ⟨rfl,hb6⟩
  have HB6:=Lib.hid (below_on (below_on HB5.out hb6) (belowC_new w6 (.cells #[.int .i64 0,.bool false,.bool false,.slice none 0 0,.int .i64 0,.string ⟨#[]⟩,.slice none 0 0,.slice none 0 0] 28)))
  clear hb6
  go_wp2_with fail
  refine (KD3.out _ HB6.out).mono ?_
  rintro r w7 ⟨rfl,hb7⟩
  have HB7:=Lib.hid (below_on (below_on HB6.out hb7) (belowC_new w7 (.cells #[.int .i64 0,.bool false,.bool false,.slice none 0 0,.int .i64 0,.string ⟨#[]⟩,.slice none 0 0,.slice none 0 0] 28)))
  clear hb7
  go_wp2_with fail
  refine (AW.out _ HB7.out).mono ?_
  rintro r w9 ⟨rfl,hb9⟩
  have HB9:=Lib.hid hb9
  clear hb9
  go_wp2_with fail
  go_ret
  exact BoolBelow.mk rfl HB9.out
end Go.Proofs.YtijaphbccnadbaaGreatDoor
namespace Go.Proofs.YtijaphbccnadbaaGreatDoor
open Go.RowKit Go.Shelf
section
variable {P : Program}
theorem rl_arith (w:World) (ev:Operand→Value) (o:Oper) (op:BinOp) (ty ty':TypeId) (x y:Operand) (a b r:Int) (ho:o.op=.binOp op ty x y ty') (hx:ev x=.int .i64 a) (hy:ev y=.int .i64 b)
    (h:(binOp op ty (.int .i64 a) (.int .i64 b)).run P w=.ok (.int .i64 r) w):(execOp ev o).run P w=.ok (.value (.int .i64 r)) w:=by
  simp [execOp,ho,hx,hy,eqGuard,h,Result.andThen]
theorem ar_quo (w:World) (ty:TypeId) (A B:Nat) (hA:A≤1073741824) (hB:0<B) (hB2:B≤1000):(binOp .quo ty (.int .i64 (A:Int)) (.int .i64 (B:Int))).run P w=.ok (.int .i64 ((A / B:Nat):Int)) w:=by
  have h2:A / B≤A:=Nat.div_le_self _ _
  have h3:((A / B:Nat):Int)=(A:Int) / (B:Int):=by simp
  have h4:IntKind.i64.wrap ((A:Int) / (B:Int))=(A:Int) / (B:Int):=by
    rw [← h3]
    generalize A / B=q at h2 ⊢
    exact IntWalk.i64_in _ (by omega)
  simp [binOp,Op.intDiv,go_sem]
  rw [if_neg (by omega),h4]
theorem ar_rem (w:World) (ty:TypeId) (A B:Nat) (hA:A≤1073741824) (hB:0<B) (hB2:B≤1000):(binOp .rem ty (.int .i64 (A:Int)) (.int .i64 (B:Int))).run P w=.ok (.int .i64 ((A % B:Nat):Int)) w:=by
  simp [binOp,Op.intDiv,go_sem]
  rw [if_neg (by omega),Int.tmod_eq_emod_of_nonneg (by omega)]
theorem ar_mul (w:World) (ty:TypeId) (A B:Nat) (hA:A≤1000) (hB2:B≤1000):(binOp .mul ty (.int .i64 (A:Int)) (.int .i64 (B:Int))).run P w=.ok (.int .i64 ((A*B:Nat):Int)) w:=by
  have h2:A*B≤1000*1000:=Nat.mul_le_mul hA hB2
  have h4:IntKind.i64.wrap ((A:Int)*(B:Int))=(A:Int)*(B:Int):=by rw [← Int.natCast_mul];exact IntWalk.i64_in _ (by omega)
  simp [binOp,Op.intArith,go_sem]
  exact h4
theorem ar_add (w:World) (ty:TypeId) (A B:Nat) (hA:A≤1073741824) (hB2:B≤1073741824):(binOp .add ty (.int .i64 (A:Int)) (.int .i64 (B:Int))).run P w=.ok (.int .i64 ((A+B:Nat):Int)) w:=by
  simp [binOp,Op.intArith,go_sem]
  exact IntWalk.i64_in _ (by omega)
end
section
variable {P : Program} {ops : Array Oper} {Q : Exit → Act → World → Prop}
theorem si1 {A:Prop} {L:Array Bool} (i a:Nat) (ha:(i == a)=false) (M:Prop):(M∧((L.setIfInBounds i true).getD a false=false→A)) ↔ (M∧(L.getD a false=false→A)):=by
  rw [getD_set_ne false (by simpa using ha)]
theorem rl_call {a:Act} {w:World} {K:Act→World→Prop} (i:Nat) (o:Oper) (n:Nat) (fn:Func) (f:Operand) (args:Array Operand) (ts:Array TypeId) (vs:Array Value) (dd:Option Tmp)
    (hi:ops[i]? = some o) (hdd:o.dst=dd) (hw:Region.wanted o (yielded ops a.tmps)=true)
    (ho:o.op=.call { callee:=.value f,args:=args,argTypes:=ts }) (hff:a.eval f=.func (.func n) #[] #[]) (hfn:P.funcs[n]? = some fn) (hn:(fn.name == "runtime.NumGoroutine")=false) (hb:fn.body.isNone=false)
    (hv:args.map a.eval=vs) {Post:Ending→World→Prop} (C:Calls P n vs w Post) (h:∀ r w',Post r w'→∃ v,r=.returned v∧K (a.put dd v) w'):wpOp P ops Q i K a w:=by
  subst hdd
  unfold wpOp
  simp only [hi]
  rw [if_pos hw]
  refine .inl ?_
  unfold Oper.wp
  rw [rg_enter w a.eval o n fn f args ts vs ho hff hfn hn hb hv,Oper.upon_enter]
  exact C.mono (fun r w' hp=>by obtain ⟨v,rfl,hk⟩:=h r w' hp;exact hk)
theorem rl_ldrun (w:World) (ev:Operand→Value) (o:Oper) (ty:TypeId) (x:Operand) (ad:Addr) (v:Value) (d:TypeDesc) (ho:o.op=.load ty x) (hx:ev x=.pointer (some ad)) (hu:P.underlying ty=some d) (hd:d.isRow=false) (hc:w.cell? ad=some v) :
    (execOp ev o).run P w=.ok (.value v) w:=by
  unfold execOp
  simp only [ho,hx,Sem.run_bind,Sem.run_pure,Result.andThen_ok,rg_run1 w ad ty v d hc hu hd]
theorem setCells_put0 (w:World) (b:Nat) (c:Cel):w.setCells b 0 c.cells=put0 w b c:=by
  simp [World.setCells,Cel.cells,put0]
theorem rl_storeT {a:Act} {w:World} {K:Act→World→Prop} (i:Nat) (o:Oper) (ty:TypeId) (x y:Operand) (b:Nat) (c c0:Cel) (d:TypeDesc) (hi:ops[i]? = some o) (hdd:o.dst=none) (hw:Region.wanted o (yielded ops a.tmps)=true)
    (ho:o.op=.store ty x y) (hx:a.eval x=.pointer (some ⟨b,0,none⟩)) (hy:a.eval y=c.val) (h1:(P.info? ty).map (·.size)=some 8) (hb:BoxT w b c0)
    (h:K a (put0 w b c)):wpOp P ops Q i K a w:=by
  unfold wpOp
  simp only [hi]
  rw [if_pos hw]
  refine .inl ?_
  have h8:c.cells.length=8:=by simp [Cel.cells]
  refine wp_store_mid ty x y ho b 0 c.cells.toArray hx hy ?_ (by simpa [h8] using h1) (all_oneCell_toArray (cel_one c)) ?_
  · intro j hj
    rw [List.size_toArray,h8] at hj
    refine ⟨?_,by rw [Nat.zero_add];exact hb.free j⟩
    rw [Nat.zero_add]
    obtain ⟨x0,x1,x2,x3,x4,x5,x6,x7⟩:=hb.cells
    match j,hj with
    | 0,_=>rw [x0];rfl
    | 1,_=>rw [x1];rfl
    | 2,_=>rw [x2];rfl
    | 3,_=>rw [x3];rfl
    | 4,_=>rw [x4];rfl
    | 5,_=>rw [x5];rfl
    | 6,_=>rw [x6];rfl
    | 7,_=>rw [x7];rfl
  · rw [hdd]
    have:=setCells_put0 w b c
    simp only [List.toList_toArray]
    rw [this]
    exact h
end
def nms8:List ByteArray:=[⟨#[97]⟩,⟨#[98]⟩,⟨#[99]⟩,⟨#[100,100]⟩,⟨#[101]⟩,⟨#[]⟩,⟨#[120,47,121]⟩,⟨#[122,126]⟩]
def NamesP (w:World) (e:Ending) (w':World):Prop:=e=.returned (.slice (some ⟨w.heap.size,0,none⟩) 8 8)∧w'=w.alloc (.cells (sv nms8).toArray 9)
theorem names_any (w:World):Calls Tryz.prog 115 #[] w (NamesP w):=by
  go_enter Tryz.func115,Tryz.ntmps115
  go_wp2
  go_ret
  exact ⟨rfl,rfl⟩
theorem nms8_sm:∀ j,j<8→okN (nms8.getD j ByteArray.empty)=true∧(nms8.getD j ByteArray.empty).size≤3:=by decide +kernel
theorem nms8_ok:∀ j,j<8→okN (nms8.getD j ByteArray.empty)=true:=by decide +kernel
structure ObS (W8:World) (b8 d n:Nat) (t:MT) (wr:World):Prop where
  but:But b8 W8 wr
  lt:b8<W8.heap.size
  box:BoxT wr b8 t.c
  obj:∃ ka kc va vc,t.c=objC7 ka t.k.length kc va t.k.length vc
  tm:t.m=[]
  kv:t.v.length=t.k.length
  le:t.k.length≤n
  ris:Ris t.k
  ok:∀ s∈t.k,okN s=true∧s.size≤3
  fit:∀ x∈t.v,Fit d x
  ind:Ind (fun k=>k<W8.heap.size) wr (fun W=>Rep W t)
theorem ObS.o7 {W8 wr:World} {b8 d n:Nat} {t:MT} (h:ObS W8 b8 d n t wr) (hn:n≤100):Obj7 t:=by
  obtain ⟨ka,kc,va,vc,e⟩:=h.obj
  exact ⟨by rw [e];rfl,by rw [e];rfl,by rw [e];rfl,h.kv,Nat.le_trans h.le hn,h.ris⟩
theorem put1_mem {α:Type} {l:List α} {p q:Nat} {x y:α} (h:y∈put1 l p q x):y∈l∨y=x:=by
  unfold put1 at h
  rcases List.mem_append.1 h with h | h
  · rcases List.mem_append.1 h with h | h
    · exact .inl (List.mem_of_mem_take h)
    · exact .inr (List.mem_singleton.1 h)
  · exact .inl (List.mem_of_mem_drop h)
theorem spl_ex {N:List ByteArray} (hr:Ris N) (s:ByteArray):∃ p q,Spl N s p q:=by
  cases hi:ixL N s with
  | none=>exact ⟨_,_,spl_none hr hi⟩
  | some i=>exact ⟨_,_,spl_some hr hi⟩
theorem ObS.step {W8 wr wc w3:World} {b8 d n:Nat} {t x:MT} {s:ByteArray} {p q:Nat} {e:Ending} (h:ObS W8 b8 d n t wr) (hs:okN s=true∧s.size≤3) (hp:Spl t.k s p q) (hf:Fit d x) (hb:Below wr.heap.size wr wc) (hS:SetPost t x s p q (fun k=>k<W8.heap.size) wc e w3) :
    ∃ u:MT,e=.returned u.c.val∧ObS W8 b8 d (n+1) u (put0 w3 b8 u.c)∧BoxT w3 b8 t.c:=by
  obtain ⟨u,he,ho,hm,hk,hv,hi,hb3⟩:=hS
  have hs1:=hb.size;have hs3:=hb3.size;have hlt:=h.lt;have hsw:=h.but.size
  have hb03:Below wr.heap.size wr w3:=hb.trans (hb3.mono hs1)
  have hbox:BoxT w3 b8 t.c:=h.box.on (hb03.block _ h.box.lt)
  have hput:=put0_but w3 b8 u.c
  have l1:=put1_len t.k p q s hp.pq hp.ql
  have l2:=put1_len t.v p q x hp.pq (by rw [h.kv];exact hp.ql)
  have hpq:=hp.pq
  refine ⟨u,he,⟨(h.but.trans (But.of_below hb03)).trans hput,h.lt,put0_box hbox,ho,hm,?_,?_,?_,?_,?_,?_⟩,hbox⟩
  · rw [hk,hv];have:=h.kv;omega
  · rw [hk];have:=h.le;omega
  · rw [hk];exact spl_ris h.ris hp
  · intro y hy
    rw [hk] at hy
    rcases put1_mem hy with hy | rfl
    · exact h.ok y hy
    · exact hs
  · intro y hy
    rw [hv] at hy
    rcases put1_mem hy with hy | rfl
    · exact h.fit y hy
    · exact hf
  · exact hi.to hput.size (fun k hk1 hk2=>hput.block k hk1 (fun e=>hk2 (by omega))) (fun _ _ h=>h) (fun _ h=>h)
def OBL (W8:World) (b8:Nat) (v0:Value) (d m g:Nat) (u iv:Value) (wr:World):Prop :=
  ∃ (i:Nat) (t:MT),i≤m∧m - i≤g∧iv=.int .i64 (i:Int)∧(∀ W,IntsV W v0→IntsV W u)∧ObS W8 b8 d i t wr
theorem risesB_of {l:List ByteArray} (hr:Ris l) (ho:∀ s∈l,okN s=true):risesB l=true:=by
  rw [risesB_iff]
  intro i hi
  have h1:okN (l.getD i ByteArray.empty)=true:=ho _ (by simp [List.getD,hi])
  unfold nameAt
  rw [h1]
  by_cases h0:i=0
  · simp [h0]
  · have:=hr (i - 1) i (by omega) hi
    simp
    exact .inr (by simpa using this)
theorem obj_end {d d' n:Nat} {v0 u0:Value} {w W8 W:World} {b8:Nat} {t:MT} (hd:d=d'+1) (hb:Below w.heap.size w W8) (hb8:w.heap.size<b8) (h1:∀ W,IntsV W v0→IntsV W u0) (h:ObS W8 b8 d' n t W) (hl:n≤3) :
    MadeP d v0 w (.returned (.tuple #[t.c.val,u0])) (put0 W w.heap.size t.c):=by
  subst hd
  have hs:=h.but.size;have hlt:=h.lt;have hsb:=hb.size;have hle:=h.le
  refine made_end rfl (hb.trans (h.but.below (by omega) hb.size)) h1 ?_ ⟨?_,by rw [h.kv];omega,h.fit⟩
  · exact h.ind.to (Nat.le_refl _) (fun _ _ _=>rfl) (fun k hk (hx:k<w.heap.size∨k=w.heap.size)=>show k<W8.heap.size by omega) (fun _ h=>h)
  · obtain ⟨ka,kc,va,vc,e⟩:=h.obj
    have e3:t.k.all (fun k=>decide (k.size≤3))=true:=List.all_eq_true.2 fun s hs=>decide_eq_true (h.ok s hs).2
    unfold fitB smB soundB
    rw [e,e3,h.tm]
    have e1:=risesB_of h.ris (fun s hs=>(h.ok s hs).1)
    have e2:t.k.length≤300:=by omega
    simp [objC7,blankB,e1,e2]
    exact ⟨rfl,rfl⟩
end Go.Proofs.YtijaphbccnadbaaGreatDoor
