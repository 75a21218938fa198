/- erratumlaw14.PointerItems: for every input it answers true, and what came in stays: the row, and its tied card. Conditions: what the row's own cells say (the tables of Go's library that it lists start as the program's text lays them). -/
import Derived.Test.YtapicpdfdjofaaaDoorEs
import Derived.Test.YtapicpdfdjofaaaDoorEt
import Derived.Test.YtapicpdfdjofaaaDoorCards
set_option maxHeartbeats 200000
set_option maxRecDepth 100000
namespace Go.Proofs.YtapicpdfdjofaaaDoor.pointerItems
open Go.ChangeShapes Go.WideShapes Go.ChangeAt Go.RowKit
set_option linter.unusedVariables false
set_option maxRecDepth 100000 in
theorem lifted (os:Os) (started:os.Started) (H:Type) (enc:TypeId × Value→H) :
    ReturnsInHanded {} Tryd.checked os 6 .any (fun w args=>(Rows.pointerItemsSpec.pre enc Tryd.prog Tryd.f6 Rows.pointerItemsRow.domain false w args∧laidMetH Tryd.prog Rows.pointerItemsRow.laid w)∧sizedMet enc Tryd.prog Tryd.f6 (OpenSpec.ofChange Rows.pointerItemsSpec) false w args)
      (Rows.pointerItemsSpec.post enc Tryd.prog Tryd.f6 false true false false):=by
  refine returnsInHanded_and_shape (C:=Tryd.checked) (X:=fun w _=>laidMetH Tryd.prog Rows.pointerItemsRow.laid w) (fun _ _ _ hh h=>h.of_heap hh) own started (by kernel_rfl) Tryd.func6
    (ChangeSpec.witness_shaped (enc:=enc) (C:=Tryd.checked) (os:=os) (X:=fun w _=>laidMetH Tryd.prog Rows.pointerItemsRow.laid w) false (World.laidAll Tryd.prog os Rows.pointerItemsRow.laid) #[.int .i64 0,.int .i64 0,.int .i64 0] 8 (World.laidAll_os _ _ _)
      (World.shaped_of_ZipB (by kernel_rfl) (by kernel_rfl)) (by kernel_rfl) (by kernel_rfl) (by kernel_rfl)
      (by rw [MakeChecks.laidMetH_plain _ _ _ (by kernel_rfl)];exact laidMet_laidAll _ (by kernel_rfl) (by kernel_rfl))) ?_
  intro W base args ds gs before hval0 hW hc hsz0 hL hsh _
  have hval:∀ (j:Nat) t v,Tryd.f6.params[j]? = some t→args[j]? = some v→Value.okWide Tryd.prog W .any base t v:=hval0
  have hW':=hW
  obtain ⟨p,q,hA0,hV,rfl,_,_⟩:=hW
  have hA:DataW.TrodAll enc Tryd.prog W 0 (fun _=>true) true Tryd.f6.params.toList args.toList ds p:=hA0
  rw [Tryd.params6] at hA hval
  obtain ⟨v0,vs0,d0,ds0,p0,q0,hargsE,rfl,rfl,h0,r0⟩:=trodAll_cons hA
  obtain ⟨v1,vs1,d1,ds1,p1,q1,rfl,rfl,rfl,h1,r1⟩:=trodAll_cons r0
  obtain ⟨v2,vs2,d2,ds2,p2,q2,rfl,rfl,rfl,h2,r2⟩:=trodAll_cons r1
  obtain ⟨rfl,rfl,rfl⟩:=trodAll_nil r2
  obtain rfl:args=#[v0,v1,v2]:=by cases args;simp_all
  obtain ⟨rfl,rfl⟩:=trodVars_none hV
  clear hA0 hval0
  have hL2:=hL
  rw [MakeChecks.laidMetH_plain _ _ _ (by kernel_rfl)] at hL2
  have htb:UT W:=ut_of_laid hL2 (by simp [Rows.pointerItemsRow]) (by simp [Rows.pointerItemsRow])
  have htb2:ML W:=ml_of_shape hsh
  obtain ⟨i0,rfl,rfl,rfl,w0⟩:=open_int Tryd.underlying3 (hval 0 3 v0 rfl rfl) h0
  obtain ⟨i1,rfl,rfl,rfl,w1⟩:=open_int Tryd.underlying3 (hval 1 3 v1 rfl rfl) h1
  obtain ⟨i2,rfl,rfl,rfl,w2⟩:=open_int Tryd.underlying3 (hval 2 3 v2 rfl rfl) h2
  refine (pointerItems_walk i0 i1 i2 W (i64_bd w0) (i64_bd w1) (i64_bd w2) htb htb2).mono fun e W' ⟨he,hb⟩=>?_
  subst he
  have e1:Rows.pointerItemsSpec.fn H ([.lit (.int .i64 i0),.lit (.int .i64 i1),.lit (.int .i64 i2)]++[]) = { results:=[.lit (.bool true)],args:=[.lit (.int .i64 i0),.lit (.int .i64 i1),.lit (.int .i64 i2)] }:=by simp [Rows.pointerItemsSpec]
  refine ⟨_,rfl,_,_,_,[],([]++([]++([]++[]))),[],hW',?_,?_,?_,hb.frame fun p=>p∈([]++([]++([]++[])))++[]∧(p∈([]:List MemPlace)∨p∈([]++([]++([]++[])))∨p∈([]:List MemPlace)),fun h=>by cases h⟩
  · rw [e1];exact trodAll_mk1 (shut_bool Tryd.underlying4 true)
  · rw [e1];exact (trodAll_cons_mk (shut_int Tryd.underlying3 w0) (trodAll_cons_mk (shut_int Tryd.underlying3 w1) (trodAll_cons_mk (shut_int Tryd.underlying3 w2) trodAll_mk0)))
  · rw [e1];rfl
theorem over:Rows.pointerItemsRow.holds Tryd.pinned (OpenSpec.ofChange Rows.pointerItemsSpec) :=
  OpenClaim.holds_of_wide 6 Tryd.f6 rfl rfl rfl rfl rfl rfl rfl ⟨rfl,rfl,rfl,rfl,rfl⟩ rfl rfl rfl rfl rfl (by kernel_rfl) Tryd.func6 (by kernel_rfl)
    (of_decide_eq_true (by kernel_rfl)) (by unfold Func.isWrapper;first | (rw [if_pos (by decide +kernel)];kernel_rfl) | (rw [if_neg (by decide +kernel)];exact ⟨rfl,rfl⟩))
    (fun os started H enc _=>lifted os started H enc)
theorem proved:Rows.PointerItemsCardSaid :=
  Claim7.holds_tied_plain_at .later [] [.data,.pinned] true Rows.pointerItemsCard.stood.harness Rows.pointerItemsCard.stood.looks over (fun _ h=>by cases h) (by kernel_rfl) (fun _ h=>by cases h) pointerItems_row_tie rfl ⟨rfl,rfl⟩ (by kernel_rfl) rfl
    (fun f fn hf hfn=>by
      obtain rfl:f=6:=Option.some.inj ((show Tryd.prog.funcNamed Rows.pointerItemsRow.func=some 6 by kernel_rfl).symm.trans hf) |>.symm
      obtain rfl:fn=Tryd.f6:=(Option.some.inj (Tryd.func6.symm.trans hfn)).symm
      exact ⟨by kernel_rfl,fun j t ht=>by
        rw [Tryd.params6] at ht
        have hm:t∈([3,3,3]:List TypeId):=by simpa using Array.mem_of_getElem? ht
        have hall:(([3,3,3]:List TypeId).all fun u=>!Tryd.prog.wantsStandIn u)=true:=by kernel_rfl
        exact (show Tryd.prog.wantsStandIn t=false by simpa using List.all_eq_true.1 hall t hm)⟩)
    (by kernel_rfl)
#print axioms proved
end Go.Proofs.YtapicpdfdjofaaaDoor.pointerItems
