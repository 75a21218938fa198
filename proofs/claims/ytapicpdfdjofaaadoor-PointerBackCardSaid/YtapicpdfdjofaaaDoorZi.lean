/- erratumlaw14.PointerBack: for every input it answers true, and what came in stays: the row, and its tied card. Conditions: what the row's own cells say (the tables of Go's library that it lists start as the program's text lays them). -/
import Derived.Test.YtapicpdfdjofaaaDoorZh
import Derived.Test.YtapicpdfdjofaaaDoorCards
set_option maxHeartbeats 200000
set_option maxRecDepth 100000
namespace Go.Proofs.YtapicpdfdjofaaaDoor.pointerBack
open Go.ChangeShapes Go.WideShapes Go.ChangeAt Go.RowKit
open Go.ChangeMaps (open_string shut_string)
set_option linter.unusedVariables false
set_option maxRecDepth 100000 in
theorem lifted (os:Os) (started:os.Started) (H:Type) (enc:TypeId × Value→H) :
    ReturnsInHanded {} Tryd.checked os 4 .any (fun w args=>(Rows.pointerBackSpec.pre enc Tryd.prog Tryd.f4 Rows.pointerBackRow.domain false w args∧laidMetH Tryd.prog Rows.pointerBackRow.laid w)∧sizedMet enc Tryd.prog Tryd.f4 (OpenSpec.ofChange Rows.pointerBackSpec) false w args)
      (Rows.pointerBackSpec.post enc Tryd.prog Tryd.f4 false true false false):=by
  refine returnsInHanded_and_shape (C:=Tryd.checked) (X:=fun w _=>laidMetH Tryd.prog Rows.pointerBackRow.laid w) (fun _ _ _ hh h=>h.of_heap hh) own started (by kernel_rfl) Tryd.func4
    (ChangeSpec.witness_shaped (enc:=enc) (C:=Tryd.checked) (os:=os) (X:=fun w _=>laidMetH Tryd.prog Rows.pointerBackRow.laid w) false (World.laidAll Tryd.prog os Rows.pointerBackRow.laid) #[.slice none 0 0,.string ByteArray.empty] 8 (World.laidAll_os _ _ _)
      (World.shaped_of_ZipB (by kernel_rfl) (by kernel_rfl)) (by kernel_rfl) (by kernel_rfl) (by kernel_rfl)
      (by rw [MakeChecks.laidMetH_plain _ _ _ (by kernel_rfl)];exact laidMet_laidAll _ (by kernel_rfl) (by kernel_rfl))) ?_
  intro W base args ds gs before hval0 hW hc hsz0 hL hsh _
  have hval:∀ (j:Nat) t v,Tryd.f4.params[j]? = some t→args[j]? = some v→Value.okWide Tryd.prog W .any base t v:=hval0
  have hW':=hW
  obtain ⟨p,q,hA0,hV,rfl,_,_⟩:=hW
  have hA:DataW.TrodAll enc Tryd.prog W 0 (fun _=>true) true Tryd.f4.params.toList args.toList ds p:=hA0
  rw [Tryd.params4] at hA hval
  obtain ⟨v0,vs0,d0,ds0,p0,q0,hargsE,rfl,rfl,h0,r0⟩:=trodAll_cons hA
  obtain ⟨v1,vs1,d1,ds1,p1,q1,rfl,rfl,rfl,h1,r1⟩:=trodAll_cons r0
  obtain ⟨rfl,rfl,rfl⟩:=trodAll_nil r1
  obtain rfl:args=#[v0,v1]:=by cases args;simp_all
  obtain ⟨rfl,rfl⟩:=trodVars_none hV
  clear hA0 hval0
  have hL2:=hL
  rw [MakeChecks.laidMetH_plain _ _ _ (by kernel_rfl)] at hL2
  have htb:UT W:=ut_of_laid hL2 (by simp [Rows.pointerBackRow]) (by simp [Rows.pointerBackRow])
  have htb2:ML W:=ml_of_shape hsh
  have hlt0:∀ x∈p0,x.block<W.heap.size:=fun x hx=>by have:=hW'.lt x (by simp [hx]);simpa using this
  have hk0:=h0
  obtain ⟨ad0,len0,cap0,xs0,rfl,hl0,hcp0,hm0,hr0⟩:=texts_argP (hval 0 22 v0 rfl rfl) h0
  obtain ⟨s1,rfl,rfl,rfl,hs1⟩:=open_string Tryd.underlying9 (hval 1 9 v1 rfl rfl) h1
  refine (pointerBack_walk ad0 len0 cap0 xs0 s1 W hl0 hcp0 hm0 hr0 hs1 htb htb2).mono fun e W' ⟨he,hb⟩=>?_
  subst he
  have e1:Rows.pointerBackSpec.fn H ([d0,.lit (.string s1.data.toList)]++[]) = { results:=[.lit (.bool true)],args:=[d0,.lit (.string s1.data.toList)] }:=by simp [Rows.pointerBackSpec]
  refine ⟨_,rfl,_,_,_,[],(p0++([]++[])),[],hW',?_,?_,?_,hb.frame fun p=>p∈(p0++([]++[]))++[]∧(p∈([]:List MemPlace)∨p∈(p0++([]++[]))∨p∈([]:List MemPlace)),fun h=>by cases h⟩
  · rw [e1];exact trodAll_mk1 (shut_bool Tryd.underlying4 true)
  · rw [e1];exact (trodAll_cons_mk (hargs_keep (by kernel_rfl) (of_decide_eq_true (by kernel_rfl)) hk0 hb hlt0) (trodAll_cons_mk (shut_string Tryd.underlying9 hs1) trodAll_mk0))
  · rw [e1];rfl
theorem over:Rows.pointerBackRow.holds Tryd.pinned (OpenSpec.ofChange Rows.pointerBackSpec) :=
  OpenClaim.holds_of_wide 4 Tryd.f4 rfl rfl rfl rfl rfl rfl rfl ⟨rfl,rfl,rfl,rfl,rfl⟩ rfl rfl rfl rfl rfl (by kernel_rfl) Tryd.func4 (by kernel_rfl)
    (of_decide_eq_true (by kernel_rfl)) (by unfold Func.isWrapper;first | (rw [if_pos (by decide +kernel)];kernel_rfl) | (rw [if_neg (by decide +kernel)];exact ⟨rfl,rfl⟩))
    (fun os started H enc _=>lifted os started H enc)
theorem proved:Rows.PointerBackCardSaid :=
  Claim7.holds_tied_plain_at .later [] [.data,.pinned] true Rows.pointerBackCard.stood.harness Rows.pointerBackCard.stood.looks over (fun _ h=>by cases h) (by kernel_rfl) (fun _ h=>by cases h) pointerBack_row_tie rfl ⟨rfl,rfl⟩ (by kernel_rfl) rfl
    (fun f fn hf hfn=>by
      obtain rfl:f=4:=Option.some.inj ((show Tryd.prog.funcNamed Rows.pointerBackRow.func=some 4 by kernel_rfl).symm.trans hf) |>.symm
      obtain rfl:fn=Tryd.f4:=(Option.some.inj (Tryd.func4.symm.trans hfn)).symm
      exact ⟨by kernel_rfl,fun j t ht=>by
        rw [Tryd.params4] at ht
        have hm:t∈([22,9]:List TypeId):=by simpa using Array.mem_of_getElem? ht
        have hall:(([22,9]:List TypeId).all fun u=>!Tryd.prog.wantsStandIn u)=true:=by kernel_rfl
        exact (show Tryd.prog.wantsStandIn t=false by simpa using List.all_eq_true.1 hall t hm)⟩)
    (by kernel_rfl)
#print axioms proved
end Go.Proofs.YtapicpdfdjofaaaDoor.pointerBack
