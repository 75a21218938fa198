/- erratumlaw14.PointerAll: for every input it answers true, and what came in stays: the row, and its tied card. Conditions: what the row's own cells say (the tables of Go's library that it lists start as the program's text lays them). -/
import Derived.Test.YticgggjfmhiilaaDoorLy
import Derived.Test.YticgggjfmhiilaaDoorCards
set_option maxHeartbeats 200000
set_option maxRecDepth 100000
namespace Go.Proofs.YticgggjfmhiilaaDoor.pointerAll
open Go.ChangeShapes Go.WideShapes Go.ChangeAt Go.RowKit
open Go.ChangeMaps (open_string shut_string)
set_option linter.unusedVariables false
set_option maxRecDepth 100000 in
theorem lifted (os:Os) (started:os.Started) (H:Type) (enc:TypeId × Value→H) :
    ReturnsInHanded {} Tryd.checked os 3 .any (fun w args=>(Rows.pointerAllSpec.pre enc Tryd.prog Tryd.f3 Rows.pointerAllRow.domain false w args∧laidMetH Tryd.prog Rows.pointerAllRow.laid w)∧sizedMet enc Tryd.prog Tryd.f3 (OpenSpec.ofChange Rows.pointerAllSpec) false w args)
      (Rows.pointerAllSpec.post enc Tryd.prog Tryd.f3 false true false false):=by
  refine returnsInHanded_and_shape (C:=Tryd.checked) (X:=fun w _=>laidMetH Tryd.prog Rows.pointerAllRow.laid w) (fun _ _ _ hh h=>h.of_heap hh) own started (by kernel_rfl) Tryd.func3
    (ChangeSpec.witness_shaped (enc:=enc) (C:=Tryd.checked) (os:=os) (X:=fun w _=>laidMetH Tryd.prog Rows.pointerAllRow.laid w) false (World.laidAll Tryd.prog os Rows.pointerAllRow.laid) #[.string ByteArray.empty,.slice none 0 0,.slice none 0 0,.string ByteArray.empty,.int .i64 0,.agg #[.int .i64 0,.bool false,.bool false,.slice none 0 0,.int .i64 0,.string ByteArray.empty,.slice none 0 0,.slice none 0 0],.agg #[.int .i64 0,.bool false,.bool false,.slice none 0 0,.int .i64 0,.string ByteArray.empty,.slice none 0 0,.slice none 0 0]] 8 (World.laidAll_os _ _ _)
      (World.shaped_of_ZipB (by kernel_rfl) (by kernel_rfl)) (by kernel_rfl) (by kernel_rfl) (by kernel_rfl)
      (by rw [MakeChecks.laidMetH_plain _ _ _ (by kernel_rfl)];exact laidMet_laidAll _ (by kernel_rfl) (by kernel_rfl))) ?_
  intro W base args ds gs before hval0 hW hc hsz0 hL hsh _
  have hval:∀ (j:Nat) t v,Tryd.f3.params[j]? = some t→args[j]? = some v→Value.okWide Tryd.prog W .any base t v:=hval0
  have hW':=hW
  obtain ⟨p,q,hA0,hV,rfl,_,_⟩:=hW
  have hA:DataW.TrodAll enc Tryd.prog W 0 (fun _=>true) true Tryd.f3.params.toList args.toList ds p:=hA0
  rw [Tryd.params3] at hA hval
  obtain ⟨v0,vs0,d0,ds0,p0,q0,hargsE,rfl,rfl,h0,r0⟩:=trodAll_cons hA
  obtain ⟨v1,vs1,d1,ds1,p1,q1,rfl,rfl,rfl,h1,r1⟩:=trodAll_cons r0
  obtain ⟨v2,vs2,d2,ds2,p2,q2,rfl,rfl,rfl,h2,r2⟩:=trodAll_cons r1
  obtain ⟨v3,vs3,d3,ds3,p3,q3,rfl,rfl,rfl,h3,r3⟩:=trodAll_cons r2
  obtain ⟨v4,vs4,d4,ds4,p4,q4,rfl,rfl,rfl,h4,r4⟩:=trodAll_cons r3
  obtain ⟨v5,vs5,d5,ds5,p5,q5,rfl,rfl,rfl,h5,r5⟩:=trodAll_cons r4
  obtain ⟨v6,vs6,d6,ds6,p6,q6,rfl,rfl,rfl,h6,r6⟩:=trodAll_cons r5
  obtain ⟨rfl,rfl,rfl⟩:=trodAll_nil r6
  obtain rfl:args=#[v0,v1,v2,v3,v4,v5,v6]:=by cases args;simp_all
  obtain ⟨rfl,rfl⟩:=trodVars_none hV
  clear hA0 hval0
  have hL2:=hL
  rw [MakeChecks.laidMetH_plain _ _ _ (by kernel_rfl)] at hL2
  have htb:UT W:=ut_of_laid hL2 (by simp [Rows.pointerAllRow]) (by simp [Rows.pointerAllRow])
  have htb2:ML W:=ml_of_shape hsh
  obtain ⟨s0,rfl,rfl,rfl,hs0⟩:=open_string Tryd.underlying9 (hval 0 9 v0 rfl rfl) h0
  have hlt1:∀ x∈p1,x.block<W.heap.size:=fun x hx=>by have:=hW'.lt x (by simp [hx]);simpa using this
  have hk1:=h1
  obtain ⟨ad1,len1,cap1,xs1,rfl,hl1,hcp1,hm1,hr1⟩:=texts_argP (hval 1 22 v1 rfl rfl) h1
  have hlt2:∀ x∈p2,x.block<W.heap.size:=fun x hx=>by have:=hW'.lt x (by simp [hx]);simpa using this
  have hk2:=h2
  obtain ⟨ad2,len2,cap2,xs2,rfl,hl2,hcp2,hm2,hr2⟩:=texts_argP (hval 2 22 v2 rfl rfl) h2
  obtain ⟨s3,rfl,rfl,rfl,hs3⟩:=open_string Tryd.underlying9 (hval 3 9 v3 rfl rfl) h3
  obtain ⟨i4,rfl,rfl,rfl,w4⟩:=open_int Tryd.underlying3 (hval 4 3 v4 rfl rfl) h4
  have hlt5:∀ x∈p5,x.block<W.heap.size:=fun x hx=>by have:=hW'.lt x (by simp [hx]);simpa using this
  have hk5:=h5
  have hw5:∀ n∈d5.weights Tryd.prog 28,n≤reachBytes:=fun n hn=>by
    have:=List.all_eq_true.1 hsz0 n (DataW.weights_mem_each (j:=5) (by rw [Tryd.params3];rfl) rfl n hn)
    simpa using this
  obtain ⟨t5,rfl,hr5⟩:=tree_arg (hval 5 28 v5 rfl rfl) h5 hw5
  have hlt6:∀ x∈p6,x.block<W.heap.size:=fun x hx=>by have:=hW'.lt x (by simp [hx]);simpa using this
  have hk6:=h6
  have hw6:∀ n∈d6.weights Tryd.prog 28,n≤reachBytes:=fun n hn=>by
    have:=List.all_eq_true.1 hsz0 n (DataW.weights_mem_each (j:=6) (by rw [Tryd.params3];rfl) rfl n hn)
    simpa using this
  obtain ⟨t6,rfl,hr6⟩:=tree_arg (hval 6 28 v6 rfl rfl) h6 hw6
  refine (pointerAll_walk s0 ad1 len1 cap1 xs1 ad2 len2 cap2 xs2 s3 i4 t5 t6 W hs0 hl1 hcp1 hm1 hr1 hl2 hcp2 hm2 hr2 hs3 (i64_bd w4) hr5 hr6 htb htb2).mono fun e W' ⟨he,hb⟩=>?_
  subst he
  have e1:Rows.pointerAllSpec.fn H ([.lit (.string s0.data.toList),d1,d2,.lit (.string s3.data.toList),.lit (.int .i64 i4),d5,d6]++[]) = { results:=[.lit (.bool true)],args:=[.lit (.string s0.data.toList),d1,d2,.lit (.string s3.data.toList),.lit (.int .i64 i4),d5,d6] }:=by simp [Rows.pointerAllSpec]
  refine ⟨_,rfl,_,_,_,[],([]++(p1++(p2++([]++([]++(p5++(p6++[]))))))),[],hW',?_,?_,?_,hb.frame fun p=>p∈([]++(p1++(p2++([]++([]++(p5++(p6++[])))))))++[]∧(p∈([]:List MemPlace)∨p∈([]++(p1++(p2++([]++([]++(p5++(p6++[])))))))∨p∈([]:List MemPlace)),fun h=>by cases h⟩
  · rw [e1];exact trodAll_mk1 (shut_bool Tryd.underlying4 true)
  · rw [e1];exact (trodAll_cons_mk (shut_string Tryd.underlying9 hs0) (trodAll_cons_mk (hargs_keep (by kernel_rfl) (of_decide_eq_true (by kernel_rfl)) hk1 hb hlt1) (trodAll_cons_mk (hargs_keep (by kernel_rfl) (of_decide_eq_true (by kernel_rfl)) hk2 hb hlt2) (trodAll_cons_mk (shut_string Tryd.underlying9 hs3) (trodAll_cons_mk (shut_int Tryd.underlying3 w4) (trodAll_cons_mk (hargs_keep (by kernel_rfl) (of_decide_eq_true (by kernel_rfl)) hk5 hb hlt5) (trodAll_cons_mk (hargs_keep (by kernel_rfl) (of_decide_eq_true (by kernel_rfl)) hk6 hb hlt6) trodAll_mk0)))))))
  · rw [e1];rfl
theorem over:Rows.pointerAllRow.holds Tryd.pinned (OpenSpec.ofChange Rows.pointerAllSpec) :=
  OpenClaim.holds_of_wide 3 Tryd.f3 rfl rfl rfl rfl rfl rfl rfl ⟨rfl,rfl,rfl,rfl,rfl⟩ rfl rfl rfl rfl rfl (by kernel_rfl) Tryd.func3 (by kernel_rfl)
    (of_decide_eq_true (by kernel_rfl)) (by unfold Func.isWrapper;first | (rw [if_pos (by decide +kernel)];kernel_rfl) | (rw [if_neg (by decide +kernel)];exact ⟨rfl,rfl⟩))
    (fun os started H enc _=>lifted os started H enc)
theorem proved:Rows.PointerAllCardSaid :=
  Claim7.holds_tied_plain_at .later [] [.data,.pinned] true Rows.pointerAllCard.stood.harness Rows.pointerAllCard.stood.looks over (fun _ h=>by cases h) (by kernel_rfl) (fun _ h=>by cases h) pointerAll_row_tie rfl ⟨rfl,rfl⟩ (by kernel_rfl) rfl
    (fun f fn hf hfn=>by
      obtain rfl:f=3:=Option.some.inj ((show Tryd.prog.funcNamed Rows.pointerAllRow.func=some 3 by kernel_rfl).symm.trans hf) |>.symm
      obtain rfl:fn=Tryd.f3:=(Option.some.inj (Tryd.func3.symm.trans hfn)).symm
      exact ⟨by kernel_rfl,fun j t ht=>by
        rw [Tryd.params3] at ht
        have hm:t∈([9,22,22,9,3,28,28]:List TypeId):=by simpa using Array.mem_of_getElem? ht
        have hall:(([9,22,22,9,3,28,28]:List TypeId).all fun u=>!Tryd.prog.wantsStandIn u)=true:=by kernel_rfl
        exact (show Tryd.prog.wantsStandIn t=false by simpa using List.all_eq_true.1 hall t hm)⟩)
    (by kernel_rfl)
#print axioms proved
end Go.Proofs.YticgggjfmhiilaaDoor.pointerAll
