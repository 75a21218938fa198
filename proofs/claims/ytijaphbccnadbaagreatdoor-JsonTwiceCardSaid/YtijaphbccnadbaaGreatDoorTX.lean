/- JsonTwice: for every input it answers true, and what came in stays. Conditions: the row's own cells say them. -/
import Derived.Test.YtijaphbccnadbaaGreatDoorTW
import Derived.Test.YtijaphbccnadbaaGreatDoorCards
set_option maxRecDepth 100000
namespace Go.Proofs.YtijaphbccnadbaaGreatDoor.jsonTwice
open Go.ChangeShapes Go.WideShapes Go.ChangeAt Go.RowKit
set_option linter.unusedVariables false
theorem lifted (os:Os) (st:os.Started) (H:Type) (enc:TypeId × Value→H) :
    ReturnsInHanded {} Tryz.checked os 7 .any (fun w args=>(Rows.jsonTwiceSpec.pre enc Tryz.prog Tryz.f7 Rows.jsonTwiceRow.domain false w args∧laidMetH Tryz.prog Rows.jsonTwiceRow.laid w)∧sizedMet enc Tryz.prog Tryz.f7 (OpenSpec.ofChange Rows.jsonTwiceSpec) false w args)
      (Rows.jsonTwiceSpec.post enc Tryz.prog Tryz.f7 false true false false):=by
  refine returnsInHanded_of_change_and (C:=Tryz.checked) (X:=fun w _=>laidMetH Tryz.prog Rows.jsonTwiceRow.laid w) (fun _ _ _ hh h=>h.of_heap hh) own st (by kernel_rfl) Tryz.func7
    (ChangeSpec.witness_shaped (enc:=enc) (C:=Tryz.checked) (os:=os) (X:=fun w _=>laidMetH Tryz.prog Rows.jsonTwiceRow.laid w) false (World.laidAll Tryz.prog os Rows.jsonTwiceRow.laid) #[.slice none 0 0,.int .i64 0,.bool false] 8 (World.laidAll_os _ _ _)
      (World.shaped_of_ZipB (by kernel_rfl) (by kernel_rfl)) (by kernel_rfl) (by kernel_rfl) (by kernel_rfl)
      (by rw [MakeChecks.laidMetH_plain _ _ _ (by kernel_rfl)];exact laidMet_laidAll _ (by kernel_rfl) (by kernel_rfl))) ?_
  intro W base args ds gs _ y hW hc _ hL _
  have z:∀ (j:Nat) t v,Tryz.f7.params[j]? = some t→args[j]? = some v→Value.okWide Tryz.prog W .any base t v:=y
  have w':=hW
  obtain ⟨p,q,b,hV,rfl,_,_⟩:=hW
  have hA:DataW.TrodAll enc Tryz.prog W 0 (fun _=>true) true Tryz.f7.params.toList args.toList ds p:=b
  rw [Tryz.params7] at hA z
  obtain ⟨v0,vs0,d0,ds0,p0,q0,a,rfl,rfl,h0,r0⟩:=trodAll_cons hA
  obtain ⟨v1,vs1,d1,ds1,p1,q1,rfl,rfl,rfl,h1,r1⟩:=trodAll_cons r0
  obtain ⟨v2,vs2,d2,ds2,p2,q2,rfl,rfl,rfl,h2,r2⟩:=trodAll_cons r1
  obtain ⟨rfl,rfl,rfl⟩:=trodAll_nil r2
  obtain rfl:args=#[v0,v1,v2]:=by cases args;simp_all
  obtain ⟨rfl,rfl⟩:=trodVars_none hV
  clear b y
  rw [MakeChecks.laidMetH_plain _ _ _ (by kernel_rfl)] at hL
  have t1:UT W:=ut_of_laid hL (by simp [Rows.jsonTwiceRow]) (by simp [Rows.jsonTwiceRow])
  have t2:TB W:=tb_of_laid hL
  have hl:∀ x∈p0,x.block<W.heap.size:=fun x hx=>by have:=w'.lt x (by simp [hx]);simpa using this
  obtain ⟨ad0,n,c,xs0,rfl,hl0,hcp0,ho0,hr0⟩:=ints_arg (z 0 40 v0 rfl rfl) h0
  obtain ⟨i1,rfl,rfl,rfl,w1⟩:=open_int Tryz.underlying3 (z 1 3 v1 rfl rfl) h1
  obtain ⟨b2,rfl,rfl,rfl⟩:=open_bool Tryz.underlying4 (z 2 4 v2 rfl rfl) h2
  refine (jsonTwice_walk ad0 n c xs0 i1 b2 W hl0 hcp0 ho0 hr0 (i64_bd w1) t1 t2).mono fun e W' ⟨he,hb⟩=>?_
  subst he
  have e1:Rows.jsonTwiceSpec.fn H ([d0,.lit (.int .i64 i1),.lit (.bool b2)]++[]) = { results:=[.lit (.bool true)],args:=[d0,.lit (.int .i64 i1),.lit (.bool b2)] }:=by simp [Rows.jsonTwiceSpec]
  refine ⟨_,rfl,_,_,_,[],(p0++([]++([]++[]))),[],w',?_,?_,?_,hb.frame fun p=>p∈(p0++([]++([]++[])))++[]∧(p∈([]:List MemPlace)∨p∈(p0++([]++([]++[])))∨p∈([]:List MemPlace)),nofun⟩
  · rw [e1];exact trodAll_mk1 (shut_bool Tryz.underlying4 true)
  · rw [e1];exact (trodAll_cons_mk (hargs_keep (by kernel_rfl) (of_decide_eq_true (by kernel_rfl)) h0 hb hl) (trodAll_cons_mk (shut_int Tryz.underlying3 w1) (trodAll_cons_mk (shut_bool Tryz.underlying4 b2) trodAll_mk0)))
  · rw [e1];rfl
theorem over:Rows.jsonTwiceRow.holds Tryz.pinned (OpenSpec.ofChange Rows.jsonTwiceSpec) :=
  OpenClaim.holds_of_wide 7 Tryz.f7 rfl rfl rfl rfl rfl rfl rfl ⟨rfl,rfl,rfl,rfl,rfl⟩ rfl rfl rfl rfl rfl (by kernel_rfl) Tryz.func7 (by kernel_rfl)
    (of_decide_eq_true (by kernel_rfl)) (by unfold Func.isWrapper;rw [if_neg (by decide +kernel)];exact ⟨rfl,rfl⟩)
    (fun os st H enc _=>lifted os st H enc)
theorem proved:Rows.JsonTwiceCardSaid :=
  Claim7.holds_tied_plain_at .later [] [.data,.data,.data,.data,.pinned] true Rows.jsonTwiceCard.stood.harness Rows.jsonTwiceCard.stood.looks over nofun (by kernel_rfl) nofun jsonTwice_row_tie rfl ⟨rfl,rfl⟩ (by kernel_rfl) rfl
    (fun f fn hf hfn=>by
      obtain rfl:f=7:=Option.some.inj ((show Tryz.prog.funcNamed Rows.jsonTwiceRow.func=some 7 by kernel_rfl).symm.trans hf) |>.symm
      obtain rfl:fn=Tryz.f7:=(Option.some.inj (Tryz.func7.symm.trans hfn)).symm
      exact ⟨by kernel_rfl,fun j t ht=>by
        rw [Tryz.params7] at ht
        have hm:t∈([40,3,4]:List TypeId):=by simpa using Array.mem_of_getElem? ht
        have hall:(([40,3,4]:List TypeId).all fun u=>!Tryz.prog.wantsStandIn u)=true:=by kernel_rfl
        exact (show Tryz.prog.wantsStandIn t=false by simpa using List.all_eq_true.1 hall t hm)⟩)
    (by kernel_rfl)
#print axioms proved
end Go.Proofs.YtijaphbccnadbaaGreatDoor.jsonTwice
