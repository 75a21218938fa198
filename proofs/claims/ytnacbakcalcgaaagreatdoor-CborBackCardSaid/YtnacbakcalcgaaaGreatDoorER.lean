/- Texts of the claim. -/
import Derived.Test.YtnacbakcalcgaaaGreatDoorEN
import Derived.Test.YtnacbakcalcgaaaGreatDoorEl
import Derived.Lib.Small
import Derived.OwnWalk
import Derived.Laws.AppendOwn
import Derived.Laws.MakeOwn
set_option linter.unusedVariables false
set_option linter.unusedSimpArgs false
set_option maxHeartbeats 200000
set_option maxRecDepth 100000
namespace Go.Proofs.YtnacbakcalcgaaaGreatDoor
open Go.RowKit Go.Lib Go.Sort
structure GC (d:Nat) (u:MT):Prop where
  sd:SndC u d
  ba:u.bare=u
theorem nodesL_snocC (l:List MT) (t:MT):MT.nodesL (l++[t])=MT.nodesL l+t.nodes:=by
  induction l with
  | nil=>rw [List.nil_append,MT.nodesL_cons,MT.nodesL_nil];omega
  | cons u l ih=>rw [List.cons_append,MT.nodesL_cons,ih,MT.nodesL_cons];omega
theorem snd_mkC {t:MT} {d:Nat} (hd:d≤64) (h:soundB t=true) (hv:∀ u∈t.v,SndC u (d+1)):SndC t d:=by
  intro x hx
  rw [MT.pre_eq,List.mem_cons] at hx
  rcases hx with rfl | hx
  · exact ⟨hd,h⟩
  · obtain ⟨u,hu,hx⟩:=MT.mem_preL.1 hx
    exact hv u hu x hx
theorem gc_leaf {d:Nat} {k:Int} {b:Bool} {s:ByteArray} (hd:d≤64) (h:soundB (leafT k b s)=true):GC d (leafT k b s):=by
  refine ⟨snd_mkC hd h (fun u hu=>by cases hu),?_⟩
  rw [MT.bare_eq];rfl
theorem leaf_nodesC (k:Int) (b:Bool) (s:ByteArray):(leafT k b s).nodes=1:=by rw [MT.nodes_eq];rfl
theorem bnum_nodesC (r:Bool × Nat × Int):(bnumC r).nodes=1:=by rw [MT.nodes_eq];rfl
theorem okN_strB {p:List Nat} (h1:p.length≤2000) (h2:validB p=true):okN (strB p)=true:=by
  unfold okN
  rw [Bool.and_eq_true,strB_size,strB_data]
  exact ⟨decide_eq_true h1,h2⟩
theorem gc_text {d:Nat} {p:List Nat} (hd:d≤64) (h1:p.length≤2000) (h2:validB p=true):GC d (leafT 4 false (strB p)):=by
  refine gc_leaf hd ?_
  show (validL (strB p).data.toList && (decide ((strB p).size≤2000) && _))=true
  rw [strB_data,strB_size,Bool.and_eq_true,Bool.and_eq_true]
  exact ⟨h2,decide_eq_true h1,rfl⟩
theorem gc_bytes {d:Nat} {p:List Nat} (hd:d≤64) (h1:p.length≤2000):GC d (leafT 5 false (strB p)):=by
  refine gc_leaf hd ?_
  show (decide ((strB p).size≤2000) && _)=true
  rw [strB_size,Bool.and_eq_true]
  exact ⟨decide_eq_true h1,rfl⟩
def NumT (t:MT):Prop:=∃ r:Bool × Nat × Int,chkB r.1 (limbs r.2.1) r.2.2=true∧t=bnumC r
theorem gc_num {d:Nat} {t:MT} (hd:d≤64) (h:NumT t):GC d t∧t.nodes=1:=by
  obtain ⟨r,h,rfl⟩:=h
  refine ⟨⟨snd_mkC hd ?_ (fun u hu=>by cases hu),?_⟩,bnum_nodesC r⟩
  · show (chkB r.1 (limbs r.2.1) r.2.2 && _)=true
    rw [h];rfl
  · rw [MT.bare_eq];rfl
theorem gc_arr {d:Nat} {us:List MT} (hd:d≤64) (hl:us.length≤300) (hu:∀ u∈us,GC (d+1) u):GC d (barrC us):=by
  refine ⟨snd_mkC hd ?_ (fun u h=>(hu u h).sd),?_⟩
  · show (decide (us.length≤300) && _)=true
    rw [decide_eq_true hl];rfl
  · rw [MT.bare_eq]
    have:us.map MT.bare=us:=(List.map_congr_left (fun u h=>(hu u h).ba)).trans (List.map_id us)
    show MT.mk _ _ _ (us.map MT.bare)=_
    rw [this];rfl
theorem gc_obj {d:Nat} {ks:List ByteArray} {us:List MT} (hd:d≤64) (hl:us.length≤300) (hk:ks.length=us.length) (hr:risesB ks=true) (hu:∀ u∈us,GC (d+1) u):GC d (bobjC ks us):=by
  refine ⟨snd_mkC hd ?_ (fun u h=>(hu u h).sd),?_⟩
  · show (decide (ks.length=us.length) && (risesB ks && (decide (us.length≤300) && _)))=true
    rw [decide_eq_true hk,hr,decide_eq_true hl];rfl
  · rw [MT.bare_eq]
    have:us.map MT.bare=us:=(List.map_congr_left (fun u h=>(hu u h).ba)).trans (List.map_id us)
    show MT.mk _ _ _ (us.map MT.bare)=_
    rw [this];rfl
theorem nd_injC {α:Type} {l:List α} (h:l.Nodup) {i j:Nat} (hi:i<l.length) (hj:j<l.length) (e:l[i]=l[j]):i=j:=by
  rcases Nat.lt_trichotomy i j with g | g | g
  · exact absurd e (List.pairwise_iff_getElem.1 h i j hi hj g)
  · exact g
  · exact absurd e.symm (List.pairwise_iff_getElem.1 h j i hj hi g)
theorem sortC_perm (ks:List ByteArray):(sortC ks).Perm (List.range' 0 ks.length):=srt_perm _ _ _ _
theorem mapC_sorted {α:Type} {ks:List ByteArray} {us:List α} (d:α) (h:us.length=ks.length):((sortC ks).map fun i=>us.getD i d).Perm us:=by
  have h1:=(sortC_perm ks).map fun i=>us.getD i d
  rw [← h,range_getDC] at h1
  exact h1
theorem sortC_rises {ks:List ByteArray} (hn:ks.Nodup) (hk:∀ k∈ks,okN k=true):risesB ((sortC ks).map fun i=>ks.getD i ByteArray.empty)=true:=by
  have hlen:(sortC ks).length=ks.length:=by have:=(sortC_perm ks).length_eq;simpa using this
  have hin:∀ a,a∈sortC ks→a<ks.length:=fun a ha=>by
    have:=(sortC_perm ks).mem_iff.1 ha
    rw [List.mem_range'_1] at this
    simpa using this.2
  have hnd:(sortC ks).Nodup:=(sortC_perm ks).nodup_iff.2 (List.nodup_range' (step:=1))
  have hst:=srt_sorted sto_bytes (fun i=>(ks.getD i ByteArray.empty).toList) 0 ks.length
  rw [risesB_iff]
  intro i hi
  rw [List.length_map,hlen] at hi
  have hg:∀ j (hj:j<ks.length),((sortC ks).map fun i=>ks.getD i ByteArray.empty).getD j ByteArray.empty=ks.getD ((sortC ks)[j]'(by omega)) ByteArray.empty:=fun j hj=>by
    simp [List.getD,hlen,hj]
  unfold nameAt
  rw [Bool.and_eq_true]
  constructor
  · rw [hg i hi]
    have ha:=hin _ (List.getElem_mem (show i<(sortC ks).length by omega))
    exact hk _ (by simp [List.getD,ha])
  · rw [Bool.or_eq_true]
    by_cases h0:i=0
    · exact .inl (decide_eq_true h0)
    · right
      rw [hg i hi,hg (i - 1) (by omega)]
      have hlt:i - 1<i:=by omega
      have hp:=List.pairwise_iff_getElem.1 hst (i - 1) i (by unfold sortC at hlen;rw [hlen];omega) (by unfold sortC at hlen;rw [hlen];omega) hlt
      rw [leI_iff] at hp
      have ha:=hin _ (List.getElem_mem (show i - 1<(sortC ks).length by omega))
      have hb:=hin _ (List.getElem_mem (show i<(sortC ks).length by omega))
      have hne:(sortC ks)[i - 1]'(by omega) ≠ (sortC ks)[i]'(by omega):=fun e=>by
        have:=nd_injC hnd _ _ e
        omega
      unfold ltS
      rcases hp with hp | ⟨hp,_⟩
      · exact hp
      · exfalso
        unfold sortC at ha hb hne
        rw [ByteArray.toList_eq,ByteArray.toList_eq] at hp
        have hp2:=congrArg List.toArray hp
        simp only [Array.toArray_toList] at hp2
        have hp3:ks.getD _ ByteArray.empty=ks.getD _ ByteArray.empty:=ByteArray.ext hp2
        rw [List.getD_eq_getElem?_getD,List.getD_eq_getElem?_getD,List.getElem?_eq_getElem ha,List.getElem?_eq_getElem hb] at hp3
        simp only [Option.getD_some] at hp3
        exact hne (nd_injC hn _ _ hp3)
theorem nodesL_permD {l k:List MT} (h:l.Perm k):MT.nodesL l=MT.nodesL k:=by
  induction h with
  | nil=>rfl
  | cons x _ ih=>rw [MT.nodesL_cons,MT.nodesL_cons,ih]
  | swap x y l=>simp only [MT.nodesL_cons];omega
  | trans _ _ h1 h2=>exact h1.trans h2
theorem gc_object {d:Nat} {ks:List ByteArray} {us:List MT} (hd:d≤64) (hn:ks.Nodup) (hk:∀ k∈ks,okN k=true) (hl:ks.length=us.length) (h3:us.length≤300) (hu:∀ u∈us,GC (d+1) u) :
    GC d (bobjC ((sortC ks).map fun i=>ks.getD i ByteArray.empty) ((sortC ks).map fun i=>us.getD i (leafT 0 false ⟨#[]⟩)))∧(bobjC ((sortC ks).map fun i=>ks.getD i ByteArray.empty) ((sortC ks).map fun i=>us.getD i (leafT 0 false ⟨#[]⟩))).nodes=1+MT.nodesL us:=by
  have hpu:=mapC_sorted (ks:=ks) (us:=us) (leafT 0 false ⟨#[]⟩) hl.symm
  have hpk:=mapC_sorted (ks:=ks) (us:=ks) ByteArray.empty rfl
  refine ⟨gc_obj hd (by rw [hpu.length_eq];exact h3) (by rw [hpu.length_eq,hpk.length_eq];omega) (sortC_rises hn hk) (fun u h=>hu u (hpu.mem_iff.1 h)),?_⟩
  rw [MT.nodes_eq]
  show 1+MT.nodesL ((sortC ks).map fun i=>us.getD i (leafT 0 false ⟨#[]⟩))=_
  rw [nodesL_permD hpu]
theorem mkN_chk {neg:Bool} {N:Nat} {e:Int} {r:Bool × Nat × Int} (h:mkN neg N e=some r):chkB r.1 (limbs r.2.1) r.2.2=true:=by
  unfold mkN at h
  split at h
  · cases h;rfl
  · rename_i h0
    split at h
    · rename_i hb
      cases h
      exact chkB_mk (trim_spec h0).2 hb.1 hb.2.1 hb.2.2
    · cases h
theorem exactN_chk {width:Int} {x:Nat} {r:Bool × Nat × Int} (h:exactN width x=some r):chkB r.1 (limbs r.2.1) r.2.2=true:=by
  unfold exactN at h
  split at h
  · cases h
    unfold exNegW exMW exEW
    cases hl:layOf width with
    | none=>rfl
    | some p =>
      obtain ⟨e,f⟩:=p
      simp only
      by_cases hk:kindF e f x=1
      · rw [if_pos hk,if_pos hk]
        obtain ⟨e1,e2,e3,e4,e5⟩:=ex_bounds (layOf_lay hl) hk
        exact chkB_mk e2 e3 e4 e5
      · rw [if_neg hk,if_neg hk,decide_eq_false hk]
        rfl
  · cases h
theorem cbHead_err {l:List Nat} {x:Int} (h:cbHead l=.inr x):x=2:=by
  unfold cbHead at h
  split at h
  · cases h
  · cases h;rfl
theorem head_major {c:Nat} {r r2:List Nat} {h:HdC} (e:cbHead (c::r)=.inl (h,r2)):h.1=c / 32:=by
  unfold cbHead at e
  split at e
  · rename_i h0
    simp only [Sum.inl.injEq,Prod.mk.injEq] at e
    obtain ⟨rfl,rfl⟩:=e
    have hg:=getN_in (c::r) 0 c (by simp) rfl
    rw [Int.natCast_zero] at hg
    cases hs:sizeH (c % 32) with
    | none=>rw [hs] at hg;simp only at hg;rw [hg] at h0;simp at h0
    | some s =>
      rw [hs] at hg
      simp only at hg
      split at hg
      · rw [hg] at h0;simp at h0
      · rw [hg]
  · cases e
theorem ends_err {l:List Nat} {x:Int} (h:cbEnds l=.inr x):x=2:=by
  unfold cbEnds at h
  split at h
  · cases h;rfl
  · split at h <;> cases h
theorem cpiece_ok {m k:Nat} {l p r:List Nat} (h:cbPiece m k l=.inl (p,r)):p.length=k∧(m=3→validB p=true):=by
  unfold cbPiece at h
  split at h
  · cases h
  · split at h
    · cases h
    · rename_i h1 h2
      simp only [Sum.inl.injEq,Prod.mk.injEq] at h
      obtain ⟨rfl,rfl⟩:=h
      refine ⟨by rw [List.length_take];omega,fun hm=>?_⟩
      cases hv:validB (l.take k)
      · exact absurd ⟨hm,hv⟩ h2
      · rfl
theorem cpiece_err {m k:Nat} {l:List Nat} {x:Int} (h:cbPiece m k l=.inr x):x=2:=by
  unfold cbPiece at h
  split at h
  · cases h;rfl
  · split at h
    · cases h;rfl
    · cases h
theorem validB_append {a b:List Nat} (h:validB a=true) (k:validB b=true):validB (a++b)=true:=by
  unfold validB at *
  rw [List.map_append]
  exact (valid_append h k).1
theorem cparts_ok {m:Nat}:∀ (f:Nat) (a l p r:List Nat),cbParts m f a l=.inl (p,r)→a.length≤2000→(m=3→validB a=true)→p.length≤2000∧(m=3→validB p=true):=by
  intro f
  induction f with
  | zero=>intro a l p r h;cases h
  | succ f ih =>
    intro a l p r h ha hv
    unfold cbParts at h
    split at h
    · cases h
    · simp only [Sum.inl.injEq,Prod.mk.injEq] at h
      obtain ⟨rfl,rfl⟩:=h
      exact ⟨ha,hv⟩
    · split at h
      · cases h
      · split at h
        · cases h
        · rename_i hm
          split at h
          · cases h
          · rename_i q r3 hp
            split at h
            · cases h
            · rename_i hl
              have hm1:=Classical.not_not.1 (fun c=>hm (.inl c))
              rw [hm1] at hp
              exact ih _ _ _ _ h (by omega) (fun h3=>validB_append (hv h3) ((cpiece_ok hp).2 h3))
theorem cparts_err {m:Nat}:∀ (f:Nat) (a l:List Nat) (x:Int),cbParts m f a l=.inr x→x=2∨x=4:=by
  intro f
  induction f with
  | zero=>intro a l x h;cases h;exact .inl rfl
  | succ f ih =>
    intro a l x h
    unfold cbParts at h
    split at h
    · rename_i he;cases h;exact .inl (ends_err he)
    · cases h
    · split at h
      · rename_i he;cases h;exact .inl (cbHead_err he)
      · split at h
        · cases h;exact .inl rfl
        · split at h
          · rename_i he;cases h;exact .inl (cpiece_err he)
          · split at h
            · cases h;exact .inr rfl
            · exact ih _ _ _ h
theorem ctext_ok {h0:HdC} {l p r:List Nat} (h:cbText h0 l=.inl (p,r)):p.length≤2000∧(h0.1=3→validB p=true):=by
  unfold cbText at h
  split at h
  · exact cparts_ok _ _ _ _ _ h (Nat.zero_le _) (fun _=>rfl)
  · split at h
    · cases h
    · rename_i hl
      obtain ⟨h1,h2⟩:=cpiece_ok h
      exact ⟨by omega,h2⟩
theorem ctext_err {h0:HdC} {l:List Nat} {x:Int} (h:cbText h0 l=.inr x):x=2∨x=4:=by
  unfold cbText at h
  split at h
  · exact cparts_err _ _ _ _ h
  · split at h
    · cases h;exact .inr rfl
    · exact .inl (cpiece_err h)
def E3 (x:Int):Prop:=x=2∨x=3∨x=4
theorem E3.of {x:Int} (h:x=2∨x=4):E3 x:=h.elim .inl (fun h=>.inr (.inr h))
theorem cpart_err {a b:Nat} {l:List Nat} {x:Int} (h:cbPart a b l=.inr x):E3 x:=by
  unfold cbPart at h
  split at h
  · cases h;exact .inl rfl
  · split at h
    · cases h;exact .inr (.inl rfl)
    · exact .inl (cbHead_err h)
theorem clong_err {t:Nat} {l:List Nat} {x:Int} (h:cbLong t l=.inr x):E3 x:=by
  unfold cbLong at h
  split at h
  · rename_i he;cases h;exact cpart_err he
  · split at h
    · rename_i he;cases h;exact .of (ctext_err he)
    · cases h
theorem cdigits_err {l:List Nat} {x:Int} (h:cbDigits l=.inr x):E3 x:=by
  unfold cbDigits at h
  split at h
  · cases h;exact .inl rfl
  · split at h
    · split at h
      · rename_i he;cases h;exact .inl (cbHead_err he)
      · exact clong_err h
    · split at h
      · rename_i he;cases h;exact cpart_err he
      · cases h
theorem cnum_ok {i:IntC} {e:Int} {t:MT} (h:cbNum i e=.inl t):NumT t:=by
  unfold cbNum at h
  split at h
  · cases h
  · rename_i r hr
    cases h
    exact ⟨r,mkN_chk hr,rfl⟩
theorem cnum_err {i:IntC} {e:Int} {x:Int} (h:cbNum i e=.inr x):E3 x:=by
  unfold cbNum at h
  split at h
  · cases h;exact .inr (.inr rfl)
  · cases h
theorem cdec_ok {l r:List Nat} {t:MT} (h:cbDec l=.inl (t,r)):NumT t:=by
  unfold cbDec at h
  split at h
  · cases h
  · split at h
    · cases h
    · split at h
      · cases h
      · split at h
        · cases h
        · split at h
          · cases h
          · rename_i hn
            simp only [Sum.inl.injEq,Prod.mk.injEq] at h
            obtain ⟨rfl,rfl⟩:=h
            exact cnum_ok hn
theorem cdec_err {l:List Nat} {x:Int} (h:cbDec l=.inr x):E3 x:=by
  unfold cbDec at h
  split at h
  · rename_i he;cases h;exact cpart_err he
  · split at h
    · cases h;exact .inr (.inl rfl)
    · split at h
      · rename_i he;cases h;exact cpart_err he
      · split at h
        · rename_i he;cases h;exact cdigits_err he
        · split at h
          · rename_i he;cases h;exact cnum_err he
          · cases h
theorem ctag_ok {k:Nat} {l r:List Nat} {t:MT} (h:cbTag k l=.inl (t,r)):NumT t:=by
  unfold cbTag at h
  split at h
  · split at h
    · cases h
    · split at h
      · cases h
      · rename_i hn
        simp only [Sum.inl.injEq,Prod.mk.injEq] at h
        obtain ⟨rfl,rfl⟩:=h
        exact cnum_ok hn
  · split at h
    · exact cdec_ok h
    · cases h
theorem ctag_err {k:Nat} {l:List Nat} {x:Int} (h:cbTag k l=.inr x):E3 x:=by
  unfold cbTag at h
  split at h
  · split at h
    · rename_i he;cases h;exact clong_err he
    · split at h
      · rename_i he;cases h;exact cnum_err he
      · cases h
  · split at h
    · exact cdec_err h
    · cases h;exact .inr (.inl rfl)
theorem csimple_ok {h0:HdC} {t:MT} {d:Nat} (hd:d≤64) (h:cbSimple h0=.inl t):GC d t∧t.nodes=1:=by
  unfold cbSimple at h
  split at h
  · cases h;exact ⟨gc_leaf hd rfl,leaf_nodesC _ _ _⟩
  split at h
  · cases h;exact ⟨gc_leaf hd rfl,leaf_nodesC _ _ _⟩
  split at h
  · cases h;exact ⟨gc_leaf hd rfl,leaf_nodesC _ _ _⟩
  split at h
  · cases h
  split at h
  · cases h
  split at h
  · cases h
  · rename_i r hr
    cases h
    exact gc_num hd ⟨r,exactN_chk hr,rfl⟩
theorem csimple_err {h0:HdC} {x:Int} (h:cbSimple h0=.inr x):E3 x:=by
  unfold cbSimple at h
  split at h
  · cases h
  split at h
  · cases h
  split at h
  · cases h
  split at h
  · cases h;exact .inl rfl
  split at h
  · cases h;exact .inr (.inl rfl)
  split at h
  · cases h;exact .inr (.inl rfl)
  · cases h
theorem cmore_lt {op:Bool} {k taken:Nat} {l r:List Nat} (h:cbMore op k taken l=.inl (true,r)) (hk:k≤300) (ht:taken≤300):taken<300:=by
  unfold cbMore at h
  split at h
  · split at h
    · cases h
    · cases h
    · split at h
      · cases h
      · omega
  · simp only [Sum.inl.injEq,Prod.mk.injEq] at h
    have:=of_decide_eq_true h.1
    omega
theorem cmore_err {op:Bool} {k taken:Nat} {l:List Nat} {x:Int} (h:cbMore op k taken l=.inr x):E3 x:=by
  unfold cbMore at h
  split at h
  · split at h
    · rename_i he;cases h;exact .inl (ends_err he)
    · cases h
    · split at h
      · cases h;exact .inr (.inr rfl)
      · cases h
  · cases h
theorem cname_ok {l p r:List Nat} (h:cbName l=.inl (p,r)):okN (strB p)=true:=by
  unfold cbName at h
  split at h
  · cases h
  · rename_i c r0
    split at h
    · cases h
    · rename_i hc
      split at h
      · cases h
      · rename_i h0 r1 he
        obtain ⟨h1,h2⟩:=ctext_ok h
        have h3:=head_major he
        exact okN_strB h1 (h2 (by omega))
theorem cname_err {l:List Nat} {x:Int} (h:cbName l=.inr x):E3 x:=by
  unfold cbName at h
  split at h
  · cases h;exact .inl rfl
  · split at h
    · cases h;exact .inr (.inl rfl)
    · split at h
      · rename_i he;cases h;exact .inl (cbHead_err he)
      · exact .of (ctext_err h)
def VGC (V:List Nat→Nat→RC MT) (D:Nat):Prop:=∀ l n p,n≤2000→V l n=.inl p→GC D p.1∧p.2.2=n+p.1.nodes∧p.2.2≤2000
def VEC (V:List Nat→Nat→RC MT):Prop:=∀ l n x,V l n=.inr x→E3 x
theorem citems_good {V:List Nat→Nat→RC MT} {D:Nat} (hV:VGC V D) {op:Bool} {k:Nat} (hk:k≤300):∀ (f:Nat) (us:List MT) (l:List Nat) (n:Nat) (p:List MT × List Nat × Nat),cbItems V op k f us l n=.inl p→us.length≤300→n≤2000→(∀ u∈us,GC D u) →
    (∀ u∈p.1,GC D u)∧p.1.length≤300∧p.2.2+MT.nodesL us=n+MT.nodesL p.1∧p.2.2≤2000:=by
  intro f
  induction f with
  | zero=>intro us l n p h;cases h
  | succ f ih =>
    intro us l n p h hl hn hu
    unfold cbItems at h
    split at h
    · cases h
    · simp only [Sum.inl.injEq] at h
      subst h
      exact ⟨hu,hl,rfl,hn⟩
    · rename_i hm
      split at h
      · cases h
      · rename_i t r3 n2 hv
        obtain ⟨g1,g2,g3⟩:=hV _ _ _ hn hv
        have hlt:=cmore_lt hm hk hl
        obtain ⟨i1,i2,i3,i4⟩:=ih _ _ _ _ h (by simp;omega) g3 (fun u hu'=>by
          rcases List.mem_append.1 hu' with h | h
          · exact hu u h
          · rw [List.mem_singleton.1 h];exact g1)
        refine ⟨i1,i2,?_,i4⟩
        rw [nodesL_snocC] at i3
        simp only at g2
        omega
theorem citems_err {V:List Nat→Nat→RC MT} (hV:VEC V) {op:Bool} {k:Nat}:∀ (f:Nat) (us:List MT) (l:List Nat) (n:Nat) (x:Int),cbItems V op k f us l n=.inr x→E3 x:=by
  intro f
  induction f with
  | zero=>intro us l n x h;cases h;exact .inl rfl
  | succ f ih =>
    intro us l n x h
    unfold cbItems at h
    split at h
    · rename_i he;cases h;exact cmore_err he
    · cases h
    · split at h
      · rename_i he;cases h;exact hV _ _ _ he
      · exact ih _ _ _ _ h
theorem cmems_good {V:List Nat→Nat→RC MT} {D:Nat} (hV:VGC V D) {op:Bool} {k:Nat} (hk:k≤300):∀ (f:Nat) (ks:List ByteArray) (us:List MT) (l:List Nat) (n:Nat) (p:(List ByteArray × List MT) × List Nat × Nat),cbMembers V op k f ks us l n=.inl p→ks.length=us.length→us.length≤300→n≤2000→(∀ k∈ks,okN k=true)→(∀ u∈us,GC D u) →
    (∀ k∈p.1.1,okN k=true)∧(∀ u∈p.1.2,GC D u)∧p.1.1.length=p.1.2.length∧p.1.2.length≤300∧p.2.2+MT.nodesL us=n+MT.nodesL p.1.2∧p.2.2≤2000:=by
  intro f
  induction f with
  | zero=>intro ks us l n p h;cases h
  | succ f ih =>
    intro ks us l n p h hkl hl hn hks hu
    unfold cbMembers at h
    split at h
    · cases h
    · simp only [Sum.inl.injEq] at h
      subst h
      exact ⟨hks,hu,hkl,hl,rfl,hn⟩
    · rename_i hm
      split at h
      · cases h
      · rename_i s r1 hs
        split at h
        · cases h
        · rename_i t r3 n2 hv
          obtain ⟨g1,g2,g3⟩:=hV _ _ _ hn hv
          have hlt:=cmore_lt hm hk hl
          obtain ⟨i0,i1,i2,i3,i4,i5⟩:=ih _ _ _ _ _ h (by simp;omega) (by simp;omega) g3 (fun u hu'=>by
            rcases List.mem_append.1 hu' with h | h
            · exact hks u h
            · rw [List.mem_singleton.1 h];exact cname_ok hs) (fun u hu'=>by
            rcases List.mem_append.1 hu' with h | h
            · exact hu u h
            · rw [List.mem_singleton.1 h];exact g1)
          refine ⟨i0,i1,i2,i3,?_,i5⟩
          rw [nodesL_snocC] at i4
          simp only at g2
          omega
theorem cmems_err {V:List Nat→Nat→RC MT} (hV:VEC V) {op:Bool} {k:Nat}:∀ (f:Nat) (ks:List ByteArray) (us:List MT) (l:List Nat) (n:Nat) (x:Int),cbMembers V op k f ks us l n=.inr x→E3 x:=by
  intro f
  induction f with
  | zero=>intro ks us l n x h;cases h;exact .inl rfl
  | succ f ih =>
    intro ks us l n x h
    unfold cbMembers at h
    split at h
    · rename_i he;cases h;exact cmore_err he
    · cases h
    · split at h
      · rename_i he;cases h;exact cname_err he
      · split at h
        · rename_i he;cases h;exact hV _ _ _ he
        · exact ih _ _ _ _ _ h
theorem cbehind_good {V:List Nat→Nat→RC MT} {D:Nat} (hD:D≤64) (hV:VGC V (D+1)) (h0:HdC) (l:List Nat) (n:Nat) (p:MT × List Nat × Nat) (hn:n≤2000) (h:cbBehind V h0 l n=.inl p) :
    GC D p.1∧p.2.2+1=n+p.1.nodes∧p.2.2≤2000:=by
  unfold cbBehind at h
  split at h
  · split at h
    · cases h
    · rename_i he
      simp only [Sum.inl.injEq] at h
      subst h
      exact ⟨gc_bytes hD (ctext_ok he).1,by simp only [leaf_nodesC],hn⟩
  split at h
  · rename_i h3
    split at h
    · cases h
    · rename_i he
      simp only [Sum.inl.injEq] at h
      subst h
      exact ⟨gc_text hD (ctext_ok he).1 ((ctext_ok he).2 h3),by simp only [leaf_nodesC],hn⟩
  split at h
  · unfold cbArr at h
    split at h
    · cases h
    · rename_i hk
      split at h
      · cases h
      · rename_i us r n2 he
        simp only [Sum.inl.injEq] at h
        subst h
        obtain ⟨g1,g2,g3,g4⟩:=citems_good hV (by omega) _ _ _ _ _ he (Nat.zero_le _) hn (fun u hu=>by cases hu)
        rw [MT.nodesL_nil] at g3
        refine ⟨gc_arr hD g2 g1,?_,g4⟩
        show n2+1=n+(barrC us).nodes
        rw [MT.nodes_eq]
        show _=n+(1+MT.nodesL us)
        simp only at g3
        omega
  split at h
  · unfold cbObj at h
    split at h
    · cases h
    · rename_i hk
      split at h
      · cases h
      · rename_i ks us r n2 he
        obtain ⟨g0,g1,g2,g3,g4,g5⟩:=cmems_good hV (by omega) _ _ _ _ _ _ he rfl (Nat.zero_le _) hn (fun u hu=>by cases hu) (fun u hu=>by cases hu)
        rw [MT.nodesL_nil] at g4
        split at h
        · rename_i hnd
          simp only [Sum.inl.injEq] at h
          subst h
          obtain ⟨k1,k2⟩:=gc_object hD hnd g0 g2 g3 g1
          refine ⟨k1,?_,g5⟩
          have g4':n2+0=n+MT.nodesL us:=g4
          show n2+1=n+MT.nodes _
          rw [k2]
          show n2+1=n+(1+MT.nodesL us)
          omega
        · cases h
  split at h
  · split at h
    · cases h
    · rename_i he
      simp only [Sum.inl.injEq] at h
      subst h
      obtain ⟨g1,g2⟩:=csimple_ok hD he
      exact ⟨g1,by simp only [g2],hn⟩
  split at h
  · cases h
  split at h
  · unfold withN at h
    split at h
    · cases h
    · rename_i he
      simp only [Sum.inl.injEq] at h
      subst h
      obtain ⟨g1,g2⟩:=gc_num hD (ctag_ok he)
      exact ⟨g1,by simp only [g2],hn⟩
  · split at h
    · cases h
    · rename_i he
      simp only [Sum.inl.injEq] at h
      subst h
      obtain ⟨g1,g2⟩:=gc_num hD (cnum_ok he)
      exact ⟨g1,by simp only [g2],hn⟩
theorem cbehind_err {V:List Nat→Nat→RC MT} (hV:VEC V) (h0:HdC) (l:List Nat) (n:Nat) (x:Int) (h:cbBehind V h0 l n=.inr x):E3 x:=by
  unfold cbBehind at h
  split at h
  · split at h
    · rename_i he;cases h;exact .of (ctext_err he)
    · cases h
  split at h
  · split at h
    · rename_i he;cases h;exact .of (ctext_err he)
    · cases h
  split at h
  · unfold cbArr at h
    split at h
    · cases h;exact .inr (.inr rfl)
    · split at h
      · rename_i he;cases h;exact citems_err hV _ _ _ _ _ he
      · cases h
  split at h
  · unfold cbObj at h
    split at h
    · cases h;exact .inr (.inr rfl)
    · split at h
      · rename_i he;cases h;exact cmems_err hV _ _ _ _ _ _ he
      · split at h
        · cases h
        · cases h;exact .inl rfl
  split at h
  · split at h
    · rename_i he;cases h;exact csimple_err he
    · cases h
  split at h
  · cases h;exact .inl rfl
  split at h
  · unfold withN at h
    split at h
    · rename_i he;cases h;exact ctag_err he
    · cases h
  · split at h
    · rename_i he;cases h;exact cnum_err he
    · cases h
theorem cvalue_good:∀ f,f≤65→VGC (cbValue f) (66 - f):=by
  intro f
  induction f with
  | zero=>intro _ l n p _ h;cases h
  | succ f ih =>
    intro hf l n p hn h
    have hV:=ih (by omega)
    cases l with
    | nil=>rw [cbV_nil] at h;cases h
    | cons c r =>
      by_cases hc:c=255
      · subst hc;rw [cbV_break] at h;cases h
      by_cases hlim:n=2000∨f=0
      · rw [cbV_limit hc hlim] at h;cases h
      cases hh:cbHead (c::r) with
      | inr x=>rw [cbV_head hc hlim hh] at h;cases h
      | inl q =>
        obtain ⟨h0,r2⟩:=q
        rw [cbV_on hc hlim hh] at h
        rw [show 66 - f=(66 - (f+1))+1 by omega] at hV
        obtain ⟨g1,g2,g3⟩:=cbehind_good (by omega) hV h0 r2 (n+1) p (by omega) h
        exact ⟨g1,by omega,g3⟩
theorem cvalue_err:∀ f,VEC (cbValue f):=by
  intro f
  induction f with
  | zero=>intro l n x h;cases h;exact .inl rfl
  | succ f ih =>
    intro l n x h
    cases l with
    | nil=>rw [cbV_nil] at h;cases h;exact .inl rfl
    | cons c r =>
      by_cases hc:c=255
      · subst hc;rw [cbV_break] at h;cases h;exact .inl rfl
      by_cases hlim:n=2000∨f=0
      · rw [cbV_limit hc hlim] at h;cases h;exact .inr (.inr rfl)
      cases hh:cbHead (c::r) with
      | inr y=>rw [cbV_head hc hlim hh] at h;cases h;exact .inl (cbHead_err hh)
      | inl q =>
        obtain ⟨h0,r2⟩:=q
        rw [cbV_on hc hlim hh] at h
        exact cbehind_err ih _ _ _ _ h
theorem cbDecode_ok {l:List Nat} {u:MT} (h:cbDecode l=.inl u):checkB u=true∧u.bare=u:=by
  unfold cbDecode at h
  split at h
  · cases h
  · split at h
    · cases h
    · rename_i t r n he
      split at h
      · cases h
        obtain ⟨g,g2,g3⟩:=cvalue_good 65 (Nat.le_refl _) _ _ _ (Nat.zero_le _) he
        simp only at g g2 g3
        refine ⟨?_,g.ba⟩
        unfold checkB
        rw [Bool.and_eq_true]
        refine ⟨decide_eq_true (by omega),List.all_eq_true.2 fun x hx=>?_⟩
        obtain ⟨h1,h2⟩:=g.sd x hx
        rw [decide_eq_true h1,h2];rfl
      · cases h
theorem cbDecode_err {l:List Nat} {x:Int} (h:cbDecode l=.inr x):E3 x:=by
  unfold cbDecode at h
  split at h
  · cases h;exact .inr (.inr rfl)
  · split at h
    · rename_i he;cases h;exact cvalue_err 65 _ _ _ he
    · split at h
      · cases h
      · cases h;exact .inl rfl
end Go.Proofs.YtnacbakcalcgaaaGreatDoor
namespace Go.Proofs.YtnacbakcalcgaaaGreatDoor
open Go.RowKit Go.Shelf
theorem info_i32:(Tryz.prog.info? 21).map (fun i=>(i.zero,i.size,i.bytes))=some (some (.int .i32 0),1,4):=by kernel_rfl
theorem wpl_app (w:World) {ops:Array Oper} {rest:List Oper} {o:Oper} {a:Act} {Q:Exit→Act→World→Prop}
    (hg:o.guard=none) (s x:Operand) (hop:o.op=.call { callee:=.builtin .append,args:=#[s,x],argTypes:=#[180,180] })
    (B:Nat) (v:Value) (n:Nat) (xs:List Value) (hs:a.eval s=v) (hown:w.ownsRow B 21 1 v n xs) (g:Nat) (y:Int) (hx:a.eval x=.slice (some ⟨g,0,none⟩) 1 1) (hc:w.cell? ⟨g,0,none⟩=some (.int .i32 y))
    (hn:n≤1000000000) (hB:B≤w.heap.size)
    (h:∀ v' w',w'.ownsRow B 21 1 v' (n+1) (xs++[.int .i32 y])→w.grownBy w' v.ownBlock→wpList Tryz.prog ops Q rest (a.put o.dst v') w') :
    wpList Tryz.prog ops Q (o::rest) a w:=by
  obtain ⟨i0,hi,hz0,hz1,hz2⟩:=info_parts info_i32
  refine wpList_append_own w hg s x 180 hop B 21 i0 (.int .i32 0) 1 4 Tryz.underlying180 hi hz0 hz1 hz2 rfl (by decide) v n xs hs hown ⟨g,0,none⟩ 1 1 [.int .i32 y] hx rfl ?_ ?_ (by unfold maxLen;omega) (by omega) hB (fun v' w' h1 h2 _=>h v' w' h1 h2)
  · intro j u hj
    match j,hj with
    | 0,hj=>simp at hj;subst hj;simpa [Addr.add] using hc
  · intro u hu;simp at hu;subst hu;rfl
def rv (l:List Int):List Value:=l.map (Value.int .i32)
def RunesPost (l:List Int) (w:World) (e:Ending) (w':World):Prop :=
  ∃ v,e=.returned v∧w'.ownsRow w.heap.size 21 1 v l.length (rv l)∧Below w.heap.size w w'
def RR (s:ByteArray) (B IT:Nat) (w:World) (k:Nat) (v:Value) (wr:World):Prop :=
  ∃ pos acc,s.size - pos≤k∧acc++runesL (tailL s pos)=runesL s.data.toList∧acc.length≤pos∧pos≤s.size∧wr.ownsRow B 21 1 v acc.length (rv acc)∧wr.heap[IT]? = some (.stringIter s pos)∧Below B w wr
theorem own_below {w w':World} {B:Nat} {e:TypeId} {v:Value} {n:Nat} {xs:List Value} (h:w.ownsRow B e 1 v n xs) (hb:Below w.heap.size w w'):w'.ownsRow B e 1 v n xs:=by
  refine ⟨h.1,?_⟩
  rcases h.2 with h2 | ⟨g,cap,cur,rfl,hB,hg,rest⟩
  · exact .inl h2
  · refine .inr ⟨g,cap,cur,rfl,hB,?_,rest⟩
    rw [hb.block g (Array.getElem?_eq_some_iff.1 hg).1];exact hg
theorem iter_grown {w w':World} {B:Nat} {e:TypeId} {v:Value} {n:Nat} {xs:List Value} {IT:Nat} {s:ByteArray} {p:Nat} (hi:w.heap[IT]? = some (.stringIter s p)) (h:w.ownsRow B e 1 v n xs) (hg:w.grownBy w' v.ownBlock):w'.heap[IT]? = some (.stringIter s p):=by
  rw [hg.block IT (Array.getElem?_eq_some_iff.1 hi).1];exact hi
  intro e
  rcases h.2 with ⟨rfl,_⟩ | ⟨g,cap,cur,rfl,hB,hg,rest⟩
  · simp [Value.ownBlock] at e
  · simp [Value.ownBlock] at e;subst e;rw [hg] at hi;cases hi
theorem iter_alloc {w:World} {IT:Nat} {s:ByteArray} {p:Nat} (hi:w.heap[IT]? = some (.stringIter s p)) (o:Obj):(w.alloc o).heap[IT]? = some (.stringIter s p):=by
  rw [Lib.alloc_old w o IT (Array.getElem?_eq_some_iff.1 hi).1];exact hi
theorem RR.step {s:ByteArray} {B IT:Nat} {w wr w':World} {k pos:Nat} {acc:List Int} {v v':Value} {o:Obj} (hp:pos<s.size) (hk:s.size - pos≤k+1) (ha:acc++runesL (tailL s pos)=runesL s.data.toList) (hl:acc.length≤pos)
    (ho:wr.ownsRow B 21 1 v acc.length (rv acc)) (hi:wr.heap[IT]? = some (.stringIter s (pos+(runeL (tailL s pos)).2))) (hb:Below B w wr) (hB:B≤wr.heap.size)
    (h1:w'.ownsRow B 21 1 v' (acc.length+1) (rv acc++[.int .i32 (runeL (tailL s pos)).1])) (h2:(wr.alloc o).grownBy w' v.ownBlock):RR s B IT w k v' w':=by
  have hw:=runeL_width (tailL s pos) (tailL_ne hp)
  rw [tailL_length] at hw
  refine ⟨pos+(runeL (tailL s pos)).2,acc++[(runeL (tailL s pos)).1],by omega,?_,by simp;omega,by omega,?_,?_,?_⟩
  · rw [← ha,runesL_cons (tailL_ne hp),tailL_drop];simp
  · simpa [rv] using h1
  · exact iter_grown (iter_alloc hi o) (ho.alloc o) h2
  · exact (hb.alloc hB o).grown h2 (by simp;omega) (fun g hg=>(ho.lt g hg).1)
def Rk (k:IntKind) (w:World) (ad:Option Addr) (xs:List Int):Prop :=
  ∀ i,i<xs.length→∃ b o,ad=some ⟨b,o,none⟩∧b<w.heap.size∧w.cell? ⟨b,o+i,none⟩=some (.int k (xs.getD i 0))
theorem Rk.at {k:IntKind} {w:World} {b o:Nat} {xs:List Int} (h:Rk k w (some ⟨b,o,none⟩) xs) (i:Nat) (hi:i<xs.length) :
    w.cell? ⟨b,o+i,none⟩=some (.int k (xs.getD i 0)):=by
  obtain ⟨b',o',e,_,hc⟩:=h i hi
  cases e;exact hc
theorem Rk.nil (k:IntKind) (w:World) (ad:Option Addr):Rk k w ad []:=by intro i h;simp at h
theorem Rk.below {k:IntKind} {w w':World} {ad:Option Addr} {xs:List Int} (h:Rk k w ad xs) (hb:Below w.heap.size w w'):Rk k w' ad xs:=by
  intro i hi
  obtain ⟨b,o,e,hlt,hc⟩:=h i hi
  exact ⟨b,o,e,Nat.lt_of_lt_of_le hlt hb.size,by rw [hb.cell (p:=⟨b,o+i,none⟩) hlt];exact hc⟩
theorem own_rk {w:World} {B:Nat} {v:Value} {l:List Int} (h:w.ownsRow B 21 1 v l.length (rv l)) :
    ∃ ad cap,v=.slice ad l.length cap∧l.length≤cap∧Rk .i32 w ad l:=by
  rcases h.2 with ⟨rfl,h0⟩ | ⟨g,cap,cur,rfl,hB,hg,hc,rest⟩
  · have:l=[]:=List.eq_nil_of_length_eq_zero h0
    subst this
    exact ⟨none,0,rfl,Nat.le_refl _,Rk.nil _ _ _⟩
  · refine ⟨_,cap,rfl,hc,?_⟩
    intro i hi
    refine ⟨g,0,rfl,(Array.getElem?_eq_some_iff.1 hg).1,?_⟩
    have:=World.ownsRow.cells h (g:=g) rfl i (.int .i32 (l.getD i 0)) (by simp [rv,List.getD,hi])
    have hadd:(⟨g,0,none⟩:Addr).add i=⟨g,0+i,none⟩:=by unfold Addr.add;split <;> simp_all
    rw [hadd] at this;exact this
end Go.Proofs.YtnacbakcalcgaaaGreatDoor
