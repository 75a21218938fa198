/- Texts of the claim. -/
import Derived.Test.YtnacbakcalcgaaaGreatDoorEM
set_option linter.unusedVariables false
set_option linter.unusedSimpArgs false
set_option maxHeartbeats 8000000
set_option maxRecDepth 100000
namespace Go.Proofs.YtnacbakcalcgaaaGreatDoor
open Go.RowKit Go.Lib Go.Sort
theorem parts_modC (e f x:Nat):fEx e f x=x % 2 ^ (e+f) / 2 ^ f∧fFr f x=x % 2 ^ (e+f) % 2 ^ f:=by
  unfold fEx fFr
  rw [Nat.add_comm e f,Nat.pow_add]
  exact ⟨(Nat.mod_mul_right_div_self ..).symm,(Nat.mod_mul_right_mod ..).symm⟩
theorem likeC {e f x y:Nat} (h:x % 2 ^ (e+f)=y % 2 ^ (e+f)):fEx e f x=fEx e f y∧fFr f x=fFr f y :=
  ⟨by rw [(parts_modC e f x).1,(parts_modC e f y).1,h],by rw [(parts_modC e f x).2,(parts_modC e f y).2,h]⟩
theorem to_backC {width:Int} {e f M d:Nat} {E:Int} {ng:Bool} (hl:layOf width=some (e,f)) (hM:M % 10 ≠ 0) (h:toF width ng M E=some d):d<2 ^ (e+f+1)∧kindF e f d=1∧fNeg e f d=ng∧exM e f d=M∧exE e f d=E:=by
  have hL:=layOf_lay hl
  unfold toF at h
  rw [hl] at h
  simp only at h
  rw [if_neg (by omega)] at h
  cases ht:toN e f M E with
  | none=>rw [ht] at h;cases h
  | some y =>
    rw [ht] at h
    simp only [Option.some.injEq] at h
    obtain ⟨h1,h2,h3,h4⟩:=ex_to hL hM ht
    have hp:0<2 ^ (e+f):=Nat.pow_pos (by decide)
    obtain ⟨a1,a2⟩:=likeC (e:=e) (f:=f) (x:=d) (y:=y) (by
      rw [← h]
      cases ng
      · simp
      · simp)
    have k1:kindF e f d=kindF e f y:=by unfold kindF;rw [a1,a2]
    have k2:sizeF e f d=sizeF e f y:=by unfold sizeF;rw [a1,a2]
    have k3:twosF e f d=twosF e f y:=by unfold twosF;rw [a1]
    have k4:exM e f d=exM e f y:=by unfold exM exN;rw [k2,k3]
    have k5:exE e f d=exE e f y:=by unfold exE exN;rw [k2,k3]
    refine ⟨?_,by rw [k1];exact h2,?_,by rw [k4];exact h3,by rw [k5];exact h4⟩
    · rw [← h,Nat.pow_succ];cases ng <;> simp <;> omega
    · unfold fNeg
      rw [← h]
      cases ng
      · simp [Nat.div_eq_of_lt h1]
      · simp [Nat.add_div_right _ hp,Nat.div_eq_of_lt h1]
theorem exactN_of {width:Int} {e f M d:Nat} {E:Int} {ng:Bool} (hl:layOf width=some (e,f)) (hM:M % 10 ≠ 0) (h:toF width ng M E=some d):exactN width d=some (ng,M,E)∧d<2 ^ (e+f+1):=by
  obtain ⟨h1,h2,h3,h4,h5⟩:=to_backC hl hM h
  have k:kindW width d=1:=by unfold kindW;rw [hl];simp only;rw [h2];rfl
  have a:exNegW width d=ng:=by unfold exNegW;rw [hl];simp only;rw [h2,h3];simp
  have b:exMW width d=M:=by unfold exMW;rw [hl];simp only;rw [h2,if_pos rfl,h4]
  have c:exEW width d=E:=by unfold exEW;rw [hl];simp only;rw [h2,if_pos rfl,h5]
  unfold exactN
  rw [if_pos (.inl k),a,b,c]
  exact ⟨rfl,h1⟩
theorem flt_exact {ng : Bool} {M : Nat} {E : Int} {d y : Nat} (hM : M % 10 ≠ 0) (h : fltOf ng M E = some (d, y)) : d ≤ 2 ∧ exactN ((16 * 2 ^ d : Nat) : Int) y = some (ng, M, E) ∧ y < 256 ^ (2 ^ (d + 1)) := by
  unfold fltOf at h
  cases h1 : toF 16 ng M E with
  | some a =>
    rw [h1] at h; simp only [Option.some.injEq, Prod.mk.injEq] at h; obtain ⟨rfl, rfl⟩ := h
    obtain ⟨k1, k2⟩ := exactN_of (e := 5) (f := 10) rfl hM h1
    exact ⟨by decide, k1, by have : (256 : Nat) ^ (2 ^ (0 + 1)) = 2 ^ (5 + 10 + 1) := by decide
                             omega⟩
  | none =>
    rw [h1] at h
    simp only at h
    cases h2 : toF 32 ng M E with
    | some a =>
      rw [h2] at h; simp only [Option.some.injEq, Prod.mk.injEq] at h; obtain ⟨rfl, rfl⟩ := h
      obtain ⟨k1, k2⟩ := exactN_of (e := 8) (f := 23) rfl hM h2
      exact ⟨by decide, k1, by have : (256 : Nat) ^ (2 ^ (1 + 1)) = 2 ^ (8 + 23 + 1) := by decide
                               omega⟩
    | none =>
      rw [h2] at h
      simp only at h
      cases h3 : toF 64 ng M E with
      | some a =>
        rw [h3] at h; simp only [Option.some.injEq, Prod.mk.injEq] at h; obtain ⟨rfl, rfl⟩ := h
        obtain ⟨k1, k2⟩ := exactN_of (e := 11) (f := 52) rfl hM h3
        exact ⟨by decide, k1, by have : (256 : Nat) ^ (2 ^ (2 + 1)) = 2 ^ (11 + 52 + 1) := by decide
                                 omega⟩
      | none => rw [h3] at h; cases h
theorem val_flt {d y:Nat} {r:Bool × Nat × Int} (hd:d≤2) (he:exactN ((16*2 ^ d:Nat):Int) y=some r) (hy:y<256 ^ (2 ^ (d+1))) (f n:Nat) (more:List Nat) (hn:n<2000) (hf:f ≠ 0) :
    cbValue (f+1) (fltB d y++more) n=.inl (bnumC r,more,n+1):=by
  have hs:sizeH ((249+d) % 32)=some (2 ^ (d+1)):=by
    have:d=0∨d=1∨d=2:=by omega
    rcases this with rfl | rfl | rfl <;> rfl
  have hl:(bytesL y (2 ^ (d+1))).length=2 ^ (d+1):=bytesL_len _ _
  have hh:cbHead ((249+d)::(bytesL y (2 ^ (d+1))++more))=.inl ((7,25+d,y),more):=by
    rw [head_of (249+d) _ _ hs (by rw [List.length_append,hl];omega),if_neg (by omega),show (249+d) / 32=7 by omega,show (249+d) % 32=25+d by omega,List.take_append_of_le_length (by rw [hl];exact Nat.le_refl _),List.take_of_length_le (by rw [hl];exact Nat.le_refl _),List.drop_append_of_le_length (by rw [hl];exact Nat.le_refl _),List.drop_of_length_le (by rw [hl];exact Nat.le_refl _),List.nil_append,natB_bytesL,Nat.mod_eq_of_lt hy]
  unfold fltB
  rw [List.cons_append,cbV_on (by omega) (by omega) hh]
  unfold cbBehind
  rw [if_neg (by simp),if_neg (by simp),if_neg (by simp),if_neg (by simp),if_pos rfl]
  unfold cbSimple
  rw [if_neg (by simp only;omega),if_neg (by simp only;omega),if_neg (by simp only;omega),if_neg (by simp only;omega),if_neg (by simp only;omega)]
  simp only
  rw [show 25+d - 25=d by omega,he]
theorem val_num {ng:Bool} {xs:List Nat} {e:Int} (ho:Okl xs) (h:chkB ng xs e=true) (f n:Nat) (more:List Nat) (hn:n<2000) (hf:f ≠ 0) :
    cbValue (f+1) (numB ng (val xs) e++more) n=.inl (bnumC (ng,val xs,e),more,n+1):=by
  have hrest:xs ≠ []→cbValue (f+1) (restB ng (val xs) e++more) n=.inl (bnumC (ng,val xs,e),more,n+1):=by
    intro h0
    have h10:=(chkB_some h0 h).2.2.2.2
    unfold restB
    cases hfl:fltOf ng (val xs) e with
    | some p =>
      obtain ⟨d,y⟩:=p
      obtain ⟨h1,h2,h3⟩:=flt_exact h10 hfl
      exact val_flt h1 h2 h3 f n more hn hf
    | none=>exact val_dec ho h f n more hn hf
  have hz:xs=[]→intAt (val xs) e=some 0∧shortN (toldN ng 0)=true∧0≤e:=by
    rintro rfl
    obtain ⟨rfl,rfl⟩:=chkB_zero h
    have hb:bitsN 0=0:=bitsN_z
    refine ⟨?_,?_,Int.le_refl _⟩
    · unfold intAt
      simp [val,hb]
    · unfold shortN toldN
      simp [hb]
  unfold numB
  by_cases h0:xs=[]
  · obtain ⟨h1,h2,h3⟩:=hz h0
    rw [h1]
    simp only
    rw [if_pos h2]
    have hv:=val_int ho h h3 f n more hn hf (by rw [h0];simpa [val] using h2)
    rw [show val xs*tenN e.toNat=0 by rw [h0];simp [val]] at hv
    exact hv
  · unfold intAt
    split
    next M hM =>
      split at hM
      next hc =>
        cases hM
        split
        next hs=>exact val_int ho h hc.1 f n more hn hf hs
        next=>exact hrest h0
      next=>cases hM
    next=>exact hrest h0
theorem risC_ne {l:List ByteArray} (h:Ris l) {i j:Nat} (hi:i<l.length) (hj:j<l.length) (e:(l.getD i ByteArray.empty).toList=(l.getD j ByteArray.empty).toList):i=j:=by
  have key:∀ a b,a<b→b<l.length→(l.getD a ByteArray.empty).toList ≠ (l.getD b ByteArray.empty).toList:=by
    intro a b hab hb e
    have h1:=h a b hab hb
    unfold ltS at h1
    rw [e,bytesLess_irr] at h1
    cases h1
  rcases Nat.lt_trichotomy i j with h1 | h1 | h1
  · exact absurd e (key i j h1 hj)
  · exact h1
  · exact absurd e.symm (key j i h1 hi)
theorem sort_risC {ks:List ByteArray} (h:Ris ks):srt Op.bytesLess (fun i=>(ks.getD i ByteArray.empty).toList) 0 ks.length=List.range' 0 ks.length:=by
  refine (srt_unique sto_bytes _ _ _ _ (List.Perm.refl _) ?_).symm
  rw [List.pairwise_iff_getElem]
  intro i j hi hj hij
  rw [List.length_range'] at hi hj
  rw [List.getElem_range',List.getElem_range',leI_iff]
  left
  have:=h i j hij hj
  unfold ltS at this
  simpa using this
theorem range_getDC {α:Type} (l:List α) (d:α):(List.range' 0 l.length).map (fun i=>l.getD i d)=l:=by
  apply List.ext_getElem
  · simp
  · intro i h1 h2
    simp [List.getD,h2]
def namesO (ks:List ByteArray):List ByteArray:=(ordC ks).map fun i=>ks.getD i ByteArray.empty
theorem namesO_len (ks:List ByteArray):(namesO ks).length=ks.length:=by unfold namesO;rw [List.length_map,ordC_len]
theorem ordC_perm (ks:List ByteArray):(ordC ks).Perm (List.range' 0 ks.length):=srt_perm _ _ _ _
theorem namesO_get (ks:List ByteArray) (i:Nat) (hi:i<ks.length):(namesO ks).getD i ByteArray.empty=ks.getD ((ordC ks).getD i 0) ByteArray.empty:=by
  have:i<(ordC ks).length:=by rw [ordC_len];exact hi
  unfold namesO
  simp [List.getD,this]
theorem sort_back {ks:List ByteArray} (h:Ris ks):(sortC (namesO ks)).map (fun i=>(ordC ks).getD i 0)=List.range' 0 ks.length:=by
  rw [← sort_risC h]
  have hq:(sortC (namesO ks)).Perm (List.range' 0 ks.length):=by
    have:=srt_perm Op.bytesLess (fun i=>((namesO ks).getD i ByteArray.empty).toList) 0 (namesO ks).length
    unfold sortC
    rw [namesO_len] at this ⊢
    exact this
  have hlt:∀ i∈sortC (namesO ks),i<ks.length:=fun i hi=>by
    have:=List.mem_range'_1.1 (hq.mem_iff.1 hi)
    omega
  refine srt_unique sto_bytes _ _ _ _ ?_ ?_
  · have h1:=hq.map (fun i=>(ordC ks).getD i 0)
    have h2:=range_getDC (ordC ks) 0
    rw [ordC_len] at h2
    rw [h2] at h1
    exact h1.trans (ordC_perm ks)
  · rw [List.pairwise_map]
    have hs:=srt_sorted sto_bytes (fun i=>((namesO ks).getD i ByteArray.empty).toList) 0 (namesO ks).length
    refine List.Pairwise.imp_of_mem ?_ hs
    intro a b ha hb hab
    have la:=hlt a ha
    have lb:=hlt b hb
    rw [leI_iff] at hab ⊢
    simp only [namesO_get ks a la,namesO_get ks b lb] at hab
    rcases hab with h1 | ⟨h1,h2⟩
    · exact .inl h1
    · refine .inr ⟨h1,?_⟩
      have:=risC_ne h (ordC_lt ks a la) (ordC_lt ks b lb) h1
      omega
theorem names_back {ks:List ByteArray} (h:Ris ks):(sortC (namesO ks)).map (fun i=>(namesO ks).getD i ByteArray.empty)=ks:=by
  have h1:=congrArg (List.map fun i=>ks.getD i ByteArray.empty) (sort_back h)
  rw [range_getDC,List.map_map] at h1
  rw [← h1]
  have hq:(sortC (namesO ks)).Perm (List.range' 0 ks.length):=by
    have:=srt_perm Op.bytesLess (fun i=>((namesO ks).getD i ByteArray.empty).toList) 0 (namesO ks).length
    unfold sortC
    rw [namesO_len] at this ⊢
    exact this
  rw [h1]
  conv=>rhs;rw [← h1]
  refine List.map_congr_left fun i hi=>?_
  have:=List.mem_range'_1.1 (hq.mem_iff.1 hi)
  exact namesO_get ks i (by omega)
theorem vals_back {ks:List ByteArray} (h:Ris ks) (us:List MT) (d:MT) (hl:us.length=ks.length):(sortC (namesO ks)).map (fun i=>((ordC ks).map fun i=>us.getD i d).getD i d)=us:=by
  have h1:=congrArg (List.map fun i=>us.getD i d) (sort_back h)
  rw [← hl,range_getDC,List.map_map] at h1
  have hq:(sortC (namesO ks)).Perm (List.range' 0 ks.length):=by
    have:=srt_perm Op.bytesLess (fun i=>((namesO ks).getD i ByteArray.empty).toList) 0 (namesO ks).length
    unfold sortC
    rw [namesO_len] at this ⊢
    exact this
  conv=>rhs;rw [← h1]
  refine List.map_congr_left fun i hi=>?_
  have:=List.mem_range'_1.1 (hq.mem_iff.1 hi)
  have hi2:i<(ordC ks).length:=by rw [ordC_len];omega
  simp [List.getD,hi2]
theorem namesO_nodup {ks:List ByteArray} (h:Ris ks):(namesO ks).Nodup:=by
  unfold namesO
  have hp:(ordC ks).Nodup:=(ordC_perm ks).nodup_iff.2 (List.nodup_range' (step:=1))
  rw [List.nodup_iff_pairwise_ne,List.pairwise_map]
  refine List.Pairwise.imp_of_mem ?_ hp
  intro a b ha hb hab e
  have la:=List.mem_range'_1.1 ((ordC_perm ks).mem_iff.1 ha)
  have lb:=List.mem_range'_1.1 ((ordC_perm ks).mem_iff.1 hb)
  exact hab (risC_ne h (by omega) (by omega) (by rw [e]))
def CohC (t:MT):Prop:=∀ s,t.sub s→s.m.length=s.c.mn∧Okl s.m∧s.k.length=s.c.kn∧s.v.length=s.c.vn
theorem CohC.of {w:World} {t:MT} (h:Rep w t):CohC t:=fun s hs=>⟨(h s hs).mn,(h s hs).mo,(h s hs).kn,(h s hs).vn⟩
theorem CohC.own {t:MT} (h:CohC t):t.m.length=t.c.mn∧Okl t.m∧t.k.length=t.c.kn∧t.v.length=t.c.vn:=h t t.sub_refl
theorem CohC.part {t u:MT} (h:CohC t) (hu:u∈t.v):CohC u:=fun s hs=>h s (MT.sub_v hu hs)
theorem blank_factsC {c:Cel} (h:blankB c=true):c.b=false∧c.neg=false∧c.mn=0∧c.e=0∧c.s=⟨#[]⟩∧c.kn=0∧c.vn=0:=by
  unfold blankB at h
  simp only [Bool.and_eq_true,Bool.not_eq_true',decide_eq_true_eq] at h
  obtain ⟨h1,h2,h3,h4,h5,h6,h7⟩:=h
  refine ⟨h1,h2,h3,h4,?_,h6,h7⟩
  apply ByteArray.ext
  exact Array.eq_empty_of_size_eq_zero h5
theorem bare_nullC {t:MT} (hc:CohC t) (k:t.c.k=1) (h:soundB t=true):t.bare=leafT 1 false ⟨#[]⟩:=by
  obtain ⟨h1,_,h2,h3⟩:=hc.own
  rw [MT.bare_eq]
  obtain ⟨⟨ck,b,neg,ma,mn,mc,e,s,ka,kn,kc,va,vn,vc⟩,m,ks,vs⟩:=t
  simp only [MT.c,MT.m,MT.k,MT.v] at *
  subst k
  obtain ⟨e1,e2,e3,e4,e5,e6,e7⟩:=blank_factsC (c:=⟨1,b,neg,ma,mn,mc,e,s,ka,kn,kc,va,vn,vc⟩) h
  simp only at e1 e2 e3 e4 e5 e6 e7
  subst e1 e2 e3 e4 e5 e6 e7
  rw [List.eq_nil_of_length_eq_zero h1,List.eq_nil_of_length_eq_zero h2,List.eq_nil_of_length_eq_zero h3]
  rfl
theorem bare_boolC {t:MT} (hc:CohC t) (k:t.c.k=2) (h:soundB t=true):t.bare=leafT 2 t.c.b ⟨#[]⟩:=by
  obtain ⟨h1,_,h2,h3⟩:=hc.own
  rw [MT.bare_eq]
  obtain ⟨⟨ck,b,neg,ma,mn,mc,e,s,ka,kn,kc,va,vn,vc⟩,m,ks,vs⟩:=t
  simp only [MT.c,MT.m,MT.k,MT.v] at *
  subst k
  obtain ⟨e1,e2,e3,e4,e5,e6,e7⟩:=blank_factsC (c:=⟨2,false,neg,ma,mn,mc,e,s,ka,kn,kc,va,vn,vc⟩) h
  simp only at e1 e2 e3 e4 e5 e6 e7
  subst e2 e3 e4 e5 e6 e7
  rw [List.eq_nil_of_length_eq_zero h1,List.eq_nil_of_length_eq_zero h2,List.eq_nil_of_length_eq_zero h3]
  rfl
theorem bare_numC {t:MT} (hc:CohC t) (k:t.c.k=3) (h:soundB t=true):chkB t.c.neg t.m t.c.e=true∧t.bare=numT t.c.neg none t.m.length 0 t.c.e t.m:=by
  obtain ⟨h1,_,h2,h3⟩:=hc.own
  rw [MT.bare_eq]
  obtain ⟨⟨ck,b,neg,ma,mn,mc,e,s,ka,kn,kc,va,vn,vc⟩,m,ks,vs⟩:=t
  simp only [MT.c,MT.m,MT.k,MT.v] at *
  subst k
  have h':(chkB neg m e && blankB ⟨3,b,false,none,0,0,0,s,ka,kn,kc,va,vn,vc⟩)=true:=h
  rw [Bool.and_eq_true] at h'
  obtain ⟨e1,e2,e3,e4,e5,e6,e7⟩:=blank_factsC h'.2
  simp only at e1 e2 e3 e4 e5 e6 e7
  subst e1 e5 e6 e7 h1
  rw [List.eq_nil_of_length_eq_zero h2,List.eq_nil_of_length_eq_zero h3]
  exact ⟨h'.1,rfl⟩
theorem bare_textC {t:MT} (hc:CohC t) (k:t.c.k=4) (h:soundB t=true):(validL t.c.s.data.toList=true∧t.c.s.size≤2000)∧t.bare=leafT 4 false t.c.s:=by
  obtain ⟨h1,_,h2,h3⟩:=hc.own
  rw [MT.bare_eq]
  obtain ⟨⟨ck,b,neg,ma,mn,mc,e,s,ka,kn,kc,va,vn,vc⟩,m,ks,vs⟩:=t
  simp only [MT.c,MT.m,MT.k,MT.v] at *
  subst k
  have h':(validL s.data.toList && (decide (s.size≤2000) && blankB ⟨4,b,neg,ma,mn,mc,e,⟨#[]⟩,ka,kn,kc,va,vn,vc⟩))=true:=h
  rw [Bool.and_eq_true,Bool.and_eq_true] at h'
  obtain ⟨e1,e2,e3,e4,e5,e6,e7⟩:=blank_factsC h'.2.2
  simp only at e1 e2 e3 e4 e5 e6 e7
  subst e1 e2 e3 e4 e6 e7
  rw [List.eq_nil_of_length_eq_zero h1,List.eq_nil_of_length_eq_zero h2,List.eq_nil_of_length_eq_zero h3]
  exact ⟨⟨h'.1,of_decide_eq_true h'.2.1⟩,rfl⟩
theorem bare_bytesC {t:MT} (hc:CohC t) (k:t.c.k=5) (h:soundB t=true):t.c.s.size≤2000∧t.bare=leafT 5 false t.c.s:=by
  obtain ⟨h1,_,h2,h3⟩:=hc.own
  rw [MT.bare_eq]
  obtain ⟨⟨ck,b,neg,ma,mn,mc,e,s,ka,kn,kc,va,vn,vc⟩,m,ks,vs⟩:=t
  simp only [MT.c,MT.m,MT.k,MT.v] at *
  subst k
  have h':(decide (s.size≤2000) && blankB ⟨5,b,neg,ma,mn,mc,e,⟨#[]⟩,ka,kn,kc,va,vn,vc⟩)=true:=h
  rw [Bool.and_eq_true] at h'
  obtain ⟨e1,e2,e3,e4,e5,e6,e7⟩:=blank_factsC h'.2
  simp only at e1 e2 e3 e4 e5 e6 e7
  subst e1 e2 e3 e4 e6 e7
  rw [List.eq_nil_of_length_eq_zero h1,List.eq_nil_of_length_eq_zero h2,List.eq_nil_of_length_eq_zero h3]
  exact ⟨of_decide_eq_true h'.1,rfl⟩
theorem bare_arrC {t:MT} (hc:CohC t) (k:t.c.k=6) (h:soundB t=true):t.v.length≤300∧t.bare=barrC (t.v.map MT.bare):=by
  obtain ⟨h1,_,h2,h3⟩:=hc.own
  rw [MT.bare_eq]
  obtain ⟨⟨ck,b,neg,ma,mn,mc,e,s,ka,kn,kc,va,vn,vc⟩,m,ks,vs⟩:=t
  simp only [MT.c,MT.m,MT.k,MT.v] at *
  subst k
  have h':(decide (vn≤300) && blankB ⟨6,b,neg,ma,mn,mc,e,s,ka,kn,kc,none,0,0⟩)=true:=h
  rw [Bool.and_eq_true] at h'
  obtain ⟨e1,e2,e3,e4,e5,e6,e7⟩:=blank_factsC h'.2
  simp only at e1 e2 e3 e4 e5 e6 e7
  subst e1 e2 e3 e4 e5 e6 h3
  rw [List.eq_nil_of_length_eq_zero h1,List.eq_nil_of_length_eq_zero h2]
  refine ⟨of_decide_eq_true h'.1,?_⟩
  unfold barrC arrT
  rw [List.length_map]
  rfl
theorem bare_objC {t:MT} (hc:CohC t) (k:t.c.k=7) (h:soundB t=true):t.v.length≤300∧t.k.length=t.v.length∧risesB t.k=true∧t.bare=bobjC t.k (t.v.map MT.bare):=by
  obtain ⟨h1,_,h2,h3⟩:=hc.own
  rw [MT.bare_eq]
  obtain ⟨⟨ck,b,neg,ma,mn,mc,e,s,ka,kn,kc,va,vn,vc⟩,m,ks,vs⟩:=t
  simp only [MT.c,MT.m,MT.k,MT.v] at *
  subst k
  have h':(decide (kn=vn) && (risesB ks && (decide (vn≤300) && blankB ⟨7,b,neg,ma,mn,mc,e,s,none,0,0,none,0,0⟩)))=true:=h
  rw [Bool.and_eq_true,Bool.and_eq_true,Bool.and_eq_true] at h'
  obtain ⟨e1,e2,e3,e4,e5,e6,e7⟩:=blank_factsC h'.2.2.2
  simp only at e1 e2 e3 e4 e5 e6 e7
  have hkv:=of_decide_eq_true h'.1
  subst e1 e2 e3 e4 e5 h3 h2
  rw [List.eq_nil_of_length_eq_zero h1]
  refine ⟨of_decide_eq_true h'.2.2.1,hkv,h'.2.1,?_⟩
  unfold bobjC objT
  rw [List.length_map]
  rfl
def SndC (t:MT) (d:Nat):Prop:=∀ x∈t.pre d,x.1≤64∧soundB x.2=true
theorem SndC.own {t:MT} {d:Nat} (h:SndC t d):d≤64∧soundB t=true:=h (d,t) (by rw [MT.pre_eq];simp)
theorem SndC.part {t u:MT} {d:Nat} (h:SndC t d) (hu:u∈t.v):SndC u (d+1):=fun x hx=>h x (by rw [MT.pre_eq];exact List.mem_cons_of_mem _ (MT.mem_preL.2 ⟨u,hu,hx⟩))
theorem SndC.of {t:MT} (h:checkB t=true):SndC t 1∧t.nodes≤2000:=by
  unfold checkB at h
  rw [Bool.and_eq_true,List.all_eq_true] at h
  refine ⟨fun x hx=>?_,of_decide_eq_true h.1⟩
  have:=h.2 x hx
  rw [Bool.and_eq_true] at this
  exact ⟨of_decide_eq_true this.1,this.2⟩
def RtC (V:List Nat→Nat→RC MT) (u:MT):Prop:=∀ n more,n+u.nodes≤2000→V (encX u++more) n=.inl (u.bare,more,n+u.nodes)
theorem items_enc {V:List Nat→Nat→RC MT} {k:Nat}:∀ (us acc:List MT) (fuel n:Nat) (more:List Nat),acc.length+us.length=k→us.length<fuel→(∀ u∈us,RtC V u)→n+MT.nodesL us≤2000 →
    cbItems V false k fuel acc ((us.map encX).flatten++more) n=.inl (acc++us.map MT.bare,more,n+MT.nodesL us):=by
  intro us
  induction us with
  | nil =>
    intro acc fuel n more hk hf hV hn
    obtain ⟨fuel,rfl⟩:∃ q,fuel=q+1:=⟨fuel - 1,by omega⟩
    simp only [List.length_nil] at hk
    rw [cbItems_end (r:=more) (by unfold cbMore;rw [if_neg (by decide),decide_eq_false (by omega)];rfl),MT.nodesL_nil]
    simp
  | cons u us ih =>
    intro acc fuel n more hk hf hV hn
    obtain ⟨fuel,rfl⟩:∃ q,fuel=q+1:=⟨fuel - 1,by omega⟩
    rw [List.length_cons] at hk hf
    rw [MT.nodesL_cons] at hn ⊢
    have hu:=hV u (by simp) n ((us.map encX).flatten++more) (by omega)
    rw [List.map_cons,List.flatten_cons,List.append_assoc]
    rw [cbItems_on (r:=encX u++((us.map encX).flatten++more)) (by unfold cbMore;rw [if_neg (by decide),decide_eq_true (by omega)]) hu]
    rw [ih _ fuel _ more (by rw [List.length_append];simp;omega) (by omega) (fun v hv=>hV v (by simp [hv])) (by omega)]
    rw [List.map_cons,List.append_assoc,Nat.add_assoc]
    rfl
theorem name_enc (s:ByteArray) (r:List Nat) (hz:s.size≤2000) (hv:validL s.data.toList=true):cbName (strC 3 s++r)=.inl (strN s,r):=by
  unfold strC
  rw [List.append_assoc]
  have h:=head_hd 3 s.size (strN s++r) (by decide) (by omega)
  obtain ⟨c,q,h1,h2,h3⟩:=hd_first 3 s.size (by decide)
  have hi:=infoN_le s.size
  rw [h1,List.cons_append] at h ⊢
  unfold cbName
  simp only
  rw [if_neg (by omega),h]
  exact text_enc 3 s r hz (fun _=>hv)
theorem members_enc {V:List Nat→Nat→RC MT} {k:Nat}:∀ (zs:List (ByteArray × MT)) (ks:List ByteArray) (acc:List MT) (fuel n:Nat) (more:List Nat),acc.length+zs.length=k→zs.length<fuel→(∀ z∈zs,(z.1.size≤2000∧validL z.1.data.toList=true)∧RtC V z.2)→n+MT.nodesL (zs.map Prod.snd)≤2000 →
    cbMembers V false k fuel ks acc ((zs.map fun z=>strC 3 z.1++encX z.2).flatten++more) n=.inl ((ks++zs.map Prod.fst,acc++zs.map fun z=>z.2.bare),more,n+MT.nodesL (zs.map Prod.snd)):=by
  intro zs
  induction zs with
  | nil =>
    intro ks acc fuel n more hk hf hV hn
    obtain ⟨fuel,rfl⟩:∃ q,fuel=q+1:=⟨fuel - 1,by omega⟩
    simp only [List.length_nil] at hk
    rw [cbMem_end (r:=more) (by unfold cbMore;rw [if_neg (by decide),decide_eq_false (by omega)];rfl)]
    simp [MT.nodesL_nil]
  | cons z zs ih =>
    intro ks acc fuel n more hk hf hV hn
    obtain ⟨fuel,rfl⟩:∃ q,fuel=q+1:=⟨fuel - 1,by omega⟩
    rw [List.length_cons] at hk hf
    simp only [List.map_cons,MT.nodesL_cons,List.flatten_cons] at hn ⊢
    obtain ⟨⟨hz1,hz2⟩,hV1⟩:=hV z (by simp)
    have hu:=hV1 n ((zs.map fun z=>strC 3 z.1++encX z.2).flatten++more) (by omega)
    have hnm:=name_enc z.1 (encX z.2++((zs.map fun z=>strC 3 z.1++encX z.2).flatten++more)) hz1 hz2
    rw [List.append_assoc,List.append_assoc]
    rw [cbMem_on (r:=strC 3 z.1++(encX z.2++((zs.map fun z=>strC 3 z.1++encX z.2).flatten++more))) (by unfold cbMore;rw [if_neg (by decide),decide_eq_true (by omega)]) hnm hu]
    rw [ih _ _ fuel _ more (by rw [List.length_append];simp;omega) (by omega) (fun v hv=>hV v (by simp [hv])) (by omega),strB_strN]
    rw [Nat.add_assoc]
    simp
theorem nodesL_perm {a b:List MT} (h:a.Perm b):MT.nodesL a=MT.nodesL b:=by
  induction h with
  | nil=>rfl
  | cons x _ ih=>rw [MT.nodesL_cons,MT.nodesL_cons,ih]
  | swap x y l=>rw [MT.nodesL_cons,MT.nodesL_cons,MT.nodesL_cons,MT.nodesL_cons];omega
  | trans _ _ ih1 ih2=>exact ih1.trans ih2
theorem okN_valid {s:ByteArray} (h:okN s=true):s.size≤2000∧validL s.data.toList=true:=by
  unfold okN at h
  rw [Bool.and_eq_true,decide_eq_true_eq] at h
  exact h
theorem val_enc (t:MT):∀ (f dd:Nat),dd+f=65→SndC t dd→CohC t→RtC (cbValue (f+1)) t:=by
  refine MT.ind (P:=fun t=>∀ (f dd:Nat),dd+f=65→SndC t dd→CohC t→RtC (cbValue (f+1)) t) ?_ t
  intro t ih f dd hf hs hc n more hn
  obtain ⟨hd0,hso⟩:=hs.own
  have hf0:f ≠ 0:=by omega
  obtain ⟨f,rfl⟩:∃ g,f=g+1:=⟨f - 1,by omega⟩
  have hR:∀ u∈t.v,RtC (cbValue (f+1)) u:=fun u hu=>ih u hu f (dd+1) (by omega) (hs.part hu) (hc.part hu)
  have hnp:=t.nodes_pos
  have hn2:n<2000:=by omega
  have one:∀ {x:MT},t.bare=x→x.v=[]→t.nodes=1:=fun e h=>by
    have h2:t.v.map MT.bare=[]:=by rw [← h,← e,MT.bare_eq];rfl
    rw [List.map_eq_nil_iff] at h2
    rw [MT.nodes_eq,h2,MT.nodesL_nil]
  have hcs:=hso
  rw [encX_eq]
  by_cases c1:t.c.k=1
  · have hb:=bare_nullC hc c1 hso
    rw [if_pos c1,hb,one hb rfl,val_hd (f+1) n 7 22 more (by decide) (by decide) hn2 hf0]
    unfold cbBehind cbSimple
    rfl
  by_cases c2:t.c.k=2
  · have hb:=bare_boolC hc c2 hso
    rw [if_neg c1,if_pos c2,hb,one hb rfl]
    unfold truthC
    cases t.c.b
    iterate 2
      · rw [val_hd (f+1) n 7 _ more (by decide) (by decide) hn2 hf0]
        unfold cbBehind cbSimple
        rfl
  by_cases c3:t.c.k=3
  · obtain ⟨h1,h2⟩:=bare_numC hc c3 hso
    rw [if_neg c1,if_neg c2,if_pos c3,one h2 rfl,h2,val_num hc.own.2.1 h1 (f+1) n more hn2 hf0]
    unfold bnumC
    simp only
    rw [chkB_limbs hc.own.2.1 h1]
  by_cases c4:t.c.k=4
  · obtain ⟨h1,h2⟩:=bare_textC hc c4 hso
    rw [if_neg c1,if_neg c2,if_neg c3,if_pos c4,one h2 rfl,h2,val_str (f+1) n 3 t.c.s more (.inr rfl) hn2 hf0 h1.2 (fun _=>h1.1)]
    rfl
  by_cases c5:t.c.k=5
  · obtain ⟨h1,h2⟩:=bare_bytesC hc c5 hso
    rw [if_neg c1,if_neg c2,if_neg c3,if_neg c4,if_pos c5,one h2 rfl,h2,val_str (f+1) n 2 t.c.s more (.inl rfl) hn2 hf0 h1 (by omega)]
    rfl
  by_cases c6:t.c.k=6
  · obtain ⟨h1,h2⟩:=bare_arrC hc c6 hso
    rw [if_neg c1,if_neg c2,if_neg c3,if_neg c4,if_neg c5,if_pos c6,h2]
    rw [MT.nodes_eq] at hn ⊢
    unfold arrE
    rw [List.append_assoc,val_hd (f+1) n 4 _ _ (by decide) (by omega) hn2 hf0]
    have hl:=items_enc (V:=cbValue (f+1)) (k:=t.v.length) t.v [] 302 (n+1) more (by simp) (by omega) hR (by omega)
    unfold cbBehind
    rw [if_neg (by simp),if_neg (by simp),if_pos rfl]
    unfold cbArr
    simp only
    rw [if_neg (by omega),decide_eq_false (infoN_31 _),hl]
    simp only [List.nil_append]
    rw [show n+1+MT.nodesL t.v=n+(1+MT.nodesL t.v) by omega]
  by_cases c7:t.c.k=7
  · obtain ⟨h1,h3,h4,h2⟩:=bare_objC hc c7 hso
    rw [if_neg c1,if_neg c2,if_neg c3,if_neg c4,if_neg c5,if_neg c6,if_pos c7,h2]
    rw [MT.nodes_eq] at hn ⊢
    have hris:=ris_of h4
    unfold objE
    rw [List.append_assoc,val_hd (f+1) n 5 _ _ (by decide) (by omega) hn2 hf0]
    obtain ⟨d,hd⟩:∃ d,leafT 0 false ⟨#[]⟩=d:=⟨_,rfl⟩
    have hlt:∀ i∈ordC t.k,i<t.k.length:=fun i hi=>by
      have:=List.mem_range'_1.1 ((ordC_perm t.k).mem_iff.1 hi)
      omega
    have e1:(ordC t.k).map (mbrE t.k (t.v.map encX))=((ordC t.k).map fun i=>(t.k.getD i ByteArray.empty,t.v.getD i d)).map fun z=>strC 3 z.1++encX z.2:=by
      rw [List.map_map]
      refine List.map_congr_left fun i hi=>?_
      have h5:=hlt i hi
      unfold mbrE
      simp only [Function.comp]
      congr 1
      simp [List.getD,show i<t.v.length by omega]
    have hsnd:(((ordC t.k).map fun i=>(t.k.getD i ByteArray.empty,t.v.getD i d)).map Prod.snd).Perm t.v:=by
      rw [List.map_map]
      have h6:=(ordC_perm t.k).map (fun i=>t.v.getD i d)
      rw [h3,range_getDC] at h6
      exact h6
    have hnod:=nodesL_perm hsnd
    have hl:=members_enc (V:=cbValue (f+1)) (k:=t.k.length) ((ordC t.k).map fun i=>(t.k.getD i ByteArray.empty,t.v.getD i d)) [] [] 302 (n+1) more (by simp [ordC_len]) (by rw [List.length_map,ordC_len];omega) (fun z hz=>by
      obtain ⟨i,hi,rfl⟩:=List.mem_map.1 hz
      have h5:=hlt i hi
      refine ⟨okN_valid (riseC_ok h4 _ (by simp [List.getD,h5])),hR _ (by simp [List.getD,show i<t.v.length by omega])⟩) (by rw [hnod];omega)
    rw [hnod] at hl
    have e2:((ordC t.k).map fun i=>(t.k.getD i ByteArray.empty,t.v.getD i d)).map Prod.fst=namesO t.k:=by rw [List.map_map];rfl
    have e3:(((ordC t.k).map fun i=>(t.k.getD i ByteArray.empty,t.v.getD i d)).map fun z=>z.2.bare)=(ordC t.k).map fun i=>(t.v.map MT.bare).getD i d:=by
      rw [List.map_map]
      refine List.map_congr_left fun i hi=>?_
      have h5:=hlt i hi
      simp [List.getD,show i<t.v.length by omega]
    rw [List.nil_append,List.nil_append,e2,e3] at hl
    rw [e1]
    unfold cbBehind
    rw [if_neg (by simp),if_neg (by simp),if_neg (by simp),if_pos rfl]
    unfold cbObj
    simp only
    rw [if_neg (by omega),decide_eq_false (infoN_31 _),hl]
    simp only
    rw [if_pos (namesO_nodup hris),names_back hris,hd,vals_back hris (t.v.map MT.bare) d (by rw [List.length_map,h3])]
    rw [show n+1+MT.nodesL t.v=n+(1+MT.nodesL t.v) by omega]
  · unfold soundB at hcs
    rw [if_neg c1,if_neg c2,if_neg c3,if_neg c4,if_neg c5,if_neg c7,if_neg c6] at hcs
    cases hcs
theorem decode_encC {t:MT} (h:checkB t=true) (hc:CohC t) (hl:(encX t).length≤32768):cbDecode (encX t)=.inl t.bare:=by
  obtain ⟨hs,hn⟩:=SndC.of h
  have:=val_enc t 64 1 rfl hs hc 0 [] (by omega)
  rw [List.append_nil] at this
  unfold cbDecode
  rw [if_neg (by omega),this]
  rfl
end Go.Proofs.YtnacbakcalcgaaaGreatDoor
namespace Go.Proofs.YtnacbakcalcgaaaGreatDoor
open Go.Shelf Go.RowKit Go.Lib
def SameNC:Prop:=∀ (neg:Bool) (ma ma':Option Addr) (mn mc mc':Nat) (m:List Nat) (e:Int) (W:World),NumOk W neg ma mn mc m e→NumOk W neg ma' mn mc' m e→Calls Tryz.prog 42 #[.agg #[.bool neg,.slice ma mn mc,.int .i64 e],.agg #[.bool neg,.slice ma' mn mc',.int .i64 e]] W (BoolBelow true W)
theorem rdv_strC {w:World} {ad:Option Addr} {l:List ByteArray} {b o:Nat} (h:RdV w ad (sv l)) (e:ad=some ⟨b,o,none⟩) (i:Nat) (hi:i<l.length):w.cell? ⟨b,o+i,none⟩=some (.string (l.getD i ByteArray.empty)):=by
  subst e
  rw [h.at i (by rw [sv_len];exact hi),sv_get _ _ hi]
theorem bare_cellsC {t u:MT} (h:t.bare=u.bare):t.c.bare=u.c.bare∧t.m=u.m∧t.k=u.k∧t.v.map MT.bare=u.v.map MT.bare:=by
  rw [MT.bare_eq,MT.bare_eq] at h
  injection h with h1 h2 h3 h4
  exact ⟨h1,h2,h3,h4⟩
theorem sound_arr0C {t:MT} (hc:CohC t) (k:t.c.k=6) (h:soundB t=true):t.c.kn=0:=by
  obtain ⟨⟨ck,b,neg,ma,mn,mc,e,s,ka,kn,kc,va,vn,vc⟩,m,ks,vs⟩:=t
  simp only [MT.c] at k
  subst k
  have h':(decide (vn≤300) && blankB ⟨6,b,neg,ma,mn,mc,e,s,ka,kn,kc,none,0,0⟩)=true:=h
  rw [Bool.and_eq_true] at h'
  exact (blank_factsC h'.2).2.2.2.2.2.1
theorem sound_kindsC {t:MT} (h:soundB t=true):t.c.k=1∨t.c.k=2∨t.c.k=3∨t.c.k=4∨t.c.k=5∨t.c.k=6∨t.c.k=7:=by
  unfold soundB at h
  by_cases c1:t.c.k=1
  · exact .inl c1
  by_cases c2:t.c.k=2
  · exact .inr (.inl c2)
  by_cases c3:t.c.k=3
  · exact .inr (.inr (.inl c3))
  by_cases c4:t.c.k=4
  · exact .inr (.inr (.inr (.inl c4)))
  by_cases c5:t.c.k=5
  · exact .inr (.inr (.inr (.inr (.inl c5))))
  by_cases c6:t.c.k=6
  · exact .inr (.inr (.inr (.inr (.inr (.inl c6)))))
  by_cases c7:t.c.k=7
  · exact .inr (.inr (.inr (.inr (.inr (.inr c7)))))
  rw [if_neg c1,if_neg c2,if_neg c3,if_neg c4,if_neg c5,if_neg c7,if_neg c6] at h
  cases h
theorem refSame_anyC (KN:SameNC) (t:MT):∀ (u:MT) (d:Nat) (w:World),t.bare=u.bare→SndC t d→Rep w t→Rep w u→Calls Tryz.prog 17 #[t.c.val,u.c.val] w (BoolBelow true w):=by
  refine MT.ind (P:=fun t=>∀ (u:MT) (d:Nat) (w:World),t.bare=u.bare→SndC t d→Rep w t→Rep w u→Calls Tryz.prog 17 #[t.c.val,u.c.val] w (BoolBelow true w)) ?_ t
  intro t ih u d w hbe hs hR hU
  have own:=hR.own
  have own2:=hU.own
  have hco:=CohC.of hR
  obtain ⟨e1,e2,e3,e4⟩:=bare_cellsC hbe
  have hso:=hs.own.2
  obtain ⟨Wb,hWb⟩:∃ x,two2 w t.c u.c=x:=⟨_,rfl⟩
  have hb0:Below w.heap.size w Wb:=by rw [← hWb];exact two_below2 _ _ _
  have hsz:Wb.heap.size=w.heap.size+2:=by rw [← hWb,two2_size]
  have ya:BoxT Wb w.heap.size t.c:=by rw [← hWb];exact (two2_box w t.c u.c).1
  have yb:BoxT Wb (w.heap.size+1) u.c:=by rw [← hWb];exact (two2_box w t.c u.c).2
  have HB:=Lib.hid hb0
  have HZ:=Lib.hid hsz
  have KNN:=Lib.hid (fun (h3:t.c.k=3) (W:World) (h:Below w.heap.size w W)=>(by
    have hck:=(bare_numC hco h3 hso).1
    have n1:NumOk W t.c.neg t.c.ma t.c.mn t.c.mc t.m t.c.e:=⟨own.mn,own.mc,own.mo,own.mr.below h,hck⟩
    have f1:u.c.neg=t.c.neg:=(by have:=congrArg Cel.neg e1.symm;exact this)
    have f2:u.c.mn=t.c.mn:=(by have:=congrArg Cel.mn e1.symm;exact this)
    have f3:u.c.e=t.c.e:=(by have:=congrArg Cel.e e1.symm;exact this)
    have n2:NumOk W t.c.neg u.c.ma t.c.mn u.c.mc t.m t.c.e:=⟨own.mn,by rw [← f2];exact own2.mc,own.mo,by rw [e2];exact own2.mr.below h,hck⟩
    exact KN _ _ _ _ _ _ _ _ W n1 n2:Calls Tryz.prog 42 #[.agg #[.bool t.c.neg,.slice t.c.ma t.c.mn t.c.mc,.int .i64 t.c.e],.agg #[.bool t.c.neg,.slice u.c.ma t.c.mn u.c.mc,.int .i64 t.c.e]] W (BoolBelow true W)))
  have HK1:=Lib.hid (fun W (h:Below w.heap.size w W)=>own.kr.on h)
  have HK2:=Lib.hid (fun W (h:Below w.heap.size w W)=>(by have:=own2.kr.on h;rwa [← e3] at this:RdV W u.c.ka (sv t.k)))
  have HV1:=Lib.hid (fun W (h:Below w.heap.size w W)=>own.vr.on h)
  have HV2:=Lib.hid (fun W (h:Below w.heap.size w W)=>own2.vr.on h)
  have HVL:=Lib.hid own.vn
  have HKL:=Lib.hid own.kn
  have hlen:t.v.length=u.v.length:=by have:=congrArg List.length e4;rwa [List.length_map,List.length_map] at this
  have HVU:=Lib.hid hlen
  have HLM:=Lib.hid own.lm
  have HA0:=Lib.hid (fun (h6:t.c.k=6)=>sound_arr0C hco h6 hso)
  have HKD:=Lib.hid (show t.c.k=1∨t.c.k=2∨t.c.k=3∨t.c.k=4∨t.c.k=5∨t.c.k=6∨t.c.k=7 by
    exact sound_kindsC hso)
  have KI:=Lib.hid (fun (j:Nat) (hj:j<t.v.length) (W:World) (h:Below w.heap.size w W)=>ih (t.v.getD j (leafT 0 false ⟨#[]⟩)) (by simp [List.getD,hj]) (u.v.getD j (leafT 0 false ⟨#[]⟩)) (d+1) W
    (by
      have:=congrArg (fun l=>l.getD j (leafT 0 false ⟨#[]⟩).bare) e4
      simpa [List.getD,hj,(by omega:j<u.v.length)] using this)
    (hs.part (by simp [List.getD,hj])) ((hR.part (by simp [List.getD,hj])).on h) ((hU.part (by simp [List.getD,(by omega:j<u.v.length)])).on h))
  have hwb:=hWb
  have g1:u.c.k=t.c.k:=(by have:=congrArg Cel.k e1.symm;exact this)
  have g2:u.c.b=t.c.b:=(by have:=congrArg Cel.b e1.symm;exact this)
  have g3:u.c.neg=t.c.neg:=(by have:=congrArg Cel.neg e1.symm;exact this)
  have g4:u.c.mn=t.c.mn:=(by have:=congrArg Cel.mn e1.symm;exact this)
  have g5:u.c.e=t.c.e:=(by have:=congrArg Cel.e e1.symm;exact this)
  have g6:u.c.s=t.c.s:=(by have:=congrArg Cel.s e1.symm;exact this)
  have g7:u.c.kn=t.c.kn:=(by have:=congrArg Cel.kn e1.symm;exact this)
  have g8:u.c.vn=t.c.vn:=(by have:=congrArg Cel.vn e1.symm;exact this)
  clear hb0 hsz own own2 hbe hs hR hU ih hWb e1 e2 e3 e4 hso hco hlen KN
  generalize t.k=names at *
  generalize t.v=vals at *
  generalize u.v=vals' at *
  generalize t.m=limbs at *
  generalize t.c=c at *
  generalize u.c=c' at *
  obtain ⟨k,b0,neg,ma,mn,mc,e,st,ka,kn,kc,va,vn,vc⟩:=c
  obtain ⟨k',b0',neg',ma',mn',mc',e',st',ka',kn',kc',va',vn',vc'⟩:=c'
  simp only at g1 g2 g3 g4 g5 g6 g7 g8
  subst g1 g2 g3 g4 g5 g6 g7 g8
  unfold Cel.val
  obtain ⟨a0,a1,a2,a3,a4,a5,a6,a7⟩:=ya.cells
  obtain ⟨b0,b1,b2,b3,b4,b5,b6,b7⟩:=yb.cells
  simp only at a0 a1 a2 a3 a4 a5 a6 a7 b0 b1 b2 b3 b4 b5 b6 b7
  have HLA:=Lib.hid ya.lt;have HLB:=Lib.hid yb.lt
  clear ya yb
  unfold two2 Cel.cells at hwb
  simp only at hwb KNN HK1 HK2 HV1 HV2 HVL HKL HLM HA0 HKD
  have HWB:=Lib.hid hwb
  clear hwb
  have hkd:=HKD.out
  have hnn:∀ x:Nat,((x:Int) != (x:Int))=false:=fun x=>by simp
  have hn1:=hnn vn'
  have hn2:=hnn kn'
  clear hnn
  rcases hkd with hk | hk | hk | hk | hk | hk | hk
  iterate 2
    · subst hk
      go_enter Tryz.func17,Tryz.ntmps17
      go_upto_region 1 with fail
      rw [HWB.out]
      go_wp2
      go_ret
      exact BoolBelow.mk (by simp) HB.out
  · subst hk
    have KNX:=Lib.hid (KNN.out rfl)
    go_enter Tryz.func17,Tryz.ntmps17
    go_upto_region 1 with fail
    rw [HWB.out]
    go_wp2_with fail
    refine (KNX.out _ HB.out).mono ?_
    rintro r w5 ⟨rfl,hb5⟩
    have HF:=Lib.hid (HB.out.trans (hb5.mono HB.out.size))
    clear hb5
    go_wp2
    go_ret
    exact BoolBelow.mk rfl HF.out
  iterate 2
    · subst hk
      go_enter Tryz.func17,Tryz.ntmps17
      go_upto_region 1 with fail
      rw [HWB.out]
      go_wp2
      go_ret
      exact BoolBelow.mk (by simp) HB.out
  · subst hk
    have hkn:=HA0.out rfl
    subst hkn
    have hvn:vn'≤1000000000000000:=HLM.out.2.2
    go_enter Tryz.func17,Tryz.ntmps17
    go_upto_region 1 with fail
    rw [HWB.out]
    go_wp2
    go_loopg [5] 0 (fun g i wr=>∃ q d:Nat,q≤0∧0 - q≤g∧i=.int .i64 (q:Int)∧wr=Wb.drewN d)
    case atStart=>exact ⟨0,0,Nat.zero_le _,by omega,rfl,rfl⟩
    case round =>
      obtain ⟨q,d,hq,hgq,rfl,hd⟩:=hrel
      obtain rfl:q=0:=by omega
      have HW:=Lib.hid (below_drewN (Below.refl Wb.heap.size Wb) d)
      subst hd
      go_wp2
      go_loopg [6] vn' (fun g i wr=>∃ q:Nat,q≤vn'∧vn' - q≤g∧i=.int .i64 (q:Int)∧Below Wb.heap.size Wb wr)
      case atStart=>exact ⟨0,Nat.zero_le _,by omega,rfl,HW.out⟩
      case round =>
        clear HW
        obtain ⟨q,hq,hgq,rfl,hb⟩:=hrel
        have HBW:=Lib.hid hb
        have HF:=Lib.hid (HB.out.trans (hb.mono HB.out.size))
        obtain ⟨hc,hf⟩:=bcell hb
        have a7':=(hc w.heap.size 7 HLA.out).trans a7
        have b7':=(hc (w.heap.size+1) 7 HLB.out).trans b7
        by_cases hlt:q<vn'
        · obtain ⟨g,rfl⟩:∃ g,gk=g+1:=⟨gk - 1,by omega⟩
          have i1:(q:Int)<(vn':Int):=by omega
          have i2:(0:Int)≤(q:Int):=by omega
          have hqv:q<vals.length:=by rw [HVL.out];exact hlt
          have hqu:q<vals'.length:=by rw [← HVU.out];exact hqv
          have hr1:=HV1.out wr HF.out
          have hr2:=HV2.out wr HF.out
          obtain ⟨xb,xo,rfl,_⟩:=hr1.shape (by rw [flat_len,List.length_map];omega)
          obtain ⟨zb,zo,rfl,_⟩:=hr2.shape (by rw [flat_len,List.length_map];omega)
          obtain ⟨p0,p1,p2,p3,p4,p5,p6,p7⟩:=flat_at hr1 q (by rw [List.length_map];exact hqv) (c:=(vals.getD q (leafT 0 false ⟨#[]⟩)).c) (getD_mapc hqv _)
          obtain ⟨z0,z1,z2,z3,z4,z5,z6,z7⟩:=flat_at hr2 q (by rw [List.length_map];exact hqu) (c:=(vals'.getD q (leafT 0 false ⟨#[]⟩)).c) (getD_mapc hqu _)
          have KS:=Lib.hid (KI.out q hqv)
          generalize (vals.getD q (leafT 0 false ⟨#[]⟩)).c=cx at *
          generalize (vals'.getD q (leafT 0 false ⟨#[]⟩)).c=cz at *
          obtain ⟨xk,xbb,xneg,xma,xmn,xmc,xe,xs,xka,xkn,xkc,xva,xvn,xvc⟩:=cx
          obtain ⟨zk,zbb,zneg,zma,zmn,zmc,ze,zs,zka,zkn,zkc,zva,zvn,zvc⟩:=cz
          unfold Cel.val at KS
          simp only at p0 p1 p2 p3 p4 p5 p6 p7 z0 z1 z2 z3 z4 z5 z6 z7
          clear hc hf hb hr1 hr2
          go_wp2
          go_still_tail 10,(by kernel_rfl)
          change wpList _ _ _ _ _ wr.drew
          have HBD:=Lib.hid HBW.out.drew
          generalize wr.drew=W at HBD ⊢
          go_wp2_with fail
          refine (KS.out _ (HB.out.trans (HBD.out.mono HB.out.size))).mono ?_
          rintro r w5 ⟨rfl,hb5⟩
          have HB5:=Lib.hid (below_on HBD.out hb5)
          clear hb5
          go_wp2
          go_roundg g
          case rel=>exact ⟨q+1,by omega,by omega,by simp,HB5.out⟩
          case measure=>omega
        · have i1:¬ (q:Int)<(vn':Int):=by omega
          clear hc hf hb
          go_wp2
          go_ret
          exact BoolBelow.mk rfl HF.out
  · subst hk
    have hvn:vn'≤1000000000000000:=HLM.out.2.2
    have hkn6:kn'≤1000000000000000:=HLM.out.2.1
    go_enter Tryz.func17,Tryz.ntmps17
    go_upto_region 1 with fail
    rw [HWB.out]
    go_wp2
    go_loopg [5] kn' (fun g i wr=>∃ q d:Nat,q≤kn'∧kn' - q≤g∧i=.int .i64 (q:Int)∧wr=Wb.drewN d)
    case atStart=>exact ⟨0,0,Nat.zero_le _,by omega,rfl,rfl⟩
    case round =>
      obtain ⟨q,d,hq,hgq,rfl,hd⟩:=hrel
      by_cases hlk:q<kn'
      · obtain ⟨g,rfl⟩:∃ g,gk=g+1:=⟨gk - 1,by omega⟩
        have i1:(q:Int)<(kn':Int):=by omega
        have i2:(0:Int)≤(q:Int):=by omega
        have hqk:q<names.length:=by rw [HKL.out];exact hlk
        have hr1:=HK1.out Wb HB.out
        have hr2:=HK2.out Wb HB.out
        obtain ⟨xb,xo,rfl,_⟩:=hr1.shape (by rw [sv_len];omega)
        obtain ⟨zb,zo,rfl,_⟩:=hr2.shape (by rw [sv_len];omega)
        have c1:=rdv_strC hr1 rfl q hqk
        have c2:=rdv_strC hr2 rfl q hqk
        generalize names.getD q ByteArray.empty=x at c1 c2
        have hx:(x.toList != x.toList)=false:=by simp
        clear hr1 hr2
        subst hd
        go_wp2
        go_quiet (fail)
        go_wp2
        go_roundg g
        case rel=>exact ⟨q+1,_,by omega,by omega,by simp,rfl⟩
        case measure=>omega
      · have i1:¬ (q:Int)<(kn':Int):=by omega
        have HW:=Lib.hid (below_drewN (Below.refl Wb.heap.size Wb) d)
        subst hd
        go_wp2
        go_loopg [6] vn' (fun g i wr=>∃ q:Nat,q≤vn'∧vn' - q≤g∧i=.int .i64 (q:Int)∧Below Wb.heap.size Wb wr)
        case atStart=>exact ⟨0,Nat.zero_le _,by omega,rfl,HW.out⟩
        case round =>
          clear HW
          obtain ⟨q,hq,hgq,rfl,hb⟩:=hrel
          have HBW:=Lib.hid hb
          have HF:=Lib.hid (HB.out.trans (hb.mono HB.out.size))
          obtain ⟨hc,hf⟩:=bcell hb
          have a7':=(hc w.heap.size 7 HLA.out).trans a7
          have b7':=(hc (w.heap.size+1) 7 HLB.out).trans b7
          by_cases hlt:q<vn'
          · obtain ⟨g,rfl⟩:∃ g,gk=g+1:=⟨gk - 1,by omega⟩
            have i1:(q:Int)<(vn':Int):=by omega
            have i2:(0:Int)≤(q:Int):=by omega
            have hqv:q<vals.length:=by rw [HVL.out];exact hlt
            have hqu:q<vals'.length:=by rw [← HVU.out];exact hqv
            have hr1:=HV1.out wr HF.out
            have hr2:=HV2.out wr HF.out
            obtain ⟨xb,xo,rfl,_⟩:=hr1.shape (by rw [flat_len,List.length_map];omega)
            obtain ⟨zb,zo,rfl,_⟩:=hr2.shape (by rw [flat_len,List.length_map];omega)
            obtain ⟨p0,p1,p2,p3,p4,p5,p6,p7⟩:=flat_at hr1 q (by rw [List.length_map];exact hqv) (c:=(vals.getD q (leafT 0 false ⟨#[]⟩)).c) (getD_mapc hqv _)
            obtain ⟨z0,z1,z2,z3,z4,z5,z6,z7⟩:=flat_at hr2 q (by rw [List.length_map];exact hqu) (c:=(vals'.getD q (leafT 0 false ⟨#[]⟩)).c) (getD_mapc hqu _)
            have KS:=Lib.hid (KI.out q hqv)
            generalize (vals.getD q (leafT 0 false ⟨#[]⟩)).c=cx at *
            generalize (vals'.getD q (leafT 0 false ⟨#[]⟩)).c=cz at *
            obtain ⟨xk,xbb,xneg,xma,xmn,xmc,xe,xs,xka,xkn,xkc,xva,xvn,xvc⟩:=cx
            obtain ⟨zk,zbb,zneg,zma,zmn,zmc,ze,zs,zka,zkn,zkc,zva,zvn,zvc⟩:=cz
            unfold Cel.val at KS
            simp only at p0 p1 p2 p3 p4 p5 p6 p7 z0 z1 z2 z3 z4 z5 z6 z7
            clear hc hf hb hr1 hr2
            go_wp2
            go_still_tail 10,(by kernel_rfl)
            change wpList _ _ _ _ _ wr.drew
            have HBD:=Lib.hid HBW.out.drew
            generalize wr.drew=W at HBD ⊢
            go_wp2_with fail
            refine (KS.out _ (HB.out.trans (HBD.out.mono HB.out.size))).mono ?_
            rintro r w5 ⟨rfl,hb5⟩
            have HB5:=Lib.hid (below_on HBD.out hb5)
            clear hb5
            go_wp2
            go_roundg g
            case rel=>exact ⟨q+1,by omega,by omega,by simp,HB5.out⟩
            case measure=>omega
          · have i1:¬ (q:Int)<(vn':Int):=by omega
            clear hc hf hb
            go_wp2
            go_ret
            exact BoolBelow.mk rfl HF.out
end Go.Proofs.YtnacbakcalcgaaaGreatDoor
