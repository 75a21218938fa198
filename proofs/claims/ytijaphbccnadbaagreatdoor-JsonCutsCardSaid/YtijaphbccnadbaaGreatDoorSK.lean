/- Texts of the claim. -/
import Derived.Test.YtijaphbccnadbaaGreatDoorSJ
set_option linter.unusedVariables false
set_option linter.unusedSimpArgs false
set_option maxHeartbeats 200000
set_option maxRecDepth 100000
namespace Go.Proofs.YtijaphbccnadbaaGreatDoor
open Go.Shelf Go.RowKit Go.Lib Go.Sort
def HeadB (x:UInt8):Prop:=blanksL.contains x=false∧x ≠ 93∧x ≠ 125∧x ≠ 44∧x ≠ 58
theorem digit_head {x:Nat} (h:x=45∨48≤x∧x≤57):HeadB (UInt8.ofNat x)∧((UInt8.ofNat x).toNat=45∨48≤(UInt8.ofNat x).toNat∧(UInt8.ofNat x).toNat≤57):=by
  have:x=45∨x=48∨x=49∨x=50∨x=51∨x=52∨x=53∨x=54∨x=55∨x=56∨x=57:=by omega
  unfold HeadB
  rcases this with rfl | rfl | rfl | rfl | rfl | rfl | rfl | rfl | rfl | rfl | rfl <;> decide
theorem exp_head {d:List Nat} {x:Int} {y:Nat} {ys:List Nat} (h:d=y::ys):∃ zs,expTxt d x=y::zs:=by
  subst h;unfold expTxt;exact ⟨_,rfl⟩
theorem size_head {d:List Nat} {e:Int} (h:Okd d) (hp:0<d.length):∃ y ys,sizeTxt d e=y::ys∧48≤y∧y≤57:=by
  obtain ⟨y,ys,rfl⟩:∃ y ys,d=y::ys:=List.exists_cons_of_length_pos hp
  have hy:=h y (by simp)
  unfold sizeTxt
  split
  · obtain ⟨zs,hz⟩:=exp_head (d:=y::ys) (x:=((y::ys).length:Int)+e - 1) rfl
    exact ⟨y,zs,hz,hy⟩
  · split
    · exact ⟨48,_,rfl,by decide,by decide⟩
    · split
      · rename_i h1 h2 h3
        obtain ⟨k,hk⟩:∃ k,(((y::ys).length:Int)+e).toNat=k+1:=⟨(((y::ys).length:Int)+e).toNat - 1,by omega⟩
        rw [hk]
        exact ⟨y,_,rfl,hy⟩
      · exact ⟨y,_,rfl,hy⟩
theorem num_head (neg:Bool) (N:Nat) (e:Int):∃ y ys,numTxt neg N e=y::ys∧(y=45∨48≤y∧y≤57):=by
  unfold numTxt
  split
  · exact ⟨48,[],rfl,.inr ⟨by decide,by decide⟩⟩
  · cases neg
    · obtain ⟨y,ys,h1,h2⟩:=size_head (e:=e) (dec_ok N) (dec_pos N)
      exact ⟨y,ys,h1,.inr h2⟩
    · exact ⟨45,_,rfl,.inl rfl⟩
theorem numB_head (neg:Bool) (N:Nat) (e:Int):∃ x r,numB neg N e=x::r∧HeadB x∧(x.toNat=45∨48≤x.toNat∧x.toNat≤57):=by
  obtain ⟨y,ys,h1,h2⟩:=num_head neg N e
  have:=digit_head h2
  exact ⟨UInt8.ofNat y,ys.map UInt8.ofNat,by unfold numB;rw [h1];rfl,this.1,this.2⟩
theorem quote_head {k:List UInt8} (h:validL k=true):∃ r,quoteL k=34::r:=by unfold quoteL;rw [if_pos h];exact ⟨_,rfl⟩
theorem sound_kinds {t:MT} (h:soundB t=true) (h5:t.c.k ≠ 5):t.c.k=1∨t.c.k=2∨t.c.k=3∨(t.c.k=4∧validL t.c.s.data.toList=true)∨t.c.k=6∨t.c.k=7:=by
  unfold soundB at h
  by_cases c1:t.c.k=1;· exact .inl c1
  by_cases c2:t.c.k=2;· exact .inr (.inl c2)
  by_cases c3:t.c.k=3;· exact .inr (.inr (.inl c3))
  by_cases c4:t.c.k=4
  · rw [if_neg c1,if_neg c2,if_neg c3,if_pos c4] at h
    simp only [Bool.and_eq_true] at h
    exact .inr (.inr (.inr (.inl ⟨c4,h.1⟩)))
  by_cases c7:t.c.k=7;· exact .inr (.inr (.inr (.inr (.inr c7))))
  by_cases c6:t.c.k=6;· exact .inr (.inr (.inr (.inr (.inl c6))))
  rw [if_neg c1,if_neg c2,if_neg c3,if_neg c4,if_neg h5,if_neg c7,if_neg c6] at h
  cases h
theorem encj_head {t:MT} (h:soundB t=true) (h5:t.c.k ≠ 5):∃ x r,encJ t=x::r∧HeadB x:=by
  rw [encJ_eq]
  rcases sound_kinds h h5 with c | c | c | ⟨c,hv⟩ | c | c
  · rw [if_pos c];exact ⟨110,_,rfl,by unfold HeadB;decide⟩
  · rw [if_neg (by omega),if_pos c]
    cases t.c.b
    · exact ⟨102,_,rfl,by unfold HeadB;decide⟩
    · exact ⟨116,_,rfl,by unfold HeadB;decide⟩
  · rw [if_neg (by omega),if_neg (by omega),if_pos c]
    obtain ⟨x,r,h1,h2,_⟩:=numB_head t.c.neg (val t.m) t.c.e
    exact ⟨x,r,h1,h2⟩
  · rw [if_neg (by omega),if_neg (by omega),if_neg (by omega),if_pos c]
    obtain ⟨r,hr⟩:=quote_head hv
    exact ⟨34,r,hr,by unfold HeadB;decide⟩
  · rw [if_neg (by omega),if_neg (by omega),if_neg (by omega),if_neg (by omega),if_pos c]
    exact ⟨91,_,rfl,by unfold HeadB;decide⟩
  · rw [if_neg (by omega),if_neg (by omega),if_neg (by omega),if_neg (by omega),if_neg (by omega),if_pos c]
    exact ⟨123,_,rfl,by unfold HeadB;decide⟩
def tailC (ps:List (List UInt8)) (e:List UInt8):List UInt8:=(ps.map (44 :: ·)).flatten++e
theorem tailC_nil (e:List UInt8):tailC [] e=e:=rfl
theorem tailC_cons (p:List UInt8) (ps:List (List UInt8)) (e:List UInt8):tailC (p::ps) e=44::(p++tailC ps e):=by unfold tailC;simp
theorem joinC_cons (p:List UInt8) (ps:List (List UInt8)) (e:List UInt8):joinC (p::ps)++e=p++tailC ps e:=by unfold joinC tailC;simp
theorem tailC_nosign (ps:List (List UInt8)) {x:UInt8} {e:List UInt8} (h:signsL.contains x=false):NoSign (tailC ps (x::e)):=by
  cases ps with
  | nil=>exact noSign_cons _ h
  | cons p ps=>rw [tailC_cons];exact noSign_cons _ (by decide)
theorem join_count:∀ ps:List (List UInt8),(∀ p∈ps,0<p.length)→ps.length≤(joinC ps).length:=by
  intro ps h
  cases ps with
  | nil=>exact Nat.zero_le _
  | cons p ps =>
    have h1:=h p (by simp)
    have h2:ps.length≤((ps.map (44 :: ·)).flatten).length:=by
      clear h h1
      induction ps with
      | nil=>exact Nat.zero_le _
      | cons q qs ih=>simp only [List.map_cons,List.flatten_cons,List.length_append,List.length_cons];omega
    simp only [joinC,List.length_append,List.length_cons]
    omega
def RtV (V:List UInt8→Nat→PRJ) (u:MT):Prop:=(∃ x r,encJ u=x::r∧HeadB x)∧∀ n more,NoSign more→n+u.nodes≤2001→V (encJ u++more) n=.inl (u.bare,more,n+u.nodes - 1)
theorem loop_items {V:List UInt8→Nat→PRJ} {D:Nat} (hD:D≤64):∀ (us:List MT) (g many n:Nat) (acc:List MT) (more:List UInt8),us.length<g→0<many→many+us.length≤300→n+MT.nodesL us≤2000→(∀ u∈us,RtV V u) →
    loopL (itemL V) 93 D g many acc (tailC (us.map encJ) (93::more)) n=.inl (acc++us.map MT.bare,more,n+MT.nodesL us):=by
  intro us
  induction us with
  | nil =>
    intro g many n acc more hg hm hn hs hV
    obtain ⟨g,rfl⟩:∃ q,g=q+1:=⟨g - 1,by omega⟩
    rw [List.map_nil,tailC_nil,loopL_end (nextL_cons' (by decide)),skipL_cons (by decide),MT.nodesL_nil]
    simp
  | cons u us ih =>
    intro g many n acc more hg hm hn hs hV
    obtain ⟨g,rfl⟩:∃ q,g=q+1:=⟨g - 1,by omega⟩
    rw [MT.nodesL_cons] at hs ⊢
    rw [List.length_cons] at hg hn
    have hu:=(hV u (by simp)).2 (n+1) (tailC (us.map encJ) (93::more)) (tailC_nosign _ (by decide)) (by have:=u.nodes_pos;omega)
    have hx:nextL (44::(encJ u++tailC (us.map encJ) (93::more)))=44:=nextL_cons' (by decide)
    rw [List.map_cons,tailC_cons,loopL_on (by rw [hx];decide) (by rw [hx];exact fun h=>h.2 rfl) ⟨by omega,hD,by have:=u.nodes_pos;omega⟩ (by rw [if_pos hm,skipL_cons (by decide)];exact itemL_yes hu)]
    rw [ih g (many+1) _ _ more (by omega) (by omega) (by omega) (by show n+1+u.nodes - 1+MT.nodesL us≤2000;omega) (fun v hv=>hV v (by simp [hv]))]
    have hp:=u.nodes_pos
    show Sum.inl (acc++[u.bare]++us.map MT.bare,more,n+1+u.nodes - 1+MT.nodesL us)=_
    rw [List.append_assoc,show n+1+u.nodes - 1+MT.nodesL us=n+(u.nodes+MT.nodesL us) by omega]
    rfl
theorem loop_array {V:List UInt8→Nat→PRJ} {D:Nat} {us:List MT} {g n:Nat} {more:List UInt8} (hD:us ≠ []→D≤64) (hg:us.length<g) (hm:us.length≤300) (hn:n+MT.nodesL us≤2000) (hV:∀ u∈us,RtV V u) :
    loopL (itemL V) 93 D g 0 [] (joinC (us.map encJ)++93::more) n=.inl (us.map MT.bare,more,n+MT.nodesL us):=by
  obtain ⟨g,rfl⟩:∃ q,g=q+1:=⟨g - 1,by omega⟩
  cases us with
  | nil =>
    show loopL (itemL V) 93 D (g+1) 0 [] (93::more) n=_
    rw [loopL_end (nextL_cons' (by decide)),skipL_cons (by decide),MT.nodesL_nil]
    rfl
  | cons u us =>
    rw [MT.nodesL_cons] at hn ⊢
    rw [List.length_cons] at hg hm
    have hp:=u.nodes_pos
    have hu:=(hV u (by simp)).2 (n+1) (tailC (us.map encJ) (93::more)) (tailC_nosign _ (by decide)) (by omega)
    obtain ⟨x,r,hx,hb,h93,_,h44,_⟩:=(hV u (by simp)).1
    have e1:skipL (encJ u++tailC (us.map encJ) (93::more))=encJ u++tailC (us.map encJ) (93::more):=by rw [hx];exact skipL_cons hb
    have e2:nextL (encJ u++tailC (us.map encJ) (93::more))=x:=by rw [hx];exact nextL_cons' hb
    rw [List.map_cons,joinC_cons,loopL_on (by rw [e2];exact h93) (fun h=>absurd h.1 (by decide)) ⟨by decide,hD (by simp),by omega⟩ (by rw [if_neg (by decide),e1];exact itemL_yes hu)]
    rw [loop_items (hD (by simp)) us g 1 _ _ more (by omega) (by decide) (by omega) (by show n+1+u.nodes - 1+MT.nodesL us≤2000;omega) (fun v hv=>hV v (by simp [hv]))]
    show Sum.inl ([u.bare]++us.map MT.bare,more,n+1+u.nodes - 1+MT.nodesL us)=_
    rw [show n+1+u.nodes - 1+MT.nodesL us=n+(u.nodes+MT.nodesL us) by omega]
    rfl
def OkK (k:ByteArray):Prop:=validL k.data.toList=true∧k.size≤2000
theorem okK_of {k:ByteArray} (h:okN k=true):OkK k:=by
  unfold okN at h
  rw [Bool.and_eq_true] at h
  exact ⟨h.2,of_decide_eq_true h.1⟩
theorem okK_len {k:ByteArray} (h:OkK k):k.data.toList.length≤2000:=by rw [Array.length_toList];exact h.2
theorem member_enc {V:List UInt8→Nat→PRJ} {k:ByteArray} {u:MT} (hk:OkK k) (hV:RtV V u) {n:Nat} {more:List UInt8} (hm:NoSign more) (hn:n+u.nodes≤2001) (acc:List (List UInt8) × List MT) :
    memberL V acc (mbrB k (encJ u)++more) n=.inl ((acc.1++[k.data.toList],acc.2++[u.bare]),more,n+u.nodes - 1):=by
  obtain ⟨r,hr⟩:=quote_head hk.1
  have e0:mbrB k (encJ u)++more=quoteL k.data.toList++(58::(encJ u++more)):=by unfold mbrB;simp
  have e1:skipL (mbrB k (encJ u)++more)=quoteL k.data.toList++(58::(encJ u++more)):=by rw [e0,hr];exact skipL_cons (by decide)
  have e2:=textL_enc (more:=58::(encJ u++more)) hk.1 (okK_len hk)
  rw [← e1] at e2
  exact memberL_yes e2 (nextL_cons' (by decide)) (by rw [skipL_cons (by decide)];exact hV.2 n more hm hn)
theorem mbr_head {k:ByteArray} (hk:OkK k) (p more:List UInt8):∃ r,mbrB k p++more=34::r:=by
  obtain ⟨r,hr⟩:=quote_head hk.1
  unfold mbrB
  rw [hr]
  exact ⟨_,rfl⟩
def mbrs (zs:List (ByteArray × MT)):List (List UInt8):=zs.map fun z=>mbrB z.1 (encJ z.2)
theorem mbrs_zip:∀ (ks:List ByteArray) (us:List MT),List.zipWith mbrB ks (us.map encJ)=mbrs (ks.zip us):=by
  intro ks
  induction ks with
  | nil=>intro us;rfl
  | cons k ks ih =>
    intro us
    cases us with
    | nil=>rfl
    | cons u us =>
      rw [List.map_cons,List.zipWith_cons_cons,ih us]
      rfl
theorem loop_members {V:List UInt8→Nat→PRJ} {D:Nat} (hD:D≤64):∀ (zs:List (ByteArray × MT)) (g many n:Nat) (acc:List (List UInt8) × List MT) (more:List UInt8),zs.length<g→0<many→many+zs.length≤300→n+MT.nodesL (zs.map Prod.snd)≤2000→(∀ z∈zs,OkK z.1∧RtV V z.2) →
    loopL (memberL V) 125 D g many acc (tailC (mbrs zs) (125::more)) n=.inl ((acc.1++zs.map fun z=>z.1.data.toList,acc.2++zs.map fun z=>z.2.bare),more,n+MT.nodesL (zs.map Prod.snd)):=by
  intro zs
  induction zs with
  | nil =>
    intro g many n acc more hg hm hn hs hV
    obtain ⟨g,rfl⟩:∃ q,g=q+1:=⟨g - 1,by omega⟩
    show loopL (memberL V) 125 D (g+1) many acc (125::more) n=_
    rw [loopL_end (nextL_cons' (by decide)),skipL_cons (by decide),show MT.nodesL (([]:List (ByteArray × MT)).map Prod.snd)=0 from MT.nodesL_nil]
    simp
  | cons z zs ih =>
    intro g many n acc more hg hm hn hs hV
    obtain ⟨g,rfl⟩:∃ q,g=q+1:=⟨g - 1,by omega⟩
    have hN:MT.nodesL ((z::zs).map Prod.snd)=z.2.nodes+MT.nodesL (zs.map Prod.snd):=MT.nodesL_cons _ _
    rw [hN] at hs ⊢
    rw [List.length_cons] at hg hn
    have hp:=z.2.nodes_pos
    have hz:=hV z (by simp)
    have hu:=member_enc hz.1 hz.2 (n:=n+1) (more:=tailC (mbrs zs) (125::more)) (tailC_nosign _ (by decide)) (by omega) acc
    have e:mbrs (z::zs)=mbrB z.1 (encJ z.2)::mbrs zs:=rfl
    have hx:nextL (44::(mbrB z.1 (encJ z.2)++tailC (mbrs zs) (125::more)))=44:=nextL_cons' (by decide)
    rw [e,tailC_cons,loopL_on (by rw [hx];decide) (by rw [hx];exact fun h=>h.2 rfl) ⟨by omega,hD,by omega⟩ (by rw [if_pos hm,skipL_cons (by decide)];exact hu)]
    rw [ih g (many+1) _ _ more (by omega) (by omega) (by omega) (by show n+1+z.2.nodes - 1+MT.nodesL (zs.map Prod.snd)≤2000;omega) (fun v hv=>hV v (by simp [hv]))]
    show Sum.inl (((acc.1++[z.1.data.toList])++zs.map fun z=>z.1.data.toList,(acc.2++[z.2.bare])++zs.map fun z=>z.2.bare),more,n+1+z.2.nodes - 1+MT.nodesL (zs.map Prod.snd))=_
    rw [List.append_assoc,List.append_assoc,show n+1+z.2.nodes - 1+MT.nodesL (zs.map Prod.snd)=n+(z.2.nodes+MT.nodesL (zs.map Prod.snd)) by omega]
    rfl
theorem loop_object {V:List UInt8→Nat→PRJ} {D:Nat} {zs:List (ByteArray × MT)} {g n:Nat} {more:List UInt8} (hD:zs ≠ []→D≤64) (hg:zs.length<g) (hm:zs.length≤300) (hn:n+MT.nodesL (zs.map Prod.snd)≤2000) (hV:∀ z∈zs,OkK z.1∧RtV V z.2) :
    loopL (memberL V) 125 D g 0 ([],[]) (joinC (mbrs zs)++125::more) n=.inl ((zs.map fun z=>z.1.data.toList,zs.map fun z=>z.2.bare),more,n+MT.nodesL (zs.map Prod.snd)):=by
  obtain ⟨g,rfl⟩:∃ q,g=q+1:=⟨g - 1,by omega⟩
  cases zs with
  | nil =>
    show loopL (memberL V) 125 D (g+1) 0 ([],[]) (125::more) n=_
    rw [loopL_end (nextL_cons' (by decide)),skipL_cons (by decide),show MT.nodesL (([]:List (ByteArray × MT)).map Prod.snd)=0 from MT.nodesL_nil]
    rfl
  | cons z zs =>
    have hN:MT.nodesL ((z::zs).map Prod.snd)=z.2.nodes+MT.nodesL (zs.map Prod.snd):=MT.nodesL_cons _ _
    rw [hN] at hn ⊢
    rw [List.length_cons] at hg hm
    have hp:=z.2.nodes_pos
    have hz:=hV z (by simp)
    have hu:=member_enc hz.1 hz.2 (n:=n+1) (more:=tailC (mbrs zs) (125::more)) (tailC_nosign _ (by decide)) (by omega) ([],[])
    have e:mbrs (z::zs)=mbrB z.1 (encJ z.2)::mbrs zs:=rfl
    obtain ⟨r,hx⟩:=mbr_head hz.1 (encJ z.2) (tailC (mbrs zs) (125::more))
    have e1:skipL (mbrB z.1 (encJ z.2)++tailC (mbrs zs) (125::more))=mbrB z.1 (encJ z.2)++tailC (mbrs zs) (125::more):=by rw [hx];exact skipL_cons (by decide)
    have e2:nextL (mbrB z.1 (encJ z.2)++tailC (mbrs zs) (125::more))=34:=by rw [hx];exact nextL_cons' (by decide)
    rw [e,joinC_cons,loopL_on (by rw [e2];decide) (fun h=>absurd h.1 (by decide)) ⟨by decide,hD (by simp),by omega⟩ (by rw [if_neg (by decide),e1];exact hu)]
    rw [loop_members (hD (by simp)) zs g 1 _ _ more (by omega) (by decide) (by omega) (by show n+1+z.2.nodes - 1+MT.nodesL (zs.map Prod.snd)≤2000;omega) (fun v hv=>hV v (by simp [hv]))]
    show Sum.inl ((([]++[z.1.data.toList])++zs.map fun z=>z.1.data.toList,([]++[z.2.bare])++zs.map fun z=>z.2.bare),more,n+1+z.2.nodes - 1+MT.nodesL (zs.map Prod.snd))=_
    rw [show n+1+z.2.nodes - 1+MT.nodesL (zs.map Prod.snd)=n+(z.2.nodes+MT.nodesL (zs.map Prod.snd)) by omega]
    rfl
theorem sorted_ris {ks:List ByteArray} (h:Ris ks):sortedK ks=List.range' 0 ks.length:=by
  unfold sortedK
  refine (srt_unique sto_bytes _ _ _ _ (List.Perm.refl _) ?_).symm
  rw [List.pairwise_iff_getElem]
  intro i j hi hj hij
  rw [List.length_range'] at hi hj
  rw [List.getElem_range',List.getElem_range',leI_iff]
  left
  have:=h i j hij hj
  unfold ltS at this
  simpa using this
theorem ris_nodup {ks:List ByteArray} (h:Ris ks):(ks.map fun k=>k.data.toList).Nodup:=by
  refine List.pairwise_iff_getElem.2 ?_
  intro i j hi hj hij
  rw [List.length_map] at hi hj
  rw [List.getElem_map,List.getElem_map]
  have:=ltS_ne (h i j hij hj)
  intro e
  apply this
  simp only [List.getD,List.getElem?_eq_getElem hi,List.getElem?_eq_getElem hj,Option.getD_some]
  exact ByteArray.ext (Array.toList_inj.1 e)
theorem strs_back (ks:List ByteArray):strs (ks.map fun k=>k.data.toList)=ks:=by
  unfold strs
  rw [List.map_map]
  have:((fun x:List UInt8=>(⟨x.toArray⟩:ByteArray)) ∘ fun k:ByteArray=>k.data.toList)=id:=by funext k;rfl
  rw [this,List.map_id]
theorem range_getD {α:Type} (l:List α) (d:α):(List.range' 0 l.length).map (fun i=>l.getD i d)=l:=by
  apply List.ext_getElem
  · simp
  · intro i h1 h2
    simp [List.getD,h2]
theorem blank_facts {c:Cel} (h:blankB c=true):c.b=false∧c.neg=false∧c.mn=0∧c.e=0∧c.s=⟨#[]⟩∧c.kn=0∧c.vn=0:=by
  unfold blankB at h
  simp only [Bool.and_eq_true,Bool.not_eq_true',decide_eq_true_eq] at h
  obtain ⟨h1,h2,h3,h4,h5,h6,h7⟩:=h
  refine ⟨h1,h2,h3,h4,?_,h6,h7⟩
  apply ByteArray.ext
  exact Array.eq_empty_of_size_eq_zero h5
theorem bare_null {t:MT} (hc:Coh t) (k:t.c.k=1) (h:soundB t=true):t.bare=leafT 1 false ⟨#[]⟩:=by
  obtain ⟨h1,_,h2,h3⟩:=hc.own
  rw [MT.bare_eq]
  obtain ⟨⟨ck,b,neg,ma,mn,mc,e,s,ka,kn,kc,va,vn,vc⟩,m,ks,vs⟩:=t
  simp only [MT.c,MT.m,MT.k,MT.v] at *
  subst k
  obtain ⟨e1,e2,e3,e4,e5,e6,e7⟩:=blank_facts (c:=⟨1,b,neg,ma,mn,mc,e,s,ka,kn,kc,va,vn,vc⟩) h
  simp only at e1 e2 e3 e4 e5 e6 e7
  subst e1 e2 e3 e4 e5 e6 e7
  rw [List.eq_nil_of_length_eq_zero h1,List.eq_nil_of_length_eq_zero h2,List.eq_nil_of_length_eq_zero h3]
  rfl
theorem bare_bool {t:MT} (hc:Coh t) (k:t.c.k=2) (h:soundB t=true):t.bare=leafT 2 t.c.b ⟨#[]⟩:=by
  obtain ⟨h1,_,h2,h3⟩:=hc.own
  rw [MT.bare_eq]
  obtain ⟨⟨ck,b,neg,ma,mn,mc,e,s,ka,kn,kc,va,vn,vc⟩,m,ks,vs⟩:=t
  simp only [MT.c,MT.m,MT.k,MT.v] at *
  subst k
  obtain ⟨e1,e2,e3,e4,e5,e6,e7⟩:=blank_facts (c:=⟨2,false,neg,ma,mn,mc,e,s,ka,kn,kc,va,vn,vc⟩) h
  simp only at e1 e2 e3 e4 e5 e6 e7
  subst e2 e3 e4 e5 e6 e7
  rw [List.eq_nil_of_length_eq_zero h1,List.eq_nil_of_length_eq_zero h2,List.eq_nil_of_length_eq_zero h3]
  rfl
theorem bare_num {t:MT} (hc:Coh t) (k:t.c.k=3) (h:soundB t=true):chkB t.c.neg t.m t.c.e=true∧t.bare=numT t.c.neg none t.m.length 0 t.c.e t.m:=by
  obtain ⟨h1,_,h2,h3⟩:=hc.own
  rw [MT.bare_eq]
  obtain ⟨⟨ck,b,neg,ma,mn,mc,e,s,ka,kn,kc,va,vn,vc⟩,m,ks,vs⟩:=t
  simp only [MT.c,MT.m,MT.k,MT.v] at *
  subst k
  have h':(chkB neg m e && blankB ⟨3,b,false,none,0,0,0,s,ka,kn,kc,va,vn,vc⟩)=true:=h
  rw [Bool.and_eq_true] at h'
  obtain ⟨e1,e2,e3,e4,e5,e6,e7⟩:=blank_facts h'.2
  simp only at e1 e2 e3 e4 e5 e6 e7
  subst e1 e5 e6 e7 h1
  rw [List.eq_nil_of_length_eq_zero h2,List.eq_nil_of_length_eq_zero h3]
  exact ⟨h'.1,rfl⟩
theorem bare_text {t:MT} (hc:Coh t) (k:t.c.k=4) (h:soundB t=true):OkK t.c.s∧t.bare=leafT 4 false t.c.s:=by
  obtain ⟨h1,_,h2,h3⟩:=hc.own
  rw [MT.bare_eq]
  obtain ⟨⟨ck,b,neg,ma,mn,mc,e,s,ka,kn,kc,va,vn,vc⟩,m,ks,vs⟩:=t
  simp only [MT.c,MT.m,MT.k,MT.v] at *
  subst k
  have h':(validL s.data.toList && (decide (s.size≤2000) && blankB ⟨4,b,neg,ma,mn,mc,e,⟨#[]⟩,ka,kn,kc,va,vn,vc⟩))=true:=h
  rw [Bool.and_eq_true,Bool.and_eq_true] at h'
  obtain ⟨e1,e2,e3,e4,e5,e6,e7⟩:=blank_facts h'.2.2
  simp only at e1 e2 e3 e4 e5 e6 e7
  subst e1 e2 e3 e4 e6 e7
  rw [List.eq_nil_of_length_eq_zero h1,List.eq_nil_of_length_eq_zero h2,List.eq_nil_of_length_eq_zero h3]
  exact ⟨⟨h'.1,of_decide_eq_true h'.2.1⟩,rfl⟩
theorem bare_arr {t:MT} (hc:Coh t) (k:t.c.k=6) (h:soundB t=true):t.v.length≤300∧t.bare=barr (t.v.map MT.bare):=by
  obtain ⟨h1,_,h2,h3⟩:=hc.own
  rw [MT.bare_eq]
  obtain ⟨⟨ck,b,neg,ma,mn,mc,e,s,ka,kn,kc,va,vn,vc⟩,m,ks,vs⟩:=t
  simp only [MT.c,MT.m,MT.k,MT.v] at *
  subst k
  have h':(decide (vn≤300) && blankB ⟨6,b,neg,ma,mn,mc,e,s,ka,kn,kc,none,0,0⟩)=true:=h
  rw [Bool.and_eq_true] at h'
  obtain ⟨e1,e2,e3,e4,e5,e6,e7⟩:=blank_facts h'.2
  simp only at e1 e2 e3 e4 e5 e6 e7
  subst e1 e2 e3 e4 e5 e6 h3
  rw [List.eq_nil_of_length_eq_zero h1,List.eq_nil_of_length_eq_zero h2]
  refine ⟨of_decide_eq_true h'.1,?_⟩
  unfold barr arrT
  rw [List.length_map]
  rfl
theorem bare_obj {t:MT} (hc:Coh t) (k:t.c.k=7) (h:soundB t=true):t.v.length≤300∧t.k.length=t.v.length∧risesB t.k=true∧t.bare=bobj t.k (t.v.map MT.bare):=by
  obtain ⟨h1,_,h2,h3⟩:=hc.own
  rw [MT.bare_eq]
  obtain ⟨⟨ck,b,neg,ma,mn,mc,e,s,ka,kn,kc,va,vn,vc⟩,m,ks,vs⟩:=t
  simp only [MT.c,MT.m,MT.k,MT.v] at *
  subst k
  have h':(decide (kn=vn) && (risesB ks && (decide (vn≤300) && blankB ⟨7,b,neg,ma,mn,mc,e,s,none,0,0,none,0,0⟩)))=true:=h
  rw [Bool.and_eq_true,Bool.and_eq_true,Bool.and_eq_true] at h'
  obtain ⟨e1,e2,e3,e4,e5,e6,e7⟩:=blank_facts h'.2.2.2
  simp only at e1 e2 e3 e4 e5 e6 e7
  have hkv:=of_decide_eq_true h'.1
  subst e1 e2 e3 e4 e5 h3 h2
  rw [List.eq_nil_of_length_eq_zero h1]
  refine ⟨of_decide_eq_true h'.2.2.1,hkv,h'.2.1,?_⟩
  unfold bobj objT
  rw [List.length_map]
  rfl
theorem wordL_enc (W more:List UInt8) (t:MT) (n:Nat):wordL W t (W++more) n=.inl (t,more,n):=by
  unfold wordL
  have h:Lib.hasPrefix (W++more) W=true:=List.isPrefixOf_iff_prefix.2 (List.prefix_append _ _)
  rw [if_pos h]
  have e:Lib.trimPrefix (W++more) W=more:=by simp only [Lib.trimPrefix,h,if_true];exact List.drop_left' rfl
  rw [e]
theorem valueL_null {f d n:Nat} {l:List UInt8} (h:nextL l=110):valueL (f+1) d l n=wordL [110,117,108,108] (leafT 1 false ⟨#[]⟩) (skipL l) n:=by
  unfold valueL valueW
  rw [h]
  rfl
theorem valueL_true {f d n:Nat} {l:List UInt8} (h:nextL l=116):valueL (f+1) d l n=wordL [116,114,117,101] (leafT 2 true ⟨#[]⟩) (skipL l) n:=by
  unfold valueL valueW
  rw [h]
  rfl
theorem valueL_false {f d n:Nat} {l:List UInt8} (h:nextL l=102):valueL (f+1) d l n=wordL [102,97,108,115,101] (leafT 2 false ⟨#[]⟩) (skipL l) n:=by
  unfold valueL valueW
  rw [h]
  rfl
def SndD (t:MT) (d:Nat):Prop:=∀ x∈t.pre d,x.1≤64∧soundB x.2=true
theorem SndD.own {t:MT} {d:Nat} (h:SndD t d):d≤64∧soundB t=true:=h (d,t) (by rw [MT.pre_eq];simp)
theorem SndD.part {t u:MT} {d:Nat} (h:SndD t d) (hu:u∈t.v):SndD u (d+1):=fun x hx=>h x (by rw [MT.pre_eq];exact List.mem_cons_of_mem _ (MT.mem_preL.2 ⟨u,hu,hx⟩))
theorem SndD.of {t:MT} (h:checkB t=true):SndD t 1∧t.nodes≤2000:=by
  unfold checkB at h
  rw [Bool.and_eq_true,List.all_eq_true] at h
  refine ⟨fun x hx=>?_,of_decide_eq_true h.1⟩
  have:=h.2 x hx
  rw [Bool.and_eq_true] at this
  exact ⟨of_decide_eq_true this.1,this.2⟩
theorem zip_nodes:∀ (ks:List ByteArray) (us:List MT),ks.length=us.length→(ks.zip us).map Prod.snd=us:=by
  intro ks us h
  rw [List.map_snd_zip (Nat.le_of_eq h.symm)]
theorem value_enc (t:MT):∀ (f dd n:Nat) (more:List UInt8),dd+f=67→SndD t dd→Coh t→NoB t→n+t.nodes≤2001→NoSign more→valueL f dd (encJ t++more) n=.inl (t.bare,more,n+t.nodes - 1):=by
  refine MT.ind (P:=fun t=>∀ (f dd n:Nat) (more:List UInt8),dd+f=67→SndD t dd→Coh t→NoB t→n+t.nodes≤2001→NoSign more→valueL f dd (encJ t++more) n=.inl (t.bare,more,n+t.nodes - 1)) ?_ t
  intro t ih f dd n more hf hs hc hb hn hm
  obtain ⟨hd,hso⟩:=hs.own
  obtain ⟨f,rfl⟩:∃ g,f=g+1:=⟨f - 1,by omega⟩
  have hb5:=(NoB.iff.1 hb).1
  have hvn:∀ {x:List MT},t.v=x→t.nodes=1+MT.nodesL x:=fun e=>by rw [MT.nodes_eq,e]
  have hR:∀ u∈t.v,RtV (valueL f (dd+1)) u:=fun u hu=>by
    have hsu:=hs.part hu
    exact ⟨encj_head hsu.own.2 (NoB.iff.1 ((NoB.iff.1 hb).2 u hu)).1,fun n more hm hn=>ih u hu f (dd+1) n more (by omega) hsu (hc.part hu) ((NoB.iff.1 hb).2 u hu) hn hm⟩
  have hD:t.v ≠ []→dd+1≤64:=fun h=>by
    obtain ⟨u,us,e⟩:=List.exists_cons_of_ne_nil h
    exact (hs.part (u:=u) (by rw [e];simp)).own.1
  have one:∀ {x:MT},t.bare=x→x.v=[]→n+t.nodes - 1=n:=fun e h=>by
    have h2:t.v.map MT.bare=[]:=by rw [← h,← e,MT.bare_eq];rfl
    rw [List.map_eq_nil_iff] at h2
    rw [MT.nodes_eq,h2,MT.nodesL_nil]
    omega
  rw [encJ_eq]
  rcases sound_kinds hso hb5 with c | c | c | ⟨c,_⟩ | c | c
  · rw [if_pos c,bare_null hc c hso,one (bare_null hc c hso) rfl]
    have e:skipL (nullB++more)=nullB++more:=skipL_cons (by decide)
    rw [valueL_null (l:=nullB++more) (nextL_cons' (by decide)),e]
    exact wordL_enc _ _ _ _
  · rw [if_neg (by omega),if_pos c,bare_bool hc c hso,one (bare_bool hc c hso) rfl]
    cases t.c.b
    · have e:skipL (truthB false++more)=truthB false++more:=skipL_cons (by decide)
      rw [valueL_false (l:=truthB false++more) (nextL_cons' (by decide)),e]
      exact wordL_enc _ _ _ _
    · have e:skipL (truthB true++more)=truthB true++more:=skipL_cons (by decide)
      rw [valueL_true (l:=truthB true++more) (nextL_cons' (by decide)),e]
      exact wordL_enc _ _ _ _
  · obtain ⟨h1,h2⟩:=bare_num hc c hso
    rw [if_neg (by omega),if_neg (by omega),if_pos c,one h2 rfl,h2]
    obtain ⟨x,r,hx,hh,hdg⟩:=numB_head t.c.neg (val t.m) t.c.e
    have e1:skipL (numB t.c.neg (val t.m) t.c.e++more)=numB t.c.neg (val t.m) t.c.e++more:=by rw [hx];exact skipL_cons hh.1
    have e2:nextL (numB t.c.neg (val t.m) t.c.e++more)=x:=by rw [hx];exact nextL_cons' hh.1
    rw [valueL_num (by rw [e2];exact hdg),e1]
    unfold numP
    rw [numL_enc hc.own.2.1 h1 hm]
    show Sum.inl (numT t.c.neg none (limbs (val t.m)).length 0 t.c.e (limbs (val t.m)),more,n)=_
    rw [(parse_chk hc.own.2.1 h1).2]
  · obtain ⟨h1,h2⟩:=bare_text hc c hso
    rw [if_neg (by omega),if_neg (by omega),if_neg (by omega),if_pos c,one h2 rfl,h2]
    obtain ⟨r,hr⟩:=quote_head h1.1
    have e1:skipL (quoteL t.c.s.data.toList++more)=quoteL t.c.s.data.toList++more:=by rw [hr];exact skipL_cons (by decide)
    have e2:nextL (quoteL t.c.s.data.toList++more)=34:=by rw [hr];exact nextL_cons' (by decide)
    rw [valueL_text e2,e1]
    unfold textP
    rw [textL_enc h1.1 (okK_len h1)]
    rfl
  · obtain ⟨h1,h2⟩:=bare_arr hc c hso
    rw [if_neg (by omega),if_neg (by omega),if_neg (by omega),if_neg (by omega),if_pos c,h2]
    rw [MT.nodes_eq] at hn ⊢
    have e0:arrB (t.v.map encJ)++more=91::(joinC (t.v.map encJ)++93::more):=by unfold arrB;simp
    have hlen:t.v.length≤(joinC (t.v.map encJ)).length:=by
      have:=join_count (t.v.map encJ) (fun p hp=>by
        obtain ⟨u,hu,rfl⟩:=List.mem_map.1 hp
        obtain ⟨x,r,hx,_⟩:=(hR u hu).1
        rw [hx];simp)
      rwa [List.length_map] at this
    have hl:=loop_array (V:=valueL f (dd+1)) (D:=dd+1) (g:=(91::(joinC (t.v.map encJ)++93::more)).length+1) (n:=n) (more:=more) hD (by simp only [List.length_cons,List.length_append];omega) h1 (by omega) hR
    rw [e0,valueL_arr (nextL_cons' (by decide)),skipL_cons (by decide)]
    have:=arrL_yes (d:=dd) (s:=91::(joinC (t.v.map encJ)++93::more)) (by rw [skipL_cons (by decide)];exact hl)
    rw [this]
    show Sum.inl (barr (t.v.map MT.bare),more,n+MT.nodesL t.v)=_
    rw [show n+MT.nodesL t.v=n+(1+MT.nodesL t.v) - 1 by omega]
  · obtain ⟨h1,h3,h4,h2⟩:=bare_obj hc c hso
    rw [if_neg (by omega),if_neg (by omega),if_neg (by omega),if_neg (by omega),if_neg (by omega),if_pos c,h2]
    rw [MT.nodes_eq] at hn ⊢
    have e0:objB t.k (t.v.map encJ)++more=123::(joinC (mbrs (t.k.zip t.v))++125::more):=by unfold objB;rw [mbrs_zip];simp
    have hz:∀ z∈t.k.zip t.v,OkK z.1∧RtV (valueL f (dd+1)) z.2:=fun z hz=>⟨okK_of (rises_ok h4 z.1 (List.of_mem_zip hz).1),hR z.2 (List.of_mem_zip hz).2⟩
    have hzl:(t.k.zip t.v).length=t.v.length:=by rw [List.length_zip,h3,Nat.min_self]
    have hlen:(t.k.zip t.v).length≤(joinC (mbrs (t.k.zip t.v))).length:=by
      have:=join_count (mbrs (t.k.zip t.v)) (fun p hp=>by
        obtain ⟨z,hzz,rfl⟩:=List.mem_map.1 hp
        unfold mbrB
        simp only [List.length_append,List.length_cons]
        omega)
      unfold mbrs at this ⊢
      rwa [List.length_map] at this
    have hzn:(t.k.zip t.v).map Prod.snd=t.v:=zip_nodes _ _ h3
    have hl:=loop_object (V:=valueL f (dd+1)) (D:=dd+1) (zs:=t.k.zip t.v) (g:=(123::(joinC (mbrs (t.k.zip t.v))++125::more)).length+1) (n:=n) (more:=more) (fun h=>hD (fun e=>h (by rw [e];simp))) (by simp only [List.length_cons,List.length_append];omega) (by omega) (by rw [hzn];omega) hz
    have hk1:(t.k.zip t.v).map (fun z=>z.1.data.toList)=t.k.map fun k=>k.data.toList:=by
      have:=congrArg (List.map fun k:ByteArray=>k.data.toList) (List.map_fst_zip (l₁:=t.k) (l₂:=t.v) (Nat.le_of_eq h3))
      rw [List.map_map] at this
      exact this
    have hk2:(t.k.zip t.v).map (fun z=>z.2.bare)=t.v.map MT.bare:=by
      have:=congrArg (List.map MT.bare) hzn
      rw [List.map_map] at this
      exact this
    rw [hk1,hk2,hzn] at hl
    have hris:=ris_of h4
    rw [e0,valueL_obj (nextL_cons' (by decide)),skipL_cons (by decide)]
    have:=objL_yes (d:=dd) (s:=123::(joinC (mbrs (t.k.zip t.v))++125::more)) (by rw [skipL_cons (by decide)];exact hl) (ris_nodup hris)
    rw [this]
    simp only [strs_back]
    rw [sorted_ris hris,range_getD t.k ByteArray.empty]
    have hk3:(List.range' 0 t.k.length).map (fun i=>(t.v.map MT.bare).getD i (leafT 0 false ⟨#[]⟩))=t.v.map MT.bare:=by
      have:=range_getD (t.v.map MT.bare) (leafT 0 false ⟨#[]⟩)
      rw [List.length_map,← h3] at this
      exact this
    rw [hk3,show n+MT.nodesL t.v=n+(1+MT.nodesL t.v) - 1 by omega]
end Go.Proofs.YtijaphbccnadbaaGreatDoor
namespace Go.Proofs.YtijaphbccnadbaaGreatDoor
open Go.RowKit Go.Shelf Go.Lib
theorem coh_mk {c:Cel} {m:List Nat} {k:List ByteArray} {v:List MT} (h:m.length=c.mn∧Okl m∧k.length=c.kn∧v.length=c.vn) (hv:∀ u∈v,Coh u):Coh (.mk c m k v):=by
  intro s hs
  rcases MT.sub_cases hs with rfl | ⟨u,hu,hs⟩
  · exact h
  · exact hv u hu s hs
def isE (x:Nat):Bool:=decide (x=101∨x=69)
def aft (l:List Nat):List Nat:=l.dropWhile fun x=>!isE x
theorem aft_no {x:Nat} (h:isE x=false) (l:List Nat):aft (x::l)=aft l:=by unfold aft;rw [List.dropWhile_cons,if_pos (by rw [h];rfl)]
theorem aft_yes {x:Nat} (h:isE x=true) (l:List Nat):aft (x::l)=x::l:=by unfold aft;rw [List.dropWhile_cons,if_neg (by rw [h];decide)]
theorem aft_all {l:List Nat} (h:∀ x∈l,isE x=false) (k:List Nat):aft (l++k)=aft k:=by
  induction l with
  | nil=>rfl
  | cons x l ih=>rw [List.cons_append,aft_no (h x (by simp)),ih (fun y hy=>h y (by simp [hy]))]
theorem aft_nil {l:List Nat} (h:∀ x∈l,isE x=false):aft l=[]:=by have:=aft_all h [];rwa [List.append_nil] at this
theorem aft_app (p q:List Nat) (h:aft p ≠ []):aft (p++q)=aft p++q:=by
  induction p with
  | nil=>exact absurd rfl h
  | cons x p ih =>
    cases hx:isE x with
    | true=>rw [List.cons_append,aft_yes hx,aft_yes hx];rfl
    | false=>rw [aft_no hx] at h ⊢;rw [List.cons_append,aft_no hx,ih h]
theorem okd_e {d:List Nat} (h:Okd d):∀ x∈d,isE x=false:=fun x hx=>by
  have:=h x hx
  unfold isE
  exact decide_eq_false (by omega)
def AftT (T:List Nat):Prop:=aft T=[]∨∃ sg D,aft T=101::sg::D∧(sg=43∨sg=45)∧D.length≤4
theorem aft_size {d:List Nat} {e:Int} (h:Okd d) (hd:d.length≤100) (he:-1200≤e∧e≤1200):AftT (sizeTxt d e):=by
  unfold sizeTxt
  split
  · right
    have hn:((d.length:Int)+e - 1).natAbs<tenN 4:=by unfold tenN;omega
    refine ⟨if (d.length:Int)+e - 1<0 then 45 else 43,dec ((d.length:Int)+e - 1).natAbs,?_,?_,dec_len_le (by decide) hn⟩
    · unfold expTxt
      rw [aft_all (okd_e (fun x hx=>h x (List.mem_of_mem_take hx)))]
      rw [aft_all (l:=if 1<d.length then [46]++d.drop 1 else []) (by
        intro x hx
        split at hx
        · rcases List.mem_append.1 hx with hx | hx
          · rw [List.mem_singleton.1 hx];rfl
          · exact okd_e h x (List.mem_of_mem_drop hx)
        · cases hx)]
      rfl
    · split
      · exact .inr rfl
      · exact .inl rfl
  · left
    split
    · refine aft_nil fun x hx=>?_
      rcases List.mem_append.1 hx with hx | hx
      · rcases List.mem_append.1 hx with hx | hx
        · rcases List.mem_cons.1 hx with rfl | hx
          · rfl
          · rw [List.mem_singleton.1 hx];rfl
        · rw [(List.mem_replicate.1 hx).2];rfl
      · exact okd_e h x hx
    · split
      · refine aft_nil fun x hx=>?_
        rcases List.mem_append.1 hx with hx | hx
        · rcases List.mem_append.1 hx with hx | hx
          · exact okd_e h x (List.mem_of_mem_take hx)
          · rw [List.mem_singleton.1 hx];rfl
        · exact okd_e h x (List.mem_of_mem_drop hx)
      · refine aft_nil fun x hx=>?_
        rcases List.mem_append.1 hx with hx | hx
        · exact okd_e h x hx
        · rw [(List.mem_replicate.1 hx).2];rfl
theorem aft_num {neg:Bool} {N:Nat} {e:Int} (hd:(dec N).length≤100) (he:-1200≤e∧e≤1200):AftT (numTxt neg N e):=by
  have h:=aft_size (dec_ok N) hd he
  unfold numTxt
  split
  · exact .inl rfl
  · cases neg
    · exact h
    · unfold AftT
      rw [show (if true=true then [45] else [])++sizeTxt (dec N) e=45::sizeTxt (dec N) e from rfl,aft_no rfl]
      exact h
theorem digs_undigs (l:List Nat):digs l++undigs l=l:=List.takeWhile_append_dropWhile
theorem aft_undigs (l:List Nat):aft (undigs l)=aft l:=by
  have:=aft_all (okd_e (digs_ok l)) (undigs l)
  rw [digs_undigs] at this
  exact this.symm
theorem read_parts {p:List Nat} {pt:Pt} (h:readL p=some pt):pt.whole.length≤p.length∧pt.frac.length≤p.length∧Okd pt.whole∧Okd pt.frac∧Okd pt.exp∧(pt.exp=[]∨∃ x t,aft p=x::t∧pt.exp=digs (signL t)):=by
  have h0:aft (rest p 45)=aft p:=by
    unfold rest
    split
    · rename_i ht
      obtain ⟨l',rfl⟩:=takes_true ht
      exact (aft_no rfl l').symm
    · rfl
  have hl0:=rest_len p 45
  unfold readL at h
  split at h
  · cases h
  · split at h
    · cases h
    · rename_i f l3 hf
      split at h
      · cases h
      · rename_i d x l4 hx
        split at h
        · simp only [Option.some.injEq] at h
          subst h
          have hu:=undigs_len (rest p 45)
          have hfr:aft l3=aft p∧f.length≤p.length∧Okd f:=by
            unfold fracL at hf
            split at hf
            · rename_i ht
              split at hf
              · cases hf
              · simp only [Option.some.injEq,Prod.mk.injEq] at hf
                obtain ⟨rfl,rfl⟩:=hf
                obtain ⟨l',hl'⟩:=takes_true ht
                rw [hl'] at hu ⊢
                have:=digs_len l'
                refine ⟨?_,by simp only [List.length_cons,List.tail_cons] at *;omega,digs_ok _⟩
                rw [List.tail_cons,aft_undigs,← h0,← aft_undigs (rest p 45),hl',aft_no rfl]
            · simp only [Option.some.injEq,Prod.mk.injEq] at hf
              obtain ⟨rfl,rfl⟩:=hf
              exact ⟨by rw [aft_undigs,h0],Nat.zero_le _,fun x hx=>by cases hx⟩
          have hex:Okd x∧(x=[]∨∃ y t,aft p=y::t∧x=digs (signL t)):=by
            unfold expL at hx
            split at hx
            · rename_i ht
              split at hx
              · cases hx
              · simp only [Option.some.injEq,Prod.mk.injEq] at hx
                obtain ⟨_,rfl,_⟩:=hx
                refine ⟨digs_ok _,.inr ?_⟩
                rw [← hfr.1]
                rcases ht with ht | ht
                · obtain ⟨l',hl'⟩:=takes_true ht
                  rw [hl']
                  exact ⟨101,l',aft_yes rfl l',rfl⟩
                · obtain ⟨l',hl'⟩:=takes_true ht
                  rw [hl']
                  exact ⟨69,l',aft_yes rfl l',rfl⟩
            · simp only [Option.some.injEq,Prod.mk.injEq] at hx
              obtain ⟨_,rfl,_⟩:=hx
              exact ⟨(fun x hx=>by cases hx),.inl rfl⟩
          have:=digs_len (rest p 45)
          exact ⟨by simp only;omega,hfr.2.1,digs_ok _,hfr.2.2,hex.1,hex.2⟩
        · cases h
theorem read_exp {p q T:List Nat} (hT:AftT T) (h:T=p++q) (hq:q ≠ []) {pt:Pt} (hr:readL p=some pt):pt.exp.length≤3:=by
  rcases (read_parts hr).2.2.2.2.2 with he | ⟨x,t,ha,he⟩
  · rw [he];exact Nat.zero_le _
  · have h1:aft T=x::t++q:=by rw [h,aft_app p q (by rw [ha];simp),ha]
    rcases hT with hT | ⟨sg,D,hT,hs,hD⟩
    · rw [hT] at h1;cases h1
    · rw [hT] at h1
      simp only [List.cons_append,List.cons.injEq] at h1
      obtain ⟨_,h2⟩:=h1
      rw [he]
      cases t with
      | nil=>exact Nat.zero_le _
      | cons y t =>
        simp only [List.cons_append,List.cons.injEq] at h2
        obtain ⟨rfl,rfl⟩:=h2
        have hql:0<q.length:=List.length_pos_iff.2 hq
        rw [List.length_append] at hD
        have hsg:signL (sg::t)=t:=by
          unfold signL rest
          rcases hs with rfl | rfl <;> rfl
        rw [hsg]
        have:=digs_len t
        omega
theorem tenN_lt {a b:Nat} (h:tenN a<tenN b):a<b:=by
  rcases Nat.lt_or_ge a b with g | g
  · exact g
  · have:=tenN_le g;omega
theorem trimM_le (N:Nat):trimM N≤N:=Nat.div_le_self _ _
theorem parse_cut {p q T:List Nat} (hT:AftT T) (h:T=p++q) (hq:q ≠ []) (hl:T.length≤100):parseN p=.inr 2∨∃ r,parseN p=.inl r:=by
  have hpl:p.length≤100:=by rw [h,List.length_append] at hl;omega
  unfold parseN
  rw [if_neg (by omega)]
  cases hr:readL p with
  | none=>exact .inl rfl
  | some pt =>
    right
    have hx:=read_exp hT h hq hr
    obtain ⟨hw,hf,ow,of',oe,_⟩:=read_parts hr
    simp only
    have hn:∃ r,numberL pt=some r:=by
      unfold numberL
      split
      · exact ⟨_,rfl⟩
      · rename_i hH
        have hon:Okd (expN pt):=fun a ha=>oe a ((List.dropWhile_sublist _).subset ha)
        have hel:(expN pt).length≤3:=Nat.le_trans (List.dropWhile_sublist _).length_le hx
        rw [if_neg (by omega)]
        have hv:=hval_lt hon
        have hv2:=tenN_le hel
        have h3:tenN 3=1000:=by decide
        have owf:Okd (pt.whole++pt.frac):=fun a ha=>by
          rcases List.mem_append.1 ha with ha | ha
          · exact ow a ha
          · exact of' a ha
        have hH2:hval (pt.whole++pt.frac)<tenN 200:=Nat.lt_of_lt_of_le (hval_lt owf) (tenN_le (by rw [List.length_append];omega))
        generalize hval (pt.whole++pt.frac)=H at *
        obtain ⟨e1,e2⟩:=trim_spec hH
        have hp:0<trimM H:=by
          rcases Nat.eq_zero_or_pos (trimM H) with g | g
          · rw [g] at e2;exact absurd rfl e2
          · exact g
        have hk:trimK H<200:=by
          refine tenN_lt (Nat.lt_of_le_of_lt ?_ hH2)
          have:=Nat.mul_le_mul_right (tenN (trimK H)) hp
          omega
        have hB:tenN 200≤B32 ^ 25:=by rw [B32_eq];unfold tenN;decide
        have hlm:(limbs (trimM H)).length≤25:=limbs_length_le (Nat.lt_of_le_of_lt (trimM_le H) (Nat.lt_of_lt_of_le hH2 hB))
        have hev:-999≤expV pt∧expV pt≤999:=by unfold expV;split <;> omega
        rw [if_pos ⟨by omega,by omega,by omega⟩]
        exact ⟨_,rfl⟩
    obtain ⟨r,hr⟩:=hn
    rw [hr]
    exact ⟨r,rfl⟩
end Go.Proofs.YtijaphbccnadbaaGreatDoor
namespace Go.Proofs.YtijaphbccnadbaaGreatDoor
open Go.Shelf Go.RowKit Go.Lib Go.Sort
def CutR {σ:Type} (r:(σ × List UInt8 × Nat) ⊕ Int):Prop:=r=.inr 2∨∃ t n,r=.inl (t,[],n)
def CtV (V:List UInt8→Nat→PRJ) (u:MT):Prop:=∀ n p q,encJ u=p++q→q ≠ []→n+u.nodes≤2000→CutR (V p n)
theorem nosign_pre {a q:List UInt8} (h:NoSign (a++q)):NoSign a:=by
  intro x r e
  exact h x (r++q) (by rw [e];rfl)
theorem loop_none {σ:Type} {P:σ→List UInt8→Nat→(σ × List UInt8 × Nat) ⊕ Int} {c:UInt8} (h0:c ≠ 0) {D g many n:Nat} {s:σ} (hm:0<many):loopL P c D g many s [] n=.inr 2:=by
  cases g with
  | zero=>rfl
  | succ g=>exact loopL_comma (fun e=>h0 (show (0:UInt8)=c from e).symm) ⟨hm,by decide⟩
def PartC {σ:Type} (P:σ→List UInt8→Nat→(σ × List UInt8 × Nat) ⊕ Int) (c:UInt8) (x:List UInt8) (k:Nat):Prop :=
  (∀ acc n more,NoSign more→n+k≤2001→∃ acc',P acc (x++more) n=.inl (acc',more,n+k - 1))∧(∀ acc n p q,x=p++q→q ≠ []→n+k≤2000→CutR (P acc p n))∧(∃ y r,x=y::r∧blanksL.contains y=false∧y ≠ c)∧1≤k
theorem loop_step {σ:Type} {P:σ→List UInt8→Nat→(σ × List UInt8 × Nat) ⊕ Int} {c:UInt8} (h0:c ≠ 0) {D:Nat} (hD:D≤64) {x:List UInt8} {k g many n:Nat} {acc:σ} {l p q T:List UInt8} (hx:PartC P c x k) (he:x++T=p++q) (hq:q ≠ []) (hT:NoSign T)
    (h1:nextL l ≠ c) (h2:¬ (0<many∧nextL l ≠ 44)) (hl:(if 0<many then (skipL l).tail else skipL l)=p) (hm:many<300) (hn:n+k≤1999) (ih:∀ acc a,T=a++q→loopL P c D g (many+1) acc a (n+k)=.inr 2) :
    loopL P c D (g+1) many acc l n=.inr 2:=by
  have whole:∀ a,p=x++a→T=a++q→loopL P c D (g+1) many acc l n=.inr 2:=by
    intro a hp ha
    obtain ⟨acc',hw⟩:=hx.1 acc (n+1) a (nosign_pre (q:=q) (by rw [← ha];exact hT)) (by omega)
    rw [loopL_on h1 h2 ⟨hm,hD,by omega⟩ (by rw [hl,hp];exact hw)]
    have:=ih acc' a ha
    have h3:=hx.2.2.2
    rw [show n+1+k - 1=n+k by omega]
    exact this
  rcases List.append_eq_append_iff.1 he with ⟨a,hp,ha⟩ | ⟨b,hp,hb⟩
  · exact whole a hp ha
  · cases b with
    | nil=>exact whole [] (by rw [hp];simp) (by rw [hb];rfl)
    | cons y b =>
      rcases hx.2.1 acc (n+1) p (y::b) hp (by simp) (by omega) with hc | ⟨t,m,hc⟩
      · exact loopL_bad h1 h2 ⟨hm,hD,by omega⟩ (by rw [hl];exact hc)
      · rw [loopL_on h1 h2 ⟨hm,hD,by omega⟩ (by rw [hl];exact hc)]
        exact loop_none h0 (Nat.succ_pos _)
def cnt (ps:List (List UInt8 × Nat)):Nat:=(ps.map Prod.snd).sum
theorem cnt_cons (z:List UInt8 × Nat) (ps:List (List UInt8 × Nat)):cnt (z::ps)=z.2+cnt ps:=by unfold cnt;simp
theorem nil_of_one {c:UInt8} {p q:List UInt8} (h:[c]=p++q) (hq:q ≠ []):p=[]:=by
  cases p with
  | nil=>rfl
  | cons x p =>
    have h2:=congrArg List.length h
    have h3:=List.length_pos_iff.2 hq
    simp only [List.length_cons,List.length_nil,List.length_append] at h2
    omega
theorem loop_cutT {σ:Type} {P:σ→List UInt8→Nat→(σ × List UInt8 × Nat) ⊕ Int} {c:UInt8} (h0:c ≠ 0) (h4:(44:UInt8) ≠ c) (hs:signsL.contains c=false) {D:Nat} (hD:D≤64):∀ (ps:List (List UInt8 × Nat)) (g many n:Nat) (acc:σ) (p q:List UInt8),
    tailC (ps.map Prod.fst) [c]=p++q→q ≠ []→0<many→many+ps.length≤300→n+cnt ps≤1999→(∀ z∈ps,PartC P c z.1 z.2)→loopL P c D g many acc p n=.inr 2:=by
  intro ps
  induction ps with
  | nil =>
    intro g many n acc p q he hq hm _ _ _
    rw [nil_of_one (show [c]=p++q from he) hq]
    exact loop_none h0 hm
  | cons z ps ih =>
    intro g many n acc p q he hq hm hl hn hV
    rw [List.map_cons,tailC_cons] at he
    rw [cnt_cons] at hn
    rw [List.length_cons] at hl
    cases p with
    | nil=>exact loop_none h0 hm
    | cons x p =>
      rw [List.cons_append,List.cons.injEq] at he
      obtain ⟨rfl,he⟩:=he
      cases g with
      | zero=>rfl
      | succ g =>
        have hx:nextL (44::p)=44:=nextL_cons' (by decide)
        refine loop_step h0 hD (hV z (by simp)) he hq (tailC_nosign _ hs) (by rw [hx];exact h4) (by rw [hx];exact fun h=>h.2 rfl) (by rw [if_pos hm,skipL_cons (by decide)];rfl) (by omega) (by omega) ?_
        intro acc a ha
        exact ih g (many+1) (n+z.2) acc a q ha hq (Nat.succ_pos _) (by omega) (by omega) (fun v hv=>hV v (by simp [hv]))
theorem loop_cut0 {σ:Type} {P:σ→List UInt8→Nat→(σ × List UInt8 × Nat) ⊕ Int} {c:UInt8} (h0:c ≠ 0) (h4:(44:UInt8) ≠ c) (hs:signsL.contains c=false) {D:Nat} (hD:D≤64) (hP:∀ acc n,P acc [] n=.inr 2) (ps:List (List UInt8 × Nat)) (g n:Nat) (acc:σ) (p q:List UInt8)
    (he:joinC (ps.map Prod.fst)++[c]=p++q) (hq:q ≠ []) (hl:ps.length≤300) (hn:n+cnt ps≤1999) (hV:∀ z∈ps,PartC P c z.1 z.2):loopL P c D g 0 acc p n=.inr 2:=by
  cases g with
  | zero=>rfl
  | succ g =>
    have none0:loopL P c D (g+1) 0 acc [] n=.inr 2:=loopL_bad (fun e=>h0 (show (0:UInt8)=c from e).symm) (fun h=>absurd h.1 (by decide)) ⟨by decide,hD,by omega⟩ (hP _ _)
    cases ps with
    | nil =>
      rw [nil_of_one (show [c]=p++q from he) hq]
      exact none0
    | cons z ps =>
      rw [List.map_cons,joinC_cons] at he
      rw [cnt_cons] at hn
      rw [List.length_cons] at hl
      cases p with
      | nil=>exact none0
      | cons x p =>
        have hz:=hV z (by simp)
        obtain ⟨y,r,hy,hb,hc⟩:=hz.2.2.1
        have hxy:y=x:=by rw [hy] at he;simp only [List.cons_append,List.cons.injEq] at he;exact he.1
        subst hxy
        have hx:nextL (y::p)=y:=nextL_cons' hb
        refine loop_step h0 hD hz he hq (tailC_nosign _ hs) (by rw [hx];exact hc) (fun h=>absurd h.1 (by decide)) (by rw [if_neg (by decide)];exact skipL_cons hb) (by decide) (by omega) ?_
        intro acc a ha
        exact loop_cutT h0 h4 hs hD ps g 1 (n+z.2) acc a q ha hq (by decide) (by omega) (by omega) (fun v hv=>hV v (by simp [hv]))
theorem part_item {V:List UInt8→Nat→PRJ} {u:MT} (hR:RtV V u) (hC:CtV V u):PartC (itemL V) 93 (encJ u) u.nodes:=by
  obtain ⟨⟨x,r,hx,hb,h93,_⟩,hW⟩:=hR
  refine ⟨fun acc n more hm hn=>⟨_,itemL_yes (hW n more hm hn)⟩,fun acc n p q he hq hn=>?_,⟨x,r,hx,hb,h93⟩,u.nodes_pos⟩
  rcases hC n p q he hq hn with h | ⟨t,m,h⟩
  · exact .inl (itemL_no h)
  · exact .inr ⟨_,_,itemL_yes h⟩
theorem textL_cut {k p q:List UInt8} (hv:validL k=true) (h:quoteL k=p++q) (hq:q ≠ []):textL p=.inr 2:=by
  cases p with
  | nil=>rfl
  | cons y p =>
    unfold quoteL at h
    rw [if_pos hv,List.cons_append,List.cons.injEq] at h
    obtain ⟨rfl,h⟩:=h
    have e:p=(bodyL k++[34]).take p.length:=by rw [h,List.take_left' rfl]
    have h2:=congrArg List.length h
    have h3:=List.length_pos_iff.2 hq
    simp only [List.length_append,List.length_cons,List.length_nil] at h2
    have h1:unqL (tailL (⟨(34::p).toArray⟩:ByteArray) ((0:Int).toNat+1))=none:=by
      show unqL (List.drop 1 (34::p))=none
      rw [List.drop_succ_cons,List.drop_zero,e]
      exact unqL_cut hv (by omega)
    unfold textL unqAt
    split
    · rfl
    · rename_i t m hx
      split at hx
      · rw [h1] at hx;cases hx
      · cases hx
theorem part_member {V:List UInt8→Nat→PRJ} {k:ByteArray} {u:MT} (hk:OkK k) (hR:RtV V u) (hC:CtV V u):PartC (memberL V) 125 (mbrB k (encJ u)) u.nodes:=by
  refine ⟨fun acc n more hm hn=>⟨_,member_enc hk hR hm hn acc⟩,fun acc n p q he hq hn=>?_,?_,u.nodes_pos⟩
  · have hsk:skipL p=p:=by
      obtain ⟨r,hr⟩:=mbr_head hk (encJ u) []
      rw [List.append_nil,he] at hr
      cases p with
      | nil=>rfl
      | cons y p =>
        simp only [List.cons_append,List.cons.injEq] at hr
        rw [hr.1];exact skipL_cons (by decide)
    have whole:∀ a,p=quoteL k.data.toList++a→58::encJ u=a++q→CutR (memberL V acc p n):=by
      intro a hp ha
      have ht:textL (skipL p)=.inl (k.data.toList,a):=by rw [hsk,hp];exact textL_enc hk.1 (okK_len hk)
      cases a with
      | nil=>left;unfold memberL;rw [ht];rfl
      | cons y a =>
        rw [List.cons_append,List.cons.injEq] at ha
        obtain ⟨rfl,ha⟩:=ha
        have h58:nextL (58::a)=58:=nextL_cons' (by decide)
        have hs8:(skipL (58::a)).tail=a:=by rw [skipL_cons (by decide)];rfl
        rcases hC n a q ha hq hn with h | ⟨t,m,h⟩
        · left;unfold memberL;rw [ht];simp only [h58,hs8,h,if_true]
        · right;exact ⟨_,_,memberL_yes ht h58 (by rw [hs8];exact h)⟩
    unfold mbrB at he
    rcases List.append_eq_append_iff.1 he with ⟨a,hp,ha⟩ | ⟨b,hp,hb⟩
    · exact whole a hp ha
    · cases b with
      | nil=>exact whole [] (by rw [hp];simp) (by rw [hb];rfl)
      | cons y b =>
        left
        unfold memberL
        rw [hsk,textL_cut hk.1 hp (by simp)]
  · obtain ⟨r,hr⟩:=mbr_head hk (encJ u) []
    rw [List.append_nil] at hr
    exact ⟨34,r,hr,by decide,by decide⟩
end Go.Proofs.YtijaphbccnadbaaGreatDoor
