/- Texts of the claim. -/
import Derived.Test.YtijaphbccnadbaaGreatDoorUJ
set_option linter.unusedVariables false
set_option linter.unusedSimpArgs false
set_option maxHeartbeats 200000
set_option maxRecDepth 100000
namespace Go.Proofs.YtijaphbccnadbaaGreatDoor
open Go.Shelf Go.RowKit Go.Lib Go.Sort
def HeadB (x:UInt8):Prop:=blanksL.contains x=false∧x ≠ 93∧x ≠ 125∧x ≠ 44∧x ≠ 58
theorem digit_head {x:Nat} (h:x=45∨48≤x∧x≤57):HeadB (UInt8.ofNat x)∧((UInt8.ofNat x).toNat=45∨48≤(UInt8.ofNat x).toNat∧(UInt8.ofNat x).toNat≤57):=by
  have:x=45∨x=48∨x=49∨x=50∨x=51∨x=52∨x=53∨x=54∨x=55∨x=56∨x=57:=by omega
  unfold HeadB
  rcases this with rfl | rfl | rfl | rfl | rfl | rfl | rfl | rfl | rfl | rfl | rfl <;> decide
theorem exp_head {d:List Nat} {x:Int} {y:Nat} {ys:List Nat} (h:d=y::ys):∃ zs,expTxt d x=y::zs:=by
  subst h;unfold expTxt;exact ⟨_,rfl⟩
theorem size_head {d:List Nat} {e:Int} (h:Okd d) (hp:0<d.length):∃ y ys,sizeTxt d e=y::ys∧48≤y∧y≤57:=by
  obtain ⟨y,ys,rfl⟩:∃ y ys,d=y::ys:=List.exists_cons_of_length_pos hp
  have hy:=h y (by simp)
  unfold sizeTxt
  split
  · obtain ⟨zs,hz⟩:=exp_head (d:=y::ys) (x:=((y::ys).length:Int)+e - 1) rfl
    exact ⟨y,zs,hz,hy⟩
  · split
    · exact ⟨48,_,rfl,by decide,by decide⟩
    · split
      · rename_i h1 h2 h3
        obtain ⟨k,hk⟩:∃ k,(((y::ys).length:Int)+e).toNat=k+1:=⟨(((y::ys).length:Int)+e).toNat - 1,by omega⟩
        rw [hk]
        exact ⟨y,_,rfl,hy⟩
      · exact ⟨y,_,rfl,hy⟩
theorem num_head (neg:Bool) (N:Nat) (e:Int):∃ y ys,numTxt neg N e=y::ys∧(y=45∨48≤y∧y≤57):=by
  unfold numTxt
  split
  · exact ⟨48,[],rfl,.inr ⟨by decide,by decide⟩⟩
  · cases neg
    · obtain ⟨y,ys,h1,h2⟩:=size_head (e:=e) (dec_ok N) (dec_pos N)
      exact ⟨y,ys,h1,.inr h2⟩
    · exact ⟨45,_,rfl,.inl rfl⟩
theorem numB_head (neg:Bool) (N:Nat) (e:Int):∃ x r,numB neg N e=x::r∧HeadB x∧(x.toNat=45∨48≤x.toNat∧x.toNat≤57):=by
  obtain ⟨y,ys,h1,h2⟩:=num_head neg N e
  have:=digit_head h2
  exact ⟨UInt8.ofNat y,ys.map UInt8.ofNat,by unfold numB;rw [h1];rfl,this.1,this.2⟩
theorem quote_head {k:List UInt8} (h:validL k=true):∃ r,quoteL k=34::r:=by unfold quoteL;rw [if_pos h];exact ⟨_,rfl⟩
theorem sound_kinds {t:MT} (h:soundB t=true) (h5:t.c.k ≠ 5):t.c.k=1∨t.c.k=2∨t.c.k=3∨(t.c.k=4∧validL t.c.s.data.toList=true)∨t.c.k=6∨t.c.k=7:=by
  unfold soundB at h
  by_cases c1:t.c.k=1;· exact .inl c1
  by_cases c2:t.c.k=2;· exact .inr (.inl c2)
  by_cases c3:t.c.k=3;· exact .inr (.inr (.inl c3))
  by_cases c4:t.c.k=4
  · rw [if_neg c1,if_neg c2,if_neg c3,if_pos c4] at h
    simp only [Bool.and_eq_true] at h
    exact .inr (.inr (.inr (.inl ⟨c4,h.1⟩)))
  by_cases c7:t.c.k=7;· exact .inr (.inr (.inr (.inr (.inr c7))))
  by_cases c6:t.c.k=6;· exact .inr (.inr (.inr (.inr (.inl c6))))
  rw [if_neg c1,if_neg c2,if_neg c3,if_neg c4,if_neg h5,if_neg c7,if_neg c6] at h
  cases h
theorem encj_head {t:MT} (h:soundB t=true) (h5:t.c.k ≠ 5):∃ x r,encJ t=x::r∧HeadB x:=by
  rw [encJ_eq]
  rcases sound_kinds h h5 with c | c | c | ⟨c,hv⟩ | c | c
  · rw [if_pos c];exact ⟨110,_,rfl,by unfold HeadB;decide⟩
  · rw [if_neg (by omega),if_pos c]
    cases t.c.b
    · exact ⟨102,_,rfl,by unfold HeadB;decide⟩
    · exact ⟨116,_,rfl,by unfold HeadB;decide⟩
  · rw [if_neg (by omega),if_neg (by omega),if_pos c]
    obtain ⟨x,r,h1,h2,_⟩:=numB_head t.c.neg (val t.m) t.c.e
    exact ⟨x,r,h1,h2⟩
  · rw [if_neg (by omega),if_neg (by omega),if_neg (by omega),if_pos c]
    obtain ⟨r,hr⟩:=quote_head hv
    exact ⟨34,r,hr,by unfold HeadB;decide⟩
  · rw [if_neg (by omega),if_neg (by omega),if_neg (by omega),if_neg (by omega),if_pos c]
    exact ⟨91,_,rfl,by unfold HeadB;decide⟩
  · rw [if_neg (by omega),if_neg (by omega),if_neg (by omega),if_neg (by omega),if_neg (by omega),if_pos c]
    exact ⟨123,_,rfl,by unfold HeadB;decide⟩
def tailC (ps:List (List UInt8)) (e:List UInt8):List UInt8:=(ps.map (44 :: ·)).flatten++e
theorem tailC_nil (e:List UInt8):tailC [] e=e:=rfl
theorem tailC_cons (p:List UInt8) (ps:List (List UInt8)) (e:List UInt8):tailC (p::ps) e=44::(p++tailC ps e):=by unfold tailC;simp
theorem joinC_cons (p:List UInt8) (ps:List (List UInt8)) (e:List UInt8):joinC (p::ps)++e=p++tailC ps e:=by unfold joinC tailC;simp
theorem tailC_nosign (ps:List (List UInt8)) {x:UInt8} {e:List UInt8} (h:signsL.contains x=false):NoSign (tailC ps (x::e)):=by
  cases ps with
  | nil=>exact noSign_cons _ h
  | cons p ps=>rw [tailC_cons];exact noSign_cons _ (by decide)
theorem join_count:∀ ps:List (List UInt8),(∀ p∈ps,0<p.length)→ps.length≤(joinC ps).length:=by
  intro ps h
  cases ps with
  | nil=>exact Nat.zero_le _
  | cons p ps =>
    have h1:=h p (by simp)
    have h2:ps.length≤((ps.map (44 :: ·)).flatten).length:=by
      clear h h1
      induction ps with
      | nil=>exact Nat.zero_le _
      | cons q qs ih=>simp only [List.map_cons,List.flatten_cons,List.length_append,List.length_cons];omega
    simp only [joinC,List.length_append,List.length_cons]
    omega
def RtV (V:List UInt8→Nat→PRJ) (u:MT):Prop:=(∃ x r,encJ u=x::r∧HeadB x)∧∀ n more,NoSign more→n+u.nodes≤2001→V (encJ u++more) n=.inl (u.bare,more,n+u.nodes - 1)
theorem loop_items {V:List UInt8→Nat→PRJ} {D:Nat} (hD:D≤64):∀ (us:List MT) (g many n:Nat) (acc:List MT) (more:List UInt8),us.length<g→0<many→many+us.length≤300→n+MT.nodesL us≤2000→(∀ u∈us,RtV V u) →
    loopL (itemL V) 93 D g many acc (tailC (us.map encJ) (93::more)) n=.inl (acc++us.map MT.bare,more,n+MT.nodesL us):=by
  intro us
  induction us with
  | nil =>
    intro g many n acc more hg hm hn hs hV
    obtain ⟨g,rfl⟩:∃ q,g=q+1:=⟨g - 1,by omega⟩
    rw [List.map_nil,tailC_nil,loopL_end (nextL_cons' (by decide)),skipL_cons (by decide),MT.nodesL_nil]
    simp
  | cons u us ih =>
    intro g many n acc more hg hm hn hs hV
    obtain ⟨g,rfl⟩:∃ q,g=q+1:=⟨g - 1,by omega⟩
    rw [MT.nodesL_cons] at hs ⊢
    rw [List.length_cons] at hg hn
    have hu:=(hV u (by simp)).2 (n+1) (tailC (us.map encJ) (93::more)) (tailC_nosign _ (by decide)) (by have:=u.nodes_pos;omega)
    have hx:nextL (44::(encJ u++tailC (us.map encJ) (93::more)))=44:=nextL_cons' (by decide)
    rw [List.map_cons,tailC_cons,loopL_on (by rw [hx];decide) (by rw [hx];exact fun h=>h.2 rfl) ⟨by omega,hD,by have:=u.nodes_pos;omega⟩ (by rw [if_pos hm,skipL_cons (by decide)];exact itemL_yes hu)]
    rw [ih g (many+1) _ _ more (by omega) (by omega) (by omega) (by show n+1+u.nodes - 1+MT.nodesL us≤2000;omega) (fun v hv=>hV v (by simp [hv]))]
    have hp:=u.nodes_pos
    show Sum.inl (acc++[u.bare]++us.map MT.bare,more,n+1+u.nodes - 1+MT.nodesL us)=_
    rw [List.append_assoc,show n+1+u.nodes - 1+MT.nodesL us=n+(u.nodes+MT.nodesL us) by omega]
    rfl
theorem loop_array {V:List UInt8→Nat→PRJ} {D:Nat} {us:List MT} {g n:Nat} {more:List UInt8} (hD:us ≠ []→D≤64) (hg:us.length<g) (hm:us.length≤300) (hn:n+MT.nodesL us≤2000) (hV:∀ u∈us,RtV V u) :
    loopL (itemL V) 93 D g 0 [] (joinC (us.map encJ)++93::more) n=.inl (us.map MT.bare,more,n+MT.nodesL us):=by
  obtain ⟨g,rfl⟩:∃ q,g=q+1:=⟨g - 1,by omega⟩
  cases us with
  | nil =>
    show loopL (itemL V) 93 D (g+1) 0 [] (93::more) n=_
    rw [loopL_end (nextL_cons' (by decide)),skipL_cons (by decide),MT.nodesL_nil]
    rfl
  | cons u us =>
    rw [MT.nodesL_cons] at hn ⊢
    rw [List.length_cons] at hg hm
    have hp:=u.nodes_pos
    have hu:=(hV u (by simp)).2 (n+1) (tailC (us.map encJ) (93::more)) (tailC_nosign _ (by decide)) (by omega)
    obtain ⟨x,r,hx,hb,h93,_,h44,_⟩:=(hV u (by simp)).1
    have e1:skipL (encJ u++tailC (us.map encJ) (93::more))=encJ u++tailC (us.map encJ) (93::more):=by rw [hx];exact skipL_cons hb
    have e2:nextL (encJ u++tailC (us.map encJ) (93::more))=x:=by rw [hx];exact nextL_cons' hb
    rw [List.map_cons,joinC_cons,loopL_on (by rw [e2];exact h93) (fun h=>absurd h.1 (by decide)) ⟨by decide,hD (by simp),by omega⟩ (by rw [if_neg (by decide),e1];exact itemL_yes hu)]
    rw [loop_items (hD (by simp)) us g 1 _ _ more (by omega) (by decide) (by omega) (by show n+1+u.nodes - 1+MT.nodesL us≤2000;omega) (fun v hv=>hV v (by simp [hv]))]
    show Sum.inl ([u.bare]++us.map MT.bare,more,n+1+u.nodes - 1+MT.nodesL us)=_
    rw [show n+1+u.nodes - 1+MT.nodesL us=n+(u.nodes+MT.nodesL us) by omega]
    rfl
def OkK (k:ByteArray):Prop:=validL k.data.toList=true∧k.size≤2000
theorem okK_of {k:ByteArray} (h:okN k=true):OkK k:=by
  unfold okN at h
  rw [Bool.and_eq_true] at h
  exact ⟨h.2,of_decide_eq_true h.1⟩
theorem okK_len {k:ByteArray} (h:OkK k):k.data.toList.length≤2000:=by rw [Array.length_toList];exact h.2
theorem member_enc {V:List UInt8→Nat→PRJ} {k:ByteArray} {u:MT} (hk:OkK k) (hV:RtV V u) {n:Nat} {more:List UInt8} (hm:NoSign more) (hn:n+u.nodes≤2001) (acc:List (List UInt8) × List MT) :
    memberL V acc (mbrB k (encJ u)++more) n=.inl ((acc.1++[k.data.toList],acc.2++[u.bare]),more,n+u.nodes - 1):=by
  obtain ⟨r,hr⟩:=quote_head hk.1
  have e0:mbrB k (encJ u)++more=quoteL k.data.toList++(58::(encJ u++more)):=by unfold mbrB;simp
  have e1:skipL (mbrB k (encJ u)++more)=quoteL k.data.toList++(58::(encJ u++more)):=by rw [e0,hr];exact skipL_cons (by decide)
  have e2:=textL_enc (more:=58::(encJ u++more)) hk.1 (okK_len hk)
  rw [← e1] at e2
  exact memberL_yes e2 (nextL_cons' (by decide)) (by rw [skipL_cons (by decide)];exact hV.2 n more hm hn)
theorem mbr_head {k:ByteArray} (hk:OkK k) (p more:List UInt8):∃ r,mbrB k p++more=34::r:=by
  obtain ⟨r,hr⟩:=quote_head hk.1
  unfold mbrB
  rw [hr]
  exact ⟨_,rfl⟩
def mbrs (zs:List (ByteArray × MT)):List (List UInt8):=zs.map fun z=>mbrB z.1 (encJ z.2)
theorem mbrs_zip:∀ (ks:List ByteArray) (us:List MT),List.zipWith mbrB ks (us.map encJ)=mbrs (ks.zip us):=by
  intro ks
  induction ks with
  | nil=>intro us;rfl
  | cons k ks ih =>
    intro us
    cases us with
    | nil=>rfl
    | cons u us =>
      rw [List.map_cons,List.zipWith_cons_cons,ih us]
      rfl
theorem loop_members {V:List UInt8→Nat→PRJ} {D:Nat} (hD:D≤64):∀ (zs:List (ByteArray × MT)) (g many n:Nat) (acc:List (List UInt8) × List MT) (more:List UInt8),zs.length<g→0<many→many+zs.length≤300→n+MT.nodesL (zs.map Prod.snd)≤2000→(∀ z∈zs,OkK z.1∧RtV V z.2) →
    loopL (memberL V) 125 D g many acc (tailC (mbrs zs) (125::more)) n=.inl ((acc.1++zs.map fun z=>z.1.data.toList,acc.2++zs.map fun z=>z.2.bare),more,n+MT.nodesL (zs.map Prod.snd)):=by
  intro zs
  induction zs with
  | nil =>
    intro g many n acc more hg hm hn hs hV
    obtain ⟨g,rfl⟩:∃ q,g=q+1:=⟨g - 1,by omega⟩
    show loopL (memberL V) 125 D (g+1) many acc (125::more) n=_
    rw [loopL_end (nextL_cons' (by decide)),skipL_cons (by decide),show MT.nodesL (([]:List (ByteArray × MT)).map Prod.snd)=0 from MT.nodesL_nil]
    simp
  | cons z zs ih =>
    intro g many n acc more hg hm hn hs hV
    obtain ⟨g,rfl⟩:∃ q,g=q+1:=⟨g - 1,by omega⟩
    have hN:MT.nodesL ((z::zs).map Prod.snd)=z.2.nodes+MT.nodesL (zs.map Prod.snd):=MT.nodesL_cons _ _
    rw [hN] at hs ⊢
    rw [List.length_cons] at hg hn
    have hp:=z.2.nodes_pos
    have hz:=hV z (by simp)
    have hu:=member_enc hz.1 hz.2 (n:=n+1) (more:=tailC (mbrs zs) (125::more)) (tailC_nosign _ (by decide)) (by omega) acc
    have e:mbrs (z::zs)=mbrB z.1 (encJ z.2)::mbrs zs:=rfl
    have hx:nextL (44::(mbrB z.1 (encJ z.2)++tailC (mbrs zs) (125::more)))=44:=nextL_cons' (by decide)
    rw [e,tailC_cons,loopL_on (by rw [hx];decide) (by rw [hx];exact fun h=>h.2 rfl) ⟨by omega,hD,by omega⟩ (by rw [if_pos hm,skipL_cons (by decide)];exact hu)]
    rw [ih g (many+1) _ _ more (by omega) (by omega) (by omega) (by show n+1+z.2.nodes - 1+MT.nodesL (zs.map Prod.snd)≤2000;omega) (fun v hv=>hV v (by simp [hv]))]
    show Sum.inl (((acc.1++[z.1.data.toList])++zs.map fun z=>z.1.data.toList,(acc.2++[z.2.bare])++zs.map fun z=>z.2.bare),more,n+1+z.2.nodes - 1+MT.nodesL (zs.map Prod.snd))=_
    rw [List.append_assoc,List.append_assoc,show n+1+z.2.nodes - 1+MT.nodesL (zs.map Prod.snd)=n+(z.2.nodes+MT.nodesL (zs.map Prod.snd)) by omega]
    rfl
theorem loop_object {V:List UInt8→Nat→PRJ} {D:Nat} {zs:List (ByteArray × MT)} {g n:Nat} {more:List UInt8} (hD:zs ≠ []→D≤64) (hg:zs.length<g) (hm:zs.length≤300) (hn:n+MT.nodesL (zs.map Prod.snd)≤2000) (hV:∀ z∈zs,OkK z.1∧RtV V z.2) :
    loopL (memberL V) 125 D g 0 ([],[]) (joinC (mbrs zs)++125::more) n=.inl ((zs.map fun z=>z.1.data.toList,zs.map fun z=>z.2.bare),more,n+MT.nodesL (zs.map Prod.snd)):=by
  obtain ⟨g,rfl⟩:∃ q,g=q+1:=⟨g - 1,by omega⟩
  cases zs with
  | nil =>
    show loopL (memberL V) 125 D (g+1) 0 ([],[]) (125::more) n=_
    rw [loopL_end (nextL_cons' (by decide)),skipL_cons (by decide),show MT.nodesL (([]:List (ByteArray × MT)).map Prod.snd)=0 from MT.nodesL_nil]
    rfl
  | cons z zs =>
    have hN:MT.nodesL ((z::zs).map Prod.snd)=z.2.nodes+MT.nodesL (zs.map Prod.snd):=MT.nodesL_cons _ _
    rw [hN] at hn ⊢
    rw [List.length_cons] at hg hm
    have hp:=z.2.nodes_pos
    have hz:=hV z (by simp)
    have hu:=member_enc hz.1 hz.2 (n:=n+1) (more:=tailC (mbrs zs) (125::more)) (tailC_nosign _ (by decide)) (by omega) ([],[])
    have e:mbrs (z::zs)=mbrB z.1 (encJ z.2)::mbrs zs:=rfl
    obtain ⟨r,hx⟩:=mbr_head hz.1 (encJ z.2) (tailC (mbrs zs) (125::more))
    have e1:skipL (mbrB z.1 (encJ z.2)++tailC (mbrs zs) (125::more))=mbrB z.1 (encJ z.2)++tailC (mbrs zs) (125::more):=by rw [hx];exact skipL_cons (by decide)
    have e2:nextL (mbrB z.1 (encJ z.2)++tailC (mbrs zs) (125::more))=34:=by rw [hx];exact nextL_cons' (by decide)
    rw [e,joinC_cons,loopL_on (by rw [e2];decide) (fun h=>absurd h.1 (by decide)) ⟨by decide,hD (by simp),by omega⟩ (by rw [if_neg (by decide),e1];exact hu)]
    rw [loop_members (hD (by simp)) zs g 1 _ _ more (by omega) (by decide) (by omega) (by show n+1+z.2.nodes - 1+MT.nodesL (zs.map Prod.snd)≤2000;omega) (fun v hv=>hV v (by simp [hv]))]
    show Sum.inl ((([]++[z.1.data.toList])++zs.map fun z=>z.1.data.toList,([]++[z.2.bare])++zs.map fun z=>z.2.bare),more,n+1+z.2.nodes - 1+MT.nodesL (zs.map Prod.snd))=_
    rw [show n+1+z.2.nodes - 1+MT.nodesL (zs.map Prod.snd)=n+(z.2.nodes+MT.nodesL (zs.map Prod.snd)) by omega]
    rfl
theorem sorted_ris {ks:List ByteArray} (h:Ris ks):sortedK ks=List.range' 0 ks.length:=by
  unfold sortedK
  refine (srt_unique sto_bytes _ _ _ _ (List.Perm.refl _) ?_).symm
  rw [List.pairwise_iff_getElem]
  intro i j hi hj hij
  rw [List.length_range'] at hi hj
  rw [List.getElem_range',List.getElem_range',leI_iff]
  left
  have:=h i j hij hj
  unfold ltS at this
  simpa using this
theorem ris_nodup {ks:List ByteArray} (h:Ris ks):(ks.map fun k=>k.data.toList).Nodup:=by
  refine List.pairwise_iff_getElem.2 ?_
  intro i j hi hj hij
  rw [List.length_map] at hi hj
  rw [List.getElem_map,List.getElem_map]
  have:=ltS_ne (h i j hij hj)
  intro e
  apply this
  simp only [List.getD,List.getElem?_eq_getElem hi,List.getElem?_eq_getElem hj,Option.getD_some]
  exact ByteArray.ext (Array.toList_inj.1 e)
theorem strs_back (ks:List ByteArray):strs (ks.map fun k=>k.data.toList)=ks:=by
  unfold strs
  rw [List.map_map]
  have:((fun x:List UInt8=>(⟨x.toArray⟩:ByteArray)) ∘ fun k:ByteArray=>k.data.toList)=id:=by funext k;rfl
  rw [this,List.map_id]
theorem range_getD {α:Type} (l:List α) (d:α):(List.range' 0 l.length).map (fun i=>l.getD i d)=l:=by
  apply List.ext_getElem
  · simp
  · intro i h1 h2
    simp [List.getD,h2]
theorem blank_facts {c:Cel} (h:blankB c=true):c.b=false∧c.neg=false∧c.mn=0∧c.e=0∧c.s=⟨#[]⟩∧c.kn=0∧c.vn=0:=by
  unfold blankB at h
  simp only [Bool.and_eq_true,Bool.not_eq_true',decide_eq_true_eq] at h
  obtain ⟨h1,h2,h3,h4,h5,h6,h7⟩:=h
  refine ⟨h1,h2,h3,h4,?_,h6,h7⟩
  apply ByteArray.ext
  exact Array.eq_empty_of_size_eq_zero h5
theorem bare_null {t:MT} (hc:Coh t) (k:t.c.k=1) (h:soundB t=true):t.bare=leafT 1 false ⟨#[]⟩:=by
  obtain ⟨h1,_,h2,h3⟩:=hc.own
  rw [MT.bare_eq]
  obtain ⟨⟨ck,b,neg,ma,mn,mc,e,s,ka,kn,kc,va,vn,vc⟩,m,ks,vs⟩:=t
  simp only [MT.c,MT.m,MT.k,MT.v] at *
  subst k
  obtain ⟨e1,e2,e3,e4,e5,e6,e7⟩:=blank_facts (c:=⟨1,b,neg,ma,mn,mc,e,s,ka,kn,kc,va,vn,vc⟩) h
  simp only at e1 e2 e3 e4 e5 e6 e7
  subst e1 e2 e3 e4 e5 e6 e7
  rw [List.eq_nil_of_length_eq_zero h1,List.eq_nil_of_length_eq_zero h2,List.eq_nil_of_length_eq_zero h3]
  rfl
theorem bare_bool {t:MT} (hc:Coh t) (k:t.c.k=2) (h:soundB t=true):t.bare=leafT 2 t.c.b ⟨#[]⟩:=by
  obtain ⟨h1,_,h2,h3⟩:=hc.own
  rw [MT.bare_eq]
  obtain ⟨⟨ck,b,neg,ma,mn,mc,e,s,ka,kn,kc,va,vn,vc⟩,m,ks,vs⟩:=t
  simp only [MT.c,MT.m,MT.k,MT.v] at *
  subst k
  obtain ⟨e1,e2,e3,e4,e5,e6,e7⟩:=blank_facts (c:=⟨2,false,neg,ma,mn,mc,e,s,ka,kn,kc,va,vn,vc⟩) h
  simp only at e1 e2 e3 e4 e5 e6 e7
  subst e2 e3 e4 e5 e6 e7
  rw [List.eq_nil_of_length_eq_zero h1,List.eq_nil_of_length_eq_zero h2,List.eq_nil_of_length_eq_zero h3]
  rfl
theorem bare_num {t:MT} (hc:Coh t) (k:t.c.k=3) (h:soundB t=true):chkB t.c.neg t.m t.c.e=true∧t.bare=numT t.c.neg none t.m.length 0 t.c.e t.m:=by
  obtain ⟨h1,_,h2,h3⟩:=hc.own
  rw [MT.bare_eq]
  obtain ⟨⟨ck,b,neg,ma,mn,mc,e,s,ka,kn,kc,va,vn,vc⟩,m,ks,vs⟩:=t
  simp only [MT.c,MT.m,MT.k,MT.v] at *
  subst k
  have h':(chkB neg m e && blankB ⟨3,b,false,none,0,0,0,s,ka,kn,kc,va,vn,vc⟩)=true:=h
  rw [Bool.and_eq_true] at h'
  obtain ⟨e1,e2,e3,e4,e5,e6,e7⟩:=blank_facts h'.2
  simp only at e1 e2 e3 e4 e5 e6 e7
  subst e1 e5 e6 e7 h1
  rw [List.eq_nil_of_length_eq_zero h2,List.eq_nil_of_length_eq_zero h3]
  exact ⟨h'.1,rfl⟩
theorem bare_text {t:MT} (hc:Coh t) (k:t.c.k=4) (h:soundB t=true):OkK t.c.s∧t.bare=leafT 4 false t.c.s:=by
  obtain ⟨h1,_,h2,h3⟩:=hc.own
  rw [MT.bare_eq]
  obtain ⟨⟨ck,b,neg,ma,mn,mc,e,s,ka,kn,kc,va,vn,vc⟩,m,ks,vs⟩:=t
  simp only [MT.c,MT.m,MT.k,MT.v] at *
  subst k
  have h':(validL s.data.toList && (decide (s.size≤2000) && blankB ⟨4,b,neg,ma,mn,mc,e,⟨#[]⟩,ka,kn,kc,va,vn,vc⟩))=true:=h
  rw [Bool.and_eq_true,Bool.and_eq_true] at h'
  obtain ⟨e1,e2,e3,e4,e5,e6,e7⟩:=blank_facts h'.2.2
  simp only at e1 e2 e3 e4 e5 e6 e7
  subst e1 e2 e3 e4 e6 e7
  rw [List.eq_nil_of_length_eq_zero h1,List.eq_nil_of_length_eq_zero h2,List.eq_nil_of_length_eq_zero h3]
  exact ⟨⟨h'.1,of_decide_eq_true h'.2.1⟩,rfl⟩
theorem bare_arr {t:MT} (hc:Coh t) (k:t.c.k=6) (h:soundB t=true):t.v.length≤300∧t.bare=barr (t.v.map MT.bare):=by
  obtain ⟨h1,_,h2,h3⟩:=hc.own
  rw [MT.bare_eq]
  obtain ⟨⟨ck,b,neg,ma,mn,mc,e,s,ka,kn,kc,va,vn,vc⟩,m,ks,vs⟩:=t
  simp only [MT.c,MT.m,MT.k,MT.v] at *
  subst k
  have h':(decide (vn≤300) && blankB ⟨6,b,neg,ma,mn,mc,e,s,ka,kn,kc,none,0,0⟩)=true:=h
  rw [Bool.and_eq_true] at h'
  obtain ⟨e1,e2,e3,e4,e5,e6,e7⟩:=blank_facts h'.2
  simp only at e1 e2 e3 e4 e5 e6 e7
  subst e1 e2 e3 e4 e5 e6 h3
  rw [List.eq_nil_of_length_eq_zero h1,List.eq_nil_of_length_eq_zero h2]
  refine ⟨of_decide_eq_true h'.1,?_⟩
  unfold barr arrT
  rw [List.length_map]
  rfl
theorem bare_obj {t:MT} (hc:Coh t) (k:t.c.k=7) (h:soundB t=true):t.v.length≤300∧t.k.length=t.v.length∧risesB t.k=true∧t.bare=bobj t.k (t.v.map MT.bare):=by
  obtain ⟨h1,_,h2,h3⟩:=hc.own
  rw [MT.bare_eq]
  obtain ⟨⟨ck,b,neg,ma,mn,mc,e,s,ka,kn,kc,va,vn,vc⟩,m,ks,vs⟩:=t
  simp only [MT.c,MT.m,MT.k,MT.v] at *
  subst k
  have h':(decide (kn=vn) && (risesB ks && (decide (vn≤300) && blankB ⟨7,b,neg,ma,mn,mc,e,s,none,0,0,none,0,0⟩)))=true:=h
  rw [Bool.and_eq_true,Bool.and_eq_true,Bool.and_eq_true] at h'
  obtain ⟨e1,e2,e3,e4,e5,e6,e7⟩:=blank_facts h'.2.2.2
  simp only at e1 e2 e3 e4 e5 e6 e7
  have hkv:=of_decide_eq_true h'.1
  subst e1 e2 e3 e4 e5 h3 h2
  rw [List.eq_nil_of_length_eq_zero h1]
  refine ⟨of_decide_eq_true h'.2.2.1,hkv,h'.2.1,?_⟩
  unfold bobj objT
  rw [List.length_map]
  rfl
theorem wordL_enc (W more:List UInt8) (t:MT) (n:Nat):wordL W t (W++more) n=.inl (t,more,n):=by
  unfold wordL
  have h:Lib.hasPrefix (W++more) W=true:=List.isPrefixOf_iff_prefix.2 (List.prefix_append _ _)
  rw [if_pos h]
  have e:Lib.trimPrefix (W++more) W=more:=by simp only [Lib.trimPrefix,h,if_true];exact List.drop_left' rfl
  rw [e]
theorem valueL_null {f d n:Nat} {l:List UInt8} (h:nextL l=110):valueL (f+1) d l n=wordL [110,117,108,108] (leafT 1 false ⟨#[]⟩) (skipL l) n:=by
  unfold valueL valueW
  rw [h]
  rfl
theorem valueL_true {f d n:Nat} {l:List UInt8} (h:nextL l=116):valueL (f+1) d l n=wordL [116,114,117,101] (leafT 2 true ⟨#[]⟩) (skipL l) n:=by
  unfold valueL valueW
  rw [h]
  rfl
theorem valueL_false {f d n:Nat} {l:List UInt8} (h:nextL l=102):valueL (f+1) d l n=wordL [102,97,108,115,101] (leafT 2 false ⟨#[]⟩) (skipL l) n:=by
  unfold valueL valueW
  rw [h]
  rfl
def SndD (t:MT) (d:Nat):Prop:=∀ x∈t.pre d,x.1≤64∧soundB x.2=true
theorem SndD.own {t:MT} {d:Nat} (h:SndD t d):d≤64∧soundB t=true:=h (d,t) (by rw [MT.pre_eq];simp)
theorem SndD.part {t u:MT} {d:Nat} (h:SndD t d) (hu:u∈t.v):SndD u (d+1):=fun x hx=>h x (by rw [MT.pre_eq];exact List.mem_cons_of_mem _ (MT.mem_preL.2 ⟨u,hu,hx⟩))
theorem SndD.of {t:MT} (h:checkB t=true):SndD t 1∧t.nodes≤2000:=by
  unfold checkB at h
  rw [Bool.and_eq_true,List.all_eq_true] at h
  refine ⟨fun x hx=>?_,of_decide_eq_true h.1⟩
  have:=h.2 x hx
  rw [Bool.and_eq_true] at this
  exact ⟨of_decide_eq_true this.1,this.2⟩
theorem zip_nodes:∀ (ks:List ByteArray) (us:List MT),ks.length=us.length→(ks.zip us).map Prod.snd=us:=by
  intro ks us h
  rw [List.map_snd_zip (Nat.le_of_eq h.symm)]
theorem value_enc (t:MT):∀ (f dd n:Nat) (more:List UInt8),dd+f=67→SndD t dd→Coh t→NoB t→n+t.nodes≤2001→NoSign more→valueL f dd (encJ t++more) n=.inl (t.bare,more,n+t.nodes - 1):=by
  refine MT.ind (P:=fun t=>∀ (f dd n:Nat) (more:List UInt8),dd+f=67→SndD t dd→Coh t→NoB t→n+t.nodes≤2001→NoSign more→valueL f dd (encJ t++more) n=.inl (t.bare,more,n+t.nodes - 1)) ?_ t
  intro t ih f dd n more hf hs hc hb hn hm
  obtain ⟨hd,hso⟩:=hs.own
  obtain ⟨f,rfl⟩:∃ g,f=g+1:=⟨f - 1,by omega⟩
  have hb5:=(NoB.iff.1 hb).1
  have hvn:∀ {x:List MT},t.v=x→t.nodes=1+MT.nodesL x:=fun e=>by rw [MT.nodes_eq,e]
  have hR:∀ u∈t.v,RtV (valueL f (dd+1)) u:=fun u hu=>by
    have hsu:=hs.part hu
    exact ⟨encj_head hsu.own.2 (NoB.iff.1 ((NoB.iff.1 hb).2 u hu)).1,fun n more hm hn=>ih u hu f (dd+1) n more (by omega) hsu (hc.part hu) ((NoB.iff.1 hb).2 u hu) hn hm⟩
  have hD:t.v ≠ []→dd+1≤64:=fun h=>by
    obtain ⟨u,us,e⟩:=List.exists_cons_of_ne_nil h
    exact (hs.part (u:=u) (by rw [e];simp)).own.1
  have one:∀ {x:MT},t.bare=x→x.v=[]→n+t.nodes - 1=n:=fun e h=>by
    have h2:t.v.map MT.bare=[]:=by rw [← h,← e,MT.bare_eq];rfl
    rw [List.map_eq_nil_iff] at h2
    rw [MT.nodes_eq,h2,MT.nodesL_nil]
    omega
  rw [encJ_eq]
  rcases sound_kinds hso hb5 with c | c | c | ⟨c,_⟩ | c | c
  · rw [if_pos c,bare_null hc c hso,one (bare_null hc c hso) rfl]
    have e:skipL (nullB++more)=nullB++more:=skipL_cons (by decide)
    rw [valueL_null (l:=nullB++more) (nextL_cons' (by decide)),e]
    exact wordL_enc _ _ _ _
  · rw [if_neg (by omega),if_pos c,bare_bool hc c hso,one (bare_bool hc c hso) rfl]
    cases t.c.b
    · have e:skipL (truthB false++more)=truthB false++more:=skipL_cons (by decide)
      rw [valueL_false (l:=truthB false++more) (nextL_cons' (by decide)),e]
      exact wordL_enc _ _ _ _
    · have e:skipL (truthB true++more)=truthB true++more:=skipL_cons (by decide)
      rw [valueL_true (l:=truthB true++more) (nextL_cons' (by decide)),e]
      exact wordL_enc _ _ _ _
  · obtain ⟨h1,h2⟩:=bare_num hc c hso
    rw [if_neg (by omega),if_neg (by omega),if_pos c,one h2 rfl,h2]
    obtain ⟨x,r,hx,hh,hdg⟩:=numB_head t.c.neg (val t.m) t.c.e
    have e1:skipL (numB t.c.neg (val t.m) t.c.e++more)=numB t.c.neg (val t.m) t.c.e++more:=by rw [hx];exact skipL_cons hh.1
    have e2:nextL (numB t.c.neg (val t.m) t.c.e++more)=x:=by rw [hx];exact nextL_cons' hh.1
    rw [valueL_num (by rw [e2];exact hdg),e1]
    unfold numP
    rw [numL_enc hc.own.2.1 h1 hm]
    show Sum.inl (numT t.c.neg none (limbs (val t.m)).length 0 t.c.e (limbs (val t.m)),more,n)=_
    rw [(parse_chk hc.own.2.1 h1).2]
  · obtain ⟨h1,h2⟩:=bare_text hc c hso
    rw [if_neg (by omega),if_neg (by omega),if_neg (by omega),if_pos c,one h2 rfl,h2]
    obtain ⟨r,hr⟩:=quote_head h1.1
    have e1:skipL (quoteL t.c.s.data.toList++more)=quoteL t.c.s.data.toList++more:=by rw [hr];exact skipL_cons (by decide)
    have e2:nextL (quoteL t.c.s.data.toList++more)=34:=by rw [hr];exact nextL_cons' (by decide)
    rw [valueL_text e2,e1]
    unfold textP
    rw [textL_enc h1.1 (okK_len h1)]
    rfl
  · obtain ⟨h1,h2⟩:=bare_arr hc c hso
    rw [if_neg (by omega),if_neg (by omega),if_neg (by omega),if_neg (by omega),if_pos c,h2]
    rw [MT.nodes_eq] at hn ⊢
    have e0:arrB (t.v.map encJ)++more=91::(joinC (t.v.map encJ)++93::more):=by unfold arrB;simp
    have hlen:t.v.length≤(joinC (t.v.map encJ)).length:=by
      have:=join_count (t.v.map encJ) (fun p hp=>by
        obtain ⟨u,hu,rfl⟩:=List.mem_map.1 hp
        obtain ⟨x,r,hx,_⟩:=(hR u hu).1
        rw [hx];simp)
      rwa [List.length_map] at this
    have hl:=loop_array (V:=valueL f (dd+1)) (D:=dd+1) (g:=(91::(joinC (t.v.map encJ)++93::more)).length+1) (n:=n) (more:=more) hD (by simp only [List.length_cons,List.length_append];omega) h1 (by omega) hR
    rw [e0,valueL_arr (nextL_cons' (by decide)),skipL_cons (by decide)]
    have:=arrL_yes (d:=dd) (s:=91::(joinC (t.v.map encJ)++93::more)) (by rw [skipL_cons (by decide)];exact hl)
    rw [this]
    show Sum.inl (barr (t.v.map MT.bare),more,n+MT.nodesL t.v)=_
    rw [show n+MT.nodesL t.v=n+(1+MT.nodesL t.v) - 1 by omega]
  · obtain ⟨h1,h3,h4,h2⟩:=bare_obj hc c hso
    rw [if_neg (by omega),if_neg (by omega),if_neg (by omega),if_neg (by omega),if_neg (by omega),if_pos c,h2]
    rw [MT.nodes_eq] at hn ⊢
    have e0:objB t.k (t.v.map encJ)++more=123::(joinC (mbrs (t.k.zip t.v))++125::more):=by unfold objB;rw [mbrs_zip];simp
    have hz:∀ z∈t.k.zip t.v,OkK z.1∧RtV (valueL f (dd+1)) z.2:=fun z hz=>⟨okK_of (rises_ok h4 z.1 (List.of_mem_zip hz).1),hR z.2 (List.of_mem_zip hz).2⟩
    have hzl:(t.k.zip t.v).length=t.v.length:=by rw [List.length_zip,h3,Nat.min_self]
    have hlen:(t.k.zip t.v).length≤(joinC (mbrs (t.k.zip t.v))).length:=by
      have:=join_count (mbrs (t.k.zip t.v)) (fun p hp=>by
        obtain ⟨z,hzz,rfl⟩:=List.mem_map.1 hp
        unfold mbrB
        simp only [List.length_append,List.length_cons]
        omega)
      unfold mbrs at this ⊢
      rwa [List.length_map] at this
    have hzn:(t.k.zip t.v).map Prod.snd=t.v:=zip_nodes _ _ h3
    have hl:=loop_object (V:=valueL f (dd+1)) (D:=dd+1) (zs:=t.k.zip t.v) (g:=(123::(joinC (mbrs (t.k.zip t.v))++125::more)).length+1) (n:=n) (more:=more) (fun h=>hD (fun e=>h (by rw [e];simp))) (by simp only [List.length_cons,List.length_append];omega) (by omega) (by rw [hzn];omega) hz
    have hk1:(t.k.zip t.v).map (fun z=>z.1.data.toList)=t.k.map fun k=>k.data.toList:=by
      have:=congrArg (List.map fun k:ByteArray=>k.data.toList) (List.map_fst_zip (l₁:=t.k) (l₂:=t.v) (Nat.le_of_eq h3))
      rw [List.map_map] at this
      exact this
    have hk2:(t.k.zip t.v).map (fun z=>z.2.bare)=t.v.map MT.bare:=by
      have:=congrArg (List.map MT.bare) hzn
      rw [List.map_map] at this
      exact this
    rw [hk1,hk2,hzn] at hl
    have hris:=ris_of h4
    rw [e0,valueL_obj (nextL_cons' (by decide)),skipL_cons (by decide)]
    have:=objL_yes (d:=dd) (s:=123::(joinC (mbrs (t.k.zip t.v))++125::more)) (by rw [skipL_cons (by decide)];exact hl) (ris_nodup hris)
    rw [this]
    simp only [strs_back]
    rw [sorted_ris hris,range_getD t.k ByteArray.empty]
    have hk3:(List.range' 0 t.k.length).map (fun i=>(t.v.map MT.bare).getD i (leafT 0 false ⟨#[]⟩))=t.v.map MT.bare:=by
      have:=range_getD (t.v.map MT.bare) (leafT 0 false ⟨#[]⟩)
      rw [List.length_map,← h3] at this
      exact this
    rw [hk3,show n+MT.nodesL t.v=n+(1+MT.nodesL t.v) - 1 by omega]
def sgC (c:UInt8):Bool:=decide (c=91∨c=93∨c=123∨c=125∨c=44∨c=58)
def blk (B:List UInt8):Bool→Bool→List UInt8→List UInt8
  | _,_,[]=>[]
  | i,o,c::l=>c::(if c=34∧(i=false∨o=false) then blk B (!i) false l else if i=false∧sgC c=true then B++blk B i false l else blk B i (c == 92 && !o) l)
def Dl (B a a':List UInt8):Prop:=∀ o rest,∃ o',blk B false o (a++rest)=a'++blk B false o' rest
theorem Dl.nil (B:List UInt8):Dl B [] []:=fun o rest=>⟨o,rfl⟩
theorem Dl.app {B a a' b b':List UInt8} (h:Dl B a a') (k:Dl B b b'):Dl B (a++b) (a'++b'):=fun o rest=>by
  obtain ⟨o1,h1⟩:=h o (b++rest)
  obtain ⟨o2,h2⟩:=k o1 rest
  exact ⟨o2,by rw [List.append_assoc,h1,h2,List.append_assoc]⟩
theorem Dl.sign (B:List UInt8) {c:UInt8} (h:sgC c=true):Dl B [c] (c::B):=fun o rest=>⟨false,by
  have h34:¬ (c=34∧(false=false∨o=false)):=fun e=>by rw [e.1] at h;exact absurd h (by decide)
  show blk B false o (c::rest)=_
  rw [blk,if_neg h34,if_pos ⟨rfl,h⟩];rfl⟩
theorem Dl.char (B:List UInt8) {c:UInt8} (h:sgC c=false) (h2:c ≠ 34):Dl B [c] [c]:=fun o rest=>⟨c == 92 && !o,by
  show blk B false o (c::rest)=_
  rw [blk,if_neg (fun e=>h2 e.1),if_neg (fun e=>by rw [h] at e;exact absurd e.2 (by decide))];rfl⟩
theorem Dl.chars (B:List UInt8) {l:List UInt8} (h:∀ c∈l,sgC c=false∧c ≠ 34):Dl B l l:=by
  induction l with
  | nil=>exact Dl.nil B
  | cons c l ih=>exact (Dl.char B (h c (by simp)).1 (h c (by simp)).2).app (ih fun x hx=>h x (by simp [hx]))
def El (B a:List UInt8):Prop:=∀ rest,blk B true false (a++rest)=a++blk B true false rest
theorem El.app {B a b:List UInt8} (h:El B a) (k:El B b):El B (a++b):=fun rest=>by rw [List.append_assoc,h,k,List.append_assoc]
theorem El.char (B:List UInt8) {c:UInt8} (h:c ≠ 34) (h2:c ≠ 92):El B [c]:=fun rest=>by
  have e:(c == 92 && !false)=false:=by simp [h2]
  show blk B true false (c::rest)=_
  rw [blk,if_neg (fun e=>h e.1),if_neg (fun e=>by cases e.1),e];rfl
theorem El.esc (B:List UInt8) (c:UInt8):El B [92,c]:=fun rest=>by
  show blk B true false (92::c::rest)=_
  rw [blk,if_neg (fun e=>absurd e.1 (by decide)),if_neg (fun e=>by cases e.1)]
  show 92::blk B true true (c::rest)=_
  rw [blk,if_neg (fun e=>by rcases e.2 with e | e <;> cases e),if_neg (fun e=>by cases e.1)]
  have e:(c == 92 && !true)=false:=by simp
  rw [e];rfl
theorem hexd_plain (n:Nat) (h:n<16):hexd n ≠ 34∧hexd n ≠ 92:=by
  have key:∀ x:Fin 16,hexd x.val ≠ 34∧hexd x.val ≠ 92:=by decide
  exact key ⟨n,h⟩
theorem El.qb (B:List UInt8) (c:UInt8):El B (qb c):=by
  unfold Go.Proofs.YtijaphbccnadbaaGreatDoor.qb
  cases hp:plainB c with
  | true =>
    rw [if_pos rfl]
    have:=plainB_iff.1 hp
    exact El.char B (fun e=>this.2.1 (by rw [e];rfl)) (fun e=>this.2.2 (by rw [e];rfl))
  | false =>
    rw [if_neg (by decide)]
    have hl:=c.toNat_lt
    have h1:=hexd_plain (c.toNat / 16) (by omega)
    have h2:=hexd_plain (c.toNat % 16) (by omega)
    unfold escB
    repeat (first | exact El.esc B _ | split)
    exact (El.esc B 117).app ((El.char B (by decide) (by decide)).app ((El.char B (by decide) (by decide)).app ((El.char B h1.1 h1.2).app (El.char B h2.1 h2.2))))
theorem El.body (B l:List UInt8):El B (bodyL l):=by
  induction l with
  | nil=>intro rest;rfl
  | cons c l ih=>rw [bodyL_cons];exact (El.qb B c).app ih
theorem Dl.quote (B k:List UInt8):Dl B (quoteL k) (quoteL k):=by
  unfold quoteL
  split
  · intro o rest
    refine ⟨false,?_⟩
    have e:34::(bodyL k++[34])++rest=34::(bodyL k++34::rest):=by simp
    rw [e,blk,if_pos ⟨rfl,.inl rfl⟩]
    show 34::blk B true false (bodyL k++34::rest)=_
    rw [El.body B k,blk,if_pos ⟨rfl,.inr rfl⟩]
    simp
  · exact Dl.nil B
def joinW (B:List UInt8):List (List UInt8)→List UInt8
  | []=>[]
  | p::ps=>p++(ps.map fun p=>44::(B++p)).flatten
def mbrW (B:List UInt8) (k:ByteArray) (p:List UInt8):List UInt8:=quoteL k.data.toList++58::(B++p)
def tlW (B:List UInt8) (t:MT):List UInt8:=if t.c.k=6∨t.c.k=7 then B else []
mutual
/-- A value as JSON with blanks,but for the last. -/
def encC (B:List UInt8):MT→List UInt8
  | .mk c m k v=>if c.k=1 then nullB else if c.k=2 then truthB c.b else if c.k=3 then numB c.neg (val m) c.e else if c.k=4 then quoteL c.s.data.toList
      else if c.k=6 then 91::(B++(joinW B (encCL B v)++[93])) else if c.k=7 then 123::(B++(joinW B (List.zipWith (mbrW B) k (encCL B v))++[125])) else []
def encCL (B:List UInt8):List MT→List (List UInt8) | []=>[] | t::l=>(encC B t++tlW B t)::encCL B l
end
def encW (B:List UInt8) (t:MT):List UInt8:=encC B t++tlW B t
theorem encCL_map (B:List UInt8) (l:List MT):encCL B l=l.map (encW B):=by
  induction l with
  | nil=>rw [encCL];rfl
  | cons t l ih=>rw [encCL,ih];rfl
theorem encC_eq (B:List UInt8) (t:MT):encC B t=if t.c.k=1 then nullB else if t.c.k=2 then truthB t.c.b else if t.c.k=3 then numB t.c.neg (val t.m) t.c.e else if t.c.k=4 then quoteL t.c.s.data.toList
      else if t.c.k=6 then 91::(B++(joinW B (t.v.map (encW B))++[93])) else if t.c.k=7 then 123::(B++(joinW B (List.zipWith (mbrW B) t.k (t.v.map (encW B)))++[125])) else []:=by
  obtain ⟨c,m,k,v⟩:=t
  rw [encC,encCL_map];rfl
theorem Dl.join {B:List UInt8} {α:Type} (f g:α→List UInt8) (l:List α) (h:∀ x∈l,Dl B (f x) (g x)):Dl B (joinC (l.map f)) (joinW B (l.map g)):=by
  cases l with
  | nil=>exact Dl.nil B
  | cons x l =>
    show Dl B (f x++((l.map f).map (44 :: ·)).flatten) (g x++((l.map g).map fun p=>44::(B++p)).flatten)
    refine (h x (by simp)).app ?_
    have h':∀ y∈l,Dl B (f y) (g y):=fun y hy=>h y (by simp [hy])
    clear h
    induction l with
    | nil=>exact Dl.nil B
    | cons y l ih =>
      simp only [List.map_cons,List.flatten_cons]
      refine Dl.app ?_ (ih fun z hz=>h' z (by simp [hz]))
      have:=(Dl.sign B (c:=44) (by decide)).app (h' y (by simp))
      simpa using this
theorem Dl.enc (B:List UInt8) (t:MT):Dl B (encJ t) (encW B t):=by
  refine MT.ind (P:=fun t=>Dl B (encJ t) (encW B t)) ?_ t
  intro t ih
  unfold encW
  rw [encJ_eq,encC_eq]
  have nt:t.c.k ≠ 6→t.c.k ≠ 7→tlW B t=[]:=fun a b=>by unfold tlW;rw [if_neg (by omega)]
  by_cases c1:t.c.k=1
  · rw [if_pos c1,if_pos c1,nt (by omega) (by omega),List.append_nil]
    exact Dl.chars B (by decide)
  rw [if_neg c1,if_neg c1]
  by_cases c2:t.c.k=2
  · rw [if_pos c2,if_pos c2,nt (by omega) (by omega),List.append_nil]
    cases t.c.b <;> exact Dl.chars B (by decide)
  rw [if_neg c2,if_neg c2]
  by_cases c3:t.c.k=3
  · rw [if_pos c3,if_pos c3,nt (by omega) (by omega),List.append_nil]
    refine Dl.chars B fun x hx=>?_
    have:=numB_signs _ _ _ x hx
    have key:∀ y∈signsL,sgC y=false∧y ≠ 34:=by decide
    exact key x (by simpa using this)
  rw [if_neg c3,if_neg c3]
  by_cases c4:t.c.k=4
  · rw [if_pos c4,if_pos c4,nt (by omega) (by omega),List.append_nil]
    exact Dl.quote B _
  rw [if_neg c4,if_neg c4]
  by_cases c6:t.c.k=6
  · rw [if_pos c6,if_pos c6,show tlW B t=B from by unfold tlW;rw [if_pos (.inl c6)]]
    have hj:=Dl.join (B:=B) encJ (encW B) t.v ih
    have:=(Dl.sign B (c:=91) (by decide)).app (hj.app (Dl.sign B (c:=93) (by decide)))
    unfold arrB
    simpa using this
  rw [if_neg c6,if_neg c6]
  by_cases c7:t.c.k=7
  · rw [if_pos c7,if_pos c7,show tlW B t=B from by unfold tlW;rw [if_pos (.inr c7)]]
    have hz:List.zipWith (mbrW B) t.k (t.v.map (encW B))=(t.k.zip t.v).map fun z=>mbrW B z.1 (encW B z.2):=by
      rw [List.zipWith_map_right,List.zip_eq_zipWith,List.map_zipWith]
    have hz2:List.zipWith mbrB t.k (t.v.map encJ)=(t.k.zip t.v).map fun z=>mbrB z.1 (encJ z.2):=by
      rw [List.zipWith_map_right,List.zip_eq_zipWith,List.map_zipWith]
    have hj:=Dl.join (B:=B) (fun z:ByteArray × MT=>mbrB z.1 (encJ z.2)) (fun z=>mbrW B z.1 (encW B z.2)) (t.k.zip t.v) (fun z hz=>by
      have h1:=ih z.2 (List.of_mem_zip hz).2
      have:=(Dl.quote B z.1.data.toList).app ((Dl.sign B (c:=58) (by decide)).app h1)
      unfold mbrB mbrW
      simpa using this)
    have:=(Dl.sign B (c:=123) (by decide)).app (hj.app (Dl.sign B (c:=125) (by decide)))
    unfold objB
    rw [hz,hz2]
    simpa using this
  rw [if_neg c7,if_neg c7,nt c6 c7]
  exact Dl.nil B
theorem blk_enc (B:List UInt8) (t:MT):blk B false false (encJ t)=encW B t:=by
  obtain ⟨o,h⟩:=Dl.enc B t false []
  rw [List.append_nil] at h
  rw [h]
  show encW B t++[]=_
  rw [List.append_nil]
def Bl (l:List UInt8):Prop:=∀ x∈l,blanksL.contains x=true
theorem Bl.nil:Bl []:=fun x h=>by cases h
theorem skip_bl {bl r:List UInt8} {x:UInt8} (h:Bl bl) (hx:blanksL.contains x=false):skipL (bl++x::r)=x::r:=by
  induction bl with
  | nil=>exact skipL_cons hx
  | cons y bl ih =>
    have h1:=h y (by simp)
    have h2:=ih (fun z hz=>h z (by simp [hz]))
    unfold skipL Lib.trimLeftS at h2 ⊢
    rw [List.cons_append,List.dropWhile_cons,if_pos h1]
    exact h2
theorem next_bl {bl r:List UInt8} {x:UInt8} (h:Bl bl) (hx:blanksL.contains x=false):nextL (bl++x::r)=x:=nextL_cons (skip_bl h hx)
theorem skip_all {bl:List UInt8} (h:Bl bl):skipL bl=[]:=by
  induction bl with
  | nil=>rfl
  | cons y bl ih =>
    have h1:=h y (by simp)
    have h2:=ih (fun z hz=>h z (by simp [hz]))
    unfold skipL Lib.trimLeftS at h2 ⊢
    rw [List.dropWhile_cons,if_pos h1]
    exact h2
theorem nosign_bl {bl T:List UInt8} (h:Bl bl) (hT:NoSign T):NoSign (bl++T):=by
  cases bl with
  | nil=>exact hT
  | cons y bl =>
    have key:∀ z∈blanksL,signsL.contains z=false:=by decide
    exact noSign_cons _ (key y (by simpa using h y (by simp)))
theorem valueL_skip (f d n:Nat) (l:List UInt8):valueL f d (skipL l) n=valueL f d l n:=by
  cases f with
  | zero=>rfl
  | succ f =>
    have e:nextL (skipL l)=nextL l:=by unfold nextL;rw [skipL_skipL]
    unfold valueL valueW
    rw [skipL_skipL,e]
theorem tl_bl {B:List UInt8} (hB:Bl B) (t:MT):Bl (tlW B t):=by
  unfold tlW;split
  · exact hB
  · exact Bl.nil
def tailW (B:List UInt8) (ps:List (List UInt8)) (e:List UInt8):List UInt8:=(ps.map fun p=>44::(B++p)).flatten++e
theorem tailW_cons (B p:List UInt8) (ps:List (List UInt8)) (e:List UInt8):tailW B (p::ps) e=44::(B++(p++tailW B ps e)):=by unfold tailW;simp
theorem joinW_cons (B p:List UInt8) (ps:List (List UInt8)) (e:List UInt8):joinW B (p::ps)++e=p++tailW B ps e:=by unfold joinW tailW;simp
theorem tailW_nosign (B:List UInt8) (ps:List (List UInt8)) {x:UInt8} {e:List UInt8} (h:signsL.contains x=false):NoSign (tailW B ps (x::e)):=by
  cases ps with
  | nil=>exact noSign_cons _ h
  | cons p ps=>rw [tailW_cons];exact noSign_cons _ (by decide)
theorem joinW_count (B:List UInt8):∀ ps:List (List UInt8),(∀ p∈ps,0<p.length)→ps.length≤(joinW B ps).length:=by
  intro ps h
  cases ps with
  | nil=>exact Nat.zero_le _
  | cons p ps =>
    have h1:=h p (by simp)
    have h2:ps.length≤((ps.map fun p=>44::(B++p)).flatten).length:=by
      clear h h1
      induction ps with
      | nil=>exact Nat.zero_le _
      | cons q qs ih=>simp only [List.map_cons,List.flatten_cons,List.length_append,List.length_cons];omega
    simp only [joinW,List.length_append,List.length_cons]
    omega
def RtW (B:List UInt8) (V:List UInt8→Nat→PRJ) (u:MT):Prop:=(∃ x r,encC B u=x::r∧HeadB x)∧∀ bl n more,Bl bl→NoSign more→n+u.nodes≤2001→V (bl++(encC B u++more)) n=.inl (u.bare,more,n+u.nodes - 1)
theorem loop_itemsW {B:List UInt8} (hB:Bl B) {V:List UInt8→Nat→PRJ} {D:Nat} (hD:D≤64):∀ (us:List MT) (g many n:Nat) (acc:List MT) (bl more:List UInt8),Bl bl→us.length<g→0<many→many+us.length≤300→n+MT.nodesL us≤2000→(∀ u∈us,RtW B V u) →
    loopL (itemL V) 93 D g many acc (bl++tailW B (us.map (encW B)) (93::more)) n=.inl (acc++us.map MT.bare,more,n+MT.nodesL us):=by
  intro us
  induction us with
  | nil =>
    intro g many n acc bl more hbl hg hm hn hs hV
    obtain ⟨g,rfl⟩:∃ q,g=q+1:=⟨g - 1,by omega⟩
    show loopL (itemL V) 93 D (g+1) many acc (bl++93::more) n=_
    rw [loopL_end (next_bl hbl (by decide)),skip_bl hbl (by decide),MT.nodesL_nil]
    simp
  | cons u us ih =>
    intro g many n acc bl more hbl hg hm hn hs hV
    obtain ⟨g,rfl⟩:∃ q,g=q+1:=⟨g - 1,by omega⟩
    rw [MT.nodesL_cons] at hs ⊢
    rw [List.length_cons] at hg hn
    have hp:=u.nodes_pos
    have hu:=(hV u (by simp)).2 B (n+1) (tlW B u++tailW B (us.map (encW B)) (93::more)) hB (nosign_bl (tl_bl hB u) (tailW_nosign B _ (by decide))) (by omega)
    have hx:nextL (bl++44::(B++(encC B u++(tlW B u++tailW B (us.map (encW B)) (93::more)))))=44:=next_bl hbl (by decide)
    have e:tailW B ((u::us).map (encW B)) (93::more)=44::(B++(encC B u++(tlW B u++tailW B (us.map (encW B)) (93::more)))):=by
      rw [List.map_cons,tailW_cons,show encW B u=encC B u++tlW B u from rfl,List.append_assoc]
    rw [e,loopL_on (by rw [hx];decide) (by rw [hx];exact fun h=>h.2 rfl) ⟨by omega,hD,by omega⟩ (by rw [if_pos hm,skip_bl hbl (by decide)];exact itemL_yes hu)]
    rw [ih g (many+1) _ _ (tlW B u) more (tl_bl hB u) (by omega) (by omega) (by omega) (by show n+1+u.nodes - 1+MT.nodesL us≤2000;omega) (fun v hv=>hV v (by simp [hv]))]
    show Sum.inl (acc++[u.bare]++us.map MT.bare,more,n+1+u.nodes - 1+MT.nodesL us)=_
    rw [List.append_assoc,show n+1+u.nodes - 1+MT.nodesL us=n+(u.nodes+MT.nodesL us) by omega]
    rfl
theorem loop_arrayW {B:List UInt8} (hB:Bl B) {V:List UInt8→Nat→PRJ} {D:Nat} {us:List MT} {g n:Nat} {more:List UInt8} (hD:us ≠ []→D≤64) (hg:us.length<g) (hm:us.length≤300) (hn:n+MT.nodesL us≤2000) (hV:∀ u∈us,RtW B V u) :
    loopL (itemL V) 93 D g 0 [] (B++(joinW B (us.map (encW B))++93::more)) n=.inl (us.map MT.bare,more,n+MT.nodesL us):=by
  obtain ⟨g,rfl⟩:∃ q,g=q+1:=⟨g - 1,by omega⟩
  cases us with
  | nil =>
    show loopL (itemL V) 93 D (g+1) 0 [] (B++93::more) n=_
    rw [loopL_end (next_bl hB (by decide)),skip_bl hB (by decide),MT.nodesL_nil]
    rfl
  | cons u us =>
    rw [MT.nodesL_cons] at hn ⊢
    rw [List.length_cons] at hg hm
    have hp:=u.nodes_pos
    have hu:=(hV u (by simp)).2 [] (n+1) (tlW B u++tailW B (us.map (encW B)) (93::more)) Bl.nil (nosign_bl (tl_bl hB u) (tailW_nosign B _ (by decide))) (by omega)
    rw [List.nil_append] at hu
    obtain ⟨x,r,hx,hb,h93,_,h44,_⟩:=(hV u (by simp)).1
    have e:B++(joinW B ((u::us).map (encW B))++93::more)=B++(encC B u++(tlW B u++tailW B (us.map (encW B)) (93::more))):=by
      rw [List.map_cons,joinW_cons,show encW B u=encC B u++tlW B u from rfl,List.append_assoc]
    have e1:skipL (B++(encC B u++(tlW B u++tailW B (us.map (encW B)) (93::more))))=encC B u++(tlW B u++tailW B (us.map (encW B)) (93::more)):=by rw [hx];exact skip_bl hB hb
    have e2:nextL (B++(encC B u++(tlW B u++tailW B (us.map (encW B)) (93::more))))=x:=by rw [hx];exact next_bl hB hb
    rw [e,loopL_on (by rw [e2];exact h93) (fun h=>absurd h.1 (by decide)) ⟨by decide,hD (by simp),by omega⟩ (by rw [if_neg (by decide),e1];exact itemL_yes hu)]
    rw [loop_itemsW hB (hD (by simp)) us g 1 _ _ (tlW B u) more (tl_bl hB u) (by omega) (by decide) (by omega) (by show n+1+u.nodes - 1+MT.nodesL us≤2000;omega) (fun v hv=>hV v (by simp [hv]))]
    show Sum.inl ([u.bare]++us.map MT.bare,more,n+1+u.nodes - 1+MT.nodesL us)=_
    rw [show n+1+u.nodes - 1+MT.nodesL us=n+(u.nodes+MT.nodesL us) by omega]
    rfl
theorem member_encW {B:List UInt8} (hB:Bl B) {V:List UInt8→Nat→PRJ} {k:ByteArray} {u:MT} (hk:OkK k) (hV:RtW B V u) {bl:List UInt8} (hbl:Bl bl) {n:Nat} {more:List UInt8} (hm:NoSign more) (hn:n+u.nodes≤2001) (acc:List (List UInt8) × List MT) :
    memberL V acc (bl++(mbrW B k (encW B u)++more)) n=.inl ((acc.1++[k.data.toList],acc.2++[u.bare]),tlW B u++more,n+u.nodes - 1):=by
  obtain ⟨r,hr⟩:=quote_head hk.1
  have e0:mbrW B k (encW B u)++more=quoteL k.data.toList++(58::(B++(encC B u++(tlW B u++more)))):=by unfold mbrW encW;simp
  have e1:skipL (bl++(mbrW B k (encW B u)++more))=quoteL k.data.toList++(58::(B++(encC B u++(tlW B u++more)))):=by rw [e0,hr];exact skip_bl hbl (by decide)
  have e2:=textL_enc (more:=58::(B++(encC B u++(tlW B u++more)))) hk.1 (okK_len hk)
  rw [← e1] at e2
  exact memberL_yes e2 (nextL_cons' (by decide)) (by rw [skipL_cons (by decide)];exact hV.2 B n _ hB (nosign_bl (tl_bl hB u) hm) hn)
def mbrsW (B:List UInt8) (zs:List (ByteArray × MT)):List (List UInt8):=zs.map fun z=>mbrW B z.1 (encW B z.2)
theorem mbrsW_zip (B:List UInt8) (ks:List ByteArray) (us:List MT):List.zipWith (mbrW B) ks (us.map (encW B))=mbrsW B (ks.zip us):=by
  unfold mbrsW
  rw [List.zipWith_map_right,List.zip_eq_zipWith,List.map_zipWith]
theorem loop_membersW {B:List UInt8} (hB:Bl B) {V:List UInt8→Nat→PRJ} {D:Nat} (hD:D≤64):∀ (zs:List (ByteArray × MT)) (g many n:Nat) (acc:List (List UInt8) × List MT) (bl more:List UInt8),Bl bl→zs.length<g→0<many→many+zs.length≤300→n+MT.nodesL (zs.map Prod.snd)≤2000→(∀ z∈zs,OkK z.1∧RtW B V z.2) →
    loopL (memberL V) 125 D g many acc (bl++tailW B (mbrsW B zs) (125::more)) n=.inl ((acc.1++zs.map fun z=>z.1.data.toList,acc.2++zs.map fun z=>z.2.bare),more,n+MT.nodesL (zs.map Prod.snd)):=by
  intro zs
  induction zs with
  | nil =>
    intro g many n acc bl more hbl hg hm hn hs hV
    obtain ⟨g,rfl⟩:∃ q,g=q+1:=⟨g - 1,by omega⟩
    show loopL (memberL V) 125 D (g+1) many acc (bl++125::more) n=_
    rw [loopL_end (next_bl hbl (by decide)),skip_bl hbl (by decide),show MT.nodesL (([]:List (ByteArray × MT)).map Prod.snd)=0 from MT.nodesL_nil]
    simp
  | cons z zs ih =>
    intro g many n acc bl more hbl hg hm hn hs hV
    obtain ⟨g,rfl⟩:∃ q,g=q+1:=⟨g - 1,by omega⟩
    have hN:MT.nodesL ((z::zs).map Prod.snd)=z.2.nodes+MT.nodesL (zs.map Prod.snd):=MT.nodesL_cons _ _
    rw [hN] at hs ⊢
    rw [List.length_cons] at hg hn
    have hp:=z.2.nodes_pos
    have hz:=hV z (by simp)
    have hu:=member_encW hB hz.1 hz.2 hB (n:=n+1) (more:=tailW B (mbrsW B zs) (125::more)) (tailW_nosign B _ (by decide)) (by omega) acc
    have e:tailW B (mbrsW B (z::zs)) (125::more)=44::(B++(mbrW B z.1 (encW B z.2)++tailW B (mbrsW B zs) (125::more))):=by
      rw [show mbrsW B (z::zs)=mbrW B z.1 (encW B z.2)::mbrsW B zs from rfl,tailW_cons]
    have hx:nextL (bl++44::(B++(mbrW B z.1 (encW B z.2)++tailW B (mbrsW B zs) (125::more))))=44:=next_bl hbl (by decide)
    rw [e,loopL_on (by rw [hx];decide) (by rw [hx];exact fun h=>h.2 rfl) ⟨by omega,hD,by omega⟩ (by rw [if_pos hm,skip_bl hbl (by decide)];exact hu)]
    rw [ih g (many+1) _ _ (tlW B z.2) more (tl_bl hB z.2) (by omega) (by omega) (by omega) (by show n+1+z.2.nodes - 1+MT.nodesL (zs.map Prod.snd)≤2000;omega) (fun v hv=>hV v (by simp [hv]))]
    show Sum.inl (((acc.1++[z.1.data.toList])++zs.map fun z=>z.1.data.toList,(acc.2++[z.2.bare])++zs.map fun z=>z.2.bare),more,n+1+z.2.nodes - 1+MT.nodesL (zs.map Prod.snd))=_
    rw [List.append_assoc,List.append_assoc,show n+1+z.2.nodes - 1+MT.nodesL (zs.map Prod.snd)=n+(z.2.nodes+MT.nodesL (zs.map Prod.snd)) by omega]
    rfl
theorem loop_objectW {B:List UInt8} (hB:Bl B) {V:List UInt8→Nat→PRJ} {D:Nat} {zs:List (ByteArray × MT)} {g n:Nat} {more:List UInt8} (hD:zs ≠ []→D≤64) (hg:zs.length<g) (hm:zs.length≤300) (hn:n+MT.nodesL (zs.map Prod.snd)≤2000) (hV:∀ z∈zs,OkK z.1∧RtW B V z.2) :
    loopL (memberL V) 125 D g 0 ([],[]) (B++(joinW B (mbrsW B zs)++125::more)) n=.inl ((zs.map fun z=>z.1.data.toList,zs.map fun z=>z.2.bare),more,n+MT.nodesL (zs.map Prod.snd)):=by
  obtain ⟨g,rfl⟩:∃ q,g=q+1:=⟨g - 1,by omega⟩
  cases zs with
  | nil =>
    show loopL (memberL V) 125 D (g+1) 0 ([],[]) (B++125::more) n=_
    rw [loopL_end (next_bl hB (by decide)),skip_bl hB (by decide),show MT.nodesL (([]:List (ByteArray × MT)).map Prod.snd)=0 from MT.nodesL_nil]
    rfl
  | cons z zs =>
    have hN:MT.nodesL ((z::zs).map Prod.snd)=z.2.nodes+MT.nodesL (zs.map Prod.snd):=MT.nodesL_cons _ _
    rw [hN] at hn ⊢
    rw [List.length_cons] at hg hm
    have hp:=z.2.nodes_pos
    have hz:=hV z (by simp)
    have hu:=member_encW hB hz.1 hz.2 Bl.nil (n:=n+1) (more:=tailW B (mbrsW B zs) (125::more)) (tailW_nosign B _ (by decide)) (by omega) ([],[])
    rw [List.nil_append] at hu
    have e:B++(joinW B (mbrsW B (z::zs))++125::more)=B++(mbrW B z.1 (encW B z.2)++tailW B (mbrsW B zs) (125::more)):=by
      rw [show mbrsW B (z::zs)=mbrW B z.1 (encW B z.2)::mbrsW B zs from rfl,joinW_cons]
    obtain ⟨r,hx⟩:∃ r,mbrW B z.1 (encW B z.2)++tailW B (mbrsW B zs) (125::more)=34::r:=by
      obtain ⟨r,hr⟩:=quote_head hz.1.1
      unfold mbrW
      rw [hr]
      exact ⟨_,rfl⟩
    have e1:skipL (B++(mbrW B z.1 (encW B z.2)++tailW B (mbrsW B zs) (125::more)))=mbrW B z.1 (encW B z.2)++tailW B (mbrsW B zs) (125::more):=by rw [hx];exact skip_bl hB (by decide)
    have e2:nextL (B++(mbrW B z.1 (encW B z.2)++tailW B (mbrsW B zs) (125::more)))=34:=by rw [hx];exact next_bl hB (by decide)
    rw [e,loopL_on (by rw [e2];decide) (fun h=>absurd h.1 (by decide)) ⟨by decide,hD (by simp),by omega⟩ (by rw [if_neg (by decide),e1];exact hu)]
    rw [loop_membersW hB (hD (by simp)) zs g 1 _ _ (tlW B z.2) more (tl_bl hB z.2) (by omega) (by decide) (by omega) (by show n+1+z.2.nodes - 1+MT.nodesL (zs.map Prod.snd)≤2000;omega) (fun v hv=>hV v (by simp [hv]))]
    show Sum.inl ((([]++[z.1.data.toList])++zs.map fun z=>z.1.data.toList,([]++[z.2.bare])++zs.map fun z=>z.2.bare),more,n+1+z.2.nodes - 1+MT.nodesL (zs.map Prod.snd))=_
    rw [show n+1+z.2.nodes - 1+MT.nodesL (zs.map Prod.snd)=n+(z.2.nodes+MT.nodesL (zs.map Prod.snd)) by omega]
    rfl
end Go.Proofs.YtijaphbccnadbaaGreatDoor
