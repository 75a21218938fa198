/- Texts of the claim. -/
import Derived.Test.YtijaphbccnadbaaGreatDoorTO
import Derived.Test.YtijaphbccnadbaaGreatDoorTw
set_option linter.unusedVariables false
set_option linter.unusedSimpArgs false
set_option maxHeartbeats 200000
set_option maxRecDepth 100000
namespace Go.Proofs.YtijaphbccnadbaaGreatDoor
open Go.Shelf Go.RowKit Go.Lib Go.Sort
def HeadB (x:UInt8):Prop:=blanksL.contains x=false∧x ≠ 93∧x ≠ 125∧x ≠ 44∧x ≠ 58
theorem digit_head {x:Nat} (h:x=45∨48≤x∧x≤57):HeadB (UInt8.ofNat x)∧((UInt8.ofNat x).toNat=45∨48≤(UInt8.ofNat x).toNat∧(UInt8.ofNat x).toNat≤57):=by
  have:x=45∨x=48∨x=49∨x=50∨x=51∨x=52∨x=53∨x=54∨x=55∨x=56∨x=57:=by omega
  unfold HeadB
  rcases this with rfl | rfl | rfl | rfl | rfl | rfl | rfl | rfl | rfl | rfl | rfl <;> decide
theorem exp_head {d:List Nat} {x:Int} {y:Nat} {ys:List Nat} (h:d=y::ys):∃ zs,expTxt d x=y::zs:=by
  subst h;unfold expTxt;exact ⟨_,rfl⟩
theorem size_head {d:List Nat} {e:Int} (h:Okd d) (hp:0<d.length):∃ y ys,sizeTxt d e=y::ys∧48≤y∧y≤57:=by
  obtain ⟨y,ys,rfl⟩:∃ y ys,d=y::ys:=List.exists_cons_of_length_pos hp
  have hy:=h y (by simp)
  unfold sizeTxt
  split
  · obtain ⟨zs,hz⟩:=exp_head (d:=y::ys) (x:=((y::ys).length:Int)+e - 1) rfl
    exact ⟨y,zs,hz,hy⟩
  · split
    · exact ⟨48,_,rfl,by decide,by decide⟩
    · split
      · rename_i h1 h2 h3
        obtain ⟨k,hk⟩:∃ k,(((y::ys).length:Int)+e).toNat=k+1:=⟨(((y::ys).length:Int)+e).toNat - 1,by omega⟩
        rw [hk]
        exact ⟨y,_,rfl,hy⟩
      · exact ⟨y,_,rfl,hy⟩
theorem num_head (neg:Bool) (N:Nat) (e:Int):∃ y ys,numTxt neg N e=y::ys∧(y=45∨48≤y∧y≤57):=by
  unfold numTxt
  split
  · exact ⟨48,[],rfl,.inr ⟨by decide,by decide⟩⟩
  · cases neg
    · obtain ⟨y,ys,h1,h2⟩:=size_head (e:=e) (dec_ok N) (dec_pos N)
      exact ⟨y,ys,h1,.inr h2⟩
    · exact ⟨45,_,rfl,.inl rfl⟩
theorem numB_head (neg:Bool) (N:Nat) (e:Int):∃ x r,numB neg N e=x::r∧HeadB x∧(x.toNat=45∨48≤x.toNat∧x.toNat≤57):=by
  obtain ⟨y,ys,h1,h2⟩:=num_head neg N e
  have:=digit_head h2
  exact ⟨UInt8.ofNat y,ys.map UInt8.ofNat,by unfold numB;rw [h1];rfl,this.1,this.2⟩
theorem quote_head {k:List UInt8} (h:validL k=true):∃ r,quoteL k=34::r:=by unfold quoteL;rw [if_pos h];exact ⟨_,rfl⟩
theorem sound_kinds {t:MT} (h:soundB t=true) (h5:t.c.k ≠ 5):t.c.k=1∨t.c.k=2∨t.c.k=3∨(t.c.k=4∧validL t.c.s.data.toList=true)∨t.c.k=6∨t.c.k=7:=by
  unfold soundB at h
  by_cases c1:t.c.k=1;· exact .inl c1
  by_cases c2:t.c.k=2;· exact .inr (.inl c2)
  by_cases c3:t.c.k=3;· exact .inr (.inr (.inl c3))
  by_cases c4:t.c.k=4
  · rw [if_neg c1,if_neg c2,if_neg c3,if_pos c4] at h
    simp only [Bool.and_eq_true] at h
    exact .inr (.inr (.inr (.inl ⟨c4,h.1⟩)))
  by_cases c7:t.c.k=7;· exact .inr (.inr (.inr (.inr (.inr c7))))
  by_cases c6:t.c.k=6;· exact .inr (.inr (.inr (.inr (.inl c6))))
  rw [if_neg c1,if_neg c2,if_neg c3,if_neg c4,if_neg h5,if_neg c7,if_neg c6] at h
  cases h
theorem encj_head {t:MT} (h:soundB t=true) (h5:t.c.k ≠ 5):∃ x r,encJ t=x::r∧HeadB x:=by
  rw [encJ_eq]
  rcases sound_kinds h h5 with c | c | c | ⟨c,hv⟩ | c | c
  · rw [if_pos c];exact ⟨110,_,rfl,by unfold HeadB;decide⟩
  · rw [if_neg (by omega),if_pos c]
    cases t.c.b
    · exact ⟨102,_,rfl,by unfold HeadB;decide⟩
    · exact ⟨116,_,rfl,by unfold HeadB;decide⟩
  · rw [if_neg (by omega),if_neg (by omega),if_pos c]
    obtain ⟨x,r,h1,h2,_⟩:=numB_head t.c.neg (val t.m) t.c.e
    exact ⟨x,r,h1,h2⟩
  · rw [if_neg (by omega),if_neg (by omega),if_neg (by omega),if_pos c]
    obtain ⟨r,hr⟩:=quote_head hv
    exact ⟨34,r,hr,by unfold HeadB;decide⟩
  · rw [if_neg (by omega),if_neg (by omega),if_neg (by omega),if_neg (by omega),if_pos c]
    exact ⟨91,_,rfl,by unfold HeadB;decide⟩
  · rw [if_neg (by omega),if_neg (by omega),if_neg (by omega),if_neg (by omega),if_neg (by omega),if_pos c]
    exact ⟨123,_,rfl,by unfold HeadB;decide⟩
def tailC (ps:List (List UInt8)) (e:List UInt8):List UInt8:=(ps.map (44 :: ·)).flatten++e
theorem tailC_nil (e:List UInt8):tailC [] e=e:=rfl
theorem tailC_cons (p:List UInt8) (ps:List (List UInt8)) (e:List UInt8):tailC (p::ps) e=44::(p++tailC ps e):=by unfold tailC;simp
theorem joinC_cons (p:List UInt8) (ps:List (List UInt8)) (e:List UInt8):joinC (p::ps)++e=p++tailC ps e:=by unfold joinC tailC;simp
theorem tailC_nosign (ps:List (List UInt8)) {x:UInt8} {e:List UInt8} (h:signsL.contains x=false):NoSign (tailC ps (x::e)):=by
  cases ps with
  | nil=>exact noSign_cons _ h
  | cons p ps=>rw [tailC_cons];exact noSign_cons _ (by decide)
theorem join_count:∀ ps:List (List UInt8),(∀ p∈ps,0<p.length)→ps.length≤(joinC ps).length:=by
  intro ps h
  cases ps with
  | nil=>exact Nat.zero_le _
  | cons p ps =>
    have h1:=h p (by simp)
    have h2:ps.length≤((ps.map (44 :: ·)).flatten).length:=by
      clear h h1
      induction ps with
      | nil=>exact Nat.zero_le _
      | cons q qs ih=>simp only [List.map_cons,List.flatten_cons,List.length_append,List.length_cons];omega
    simp only [joinC,List.length_append,List.length_cons]
    omega
def RtV (V:List UInt8→Nat→PRJ) (u:MT):Prop:=(∃ x r,encJ u=x::r∧HeadB x)∧∀ n more,NoSign more→n+u.nodes≤2001→V (encJ u++more) n=.inl (u.bare,more,n+u.nodes - 1)
theorem loop_items {V:List UInt8→Nat→PRJ} {D:Nat} (hD:D≤64):∀ (us:List MT) (g many n:Nat) (acc:List MT) (more:List UInt8),us.length<g→0<many→many+us.length≤300→n+MT.nodesL us≤2000→(∀ u∈us,RtV V u) →
    loopL (itemL V) 93 D g many acc (tailC (us.map encJ) (93::more)) n=.inl (acc++us.map MT.bare,more,n+MT.nodesL us):=by
  intro us
  induction us with
  | nil =>
    intro g many n acc more hg hm hn hs hV
    obtain ⟨g,rfl⟩:∃ q,g=q+1:=⟨g - 1,by omega⟩
    rw [List.map_nil,tailC_nil,loopL_end (nextL_cons' (by decide)),skipL_cons (by decide),MT.nodesL_nil]
    simp
  | cons u us ih =>
    intro g many n acc more hg hm hn hs hV
    obtain ⟨g,rfl⟩:∃ q,g=q+1:=⟨g - 1,by omega⟩
    rw [MT.nodesL_cons] at hs ⊢
    rw [List.length_cons] at hg hn
    have hu:=(hV u (by simp)).2 (n+1) (tailC (us.map encJ) (93::more)) (tailC_nosign _ (by decide)) (by have:=u.nodes_pos;omega)
    have hx:nextL (44::(encJ u++tailC (us.map encJ) (93::more)))=44:=nextL_cons' (by decide)
    rw [List.map_cons,tailC_cons,loopL_on (by rw [hx];decide) (by rw [hx];exact fun h=>h.2 rfl) ⟨by omega,hD,by have:=u.nodes_pos;omega⟩ (by rw [if_pos hm,skipL_cons (by decide)];exact itemL_yes hu)]
    rw [ih g (many+1) _ _ more (by omega) (by omega) (by omega) (by show n+1+u.nodes - 1+MT.nodesL us≤2000;omega) (fun v hv=>hV v (by simp [hv]))]
    have hp:=u.nodes_pos
    show Sum.inl (acc++[u.bare]++us.map MT.bare,more,n+1+u.nodes - 1+MT.nodesL us)=_
    rw [List.append_assoc,show n+1+u.nodes - 1+MT.nodesL us=n+(u.nodes+MT.nodesL us) by omega]
    rfl
theorem loop_array {V:List UInt8→Nat→PRJ} {D:Nat} {us:List MT} {g n:Nat} {more:List UInt8} (hD:us ≠ []→D≤64) (hg:us.length<g) (hm:us.length≤300) (hn:n+MT.nodesL us≤2000) (hV:∀ u∈us,RtV V u) :
    loopL (itemL V) 93 D g 0 [] (joinC (us.map encJ)++93::more) n=.inl (us.map MT.bare,more,n+MT.nodesL us):=by
  obtain ⟨g,rfl⟩:∃ q,g=q+1:=⟨g - 1,by omega⟩
  cases us with
  | nil =>
    show loopL (itemL V) 93 D (g+1) 0 [] (93::more) n=_
    rw [loopL_end (nextL_cons' (by decide)),skipL_cons (by decide),MT.nodesL_nil]
    rfl
  | cons u us =>
    rw [MT.nodesL_cons] at hn ⊢
    rw [List.length_cons] at hg hm
    have hp:=u.nodes_pos
    have hu:=(hV u (by simp)).2 (n+1) (tailC (us.map encJ) (93::more)) (tailC_nosign _ (by decide)) (by omega)
    obtain ⟨x,r,hx,hb,h93,_,h44,_⟩:=(hV u (by simp)).1
    have e1:skipL (encJ u++tailC (us.map encJ) (93::more))=encJ u++tailC (us.map encJ) (93::more):=by rw [hx];exact skipL_cons hb
    have e2:nextL (encJ u++tailC (us.map encJ) (93::more))=x:=by rw [hx];exact nextL_cons' hb
    rw [List.map_cons,joinC_cons,loopL_on (by rw [e2];exact h93) (fun h=>absurd h.1 (by decide)) ⟨by decide,hD (by simp),by omega⟩ (by rw [if_neg (by decide),e1];exact itemL_yes hu)]
    rw [loop_items (hD (by simp)) us g 1 _ _ more (by omega) (by decide) (by omega) (by show n+1+u.nodes - 1+MT.nodesL us≤2000;omega) (fun v hv=>hV v (by simp [hv]))]
    show Sum.inl ([u.bare]++us.map MT.bare,more,n+1+u.nodes - 1+MT.nodesL us)=_
    rw [show n+1+u.nodes - 1+MT.nodesL us=n+(u.nodes+MT.nodesL us) by omega]
    rfl
def OkK (k:ByteArray):Prop:=validL k.data.toList=true∧k.size≤2000
theorem okK_of {k:ByteArray} (h:okN k=true):OkK k:=by
  unfold okN at h
  rw [Bool.and_eq_true] at h
  exact ⟨h.2,of_decide_eq_true h.1⟩
theorem okK_len {k:ByteArray} (h:OkK k):k.data.toList.length≤2000:=by rw [Array.length_toList];exact h.2
theorem member_enc {V:List UInt8→Nat→PRJ} {k:ByteArray} {u:MT} (hk:OkK k) (hV:RtV V u) {n:Nat} {more:List UInt8} (hm:NoSign more) (hn:n+u.nodes≤2001) (acc:List (List UInt8) × List MT) :
    memberL V acc (mbrB k (encJ u)++more) n=.inl ((acc.1++[k.data.toList],acc.2++[u.bare]),more,n+u.nodes - 1):=by
  obtain ⟨r,hr⟩:=quote_head hk.1
  have e0:mbrB k (encJ u)++more=quoteL k.data.toList++(58::(encJ u++more)):=by unfold mbrB;simp
  have e1:skipL (mbrB k (encJ u)++more)=quoteL k.data.toList++(58::(encJ u++more)):=by rw [e0,hr];exact skipL_cons (by decide)
  have e2:=textL_enc (more:=58::(encJ u++more)) hk.1 (okK_len hk)
  rw [← e1] at e2
  exact memberL_yes e2 (nextL_cons' (by decide)) (by rw [skipL_cons (by decide)];exact hV.2 n more hm hn)
theorem mbr_head {k:ByteArray} (hk:OkK k) (p more:List UInt8):∃ r,mbrB k p++more=34::r:=by
  obtain ⟨r,hr⟩:=quote_head hk.1
  unfold mbrB
  rw [hr]
  exact ⟨_,rfl⟩
def mbrs (zs:List (ByteArray × MT)):List (List UInt8):=zs.map fun z=>mbrB z.1 (encJ z.2)
theorem mbrs_zip:∀ (ks:List ByteArray) (us:List MT),List.zipWith mbrB ks (us.map encJ)=mbrs (ks.zip us):=by
  intro ks
  induction ks with
  | nil=>intro us;rfl
  | cons k ks ih =>
    intro us
    cases us with
    | nil=>rfl
    | cons u us =>
      rw [List.map_cons,List.zipWith_cons_cons,ih us]
      rfl
theorem loop_members {V:List UInt8→Nat→PRJ} {D:Nat} (hD:D≤64):∀ (zs:List (ByteArray × MT)) (g many n:Nat) (acc:List (List UInt8) × List MT) (more:List UInt8),zs.length<g→0<many→many+zs.length≤300→n+MT.nodesL (zs.map Prod.snd)≤2000→(∀ z∈zs,OkK z.1∧RtV V z.2) →
    loopL (memberL V) 125 D g many acc (tailC (mbrs zs) (125::more)) n=.inl ((acc.1++zs.map fun z=>z.1.data.toList,acc.2++zs.map fun z=>z.2.bare),more,n+MT.nodesL (zs.map Prod.snd)):=by
  intro zs
  induction zs with
  | nil =>
    intro g many n acc more hg hm hn hs hV
    obtain ⟨g,rfl⟩:∃ q,g=q+1:=⟨g - 1,by omega⟩
    show loopL (memberL V) 125 D (g+1) many acc (125::more) n=_
    rw [loopL_end (nextL_cons' (by decide)),skipL_cons (by decide),show MT.nodesL (([]:List (ByteArray × MT)).map Prod.snd)=0 from MT.nodesL_nil]
    simp
  | cons z zs ih =>
    intro g many n acc more hg hm hn hs hV
    obtain ⟨g,rfl⟩:∃ q,g=q+1:=⟨g - 1,by omega⟩
    have hN:MT.nodesL ((z::zs).map Prod.snd)=z.2.nodes+MT.nodesL (zs.map Prod.snd):=MT.nodesL_cons _ _
    rw [hN] at hs ⊢
    rw [List.length_cons] at hg hn
    have hp:=z.2.nodes_pos
    have hz:=hV z (by simp)
    have hu:=member_enc hz.1 hz.2 (n:=n+1) (more:=tailC (mbrs zs) (125::more)) (tailC_nosign _ (by decide)) (by omega) acc
    have e:mbrs (z::zs)=mbrB z.1 (encJ z.2)::mbrs zs:=rfl
    have hx:nextL (44::(mbrB z.1 (encJ z.2)++tailC (mbrs zs) (125::more)))=44:=nextL_cons' (by decide)
    rw [e,tailC_cons,loopL_on (by rw [hx];decide) (by rw [hx];exact fun h=>h.2 rfl) ⟨by omega,hD,by omega⟩ (by rw [if_pos hm,skipL_cons (by decide)];exact hu)]
    rw [ih g (many+1) _ _ more (by omega) (by omega) (by omega) (by show n+1+z.2.nodes - 1+MT.nodesL (zs.map Prod.snd)≤2000;omega) (fun v hv=>hV v (by simp [hv]))]
    show Sum.inl (((acc.1++[z.1.data.toList])++zs.map fun z=>z.1.data.toList,(acc.2++[z.2.bare])++zs.map fun z=>z.2.bare),more,n+1+z.2.nodes - 1+MT.nodesL (zs.map Prod.snd))=_
    rw [List.append_assoc,List.append_assoc,show n+1+z.2.nodes - 1+MT.nodesL (zs.map Prod.snd)=n+(z.2.nodes+MT.nodesL (zs.map Prod.snd)) by omega]
    rfl
theorem loop_object {V:List UInt8→Nat→PRJ} {D:Nat} {zs:List (ByteArray × MT)} {g n:Nat} {more:List UInt8} (hD:zs ≠ []→D≤64) (hg:zs.length<g) (hm:zs.length≤300) (hn:n+MT.nodesL (zs.map Prod.snd)≤2000) (hV:∀ z∈zs,OkK z.1∧RtV V z.2) :
    loopL (memberL V) 125 D g 0 ([],[]) (joinC (mbrs zs)++125::more) n=.inl ((zs.map fun z=>z.1.data.toList,zs.map fun z=>z.2.bare),more,n+MT.nodesL (zs.map Prod.snd)):=by
  obtain ⟨g,rfl⟩:∃ q,g=q+1:=⟨g - 1,by omega⟩
  cases zs with
  | nil =>
    show loopL (memberL V) 125 D (g+1) 0 ([],[]) (125::more) n=_
    rw [loopL_end (nextL_cons' (by decide)),skipL_cons (by decide),show MT.nodesL (([]:List (ByteArray × MT)).map Prod.snd)=0 from MT.nodesL_nil]
    rfl
  | cons z zs =>
    have hN:MT.nodesL ((z::zs).map Prod.snd)=z.2.nodes+MT.nodesL (zs.map Prod.snd):=MT.nodesL_cons _ _
    rw [hN] at hn ⊢
    rw [List.length_cons] at hg hm
    have hp:=z.2.nodes_pos
    have hz:=hV z (by simp)
    have hu:=member_enc hz.1 hz.2 (n:=n+1) (more:=tailC (mbrs zs) (125::more)) (tailC_nosign _ (by decide)) (by omega) ([],[])
    have e:mbrs (z::zs)=mbrB z.1 (encJ z.2)::mbrs zs:=rfl
    obtain ⟨r,hx⟩:=mbr_head hz.1 (encJ z.2) (tailC (mbrs zs) (125::more))
    have e1:skipL (mbrB z.1 (encJ z.2)++tailC (mbrs zs) (125::more))=mbrB z.1 (encJ z.2)++tailC (mbrs zs) (125::more):=by rw [hx];exact skipL_cons (by decide)
    have e2:nextL (mbrB z.1 (encJ z.2)++tailC (mbrs zs) (125::more))=34:=by rw [hx];exact nextL_cons' (by decide)
    rw [e,joinC_cons,loopL_on (by rw [e2];decide) (fun h=>absurd h.1 (by decide)) ⟨by decide,hD (by simp),by omega⟩ (by rw [if_neg (by decide),e1];exact hu)]
    rw [loop_members (hD (by simp)) zs g 1 _ _ more (by omega) (by decide) (by omega) (by show n+1+z.2.nodes - 1+MT.nodesL (zs.map Prod.snd)≤2000;omega) (fun v hv=>hV v (by simp [hv]))]
    show Sum.inl ((([]++[z.1.data.toList])++zs.map fun z=>z.1.data.toList,([]++[z.2.bare])++zs.map fun z=>z.2.bare),more,n+1+z.2.nodes - 1+MT.nodesL (zs.map Prod.snd))=_
    rw [show n+1+z.2.nodes - 1+MT.nodesL (zs.map Prod.snd)=n+(z.2.nodes+MT.nodesL (zs.map Prod.snd)) by omega]
    rfl
theorem sorted_ris {ks:List ByteArray} (h:Ris ks):sortedK ks=List.range' 0 ks.length:=by
  unfold sortedK
  refine (srt_unique sto_bytes _ _ _ _ (List.Perm.refl _) ?_).symm
  rw [List.pairwise_iff_getElem]
  intro i j hi hj hij
  rw [List.length_range'] at hi hj
  rw [List.getElem_range',List.getElem_range',leI_iff]
  left
  have:=h i j hij hj
  unfold ltS at this
  simpa using this
theorem ris_nodup {ks:List ByteArray} (h:Ris ks):(ks.map fun k=>k.data.toList).Nodup:=by
  refine List.pairwise_iff_getElem.2 ?_
  intro i j hi hj hij
  rw [List.length_map] at hi hj
  rw [List.getElem_map,List.getElem_map]
  have:=ltS_ne (h i j hij hj)
  intro e
  apply this
  simp only [List.getD,List.getElem?_eq_getElem hi,List.getElem?_eq_getElem hj,Option.getD_some]
  exact ByteArray.ext (Array.toList_inj.1 e)
theorem strs_back (ks:List ByteArray):strs (ks.map fun k=>k.data.toList)=ks:=by
  unfold strs
  rw [List.map_map]
  have:((fun x:List UInt8=>(⟨x.toArray⟩:ByteArray)) ∘ fun k:ByteArray=>k.data.toList)=id:=by funext k;rfl
  rw [this,List.map_id]
theorem range_getD {α:Type} (l:List α) (d:α):(List.range' 0 l.length).map (fun i=>l.getD i d)=l:=by
  apply List.ext_getElem
  · simp
  · intro i h1 h2
    simp [List.getD,h2]
theorem blank_facts {c:Cel} (h:blankB c=true):c.b=false∧c.neg=false∧c.mn=0∧c.e=0∧c.s=⟨#[]⟩∧c.kn=0∧c.vn=0:=by
  unfold blankB at h
  simp only [Bool.and_eq_true,Bool.not_eq_true',decide_eq_true_eq] at h
  obtain ⟨h1,h2,h3,h4,h5,h6,h7⟩:=h
  refine ⟨h1,h2,h3,h4,?_,h6,h7⟩
  apply ByteArray.ext
  exact Array.eq_empty_of_size_eq_zero h5
theorem bare_null {t:MT} (hc:Coh t) (k:t.c.k=1) (h:soundB t=true):t.bare=leafT 1 false ⟨#[]⟩:=by
  obtain ⟨h1,_,h2,h3⟩:=hc.own
  rw [MT.bare_eq]
  obtain ⟨⟨ck,b,neg,ma,mn,mc,e,s,ka,kn,kc,va,vn,vc⟩,m,ks,vs⟩:=t
  simp only [MT.c,MT.m,MT.k,MT.v] at *
  subst k
  obtain ⟨e1,e2,e3,e4,e5,e6,e7⟩:=blank_facts (c:=⟨1,b,neg,ma,mn,mc,e,s,ka,kn,kc,va,vn,vc⟩) h
  simp only at e1 e2 e3 e4 e5 e6 e7
  subst e1 e2 e3 e4 e5 e6 e7
  rw [List.eq_nil_of_length_eq_zero h1,List.eq_nil_of_length_eq_zero h2,List.eq_nil_of_length_eq_zero h3]
  rfl
theorem bare_bool {t:MT} (hc:Coh t) (k:t.c.k=2) (h:soundB t=true):t.bare=leafT 2 t.c.b ⟨#[]⟩:=by
  obtain ⟨h1,_,h2,h3⟩:=hc.own
  rw [MT.bare_eq]
  obtain ⟨⟨ck,b,neg,ma,mn,mc,e,s,ka,kn,kc,va,vn,vc⟩,m,ks,vs⟩:=t
  simp only [MT.c,MT.m,MT.k,MT.v] at *
  subst k
  obtain ⟨e1,e2,e3,e4,e5,e6,e7⟩:=blank_facts (c:=⟨2,false,neg,ma,mn,mc,e,s,ka,kn,kc,va,vn,vc⟩) h
  simp only at e1 e2 e3 e4 e5 e6 e7
  subst e2 e3 e4 e5 e6 e7
  rw [List.eq_nil_of_length_eq_zero h1,List.eq_nil_of_length_eq_zero h2,List.eq_nil_of_length_eq_zero h3]
  rfl
theorem bare_num {t:MT} (hc:Coh t) (k:t.c.k=3) (h:soundB t=true):chkB t.c.neg t.m t.c.e=true∧t.bare=numT t.c.neg none t.m.length 0 t.c.e t.m:=by
  obtain ⟨h1,_,h2,h3⟩:=hc.own
  rw [MT.bare_eq]
  obtain ⟨⟨ck,b,neg,ma,mn,mc,e,s,ka,kn,kc,va,vn,vc⟩,m,ks,vs⟩:=t
  simp only [MT.c,MT.m,MT.k,MT.v] at *
  subst k
  have h':(chkB neg m e && blankB ⟨3,b,false,none,0,0,0,s,ka,kn,kc,va,vn,vc⟩)=true:=h
  rw [Bool.and_eq_true] at h'
  obtain ⟨e1,e2,e3,e4,e5,e6,e7⟩:=blank_facts h'.2
  simp only at e1 e2 e3 e4 e5 e6 e7
  subst e1 e5 e6 e7 h1
  rw [List.eq_nil_of_length_eq_zero h2,List.eq_nil_of_length_eq_zero h3]
  exact ⟨h'.1,rfl⟩
theorem bare_text {t:MT} (hc:Coh t) (k:t.c.k=4) (h:soundB t=true):OkK t.c.s∧t.bare=leafT 4 false t.c.s:=by
  obtain ⟨h1,_,h2,h3⟩:=hc.own
  rw [MT.bare_eq]
  obtain ⟨⟨ck,b,neg,ma,mn,mc,e,s,ka,kn,kc,va,vn,vc⟩,m,ks,vs⟩:=t
  simp only [MT.c,MT.m,MT.k,MT.v] at *
  subst k
  have h':(validL s.data.toList && (decide (s.size≤2000) && blankB ⟨4,b,neg,ma,mn,mc,e,⟨#[]⟩,ka,kn,kc,va,vn,vc⟩))=true:=h
  rw [Bool.and_eq_true,Bool.and_eq_true] at h'
  obtain ⟨e1,e2,e3,e4,e5,e6,e7⟩:=blank_facts h'.2.2
  simp only at e1 e2 e3 e4 e5 e6 e7
  subst e1 e2 e3 e4 e6 e7
  rw [List.eq_nil_of_length_eq_zero h1,List.eq_nil_of_length_eq_zero h2,List.eq_nil_of_length_eq_zero h3]
  exact ⟨⟨h'.1,of_decide_eq_true h'.2.1⟩,rfl⟩
theorem bare_arr {t:MT} (hc:Coh t) (k:t.c.k=6) (h:soundB t=true):t.v.length≤300∧t.bare=barr (t.v.map MT.bare):=by
  obtain ⟨h1,_,h2,h3⟩:=hc.own
  rw [MT.bare_eq]
  obtain ⟨⟨ck,b,neg,ma,mn,mc,e,s,ka,kn,kc,va,vn,vc⟩,m,ks,vs⟩:=t
  simp only [MT.c,MT.m,MT.k,MT.v] at *
  subst k
  have h':(decide (vn≤300) && blankB ⟨6,b,neg,ma,mn,mc,e,s,ka,kn,kc,none,0,0⟩)=true:=h
  rw [Bool.and_eq_true] at h'
  obtain ⟨e1,e2,e3,e4,e5,e6,e7⟩:=blank_facts h'.2
  simp only at e1 e2 e3 e4 e5 e6 e7
  subst e1 e2 e3 e4 e5 e6 h3
  rw [List.eq_nil_of_length_eq_zero h1,List.eq_nil_of_length_eq_zero h2]
  refine ⟨of_decide_eq_true h'.1,?_⟩
  unfold barr arrT
  rw [List.length_map]
  rfl
theorem bare_obj {t:MT} (hc:Coh t) (k:t.c.k=7) (h:soundB t=true):t.v.length≤300∧t.k.length=t.v.length∧risesB t.k=true∧t.bare=bobj t.k (t.v.map MT.bare):=by
  obtain ⟨h1,_,h2,h3⟩:=hc.own
  rw [MT.bare_eq]
  obtain ⟨⟨ck,b,neg,ma,mn,mc,e,s,ka,kn,kc,va,vn,vc⟩,m,ks,vs⟩:=t
  simp only [MT.c,MT.m,MT.k,MT.v] at *
  subst k
  have h':(decide (kn=vn) && (risesB ks && (decide (vn≤300) && blankB ⟨7,b,neg,ma,mn,mc,e,s,none,0,0,none,0,0⟩)))=true:=h
  rw [Bool.and_eq_true,Bool.and_eq_true,Bool.and_eq_true] at h'
  obtain ⟨e1,e2,e3,e4,e5,e6,e7⟩:=blank_facts h'.2.2.2
  simp only at e1 e2 e3 e4 e5 e6 e7
  have hkv:=of_decide_eq_true h'.1
  subst e1 e2 e3 e4 e5 h3 h2
  rw [List.eq_nil_of_length_eq_zero h1]
  refine ⟨of_decide_eq_true h'.2.2.1,hkv,h'.2.1,?_⟩
  unfold bobj objT
  rw [List.length_map]
  rfl
theorem wordL_enc (W more:List UInt8) (t:MT) (n:Nat):wordL W t (W++more) n=.inl (t,more,n):=by
  unfold wordL
  have h:Lib.hasPrefix (W++more) W=true:=List.isPrefixOf_iff_prefix.2 (List.prefix_append _ _)
  rw [if_pos h]
  have e:Lib.trimPrefix (W++more) W=more:=by simp only [Lib.trimPrefix,h,if_true];exact List.drop_left' rfl
  rw [e]
theorem valueL_null {f d n:Nat} {l:List UInt8} (h:nextL l=110):valueL (f+1) d l n=wordL [110,117,108,108] (leafT 1 false ⟨#[]⟩) (skipL l) n:=by
  unfold valueL valueW
  rw [h]
  rfl
theorem valueL_true {f d n:Nat} {l:List UInt8} (h:nextL l=116):valueL (f+1) d l n=wordL [116,114,117,101] (leafT 2 true ⟨#[]⟩) (skipL l) n:=by
  unfold valueL valueW
  rw [h]
  rfl
theorem valueL_false {f d n:Nat} {l:List UInt8} (h:nextL l=102):valueL (f+1) d l n=wordL [102,97,108,115,101] (leafT 2 false ⟨#[]⟩) (skipL l) n:=by
  unfold valueL valueW
  rw [h]
  rfl
def SndD (t:MT) (d:Nat):Prop:=∀ x∈t.pre d,x.1≤64∧soundB x.2=true
theorem SndD.own {t:MT} {d:Nat} (h:SndD t d):d≤64∧soundB t=true:=h (d,t) (by rw [MT.pre_eq];simp)
theorem SndD.part {t u:MT} {d:Nat} (h:SndD t d) (hu:u∈t.v):SndD u (d+1):=fun x hx=>h x (by rw [MT.pre_eq];exact List.mem_cons_of_mem _ (MT.mem_preL.2 ⟨u,hu,hx⟩))
theorem SndD.of {t:MT} (h:checkB t=true):SndD t 1∧t.nodes≤2000:=by
  unfold checkB at h
  rw [Bool.and_eq_true,List.all_eq_true] at h
  refine ⟨fun x hx=>?_,of_decide_eq_true h.1⟩
  have:=h.2 x hx
  rw [Bool.and_eq_true] at this
  exact ⟨of_decide_eq_true this.1,this.2⟩
theorem zip_nodes:∀ (ks:List ByteArray) (us:List MT),ks.length=us.length→(ks.zip us).map Prod.snd=us:=by
  intro ks us h
  rw [List.map_snd_zip (Nat.le_of_eq h.symm)]
theorem value_enc (t:MT):∀ (f dd n:Nat) (more:List UInt8),dd+f=67→SndD t dd→Coh t→NoB t→n+t.nodes≤2001→NoSign more→valueL f dd (encJ t++more) n=.inl (t.bare,more,n+t.nodes - 1):=by
  refine MT.ind (P:=fun t=>∀ (f dd n:Nat) (more:List UInt8),dd+f=67→SndD t dd→Coh t→NoB t→n+t.nodes≤2001→NoSign more→valueL f dd (encJ t++more) n=.inl (t.bare,more,n+t.nodes - 1)) ?_ t
  intro t ih f dd n more hf hs hc hb hn hm
  obtain ⟨hd,hso⟩:=hs.own
  obtain ⟨f,rfl⟩:∃ g,f=g+1:=⟨f - 1,by omega⟩
  have hb5:=(NoB.iff.1 hb).1
  have hvn:∀ {x:List MT},t.v=x→t.nodes=1+MT.nodesL x:=fun e=>by rw [MT.nodes_eq,e]
  have hR:∀ u∈t.v,RtV (valueL f (dd+1)) u:=fun u hu=>by
    have hsu:=hs.part hu
    exact ⟨encj_head hsu.own.2 (NoB.iff.1 ((NoB.iff.1 hb).2 u hu)).1,fun n more hm hn=>ih u hu f (dd+1) n more (by omega) hsu (hc.part hu) ((NoB.iff.1 hb).2 u hu) hn hm⟩
  have hD:t.v ≠ []→dd+1≤64:=fun h=>by
    obtain ⟨u,us,e⟩:=List.exists_cons_of_ne_nil h
    exact (hs.part (u:=u) (by rw [e];simp)).own.1
  have one:∀ {x:MT},t.bare=x→x.v=[]→n+t.nodes - 1=n:=fun e h=>by
    have h2:t.v.map MT.bare=[]:=by rw [← h,← e,MT.bare_eq];rfl
    rw [List.map_eq_nil_iff] at h2
    rw [MT.nodes_eq,h2,MT.nodesL_nil]
    omega
  rw [encJ_eq]
  rcases sound_kinds hso hb5 with c | c | c | ⟨c,_⟩ | c | c
  · rw [if_pos c,bare_null hc c hso,one (bare_null hc c hso) rfl]
    have e:skipL (nullB++more)=nullB++more:=skipL_cons (by decide)
    rw [valueL_null (l:=nullB++more) (nextL_cons' (by decide)),e]
    exact wordL_enc _ _ _ _
  · rw [if_neg (by omega),if_pos c,bare_bool hc c hso,one (bare_bool hc c hso) rfl]
    cases t.c.b
    · have e:skipL (truthB false++more)=truthB false++more:=skipL_cons (by decide)
      rw [valueL_false (l:=truthB false++more) (nextL_cons' (by decide)),e]
      exact wordL_enc _ _ _ _
    · have e:skipL (truthB true++more)=truthB true++more:=skipL_cons (by decide)
      rw [valueL_true (l:=truthB true++more) (nextL_cons' (by decide)),e]
      exact wordL_enc _ _ _ _
  · obtain ⟨h1,h2⟩:=bare_num hc c hso
    rw [if_neg (by omega),if_neg (by omega),if_pos c,one h2 rfl,h2]
    obtain ⟨x,r,hx,hh,hdg⟩:=numB_head t.c.neg (val t.m) t.c.e
    have e1:skipL (numB t.c.neg (val t.m) t.c.e++more)=numB t.c.neg (val t.m) t.c.e++more:=by rw [hx];exact skipL_cons hh.1
    have e2:nextL (numB t.c.neg (val t.m) t.c.e++more)=x:=by rw [hx];exact nextL_cons' hh.1
    rw [valueL_num (by rw [e2];exact hdg),e1]
    unfold numP
    rw [numL_enc hc.own.2.1 h1 hm]
    show Sum.inl (numT t.c.neg none (limbs (val t.m)).length 0 t.c.e (limbs (val t.m)),more,n)=_
    rw [(parse_chk hc.own.2.1 h1).2]
  · obtain ⟨h1,h2⟩:=bare_text hc c hso
    rw [if_neg (by omega),if_neg (by omega),if_neg (by omega),if_pos c,one h2 rfl,h2]
    obtain ⟨r,hr⟩:=quote_head h1.1
    have e1:skipL (quoteL t.c.s.data.toList++more)=quoteL t.c.s.data.toList++more:=by rw [hr];exact skipL_cons (by decide)
    have e2:nextL (quoteL t.c.s.data.toList++more)=34:=by rw [hr];exact nextL_cons' (by decide)
    rw [valueL_text e2,e1]
    unfold textP
    rw [textL_enc h1.1 (okK_len h1)]
    rfl
  · obtain ⟨h1,h2⟩:=bare_arr hc c hso
    rw [if_neg (by omega),if_neg (by omega),if_neg (by omega),if_neg (by omega),if_pos c,h2]
    rw [MT.nodes_eq] at hn ⊢
    have e0:arrB (t.v.map encJ)++more=91::(joinC (t.v.map encJ)++93::more):=by unfold arrB;simp
    have hlen:t.v.length≤(joinC (t.v.map encJ)).length:=by
      have:=join_count (t.v.map encJ) (fun p hp=>by
        obtain ⟨u,hu,rfl⟩:=List.mem_map.1 hp
        obtain ⟨x,r,hx,_⟩:=(hR u hu).1
        rw [hx];simp)
      rwa [List.length_map] at this
    have hl:=loop_array (V:=valueL f (dd+1)) (D:=dd+1) (g:=(91::(joinC (t.v.map encJ)++93::more)).length+1) (n:=n) (more:=more) hD (by simp only [List.length_cons,List.length_append];omega) h1 (by omega) hR
    rw [e0,valueL_arr (nextL_cons' (by decide)),skipL_cons (by decide)]
    have:=arrL_yes (d:=dd) (s:=91::(joinC (t.v.map encJ)++93::more)) (by rw [skipL_cons (by decide)];exact hl)
    rw [this]
    show Sum.inl (barr (t.v.map MT.bare),more,n+MT.nodesL t.v)=_
    rw [show n+MT.nodesL t.v=n+(1+MT.nodesL t.v) - 1 by omega]
  · obtain ⟨h1,h3,h4,h2⟩:=bare_obj hc c hso
    rw [if_neg (by omega),if_neg (by omega),if_neg (by omega),if_neg (by omega),if_neg (by omega),if_pos c,h2]
    rw [MT.nodes_eq] at hn ⊢
    have e0:objB t.k (t.v.map encJ)++more=123::(joinC (mbrs (t.k.zip t.v))++125::more):=by unfold objB;rw [mbrs_zip];simp
    have hz:∀ z∈t.k.zip t.v,OkK z.1∧RtV (valueL f (dd+1)) z.2:=fun z hz=>⟨okK_of (rises_ok h4 z.1 (List.of_mem_zip hz).1),hR z.2 (List.of_mem_zip hz).2⟩
    have hzl:(t.k.zip t.v).length=t.v.length:=by rw [List.length_zip,h3,Nat.min_self]
    have hlen:(t.k.zip t.v).length≤(joinC (mbrs (t.k.zip t.v))).length:=by
      have:=join_count (mbrs (t.k.zip t.v)) (fun p hp=>by
        obtain ⟨z,hzz,rfl⟩:=List.mem_map.1 hp
        unfold mbrB
        simp only [List.length_append,List.length_cons]
        omega)
      unfold mbrs at this ⊢
      rwa [List.length_map] at this
    have hzn:(t.k.zip t.v).map Prod.snd=t.v:=zip_nodes _ _ h3
    have hl:=loop_object (V:=valueL f (dd+1)) (D:=dd+1) (zs:=t.k.zip t.v) (g:=(123::(joinC (mbrs (t.k.zip t.v))++125::more)).length+1) (n:=n) (more:=more) (fun h=>hD (fun e=>h (by rw [e];simp))) (by simp only [List.length_cons,List.length_append];omega) (by omega) (by rw [hzn];omega) hz
    have hk1:(t.k.zip t.v).map (fun z=>z.1.data.toList)=t.k.map fun k=>k.data.toList:=by
      have:=congrArg (List.map fun k:ByteArray=>k.data.toList) (List.map_fst_zip (l₁:=t.k) (l₂:=t.v) (Nat.le_of_eq h3))
      rw [List.map_map] at this
      exact this
    have hk2:(t.k.zip t.v).map (fun z=>z.2.bare)=t.v.map MT.bare:=by
      have:=congrArg (List.map MT.bare) hzn
      rw [List.map_map] at this
      exact this
    rw [hk1,hk2,hzn] at hl
    have hris:=ris_of h4
    rw [e0,valueL_obj (nextL_cons' (by decide)),skipL_cons (by decide)]
    have:=objL_yes (d:=dd) (s:=123::(joinC (mbrs (t.k.zip t.v))++125::more)) (by rw [skipL_cons (by decide)];exact hl) (ris_nodup hris)
    rw [this]
    simp only [strs_back]
    rw [sorted_ris hris,range_getD t.k ByteArray.empty]
    have hk3:(List.range' 0 t.k.length).map (fun i=>(t.v.map MT.bare).getD i (leafT 0 false ⟨#[]⟩))=t.v.map MT.bare:=by
      have:=range_getD (t.v.map MT.bare) (leafT 0 false ⟨#[]⟩)
      rw [List.length_map,← h3] at this
      exact this
    rw [hk3,show n+MT.nodesL t.v=n+(1+MT.nodesL t.v) - 1 by omega]
theorem clnM_fit {d:Nat}:∀ {t:MT},Fit d t→Fit d (clnM t):=by
  have key:∀ {t:MT},fitB t=true→t.c.k ≠ 5→fitB (.mk t.c.bare t.m t.k (t.v.map clnM))=true:=by
    intro t h h5
    have:fitB (.mk t.c.bare t.m t.k (t.v.map clnM))=fitB t:=by obtain ⟨⟨ck,b,neg,ma,mn,mc,e,s,ka,kn,kc,va,vn,vc⟩,m,ks,vs⟩:=t;rfl
    rw [this];exact h
  have leaf:fitB (leafT 1 false ⟨#[]⟩)=true:=by decide +kernel
  induction d with
  | zero =>
    intro t h
    rw [clnM_eq]
    split
    · exact fit_leaf leaf rfl
    · rename_i h5
      exact ⟨key h.1 h5,by show t.v.map clnM=[];rw [h.2];rfl⟩
  | succ d ih =>
    intro t h
    rw [clnM_eq]
    split
    · exact fit_leaf leaf rfl
    · rename_i h5
      refine ⟨key h.1 h5,by show (t.v.map clnM).length≤3;rw [List.length_map];exact h.2.1,fun s hs=>?_⟩
      obtain ⟨u,hu,rfl⟩:=List.mem_map.1 (show s∈t.v.map clnM from hs)
      exact ih (h.2.2 u hu)
theorem clnM_nob (t:MT):NoB (clnM t):=by
  refine MT.ind (P:=fun t=>NoB (clnM t)) ?_ t
  intro t ih
  rw [clnM_eq]
  split
  · exact noB_leaf (by decide) rfl
  · rename_i h5
    refine NoB.iff.2 ⟨h5,fun u hu=>?_⟩
    obtain ⟨x,hx,rfl⟩:=List.mem_map.1 (show u∈t.v.map clnM from hu)
    exact ih x hx
theorem num_small {neg ng : Bool} {xs : List Nat} {e : Int} (ho : Okl xs) (h : chkB neg xs e = true) (hl : xs.length ≤ 6) : (numB ng (val xs) e).length ≤ 100 := by
  have hb := chkB_bounds h
  have h1 : val xs < B32 ^ 6 := Nat.lt_of_lt_of_le (val_lt ho) (Nat.pow_le_pow_right (by rw [B32_eq]; decide) hl)
  have h2 : B32 ^ 6 < tenN 58 := by rw [B32_eq]; unfold tenN; decide
  have hd : (dec (val xs)).length ≤ 58 := dec_len_le (by decide) (Nat.lt_trans h1 h2)
  have hs : (sizeTxt (dec (val xs)) e).length ≤ 90 := by
    generalize dec (val xs) = d at hd
    have h := dec_len_le (n := 4) (N := ((d.length : Int) + e - 1).natAbs) (by omega) (by have : tenN 4 = 10000 := by decide
                                                                                          omega)
    unfold sizeTxt
    split
    · unfold expTxt
      split <;> simp <;> omega
    · split
      · simp; omega
      · split
        iterate 2
          · simp; omega
  unfold numB
  rw [List.length_map]
  unfold numTxt
  split
  · simp
  · cases ng <;> simp <;> omega
def lenB:Nat→Nat
  | 0=>100
  | d+1=>3*(lenB d+24)+2
theorem lenB_100 (d:Nat):100≤lenB d:=by
  induction d with
  | zero=>exact Nat.le_refl _
  | succ d ih=>show 100≤3*(lenB d+24)+2;omega
theorem join_len {n:Nat}:∀ ps:List (List UInt8),(∀ p∈ps,p.length≤n)→(joinC ps).length≤ps.length*(n+1):=by
  intro ps h
  cases ps with
  | nil=>exact Nat.zero_le _
  | cons p ps =>
    have h1:=h p (by simp)
    have h2:((ps.map (44 :: ·)).flatten).length≤ps.length*(n+1):=by
      have h':∀ q∈ps,q.length≤n:=fun q hq=>h q (by simp [hq])
      clear h h1
      induction ps with
      | nil=>exact Nat.zero_le _
      | cons q qs ih =>
        have a:=h' q (by simp)
        have b:=ih (fun x hx=>h' x (by simp [hx]))
        simp only [List.map_cons,List.flatten_cons,List.length_append,List.length_cons,Nat.add_mul] at b ⊢
        omega
    simp only [joinC,List.length_append,List.length_cons,Nat.add_mul] at h2 ⊢
    omega
theorem enc_len {d:Nat}:∀ {t:MT},Fit d t→Coh t→NoB t→(encJ t).length≤lenB d:=by
  have leaf:∀ {t:MT} {d:Nat},fitB t=true→Coh t→NoB t→t.c.k ≠ 6→t.c.k ≠ 7→(encJ t).length≤100:=by
    intro t d h hc hn h6 h7
    have hs:=fitB_sound h
    obtain ⟨hm,hsz,hk⟩:=fitB_small h
    rw [encJ_eq]
    rcases sound_kinds hs (NoB.iff.1 hn).1 with c | c | c | ⟨c,_⟩ | c | c
    · rw [if_pos c];decide
    · rw [if_neg (by omega),if_pos c];cases t.c.b <;> decide
    · rw [if_neg (by omega),if_neg (by omega),if_pos c]
      exact num_small hc.own.2.1 (bare_num hc c hs).1 hm
    · rw [if_neg (by omega),if_neg (by omega),if_neg (by omega),if_pos c]
      have:=quoteL_len t.c.s.data.toList
      have h2:t.c.s.data.toList.length≤12:=by rw [Array.length_toList];exact hsz
      omega
    · exact absurd c h6
    · exact absurd c h7
  induction d with
  | zero =>
    intro t h hc hn
    by_cases h6:t.c.k=6
    · rw [encJ_eq,if_neg (by omega),if_neg (by omega),if_neg (by omega),if_neg (by omega),if_pos h6,h.2];decide
    · by_cases h7:t.c.k=7
      · have hz:List.zipWith mbrB t.k ([]:List (List UInt8))=[]:=by cases t.k <;> rfl
        rw [encJ_eq,if_neg (by omega),if_neg (by omega),if_neg (by omega),if_neg (by omega),if_neg (by omega),if_pos h7,h.2]
        unfold objB
        rw [List.map_nil,hz];decide
      · exact leaf (d:=0) h.1 hc hn h6 h7
  | succ d ih =>
    intro t h hc hn
    have hb:=lenB_100 (d+1)
    have hP:∀ u∈t.v,(encJ u).length≤lenB d:=fun u hu=>ih (h.2.2 u hu) (hc.part hu) ((NoB.iff.1 hn).2 u hu)
    have h3:=h.2.1
    by_cases h6:t.c.k=6
    · rw [encJ_eq,if_neg (by omega),if_neg (by omega),if_neg (by omega),if_neg (by omega),if_pos h6]
      have:=join_len (n:=lenB d) (t.v.map encJ) (fun p hp=>by obtain ⟨u,hu,rfl⟩:=List.mem_map.1 hp;exact hP u hu)
      rw [List.length_map] at this
      have h4:t.v.length*(lenB d+1)≤3*(lenB d+1):=Nat.mul_le_mul_right _ h3
      unfold arrB
      show _≤3*(lenB d+24)+2
      simp only [List.length_cons,List.length_append,List.length_nil]
      omega
    · by_cases h7:t.c.k=7
      · rw [encJ_eq,if_neg (by omega),if_neg (by omega),if_neg (by omega),if_neg (by omega),if_neg (by omega),if_pos h7]
        have:=join_len (n:=lenB d+21) (List.zipWith mbrB t.k (t.v.map encJ)) (fun p hp=>by
          rw [mbrs_zip] at hp
          obtain ⟨z,hz,rfl⟩:=List.mem_map.1 hp
          have a:=hP z.2 (List.of_mem_zip hz).2
          have b:=(fitB_small h.1).2.2 z.1 (List.of_mem_zip hz).1
          have c:=quoteL_len z.1.data.toList
          have e:z.1.data.toList.length≤3:=by rw [Array.length_toList];exact b
          unfold mbrB
          simp only [List.length_append,List.length_cons]
          omega)
        have h5:(List.zipWith mbrB t.k (t.v.map encJ)).length≤3:=by rw [List.length_zipWith,List.length_map];omega
        have h4:=Nat.mul_le_mul_right (lenB d+21+1) h5
        unfold objB
        show _≤3*(lenB d+24)+2
        simp only [List.length_cons,List.length_append,List.length_nil]
        omega
      · have:=leaf (d:=d+1) h.1 hc hn h6 h7
        omega
theorem plain_facts {d:Nat} {t u:MT} (hf:Fit d t) (hd:d≤4) (hu:u.bare=clnM t) (hc:Coh u):checkB u=true∧NoB u∧(encJ u).length≤11060∧Fit d u.bare:=by
  have hf2:=clnM_fit hf
  have hn:NoB u:=(noB_bare u).1 (by rw [hu];exact clnM_nob t)
  refine ⟨by rw [← checkB_bare,hu];exact fit_check hf2 (by omega),hn,?_,by rw [hu];exact hf2⟩
  have hfu:Fit d u:=by
    have key:∀ d (u:MT),Fit d u.bare→Fit d u:=by
      intro d
      induction d with
      | zero =>
        intro u h
        rw [MT.bare_eq] at h
        refine ⟨by have:=h.1;obtain ⟨⟨ck,b,neg,ma,mn,mc,e,s,ka,kn,kc,va,vn,vc⟩,m,ks,vs⟩:=u;exact this,?_⟩
        have:=h.2
        exact List.map_eq_nil_iff.1 this
      | succ d ih =>
        intro u h
        rw [MT.bare_eq] at h
        refine ⟨by have:=h.1;obtain ⟨⟨ck,b,neg,ma,mn,mc,e,s,ka,kn,kc,va,vn,vc⟩,m,ks,vs⟩:=u;exact this,by have:=h.2.1;rwa [show (MT.mk u.c.bare u.m u.k (u.v.map MT.bare)).v=u.v.map MT.bare from rfl,List.length_map] at this,fun s hs=>?_⟩
        exact ih s (h.2.2 _ (List.mem_map_of_mem (f:=MT.bare) hs))
    exact key d u (by rw [hu];exact hf2)
  have:=enc_len hfu hc hn
  have h4:lenB d≤lenB 4:=by
    have:d=0∨d=1∨d=2∨d=3∨d=4:=by omega
    rcases this with rfl | rfl | rfl | rfl | rfl <;> decide
  have h5:lenB 4=11060:=by decide
  omega
def nmL (n:Nat):UInt8:=UInt8.ofNat (97+n)
def hexD (k:Nat):UInt8:=if k<10 then UInt8.ofNat (48+k) else UInt8.ofNat (87+k)
def quoN (n:Nat):List UInt8:=[34,nmL n,34]
def escN (n:Nat):List UInt8:=[34,92,117,48,48,hexD ((97+n) / 16),hexD ((97+n) % 16),34]
def nmX (b:Bool) (n:Nat):List UInt8:=if b then escN n else quoN n
theorem text_plain:∀ n,n<26→∀ r:List UInt8,textL (quoN n++r)=.inl ([nmL n],r):=by
  intro n hn r
  match n,hn with
  | 0,_=>rfl
  | 1,_=>rfl
  | 2,_=>rfl
  | 3,_=>rfl
  | 4,_=>rfl
  | 5,_=>rfl
  | 6,_=>rfl
  | 7,_=>rfl
  | 8,_=>rfl
  | 9,_=>rfl
  | 10,_=>rfl
  | 11,_=>rfl
  | 12,_=>rfl
  | 13,_=>rfl
  | 14,_=>rfl
  | 15,_=>rfl
  | 16,_=>rfl
  | 17,_=>rfl
  | 18,_=>rfl
  | 19,_=>rfl
  | 20,_=>rfl
  | 21,_=>rfl
  | 22,_=>rfl
  | 23,_=>rfl
  | 24,_=>rfl
  | 25,_=>rfl
  | n+26,h=>omega
theorem text_esc:∀ n,n<26→∀ r:List UInt8,textL (escN n++r)=.inl ([nmL n],r):=by
  intro n hn r
  match n,hn with
  | 0,_=>rfl
  | 1,_=>rfl
  | 2,_=>rfl
  | 3,_=>rfl
  | 4,_=>rfl
  | 5,_=>rfl
  | 6,_=>rfl
  | 7,_=>rfl
  | 8,_=>rfl
  | 9,_=>rfl
  | 10,_=>rfl
  | 11,_=>rfl
  | 12,_=>rfl
  | 13,_=>rfl
  | 14,_=>rfl
  | 15,_=>rfl
  | 16,_=>rfl
  | 17,_=>rfl
  | 18,_=>rfl
  | 19,_=>rfl
  | 20,_=>rfl
  | 21,_=>rfl
  | 22,_=>rfl
  | 23,_=>rfl
  | 24,_=>rfl
  | 25,_=>rfl
  | n+26,h=>omega
theorem text_nm (b:Bool) {n:Nat} (hn:n<26) (r:List UInt8):textL (nmX b n++r)=.inl ([nmL n],r):=by
  cases b
  · exact text_plain n hn r
  · exact text_esc n hn r
theorem nm_head (b:Bool) (n:Nat) (r:List UInt8):∃ q,nmX b n++r=34::q:=by cases b <;> exact ⟨_,rfl⟩
theorem nm_skip (b:Bool) (n:Nat) (r:List UInt8):skipL (nmX b n++r)=nmX b n++r∧nextL (nmX b n++r)=34:=by
  obtain ⟨q,h⟩:=nm_head b n r
  rw [h]
  exact ⟨skipL_cons (by decide),nextL_cons' (by decide)⟩
theorem fuel3 (b:Bool) (n:Nat) (r:List UInt8):3≤(123::(nmX b n++r)).length+1:=by
  obtain ⟨q,h⟩:=nm_head b n r
  rw [h]
  simp only [List.length_cons]
  omega
theorem member_nm {V:List UInt8→Nat→PRJ} {u:MT} (b:Bool) {n:Nat} (hn:n<26) (hV:RtV V u) {k:Nat} {more:List UInt8} (hm:NoSign more) (hk:k+u.nodes≤2001) (acc:List (List UInt8) × List MT) :
    memberL V acc (nmX b n++58::(encJ u++more)) k=.inl ((acc.1++[[nmL n]],acc.2++[u.bare]),more,k+u.nodes - 1) :=
  memberL_yes (by rw [(nm_skip b n _).1];exact text_nm b hn _) (nextL_cons' (by decide)) (by rw [skipL_cons (by decide)];exact hV.2 k more hm hk)
theorem member_none {V:List UInt8→Nat→PRJ} {u:MT} (hV:RtV V u) {k:Nat} {more:List UInt8} (hm:NoSign more) (hk:k+u.nodes≤2001) (acc:List (List UInt8) × List MT) :
    memberL V acc (34::34::58::(encJ u++more)) k=.inl ((acc.1++[[]],acc.2++[u.bare]),more,k+u.nodes - 1) :=
  memberL_yes (s:=[]) (r:=58::(encJ u++more)) (by rw [show skipL (34::34::58::(encJ u++more))=34::34::58::(encJ u++more) from skipL_cons (by decide)];rfl) (nextL_cons' (by decide)) (by rw [skipL_cons (by decide)];exact hV.2 k more hm hk)
def twice1 (b:Bool) (n:Nat) (s:List UInt8):List UInt8:=91::123::(nmX false n++58::(s++44::(nmX b n++58::(s++[125,93]))))
def twice2 (b:Bool) (n:Nat) (s:List UInt8):List UInt8:=123::(nmX b n++58::(s++44::34::34::58::(s++[125])))
theorem rtv_small {u:MT} {d:Nat} (hf:Fit 3 u.bare) (hb:NoB u) (hc:Coh u) (f dd:Nat) (hdd:dd+f=67) (h3:dd≤10) (hs:SndD u dd):RtV (valueL f dd) u :=
  ⟨encj_head hs.own.2 (NoB.iff.1 hb).1,fun n more hm hn=>value_enc u f dd n more hdd hs hc hb hn hm⟩
theorem small_snd {u:MT} (hf:Fit 3 u.bare) (dd:Nat) (h3:dd≤10):SndD u dd∧u.nodes≤64:=by
  have h1:=fit_nodes hf
  rw [nodes_bare] at h1
  refine ⟨fun x hx=>?_,h1⟩
  have hy:(x.1,x.2.bare)∈u.bare.pre dd:=by rw [pre_bare];exact List.mem_map_of_mem (f:=fun x=>(x.1,x.2.bare)) hx
  have:=fit_pre hf _ hy
  rw [soundB_bare] at this
  exact ⟨by have:=this.1;simp only at this;omega,this.2⟩
theorem decode_twice {u:MT} (hf:Fit 3 u.bare) (hb:NoB u) (hc:Coh u) (hl:(encJ u).length≤11060) (b:Bool) {n:Nat} (hn:n<26):decodeL (twice1 b n (encJ u))=.inr 2:=by
  obtain ⟨hs,hnn⟩:=small_snd hf 3 (by decide)
  have hR:=rtv_small (d:=3) hf hb hc 64 3 rfl (by decide) hs
  have hp:=u.nodes_pos
  have hlen:(twice1 b n (encJ u)).length≤32768:=by
    have:(nmX b n).length≤8:=by cases b <;> simp [nmX,escN,quoN]
    have h2:(nmX false n).length≤8:=by simp [nmX,quoN]
    unfold twice1
    simp only [List.length_cons,List.length_append,List.length_nil]
    omega
  have m1:=member_nm (V:=valueL 64 3) false hn hR (k:=3) (more:=44::(nmX b n++58::(encJ u++[125,93]))) (noSign_cons _ (by decide)) (by omega) ([],[])
  have m2:=member_nm (V:=valueL 64 3) b hn hR (k:=3+u.nodes - 1+1) (more:=[125,93]) (noSign_cons _ (by decide)) (by omega) ([[nmL n]],[u.bare])
  have hobj:valueL 65 2 (123::(nmX false n++58::(encJ u++44::(nmX b n++58::(encJ u++[125,93]))))) 2=.inr 2:=by
    rw [valueL_obj (nextL_cons' (by decide)),skipL_cons (by decide)]
    unfold objL
    have hloop:∀ g,3≤g→loopL (memberL (valueL 64 3)) 125 3 g 0 ([],[]) (skipL (123::(nmX false n++58::(encJ u++44::(nmX b n++58::(encJ u++[125,93])))))).tail 2=.inl (([[nmL n],[nmL n]],[u.bare,u.bare]),[93],3+u.nodes - 1+1+u.nodes - 1):=by
      intro g hg
      obtain ⟨g,rfl⟩:∃ q,g=q+3:=⟨g - 3,by omega⟩
      have e0:(skipL (123::(nmX false n++58::(encJ u++44::(nmX b n++58::(encJ u++[125,93])))))).tail=nmX false n++58::(encJ u++44::(nmX b n++58::(encJ u++[125,93]))):=by rw [skipL_cons (by decide)];rfl
      rw [e0]
      have k1:=nm_skip false n (58::(encJ u++44::(nmX b n++58::(encJ u++[125,93]))))
      rw [loopL_on (by rw [k1.2];decide) (fun h=>absurd h.1 (by decide)) ⟨by decide,by decide,by decide⟩ (by rw [if_neg (by decide),k1.1];exact m1)]
      have hx:nextL (44::(nmX b n++58::(encJ u++[125,93])))=44:=nextL_cons' (by decide)
      rw [loopL_on (f:=g+1) (by rw [hx];decide) (by rw [hx];exact fun h=>h.2 rfl) ⟨by decide,by decide,by show 3+u.nodes - 1<2000;omega⟩ (by rw [if_pos (by decide),skipL_cons (by decide)];exact m2)]
      rw [loopL_end (nextL_cons' (by decide)),skipL_cons (by decide)]
      rfl
    rw [hloop _ (fuel3 _ _ _)]
    simp
  unfold decodeL
  rw [if_neg (by omega)]
  have harr:valueL 66 1 (twice1 b n (encJ u)) 1=.inr 2:=by
    unfold twice1
    rw [valueL_arr (nextL_cons' (by decide)),skipL_cons (by decide)]
    refine arrL_no ?_
    rw [skipL_cons (by decide)]
    exact loopL_bad (by rw [show nextL (List.tail (91::123::(nmX false n++58::(encJ u++44::(nmX b n++58::(encJ u++[125,93]))))))=123 from nextL_cons' (by decide)];decide) (fun h=>absurd h.1 (by decide)) ⟨by decide,by decide,by decide⟩ (by rw [if_neg (by decide)];refine itemL_no ?_;rw [List.tail_cons,skipL_cons (by decide)];exact hobj)
  rw [harr]
theorem sort_nm (n:Nat):sortedK [⟨#[nmL n]⟩,⟨#[]⟩]=[1,0]:=by
  show srt Op.bytesLess (keyB [⟨#[nmL n]⟩,⟨#[]⟩]) 0 2=[1,0]
  refine (srt_unique sto_bytes _ _ _ _ (by decide) ?_).symm
  have hk:∀ (l:List ByteArray) (i:Nat),keyB l i=(l.getD i ByteArray.empty).data.toList:=fun l i=>by unfold keyB;rw [ByteArray.toList_eq]
  simp only [List.pairwise_cons,leI_iff,hk]
  refine ⟨fun a h=>?_,by simp⟩
  rw [List.mem_singleton.1 h]
  left
  rfl
theorem decode_once {u:MT} (hf:Fit 3 u.bare) (hb:NoB u) (hc:Coh u) (hl:(encJ u).length≤11060) (b:Bool) {n:Nat} (hn:n<26):decodeL (twice2 b n (encJ u))=.inl (bobj [⟨#[]⟩,⟨#[nmL n]⟩] [u.bare,u.bare]):=by
  obtain ⟨hs,hnn⟩:=small_snd hf 2 (by decide)
  have hR:=rtv_small (d:=3) hf hb hc 65 2 rfl (by decide) hs
  have hp:=u.nodes_pos
  have hlen:(twice2 b n (encJ u)).length≤32768:=by
    have:(nmX b n).length≤8:=by cases b <;> simp [nmX,escN,quoN]
    unfold twice2
    simp only [List.length_cons,List.length_append,List.length_nil]
    omega
  have m1:=member_nm (V:=valueL 65 2) b hn hR (k:=2) (more:=44::34::34::58::(encJ u++[125])) (noSign_cons _ (by decide)) (by omega) ([],[])
  have m2:=member_none (V:=valueL 65 2) hR (k:=2+u.nodes - 1+1) (more:=[125]) (noSign_cons _ (by decide)) (by omega) ([[nmL n]],[u.bare])
  have hobj:valueL 66 1 (twice2 b n (encJ u)) 1=.inl (bobj [⟨#[]⟩,⟨#[nmL n]⟩] [u.bare,u.bare],[],2+u.nodes - 1+1+u.nodes - 1):=by
    unfold twice2
    rw [valueL_obj (nextL_cons' (by decide)),skipL_cons (by decide)]
    have hloop:∀ g,3≤g→loopL (memberL (valueL 65 2)) 125 2 g 0 ([],[]) (skipL (123::(nmX b n++58::(encJ u++44::34::34::58::(encJ u++[125]))))).tail 1=.inl (([[nmL n],[]],[u.bare,u.bare]),[],2+u.nodes - 1+1+u.nodes - 1):=by
      intro g hg
      obtain ⟨g,rfl⟩:∃ q,g=q+3:=⟨g - 3,by omega⟩
      have e0:(skipL (123::(nmX b n++58::(encJ u++44::34::34::58::(encJ u++[125]))))).tail=nmX b n++58::(encJ u++44::34::34::58::(encJ u++[125])):=by rw [skipL_cons (by decide)];rfl
      rw [e0]
      have k1:=nm_skip b n (58::(encJ u++44::34::34::58::(encJ u++[125])))
      rw [loopL_on (by rw [k1.2];decide) (fun h=>absurd h.1 (by decide)) ⟨by decide,by decide,by decide⟩ (by rw [if_neg (by decide),k1.1];exact m1)]
      have hx:nextL (44::34::34::58::(encJ u++[125]))=44:=nextL_cons' (by decide)
      rw [loopL_on (f:=g+1) (by rw [hx];decide) (by rw [hx];exact fun h=>h.2 rfl) ⟨by decide,by decide,by show 2+u.nodes - 1<2000;omega⟩ (by rw [if_pos (by decide),skipL_cons (by decide)];exact m2)]
      rw [loopL_end (nextL_cons' (by decide)),skipL_cons (by decide)]
      rfl
    have:=objL_yes (d:=1) (hloop _ (fuel3 _ _ _)) (by simp)
    rw [this]
    simp only
    rw [show strs [[nmL n],[]]=[⟨#[nmL n]⟩,⟨#[]⟩] from rfl,sort_nm]
    rfl
  unfold decodeL
  rw [if_neg (by omega),hobj]
  rfl
end Go.Proofs.YtijaphbccnadbaaGreatDoor
