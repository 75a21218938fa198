/- Texts of the claim. -/
import Derived.Test.YtijaphbccnadbaaGreatDoorUR
import Derived.Test.YtijaphbccnadbaaGreatDoorUK
import Derived.Test.YtijaphbccnadbaaGreatDoorUL
import Derived.Test.YtijaphbccnadbaaGreatDoorUB
set_option linter.unusedVariables false
set_option linter.unusedSimpArgs false
set_option maxHeartbeats 4000000
set_option maxRecDepth 100000
namespace Go.Proofs.YtijaphbccnadbaaGreatDoor
open Go.Shelf Go.RowKit Go.Lib Go.Sort
theorem clnM_fit {d:Nat}:∀ {t:MT},Fit d t→Fit d (clnM t):=by
  have key:∀ {t:MT},fitB t=true→t.c.k ≠ 5→fitB (.mk t.c.bare t.m t.k (t.v.map clnM))=true:=by
    intro t h h5
    have:fitB (.mk t.c.bare t.m t.k (t.v.map clnM))=fitB t:=by obtain ⟨⟨ck,b,neg,ma,mn,mc,e,s,ka,kn,kc,va,vn,vc⟩,m,ks,vs⟩:=t;rfl
    rw [this];exact h
  have leaf:fitB (leafT 1 false ⟨#[]⟩)=true:=by decide +kernel
  induction d with
  | zero =>
    intro t h
    rw [clnM_eq]
    split
    · exact fit_leaf leaf rfl
    · rename_i h5
      exact ⟨key h.1 h5,by show t.v.map clnM=[];rw [h.2];rfl⟩
  | succ d ih =>
    intro t h
    rw [clnM_eq]
    split
    · exact fit_leaf leaf rfl
    · rename_i h5
      refine ⟨key h.1 h5,by show (t.v.map clnM).length≤3;rw [List.length_map];exact h.2.1,fun s hs=>?_⟩
      obtain ⟨u,hu,rfl⟩:=List.mem_map.1 (show s∈t.v.map clnM from hs)
      exact ih (h.2.2 u hu)
theorem clnM_nob (t:MT):NoB (clnM t):=by
  refine MT.ind (P:=fun t=>NoB (clnM t)) ?_ t
  intro t ih
  rw [clnM_eq]
  split
  · exact noB_leaf (by decide) rfl
  · rename_i h5
    refine NoB.iff.2 ⟨h5,fun u hu=>?_⟩
    obtain ⟨x,hx,rfl⟩:=List.mem_map.1 (show u∈t.v.map clnM from hu)
    exact ih x hx
theorem num_small {neg ng : Bool} {xs : List Nat} {e : Int} (ho : Okl xs) (h : chkB neg xs e = true) (hl : xs.length ≤ 6) : (numB ng (val xs) e).length ≤ 100 := by
  have hb := chkB_bounds h
  have h1 : val xs < B32 ^ 6 := Nat.lt_of_lt_of_le (val_lt ho) (Nat.pow_le_pow_right (by rw [B32_eq]; decide) hl)
  have h2 : B32 ^ 6 < tenN 58 := by rw [B32_eq]; unfold tenN; decide
  have hd : (dec (val xs)).length ≤ 58 := dec_len_le (by decide) (Nat.lt_trans h1 h2)
  have hs : (sizeTxt (dec (val xs)) e).length ≤ 90 := by
    generalize dec (val xs) = d at hd
    have h := dec_len_le (n := 4) (N := ((d.length : Int) + e - 1).natAbs) (by omega) (by have : tenN 4 = 10000 := by decide
                                                                                          omega)
    unfold sizeTxt
    split
    · unfold expTxt
      split <;> simp <;> omega
    · split
      · simp; omega
      · split
        iterate 2
          · simp; omega
  unfold numB
  rw [List.length_map]
  unfold numTxt
  split
  · simp
  · cases ng <;> simp <;> omega
def lenB:Nat→Nat
  | 0=>100
  | d+1=>3*(lenB d+24)+2
theorem lenB_100 (d:Nat):100≤lenB d:=by
  induction d with
  | zero=>exact Nat.le_refl _
  | succ d ih=>show 100≤3*(lenB d+24)+2;omega
theorem join_len {n:Nat}:∀ ps:List (List UInt8),(∀ p∈ps,p.length≤n)→(joinC ps).length≤ps.length*(n+1):=by
  intro ps h
  cases ps with
  | nil=>exact Nat.zero_le _
  | cons p ps =>
    have h1:=h p (by simp)
    have h2:((ps.map (44 :: ·)).flatten).length≤ps.length*(n+1):=by
      have h':∀ q∈ps,q.length≤n:=fun q hq=>h q (by simp [hq])
      clear h h1
      induction ps with
      | nil=>exact Nat.zero_le _
      | cons q qs ih =>
        have a:=h' q (by simp)
        have b:=ih (fun x hx=>h' x (by simp [hx]))
        simp only [List.map_cons,List.flatten_cons,List.length_append,List.length_cons,Nat.add_mul] at b ⊢
        omega
    simp only [joinC,List.length_append,List.length_cons,Nat.add_mul] at h2 ⊢
    omega
theorem enc_len {d:Nat}:∀ {t:MT},Fit d t→Coh t→NoB t→(encJ t).length≤lenB d:=by
  have leaf:∀ {t:MT} {d:Nat},fitB t=true→Coh t→NoB t→t.c.k ≠ 6→t.c.k ≠ 7→(encJ t).length≤100:=by
    intro t d h hc hn h6 h7
    have hs:=fitB_sound h
    obtain ⟨hm,hsz,hk⟩:=fitB_small h
    rw [encJ_eq]
    rcases sound_kinds hs (NoB.iff.1 hn).1 with c | c | c | ⟨c,_⟩ | c | c
    · rw [if_pos c];decide
    · rw [if_neg (by omega),if_pos c];cases t.c.b <;> decide
    · rw [if_neg (by omega),if_neg (by omega),if_pos c]
      exact num_small hc.own.2.1 (bare_num hc c hs).1 hm
    · rw [if_neg (by omega),if_neg (by omega),if_neg (by omega),if_pos c]
      have:=quoteL_len t.c.s.data.toList
      have h2:t.c.s.data.toList.length≤12:=by rw [Array.length_toList];exact hsz
      omega
    · exact absurd c h6
    · exact absurd c h7
  induction d with
  | zero =>
    intro t h hc hn
    by_cases h6:t.c.k=6
    · rw [encJ_eq,if_neg (by omega),if_neg (by omega),if_neg (by omega),if_neg (by omega),if_pos h6,h.2];decide
    · by_cases h7:t.c.k=7
      · have hz:List.zipWith mbrB t.k ([]:List (List UInt8))=[]:=by cases t.k <;> rfl
        rw [encJ_eq,if_neg (by omega),if_neg (by omega),if_neg (by omega),if_neg (by omega),if_neg (by omega),if_pos h7,h.2]
        unfold objB
        rw [List.map_nil,hz];decide
      · exact leaf (d:=0) h.1 hc hn h6 h7
  | succ d ih =>
    intro t h hc hn
    have hb:=lenB_100 (d+1)
    have hP:∀ u∈t.v,(encJ u).length≤lenB d:=fun u hu=>ih (h.2.2 u hu) (hc.part hu) ((NoB.iff.1 hn).2 u hu)
    have h3:=h.2.1
    by_cases h6:t.c.k=6
    · rw [encJ_eq,if_neg (by omega),if_neg (by omega),if_neg (by omega),if_neg (by omega),if_pos h6]
      have:=join_len (n:=lenB d) (t.v.map encJ) (fun p hp=>by obtain ⟨u,hu,rfl⟩:=List.mem_map.1 hp;exact hP u hu)
      rw [List.length_map] at this
      have h4:t.v.length*(lenB d+1)≤3*(lenB d+1):=Nat.mul_le_mul_right _ h3
      unfold arrB
      show _≤3*(lenB d+24)+2
      simp only [List.length_cons,List.length_append,List.length_nil]
      omega
    · by_cases h7:t.c.k=7
      · rw [encJ_eq,if_neg (by omega),if_neg (by omega),if_neg (by omega),if_neg (by omega),if_neg (by omega),if_pos h7]
        have:=join_len (n:=lenB d+21) (List.zipWith mbrB t.k (t.v.map encJ)) (fun p hp=>by
          rw [mbrs_zip] at hp
          obtain ⟨z,hz,rfl⟩:=List.mem_map.1 hp
          have a:=hP z.2 (List.of_mem_zip hz).2
          have b:=(fitB_small h.1).2.2 z.1 (List.of_mem_zip hz).1
          have c:=quoteL_len z.1.data.toList
          have e:z.1.data.toList.length≤3:=by rw [Array.length_toList];exact b
          unfold mbrB
          simp only [List.length_append,List.length_cons]
          omega)
        have h5:(List.zipWith mbrB t.k (t.v.map encJ)).length≤3:=by rw [List.length_zipWith,List.length_map];omega
        have h4:=Nat.mul_le_mul_right (lenB d+21+1) h5
        unfold objB
        show _≤3*(lenB d+24)+2
        simp only [List.length_cons,List.length_append,List.length_nil]
        omega
      · have:=leaf (d:=d+1) h.1 hc hn h6 h7
        omega
theorem plain_facts {d:Nat} {t u:MT} (hf:Fit d t) (hd:d≤4) (hu:u.bare=clnM t) (hc:Coh u):checkB u=true∧NoB u∧(encJ u).length≤11060∧Fit d u.bare:=by
  have hf2:=clnM_fit hf
  have hn:NoB u:=(noB_bare u).1 (by rw [hu];exact clnM_nob t)
  refine ⟨by rw [← checkB_bare,hu];exact fit_check hf2 (by omega),hn,?_,by rw [hu];exact hf2⟩
  have hfu:Fit d u:=by
    have key:∀ d (u:MT),Fit d u.bare→Fit d u:=by
      intro d
      induction d with
      | zero =>
        intro u h
        rw [MT.bare_eq] at h
        refine ⟨by have:=h.1;obtain ⟨⟨ck,b,neg,ma,mn,mc,e,s,ka,kn,kc,va,vn,vc⟩,m,ks,vs⟩:=u;exact this,?_⟩
        have:=h.2
        exact List.map_eq_nil_iff.1 this
      | succ d ih =>
        intro u h
        rw [MT.bare_eq] at h
        refine ⟨by have:=h.1;obtain ⟨⟨ck,b,neg,ma,mn,mc,e,s,ka,kn,kc,va,vn,vc⟩,m,ks,vs⟩:=u;exact this,by have:=h.2.1;rwa [show (MT.mk u.c.bare u.m u.k (u.v.map MT.bare)).v=u.v.map MT.bare from rfl,List.length_map] at this,fun s hs=>?_⟩
        exact ih s (h.2.2 _ (List.mem_map_of_mem (f:=MT.bare) hs))
    exact key d u (by rw [hu];exact hf2)
  have:=enc_len hfu hc hn
  have h4:lenB d≤lenB 4:=by
    have:d=0∨d=1∨d=2∨d=3∨d=4:=by omega
    rcases this with rfl | rfl | rfl | rfl | rfl <;> decide
  have h5:lenB 4=11060:=by decide
  omega
theorem fit_snd {d dd:Nat} {t:MT} (h:Fit d t) (hd:dd+d≤64):SndD t dd:=fun x hx=>by
  have:=fit_pre h x hx
  exact ⟨by omega,this.2⟩
theorem fit_unbare:∀ {d:Nat} {u:MT},Fit d u.bare→Fit d u:=by
  intro d
  induction d with
  | zero =>
    intro u h
    rw [MT.bare_eq] at h
    exact ⟨by have:=h.1;obtain ⟨⟨ck,b,neg,ma,mn,mc,e,s,ka,kn,kc,va,vn,vc⟩,m,ks,vs⟩:=u;exact this,List.map_eq_nil_iff.1 h.2⟩
  | succ d ih =>
    intro u h
    rw [MT.bare_eq] at h
    refine ⟨by have:=h.1;obtain ⟨⟨ck,b,neg,ma,mn,mc,e,s,ka,kn,kc,va,vn,vc⟩,m,ks,vs⟩:=u;exact this,by have:=h.2.1;rwa [show (MT.mk u.c.bare u.m u.k (u.v.map MT.bare)).v=u.v.map MT.bare from rfl,List.length_map] at this,fun s hs=>?_⟩
    exact ih (h.2.2 _ (List.mem_map_of_mem (f:=MT.bare) hs))
theorem encc_head (B:List UInt8) {t:MT} (h:soundB t=true) (h5:t.c.k ≠ 5):∃ x r,encC B t=x::r∧HeadB x:=by
  rw [encC_eq]
  rcases sound_kinds h h5 with c | c | c | ⟨c,hv⟩ | c | c
  · rw [if_pos c];exact ⟨110,_,rfl,by unfold HeadB;decide⟩
  · rw [if_neg (by omega),if_pos c]
    cases t.c.b
    · exact ⟨102,_,rfl,by unfold HeadB;decide⟩
    · exact ⟨116,_,rfl,by unfold HeadB;decide⟩
  · rw [if_neg (by omega),if_neg (by omega),if_pos c]
    obtain ⟨x,r,h1,h2,_⟩:=numB_head t.c.neg (val t.m) t.c.e
    exact ⟨x,r,h1,h2⟩
  · rw [if_neg (by omega),if_neg (by omega),if_neg (by omega),if_pos c]
    obtain ⟨r,hr⟩:=quote_head hv
    exact ⟨34,r,hr,by unfold HeadB;decide⟩
  · rw [if_neg (by omega),if_neg (by omega),if_neg (by omega),if_neg (by omega),if_pos c]
    exact ⟨91,_,rfl,by unfold HeadB;decide⟩
  · rw [if_neg (by omega),if_neg (by omega),if_neg (by omega),if_neg (by omega),if_neg (by omega),if_pos c]
    exact ⟨123,_,rfl,by unfold HeadB;decide⟩
theorem encC_leaf (B:List UInt8) {t:MT} (h6:t.c.k ≠ 6) (h7:t.c.k ≠ 7):encC B t=encJ t:=by
  rw [encC_eq,encJ_eq]
  simp only [if_neg h6,if_neg h7]
theorem value_encW {B:List UInt8} (hB:Bl B) (t:MT):∀ (f dd n:Nat) (bl more:List UInt8),dd+f=67→SndD t dd→Coh t→NoB t→n+t.nodes≤2001→Bl bl→NoSign more→valueL f dd (bl++(encC B t++more)) n=.inl (t.bare,more,n+t.nodes - 1):=by
  refine MT.ind (P:=fun t=>∀ (f dd n:Nat) (bl more:List UInt8),dd+f=67→SndD t dd→Coh t→NoB t→n+t.nodes≤2001→Bl bl→NoSign more→valueL f dd (bl++(encC B t++more)) n=.inl (t.bare,more,n+t.nodes - 1)) ?_ t
  intro t ih f dd n bl more hf hs hc hb hn hbl hm
  obtain ⟨hd,hso⟩:=hs.own
  have hb5:=(NoB.iff.1 hb).1
  obtain ⟨x,r,hx,hh,_⟩:=encc_head B hso hb5
  rw [← valueL_skip,show skipL (bl++(encC B t++more))=encC B t++more by rw [hx];exact skip_bl hbl hh]
  by_cases h6:t.c.k=6
  · obtain ⟨f,rfl⟩:∃ g,f=g+1:=⟨f - 1,by omega⟩
    have hR:∀ u∈t.v,RtW B (valueL f (dd+1)) u:=fun u hu=>by
      have hsu:=hs.part hu
      exact ⟨encc_head B hsu.own.2 (NoB.iff.1 ((NoB.iff.1 hb).2 u hu)).1,fun bl n more hbl hm hn=>ih u hu f (dd+1) n bl more (by omega) hsu (hc.part hu) ((NoB.iff.1 hb).2 u hu) hn hbl hm⟩
    have hD:t.v ≠ []→dd+1≤64:=fun h=>by
      obtain ⟨u,us,e⟩:=List.exists_cons_of_ne_nil h
      exact (hs.part (u:=u) (by rw [e];simp)).own.1
    obtain ⟨h1,h2⟩:=bare_arr hc h6 hso
    rw [encC_eq,if_neg (by omega),if_neg (by omega),if_neg (by omega),if_neg (by omega),if_pos h6,h2]
    rw [MT.nodes_eq] at hn ⊢
    have e0:91::(B++(joinW B (t.v.map (encW B))++[93]))++more=91::(B++(joinW B (t.v.map (encW B))++93::more)):=by simp
    have hlen:t.v.length≤(joinW B (t.v.map (encW B))).length:=by
      have:=joinW_count B (t.v.map (encW B)) (fun p hp=>by
        obtain ⟨u,hu,rfl⟩:=List.mem_map.1 hp
        obtain ⟨x,r,hx,_⟩:=(hR u hu).1
        unfold encW
        rw [hx];simp)
      rwa [List.length_map] at this
    have hl:=loop_arrayW hB (V:=valueL f (dd+1)) (D:=dd+1) (g:=(91::(B++(joinW B (t.v.map (encW B))++93::more))).length+1) (n:=n) (more:=more) hD (by simp only [List.length_cons,List.length_append];omega) h1 (by omega) hR
    rw [e0,valueL_arr (nextL_cons' (by decide)),skipL_cons (by decide)]
    have:=arrL_yes (d:=dd) (s:=91::(B++(joinW B (t.v.map (encW B))++93::more))) (by rw [skipL_cons (by decide)];exact hl)
    rw [this]
    show Sum.inl (barr (t.v.map MT.bare),more,n+MT.nodesL t.v)=_
    rw [show n+MT.nodesL t.v=n+(1+MT.nodesL t.v) - 1 by omega]
  by_cases h7:t.c.k=7
  · obtain ⟨f,rfl⟩:∃ g,f=g+1:=⟨f - 1,by omega⟩
    have hR:∀ u∈t.v,RtW B (valueL f (dd+1)) u:=fun u hu=>by
      have hsu:=hs.part hu
      exact ⟨encc_head B hsu.own.2 (NoB.iff.1 ((NoB.iff.1 hb).2 u hu)).1,fun bl n more hbl hm hn=>ih u hu f (dd+1) n bl more (by omega) hsu (hc.part hu) ((NoB.iff.1 hb).2 u hu) hn hbl hm⟩
    have hD:t.v ≠ []→dd+1≤64:=fun h=>by
      obtain ⟨u,us,e⟩:=List.exists_cons_of_ne_nil h
      exact (hs.part (u:=u) (by rw [e];simp)).own.1
    obtain ⟨h1,h3,h4,h2⟩:=bare_obj hc h7 hso
    rw [encC_eq,if_neg (by omega),if_neg (by omega),if_neg (by omega),if_neg (by omega),if_neg (by omega),if_pos h7,h2,mbrsW_zip]
    rw [MT.nodes_eq] at hn ⊢
    have e0:123::(B++(joinW B (mbrsW B (t.k.zip t.v))++[125]))++more=123::(B++(joinW B (mbrsW B (t.k.zip t.v))++125::more)):=by simp
    have hz:∀ z∈t.k.zip t.v,OkK z.1∧RtW B (valueL f (dd+1)) z.2:=fun z hz=>⟨okK_of (rises_ok h4 z.1 (List.of_mem_zip hz).1),hR z.2 (List.of_mem_zip hz).2⟩
    have hzl:(t.k.zip t.v).length=t.v.length:=by rw [List.length_zip,h3,Nat.min_self]
    have hlen:(t.k.zip t.v).length≤(joinW B (mbrsW B (t.k.zip t.v))).length:=by
      have:=joinW_count B (mbrsW B (t.k.zip t.v)) (fun p hp=>by
        obtain ⟨z,hzz,rfl⟩:=List.mem_map.1 hp
        unfold mbrW
        simp only [List.length_append,List.length_cons]
        omega)
      unfold mbrsW at this ⊢
      rwa [List.length_map] at this
    have hzn:(t.k.zip t.v).map Prod.snd=t.v:=zip_nodes _ _ h3
    have hl:=loop_objectW hB (V:=valueL f (dd+1)) (D:=dd+1) (zs:=t.k.zip t.v) (g:=(123::(B++(joinW B (mbrsW B (t.k.zip t.v))++125::more))).length+1) (n:=n) (more:=more) (fun h=>hD (fun e=>h (by rw [e];simp))) (by simp only [List.length_cons,List.length_append];omega) (by omega) (by rw [hzn];omega) hz
    have hk1:(t.k.zip t.v).map (fun z=>z.1.data.toList)=t.k.map fun k=>k.data.toList:=by
      have:=congrArg (List.map fun k:ByteArray=>k.data.toList) (List.map_fst_zip (l₁:=t.k) (l₂:=t.v) (Nat.le_of_eq h3))
      rw [List.map_map] at this
      exact this
    have hk2:(t.k.zip t.v).map (fun z=>z.2.bare)=t.v.map MT.bare:=by
      have:=congrArg (List.map MT.bare) hzn
      rw [List.map_map] at this
      exact this
    rw [hk1,hk2,hzn] at hl
    have hris:=ris_of h4
    rw [e0,valueL_obj (nextL_cons' (by decide)),skipL_cons (by decide)]
    have:=objL_yes (d:=dd) (s:=123::(B++(joinW B (mbrsW B (t.k.zip t.v))++125::more))) (by rw [skipL_cons (by decide)];exact hl) (ris_nodup hris)
    rw [this]
    simp only [strs_back]
    rw [sorted_ris hris,range_getD t.k ByteArray.empty]
    have hk3:(List.range' 0 t.k.length).map (fun i=>(t.v.map MT.bare).getD i (leafT 0 false ⟨#[]⟩))=t.v.map MT.bare:=by
      have:=range_getD (t.v.map MT.bare) (leafT 0 false ⟨#[]⟩)
      rw [List.length_map,← h3] at this
      exact this
    rw [hk3,show n+MT.nodesL t.v=n+(1+MT.nodesL t.v) - 1 by omega]
  · rw [encC_leaf B h6 h7]
    exact value_enc t f dd n more hf hs hc hb hn hm
def lenBl:Nat→Nat
  | 0=>110
  | d+1=>3*(lenBl d+30)+12
theorem lenBl_110 (d:Nat):110≤lenBl d:=by
  induction d with
  | zero=>exact Nat.le_refl _
  | succ d ih=>show 110≤3*(lenBl d+30)+12;omega
theorem joinW_len {B:List UInt8} (hB:B.length≤4) {n:Nat}:∀ ps:List (List UInt8),(∀ p∈ps,p.length≤n)→(joinW B ps).length≤ps.length*(n+5):=by
  intro ps h
  cases ps with
  | nil=>exact Nat.zero_le _
  | cons p ps =>
    have h1:=h p (by simp)
    have h2:((ps.map fun p=>44::(B++p)).flatten).length≤ps.length*(n+5):=by
      have h':∀ q∈ps,q.length≤n:=fun q hq=>h q (by simp [hq])
      clear h h1
      induction ps with
      | nil=>exact Nat.zero_le _
      | cons q qs ih =>
        have a:=h' q (by simp)
        have b:=ih (fun x hx=>h' x (by simp [hx]))
        simp only [List.map_cons,List.flatten_cons,List.length_append,List.length_cons,Nat.add_mul] at b ⊢
        omega
    simp only [joinW,List.length_append,List.length_cons,Nat.add_mul] at h2 ⊢
    omega
theorem encW_len {B:List UInt8} (hB:B.length≤4) {d:Nat}:∀ {t:MT},Fit d t→Coh t→NoB t→(encW B t).length≤lenBl d:=by
  have tl:∀ t:MT,(tlW B t).length≤4:=fun t=>by
    unfold tlW;split
    · exact hB
    · exact Nat.zero_le _
  have leaf:∀ {t:MT} {d:Nat},Fit d t→Coh t→NoB t→t.c.k ≠ 6→t.c.k ≠ 7→(encW B t).length≤104:=by
    intro t d h hc hn h6 h7
    have:=tl t
    unfold encW
    rw [encC_leaf B h6 h7,List.length_append]
    have h2:(encJ t).length≤100:=by
      have hs:=fitB_sound h.own
      obtain ⟨hm,hsz,hk⟩:=fitB_small h.own
      rw [encJ_eq]
      rcases sound_kinds hs (NoB.iff.1 hn).1 with c | c | c | ⟨c,_⟩ | c | c
      · rw [if_pos c];decide
      · rw [if_neg (by omega),if_pos c];cases t.c.b <;> decide
      · rw [if_neg (by omega),if_neg (by omega),if_pos c]
        exact num_small hc.own.2.1 (bare_num hc c hs).1 hm
      · rw [if_neg (by omega),if_neg (by omega),if_neg (by omega),if_pos c]
        have:=quoteL_len t.c.s.data.toList
        have h2:t.c.s.data.toList.length≤12:=by rw [Array.length_toList];exact hsz
        omega
      · exact absurd c h6
      · exact absurd c h7
    omega
  induction d with
  | zero =>
    intro t h hc hn
    have h4:=tl t
    by_cases h6:t.c.k=6
    · unfold encW
      rw [encC_eq,if_neg (by omega),if_neg (by omega),if_neg (by omega),if_neg (by omega),if_pos h6,h.2,List.length_append]
      show _≤110
      simp only [List.map_nil,joinW,List.length_cons,List.length_append,List.length_nil]
      omega
    · by_cases h7:t.c.k=7
      · have hz:List.zipWith (mbrW B) t.k ([]:List (List UInt8))=[]:=by cases t.k <;> rfl
        unfold encW
        rw [encC_eq,if_neg (by omega),if_neg (by omega),if_neg (by omega),if_neg (by omega),if_neg (by omega),if_pos h7,h.2,List.length_append,List.map_nil,hz]
        show _≤110
        simp only [joinW,List.length_cons,List.length_append,List.length_nil]
        omega
      · have:=leaf h hc hn h6 h7
        exact Nat.le_trans this (by decide)
  | succ d ih =>
    intro t h hc hn
    have hb:=lenBl_110 (d+1)
    have h4:=tl t
    have hP:∀ u∈t.v,(encW B u).length≤lenBl d:=fun u hu=>ih (h.2.2 u hu) (hc.part hu) ((NoB.iff.1 hn).2 u hu)
    have h3:=h.2.1
    by_cases h6:t.c.k=6
    · unfold encW
      rw [encC_eq,if_neg (by omega),if_neg (by omega),if_neg (by omega),if_neg (by omega),if_pos h6,List.length_append]
      have:=joinW_len hB (n:=lenBl d) (t.v.map (encW B)) (fun p hp=>by obtain ⟨u,hu,rfl⟩:=List.mem_map.1 hp;exact hP u hu)
      rw [List.length_map] at this
      have h4:t.v.length*(lenBl d+5)≤3*(lenBl d+5):=Nat.mul_le_mul_right _ h3
      show _≤3*(lenBl d+30)+12
      simp only [List.length_cons,List.length_append,List.length_nil]
      omega
    · by_cases h7:t.c.k=7
      · unfold encW
        rw [encC_eq,if_neg (by omega),if_neg (by omega),if_neg (by omega),if_neg (by omega),if_neg (by omega),if_pos h7,List.length_append]
        have:=joinW_len hB (n:=lenBl d+25) (List.zipWith (mbrW B) t.k (t.v.map (encW B))) (fun p hp=>by
          rw [mbrsW_zip] at hp
          obtain ⟨z,hz,rfl⟩:=List.mem_map.1 hp
          have a:=hP z.2 (List.of_mem_zip hz).2
          have b:=(fitB_small h.1).2.2 z.1 (List.of_mem_zip hz).1
          have c:=quoteL_len z.1.data.toList
          have e:z.1.data.toList.length≤3:=by rw [Array.length_toList];exact b
          unfold mbrW
          simp only [List.length_append,List.length_cons]
          omega)
        have h5:(List.zipWith (mbrW B) t.k (t.v.map (encW B))).length≤3:=by rw [List.length_zipWith,List.length_map];omega
        have h4:=Nat.mul_le_mul_right (lenBl d+25+5) h5
        show _≤3*(lenBl d+30)+12
        simp only [List.length_cons,List.length_append,List.length_nil]
        omega
      · have:=leaf h hc hn h6 h7
        omega
theorem decode_blanks {B:List UInt8} (hB:Bl B) (hB4:B.length≤4) {u:MT} (hf:Fit 4 u) (hb:NoB u) (hc:Coh u):decodeL (B++(encW B u++B))=.inl u.bare∧(encW B u).length≤13000:=by
  have hl:=encW_len hB4 hf hc hb
  have h4:lenBl 4≤13000:=by decide
  have hn:=fit_nodes hf
  have ht:(tlW B u).length≤4:=by
    unfold tlW;split
    · exact hB4
    · exact Nat.zero_le _
  have hv:=value_encW hB u 66 1 1 B (tlW B u++B) rfl (fit_snd (dd:=1) hf (by decide)) hc hb (by omega) hB (nosign_bl (tl_bl hB u) (by have:=nosign_bl (T:=[]) hB noSign_nil;rwa [List.append_nil] at this))
  refine ⟨?_,by omega⟩
  have e:B++(encW B u++B)=B++(encC B u++(tlW B u++B)):=by unfold encW;simp
  unfold decodeL
  rw [if_neg (by simp only [List.length_append];omega),e,hv]
  simp only
  rw [if_pos]
  refine skip_all (fun x hx=>?_)
  rcases List.mem_append.1 hx with hx | hx
  · exact tl_bl hB u x hx
  · exact hB x hx
end Go.Proofs.YtijaphbccnadbaaGreatDoor
namespace Go.Proofs.YtijaphbccnadbaaGreatDoor
open Go.RowKit Go.Shelf Go.Lib
def oddL (p:List UInt8):Bool:=p.foldl (fun o c=>c == 92 && !o) false
theorem oddL_snoc (p:List UInt8) (c:UInt8):oddL (p++[c])=(c == 92 && !oddL p):=by unfold oddL;rw [List.foldl_append];rfl
def REs (s:ByteArray) (a g:Nat) (n i:Value) (w wr:World):Prop :=
  ∃ m c:Nat,m≤g∧m+c≤a∧i=.int .i64 ((m:Int) - 1)∧n=.int .i64 (c:Int)∧oddL (s.data.toList.take a)=(oddL (s.data.toList.take m) != decide (c % 2=1))∧wr=w
theorem REs.step {s:ByteArray} {a g m c:Nat} {w:World} (hm:m<s.size) (hg:m≤g) (ha:m+1+c≤a) (h:oddL (s.data.toList.take a)=(oddL (s.data.toList.take (m+1)) != decide (c % 2=1))) (hc:s[m]'hm=92) :
    REs s a g (.int .i64 ((c+1:Nat):Int)) (.int .i64 ((m:Int) - 1)) w w:=by
  refine ⟨m,c+1,hg,by omega,rfl,rfl,?_,rfl⟩
  rw [h,List.take_succ_eq_append_getElem (by simpa using hm),oddL_snoc]
  have e:s.data.toList[m]'(by simpa using hm)=92:=hc
  rw [e]
  cases oddL (s.data.toList.take m)
  iterate 2
    · have:decide ((c+1) % 2=1) = !decide (c % 2=1):=by
        rcases Nat.mod_two_eq_zero_or_one c with q | q
        · rw [decide_eq_true (by omega:(c+1) % 2=1),decide_eq_false (by omega:¬ c % 2=1)];rfl
        · rw [decide_eq_false (by omega:¬ (c+1) % 2=1),decide_eq_true q];rfl
      rw [this]
      cases decide (c % 2=1) <;> rfl
theorem odd_end {s:ByteArray} {a m c:Nat} (h:oddL (s.data.toList.take a)=(oddL (s.data.toList.take m) != decide (c % 2=1))) (h2:m=0∨∃ (hm:m - 1<s.size),0<m∧s[m - 1]'hm ≠ 92):oddL (s.data.toList.take a)=decide (c % 2=1):=by
  have h0:oddL (s.data.toList.take m)=false:=by
    rcases h2 with rfl | ⟨hm,hp,h2⟩
    · rfl
    · obtain ⟨k,rfl⟩:∃ k,m=k+1:=⟨m - 1,by omega⟩
      have hk:k<s.size:=by omega
      rw [List.take_succ_eq_append_getElem (by simpa using hk),oddL_snoc]
      have e:s.data.toList[k]'(by simpa using hk) ≠ 92:=h2
      have e2:(s.data.toList[k]'(by simpa using hk) == 92)=false:=by simpa using e
      rw [e2];rfl
  rw [h,h0]
  cases decide (c % 2=1) <;> rfl
theorem par_eq (c:Nat):((c:Int) % 2 == 1)=decide (c % 2=1):=by
  rcases Nat.mod_two_eq_zero_or_one c with q | q
  · rw [decide_eq_false (by omega:¬ c % 2=1),beq_eq_false_iff_ne];omega
  · rw [decide_eq_true q,beq_iff_eq];omega
theorem escapedJ_any (s:ByteArray) (a:Nat) (w:World) (ha:a≤s.size) (hs:s.size≤1000000) :
    Calls Tryz.prog 21 #[.string s,.int .i64 (a:Int)] w fun e w'=>e=.returned (.bool (oddL (s.data.toList.take a)))∧w'=w:=by
  have HST:=Lib.hid (show REs s a a (.int .i64 0) (.int .i64 ((a:Int) - 1)) w w from ⟨a,0,Nat.le_refl _,Nat.le_refl _,rfl,rfl,by simp,rfl⟩)
  go_enter Tryz.func21,Tryz.ntmps21
  go_wp2
  go_loopg [5,6] a (fun k n i wr=>REs s a k n i w wr)
  case atStart=>exact HST.out
  case round =>
    obtain ⟨m,c,hmk,hmc,rfl,rfl,hodd,rfl⟩:=hrel
    have HO:=Lib.hid hodd
    clear hodd HST
    by_cases h0:m=0
    · subst h0
      have HE:=Lib.hid (odd_end HO.out (.inl rfl))
      have hz:¬ ((0:Int)≤((0:Nat):Int) - 1):=by decide
      go_wp2_with fail
      go_ret
      exact ⟨by rw [HE.out,← par_eq];rfl,rfl⟩
    · obtain ⟨k,rfl⟩:∃ k,m=k+1:=⟨m - 1,by omega⟩
      obtain ⟨gk,rfl⟩:∃ g,gk=g+1:=⟨gk - 1,by omega⟩
      have ek:((k+1:Nat):Int) - 1=(k:Int):=by omega
      rw [ek]
      have hk:k<s.size:=by omega
      have hkz:(k:Int)<(s.size:Int):=by omega
      have hk0:(0:Int)≤(k:Int):=by omega
      have HS:=Lib.hid (fun (h:s[k]'hk=92)=>REs.step (w:=wr) (g:=gk) hk (by omega) (by omega) HO.out h)
      have HE:=Lib.hid (fun (h:s[k]'hk ≠ 92)=>odd_end HO.out (.inr ⟨(by simpa using hk:k+1 - 1<s.size),Nat.succ_pos _,h⟩))
      clear HO ek h0
      generalize hx:s[k]'hk=x at *
      have hxl:=x.toNat_lt
      by_cases a92:x.toNat=92
      · have hc:x=92:=UInt8.toNat_inj.1 a92
        subst hc
        clear a92
        go_wp2_with fail
        go_roundg gk
        case rel=>first | exact HS.out rfl | exact HS.out trivial
        case measure=>omega
      · have hne:x ≠ 92:=fun e=>a92 (by rw [e];rfl)
        have b92:((x.toNat:Int) == 92)=false:=by rw [beq_eq_false_iff_ne];omega
        go_wp2_with fail
        go_ret
        exact ⟨by rw [HE.out hne,← par_eq];rfl,rfl⟩
end Go.Proofs.YtijaphbccnadbaaGreatDoor
namespace Go.Proofs.YtijaphbccnadbaaGreatDoor
open Go.Shelf Go.RowKit

end Go.Proofs.YtijaphbccnadbaaGreatDoor
