/- Texts of the claim. -/
import Derived.Test.YtijaphbccnadbaaGreatDoorSQ
import Derived.Test.YtijaphbccnadbaaGreatDoorSK
import Derived.Test.YtijaphbccnadbaaGreatDoorSB
import Derived.Test.YtijaphbccnadbaaGreatDoorSJ
import Derived.Test.YtijaphbccnadbaaGreatDoorSr
set_option linter.unusedVariables false
set_option linter.unusedSimpArgs false
set_option maxHeartbeats 200000
set_option maxRecDepth 100000
namespace Go.Proofs.YtijaphbccnadbaaGreatDoor
open Go.Shelf Go.RowKit Go.Lib Go.Sort
theorem clnM_fit {d:Nat}:∀ {t:MT},Fit d t→Fit d (clnM t):=by
  have key:∀ {t:MT},fitB t=true→t.c.k ≠ 5→fitB (.mk t.c.bare t.m t.k (t.v.map clnM))=true:=by
    intro t h h5
    have:fitB (.mk t.c.bare t.m t.k (t.v.map clnM))=fitB t:=by obtain ⟨⟨ck,b,neg,ma,mn,mc,e,s,ka,kn,kc,va,vn,vc⟩,m,ks,vs⟩:=t;rfl
    rw [this];exact h
  have leaf:fitB (leafT 1 false ⟨#[]⟩)=true:=by decide +kernel
  induction d with
  | zero =>
    intro t h
    rw [clnM_eq]
    split
    · exact fit_leaf leaf rfl
    · rename_i h5
      exact ⟨key h.1 h5,by show t.v.map clnM=[];rw [h.2];rfl⟩
  | succ d ih =>
    intro t h
    rw [clnM_eq]
    split
    · exact fit_leaf leaf rfl
    · rename_i h5
      refine ⟨key h.1 h5,by show (t.v.map clnM).length≤3;rw [List.length_map];exact h.2.1,fun s hs=>?_⟩
      obtain ⟨u,hu,rfl⟩:=List.mem_map.1 (show s∈t.v.map clnM from hs)
      exact ih (h.2.2 u hu)
theorem clnM_nob (t:MT):NoB (clnM t):=by
  refine MT.ind (P:=fun t=>NoB (clnM t)) ?_ t
  intro t ih
  rw [clnM_eq]
  split
  · exact noB_leaf (by decide) rfl
  · rename_i h5
    refine NoB.iff.2 ⟨h5,fun u hu=>?_⟩
    obtain ⟨x,hx,rfl⟩:=List.mem_map.1 (show u∈t.v.map clnM from hu)
    exact ih x hx
theorem num_small {neg ng : Bool} {xs : List Nat} {e : Int} (ho : Okl xs) (h : chkB neg xs e = true) (hl : xs.length ≤ 6) : (numB ng (val xs) e).length ≤ 100 := by
  have hb := chkB_bounds h
  have h1 : val xs < B32 ^ 6 := Nat.lt_of_lt_of_le (val_lt ho) (Nat.pow_le_pow_right (by rw [B32_eq]; decide) hl)
  have h2 : B32 ^ 6 < tenN 58 := by rw [B32_eq]; unfold tenN; decide
  have hd : (dec (val xs)).length ≤ 58 := dec_len_le (by decide) (Nat.lt_trans h1 h2)
  have hs : (sizeTxt (dec (val xs)) e).length ≤ 90 := by
    generalize dec (val xs) = d at hd
    have h := dec_len_le (n := 4) (N := ((d.length : Int) + e - 1).natAbs) (by omega) (by have : tenN 4 = 10000 := by decide
                                                                                          omega)
    unfold sizeTxt
    split
    · unfold expTxt
      split <;> simp <;> omega
    · split
      · simp; omega
      · split
        iterate 2
          · simp; omega
  unfold numB
  rw [List.length_map]
  unfold numTxt
  split
  · simp
  · cases ng <;> simp <;> omega
def lenB:Nat→Nat
  | 0=>100
  | d+1=>3*(lenB d+24)+2
theorem lenB_100 (d:Nat):100≤lenB d:=by
  induction d with
  | zero=>exact Nat.le_refl _
  | succ d ih=>show 100≤3*(lenB d+24)+2;omega
theorem join_len {n:Nat}:∀ ps:List (List UInt8),(∀ p∈ps,p.length≤n)→(joinC ps).length≤ps.length*(n+1):=by
  intro ps h
  cases ps with
  | nil=>exact Nat.zero_le _
  | cons p ps =>
    have h1:=h p (by simp)
    have h2:((ps.map (44 :: ·)).flatten).length≤ps.length*(n+1):=by
      have h':∀ q∈ps,q.length≤n:=fun q hq=>h q (by simp [hq])
      clear h h1
      induction ps with
      | nil=>exact Nat.zero_le _
      | cons q qs ih =>
        have a:=h' q (by simp)
        have b:=ih (fun x hx=>h' x (by simp [hx]))
        simp only [List.map_cons,List.flatten_cons,List.length_append,List.length_cons,Nat.add_mul] at b ⊢
        omega
    simp only [joinC,List.length_append,List.length_cons,Nat.add_mul] at h2 ⊢
    omega
theorem enc_len {d:Nat}:∀ {t:MT},Fit d t→Coh t→NoB t→(encJ t).length≤lenB d:=by
  have leaf:∀ {t:MT} {d:Nat},fitB t=true→Coh t→NoB t→t.c.k ≠ 6→t.c.k ≠ 7→(encJ t).length≤100:=by
    intro t d h hc hn h6 h7
    have hs:=fitB_sound h
    obtain ⟨hm,hsz,hk⟩:=fitB_small h
    rw [encJ_eq]
    rcases sound_kinds hs (NoB.iff.1 hn).1 with c | c | c | ⟨c,_⟩ | c | c
    · rw [if_pos c];decide
    · rw [if_neg (by omega),if_pos c];cases t.c.b <;> decide
    · rw [if_neg (by omega),if_neg (by omega),if_pos c]
      exact num_small hc.own.2.1 (bare_num hc c hs).1 hm
    · rw [if_neg (by omega),if_neg (by omega),if_neg (by omega),if_pos c]
      have:=quoteL_len t.c.s.data.toList
      have h2:t.c.s.data.toList.length≤12:=by rw [Array.length_toList];exact hsz
      omega
    · exact absurd c h6
    · exact absurd c h7
  induction d with
  | zero =>
    intro t h hc hn
    by_cases h6:t.c.k=6
    · rw [encJ_eq,if_neg (by omega),if_neg (by omega),if_neg (by omega),if_neg (by omega),if_pos h6,h.2];decide
    · by_cases h7:t.c.k=7
      · have hz:List.zipWith mbrB t.k ([]:List (List UInt8))=[]:=by cases t.k <;> rfl
        rw [encJ_eq,if_neg (by omega),if_neg (by omega),if_neg (by omega),if_neg (by omega),if_neg (by omega),if_pos h7,h.2]
        unfold objB
        rw [List.map_nil,hz];decide
      · exact leaf (d:=0) h.1 hc hn h6 h7
  | succ d ih =>
    intro t h hc hn
    have hb:=lenB_100 (d+1)
    have hP:∀ u∈t.v,(encJ u).length≤lenB d:=fun u hu=>ih (h.2.2 u hu) (hc.part hu) ((NoB.iff.1 hn).2 u hu)
    have h3:=h.2.1
    by_cases h6:t.c.k=6
    · rw [encJ_eq,if_neg (by omega),if_neg (by omega),if_neg (by omega),if_neg (by omega),if_pos h6]
      have:=join_len (n:=lenB d) (t.v.map encJ) (fun p hp=>by obtain ⟨u,hu,rfl⟩:=List.mem_map.1 hp;exact hP u hu)
      rw [List.length_map] at this
      have h4:t.v.length*(lenB d+1)≤3*(lenB d+1):=Nat.mul_le_mul_right _ h3
      unfold arrB
      show _≤3*(lenB d+24)+2
      simp only [List.length_cons,List.length_append,List.length_nil]
      omega
    · by_cases h7:t.c.k=7
      · rw [encJ_eq,if_neg (by omega),if_neg (by omega),if_neg (by omega),if_neg (by omega),if_neg (by omega),if_pos h7]
        have:=join_len (n:=lenB d+21) (List.zipWith mbrB t.k (t.v.map encJ)) (fun p hp=>by
          rw [mbrs_zip] at hp
          obtain ⟨z,hz,rfl⟩:=List.mem_map.1 hp
          have a:=hP z.2 (List.of_mem_zip hz).2
          have b:=(fitB_small h.1).2.2 z.1 (List.of_mem_zip hz).1
          have c:=quoteL_len z.1.data.toList
          have e:z.1.data.toList.length≤3:=by rw [Array.length_toList];exact b
          unfold mbrB
          simp only [List.length_append,List.length_cons]
          omega)
        have h5:(List.zipWith mbrB t.k (t.v.map encJ)).length≤3:=by rw [List.length_zipWith,List.length_map];omega
        have h4:=Nat.mul_le_mul_right (lenB d+21+1) h5
        unfold objB
        show _≤3*(lenB d+24)+2
        simp only [List.length_cons,List.length_append,List.length_nil]
        omega
      · have:=leaf (d:=d+1) h.1 hc hn h6 h7
        omega
theorem plain_facts {d:Nat} {t u:MT} (hf:Fit d t) (hd:d≤4) (hu:u.bare=clnM t) (hc:Coh u):checkB u=true∧NoB u∧(encJ u).length≤11060∧Fit d u.bare:=by
  have hf2:=clnM_fit hf
  have hn:NoB u:=(noB_bare u).1 (by rw [hu];exact clnM_nob t)
  refine ⟨by rw [← checkB_bare,hu];exact fit_check hf2 (by omega),hn,?_,by rw [hu];exact hf2⟩
  have hfu:Fit d u:=by
    have key:∀ d (u:MT),Fit d u.bare→Fit d u:=by
      intro d
      induction d with
      | zero =>
        intro u h
        rw [MT.bare_eq] at h
        refine ⟨by have:=h.1;obtain ⟨⟨ck,b,neg,ma,mn,mc,e,s,ka,kn,kc,va,vn,vc⟩,m,ks,vs⟩:=u;exact this,?_⟩
        have:=h.2
        exact List.map_eq_nil_iff.1 this
      | succ d ih =>
        intro u h
        rw [MT.bare_eq] at h
        refine ⟨by have:=h.1;obtain ⟨⟨ck,b,neg,ma,mn,mc,e,s,ka,kn,kc,va,vn,vc⟩,m,ks,vs⟩:=u;exact this,by have:=h.2.1;rwa [show (MT.mk u.c.bare u.m u.k (u.v.map MT.bare)).v=u.v.map MT.bare from rfl,List.length_map] at this,fun s hs=>?_⟩
        exact ih s (h.2.2 _ (List.mem_map_of_mem (f:=MT.bare) hs))
    exact key d u (by rw [hu];exact hf2)
  have:=enc_len hfu hc hn
  have h4:lenB d≤lenB 4:=by
    have:d=0∨d=1∨d=2∨d=3∨d=4:=by omega
    rcases this with rfl | rfl | rfl | rfl | rfl <;> decide
  have h5:lenB 4=11060:=by decide
  omega
theorem fit_part {d:Nat} {t u:MT} (h:Fit d t) (hu:u∈t.v):∃ k,k+1=d∧Fit k u:=by
  cases d with
  | zero=>rw [h.2] at hu;cases hu
  | succ d=>exact ⟨d,rfl,h.2.2 u hu⟩
theorem fit_snd {d dd:Nat} {t:MT} (h:Fit d t) (hd:dd+d≤64):SndD t dd:=fun x hx=>by
  have:=fit_pre h x hx
  exact ⟨by omega,this.2⟩
theorem valueL_nil (f d n:Nat):valueL f d [] n=.inr 2:=by cases f <;> rfl
theorem word_cut {W p q:List UInt8} (t:MT) (n:Nat) (h:W=p++q) (hq:q ≠ []):wordL W t p n=.inr 2:=by
  unfold wordL
  rw [if_neg ?_]
  intro hp
  have h1:=(List.isPrefixOf_iff_prefix.1 (show W.isPrefixOf p=true from hp)).length_le
  have h2:=List.length_pos_iff.2 hq
  rw [h,List.length_append] at h1
  omega
theorem num_cut {neg:Bool} {m:List Nat} {e:Int} {p q:List UInt8} (ho:Okl m) (h:chkB neg m e=true) (hl:m.length≤6) (n:Nat) (he:numB neg (val m) e=p++q) (hq:q ≠ []):CutR (numP p n):=by
  have hb:=chkB_bounds h
  have h1:val m<B32 ^ 6:=Nat.lt_of_lt_of_le (val_lt ho) (Nat.pow_le_pow_right (by rw [B32_eq];decide) hl)
  have h2:B32 ^ 6<tenN 58:=by rw [B32_eq];unfold tenN;decide
  have hd:(dec (val m)).length≤58:=dec_len_le (by decide) (Nat.lt_trans h1 h2)
  have hT:=aft_num (neg:=neg) (N:=val m) (e:=e) (by omega) hb.2
  have hln:=num_small (ng:=neg) ho h hl
  have hs:∀ x∈p,signsL.contains x=true:=fun x hx=>numB_signs neg (val m) e x (by rw [he];simp [hx])
  have hpq:numTxt neg (val m) e=p.map UInt8.toNat++q.map UInt8.toNat:=by rw [← numB_back,he,List.map_append]
  have hlen:(numTxt neg (val m) e).length≤100:=by rw [← numB_back,List.length_map];exact hln
  have hN:=numL_signs hs noSign_nil
  rw [List.append_nil] at hN
  unfold numP
  rcases parse_cut hT hpq (by simpa using hq) hlen with hr | ⟨r,hr⟩
  · rw [hN,hr];exact .inl rfl
  · rw [hN,hr];exact .inr ⟨_,_,rfl⟩
theorem value_cut (t:MT):∀ (d f dd n:Nat) (p q:List UInt8),dd+f=67→dd+d≤60→Fit d t→Coh t→NoB t→n+t.nodes≤2000→encJ t=p++q→q ≠ []→CutR (valueL f dd p n):=by
  refine MT.ind (P:=fun t=>∀ (d f dd n:Nat) (p q:List UInt8),dd+f=67→dd+d≤60→Fit d t→Coh t→NoB t→n+t.nodes≤2000→encJ t=p++q→q ≠ []→CutR (valueL f dd p n)) ?_ t
  intro t ih d f dd n p q hf hdd hfit hc hb hn he hq
  have hso:=hfit.sound
  obtain ⟨f,rfl⟩:∃ g,f=g+1:=⟨f - 1,by omega⟩
  have hb5:=(NoB.iff.1 hb).1
  have hR:∀ u∈t.v,RtV (valueL f (dd+1)) u∧CtV (valueL f (dd+1)) u:=fun u hu=>by
    obtain ⟨k,hk,hfu⟩:=fit_part hfit hu
    have hsu:=fit_snd (dd:=dd+1) hfu (by omega)
    have hbu:=(NoB.iff.1 hb).2 u hu
    exact ⟨⟨encj_head hsu.own.2 (NoB.iff.1 hbu).1,fun n more hm hn=>value_enc u f (dd+1) n more (by omega) hsu (hc.part hu) hbu hn hm⟩,fun n p q he hq hn=>ih u hu k f (dd+1) n p q (by omega) (by omega) hfu (hc.part hu) hbu hn he hq⟩
  cases p with
  | nil=>exact .inl (valueL_nil _ _ _)
  | cons x p =>
    obtain ⟨y,r,hy,hhd⟩:=encj_head hso hb5
    have hyx:y=x:=by rw [hy] at he;simp only [List.cons_append,List.cons.injEq] at he;exact he.1
    subst hyx
    have e1:skipL (y::p)=y::p:=skipL_cons hhd.1
    have e2:nextL (y::p)=y:=nextL_cons' hhd.1
    rw [encJ_eq] at he
    rcases sound_kinds hso hb5 with c | c | c | ⟨c,_⟩ | c | c
    · rw [if_pos c] at he
      have h1:y=110:=by unfold nullB at he;simp only [List.cons_append,List.cons.injEq] at he;exact he.1.symm
      left
      rw [valueL_null (by rw [e2,h1]),e1]
      exact word_cut _ _ he hq
    · rw [if_neg (by omega),if_pos c] at he
      left
      cases hcb:t.c.b
      · rw [hcb] at he
        have h1:y=102:=by unfold truthB at he;simp only [List.cons_append,List.cons.injEq,if_false,Bool.false_eq_true] at he;exact he.1.symm
        rw [valueL_false (by rw [e2,h1]),e1]
        exact word_cut _ _ he hq
      · rw [hcb] at he
        have h1:y=116:=by unfold truthB at he;simp only [List.cons_append,List.cons.injEq,if_true] at he;exact he.1.symm
        rw [valueL_true (by rw [e2,h1]),e1]
        exact word_cut _ _ he hq
    · obtain ⟨h1,h2⟩:=bare_num hc c hso
      rw [if_neg (by omega),if_neg (by omega),if_pos c] at he
      obtain ⟨x,r,hx,hh,hdg⟩:=numB_head t.c.neg (val t.m) t.c.e
      have hyx:x=y:=by rw [hx] at he;simp only [List.cons_append,List.cons.injEq] at he;exact he.1
      subst hyx
      rw [valueL_num (by rw [e2];exact hdg),e1]
      exact num_cut hc.own.2.1 h1 (fitB_small hfit.own).1 n he hq
    · obtain ⟨h1,h2⟩:=bare_text hc c hso
      rw [if_neg (by omega),if_neg (by omega),if_neg (by omega),if_pos c] at he
      obtain ⟨r,hr⟩:=quote_head h1.1
      have hyx:34=y:=by rw [hr] at he;simp only [List.cons_append,List.cons.injEq] at he;exact he.1
      left
      rw [valueL_text (by rw [e2,← hyx]),e1]
      unfold textP
      rw [textL_cut h1.1 he hq]
    · obtain ⟨h1,h2⟩:=bare_arr hc c hso
      rw [if_neg (by omega),if_neg (by omega),if_neg (by omega),if_neg (by omega),if_pos c] at he
      rw [MT.nodes_eq] at hn
      unfold arrB at he
      rw [List.cons_append,List.cons.injEq] at he
      obtain ⟨rfl,he⟩:=he
      left
      rw [valueL_arr e2,e1]
      refine arrL_no ?_
      have e3:(skipL (91::p)).tail=p:=by rw [e1];rfl
      rw [e3]
      refine loop_cut0 (by decide) (by decide) (by decide) (by omega) (fun acc n=>itemL_no (valueL_nil _ _ _)) (t.v.map fun u=>(encJ u,u.nodes)) _ n [] p q (by rw [List.map_map];exact he) hq (by rw [List.length_map];exact h1) ?_ ?_
      · have:cnt (t.v.map fun u=>(encJ u,u.nodes))=MT.nodesL t.v:=by
          clear hR ih hfit hc hb h1 h2 he hn hso hb5 hy
          induction t.v with
          | nil=>rw [MT.nodesL_nil];rfl
          | cons u us ih=>rw [List.map_cons,cnt_cons,ih,MT.nodesL_cons]
        omega
      · intro z hz
        obtain ⟨u,hu,rfl⟩:=List.mem_map.1 hz
        exact part_item (hR u hu).1 (hR u hu).2
    · obtain ⟨h1,h3,h4,h2⟩:=bare_obj hc c hso
      rw [if_neg (by omega),if_neg (by omega),if_neg (by omega),if_neg (by omega),if_neg (by omega),if_pos c] at he
      rw [MT.nodes_eq] at hn
      unfold objB at he
      rw [List.cons_append,List.cons.injEq,mbrs_zip] at he
      obtain ⟨rfl,he⟩:=he
      left
      rw [valueL_obj e2,e1]
      have hlp:loopL (memberL (valueL f (dd+1))) 125 (dd+1) ((123::p).length+1) 0 ([],[]) (skipL (123::p)).tail n=.inr 2:=by
        have e3:(skipL (123::p)).tail=p:=by rw [e1];rfl
        rw [e3]
        refine loop_cut0 (by decide) (by decide) (by decide) (by omega) (fun acc n=>by unfold memberL;rfl) ((t.k.zip t.v).map fun z=>(mbrB z.1 (encJ z.2),z.2.nodes)) _ n ([],[]) p q (by rw [List.map_map];exact he) hq (by rw [List.length_map,List.length_zip,h3,Nat.min_self];exact h1) ?_ ?_
        · have:cnt ((t.k.zip t.v).map fun z=>(mbrB z.1 (encJ z.2),z.2.nodes))=MT.nodesL t.v:=by
            have hz:=zip_nodes _ _ h3
            have key:∀ zs:List (ByteArray × MT),cnt (zs.map fun z=>(mbrB z.1 (encJ z.2),z.2.nodes))=MT.nodesL (zs.map Prod.snd):=by
              intro zs
              induction zs with
              | nil=>exact MT.nodesL_nil.symm
              | cons u us ih=>rw [List.map_cons,cnt_cons,ih,List.map_cons,MT.nodesL_cons]
            rw [key,hz]
          omega
        · intro z hz
          obtain ⟨u,hu,rfl⟩:=List.mem_map.1 hz
          have hu2:=hR u.2 (List.of_mem_zip hu).2
          exact part_member (okK_of (rises_ok h4 u.1 (List.of_mem_zip hu).1)) hu2.1 hu2.2
      unfold objL
      rw [hlp]
theorem fit_unbare:∀ {d:Nat} {u:MT},Fit d u.bare→Fit d u:=by
  intro d
  induction d with
  | zero =>
    intro u h
    rw [MT.bare_eq] at h
    exact ⟨by have:=h.1;obtain ⟨⟨ck,b,neg,ma,mn,mc,e,s,ka,kn,kc,va,vn,vc⟩,m,ks,vs⟩:=u;exact this,List.map_eq_nil_iff.1 h.2⟩
  | succ d ih =>
    intro u h
    rw [MT.bare_eq] at h
    refine ⟨by have:=h.1;obtain ⟨⟨ck,b,neg,ma,mn,mc,e,s,ka,kn,kc,va,vn,vc⟩,m,ks,vs⟩:=u;exact this,by have:=h.2.1;rwa [show (MT.mk u.c.bare u.m u.k (u.v.map MT.bare)).v=u.v.map MT.bare from rfl,List.length_map] at this,fun s hs=>?_⟩
    exact ih (h.2.2 _ (List.mem_map_of_mem (f:=MT.bare) hs))
def inArr (l:List UInt8):List UInt8:=91::(l++[93])
theorem inArr_len (l:List UInt8):(inArr l).length=l.length+2:=by unfold inArr;simp
theorem encJ_one (va:Option Addr) (c:Nat) (u:MT):encJ (arrT va 1 c [u])=inArr (encJ u):=by
  rw [encJ_eq,if_neg (by show (6:Int) ≠ 1;decide),if_neg (by show (6:Int) ≠ 2;decide),if_neg (by show (6:Int) ≠ 3;decide),if_neg (by show (6:Int) ≠ 4;decide),if_pos (show (arrT va 1 c [u]).c.k=6 from rfl)]
  show arrB [encJ u]=_
  unfold arrB inArr joinC
  simp
theorem fit_one {d:Nat} {u:MT} (h:Fit d u) (va:Option Addr) (c:Nat):Fit (d+1) (arrT va 1 c [u]):=by
  refine ⟨?_,by show 1≤3;decide,fun s hs=>?_⟩
  · unfold fitB
    rw [sound_arr]
    rfl
  · have e:s=u:=by simpa using (show s∈[u] from hs)
    rw [e];exact h
theorem coh_one {u:MT} (h:Coh u) (va:Option Addr) (c:Nat):Coh (arrT va 1 c [u]):=coh_mk ⟨rfl,(fun x hx=>by cases hx),rfl,rfl⟩ (fun v hv=>by
  have e:v=u:=by simpa using hv
  rw [e];exact h)
theorem noB_one {u:MT} (h:NoB u) (va:Option Addr) (c:Nat):NoB (arrT va 1 c [u]):=NoB.iff.2 ⟨by show (6:Int) ≠ 5;decide,fun v hv=>by
  have e:v=u:=by simpa using (show v∈[u] from hv)
  rw [e];exact h⟩
theorem encode_one {u:MT} (hf:Fit 4 u) (hb:NoB u) (hl:(encJ u).length≤11060) (va:Option Addr) (c:Nat):encodeL (arrT va 1 c [u])=.inl (inArr (encJ u)):=by
  rw [encodeL_yes (fit_check (fit_one hf va c) (by decide)) (noB_one hb va c) (by rw [encJ_one,inArr_len];omega),encJ_one]
theorem decode_cut {u:MT} (hf:Fit 4 u) (hb:NoB u) (hc:Coh u) (hl:(encJ u).length≤11060) {p q:List UInt8} (he:inArr (encJ u)=p++q) (hq:q ≠ []):decodeL p=.inr 2:=by
  have hsu:=fit_snd (dd:=2) hf (by decide)
  have hR:RtV (valueL 65 2) u:=⟨encj_head hsu.own.2 (NoB.iff.1 hb).1,fun n more hm hn=>value_enc u 65 2 n more rfl hsu hc hb hn hm⟩
  have hC:CtV (valueL 65 2) u:=fun n p q he hq hn=>value_cut u 4 65 2 n p q rfl (by decide) hf hc hb hn he hq
  have hnn:=fit_nodes hf
  have hlen:p.length≤11062:=by
    have:=congrArg List.length he
    rw [inArr_len,List.length_append] at this
    omega
  have hv:valueL 66 1 p 1=.inr 2:=by
    cases p with
    | nil=>exact valueL_nil _ _ _
    | cons x p =>
      unfold inArr at he
      rw [List.cons_append,List.cons.injEq] at he
      obtain ⟨rfl,he⟩:=he
      have e1:skipL (91::p)=91::p:=skipL_cons (by decide)
      rw [valueL_arr (nextL_cons' (by decide)),e1]
      refine arrL_no ?_
      rw [e1]
      refine loop_cut0 (by decide) (by decide) (by decide) (by decide) (fun acc n=>itemL_no (valueL_nil _ _ _)) [(encJ u,u.nodes)] _ 1 [] p q ?_ hq (by rw [List.length_singleton];omega) ?_ ?_
      · rw [← he];unfold joinC;simp
      · have:cnt [(encJ u,u.nodes)]=u.nodes:=by unfold cnt;simp
        omega
      · intro z hz
        have e:z=(encJ u,u.nodes):=by simpa using hz
        rw [e]
        exact part_item hR hC
  unfold decodeL
  rw [if_neg (by omega),hv]
theorem decode_more {u:MT} (hf:Fit 4 u) (hb:NoB u) (hc:Coh u) (hl:(encJ u).length≤11060) {x:UInt8} {r:List UInt8} (hx:blanksL.contains x=false) (hs:signsL.contains x=false) (hr:r.length≤20000):decodeL (inArr (encJ u)++x::r)=.inr 2:=by
  have h5:=fit_one hf none 0
  have hn:=fit_nodes h5
  have hv:=value_enc (arrT none 1 0 [u]) 66 1 1 (x::r) rfl (fit_snd (dd:=1) h5 (by decide)) (coh_one hc none 0) (noB_one hb none 0) (by omega) (noSign_cons r hs)
  rw [encJ_one] at hv
  unfold decodeL
  rw [if_neg (by rw [List.length_append,inArr_len,List.length_cons];omega),hv]
  simp only [skipL_cons hx]
  rw [if_neg (by simp)]
end Go.Proofs.YtijaphbccnadbaaGreatDoor
namespace Go.Proofs.YtijaphbccnadbaaGreatDoor
open Go.Shelf Go.RowKit

end Go.Proofs.YtijaphbccnadbaaGreatDoor
namespace Go.Proofs.YtijaphbccnadbaaGreatDoor
open Go.Shelf Go.RowKit Go.Lib
def strU (l:List UInt8):ByteArray:=⟨l.toArray⟩
theorem strU_app (a b:List UInt8):strU a++strU b=strU (a++b):=by
  apply ByteArray.ext
  simp [strU,ByteArray.data_append]
end Go.Proofs.YtijaphbccnadbaaGreatDoor
