/- Texts of the claim. -/
import Derived.Test.YtnacbakcalcgaaaGreatDoorTD
set_option linter.unusedVariables false
set_option linter.unusedSimpArgs false
set_option maxHeartbeats 16000000
set_option maxRecDepth 100000
namespace Go.Proofs.YtnacbakcalcgaaaGreatDoor
open Go.RowKit Go.Lib Go.Sort
theorem head_short (c s:Nat) (l:List Nat) (hs:sizeH (c % 32)=some s) (hl:l.length<s):cbHead (c::l)=.inr 2:=by
  have hg:=getN_in (c::l) 0 c (by simp) rfl
  rw [Int.natCast_zero,hs] at hg
  simp only at hg
  rw [if_pos (by simp only [List.length_cons];omega)] at hg
  unfold cbHead
  rw [hg]
  rfl
theorem size_tail (n:Nat):sizeH (infoN n)=some (tailN n).length:=by
  unfold infoN tailN
  split
  next h=>unfold sizeH;rw [if_pos (.inl h)];rfl
  next =>
    split
    · rfl
    · split
      · rfl
      · split <;> rfl
theorem hd_cut {m n:Nat} (hm:m<8) {p q:List Nat} (h:hd m n=p++q) (hq:q ≠ []):p=[]∨∃ c l,p=c::l∧c=m*32+infoN n∧cbHead p=.inr 2:=by
  cases p with
  | nil=>exact .inl rfl
  | cons c l =>
    right
    have h':(m*32+infoN n)::tailN n=c::(l++q):=h
    injection h' with h1 h2
    have hi:=infoN_le n
    refine ⟨c,l,rfl,h1.symm,head_short c (tailN n).length l ?_ ?_⟩
    · rw [← h1,show (m*32+infoN n) % 32=infoN n by omega];exact size_tail n
    · rw [h2,List.length_append]
      have:0<q.length:=List.length_pos_iff.2 hq
      omega
theorem val_cut_head {m n:Nat} (hm:m<8) {p q:List Nat} (h:hd m n=p++q) (hq:q ≠ []) (f k:Nat) (hk:k<2000) (hf:f ≠ 0):cbValue (f+1) p k=.inr 2:=by
  have hi:=infoN_le n
  rcases hd_cut hm h hq with rfl | ⟨c,l,rfl,hc,hh⟩
  · exact cbV_nil f k
  · exact cbV_head (by omega) (by omega) hh
theorem part_cut {a b m n:Nat} (hm:m<8) (hab:m=a∨m=b) {p q:List Nat} (h:hd m n=p++q) (hq:q ≠ []):cbPart a b p=.inr 2:=by
  have hi:=infoN_le n
  rcases hd_cut hm h hq with rfl | ⟨c,l,rfl,hc,hh⟩
  · rfl
  · unfold cbPart
    simp only
    rw [if_neg (by omega),hh]
theorem split_app {a b p q:List Nat} (h:a++b=p++q):(∃ c,a=p++c∧c ≠ []∧q=c++b)∨(∃ c,p=a++c∧b=c++q):=by
  rcases List.append_eq_append_iff.1 h with ⟨c,h1,h2⟩ | ⟨c,h1,h2⟩
  · exact .inr ⟨c,h1,h2⟩
  · by_cases hc:c=[]
    · subst hc
      exact .inr ⟨[],by simpa using h1.symm,by simpa using h2.symm⟩
    · exact .inl ⟨c,h1,hc,h2⟩
theorem piece_cut {m:Nat} {s p q:List Nat} (h:s=p++q) (hq:q ≠ []):cbPiece m s.length p=.inr 2:=by
  unfold cbPiece
  rw [if_pos]
  rw [h,List.length_append]
  have:0<q.length:=List.length_pos_iff.2 hq
  omega
theorem text_cut {m:Nat} {s p q:List Nat} (hz:s.length≤2000) (h:s=p++q) (hq:q ≠ []):cbText (m,infoN s.length,s.length) p=.inr 2:=by
  unfold cbText
  rw [if_neg (infoN_31 _),if_neg (by simp only;omega)]
  exact piece_cut h hq
theorem str_cut {m:Nat} (hm:m=2∨m=3) {s:ByteArray} (hz:s.size≤2000) {p q:List Nat} (h:strC m s=p++q) (hq:q ≠ []) (f k:Nat) (hk:k<2000) (hf:f ≠ 0):cbValue (f+1) p k=.inr 2:=by
  unfold strC at h
  rcases split_app h with ⟨c,h1,h2,_⟩ | ⟨c,rfl,h2⟩
  · exact val_cut_head (by omega) h1 h2 f k hk hf
  · rw [val_hd f k m s.size c (by omega) (by omega) hk hf]
    have ht:=text_cut (m:=m) (s:=strN s) (p:=c) (by rw [strN_len];exact hz) h2 hq
    rw [strN_len] at ht
    unfold cbBehind
    rcases hm with rfl | rfl
    · rw [if_pos rfl,ht]
    · rw [if_neg (by simp),if_pos rfl,ht]
theorem name_cut {s:ByteArray} (hz:s.size≤2000) {p q:List Nat} (h:strC 3 s=p++q) (hq:q ≠ []):cbName p=.inr 2:=by
  unfold strC at h
  have hi:=infoN_le s.size
  rcases split_app h with ⟨c,h1,h2,_⟩ | ⟨c,rfl,h2⟩
  · rcases hd_cut (by decide) h1 h2 with rfl | ⟨x,l,rfl,hc,hh⟩
    · rfl
    · unfold cbName
      simp only
      rw [if_neg (by omega),hh]
  · have hh:=head_hd 3 s.size c (by decide) (by omega)
    obtain ⟨x,r,e1,e2,e3⟩:=hd_first 3 s.size (by decide)
    have ht:=text_cut (m:=3) (s:=strN s) (p:=c) (by rw [strN_len];exact hz) h2 hq
    rw [strN_len] at ht
    rw [e1,List.cons_append] at hh ⊢
    unfold cbName
    simp only
    rw [if_neg (by omega),hh]
    exact ht
theorem long_cut {tag T:Nat} (hl:(bytesN T).length≤2000) {p q:List Nat} (h:hd 2 (bytesN T).length++bytesN T=p++q) (hq:q ≠ []):cbLong tag p=.inr 2:=by
  unfold cbLong
  rcases split_app h with ⟨c,h1,h2,_⟩ | ⟨c,rfl,h2⟩
  · rw [part_cut (by decide) (.inl rfl) h1 h2]
  · rw [part_hd 2 2 2 _ _ (.inl rfl) (by decide) (by omega)]
    simp only
    rw [text_cut hl h2 hq]
theorem digits_cut {b:Bool} {T:Nat} (hl:(bytesN T).length≤2000) {p q:List Nat} (h:intB b T=p++q) (hq:q ≠ []):cbDigits p=.inr 2:=by
  unfold intB at h
  split at h
  next hs =>
    have hi:=infoN_le T
    have hp:=part_cut (a:=0) (b:=1) (by split <;> decide) (by cases b <;> simp) h hq
    rcases hd_cut (by split <;> decide) h hq with rfl | ⟨c,l,rfl,hc,hh⟩
    · rfl
    · unfold cbDigits
      simp only
      rw [if_neg (by cases b <;> simp at hc <;> omega),hp]
  next hs =>
    rw [List.append_assoc] at h
    cases b with
    | false =>
      have h':194::(hd 2 (bytesN T).length++bytesN T)=p++q:=h
      cases p with
      | nil=>rfl
      | cons c l =>
        injection h' with h1 h2
        subst h1
        unfold cbDigits
        simp only
        rw [if_pos (by decide),head_plain 194 _ (by decide)]
        simp only
        exact long_cut hl h2 hq
    | true =>
      have h':195::(hd 2 (bytesN T).length++bytesN T)=p++q:=h
      cases p with
      | nil=>rfl
      | cons c l =>
        injection h' with h1 h2
        subst h1
        unfold cbDigits
        simp only
        rw [if_pos (by decide),head_plain 195 _ (by decide)]
        simp only
        exact long_cut hl h2 hq
theorem dec_cut {ng:Bool} {xs:List Nat} {e:Int} (ho:Okl xs) (h:chkB ng xs e=true) {p q:List Nat} (hpq:decB ng (val xs) e=p++q) (hq:q ≠ []) (f k:Nat) (hk:k<2000) (hf:f ≠ 0):cbValue (f+1) p k=.inr 2:=by
  have hb:=chkB_bounds h
  have hlen:(bytesN (toldN ng (val xs))).length≤2000:=by
    rw [bytesN_len]
    have h1:=bits_mono (told_le ng (val xs))
    have h2:=bits_words ho
    omega
  obtain ⟨u,hu⟩:∃ u,toldN (decide (e<0)) e.natAbs=u:=⟨_,rfl⟩
  have hub:u≤1200:=by rw [← hu];have:=told_le (decide (e<0)) e.natAbs;omega
  have hus:shortN u=true:=by
    unfold shortN
    have:=bits_small (q:=u) (by omega)
    exact decide_eq_true (by omega)
  have hd1:decB ng (val xs) e=hd 6 4++(hd 4 2++(hd (if decide (e<0) then 1 else 0) u++intB ng (toldN ng (val xs)))):=by
    unfold decB
    rw [hu]
    have:intB (decide (e<0)) u=hd (if decide (e<0) then 1 else 0) u:=by unfold intB;rw [if_pos hus]
    rw [this]
    simp only [List.append_assoc]
  rw [hd1] at hpq
  rcases split_app hpq with ⟨c,h1,h2,_⟩ | ⟨c,rfl,h2⟩
  · exact val_cut_head (by decide) h1 h2 f k hk hf
  rw [val_hd f k 6 4 c (by decide) (by decide) hk hf]
  unfold cbBehind
  rw [if_neg (by decide),if_neg (by decide),if_neg (by decide),if_neg (by decide),if_neg (by decide),if_neg (by decide),if_pos rfl]
  unfold cbTag
  rw [if_neg (by decide),if_pos rfl]
  unfold cbDec
  rcases split_app h2 with ⟨c2,h3,h4,_⟩ | ⟨c2,rfl,h4⟩
  · rw [part_cut (by decide) (.inl rfl) h3 h4]
    rfl
  rw [part_hd 4 4 4 2 _ (.inl rfl) (by decide) (by decide)]
  simp only
  rw [if_neg (by decide)]
  rcases split_app h4 with ⟨c3,h5,h6,_⟩ | ⟨c3,rfl,h6⟩
  · rw [part_cut (by split <;> decide) (by split <;> simp) h5 h6]
    rfl
  rw [part_hd 0 1 _ u _ (by split <;> simp) (by split <;> decide) (by omega)]
  simp only
  rw [digits_cut hlen h6 hq]
  rfl
theorem flt_cut {d y:Nat} (hd:d≤2) {p q:List Nat} (h:fltB d y=p++q) (hq:q ≠ []) (f k:Nat) (hk:k<2000) (hf:f ≠ 0):cbValue (f+1) p k=.inr 2:=by
  have hs:sizeH ((249+d) % 32)=some (2 ^ (d+1)):=by
    have:d=0∨d=1∨d=2:=by omega
    rcases this with rfl | rfl | rfl <;> rfl
  cases p with
  | nil=>exact cbV_nil f k
  | cons c l =>
    have h':(249+d)::bytesL y (2 ^ (d+1))=c::(l++q):=h
    injection h' with h1 h2
    subst h1
    have hl:(bytesL y (2 ^ (d+1))).length=2 ^ (d+1):=bytesL_len _ _
    rw [h2,List.length_append] at hl
    have:0<q.length:=List.length_pos_iff.2 hq
    exact cbV_head (by omega) (by omega) (head_short _ _ _ hs (by omega))
theorem num_cut {ng:Bool} {xs:List Nat} {e:Int} (ho:Okl xs) (h:chkB ng xs e=true) {p q:List Nat} (hpq:numB ng (val xs) e=p++q) (hq:q ≠ []) (f k:Nat) (hk:k<2000) (hf:f ≠ 0):cbValue (f+1) p k=.inr 2:=by
  have hr:restB ng (val xs) e=p++q→cbValue (f+1) p k=.inr 2:=by
    intro hpq
    unfold restB at hpq
    cases hfl:fltOf ng (val xs) e with
    | some z =>
      obtain ⟨d,y⟩:=z
      rw [hfl] at hpq
      exact flt_cut (shA_yes hfl).2 hpq hq f k hk hf
    | none =>
      rw [hfl] at hpq
      exact dec_cut ho h hpq hq f k hk hf
  unfold numB at hpq
  split at hpq
  next M hM =>
    split at hpq
    next hs =>
      unfold intB at hpq
      rw [if_pos hs] at hpq
      exact val_cut_head (by split <;> decide) hpq hq f k hk hf
    next=>exact hr hpq
  next=>exact hr hpq
def CutV (V:List Nat→Nat→RC MT) (u:MT):Prop:=∀ n p q,encX u=p++q→q ≠ []→n+u.nodes≤2000→V p n=.inr 2
theorem items_cut {V:List Nat→Nat→RC MT} {k:Nat}:∀ (us acc:List MT) (fuel n:Nat) (p q:List Nat),acc.length+us.length=k→us.length<fuel→(∀ u∈us,RtC V u∧CutV V u)→n+MT.nodesL us≤2000→(us.map encX).flatten=p++q→q ≠ [] →
    cbItems V false k fuel acc p n=.inr 2:=by
  intro us
  induction us with
  | nil =>
    intro acc fuel n p q hk hf hV hn h hq
    simp at h
    exact absurd h.2 hq
  | cons u us ih =>
    intro acc fuel n p q hk hf hV hn h hq
    obtain ⟨fuel,rfl⟩:∃ g,fuel=g+1:=⟨fuel - 1,by omega⟩
    rw [List.length_cons] at hk hf
    rw [MT.nodesL_cons] at hn
    obtain ⟨hR,hC⟩:=hV u (by simp)
    have hm:∀ l,cbMore false k acc.length l=.inl (true,l):=fun l=>by unfold cbMore;rw [if_neg (by decide),decide_eq_true (by omega)]
    rw [List.map_cons,List.flatten_cons] at h
    rcases split_app h with ⟨c,h1,h2,_⟩ | ⟨c,rfl,h2⟩
    · exact cbItems_bad (hm p) (hC n p c h1 h2 (by omega))
    · rw [cbItems_on (hm _) (hR n c (by omega))]
      exact ih _ fuel _ c q (by rw [List.length_append];simp;omega) (by omega) (fun v hv=>hV v (by simp [hv])) (by omega) h2 hq
theorem members_cut {V:List Nat→Nat→RC MT} {k:Nat}:∀ (zs:List (ByteArray × MT)) (ks:List ByteArray) (acc:List MT) (fuel n:Nat) (p q:List Nat),acc.length+zs.length=k→zs.length<fuel→(∀ z∈zs,(z.1.size≤2000∧validL z.1.data.toList=true)∧RtC V z.2∧CutV V z.2)→n+MT.nodesL (zs.map Prod.snd)≤2000→(zs.map fun z=>strC 3 z.1++encX z.2).flatten=p++q→q ≠ [] →
    cbMembers V false k fuel ks acc p n=.inr 2:=by
  intro zs
  induction zs with
  | nil =>
    intro ks acc fuel n p q hk hf hV hn h hq
    simp at h
    exact absurd h.2 hq
  | cons z zs ih =>
    intro ks acc fuel n p q hk hf hV hn h hq
    obtain ⟨fuel,rfl⟩:∃ g,fuel=g+1:=⟨fuel - 1,by omega⟩
    rw [List.length_cons] at hk hf
    simp only [List.map_cons,MT.nodesL_cons,List.flatten_cons] at hn h
    obtain ⟨⟨hz1,hz2⟩,hR,hC⟩:=hV z (by simp)
    have hm:∀ l,cbMore false k acc.length l=.inl (true,l):=fun l=>by unfold cbMore;rw [if_neg (by decide),decide_eq_true (by omega)]
    rw [List.append_assoc] at h
    rcases split_app h with ⟨c,h1,h2,_⟩ | ⟨c,rfl,h2⟩
    · exact cbMem_name (hm p) (name_cut hz1 h1 h2)
    · have hnm:=name_enc z.1 c hz1 hz2
      rcases split_app h2 with ⟨c2,h3,h4,_⟩ | ⟨c2,rfl,h4⟩
      · exact cbMem_bad (hm _) hnm (hC n c c2 h3 h4 (by omega))
      · rw [cbMem_on (hm _) hnm (hR n c2 (by omega))]
        exact ih _ _ fuel _ c2 q (by rw [List.length_append];simp;omega) (by omega) (fun v hv=>hV v (by simp [hv])) (by omega) h4 hq
theorem valX_cut (t:MT):∀ (f dd:Nat),dd+f=65→SndC t dd→CohC t→CutV (cbValue (f+1)) t:=by
  refine MT.ind (P:=fun t=>∀ (f dd:Nat),dd+f=65→SndC t dd→CohC t→CutV (cbValue (f+1)) t) ?_ t
  intro t ih f dd hf hs hc n p q hpq hq hn
  obtain ⟨hd0,hso⟩:=hs.own
  have hf0:f ≠ 0:=by omega
  obtain ⟨f,rfl⟩:∃ g,f=g+1:=⟨f - 1,by omega⟩
  have hR:∀ u∈t.v,RtC (cbValue (f+1)) u∧CutV (cbValue (f+1)) u:=fun u hu=>⟨val_enc u f (dd+1) (by omega) (hs.part hu) (hc.part hu),ih u hu f (dd+1) (by omega) (hs.part hu) (hc.part hu)⟩
  have hnp:=t.nodes_pos
  have hn2:n<2000:=by omega
  have hcs:=hso
  rw [encX_eq] at hpq
  by_cases c1:t.c.k=1
  · rw [if_pos c1] at hpq;exact val_cut_head (by decide) hpq hq _ n hn2 hf0
  by_cases c2:t.c.k=2
  · rw [if_neg c1,if_pos c2] at hpq;unfold truthC at hpq;exact val_cut_head (by decide) hpq hq _ n hn2 hf0
  by_cases c3:t.c.k=3
  · rw [if_neg c1,if_neg c2,if_pos c3] at hpq;exact num_cut hc.own.2.1 (bare_numC hc c3 hso).1 hpq hq _ n hn2 hf0
  by_cases c4:t.c.k=4
  · rw [if_neg c1,if_neg c2,if_neg c3,if_pos c4] at hpq;exact str_cut (.inr rfl) (bare_textC hc c4 hso).1.2 hpq hq _ n hn2 hf0
  by_cases c5:t.c.k=5
  · rw [if_neg c1,if_neg c2,if_neg c3,if_neg c4,if_pos c5] at hpq;exact str_cut (.inl rfl) (bare_bytesC hc c5 hso).1 hpq hq _ n hn2 hf0
  by_cases c6:t.c.k=6
  · have h1:=(bare_arrC hc c6 hso).1
    rw [if_neg c1,if_neg c2,if_neg c3,if_neg c4,if_neg c5,if_pos c6] at hpq
    rw [MT.nodes_eq] at hn
    unfold arrE at hpq
    rcases split_app hpq with ⟨c,h2,h3,_⟩ | ⟨c,rfl,h2⟩
    · exact val_cut_head (by decide) h2 h3 _ n hn2 hf0
    rw [val_hd (f+1) n 4 _ c (by decide) (by omega) hn2 hf0]
    have hl:=items_cut (V:=cbValue (f+1)) (k:=t.v.length) t.v [] 302 (n+1) c q (by simp) (by omega) hR (by omega) h2 hq
    unfold cbBehind
    rw [if_neg (by simp),if_neg (by simp),if_pos rfl]
    unfold cbArr
    simp only
    rw [if_neg (by omega),decide_eq_false (infoN_31 _),hl]
  by_cases c7:t.c.k=7
  · obtain ⟨h1,h3,h4,_⟩:=bare_objC hc c7 hso
    rw [if_neg c1,if_neg c2,if_neg c3,if_neg c4,if_neg c5,if_neg c6,if_pos c7] at hpq
    rw [MT.nodes_eq] at hn
    unfold objE at hpq
    obtain ⟨d,hd⟩:∃ d,leafT 0 false ⟨#[]⟩=d:=⟨_,rfl⟩
    have hlt:∀ i∈ordC t.k,i<t.k.length:=fun i hi=>by
      have:=List.mem_range'_1.1 ((ordC_perm t.k).mem_iff.1 hi)
      omega
    have e1:(ordC t.k).map (mbrE t.k (t.v.map encX))=((ordC t.k).map fun i=>(t.k.getD i ByteArray.empty,t.v.getD i d)).map fun z=>strC 3 z.1++encX z.2:=by
      rw [List.map_map]
      refine List.map_congr_left fun i hi=>?_
      have h5:=hlt i hi
      unfold mbrE
      simp only [Function.comp]
      congr 1
      simp [List.getD,show i<t.v.length by omega]
    have hsnd:(((ordC t.k).map fun i=>(t.k.getD i ByteArray.empty,t.v.getD i d)).map Prod.snd).Perm t.v:=by
      rw [List.map_map]
      have h6:=(ordC_perm t.k).map (fun i=>t.v.getD i d)
      rw [h3,range_getDC] at h6
      exact h6
    have hnod:=nodesL_perm hsnd
    rw [e1] at hpq
    rcases split_app hpq with ⟨c,h5,h6,_⟩ | ⟨c,rfl,h5⟩
    · exact val_cut_head (by decide) h5 h6 _ n hn2 hf0
    rw [val_hd (f+1) n 5 _ c (by decide) (by omega) hn2 hf0]
    have hl:=members_cut (V:=cbValue (f+1)) (k:=t.k.length) ((ordC t.k).map fun i=>(t.k.getD i ByteArray.empty,t.v.getD i d)) [] [] 302 (n+1) c q (by simp [ordC_len]) (by rw [List.length_map,ordC_len];omega) (fun z hz=>by
      obtain ⟨i,hi,rfl⟩:=List.mem_map.1 hz
      have h7:=hlt i hi
      exact ⟨okN_valid (riseC_ok h4 _ (by simp [List.getD,h7])),hR _ (by simp [List.getD,show i<t.v.length by omega])⟩) (by rw [hnod];omega) h5 hq
    unfold cbBehind
    rw [if_neg (by simp),if_neg (by simp),if_neg (by simp),if_pos rfl]
    unfold cbObj
    simp only
    rw [if_neg (by omega),decide_eq_false (infoN_31 _),hl]
  · unfold soundB at hcs
    rw [if_neg c1,if_neg c2,if_neg c3,if_neg c4,if_neg c5,if_neg c7,if_neg c6] at hcs
    cases hcs
theorem decode_cutC {t:MT} (h:checkB t=true) (hc:CohC t) (hl:(encX t).length≤32768) {p q:List Nat} (hpq:encX t=p++q) (hq:q ≠ []):cbDecode p=.inr 2:=by
  obtain ⟨hs,hn⟩:=SndC.of h
  have:=valX_cut t 64 1 rfl hs hc 0 p q hpq hq (by omega)
  unfold cbDecode
  rw [hpq,List.length_append] at hl
  rw [if_neg (by omega),this]
theorem encX_first {t:MT} {d:Nat} (hs:SndC t d) (hc:CohC t):∃ c r,encX t=c::r∧c<252:=by
  obtain ⟨_,hso⟩:=hs.own
  have hh:∀ m n (l:List Nat),m<8→∃ c r,hd m n++l=c::r∧c<252:=fun m n l hm=>by
    obtain ⟨c,r,h1,_,h3⟩:=hd_first m n hm
    exact ⟨c,r++l,by rw [h1];rfl,h3⟩
  have hi:∀ (b:Bool) (T:Nat) (l:List Nat),∃ c r,intB b T++l=c::r∧c<252:=fun b T l=>by
    unfold intB
    split
    · exact hh _ _ _ (by split <;> decide)
    · rw [List.append_assoc,List.append_assoc]
      exact hh _ _ _ (by decide)
  have hn:∃ c r,numB t.c.neg (val t.m) t.c.e=c::r∧c<252:=by
    have hr:∃ c r,restB t.c.neg (val t.m) t.c.e=c::r∧c<252:=by
      unfold restB
      cases hf:fltOf t.c.neg (val t.m) t.c.e with
      | some p =>
        obtain ⟨d,y⟩:=p
        have:=(shA_yes hf).2
        exact ⟨_,_,rfl,by omega⟩
      | none =>
        simp only
        unfold decB
        rw [List.append_assoc,List.append_assoc]
        exact hh _ _ _ (by decide)
    unfold numB
    split
    next M hM =>
      split
      · have:=hi t.c.neg (toldN t.c.neg M) []
        rw [List.append_nil] at this
        exact this
      · exact hr
    next=>exact hr
  have h0:∀ m n,m<8→∃ c r,hd m n=c::r∧c<252:=fun m n hm=>by
    obtain ⟨c,r,h1,_,h3⟩:=hd_first m n hm
    exact ⟨c,r,h1,h3⟩
  rw [encX_eq]
  by_cases c1:t.c.k=1
  · rw [if_pos c1];exact h0 _ _ (by decide)
  by_cases c2:t.c.k=2
  · rw [if_neg c1,if_pos c2];unfold truthC;exact h0 _ _ (by decide)
  by_cases c3:t.c.k=3
  · rw [if_neg c1,if_neg c2,if_pos c3];exact hn
  by_cases c4:t.c.k=4
  · rw [if_neg c1,if_neg c2,if_neg c3,if_pos c4];exact hh _ _ _ (by decide)
  by_cases c5:t.c.k=5
  · rw [if_neg c1,if_neg c2,if_neg c3,if_neg c4,if_pos c5];exact hh _ _ _ (by decide)
  by_cases c6:t.c.k=6
  · rw [if_neg c1,if_neg c2,if_neg c3,if_neg c4,if_neg c5,if_pos c6];exact hh _ _ _ (by decide)
  by_cases c7:t.c.k=7
  · rw [if_neg c1,if_neg c2,if_neg c3,if_neg c4,if_neg c5,if_neg c6,if_pos c7];exact hh _ _ _ (by decide)
  · unfold soundB at hso
    rw [if_neg c1,if_neg c2,if_neg c3,if_neg c4,if_neg c5,if_neg c7,if_neg c6] at hso
    cases hso
def broS:List ByteArray:=[⟨#[]⟩,⟨#[255]⟩,⟨#[28]⟩,⟨#[97,255]⟩,⟨#[95,97,97,255]⟩,⟨#[31]⟩,⟨#[248,16]⟩,⟨#[162,97,97,1,97,97,2]⟩]
theorem broS_idx0 (W:World):(Instr.index 48 (.agg #[.string ⟨#[]⟩,.string ⟨#[255]⟩,.string ⟨#[28]⟩,.string ⟨#[97,255]⟩,.string ⟨#[95,97,97,255]⟩,.string ⟨#[31]⟩,.string ⟨#[248,16]⟩,.string ⟨#[162,97,97,1,97,97,2]⟩]) (.int .i64 ((0:Nat):Int))).run Tryz.prog W=.ok (.string (broS.getD 0 ⟨#[]⟩)) W:=by kernel_rfl
theorem broS_idx1 (W:World):(Instr.index 48 (.agg #[.string ⟨#[]⟩,.string ⟨#[255]⟩,.string ⟨#[28]⟩,.string ⟨#[97,255]⟩,.string ⟨#[95,97,97,255]⟩,.string ⟨#[31]⟩,.string ⟨#[248,16]⟩,.string ⟨#[162,97,97,1,97,97,2]⟩]) (.int .i64 ((1:Nat):Int))).run Tryz.prog W=.ok (.string (broS.getD 1 ⟨#[]⟩)) W:=by kernel_rfl
theorem broS_idx2 (W:World):(Instr.index 48 (.agg #[.string ⟨#[]⟩,.string ⟨#[255]⟩,.string ⟨#[28]⟩,.string ⟨#[97,255]⟩,.string ⟨#[95,97,97,255]⟩,.string ⟨#[31]⟩,.string ⟨#[248,16]⟩,.string ⟨#[162,97,97,1,97,97,2]⟩]) (.int .i64 ((2:Nat):Int))).run Tryz.prog W=.ok (.string (broS.getD 2 ⟨#[]⟩)) W:=by kernel_rfl
theorem broS_idx3 (W:World):(Instr.index 48 (.agg #[.string ⟨#[]⟩,.string ⟨#[255]⟩,.string ⟨#[28]⟩,.string ⟨#[97,255]⟩,.string ⟨#[95,97,97,255]⟩,.string ⟨#[31]⟩,.string ⟨#[248,16]⟩,.string ⟨#[162,97,97,1,97,97,2]⟩]) (.int .i64 ((3:Nat):Int))).run Tryz.prog W=.ok (.string (broS.getD 3 ⟨#[]⟩)) W:=by kernel_rfl
theorem broS_idx4 (W:World):(Instr.index 48 (.agg #[.string ⟨#[]⟩,.string ⟨#[255]⟩,.string ⟨#[28]⟩,.string ⟨#[97,255]⟩,.string ⟨#[95,97,97,255]⟩,.string ⟨#[31]⟩,.string ⟨#[248,16]⟩,.string ⟨#[162,97,97,1,97,97,2]⟩]) (.int .i64 ((4:Nat):Int))).run Tryz.prog W=.ok (.string (broS.getD 4 ⟨#[]⟩)) W:=by kernel_rfl
theorem broS_idx5 (W:World):(Instr.index 48 (.agg #[.string ⟨#[]⟩,.string ⟨#[255]⟩,.string ⟨#[28]⟩,.string ⟨#[97,255]⟩,.string ⟨#[95,97,97,255]⟩,.string ⟨#[31]⟩,.string ⟨#[248,16]⟩,.string ⟨#[162,97,97,1,97,97,2]⟩]) (.int .i64 ((5:Nat):Int))).run Tryz.prog W=.ok (.string (broS.getD 5 ⟨#[]⟩)) W:=by kernel_rfl
theorem broS_idx6 (W:World):(Instr.index 48 (.agg #[.string ⟨#[]⟩,.string ⟨#[255]⟩,.string ⟨#[28]⟩,.string ⟨#[97,255]⟩,.string ⟨#[95,97,97,255]⟩,.string ⟨#[31]⟩,.string ⟨#[248,16]⟩,.string ⟨#[162,97,97,1,97,97,2]⟩]) (.int .i64 ((6:Nat):Int))).run Tryz.prog W=.ok (.string (broS.getD 6 ⟨#[]⟩)) W:=by kernel_rfl
theorem broS_idx7 (W:World):(Instr.index 48 (.agg #[.string ⟨#[]⟩,.string ⟨#[255]⟩,.string ⟨#[28]⟩,.string ⟨#[97,255]⟩,.string ⟨#[95,97,97,255]⟩,.string ⟨#[31]⟩,.string ⟨#[248,16]⟩,.string ⟨#[162,97,97,1,97,97,2]⟩]) (.int .i64 ((7:Nat):Int))).run Tryz.prog W=.ok (.string (broS.getD 7 ⟨#[]⟩)) W:=by kernel_rfl
theorem broS_idx (u:Nat) (W:World) (hu:u<8):(Instr.index 48 (.agg #[.string ⟨#[]⟩,.string ⟨#[255]⟩,.string ⟨#[28]⟩,.string ⟨#[97,255]⟩,.string ⟨#[95,97,97,255]⟩,.string ⟨#[31]⟩,.string ⟨#[248,16]⟩,.string ⟨#[162,97,97,1,97,97,2]⟩]) (.int .i64 (u:Int))).run Tryz.prog W=.ok (.string (broS.getD u ⟨#[]⟩)) W:=by
  have:u=0∨u=1∨u=2∨u=3∨u=4∨u=5∨u=6∨u=7:=by omega
  rcases this with rfl | rfl | rfl | rfl | rfl | rfl | rfl | rfl
  · exact broS_idx0 W
  · exact broS_idx1 W
  · exact broS_idx2 W
  · exact broS_idx3 W
  · exact broS_idx4 W
  · exact broS_idx5 W
  · exact broS_idx6 W
  · exact broS_idx7 W
theorem cborBroken_main (la:Option Addr) (ln lc:Nat) (how:Int) (w:World) (hh:-9223372036854775808≤how∧how≤9223372036854775807) (hU:UT w) (hT:DB w) (hn:ln≤40) (KM:Calls Tryz.prog 20 #[.slice la ln lc,.int .i64 3] w (MdC w)) :
    Calls Tryz.prog 6 #[.slice la ln lc,.int .i64 how] w (BoolBelow true w):=by
  have hgt:decide ((40:Int)<(ln:Int))=false:=decide_eq_false (by omega)
  have KT:=Lib.hid (fun W=>place_any how 8 W hh (by omega))
  obtain ⟨u,hu⟩:∃ u:Nat,how % 8=(u:Int):=⟨(how % 8).toNat,by have:=Int.emod_nonneg how (show (8:Int) ≠ 0 by decide);omega⟩
  have hub:u<8:=by have:=Int.emod_lt_of_pos how (show (0:Int)<8 by decide);omega
  rw [hu] at KT
  have HIX:=fun W=>broS_idx u W hub
  have HU:=Lib.hid hU;have HT:=Lib.hid hT;have HKM:=Lib.hid KM
  have HUB:=Lib.hid hub
  clear hU hT hu hh KM hub
  unfold MdC at HKM
  generalize hs:broS.getD u ⟨#[]⟩=sx at *
  have HSX:=Lib.hid hs
  clear hs
  go_enter Tryz.func6,Tryz.ntmps6
  go_wp2_with fail
  refine HKM.out.mono ?_
  rintro r w1 ⟨t,rfl,hR,⟨hck,hsn,hnd,hln⟩,hb1⟩
  have KE:=Lib.hid (encode_cb t w1 hR (HU.out.below hb1) (HT.out.below hb1))
  rw [encoX_yes hck (by omega)] at KE
  unfold EnP at KE
  have HB1:=Lib.hid hb1
  have HCO:=Lib.hid (show CohC t from CohC.of hR)
  have HCK:=Lib.hid hck
  have HSN:=Lib.hid hsn;have HND:=Lib.hid hnd;have HLN:=Lib.hid hln
  clear hR hck hsn hnd hln hb1 HKM
  obtain ⟨L,hL⟩:∃ L,encX t=L:=⟨_,rfl⟩
  have HLL:=Lib.hid hL
  rw [hL] at KE
  clear hL
  generalize t.c=c at *
  obtain ⟨k,b0,neg,ma,mn,mc,e,s,ka,kn,kc,va,vn,vc⟩:=c
  unfold Cel.val at *
  go_wp2_with fail
  refine KE.out.mono ?_
  rintro r w2 ⟨v,rfl,ho,hb2⟩
  obtain ⟨ad2,cap2,rfl,hc2,hr2,_,_,_⟩:=own_viewN ho
  obtain ⟨m,hm⟩:∃ m,L.length=m:=⟨_,rfl⟩
  rw [hm] at hc2 ⊢
  have HM:=Lib.hid hm
  have HR2:=Lib.hid hr2
  have HB2:=Lib.hid (below_on HB1.out hb2)
  have hm1:1≤m:=by
    obtain ⟨c0,r0,h1,_⟩:=encX_first HSN.out HCO.out
    rw [← hm,← HLL.out,h1,List.length_cons];omega
  have hlt1:¬ (m:Int)<1:=by omega
  obtain ⟨ab,ao,rfl,_⟩:=hr2.shape (by rw [bc_len];omega)
  replace HR2:=Lib.hid hr2
  clear ho hr2 hb2 KE hm
  go_wp2_with fail
  refine (KT.out _).mono ?_
  rintro r wx ⟨rfl,hwx⟩
  replace hwx:=hwx.symm
  subst hwx
  go_wp2_with fail
  have hsx9:sx.size≤9:=by
    rw [← HSX.out]
    have hh:=HUB.out
    have:u=0∨u=1∨u=2∨u=3∨u=4∨u=5∨u=6∨u=7:=by omega
    rcases this with rfl | rfl | rfl | rfl | rfl | rfl | rfl | rfl <;> decide
  have hlm:(strB L).size=m:=by rw [strB_size,HM.out]
  have hm31:m≤16000:=by rw [← HM.out,← HLL.out];exact HLN.out
  have z1:¬ 9223372036854775807<1+(strB L).size:=by omega
  have hap:((⟨#[130]⟩:ByteArray)++strB L).size=1+m:=by rw [← hlm];simp [ByteArray.size_append];rfl
  have z2:¬ 9223372036854775807<((⟨#[130]⟩:ByteArray)++strB L).size+sx.size:=by omega
  have z3:¬ 9223372036854775807<1+(strB L).size+sx.size:=by omega
  have z4:¬ 9223372036854775807<1+m+sx.size:=by omega
  have HCV:=Lib.hid (conv_bv w2 (some ⟨ab,ao,none⟩) m cap2 L HM.out HR2.out)
  rw [HCV.out]
  simp only [Result.andThen]
  rw [Oper.upon_value]
  go_wp2_with fail
  obtain ⟨S2,hS2⟩:∃ S2,(⟨#[130]⟩:ByteArray)++strB L++sx=S2:=⟨_,rfl⟩
  have HOB:=Lib.hid (encX_okb t 2 HSN.out HCO.out)
  have hsz:S2.size=1+m+sx.size:=by
    have h1:=strN_len S2
    rw [← hS2,strN_append,strN_append,strN_strB (by rw [← HLL.out];exact HOB.out)] at h1
    rw [← hS2,← h1]
    have h2:=strN_len sx
    simp only [List.length_append,HM.out,h2]
    rfl
  have HN2:Hid (strN S2=130::(L++strN sx)):=Lib.hid (by rw [← hS2,strN_append,strN_append,strN_strB (by rw [← HLL.out];exact HOB.out)];rfl)
  rw [hS2]
  have HRF:Hid (cbValue 64 (strN sx) (1+t.nodes)=.inr 2):=Lib.hid (broken_of _ (by have:=HND.out;omega) _ (by
    rw [← HSX.out]
    have hh:=HUB.out
    have:u=0∨u=1∨u=2∨u=3∨u=4∨u=5∨u=6∨u=7:=by omega
    rcases this with rfl | rfl | rfl | rfl | rfl | rfl | rfl | rfl <;> decide))
  have HDC:Hid (cbDecode (strN S2)=.inr 2):=Lib.hid (by
    rw [HN2.out,← HLL.out]
    exact pair_bad HSN.out HCO.out HND.out (by rw [List.length_append,strN_len];have:=HLN.out;omega) HRF.out)
  have hc2':=Lib.run_convert_string_bytes (P:=Tryz.prog) w2 9 22 5 S2 (u:=.string) Tryz.underlying9 Tryz.underlying22 Tryz.underlying5
  have hb3:=Lib.bytesWorld_below w2 5 S2
  have KD:=Lib.hid (decode_cb (some ⟨w2.heap.size,0,none⟩) S2.size (grownCap w2 S2.size 0 5) (strN S2) (Lib.bytesWorld w2 5 S2) ((HU.out.below HB2.out).below hb3) (strN_len S2) (grownCap_ge _ _ _ _) (strN_okb S2) (bytes_rd w2 S2) (.inr ⟨_,_,rfl⟩))
  rw [HDC.out] at KD
  unfold DecC at KD
  have HC2:=Lib.hid hc2'
  have HB3:=Lib.hid (below_on HB2.out hb3)
  have HR3:=Lib.hid (HR2.out.on hb3)
  clear hc2' hb3 hS2 hsz hsx9 HCV z1 z2 z3 z4 hap hlm
  generalize Lib.bytesWorld w2 5 S2=W3 at *
  generalize grownCap w2 S2.size 0 5=cp at *
  rw [HC2.out]
  simp only [Result.andThen]
  rw [Oper.upon_value]
  go_wp2_with fail
  refine KD.out.mono ?_
  rintro r w4 ⟨rfl,hb4⟩
  have HR4:=Lib.hid (HR3.out.on hb4)
  have HB4:=Lib.hid (below_on HB3.out hb4)
  clear hb4 KD HC2
  go_upto_region 8 with fail
  obtain ⟨W5,hW5⟩:∃ x,w4.alloc (.cells #[.int .i64 0,.bool false,.bool false,.slice none 0 0,.int .i64 0,.string ⟨#[]⟩,.slice none 0 0,.slice none 0 0] 29)=x:=⟨_,rfl⟩
  have hb5:Below w4.heap.size w4 W5:=by rw [← hW5];exact (Below.refl _ _).alloc (Nat.le_refl _) _
  have q5:W5.heap[w4.heap.size]? = some (.cells #[.int .i64 0,.bool false,.bool false,.slice none 0 0,.int .i64 0,.string ⟨#[]⟩,.slice none 0 0,.slice none 0 0] 29):=by rw [← hW5];exact heap_alloc_new w4 _
  rw [hW5]
  have HR5:=Lib.hid (HR4.out.on hb5)
  have HB5:=Lib.hid (below_on HB4.out hb5)
  have Q5:=Lib.hid q5
  clear hW5 hb5 q5
  have HO0:=Lib.hid (World.ownsRow_nil W5 W5.heap.size 5 1)
  have hm31:m≤16000:=by rw [← HM.out,← HLL.out];exact HLN.out
  go_wp2_with (at_builtin;refine wpl_putR W5 rfl _ _ rfl W5.heap.size (.slice none 0 0) 0 [] rfl HO0.out (Nat.le_refl _) (some ⟨ab,ao,none⟩) m cap2 rfl L HM.out HR5.out (fun h=>by cases h) (by omega) ?_)
  intro va wa hoa hga
  try rw [Nat.zero_add] at hoa
  have hba:Below W5.heap.size W5 wa:=(Below.refl _ _).grown hga (Nat.le_refl _) (fun g hg=>by cases hg)
  have HOA:=Lib.hid hoa
  have HRA:=Lib.hid (HR5.out.on hba)
  have HBa:=Lib.hid (below_on HB5.out hba)
  have hq5:w4.heap.size<W5.heap.size:=(Array.getElem?_eq_some_iff.1 Q5.out).1
  have QA:=Lib.hid ((hba.block w4.heap.size hq5).trans Q5.out)
  have HSA:=Lib.hid hba.size
  have HBW5:=Lib.hid hba
  clear hoa hga hba
  go_wp2_with (at_builtin;refine wpl_putR wa rfl _ _ rfl W5.heap.size va m L rfl HOA.out HSA.out (some ⟨ab,ao,none⟩) m cap2 rfl L HM.out HRA.out (fun h=>by cases h) (by omega) ?_)
  intro vb wb hob hgb
  have hbb:Below W5.heap.size wa wb:=(Below.refl _ _).grown hgb HSA.out (fun g hg=>(HOA.out.lt g hg).1)
  obtain ⟨bad,bn,bcap,rfl,hy1,hy2,hy3,hy4,_⟩:=(Byt.own hob).at_
  have HBb:=Lib.hid (HBa.out.trans (hbb.mono (HB5.out.size)))
  have QB:=Lib.hid ((hbb.block w4.heap.size hq5).trans QA.out)
  have hrab:RdV wb (some ⟨ab,ao,none⟩) (bc L):=HR5.out.on (HBW5.out.trans hbb)
  have HRB:=Lib.hid hrab
  have HDC3:Hid (cbDecode (L++L)=.inr 2):=Lib.hid (by rw [← HLL.out];exact twice_bad HCK.out HCO.out (by rw [List.length_append];have:=HLN.out;omega))
  have HOBL:=Lib.hid (show Okb L from by rw [← HLL.out];exact HOB.out)
  have KD3:=Lib.hid (decode_cb bad bn bcap (L++L) wb (HU.out.below HBb.out) hy1 hy2 (okb_append HOBL.out HOBL.out) hy3 hy4)
  rw [HDC3.out] at KD3
  unfold DecC at KD3
  have HSb:=Lib.hid (Nat.lt_of_lt_of_le hq5 (Nat.le_trans HSA.out hbb.size))
  clear hob hgb hbb hy1 hy2 hy3 hy4 hrab hq5
  go_wp2_with fail
  refine KD3.out.mono ?_
  rintro r w6 ⟨rfl,hb6⟩
  have HR6:=Lib.hid (HRB.out.on hb6)
  have Q6:=Lib.hid ((hb6.block w4.heap.size HSb.out).trans QB.out)
  have HS6:=Lib.hid (Nat.lt_of_lt_of_le HSb.out hb6.size)
  have HB6:=Lib.hid (below_on HBb.out hb6)
  clear hb6 KD3
  go_upto_region 9 with fail
  obtain ⟨W7,hW7⟩:∃ x,w6.alloc (.cells #[.int .i64 0,.bool false,.bool false,.slice none 0 0,.int .i64 0,.string ⟨#[]⟩,.slice none 0 0,.slice none 0 0] 29)=x:=⟨_,rfl⟩
  have hb7:Below w6.heap.size w6 W7:=by rw [← hW7];exact (Below.refl _ _).alloc (Nat.le_refl _) _
  rw [hW7]
  have HR7:=Lib.hid (HR6.out.on hb7)
  have Q7:=Lib.hid ((hb7.block w4.heap.size HS6.out).trans Q6.out)
  have HS7:=Lib.hid (Nat.lt_of_lt_of_le HS6.out hb7.size)
  have HB7:=Lib.hid (below_on HB6.out hb7)
  clear hW7 hb7
  have hi7:IntKind.i64.wrap ((m:Int) - 1)=((m - 1:Nat):Int):=by rw [show (m:Int) - 1=((m - 1:Nat):Int) by omega];exact IntWalk.i64_in _ (by omega)
  have HDC4:Hid (cbDecode (L.take (m - 1))=.inr 2):=Lib.hid (by
    refine decode_cutC (q:=L.drop (m - 1)) HCK.out HCO.out (by have:=HLN.out;omega) (by rw [HLL.out,List.take_append_drop]) ?_
    intro e
    have:=congrArg List.length e
    rw [List.length_drop,HM.out] at this
    simp at this
    omega)
  have KD4:=Lib.hid (decode_cb (some ⟨ab,ao,none⟩) (m - 1) cap2 (L.take (m - 1)) W7 (HU.out.below HB7.out) (by rw [List.length_take,HM.out];omega) (by omega) (okb_take HOBL.out _) (by rw [← bc_take];exact HR7.out.take _) (.inr ⟨_,_,rfl⟩))
  rw [HDC4.out] at KD4
  unfold DecC at KD4
  generalize hm2:m - 1=m2 at *
  have hm3:(m2:Int)≤(cap2:Int):=by omega
  have hm4:m2≤cap2:=by omega
  go_wp2_with fail
  refine KD4.out.mono ?_
  rintro r w8 ⟨rfl,hb8⟩
  have q8:=(hb8.block w4.heap.size HS7.out).trans Q7.out
  have HB8:=Lib.hid (below_on HB7.out hb8)
  have HS8:=Lib.hid (Nat.lt_of_lt_of_le HS7.out hb8.size)
  clear hb8 KD4
  go_upto_region 10 with fail
  obtain ⟨W9,hW9⟩:∃ x,w8.alloc (.cells #[.int .i64 0,.bool false,.bool false,.slice none 0 0,.int .i64 0,.string ⟨#[]⟩,.slice none 0 0,.slice none 0 0] 29)=x:=⟨_,rfl⟩
  have hb9:Below w8.heap.size w8 W9:=by rw [← hW9];exact (Below.refl _ _).alloc (Nat.le_refl _) _
  rw [hW9]
  have p9:=(hb9.block w4.heap.size HS8.out).trans q8
  have y0:=(boxC p9 0 _ rfl).1
  have y1:=(boxC p9 1 _ rfl).1
  have y2:=(boxC p9 2 _ rfl).1
  have y3:=(boxC p9 3 _ rfl).1
  have y4:=(boxC p9 4 _ rfl).1
  have y5:=(boxC p9 5 _ rfl).1
  have y6:=(boxC p9 6 _ rfl).1
  have y7:=(boxC p9 7 _ rfl).1
  have HB9:=Lib.hid (below_on HB8.out hb9)
  have KS:=Lib.hid (sameTree0 W9)
  clear hW9 hb9 q8 p9
  go_wp2_with fail
  refine KS.out.mono ?_
  rintro r wz ⟨rfl,hbz⟩
  have HBz:=Lib.hid (below_on HB9.out hbz)
  have KW:=Lib.hid (awake10_any wz (HU.out.below HBz.out) (HT.out.below HBz.out))
  clear hbz KS y0 y1 y2 y3 y4 y5 y6 y7
  go_wp2_with fail
  refine KW.out.mono ?_
  rintro r wy ⟨rfl,hby⟩
  have HZ:=Lib.hid (below_on HBz.out hby)
  clear hby KW
  go_wp2_with fail
  go_ret
  exact BoolBelow.mk rfl HZ.out
theorem cborBroken_long (la:Option Addr) (ln lc:Nat) (how:Int) (w:World) (hU:UT w) (hT:DB w) (hn:40<ln):Calls Tryz.prog 6 #[.slice la ln lc,.int .i64 how] w (BoolBelow true w):=by
  have hgt:decide ((40:Int)<(ln:Int))=true:=decide_eq_true (by omega)
  have KW:=Lib.hid (awake10_any w hU hT)
  clear hU hT
  go_enter Tryz.func6,Tryz.ntmps6
  go_wp2_with fail
  refine KW.out.mono ?_
  rintro r w10 ⟨rfl,hb10⟩
  have HZ:=Lib.hid hb10
  clear hb10 KW
  go_wp2_with fail
  go_ret
  exact BoolBelow.mk rfl HZ.out
theorem cborBroken_walk (ad:Option Addr) (n cap:Nat) (xs:List Int) (how:Int) (w:World) (hn:xs.length=n) (hcap:n≤cap) (hx:∀ x∈xs,-9223372036854775808≤x∧x≤9223372036854775807) (hr:RdV w ad (xs.map iz)) (hh:-9223372036854775808≤how∧how≤9223372036854775807) (hU:UT w) (hT:DB w) :
    Calls Tryz.prog 6 #[.slice ad n cap,.int .i64 how] w (BoolBelow true w):=by
  by_cases h40:n≤40
  · refine cborBroken_main ad n cap how w hh hU hT h40 ?_
    have K:=Made_any 3 (by decide) (.slice ad n cap) w ⟨ad,n,cap,xs,rfl,hr,hn,hcap,by omega,hx⟩
    refine K.mono ?_
    rintro e w' ⟨t,he,hR,hf,hb⟩
    exact made_MdC he hR hf hb
  · exact cborBroken_long ad n cap how w hU hT (by omega)
end Go.Proofs.YtnacbakcalcgaaaGreatDoor
