/- Texts of the claim. -/
import Derived.Lib.RuneBytes
import Derived.Lib.RuneCount
import Derived.Lib.Hide
import Derived.WalkSpells
import Derived.WalkLawsBesides
import Derived.BigQuiet
import Derived.Lib.AtoiErrMem
import Derived.Test.YtapicpdfdjofaaaDoorShelf
set_option linter.unusedVariables false
set_option linter.unusedSimpArgs false
set_option maxHeartbeats 4000000
set_option maxRecDepth 100000
namespace Go.Proofs.YtapicpdfdjofaaaDoor
open Go.Lib
theorem index_hit0 (old l:List UInt8):index (old++l) old=0:=by
  have:occAt (old++l) old 0=true:=by
    unfold occAt;rw [List.drop_zero];exact List.isPrefixOf_iff_prefix.2 (List.prefix_append old l)
  exact index_first (i:=0) (Nat.zero_le _) this (fun j h=>absurd h (Nat.not_lt_zero j))
theorem index_miss1 (b:UInt8) (l old:List UInt8) (h:old.isPrefixOf (b::l)=false) :
    index (b::l) old=if index l old == -1 then -1 else index l old+1:=by
  conv=>lhs;unfold index
  rw [h];simp
theorem count_nil1 (old:List UInt8) (h:old ≠ []):count [] old=0:=by
  refine count_miss ?_
  unfold index
  cases old with
  | nil=>exact absurd rfl h
  | cons a t=>rfl
theorem count_hit0 (old l:List UInt8) (h:old ≠ []):count (old++l) old=1+count l old:=by
  rw [count_hit (i:=0) h (index_hit0 old l),Nat.zero_add,List.drop_left]
theorem count_miss1 (b:UInt8) (l old:List UInt8) (ho:old ≠ []) (h:old.isPrefixOf (b::l)=false):count (b::l) old=count l old:=by
  have e:=index_miss1 b l old h
  by_cases hm:index l old = -1
  · rw [hm] at e
    rw [count_miss e,count_miss hm]
  · have hge:=index_ge l old
    obtain ⟨i,hi⟩:∃ i:Nat,index l old=i:=⟨(index l old).toNat,by omega⟩
    rw [hi] at e
    have hne:((i:Int) == -1)=false:=by rw [beq_eq_false_iff_ne];omega
    rw [hne] at e
    have e':index (b::l) old=((i+1:Nat):Int):=by rw [e];simp
    rw [count_hit (i:=i+1) ho e',count_hit (i:=i) ho hi]
    have:(b::l).drop (i+1+old.length)=l.drop (i+old.length):=by rw [show i+1+old.length=(i+old.length)+1 by omega,List.drop_succ_cons]
    rw [this]
theorem repl_eq (s old new:List UInt8) (h:old ≠ new):replaceAll s old new=replaceK old new (count s old) s:=by
  unfold replaceAll replace replaceNum
  have:(old == new)=false:=beq_eq_false_iff_ne.2 h
  rw [this]
  simp
theorem repl_nil (old new:List UInt8) (h:old ≠ new) (ho:old ≠ []):replaceAll [] old new=[]:=by
  rw [repl_eq _ _ _ h,count_nil1 _ ho];rfl
theorem repl_hit (old new l:List UInt8) (h:old ≠ new) (ho:old ≠ []):replaceAll (old++l) old new=new++replaceAll l old new:=by
  rw [repl_eq _ _ _ h,repl_eq _ _ _ h,count_hit0 _ _ ho,Nat.add_comm,replaceK_hit old new _ _ 0 (index_hit0 old l)]
  simp
theorem replK_miss (old new:List UInt8) (b:UInt8) (l:List UInt8) (ho:old ≠ []) (h:old.isPrefixOf (b::l)=false):∀ k,k=count l old→replaceK old new k (b::l)=b::replaceK old new k l:=by
  intro k hk
  have e:=index_miss1 b l old h
  by_cases hm:index l old = -1
  · rw [count_miss hm] at hk
    subst hk
    simp [replaceK]
  · have hge:=index_ge l old
    obtain ⟨i,hi⟩:∃ i:Nat,index l old=i:=⟨(index l old).toNat,by omega⟩
    rw [hi] at e
    have hne:((i:Int) == -1)=false:=by rw [beq_eq_false_iff_ne];omega
    rw [hne] at e
    have e':index (b::l) old=((i+1:Nat):Int):=by rw [e];simp
    rw [count_hit (i:=i) ho hi,Nat.add_comm] at hk
    subst hk
    rw [replaceK_hit old new _ _ (i+1) e',replaceK_hit old new _ _ i hi]
    have:(b::l).drop (i+1+old.length)=l.drop (i+old.length):=by rw [show i+1+old.length=(i+old.length)+1 by omega,List.drop_succ_cons]
    rw [this,List.take_succ_cons]
    rfl
theorem repl_miss (old new:List UInt8) (b:UInt8) (l:List UInt8) (hn:old ≠ new) (ho:old ≠ []) (h:old.isPrefixOf (b::l)=false):replaceAll (b::l) old new=b::replaceAll l old new:=by
  rw [repl_eq _ _ _ hn,repl_eq _ _ _ hn,count_miss1 b l old ho h,replK_miss old new b l ho h _ rfl]
theorem repl_one (c:UInt8) (new:List UInt8) (h:[c] ≠ new) (l:List UInt8):replaceAll l [c] new=l.flatMap fun b=>if b=c then new else [b]:=by
  induction l with
  | nil=>exact repl_nil _ _ h (by simp)
  | cons b l ih =>
    rw [List.flatMap_cons,← ih]
    by_cases hb:b=c
    · subst hb
      rw [if_pos rfl]
      exact repl_hit [b] new l h (by simp)
    · rw [if_neg hb]
      exact repl_miss [c] new b l h (by simp) (by simp [List.isPrefixOf];exact fun e=>hb e.symm)
def rep2 (a b:UInt8) (c:UInt8):List UInt8→List UInt8
  | x::y::l=>if x=a∧y=b then c::rep2 a b c l else x::rep2 a b c (y::l)
  | l=>l
theorem repl_two (a b c:UInt8) (l:List UInt8):∀ n,l.length≤n→replaceAll l [a,b] [c]=rep2 a b c l:=by
  intro n
  have hn:[a,b] ≠ [c]:=by simp
  induction n generalizing l with
  | zero=>intro h;cases l with
    | nil=>rw [repl_nil _ _ hn (by simp),rep2];simp
    | cons x l=>simp at h
  | succ n ih =>
    intro h
    match l with
    | []=>rw [repl_nil _ _ hn (by simp),rep2];simp
    | [x] =>
      rw [repl_miss _ _ x [] hn (by simp) (by simp [List.isPrefixOf]),repl_nil _ _ hn (by simp),rep2];simp
    | x::y::l =>
      rw [rep2]
      simp at h
      by_cases hh:x=a∧y=b
      · rw [if_pos hh]
        obtain ⟨rfl,rfl⟩:=hh
        rw [← ih l (by omega)]
        exact repl_hit [x,y] [c] l hn (by simp)
      · rw [if_neg hh,← ih (y::l) (by simp;omega)]
        refine repl_miss _ _ x (y::l) hn (by simp) ?_
        simp [List.isPrefixOf]
        intro e1 e2
        exact hh ⟨e1.symm,e2.symm⟩
def spl (c:UInt8):List UInt8→List (List UInt8)
  | []=>[[]]
  | b::l=>if b=c then []::spl c l else match spl c l with | []=>[[b]] | x::m=>(b::x)::m
theorem spl_ne (c:UInt8) (l:List UInt8):spl c l ≠ []:=by
  cases l with
  | nil=>simp [spl]
  | cons b l=>rw [spl];split;simp;split <;> simp
theorem splitK_one (c:UInt8) (l:List UInt8):splitK [c] 0 (count l [c]) l=spl c l:=by
  induction l with
  | nil=>rw [count_nil1 _ (by simp)];rfl
  | cons b l ih =>
    by_cases hb:b=c
    · subst hb
      rw [spl,if_pos rfl,← ih]
      have e:=count_hit0 [b] l (by simp)
      have e0:=index_hit0 [b] l
      rw [List.singleton_append] at e e0
      rw [e,Nat.add_comm,splitK,e0]
      simp
    · rw [spl,if_neg hb,← ih]
      have hm:([c]:List UInt8).isPrefixOf (b::l)=false:=by simp [List.isPrefixOf];exact fun e=>hb e.symm
      rw [count_miss1 b l [c] (by simp) hm]
      have e:=index_miss1 b l [c] hm
      by_cases hx:index l [c] = -1
      · rw [count_miss hx];rfl
      · have hge:=index_ge l [c]
        obtain ⟨i,hi⟩:∃ i:Nat,index l [c]=i:=⟨(index l [c]).toNat,by omega⟩
        have hne:((i:Int) == -1)=false:=by rw [beq_eq_false_iff_ne];omega
        rw [hi,hne] at e
        have hne2:(((i:Int)+1) == -1)=false:=by rw [beq_eq_false_iff_ne];omega
        rw [count_hit (i:=i) (by simp) hi,Nat.add_comm,splitK,splitK,e,hi,hne]
        simp [hne2]
theorem spl_length (c:UInt8) (l:List UInt8):(spl c l).length=l.count c+1:=by
  induction l with
  | nil=>rfl
  | cons b l ih =>
    rw [spl]
    by_cases hb:b=c
    · subst hb;rw [if_pos rfl,List.length_cons,ih,List.count_cons_self]
    · rw [if_neg hb,List.count_cons_of_ne (by simpa using hb),← ih]
      split
      · rename_i e;rw [e];exact absurd e (spl_ne c l)
      · rename_i x m e;rw [e];simp
theorem spl_join (c:UInt8) (l:List UInt8):(spl c l).flatMap (fun t=>c::t)=c::l:=by
  induction l with
  | nil=>rfl
  | cons b l ih =>
    rw [spl]
    by_cases hb:b=c
    · subst hb;rw [if_pos rfl,List.flatMap_cons,ih];rfl
    · rw [if_neg hb]
      split
      · rename_i e;exact absurd e (spl_ne c l)
      · rename_i x m e
        rw [e] at ih
        rw [List.flatMap_cons] at ih ⊢
        simp at ih ⊢
        exact ih
theorem spl_none (c:UInt8) (l:List UInt8) (h:c ∉ l):spl c l=[l]:=by
  induction l with
  | nil=>rfl
  | cons b l ih =>
    simp at h
    rw [spl,if_neg (fun e=>h.1 e.symm),ih h.2]
theorem spl_cat (c:UInt8) (t l:List UInt8) (h:c ∉ t):spl c (t++c::l)=t::spl c l:=by
  induction t with
  | nil=>simp [spl]
  | cons b t ih =>
    simp at h
    rw [List.cons_append,spl,if_neg (fun e=>h.1 e.symm),ih h.2]
theorem spl_flat (c:UInt8):∀ (ts:List (List UInt8)) (t:List UInt8),(∀ x∈t::ts,c ∉ x)→spl c (t++ts.flatMap (fun x=>c::x))=t::ts:=by
  intro ts
  induction ts with
  | nil=>intro t h;simp;exact spl_none c t (h t (by simp))
  | cons u ts ih =>
    intro t h
    rw [List.flatMap_cons,List.cons_append,spl_cat c t _ (h t (by simp)),ih u (fun x hx=>h x (List.mem_cons_of_mem _ hx))]
theorem spl_mem (c:UInt8) (l:List UInt8):∀ t∈spl c l,c ∉ t:=by
  induction l with
  | nil=>intro t h;simp [spl] at h;subst h;simp
  | cons b l ih =>
    intro t h
    rw [spl] at h
    by_cases hb:b=c
    · rw [if_pos hb] at h
      rcases List.mem_cons.1 h with rfl | h
      · simp
      · exact ih t h
    · rw [if_neg hb] at h
      revert h
      split
      · rename_i e;exact absurd e (spl_ne c l)
      · rename_i x m e
        rw [e] at ih
        intro h
        rcases List.mem_cons.1 h with rfl | h
        · have:=ih x (by simp)
          simp;exact ⟨fun e=>hb e.symm,this⟩
        · exact ih t (by simp [h])
end Go.Proofs.YtapicpdfdjofaaaDoor
namespace Go.Proofs.YtapicpdfdjofaaaDoor
def bt (l:List UInt8) (k:Nat):Nat:=(l.getD k 0).toNat
theorem bt_lt (l:List UInt8) (k:Nat):bt l k<256:=(l.getD k 0).toNat_lt
theorem bt_drop (l:List UInt8) (i k:Nat):bt (l.drop i) k=bt l (i+k):=by
  simp [bt,List.getD,List.getElem?_drop]
theorem bt_append_left {a b:List UInt8} {k:Nat} (h:k<a.length):bt (a++b) k=bt a k:=by
  simp [bt,List.getD,List.getElem?_append_left h]
def decL (l:List UInt8):Nat × Nat:=Lib.decodeN l.length (bt l 0) (bt l 1) (bt l 2) (bt l 3)
def runeL (l:List UInt8):Int × Nat:=if decL l=(65533,1) then (-1,1) else (((decL l).1:Int),(decL l).2)
theorem get!_list (s:ByteArray) (k:Nat):s.get! k=s.data.toList.getD k 0:=by
  cases s with
  | mk d =>
    by_cases h:k<d.size
    · simp [ByteArray.get!,List.getD,h,getElem!_pos]
    · simp [ByteArray.get!,List.getD,h,getElem!_neg];rfl
theorem decode_list (s:ByteArray) (i:Nat):Utf8.decode s i=decL (s.data.toList.drop i):=by
  have e:∀ k,(s.get! (i+k)).toNat=bt (s.data.toList.drop i) k:=fun k=>by rw [bt_drop];simp [bt,get!_list]
  have e0:=e 0
  rw [Nat.add_zero] at e0
  rw [Lib.decode_at,decL,e0,e 1,e 2,e 3]
  congr 1
  simp
def okR (r:Int):Bool:=Utf8.valid r
theorem okR_iff {r:Int}:okR r=true ↔ (0≤r∧r<55296)∨(57344≤r∧r≤1114111):=by
  simp [okR,Utf8.valid]
def encN (r:Nat):List Nat :=
  if r<128 then [r]
  else if r<2048 then [192+r / 64,128+r % 64]
  else if r<65536 then [224+r / 4096,128+r / 64 % 64,128+r % 64]
  else [240+r / 262144,128+r / 4096 % 64,128+r / 64 % 64,128+r % 64]
def enc (r:Int):List UInt8:=(encN r.toNat).map fun x=>UInt8.ofNat x
theorem okR_nat {r:Int} (h:okR r=true):∃ n:Nat,r=n∧(n<55296∨(57344≤n∧n≤1114111)):=by
  rw [okR_iff] at h
  exact ⟨r.toNat,by omega,by omega⟩
theorem encN_lt {n:Nat} (h:n≤1114111):∀ x∈encN n,x<256:=by
  intro x hx
  unfold encN at hx
  repeat' split at hx
  all_goals simp at hx;omega
theorem encN_length (n:Nat):1≤(encN n).length∧(encN n).length≤4:=by
  unfold encN
  repeat' split
  all_goals simp
theorem enc_length (r:Int):(enc r).length=(encN r.toNat).length:=by simp [enc]
theorem enc_pos (r:Int):1≤(enc r).length:=by rw [enc_length];exact (encN_length _).1
theorem enc_ne (r:Int):enc r ≠ []:=by
  intro h;have:=enc_pos r;rw [h] at this;simp at this
theorem bt_map {xs:List Nat} {l:List UInt8} {k:Nat} (hk:k<xs.length) (hx:xs.getD k 0<256):bt (xs.map (fun x=>UInt8.ofNat x)++l) k=xs.getD k 0:=by
  rw [bt_append_left (by simpa using hk)]
  simp only [bt,List.getD,List.getElem?_map,List.getElem?_eq_getElem hk,Option.map_some,Option.getD_some] at hx ⊢
  rw [UInt8.toNat_ofNat'];omega
theorem encodeRune_enc {r:Int} (h:okR r=true):Lib.encodeRune r=enc r:=by
  obtain ⟨n,rfl,hn⟩:=okR_nat h
  unfold Lib.encodeRune enc Lib.encodeRuneZ encN
  rw [Int.toNat_natCast]
  have e:∀ x:Int,∀ y:Nat,x=y→x.toNat.toUInt8=UInt8.ofNat y:=by intro x y h;subst h;simp
  repeat' split
  all_goals first
    | (exfalso;omega)
    | (simp only [List.map_cons,List.map_nil];(repeat' apply List.cons_eq_cons.2 ⟨?_,?_⟩) <;> (first | rfl | (apply e;omega) | skip))
  all_goals first
    | (exfalso;omega)
    | (congr 1 <;> first | (apply e;omega) | (congr 1 <;> first | (apply e;omega) | (congr 1 <;> first | (apply e;omega) | (congr 1;apply e;omega))))
theorem decN_enc {n:Nat} (hn:n<55296∨(57344≤n∧n≤1114111)) {m b0 b1 b2 b3:Nat} (hm:(encN n).length≤m) (h0:b0=(encN n).getD 0 0)
    (h1:1<(encN n).length→b1=(encN n).getD 1 0) (h2:2<(encN n).length→b2=(encN n).getD 2 0) (h3:3<(encN n).length→b3=(encN n).getD 3 0) :
    Lib.decodeN m b0 b1 b2 b3=(n,(encN n).length):=by
  unfold encN at hm h0 h1 h2 h3 ⊢
  split at hm <;> rename_i c1
  · simp only [if_pos c1] at h0 ⊢
    simp at h0
    unfold Lib.decodeN
    rw [if_pos (by omega),h0];rfl
  · simp only [if_neg c1] at h0 h1 h2 h3 ⊢
    split at hm <;> rename_i c2
    · simp only [if_pos c2] at h0 h1 h2 h3 ⊢
      simp at h0 h1 hm
      unfold Lib.decodeN
      repeat' split
      all_goals first | (exfalso;omega) | (apply Prod.ext <;> simp <;> omega)
    · simp only [if_neg c2] at h0 h1 h2 h3 ⊢
      split at hm <;> rename_i c3
      · simp only [if_pos c3] at h0 h1 h2 h3 ⊢
        simp at h0 h1 h2 hm
        unfold Lib.decodeN
        repeat' split
        all_goals first | (exfalso;omega) | (apply Prod.ext <;> simp <;> omega)
      · simp only [if_neg c3] at h0 h1 h2 h3 ⊢
        simp at h0 h1 h2 h3 hm
        unfold Lib.decodeN
        repeat' split
        all_goals first | (exfalso;omega) | (apply Prod.ext <;> simp <;> omega)
theorem encN_three (n:Nat) (h:(encN n).length=1):n<128:=by
  unfold encN at h
  repeat' split at h
  all_goals simp at h
  assumption
theorem runeL_enc {r:Int} (h:okR r=true) (l:List UInt8):runeL (enc r++l)=(r,(enc r).length):=by
  obtain ⟨n,rfl,hn⟩:=okR_nat h
  have hb:∀ k,k<(encN n).length→bt (enc (n:Int)++l) k=(encN n).getD k 0:=by
    intro k hk
    unfold enc;rw [Int.toNat_natCast]
    refine bt_map hk ?_
    simp only [List.getD,List.getElem?_eq_getElem hk,Option.getD_some]
    exact encN_lt (by omega) _ (List.getElem_mem hk)
  have hp:=encN_length n
  have hl:(enc (n:Int)).length=(encN n).length:=by rw [enc_length,Int.toNat_natCast]
  have hd:decL (enc (n:Int)++l)=(n,(encN n).length):=by
    unfold decL
    exact decN_enc hn (by rw [List.length_append,hl];omega) (hb 0 (by omega)) (fun h=>hb 1 h) (fun h=>hb 2 h) (fun h=>hb 3 h)
  unfold runeL
  rw [hd,hl,if_neg]
  intro e
  have e1:=congrArg Prod.fst e
  have e2:=congrArg Prod.snd e
  simp at e1 e2
  have:=encN_three n e2
  omega
theorem decN_inv {m b0 b1 b2 b3 c k:Nat} (hm:1≤m) (l0:b0<256) (l1:b1<256) (l2:b2<256) (l3:b3<256) (h:Lib.decodeN m b0 b1 b2 b3=(c,k)) (hne:¬ ((c,k)=(65533,1))) :
    k≤m∧1≤k∧k≤4∧(c<55296∨(57344≤c∧c≤1114111))∧encN c=[b0,b1,b2,b3].take k:=by
  unfold Lib.decodeN at h
  by_cases c1:b0<128
  · rw [if_pos c1] at h
    obtain ⟨rfl,rfl⟩:=Prod.mk.injEq .. ▸ h
    refine ⟨hm,by omega,by omega,by omega,?_⟩
    unfold encN;rw [if_pos c1];rfl
  · rw [if_neg c1] at h
    by_cases c2:b0 / 32=6∧(1<m∧b1 / 64=2)
    · rw [if_pos c2] at h
      by_cases d2:b0 % 32*64+b1 % 64 ≥ 128
      · rw [if_pos d2] at h
        obtain ⟨rfl,rfl⟩:=Prod.mk.injEq .. ▸ h
        refine ⟨by omega,by omega,by omega,by omega,?_⟩
        unfold encN;rw [if_neg (by omega),if_pos (by omega)]
        simp;omega
      · rw [if_neg d2] at h;exact absurd h.symm hne
    · rw [if_neg c2] at h
      by_cases c3:b0 / 16=14∧(1<m∧b1 / 64=2)∧(2<m∧b2 / 64=2)
      · rw [if_pos c3] at h
        split at h
        · rename_i d3
          obtain ⟨rfl,rfl⟩:=Prod.mk.injEq .. ▸ h
          refine ⟨by omega,by omega,by omega,by omega,?_⟩
          unfold encN;rw [if_neg (by omega),if_neg (by omega),if_pos (by omega)]
          simp;omega
        · exact absurd h.symm hne
      · rw [if_neg c3] at h
        by_cases c4:b0 / 8=30∧(1<m∧b1 / 64=2)∧(2<m∧b2 / 64=2)∧(3<m∧b3 / 64=2)
        · rw [if_pos c4] at h
          split at h
          · rename_i d4
            obtain ⟨rfl,rfl⟩:=Prod.mk.injEq .. ▸ h
            refine ⟨by omega,by omega,by omega,by omega,?_⟩
            unfold encN;rw [if_neg (by omega),if_neg (by omega),if_neg (by omega)]
            simp;omega
          · exact absurd h.symm hne
        · rw [if_neg c4] at h;exact absurd h.symm hne
theorem take_bt (l:List UInt8) (k:Nat) (h:k≤l.length):l.take k=((List.range k).map (bt l)).map fun x=>UInt8.ofNat x:=by
  apply List.ext_getElem
  · simp;omega
  · intro i h1 h2
    simp at h1
    simp [bt,List.getD,List.getElem?_eq_getElem (show i<l.length by omega)]
theorem decL_width (l:List UInt8) (h:l ≠ []):1≤(decL l).2∧(decL l).2≤l.length:=by
  have hm:1≤l.length:=by cases l;exact absurd rfl h;simp
  by_cases e:decL l=(65533,1)
  · rw [e];exact ⟨by simp,hm⟩
  · have:=decN_inv (c:=(decL l).1) (k:=(decL l).2) hm (bt_lt l 0) (bt_lt l 1) (bt_lt l 2) (bt_lt l 3) rfl e
    omega
theorem runeL_width (l:List UInt8) (h:l ≠ []):1≤(runeL l).2∧(runeL l).2≤l.length:=by
  have:=decL_width l h
  unfold runeL;split
  · exact ⟨by simp,by cases l;exact absurd rfl h;simp⟩
  · exact this
theorem runeL_inv (l:List UInt8) (h:l ≠ []) (hr:0≤(runeL l).1):okR (runeL l).1=true∧enc (runeL l).1=l.take (runeL l).2∧(runeL l).2=(decL l).2∧(runeL l).1=(decL l).1:=by
  have hm:1≤l.length:=by cases l;exact absurd rfl h;simp
  unfold runeL at hr ⊢
  split
  · rename_i e;rw [if_pos e] at hr;simp at hr
  · rename_i e
    obtain ⟨a1,a2,a3,a4,a5⟩:=decN_inv (c:=(decL l).1) (k:=(decL l).2) hm (bt_lt l 0) (bt_lt l 1) (bt_lt l 2) (bt_lt l 3) rfl e
    refine ⟨okR_iff.2 (by omega),?_,rfl,rfl⟩
    unfold enc
    rw [Int.toNat_natCast,a5,take_bt l _ a1]
    congr 1
    generalize (decL l).2=k at *
    have hk:k=1∨k=2∨k=3∨k=4:=by omega
    rcases hk with rfl | rfl | rfl | rfl <;> rfl
def runesF:Nat→List UInt8→List Int
  | 0,_=>[]
  | f+1,l=>if l=[] then [] else (runeL l).1::runesF f (l.drop (runeL l).2)
def runesL (l:List UInt8):List Int:=runesF l.length l
theorem runesF_nil (f:Nat):runesF f []=[]:=by cases f <;> simp [runesF]
theorem runesF_eq : ∀ (f g : Nat) (l : List UInt8), l.length ≤ f → l.length ≤ g → runesF f l = runesF g l := by
  intro f
  induction f with
  | zero => intro g l h _; have : l = [] := List.eq_nil_of_length_eq_zero (by omega)
            rw [this, runesF_nil, runesF_nil]
  | succ f ih =>
    intro g l h k
    cases g with
    | zero => have : l = [] := List.eq_nil_of_length_eq_zero (by omega)
              rw [this, runesF_nil, runesF_nil]
    | succ g =>
      by_cases hl : l = []
      · rw [hl, runesF_nil, runesF_nil]
      · have hw := runeL_width l hl
        simp only [runesF, if_neg hl]
        rw [ih g _ (by rw [List.length_drop]; omega) (by rw [List.length_drop]; omega)]
theorem runesL_nil:runesL []=[]:=rfl
theorem runesL_cons {l:List UInt8} (h:l ≠ []):runesL l=(runeL l).1::runesL (l.drop (runeL l).2):=by
  have hw:=runeL_width l h
  unfold runesL
  have hm:l.length=(l.length - 1)+1:=by omega
  rw [hm,runesF,if_neg h,runesF_eq _ (l.drop (runeL l).2).length _ (by rw [List.length_drop];omega) (Nat.le_refl _)]
def validL (l:List UInt8):Bool:=(runesL l).all fun r=>decide (0≤r)
def joinL (rs:List Int):List UInt8:=rs.flatMap enc
def okAll (rs:List Int):Bool:=rs.all okR
theorem joinL_cons (r:Int) (rs:List Int):joinL (r::rs)=enc r++joinL rs:=rfl
theorem joinL_append (a b:List Int):joinL (a++b)=joinL a++joinL b:=by simp [joinL]
theorem runesL_enc {r:Int} (h:okR r=true) (l:List UInt8):runesL (enc r++l)=r::runesL l:=by
  have he:=runeL_enc h l
  rw [runesL_cons (by simp [enc_ne]),he]
  simp
theorem okR_pos {r:Int} (h:okR r=true):0≤r:=by rw [okR_iff] at h;omega
theorem runes_join:∀ (rs:List Int) (l:List UInt8),okAll rs=true→runesL (joinL rs++l)=rs++runesL l:=by
  intro rs
  induction rs with
  | nil=>intro l _;rfl
  | cons r rs ih =>
    intro l h
    simp only [okAll,List.all_cons,Bool.and_eq_true] at h
    rw [joinL_cons,List.append_assoc,runesL_enc h.1,ih l h.2];rfl
theorem runes_join_nil {rs:List Int} (h:okAll rs=true):runesL (joinL rs)=rs:=by
  have:=runes_join rs [] h
  simpa [runesL_nil] using this
theorem valid_join {rs:List Int} (h:okAll rs=true):validL (joinL rs)=true:=by
  unfold validL;rw [runes_join_nil h,List.all_eq_true]
  intro r hr
  have:=okR_pos (List.all_eq_true.1 h r hr)
  simpa using this
theorem valid_cons {l:List UInt8} (h:l ≠ []):validL l=(decide (0≤(runeL l).1) && validL (l.drop (runeL l).2)):=by
  unfold validL;rw [runesL_cons h];rfl
theorem join_runesF : ∀ (m : Nat) (l : List UInt8), l.length ≤ m → validL l = true → okAll (runesL l) = true ∧ joinL (runesL l) = l := by
  intro m
  induction m with
  | zero => intro l h _; have : l = [] := List.eq_nil_of_length_eq_zero (by omega)
            rw [this]; exact ⟨rfl, rfl⟩
  | succ m ih =>
    intro l h hv
    by_cases hl : l = []
    · rw [hl]; exact ⟨rfl, rfl⟩
    · have hw := runeL_width l hl
      rw [valid_cons hl, Bool.and_eq_true, decide_eq_true_eq] at hv
      obtain ⟨h1, h2, _, _⟩ := runeL_inv l hl hv.1
      obtain ⟨i1, i2⟩ := ih (l.drop (runeL l).2) (by rw [List.length_drop]; omega) hv.2
      rw [runesL_cons hl]
      refine ⟨by simp only [okAll, List.all_cons, Bool.and_eq_true]; exact ⟨h1, i1⟩, ?_⟩
      rw [joinL_cons, h2, i2, List.take_append_drop]
theorem join_runes {l:List UInt8} (h:validL l=true):okAll (runesL l)=true∧joinL (runesL l)=l:=join_runesF _ l (Nat.le_refl _) h
theorem okAll_append {a b:List Int} (ha:okAll a=true) (hb:okAll b=true):okAll (a++b)=true:=by simp [okAll] at ha hb ⊢;exact ⟨ha,hb⟩
theorem valid_append {a b:List UInt8} (ha:validL a=true) (hb:validL b=true):validL (a++b)=true∧runesL (a++b)=runesL a++runesL b:=by
  obtain ⟨a1,a2⟩:=join_runes ha
  obtain ⟨b1,b2⟩:=join_runes hb
  have e:a++b=joinL (runesL a++runesL b):=by rw [joinL_append,a2,b2]
  constructor
  · rw [e];exact valid_join (okAll_append a1 b1)
  · conv=>lhs;rw [e]
    exact runes_join_nil (okAll_append a1 b1)
end Go.Proofs.YtapicpdfdjofaaaDoor
namespace Go.Proofs.YtapicpdfdjofaaaDoor
open Go.Lib
def escL (l:List UInt8):List UInt8:=l.flatMap fun b=>if b=126 then [126,48] else if b=47 then [126,49] else [b]
def plainL (l:List UInt8):List UInt8:=rep2 126 48 126 (rep2 126 49 47 l)
theorem esc_eq (l:List UInt8):replaceAll (replaceAll l [126] [126,48]) [47] [126,49]=escL l:=by
  rw [repl_one _ _ (by decide),repl_one _ _ (by decide),List.flatMap_assoc]
  unfold escL
  congr 1
  funext b
  by_cases h:b=126
  · subst h;decide
  · by_cases h2:b=47
    · subst h2;decide
    · rw [if_neg h,if_neg h];simp [h2]
theorem plain_eq (l:List UInt8):replaceAll (replaceAll l [126,49] [47]) [126,48] [126]=plainL l:=by
  rw [repl_two _ _ _ _ _ (Nat.le_refl _),repl_two _ _ _ _ _ (Nat.le_refl _)];rfl
def tilW:Bool→List UInt8→Bool
  | w,[]=>!w
  | w,b::l=>if b=48∨b=49 then tilW false l else if w then false else tilW (decide (b=126)) l
theorem tilW_tilde (l:List UInt8):tilW false (126::l)=tilW true l:=by rw [tilW,if_neg (by decide)];simp
theorem tilW_other (b:UInt8) (l:List UInt8) (h:b ≠ 126):tilW false (b::l)=tilW false l:=by
  rw [tilW];split;rfl;simp [h]
theorem tilW_true {l:List UInt8} (h:tilW true l=true):∃ b r,l=b::r∧(b=48∨b=49)∧tilW false r=true:=by
  cases l with
  | nil=>simp [tilW] at h
  | cons b r =>
    rw [tilW] at h
    by_cases hb:b=48∨b=49
    · rw [if_pos hb] at h;exact ⟨b,r,rfl,hb,h⟩
    · rw [if_neg hb] at h;simp at h
def unL:List UInt8→List UInt8
  | a::b::l=>if a=126 then (if b=49 then 47::unL l else if b=48 then 126::unL l else a::unL (b::l)) else a::unL (b::l)
  | l=>l
theorem rep2_cons (a b c x:UInt8) (l:List UInt8) (h:x ≠ a):rep2 a b c (x::l)=x::rep2 a b c l:=by
  cases l with
  | nil=>simp [rep2]
  | cons y l=>rw [rep2,if_neg (fun e=>h e.1)]
theorem rep2_skip (a b c y:UInt8) (l:List UInt8) (h:y ≠ b) (h2:y ≠ a):rep2 a b c (a::y::l)=a::y::rep2 a b c l:=by
  rw [rep2,if_neg (fun e=>h e.2),rep2_cons a b c y l h2]
theorem plain_un:∀ (n:Nat) (l:List UInt8),l.length≤n→tilW false l=true→plainL l=unL l:=by
  intro n
  induction n with
  | zero=>intro l h ht;cases l with
    | nil=>rfl
    | cons x l=>simp at h
  | succ n ih =>
    intro l h ht
    match l with
    | []=>rfl
    | [x]=>unfold plainL;rw [show rep2 126 49 47 [x]=[x] by rw [rep2];simp,show rep2 126 48 126 [x]=[x] by rw [rep2];simp,unL];simp
    | x::y::l =>
      simp at h
      by_cases hx:x=126
      · subst hx
        rw [tilW_tilde] at ht
        obtain ⟨b,r,e,hb,hr⟩:=tilW_true ht
        simp at e
        obtain ⟨rfl,rfl⟩:=e
        have ih':=ih l (by omega) hr
        rcases hb with rfl | rfl
        · rw [unL,if_pos rfl,if_neg (by decide),if_pos rfl,← ih']
          unfold plainL
          rw [rep2_skip _ _ _ _ _ (by decide) (by decide),rep2,if_pos ⟨rfl,rfl⟩]
        · rw [unL,if_pos rfl,if_pos rfl,← ih']
          unfold plainL
          rw [rep2,if_pos ⟨rfl,rfl⟩,rep2_cons _ _ _ _ _ (by decide)]
      · rw [tilW_other x _ hx] at ht
        rw [unL,if_neg hx,← ih (y::l) (by simp;omega) ht]
        unfold plainL
        rw [rep2_cons _ _ _ _ _ hx,rep2_cons _ _ _ _ _ hx]
theorem esc_cons (b:UInt8) (l:List UInt8):escL (b::l)=(if b=126 then [126,48] else if b=47 then [126,49] else [b])++escL l:=by unfold escL;rw [List.flatMap_cons]
theorem esc_nil:escL []=[]:=rfl
theorem esc_append (a b:List UInt8):escL (a++b)=escL a++escL b:=by simp [escL]
theorem unL_cons (x:UInt8) (l:List UInt8) (h:x ≠ 126):unL (x::l)=x::unL l:=by
  cases l with
  | nil=>rw [unL,unL] <;> simp
  | cons y l=>rw [unL,if_neg h]
theorem un_esc (l:List UInt8):unL (escL l)=l:=by
  induction l with
  | nil=>rfl
  | cons b l ih =>
    rw [esc_cons]
    by_cases h:b=126
    · subst h;simp [unL,ih]
    · by_cases h2:b=47
      · subst h2;simp [unL,ih]
      · simp [h,h2]
        rw [unL_cons _ _ h,ih]
theorem til_esc (l r:List UInt8):tilW false (escL l++r)=tilW false r:=by
  induction l with
  | nil=>rfl
  | cons b l ih =>
    rw [esc_cons]
    by_cases h:b=126
    · subst h;simp [tilW,ih]
    · by_cases h2:b=47
      · subst h2;simp [tilW,ih]
      · simp [h,h2]
        rw [tilW_other _ _ h,ih]
theorem plain_esc (l:List UInt8):plainL (escL l)=l:=by
  have h:tilW false (escL l)=true:=by have:=til_esc l [];rw [List.append_nil] at this;rw [this];rfl
  rw [plain_un _ _ (Nat.le_refl _) h,un_esc]
theorem esc_un:∀ (n:Nat) (l:List UInt8),l.length≤n→tilW false l=true→(47:UInt8) ∉ l→escL (unL l)=l:=by
  intro n
  induction n with
  | zero=>intro l h ht hs;cases l with
    | nil=>rfl
    | cons x l=>simp at h
  | succ n ih =>
    intro l h ht hs
    match l with
    | []=>rfl
    | [x] =>
      simp at hs
      by_cases hx:x=126
      · subst hx;simp [tilW] at ht
      · rw [unL_cons _ _ hx,unL]
        · rw [esc_cons,if_neg hx,if_neg (fun e=>hs e.symm),esc_nil];rfl
        · simp
    | x::y::l =>
      simp at h hs
      by_cases hx:x=126
      · subst hx
        rw [tilW_tilde] at ht
        obtain ⟨b,r,e,hb,hr⟩:=tilW_true ht
        simp at e
        obtain ⟨rfl,rfl⟩:=e
        have ih':=ih l (by omega) hr (fun e=>by simp [e] at hs)
        rcases hb with rfl | rfl
        · rw [unL,if_pos rfl,if_neg (by decide),if_pos rfl,esc_cons,ih'];simp
        · rw [unL,if_pos rfl,if_pos rfl,esc_cons,ih'];simp
      · rw [tilW_other x _ hx] at ht
        rw [unL_cons _ _ hx,esc_cons,ih (y::l) (by simp;omega) ht (by simp;exact ⟨hs.2.1,hs.2.2⟩),if_neg hx,if_neg (fun e=>hs.1 e.symm)]
        rfl
theorem esc_plain {l:List UInt8} (ht:tilW false l=true) (hs:(47:UInt8) ∉ l):escL (plainL l)=l:=by
  rw [plain_un _ _ (Nat.le_refl _) ht,esc_un _ _ (Nat.le_refl _) ht hs]
theorem esc_no (l:List UInt8):(47:UInt8) ∉ escL l:=by
  induction l with
  | nil=>simp [escL]
  | cons b l ih =>
    rw [esc_cons]
    by_cases h:b=126
    · subst h;simp [ih]
    · by_cases h2:b=47
      · subst h2;simp [ih]
      · simp [h,h2,ih];exact fun e=>h2 e.symm
def textP (p:List (List UInt8)):List UInt8:=p.flatMap fun t=>47::escL t
theorem textP_nil:textP []=[]:=rfl
theorem textP_cons (t:List UInt8) (p:List (List UInt8)):textP (t::p)=47::(escL t++textP p):=by unfold textP;rw [List.flatMap_cons];rfl
theorem textP_append (p q:List (List UInt8)):textP (p++q)=textP p++textP q:=by simp [textP]
theorem textP_map (p:List (List UInt8)):textP p=(p.map escL).flatMap (fun t=>47::t):=by rw [List.flatMap_map];rfl
def parsePt (s:List UInt8):List (List UInt8) ⊕ Int :=
  match s with
  | []=>.inl []
  | b::l=>if b ≠ 47∨validL s=false∨tilW false s=false then .inr 2 else if 63<s.count 47 then .inr 4 else .inl ((spl 47 l).map plainL)
theorem til_text (p:List (List UInt8)):∀ r,tilW false (textP p++r)=tilW false r:=by
  induction p with
  | nil=>intro r;rfl
  | cons t p ih =>
    intro r
    rw [textP_cons,List.cons_append,tilW_other _ _ (by decide),List.append_assoc,til_esc,ih]
theorem count_esc (l:List UInt8):(escL l).count 47=0:=List.count_eq_zero.2 (esc_no l)
theorem count_text (p:List (List UInt8)):(textP p).count 47=p.length:=by
  induction p with
  | nil=>rfl
  | cons t p ih=>rw [textP_cons,List.count_cons_self,List.count_append,count_esc,ih,List.length_cons];omega
theorem spl_text (t:List UInt8) (p:List (List UInt8)):(spl 47 (escL t++textP p)).map plainL=t::p:=by
  rw [textP_map,spl_flat 47 (p.map escL) (escL t) (by intro x hx;rw [← List.map_cons] at hx;obtain ⟨y,_,rfl⟩:=List.mem_map.1 hx;exact esc_no y),← List.map_cons,List.map_map]
  have:(plainL ∘ escL)=id:=by funext l;exact plain_esc l
  rw [this,List.map_id]
theorem parse_text_p {p:List (List UInt8)} (hv:validL (textP p)=true) (hl:p.length≤63):parsePt (textP p)=.inl p:=by
  cases p with
  | nil=>rfl
  | cons t p =>
    have ht:tilW false (textP (t::p))=true:=by have:=til_text (t::p) [];rw [List.append_nil] at this;rw [this];rfl
    have hc:=count_text (t::p)
    rw [textP_cons] at hv ht hc ⊢
    unfold parsePt
    simp only
    rw [if_neg (by simp [hv,ht]),if_neg (by rw [hc];omega),spl_text]
theorem tilW_split:∀ (ts:List (List UInt8)) (t:List UInt8) (w:Bool),tilW w (t++ts.flatMap (fun x=>47::x))=true→tilW w t=true∧∀ x∈ts,tilW false x=true:=by
  intro ts
  induction ts with
  | nil=>intro t w h;simp at h;exact ⟨h,by simp⟩
  | cons u ts ih =>
    intro t
    induction t with
    | nil =>
      intro w h
      rw [List.flatMap_cons,List.nil_append,List.cons_append,tilW,if_neg (by decide)] at h
      cases w with
      | true=>simp at h
      | false =>
        simp at h
        have:=ih u false (by simpa using h)
        refine ⟨rfl,fun x hx=>?_⟩
        rcases List.mem_cons.1 hx with rfl | hx
        · exact this.1
        · exact this.2 x hx
    | cons b t iht =>
      intro w h
      rw [List.cons_append,tilW] at h
      rw [tilW]
      by_cases hb:b=48∨b=49
      · rw [if_pos hb] at h ⊢;exact iht _ h
      · rw [if_neg hb] at h ⊢
        cases w with
        | true=>simp at h
        | false=>rw [if_neg (by decide)] at h ⊢;exact iht _ h
theorem text_parse_p {s:List UInt8} {p:List (List UInt8)} (h:parsePt s=.inl p):textP p=s:=by
  unfold parsePt at h
  cases s with
  | nil=>simp at h;subst h;rfl
  | cons b l =>
    simp only at h
    split at h
    · cases h
    · rename_i hn
      split at h
      · cases h
      · have h1:b=47:=by apply Classical.byContradiction;intro e;exact hn (.inl e)
        have h3:tilW false (b::l)=true:=by cases e:tilW false (b::l);exact absurd (.inr (.inr e)) hn;rfl
        subst h1
        rw [tilW_other _ _ (by decide)] at h3
        simp at h
        subst h
        have hj:=spl_join 47 l
        obtain ⟨t,ts,e⟩:∃ t ts,spl 47 l=t::ts:=by cases e:spl 47 l with
          | nil=>exact absurd e (spl_ne 47 l)
          | cons t ts=>exact ⟨t,ts,rfl⟩
        have hm:=spl_mem 47 l
        rw [e] at hj hm ⊢
        rw [List.flatMap_cons,List.cons_append] at hj
        simp at hj
        rw [← hj] at h3
        obtain ⟨g1,g2⟩:=tilW_split ts t false h3
        rw [textP_map,List.map_map]
        have:(t::ts).map (escL ∘ plainL)=t::ts:=by
          conv=>rhs;rw [← List.map_id (t::ts)]
          refine List.map_congr_left fun x hx=>?_
          refine esc_plain ?_ (hm x hx)
          rcases List.mem_cons.1 hx with rfl | hx
          · exact g1
          · exact g2 x hx
        rw [this,List.flatMap_cons,List.cons_append,hj]
theorem parse_errs {s:List UInt8} {x:Int} (h:parsePt s=.inr x):x=2∨x=4:=by
  unfold parsePt at h
  split at h
  · cases h
  · split at h
    · simp at h;exact .inl h.symm
    · split at h
      · simp at h;exact .inr h.symm
      · cases h
def escR (r:Int):List Int:=if r=126 then [126,48] else if r=47 then [126,49] else [r]
theorem esc_enc {r:Int} (h:okR r=true):escL (enc r)=joinL (escR r)∧okAll (escR r)=true:=by
  unfold escR
  by_cases h1:r=126
  · subst h1;exact ⟨by decide,by decide⟩
  · by_cases h2:r=47
    · subst h2;exact ⟨by decide,by decide⟩
    · rw [if_neg h1,if_neg h2]
      refine ⟨?_,by simp [okAll,h]⟩
      have:∀ b∈enc r,b ≠ 126∧b ≠ 47:=by
        intro b hb
        obtain ⟨n,rfl,hn⟩:=okR_nat h
        unfold enc at hb
        obtain ⟨x,hx,rfl⟩:=List.mem_map.1 hb
        simp only [Int.toNat_natCast] at hx
        have hx2:x<256∧(x=n∨128≤x):=by
          refine ⟨encN_lt (by omega) x hx,?_⟩
          unfold encN at hx
          split at hx
          · simp at hx;exact .inl hx
          · split at hx
            · simp at hx;omega
            · split at hx
              iterate 2
                · simp at hx;omega
        constructor
        iterate 2
          · intro e
            have:=congrArg UInt8.toNat e
            simp at this
            omega
      have e:escL (enc r)=enc r:=by
        unfold escL
        clear h1 h2 h
        generalize enc r=l at this ⊢
        induction l with
        | nil=>rfl
        | cons b l ih=>rw [List.flatMap_cons,ih (fun x hx=>this x (by simp [hx])),if_neg (this b (by simp)).1,if_neg (this b (by simp)).2];rfl
      rw [e];simp [joinL]
theorem esc_join:∀ rs:List Int,okAll rs=true→escL (joinL rs)=joinL (rs.flatMap escR)∧okAll (rs.flatMap escR)=true:=by
  intro rs
  induction rs with
  | nil=>intro _;exact ⟨rfl,rfl⟩
  | cons r rs ih =>
    intro h
    simp [okAll] at h
    have h1:=esc_enc h.1
    have h2:=ih (by simp [okAll];exact h.2)
    rw [joinL_cons,esc_append,List.flatMap_cons,joinL_append,h1.1,h2.1]
    exact ⟨rfl,okAll_append h1.2 h2.2⟩
theorem valid_esc {l:List UInt8} (h:validL l=true):validL (escL l)=true:=by
  obtain ⟨h1,h2⟩:=join_runes h
  obtain ⟨e1,e2⟩:=esc_join _ h1
  rw [h2] at e1
  rw [e1];exact valid_join e2
theorem valid_sign:validL [47]=true:=by decide +kernel
theorem valid_text {p:List (List UInt8)} (h:∀ t∈p,validL t=true):validL (textP p)=true:=by
  induction p with
  | nil=>rfl
  | cons t p ih =>
    rw [textP_cons]
    exact (valid_append (a:=[47]) valid_sign (valid_append (valid_esc (h t (by simp))) (ih (fun x hx=>h x (by simp [hx])))).1).1
end Go.Proofs.YtapicpdfdjofaaaDoor
namespace Go.Proofs.YtapicpdfdjofaaaDoor
open Go.RowKit
theorem tilW_at (w:Bool) (l:List UInt8) (k:Nat) (hk:k<l.length):tilW w (l.drop k)=if l.getD k 0=48∨l.getD k 0=49 then tilW false (l.drop (k+1)) else if w then false else tilW (decide (l.getD k 0=126)) (l.drop (k+1)):=by
  rw [List.drop_eq_getElem_cons hk,tilW]
  simp [List.getD,hk]
def TG (l:List UInt8) (n:Nat) (W:World) (g:Nat) (wv i:Value) (wr:World):Prop :=
  ∃ (k:Nat) (b:Bool),k≤n∧n - k≤g∧wv=.bool b∧i=.int .i64 (k:Int)∧tilW false l=tilW b (l.drop k)∧wr=W
theorem tildes_any (s:ByteArray) (w:World) (hs:s.size≤4000000000000) :
    Calls Tryd.prog 35 #[.string s] w fun e w'=>e=.returned (.bool (tilW false s.data.toList))∧Below w.heap.size w w':=by
  have hln:s.data.toList.length=s.size:=by rw [Array.length_toList];rfl
  have hb2:=Lib.bytesWorld_below w 5 s
  have HC:=Lib.hid (Lib.run_convert_string_bytes (P:=Tryd.prog) w 9 65 5 s (u:=.string) Tryd.underlying9 Tryd.underlying65 Tryd.underlying5)
  have HB:=Lib.hid hb2
  have hce:∀ i,(hi:i<s.size)→(Lib.bytesWorld w 5 s).cell? ⟨w.heap.size,i,none⟩=some (.int .u8 (((s.data.toList.getD i 0).toNat:Nat):Int)):=by
    intro i hi
    rw [Lib.bytesWorld_cell _ _ _ _ hi]
  have HCE:=Lib.hid hce
  have HLN:=Lib.hid hln
  clear hb2 hce hln
  generalize Lib.bytesWorld w 5 s=W3 at *
  generalize hcp:grownCap w s.size 0 5=cp at *
  have hcp':s.size≤cp:=by rw [← hcp];exact grownCap_ge _ _ _ _
  clear hcp
  generalize w.heap.size=bk at *
  generalize s.data.toList=l at *
  go_enter Tryd.func35,Tryd.ntmps35
  go_wp2_with fail
  go_step3
  go_wp2_with fail
  go_step3
  go_wp2_with fail
  rw [HC.out]
  simp only [Result.andThen]
  rw [Oper.upon_value]
  go_wp2
  go_loopg [3,9] s.size (fun g wv i wr=>TG l s.size W3 g wv i wr)
  case atStart=>exact ⟨0,false,by omega,by omega,rfl,rfl,by simp,rfl⟩
  case round =>
    obtain ⟨k,b,hk,hg,rfl,rfl,ht,rfl⟩:=hrel
    by_cases hlt:k<s.size
    · obtain ⟨g,rfl⟩:∃ g,gk=g+1:=⟨gk - 1,by omega⟩
      have hkz:(k:Int)<(s.size:Int):=by omega
      have hc:=HCE.out k hlt
      have hkl:k<l.length:=by rw [HLN.out];exact hlt
      rw [tilW_at b l k hkl] at ht
      have hlt2:=(l.getD k 0).toNat_lt
      by_cases h8:l.getD k 0=48
      · rw [h8] at hc ht
        rw [if_pos (.inl rfl)] at ht
        have HN:=Lib.hid (show TG l s.size wr g (.bool false) (.int .i64 ((k:Int)+1)) wr from ⟨k+1,false,by omega,by omega,rfl,by simp,ht,rfl⟩)
        have hc1:wr.cell? ⟨bk,k,none⟩=some (.int .u8 48):=hc
        clear hc ht
        go_wp2
        go_roundg g
        case rel=>exact HN.out
        case measure=>omega
      · by_cases h9:l.getD k 0=49
        · rw [h9] at hc ht
          rw [if_pos (.inr rfl)] at ht
          have HN:=Lib.hid (show TG l s.size wr g (.bool false) (.int .i64 ((k:Int)+1)) wr from ⟨k+1,false,by omega,by omega,rfl,by simp,ht,rfl⟩)
          have hc1:wr.cell? ⟨bk,k,none⟩=some (.int .u8 49):=hc
          clear hc ht
          go_wp2
          go_roundg g
          case rel=>exact HN.out
          case measure=>omega
        · have h8n:(((l.getD k 0).toNat:Nat):Int) ≠ 48:=fun e=>h8 (by apply UInt8.toNat_inj.1;rw [show (48:UInt8).toNat=48 from rfl];omega)
          have h9n:(((l.getD k 0).toNat:Nat):Int) ≠ 49:=fun e=>h9 (by apply UInt8.toNat_inj.1;rw [show (49:UInt8).toNat=49 from rfl];omega)
          rw [if_neg (by rintro (h | h);exact h8 h;exact h9 h)] at ht
          cases b with
          | true =>
            rw [if_pos rfl] at ht
            have HF:=Lib.hid ht
            generalize (l.getD k 0).toNat=x at *
            clear ht
            go_wp2
            rw [Exit.noGoto_ret]
            go_ret
            exact ⟨by rw [HF.out];rfl,HB.out⟩
          | false =>
            rw [if_neg (by decide)] at ht
            have h6:(((l.getD k 0).toNat:Nat):Int)=126 ↔ l.getD k 0=126:=by
              constructor
              · intro e;apply UInt8.toNat_inj.1;rw [show (126:UInt8).toNat=126 from rfl];omega
              · intro e;rw [e];rfl
            by_cases h7:l.getD k 0=126
            · rw [decide_eq_true h7] at ht
              have HN:=Lib.hid (show TG l s.size wr g (.bool true) (.int .i64 ((k:Int)+1)) wr from ⟨k+1,true,by omega,by omega,rfl,by simp,ht,rfl⟩)
              have h7z:=h6.2 h7
              generalize (l.getD k 0).toNat=x at *
              clear ht h6
              have hx:x=126:=by omega
              subst hx
              clear h7 h7z h8n h9n
              go_wp2
              go_roundg g
              case rel=>exact HN.out
              case measure=>omega
            · rw [decide_eq_false h7] at ht
              have HN:=Lib.hid (show TG l s.size wr g (.bool false) (.int .i64 ((k:Int)+1)) wr from ⟨k+1,false,by omega,by omega,rfl,by simp,ht,rfl⟩)
              have h7z:¬ (((l.getD k 0).toNat:Nat):Int)=126:=fun e=>h7 (h6.1 e)
              generalize (l.getD k 0).toNat=x at *
              clear ht h6
              have h7b:((x:Int) == 126)=false:=beq_eq_false_iff_ne.2 h7z
              go_wp2
              go_roundg g
              case rel=>exact HN.out
              case measure=>omega
    · obtain rfl:k=s.size:=by omega
      have hkz:¬ (s.size:Int)<(s.size:Int):=by omega
      have he:l.drop s.size=[]:=List.drop_eq_nil_of_le (by rw [HLN.out];exact Nat.le_refl _)
      rw [he,tilW] at ht
      have HF:=Lib.hid ht
      clear ht he
      go_wp2
      go_ret
      exact ⟨by rw [HF.out];rfl,HB.out⟩
theorem str_nil (s:ByteArray) (h:s.size=0):s=⟨#[]⟩:=by
  obtain ⟨⟨l⟩⟩:=s
  cases l with
  | nil=>rfl
  | cons a l=>simp [ByteArray.size] at h
theorem str_ne (s:ByteArray) (h:s.size ≠ 0):s.toList.isEmpty=false:=by
  have:=Lib.size_eq s
  rw [Lib.toList_data]
  cases e:s.data.toList with
  | nil=>rw [e] at this;exact absurd this h
  | cons a l=>rfl
end Go.Proofs.YtapicpdfdjofaaaDoor
namespace Go.Proofs.YtapicpdfdjofaaaDoor
open Go.Shelf Go.RowKit
def lays166_ren:Go.Shelf.Ren:=⟨fun | 166=>42 | 240=>61 | 276=>76 | n=>n,fun | 0=>0 | 3=>3 | 4=>4 | 5=>5 | 9=>9 | 20=>20 | 37=>65 | 70=>66 | 72=>68 | 75=>70 | 80=>75 | 164=>105 | n=>n,fun | n=>n⟩
theorem lays166:Go.Proofs.Lays.n166 Tryd.prog lays166_ren:={
  mixed:=by kernel_rfl
  f166:=Tryd.func42.trans (congrArg some (by kernel_rfl))
  f240:=Tryd.func61.trans (congrArg some (by kernel_rfl))
  f276:=Tryd.func76.trans (congrArg some (by kernel_rfl))
  t0:=Tryd.underlying0
  a0:=Tryd.isAgg0
  z0:=Tryd.sizeOf0
  v0:=Tryd.zeroValue0
  t3:=Tryd.underlying3
  a3:=Tryd.isAgg3
  z3:=Tryd.sizeOf3
  v3:=Tryd.zeroValue3
  t4:=Tryd.underlying4
  a4:=Tryd.isAgg4
  z4:=Tryd.sizeOf4
  v4:=Tryd.zeroValue4
  t9:=Tryd.underlying9
  a9:=Tryd.isAgg9
  z9:=Tryd.sizeOf9
  v9:=Tryd.zeroValue9
  t20:=Tryd.underlying20
  a20:=Tryd.isAgg20
  z20:=Tryd.sizeOf20
  v20:=Tryd.zeroValue20
  t37:=Tryd.underlying65
  a37:=Tryd.isAgg65
  z37:=Tryd.sizeOf65
  v37:=Tryd.zeroValue65
  t70:=Tryd.underlying66
  a70:=Tryd.isAgg66
  z70:=Tryd.sizeOf66
  v70:=Tryd.zeroValue66
  t72:=Tryd.underlying68
  a72:=Tryd.isAgg68
  z72:=Tryd.sizeOf68
  v72:=Tryd.zeroValue68
  t75:=Tryd.underlying70
  a75:=Tryd.isAgg70
  z75:=Tryd.sizeOf70
  v75:=Tryd.zeroValue70
  t164:=Tryd.underlying105
  a164:=Tryd.isAgg105
  z164:=Tryd.sizeOf105
  v164:=Tryd.zeroValue105 }
theorem extra166:Builder.Extra Tryd.prog lays166_ren:={
  sizeBuilder:=by kernel_rfl
  liesBuilder:=by kernel_rfl
  t5:=Tryd.underlying5
  a5:=Tryd.isAgg5
  z5:=Tryd.sizeOf5
  v5:=Tryd.zeroValue5
  infoByte:=by kernel_rfl
  cellsByte:=by kernel_rfl
  sizeByte:=by kernel_rfl
  neB5:=by decide }
def lays167_ren:Go.Shelf.Ren:=⟨fun | 167=>41 | 240=>61 | 276=>76 | n=>n,fun | 0=>0 | 3=>3 | 4=>4 | 5=>5 | 9=>9 | 20=>20 | 37=>65 | 70=>66 | 72=>68 | 75=>70 | 80=>75 | 164=>105 | n=>n,fun | n=>n⟩
theorem lays167:Go.Proofs.Lays.n167 Tryd.prog lays167_ren:={
  mixed:=by kernel_rfl
  f167:=Tryd.func41.trans (congrArg some (by kernel_rfl))
  f240:=Tryd.func61.trans (congrArg some (by kernel_rfl))
  f276:=Tryd.func76.trans (congrArg some (by kernel_rfl))
  t0:=Tryd.underlying0
  a0:=Tryd.isAgg0
  z0:=Tryd.sizeOf0
  v0:=Tryd.zeroValue0
  t4:=Tryd.underlying4
  a4:=Tryd.isAgg4
  z4:=Tryd.sizeOf4
  v4:=Tryd.zeroValue4
  t5:=Tryd.underlying5
  a5:=Tryd.isAgg5
  z5:=Tryd.sizeOf5
  v5:=Tryd.zeroValue5
  t9:=Tryd.underlying9
  a9:=Tryd.isAgg9
  z9:=Tryd.sizeOf9
  v9:=Tryd.zeroValue9
  t20:=Tryd.underlying20
  a20:=Tryd.isAgg20
  z20:=Tryd.sizeOf20
  v20:=Tryd.zeroValue20
  t37:=Tryd.underlying65
  a37:=Tryd.isAgg65
  z37:=Tryd.sizeOf65
  v37:=Tryd.zeroValue65
  t70:=Tryd.underlying66
  a70:=Tryd.isAgg66
  z70:=Tryd.sizeOf66
  v70:=Tryd.zeroValue66
  t72:=Tryd.underlying68
  a72:=Tryd.isAgg68
  z72:=Tryd.sizeOf68
  v72:=Tryd.zeroValue68
  t75:=Tryd.underlying70
  a75:=Tryd.isAgg70
  z75:=Tryd.sizeOf70
  v75:=Tryd.zeroValue70
  t164:=Tryd.underlying105
  a164:=Tryd.isAgg105
  z164:=Tryd.sizeOf105
  v164:=Tryd.zeroValue105 }
theorem extra167:Builder.Extra Tryd.prog lays167_ren:={
  sizeBuilder:=by kernel_rfl
  liesBuilder:=by kernel_rfl
  t5:=Tryd.underlying5
  a5:=Tryd.isAgg5
  z5:=Tryd.sizeOf5
  v5:=Tryd.zeroValue5
  infoByte:=by kernel_rfl
  cellsByte:=by kernel_rfl
  sizeByte:=by kernel_rfl
  neB5:=by decide }
theorem writeByte_k (B b:Nat) (bs:List Value) (c:Int) (w:World) (h:Lib.IsBuilderF 68 5 B b bs w) (hlen:bs.length+1≤140737488355328) (hBw:B≤w.heap.size) :
    Calls Tryd.prog 41 #[.pointer (some ⟨b,0,none⟩),.int .u8 c] w fun e w'=>e=.returned .nilIface∧(Lib.BuilderAtF 68 5 B b (.pointer (some ⟨b,0,none⟩)) (bs++[.int .u8 c]) w'∧Below B w w'∧Lib.OthersKept 5 (some b) w w') :=
  Any.Builder_WriteByte_k lays167 extra167 B b bs c w h hlen hBw
theorem writeString_k (B b:Nat) (bs:List Value) (s:ByteArray) (w:World) (h:Lib.IsBuilderF 68 5 B b bs w) (hlen:bs.length+s.size≤140737488355328) (hBw:B≤w.heap.size) :
    Calls Tryd.prog 42 #[.pointer (some ⟨b,0,none⟩),.string s] w fun e w'=>e=.returned (.tuple #[.int .i64 s.size,.nilIface])∧(Lib.BuilderAtF 68 5 B b (.pointer (some ⟨b,0,none⟩)) (bs++Lib.strCells s) w'∧Below B w w'∧Lib.OthersKept 5 (some b) w w') :=
  Any.Builder_WriteString_k lays166 extra166 B b bs s w h hlen hBw
end Go.Proofs.YtapicpdfdjofaaaDoor
