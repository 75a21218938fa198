/- Texts of the claim. -/
import Derived.Lib.RuneBytes
import Derived.Lib.RuneCount
import Derived.Lib.Hide
import Derived.WalkSpells
import Derived.WalkLawsBesides
import Derived.BigQuiet
import Derived.Lib.AtoiErrMem
import Derived.Test.YtapicpdfdjofaaaDoorShelf
set_option linter.unusedVariables false
set_option linter.unusedSimpArgs false
set_option maxHeartbeats 8000000
set_option maxRecDepth 100000
namespace Go.Proofs.YtapicpdfdjofaaaDoor
open Go.Lib
theorem index_hit0 (old l:List UInt8):index (old++l) old=0:=by
  have:occAt (old++l) old 0=true:=by
    unfold occAt;rw [List.drop_zero];exact List.isPrefixOf_iff_prefix.2 (List.prefix_append old l)
  exact index_first (i:=0) (Nat.zero_le _) this (fun j h=>absurd h (Nat.not_lt_zero j))
theorem index_miss1 (b:UInt8) (l old:List UInt8) (h:old.isPrefixOf (b::l)=false) :
    index (b::l) old=if index l old == -1 then -1 else index l old+1:=by
  conv=>lhs;unfold index
  rw [h];simp
theorem count_nil1 (old:List UInt8) (h:old ≠ []):count [] old=0:=by
  refine count_miss ?_
  unfold index
  cases old with
  | nil=>exact absurd rfl h
  | cons a t=>rfl
theorem count_hit0 (old l:List UInt8) (h:old ≠ []):count (old++l) old=1+count l old:=by
  rw [count_hit (i:=0) h (index_hit0 old l),Nat.zero_add,List.drop_left]
theorem count_miss1 (b:UInt8) (l old:List UInt8) (ho:old ≠ []) (h:old.isPrefixOf (b::l)=false):count (b::l) old=count l old:=by
  have e:=index_miss1 b l old h
  by_cases hm:index l old = -1
  · rw [hm] at e
    rw [count_miss e,count_miss hm]
  · have hge:=index_ge l old
    obtain ⟨i,hi⟩:∃ i:Nat,index l old=i:=⟨(index l old).toNat,by omega⟩
    rw [hi] at e
    have hne:((i:Int) == -1)=false:=by rw [beq_eq_false_iff_ne];omega
    rw [hne] at e
    have e':index (b::l) old=((i+1:Nat):Int):=by rw [e];simp
    rw [count_hit (i:=i+1) ho e',count_hit (i:=i) ho hi]
    have:(b::l).drop (i+1+old.length)=l.drop (i+old.length):=by rw [show i+1+old.length=(i+old.length)+1 by omega,List.drop_succ_cons]
    rw [this]
theorem repl_eq (s old new:List UInt8) (h:old ≠ new):replaceAll s old new=replaceK old new (count s old) s:=by
  unfold replaceAll replace replaceNum
  have:(old == new)=false:=beq_eq_false_iff_ne.2 h
  rw [this]
  simp
theorem repl_nil (old new:List UInt8) (h:old ≠ new) (ho:old ≠ []):replaceAll [] old new=[]:=by
  rw [repl_eq _ _ _ h,count_nil1 _ ho];rfl
theorem repl_hit (old new l:List UInt8) (h:old ≠ new) (ho:old ≠ []):replaceAll (old++l) old new=new++replaceAll l old new:=by
  rw [repl_eq _ _ _ h,repl_eq _ _ _ h,count_hit0 _ _ ho,Nat.add_comm,replaceK_hit old new _ _ 0 (index_hit0 old l)]
  simp
theorem replK_miss (old new:List UInt8) (b:UInt8) (l:List UInt8) (ho:old ≠ []) (h:old.isPrefixOf (b::l)=false):∀ k,k=count l old→replaceK old new k (b::l)=b::replaceK old new k l:=by
  intro k hk
  have e:=index_miss1 b l old h
  by_cases hm:index l old = -1
  · rw [count_miss hm] at hk
    subst hk
    simp [replaceK]
  · have hge:=index_ge l old
    obtain ⟨i,hi⟩:∃ i:Nat,index l old=i:=⟨(index l old).toNat,by omega⟩
    rw [hi] at e
    have hne:((i:Int) == -1)=false:=by rw [beq_eq_false_iff_ne];omega
    rw [hne] at e
    have e':index (b::l) old=((i+1:Nat):Int):=by rw [e];simp
    rw [count_hit (i:=i) ho hi,Nat.add_comm] at hk
    subst hk
    rw [replaceK_hit old new _ _ (i+1) e',replaceK_hit old new _ _ i hi]
    have:(b::l).drop (i+1+old.length)=l.drop (i+old.length):=by rw [show i+1+old.length=(i+old.length)+1 by omega,List.drop_succ_cons]
    rw [this,List.take_succ_cons]
    rfl
theorem repl_miss (old new:List UInt8) (b:UInt8) (l:List UInt8) (hn:old ≠ new) (ho:old ≠ []) (h:old.isPrefixOf (b::l)=false):replaceAll (b::l) old new=b::replaceAll l old new:=by
  rw [repl_eq _ _ _ hn,repl_eq _ _ _ hn,count_miss1 b l old ho h,replK_miss old new b l ho h _ rfl]
theorem repl_one (c:UInt8) (new:List UInt8) (h:[c] ≠ new) (l:List UInt8):replaceAll l [c] new=l.flatMap fun b=>if b=c then new else [b]:=by
  induction l with
  | nil=>exact repl_nil _ _ h (by simp)
  | cons b l ih =>
    rw [List.flatMap_cons,← ih]
    by_cases hb:b=c
    · subst hb
      rw [if_pos rfl]
      exact repl_hit [b] new l h (by simp)
    · rw [if_neg hb]
      exact repl_miss [c] new b l h (by simp) (by simp [List.isPrefixOf];exact fun e=>hb e.symm)
def rep2 (a b:UInt8) (c:UInt8):List UInt8→List UInt8
  | x::y::l=>if x=a∧y=b then c::rep2 a b c l else x::rep2 a b c (y::l)
  | l=>l
theorem repl_two (a b c:UInt8) (l:List UInt8):∀ n,l.length≤n→replaceAll l [a,b] [c]=rep2 a b c l:=by
  intro n
  have hn:[a,b] ≠ [c]:=by simp
  induction n generalizing l with
  | zero=>intro h;cases l with
    | nil=>rw [repl_nil _ _ hn (by simp),rep2];simp
    | cons x l=>simp at h
  | succ n ih =>
    intro h
    match l with
    | []=>rw [repl_nil _ _ hn (by simp),rep2];simp
    | [x] =>
      rw [repl_miss _ _ x [] hn (by simp) (by simp [List.isPrefixOf]),repl_nil _ _ hn (by simp),rep2];simp
    | x::y::l =>
      rw [rep2]
      simp at h
      by_cases hh:x=a∧y=b
      · rw [if_pos hh]
        obtain ⟨rfl,rfl⟩:=hh
        rw [← ih l (by omega)]
        exact repl_hit [x,y] [c] l hn (by simp)
      · rw [if_neg hh,← ih (y::l) (by simp;omega)]
        refine repl_miss _ _ x (y::l) hn (by simp) ?_
        simp [List.isPrefixOf]
        intro e1 e2
        exact hh ⟨e1.symm,e2.symm⟩
def spl (c:UInt8):List UInt8→List (List UInt8)
  | []=>[[]]
  | b::l=>if b=c then []::spl c l else match spl c l with | []=>[[b]] | x::m=>(b::x)::m
theorem spl_ne (c:UInt8) (l:List UInt8):spl c l ≠ []:=by
  cases l with
  | nil=>simp [spl]
  | cons b l=>rw [spl];split;simp;split <;> simp
theorem splitK_one (c:UInt8) (l:List UInt8):splitK [c] 0 (count l [c]) l=spl c l:=by
  induction l with
  | nil=>rw [count_nil1 _ (by simp)];rfl
  | cons b l ih =>
    by_cases hb:b=c
    · subst hb
      rw [spl,if_pos rfl,← ih]
      have e:=count_hit0 [b] l (by simp)
      have e0:=index_hit0 [b] l
      rw [List.singleton_append] at e e0
      rw [e,Nat.add_comm,splitK,e0]
      simp
    · rw [spl,if_neg hb,← ih]
      have hm:([c]:List UInt8).isPrefixOf (b::l)=false:=by simp [List.isPrefixOf];exact fun e=>hb e.symm
      rw [count_miss1 b l [c] (by simp) hm]
      have e:=index_miss1 b l [c] hm
      by_cases hx:index l [c] = -1
      · rw [count_miss hx];rfl
      · have hge:=index_ge l [c]
        obtain ⟨i,hi⟩:∃ i:Nat,index l [c]=i:=⟨(index l [c]).toNat,by omega⟩
        have hne:((i:Int) == -1)=false:=by rw [beq_eq_false_iff_ne];omega
        rw [hi,hne] at e
        have hne2:(((i:Int)+1) == -1)=false:=by rw [beq_eq_false_iff_ne];omega
        rw [count_hit (i:=i) (by simp) hi,Nat.add_comm,splitK,splitK,e,hi,hne]
        simp [hne2]
theorem spl_length (c:UInt8) (l:List UInt8):(spl c l).length=l.count c+1:=by
  induction l with
  | nil=>rfl
  | cons b l ih =>
    rw [spl]
    by_cases hb:b=c
    · subst hb;rw [if_pos rfl,List.length_cons,ih,List.count_cons_self]
    · rw [if_neg hb,List.count_cons_of_ne (by simpa using hb),← ih]
      split
      · rename_i e;rw [e];exact absurd e (spl_ne c l)
      · rename_i x m e;rw [e];simp
end Go.Proofs.YtapicpdfdjofaaaDoor
namespace Go.Proofs.YtapicpdfdjofaaaDoor
def bt (l:List UInt8) (k:Nat):Nat:=(l.getD k 0).toNat
theorem bt_lt (l:List UInt8) (k:Nat):bt l k<256:=(l.getD k 0).toNat_lt
theorem bt_drop (l:List UInt8) (i k:Nat):bt (l.drop i) k=bt l (i+k):=by
  simp [bt,List.getD,List.getElem?_drop]
def decL (l:List UInt8):Nat × Nat:=Lib.decodeN l.length (bt l 0) (bt l 1) (bt l 2) (bt l 3)
def runeL (l:List UInt8):Int × Nat:=if decL l=(65533,1) then (-1,1) else (((decL l).1:Int),(decL l).2)
theorem get!_list (s:ByteArray) (k:Nat):s.get! k=s.data.toList.getD k 0:=by
  cases s with
  | mk d =>
    by_cases h:k<d.size
    · simp [ByteArray.get!,List.getD,h,getElem!_pos]
    · simp [ByteArray.get!,List.getD,h,getElem!_neg];rfl
theorem decode_list (s:ByteArray) (i:Nat):Utf8.decode s i=decL (s.data.toList.drop i):=by
  have e:∀ k,(s.get! (i+k)).toNat=bt (s.data.toList.drop i) k:=fun k=>by rw [bt_drop];simp [bt,get!_list]
  have e0:=e 0
  rw [Nat.add_zero] at e0
  rw [Lib.decode_at,decL,e0,e 1,e 2,e 3]
  congr 1
  simp
def okR (r:Int):Bool:=Utf8.valid r
theorem okR_iff {r:Int}:okR r=true ↔ (0≤r∧r<55296)∨(57344≤r∧r≤1114111):=by
  simp [okR,Utf8.valid]
def encN (r:Nat):List Nat :=
  if r<128 then [r]
  else if r<2048 then [192+r / 64,128+r % 64]
  else if r<65536 then [224+r / 4096,128+r / 64 % 64,128+r % 64]
  else [240+r / 262144,128+r / 4096 % 64,128+r / 64 % 64,128+r % 64]
def enc (r:Int):List UInt8:=(encN r.toNat).map fun x=>UInt8.ofNat x
theorem okR_nat {r:Int} (h:okR r=true):∃ n:Nat,r=n∧(n<55296∨(57344≤n∧n≤1114111)):=by
  rw [okR_iff] at h
  exact ⟨r.toNat,by omega,by omega⟩
theorem encodeRune_enc {r:Int} (h:okR r=true):Lib.encodeRune r=enc r:=by
  obtain ⟨n,rfl,hn⟩:=okR_nat h
  unfold Lib.encodeRune enc Lib.encodeRuneZ encN
  rw [Int.toNat_natCast]
  have e:∀ x:Int,∀ y:Nat,x=y→x.toNat.toUInt8=UInt8.ofNat y:=by intro x y h;subst h;simp
  repeat' split
  all_goals first
    | (exfalso;omega)
    | (simp only [List.map_cons,List.map_nil];(repeat' apply List.cons_eq_cons.2 ⟨?_,?_⟩) <;> (first | rfl | (apply e;omega) | skip))
  all_goals first
    | (exfalso;omega)
    | (congr 1 <;> first | (apply e;omega) | (congr 1 <;> first | (apply e;omega) | (congr 1 <;> first | (apply e;omega) | (congr 1;apply e;omega))))
theorem decN_inv {m b0 b1 b2 b3 c k:Nat} (hm:1≤m) (l0:b0<256) (l1:b1<256) (l2:b2<256) (l3:b3<256) (h:Lib.decodeN m b0 b1 b2 b3=(c,k)) (hne:¬ ((c,k)=(65533,1))) :
    k≤m∧1≤k∧k≤4∧(c<55296∨(57344≤c∧c≤1114111))∧encN c=[b0,b1,b2,b3].take k:=by
  unfold Lib.decodeN at h
  by_cases c1:b0<128
  · rw [if_pos c1] at h
    obtain ⟨rfl,rfl⟩:=Prod.mk.injEq .. ▸ h
    refine ⟨hm,by omega,by omega,by omega,?_⟩
    unfold encN;rw [if_pos c1];rfl
  · rw [if_neg c1] at h
    by_cases c2:b0 / 32=6∧(1<m∧b1 / 64=2)
    · rw [if_pos c2] at h
      by_cases d2:b0 % 32*64+b1 % 64 ≥ 128
      · rw [if_pos d2] at h
        obtain ⟨rfl,rfl⟩:=Prod.mk.injEq .. ▸ h
        refine ⟨by omega,by omega,by omega,by omega,?_⟩
        unfold encN;rw [if_neg (by omega),if_pos (by omega)]
        simp;omega
      · rw [if_neg d2] at h;exact absurd h.symm hne
    · rw [if_neg c2] at h
      by_cases c3:b0 / 16=14∧(1<m∧b1 / 64=2)∧(2<m∧b2 / 64=2)
      · rw [if_pos c3] at h
        split at h
        · rename_i d3
          obtain ⟨rfl,rfl⟩:=Prod.mk.injEq .. ▸ h
          refine ⟨by omega,by omega,by omega,by omega,?_⟩
          unfold encN;rw [if_neg (by omega),if_neg (by omega),if_pos (by omega)]
          simp;omega
        · exact absurd h.symm hne
      · rw [if_neg c3] at h
        by_cases c4:b0 / 8=30∧(1<m∧b1 / 64=2)∧(2<m∧b2 / 64=2)∧(3<m∧b3 / 64=2)
        · rw [if_pos c4] at h
          split at h
          · rename_i d4
            obtain ⟨rfl,rfl⟩:=Prod.mk.injEq .. ▸ h
            refine ⟨by omega,by omega,by omega,by omega,?_⟩
            unfold encN;rw [if_neg (by omega),if_neg (by omega),if_neg (by omega)]
            simp;omega
          · exact absurd h.symm hne
        · rw [if_neg c4] at h;exact absurd h.symm hne
theorem decL_width (l:List UInt8) (h:l ≠ []):1≤(decL l).2∧(decL l).2≤l.length:=by
  have hm:1≤l.length:=by cases l;exact absurd rfl h;simp
  by_cases e:decL l=(65533,1)
  · rw [e];exact ⟨by simp,hm⟩
  · have:=decN_inv (c:=(decL l).1) (k:=(decL l).2) hm (bt_lt l 0) (bt_lt l 1) (bt_lt l 2) (bt_lt l 3) rfl e
    omega
theorem runeL_width (l:List UInt8) (h:l ≠ []):1≤(runeL l).2∧(runeL l).2≤l.length:=by
  have:=decL_width l h
  unfold runeL;split
  · exact ⟨by simp,by cases l;exact absurd rfl h;simp⟩
  · exact this
def runesF:Nat→List UInt8→List Int
  | 0,_=>[]
  | f+1,l=>if l=[] then [] else (runeL l).1::runesF f (l.drop (runeL l).2)
def runesL (l:List UInt8):List Int:=runesF l.length l
theorem runesF_nil (f:Nat):runesF f []=[]:=by cases f <;> simp [runesF]
theorem runesF_eq : ∀ (f g : Nat) (l : List UInt8), l.length ≤ f → l.length ≤ g → runesF f l = runesF g l := by
  intro f
  induction f with
  | zero => intro g l h _; have : l = [] := List.eq_nil_of_length_eq_zero (by omega)
            rw [this, runesF_nil, runesF_nil]
  | succ f ih =>
    intro g l h k
    cases g with
    | zero => have : l = [] := List.eq_nil_of_length_eq_zero (by omega)
              rw [this, runesF_nil, runesF_nil]
    | succ g =>
      by_cases hl : l = []
      · rw [hl, runesF_nil, runesF_nil]
      · have hw := runeL_width l hl
        simp only [runesF, if_neg hl]
        rw [ih g _ (by rw [List.length_drop]; omega) (by rw [List.length_drop]; omega)]
theorem runesL_cons {l:List UInt8} (h:l ≠ []):runesL l=(runeL l).1::runesL (l.drop (runeL l).2):=by
  have hw:=runeL_width l h
  unfold runesL
  have hm:l.length=(l.length - 1)+1:=by omega
  rw [hm,runesF,if_neg h,runesF_eq _ (l.drop (runeL l).2).length _ (by rw [List.length_drop];omega) (Nat.le_refl _)]
def validL (l:List UInt8):Bool:=(runesL l).all fun r=>decide (0≤r)
def joinL (rs:List Int):List UInt8:=rs.flatMap enc
def okAll (rs:List Int):Bool:=rs.all okR
theorem joinL_append (a b:List Int):joinL (a++b)=joinL a++joinL b:=by simp [joinL]
theorem valid_cons {l:List UInt8} (h:l ≠ []):validL l=(decide (0≤(runeL l).1) && validL (l.drop (runeL l).2)):=by
  unfold validL;rw [runesL_cons h];rfl
end Go.Proofs.YtapicpdfdjofaaaDoor
namespace Go.Proofs.YtapicpdfdjofaaaDoor
open Go.Lib
def escPt (l:List UInt8):List UInt8:=l.flatMap fun b=>if b=126 then [126,48] else if b=47 then [126,49] else [b]
def plainL (l:List UInt8):List UInt8:=rep2 126 48 126 (rep2 126 49 47 l)
theorem esc_eq (l:List UInt8):replaceAll (replaceAll l [126] [126,48]) [47] [126,49]=escPt l:=by
  rw [repl_one _ _ (by decide),repl_one _ _ (by decide),List.flatMap_assoc]
  unfold escPt
  congr 1
  funext b
  by_cases h:b=126
  · subst h;decide
  · by_cases h2:b=47
    · subst h2;decide
    · rw [if_neg h,if_neg h];simp [h2]
theorem plain_eq (l:List UInt8):replaceAll (replaceAll l [126,49] [47]) [126,48] [126]=plainL l:=by
  rw [repl_two _ _ _ _ _ (Nat.le_refl _),repl_two _ _ _ _ _ (Nat.le_refl _)];rfl
def tilW:Bool→List UInt8→Bool
  | w,[]=>!w
  | w,b::l=>if b=48∨b=49 then tilW false l else if w then false else tilW (decide (b=126)) l
theorem esc_cons (b:UInt8) (l:List UInt8):escPt (b::l)=(if b=126 then [126,48] else if b=47 then [126,49] else [b])++escPt l:=by unfold escPt;rw [List.flatMap_cons]
def txtPt (p:List (List UInt8)):List UInt8:=p.flatMap fun t=>47::escPt t
theorem textP_nil:txtPt []=[]:=rfl
theorem textP_cons (t:List UInt8) (p:List (List UInt8)):txtPt (t::p)=47::(escPt t++txtPt p):=by unfold txtPt;rw [List.flatMap_cons];rfl
theorem textP_append (p q:List (List UInt8)):txtPt (p++q)=txtPt p++txtPt q:=by simp [txtPt]
def parsePt (s:List UInt8):List (List UInt8) ⊕ Int :=
  match s with
  | []=>.inl []
  | b::l=>if b ≠ 47∨validL s=false∨tilW false s=false then .inr 2 else if 63<s.count 47 then .inr 4 else .inl ((spl 47 l).map plainL)
end Go.Proofs.YtapicpdfdjofaaaDoor
namespace Go.Proofs.YtapicpdfdjofaaaDoor
open Go.RowKit
theorem tilW_at (w:Bool) (l:List UInt8) (k:Nat) (hk:k<l.length):tilW w (l.drop k)=if l.getD k 0=48∨l.getD k 0=49 then tilW false (l.drop (k+1)) else if w then false else tilW (decide (l.getD k 0=126)) (l.drop (k+1)):=by
  rw [List.drop_eq_getElem_cons hk,tilW]
  simp [List.getD,hk]
def TG (l:List UInt8) (n:Nat) (W:World) (g:Nat) (wv i:Value) (wr:World):Prop :=
  ∃ (k:Nat) (b:Bool),k≤n∧n - k≤g∧wv=.bool b∧i=.int .i64 (k:Int)∧tilW false l=tilW b (l.drop k)∧wr=W
theorem tildes_any (s:ByteArray) (w:World) (hs:s.size≤4000000000000) :
    Calls Tryd.prog 35 #[.string s] w fun e w'=>e=.returned (.bool (tilW false s.data.toList))∧Below w.heap.size w w':=by
  have hln:s.data.toList.length=s.size:=by rw [Array.length_toList];rfl
  have hb2:=Lib.bytesWorld_below w 5 s
  have HC:=Lib.hid (Lib.run_convert_string_bytes (P:=Tryd.prog) w 9 65 5 s (u:=.string) Tryd.underlying9 Tryd.underlying65 Tryd.underlying5)
  have HB:=Lib.hid hb2
  have hce:∀ i,(hi:i<s.size)→(Lib.bytesWorld w 5 s).cell? ⟨w.heap.size,i,none⟩=some (.int .u8 (((s.data.toList.getD i 0).toNat:Nat):Int)):=by
    intro i hi
    rw [Lib.bytesWorld_cell _ _ _ _ hi]
  have HCE:=Lib.hid hce
  have HLN:=Lib.hid hln
  clear hb2 hce hln
  generalize Lib.bytesWorld w 5 s=W3 at *
  generalize hcp:grownCap w s.size 0 5=cp at *
  have hcp':s.size≤cp:=by rw [← hcp];exact grownCap_ge _ _ _ _
  clear hcp
  generalize w.heap.size=bk at *
  generalize s.data.toList=l at *
  go_enter Tryd.func35,Tryd.ntmps35
  go_wp2_with fail
  go_step3
  go_wp2_with fail
  go_step3
  go_wp2_with fail
  rw [HC.out]
  simp only [Result.andThen]
  rw [Oper.upon_value]
  go_wp2
  go_loopg [3,9] s.size (fun g wv i wr=>TG l s.size W3 g wv i wr)
  case atStart=>exact ⟨0,false,by omega,by omega,rfl,rfl,by simp,rfl⟩
  case round =>
    obtain ⟨k,b,hk,hg,rfl,rfl,ht,rfl⟩:=hrel
    by_cases hlt:k<s.size
    · obtain ⟨g,rfl⟩:∃ g,gk=g+1:=⟨gk - 1,by omega⟩
      have hkz:(k:Int)<(s.size:Int):=by omega
      have hc:=HCE.out k hlt
      have hkl:k<l.length:=by rw [HLN.out];exact hlt
      rw [tilW_at b l k hkl] at ht
      have hlt2:=(l.getD k 0).toNat_lt
      by_cases h8:l.getD k 0=48
      · rw [h8] at hc ht
        rw [if_pos (.inl rfl)] at ht
        have HN:=Lib.hid (show TG l s.size wr g (.bool false) (.int .i64 ((k:Int)+1)) wr from ⟨k+1,false,by omega,by omega,rfl,by simp,ht,rfl⟩)
        have hc1:wr.cell? ⟨bk,k,none⟩=some (.int .u8 48):=hc
        clear hc ht
        go_wp2
        go_roundg g
        case rel=>exact HN.out
        case measure=>omega
      · by_cases h9:l.getD k 0=49
        · rw [h9] at hc ht
          rw [if_pos (.inr rfl)] at ht
          have HN:=Lib.hid (show TG l s.size wr g (.bool false) (.int .i64 ((k:Int)+1)) wr from ⟨k+1,false,by omega,by omega,rfl,by simp,ht,rfl⟩)
          have hc1:wr.cell? ⟨bk,k,none⟩=some (.int .u8 49):=hc
          clear hc ht
          go_wp2
          go_roundg g
          case rel=>exact HN.out
          case measure=>omega
        · have h8n:(((l.getD k 0).toNat:Nat):Int) ≠ 48:=fun e=>h8 (by apply UInt8.toNat_inj.1;rw [show (48:UInt8).toNat=48 from rfl];omega)
          have h9n:(((l.getD k 0).toNat:Nat):Int) ≠ 49:=fun e=>h9 (by apply UInt8.toNat_inj.1;rw [show (49:UInt8).toNat=49 from rfl];omega)
          rw [if_neg (by rintro (h | h);exact h8 h;exact h9 h)] at ht
          cases b with
          | true =>
            rw [if_pos rfl] at ht
            have HF:=Lib.hid ht
            generalize (l.getD k 0).toNat=x at *
            clear ht
            go_wp2
            rw [Exit.noGoto_ret]
            go_ret
            exact ⟨by rw [HF.out];rfl,HB.out⟩
          | false =>
            rw [if_neg (by decide)] at ht
            have h6:(((l.getD k 0).toNat:Nat):Int)=126 ↔ l.getD k 0=126:=by
              constructor
              · intro e;apply UInt8.toNat_inj.1;rw [show (126:UInt8).toNat=126 from rfl];omega
              · intro e;rw [e];rfl
            by_cases h7:l.getD k 0=126
            · rw [decide_eq_true h7] at ht
              have HN:=Lib.hid (show TG l s.size wr g (.bool true) (.int .i64 ((k:Int)+1)) wr from ⟨k+1,true,by omega,by omega,rfl,by simp,ht,rfl⟩)
              have h7z:=h6.2 h7
              generalize (l.getD k 0).toNat=x at *
              clear ht h6
              have hx:x=126:=by omega
              subst hx
              clear h7 h7z h8n h9n
              go_wp2
              go_roundg g
              case rel=>exact HN.out
              case measure=>omega
            · rw [decide_eq_false h7] at ht
              have HN:=Lib.hid (show TG l s.size wr g (.bool false) (.int .i64 ((k:Int)+1)) wr from ⟨k+1,false,by omega,by omega,rfl,by simp,ht,rfl⟩)
              have h7z:¬ (((l.getD k 0).toNat:Nat):Int)=126:=fun e=>h7 (h6.1 e)
              generalize (l.getD k 0).toNat=x at *
              clear ht h6
              have h7b:((x:Int) == 126)=false:=beq_eq_false_iff_ne.2 h7z
              go_wp2
              go_roundg g
              case rel=>exact HN.out
              case measure=>omega
    · obtain rfl:k=s.size:=by omega
      have hkz:¬ (s.size:Int)<(s.size:Int):=by omega
      have he:l.drop s.size=[]:=List.drop_eq_nil_of_le (by rw [HLN.out];exact Nat.le_refl _)
      rw [he,tilW] at ht
      have HF:=Lib.hid ht
      clear ht he
      go_wp2
      go_ret
      exact ⟨by rw [HF.out];rfl,HB.out⟩
def idxF (n:Nat):List UInt8→Option Nat
  | []=>some n
  | b::l=>if b.toNat<48∨57<b.toNat then none else idxF (10*n+(b.toNat - 48)) l
def idxL (l:List UInt8) (most:Int):Option Nat :=
  if l=[]∨4<l.length∨(l.getD 0 0=48∧l ≠ [48]) then none else match idxF 0 l with | none=>none | some n=>if most<(n:Int) then none else some n
theorem idxF_le:∀ (l:List UInt8) (n m:Nat),idxF n l=some m→m<(n+1)*10 ^ l.length:=by
  intro l
  induction l with
  | nil=>intro n m h;simp [idxF] at h;subst h;simp
  | cons b l ih =>
    intro n m h
    rw [idxF] at h
    split at h
    · cases h
    · rename_i hn
      have:=ih _ m h
      rw [List.length_cons,Nat.pow_succ]
      have h2:10*n+(b.toNat - 48)+1≤(n+1)*10:=by omega
      calc m<(10*n+(b.toNat - 48)+1)*10 ^ l.length:=this
        _≤((n+1)*10)*10 ^ l.length:=Nat.mul_le_mul_right _ h2
        _=(n+1)*(10 ^ l.length*10):=by rw [Nat.mul_assoc,Nat.mul_comm 10]
theorem idxL_lt {l:List UInt8} {most:Int} {n:Nat} (h:idxL l most=some n):(n:Int)≤most∧n<10000:=by
  unfold idxL at h
  split at h
  · cases h
  · rename_i hc
    split at h
    · cases h
    · rename_i m hm
      split at h
      · cases h
      · simp at h
        subst h
        refine ⟨by omega,?_⟩
        have h1:=idxF_le l 0 m hm
        have h2:l.length≤4:=by omega
        have h3:10 ^ l.length≤10 ^ 4:=Nat.pow_le_pow_right (by decide) h2
        omega
theorem idxF_at (n:Nat) (l:List UInt8) (k:Nat) (hk:k<l.length):idxF n (l.drop k)=if (l.getD k 0).toNat<48∨57<(l.getD k 0).toNat then none else idxF (10*n+((l.getD k 0).toNat - 48)) (l.drop (k+1)):=by
  rw [List.drop_eq_getElem_cons hk,idxF]
  simp [List.getD,hk]
def idxV (o:Option Nat):Int:=match o with | none=>0 | some n=>(n:Int)
def IdxP (l:List UInt8) (most:Int) (w:World) (e:Ending) (w':World):Prop :=
  e=.returned (.tuple #[.int .i64 (idxV (idxL l most)),.bool (idxL l most).isSome])∧Below w.heap.size w w'
def IG (l:List UInt8) (n:Nat) (W:World) (g:Nat) (nv i:Value) (wr:World):Prop :=
  ∃ (k m:Nat),k≤n∧n - k≤g∧nv=.int .i64 (m:Int)∧m<10 ^ k∧i=.int .i64 (k:Int)∧idxF 0 l=idxF m (l.drop k)∧wr=W
theorem str_nil (s:ByteArray) (h:s.size=0):s=⟨#[]⟩:=by
  obtain ⟨⟨l⟩⟩:=s
  cases l with
  | nil=>rfl
  | cons a l=>simp [ByteArray.size] at h
theorem str_ne (s:ByteArray) (h:s.size ≠ 0):s.toList.isEmpty=false:=by
  have:=Lib.size_eq s
  rw [Lib.toList_data]
  cases e:s.data.toList with
  | nil=>rw [e] at this;exact absurd this h
  | cons a l=>rfl
theorem str_eq (s t:ByteArray):(s.toList == t.toList)=decide (s.data.toList=t.data.toList):=by
  rw [Lib.toList_data,Lib.toList_data]
  by_cases h:s.data.toList=t.data.toList
  · rw [decide_eq_true h,h];simp
  · rw [decide_eq_false h];exact beq_eq_false_iff_ne.2 h
theorem ptIndex_any (s:ByteArray) (most:Int) (w:World) (hm:-9223372036854775808≤most∧most≤9223372036854775807) (hs:s.size≤4000000000000) :
    Calls Tryd.prog 13 #[.string s,.int .i64 most] w (IdxP s.data.toList most w):=by
  have hln:s.data.toList.length=s.size:=by rw [Array.length_toList];rfl
  by_cases h0:s.size=0
  · have e0:=str_nil s h0
    subst e0
    have HF:=Lib.hid (show IdxP [] most w (.returned (.tuple #[.int .i64 0,.bool false])) w from ⟨rfl,Below.refl _ _⟩)
    clear hln h0
    go_enter Tryd.func13,Tryd.ntmps13
    go_wp2
    go_ret2
    exact HF.out
  have e0:=str_ne s h0
  by_cases h4:4<s.size
  · have h4z:(4:Int)<(s.size:Int):=by omega
    have HF:=Lib.hid (show IdxP s.data.toList most w (.returned (.tuple #[.int .i64 0,.bool false])) w from by
      have:idxL s.data.toList most=none:=by unfold idxL;rw [if_pos (.inr (.inl (by omega)))]
      exact ⟨by rw [this];rfl,Below.refl _ _⟩)
    clear hln
    go_enter Tryd.func13,Tryd.ntmps13
    go_wp2
    go_ret2
    exact HF.out
  have h4z:¬ (4:Int)<(s.size:Int):=by omega
  have h0z:0<s.size:=by omega
  have hg0:s.data.toList.getD 0 0=s[0]'h0z:=by
    have hs:0<s.data.size:=h0z
    have h1:s.data[0]? = some (s.data[0]'hs):=Array.getElem?_eq_getElem hs
    simp [List.getD,h1,ByteArray.getElem_eq_getElem_data]
  have hq:=str_eq s ⟨#[48]⟩
  have hq2:(⟨#[48]⟩:ByteArray).toList=[48]:=by rw [Lib.toList_data]
  have hq3:(⟨#[48]⟩:ByteArray).data.toList=[48]:=rfl
  rw [hq2,hq3] at hq
  by_cases hbad:s.data.toList.getD 0 0=48∧s.data.toList ≠ [48]
  · have HF:=Lib.hid (show IdxP s.data.toList most w (.returned (.tuple #[.int .i64 0,.bool false])) w from by
      have:idxL s.data.toList most=none:=by unfold idxL;rw [if_pos (.inr (.inr hbad))]
      exact ⟨by rw [this];rfl,Below.refl _ _⟩)
    have h48:(((s[0]'h0z).toNat:Nat):Int)=48:=by rw [← hg0,hbad.1];rfl
    rw [decide_eq_false hbad.2] at hq
    clear hln hq2 hq3 hbad hg0
    go_enter Tryd.func13,Tryd.ntmps13
    go_wp2
    go_ret2
    exact HF.out
  have hD:((((s[0]'h0z).toNat:Nat):Int)=48∧(s.toList == [48])=true)∨¬ (((s[0]'h0z).toNat:Nat):Int)=48:=by
    by_cases h:(((s[0]'h0z).toNat:Nat):Int)=48
    · left
      refine ⟨h,?_⟩
      rw [hq]
      refine decide_eq_true ?_
      apply Classical.byContradiction
      intro hn
      refine hbad ⟨?_,hn⟩
      rw [hg0];apply UInt8.toNat_inj.1;rw [show (48:UInt8).toNat=48 from rfl];omega
    · exact .inr h
  have HX:Hid (idxL s.data.toList most=match idxF 0 s.data.toList with | none=>none | some n=>if most<(n:Int) then none else some n):=Lib.hid (by
    unfold idxL
    rw [if_neg]
    rintro (h | h | h)
    · rw [h] at hln;simp at hln;omega
    · omega
    · exact hbad h)
  have hb2:=Lib.bytesWorld_below w 5 s
  have HC:=Lib.hid (Lib.run_convert_string_bytes (P:=Tryd.prog) w 9 65 5 s (u:=.string) Tryd.underlying9 Tryd.underlying65 Tryd.underlying5)
  have HB:=Lib.hid hb2
  have HCE:=Lib.hid (show ∀ i,(hi:i<s.size)→(Lib.bytesWorld w 5 s).cell? ⟨w.heap.size,i,none⟩=some (.int .u8 (((s.data.toList.getD i 0).toNat:Nat):Int)) from by
    intro i hi
    rw [Lib.bytesWorld_cell _ _ _ _ hi])
  have HLN:=Lib.hid hln
  have h4n:s.size≤4:=by omega
  clear hb2 hln hq hq2 hq3 hbad hg0
  obtain ⟨W3,hW3⟩:∃ W,Lib.bytesWorld w 5 s=W:=⟨_,rfl⟩
  rw [hW3] at HC HB HCE
  obtain ⟨cp,hcp⟩:∃ c,grownCap w s.size 0 5=c:=⟨_,rfl⟩
  have hcp':s.size≤cp:=by rw [← hcp];exact grownCap_ge _ _ _ _
  rw [hcp] at HC
  have HFN:=Lib.hid (fun (e:Ending) (h:e=.returned (.tuple #[.int .i64 (idxV (idxL s.data.toList most)),.bool (idxL s.data.toList most).isSome]))=>(show IdxP s.data.toList most w e W3 from ⟨h,HB.out⟩))
  clear hW3 hcp HB
  obtain ⟨bk,hbk⟩:∃ b,w.heap.size=b:=⟨_,rfl⟩
  rw [hbk] at HC HCE
  clear hbk
  rcases hD with ⟨h48,hq⟩ | h48
  all_goals
    go_enter Tryd.func13,Tryd.ntmps13
    go_wp2_with fail
    rw [HC.out]
    simp only [Result.andThen]
    rw [Oper.upon_value]
    go_wp2
    go_loopg [6,28] s.size (fun g nv i wr=>IG s.data.toList s.size W3 g nv i wr)
    case atStart=>exact ⟨0,0,by omega,by omega,rfl,by decide,rfl,by simp,rfl⟩
    case round =>
      obtain ⟨k,m,hk,hg,rfl,hmk,rfl,ht,rfl⟩:=hrel
      have hk4:10 ^ k≤10 ^ 4:=Nat.pow_le_pow_right (by decide) (by omega)
      by_cases hlt:k<s.size
      · obtain ⟨g,rfl⟩:∃ g,gk=g+1:=⟨gk - 1,by omega⟩
        have hkz:(k:Int)<(s.size:Int):=by omega
        have hc:=HCE.out k hlt
        have hkl:k<s.data.toList.length:=by rw [HLN.out];exact hlt
        rw [idxF_at m _ k hkl] at ht
        have hlt2:=(s.data.toList.getD k 0).toNat_lt
        generalize (s.data.toList.getD k 0).toNat=x at *
        by_cases hx1:x<48
        · rw [if_pos (.inl hx1)] at ht
          have hx1z:(x:Int)<48:=by omega
          have HE:=Lib.hid (HFN.out (.returned (.tuple #[.int .i64 0,.bool false])) (by rw [HX.out,ht];rfl))
          clear ht
          go_wp2
          go_ret2
          exact HE.out
        by_cases hx2:57<x
        · rw [if_pos (.inr hx2)] at ht
          have hx1z:¬ (x:Int)<48:=by omega
          have hx2z:(57:Int)<(x:Int):=by omega
          have HE:=Lib.hid (HFN.out (.returned (.tuple #[.int .i64 0,.bool false])) (by rw [HX.out,ht];rfl))
          clear ht
          go_wp2
          go_ret2
          exact HE.out
        rw [if_neg (by omega)] at ht
        have hx1z:¬ (x:Int)<48:=by omega
        have hx2z:¬ (57:Int)<(x:Int):=by omega
        have hw1:-9223372036854775808≤10*(m:Int)∧10*(m:Int)≤9223372036854775807:=by omega
        have hw2:0≤(x:Int) - 48∧(x:Int) - 48≤255:=by omega
        have hw3:-9223372036854775808≤10*(m:Int)+((x:Int) - 48)∧10*(m:Int)+((x:Int) - 48)≤9223372036854775807:=by omega
        have HN:=Lib.hid (show IG s.data.toList s.size wr g (.int .i64 (10*(m:Int)+((x:Int) - 48))) (.int .i64 ((k:Int)+1)) wr from
          ⟨k+1,10*m+(x - 48),by omega,by omega,by congr 1;omega,by rw [Nat.pow_succ];omega,by simp,ht,rfl⟩)
        clear ht
        go_wp2
        go_roundg g
        case rel=>exact HN.out
        case measure=>omega
      · obtain rfl:k=s.size:=by omega
        have hkz:¬ (s.size:Int)<(s.size:Int):=by omega
        have he:s.data.toList.drop s.size=[]:=List.drop_eq_nil_of_le (by rw [HLN.out];exact Nat.le_refl _)
        rw [he,idxF] at ht
        by_cases hmm:most<(m:Int)
        · have HE:=Lib.hid (HFN.out (.returned (.tuple #[.int .i64 0,.bool false])) (by rw [HX.out,ht];simp [hmm,idxV]))
          clear ht he
          go_wp2
          go_ret2
          exact HE.out
        · have HE:=Lib.hid (HFN.out (.returned (.tuple #[.int .i64 (m:Int),.bool true])) (by rw [HX.out,ht];simp [hmm,idxV]))
          clear ht he
          go_wp2
          go_ret2
          exact HE.out
end Go.Proofs.YtapicpdfdjofaaaDoor
namespace Go.Proofs.YtapicpdfdjofaaaDoor
open Go.Shelf Go.RowKit
def lays166_ren:Go.Shelf.Ren:=⟨fun | 166=>42 | 240=>61 | 276=>76 | n=>n,fun | 0=>0 | 3=>3 | 4=>4 | 5=>5 | 9=>9 | 20=>20 | 37=>65 | 70=>66 | 72=>68 | 75=>70 | 80=>75 | 164=>105 | n=>n,fun | n=>n⟩
theorem lays166:Go.Proofs.Lays.n166 Tryd.prog lays166_ren:={
  mixed:=by kernel_rfl
  f166:=Tryd.func42.trans (congrArg some (by kernel_rfl))
  f240:=Tryd.func61.trans (congrArg some (by kernel_rfl))
  f276:=Tryd.func76.trans (congrArg some (by kernel_rfl))
  t0:=Tryd.underlying0
  a0:=Tryd.isAgg0
  z0:=Tryd.sizeOf0
  v0:=Tryd.zeroValue0
  t3:=Tryd.underlying3
  a3:=Tryd.isAgg3
  z3:=Tryd.sizeOf3
  v3:=Tryd.zeroValue3
  t4:=Tryd.underlying4
  a4:=Tryd.isAgg4
  z4:=Tryd.sizeOf4
  v4:=Tryd.zeroValue4
  t9:=Tryd.underlying9
  a9:=Tryd.isAgg9
  z9:=Tryd.sizeOf9
  v9:=Tryd.zeroValue9
  t20:=Tryd.underlying20
  a20:=Tryd.isAgg20
  z20:=Tryd.sizeOf20
  v20:=Tryd.zeroValue20
  t37:=Tryd.underlying65
  a37:=Tryd.isAgg65
  z37:=Tryd.sizeOf65
  v37:=Tryd.zeroValue65
  t70:=Tryd.underlying66
  a70:=Tryd.isAgg66
  z70:=Tryd.sizeOf66
  v70:=Tryd.zeroValue66
  t72:=Tryd.underlying68
  a72:=Tryd.isAgg68
  z72:=Tryd.sizeOf68
  v72:=Tryd.zeroValue68
  t75:=Tryd.underlying70
  a75:=Tryd.isAgg70
  z75:=Tryd.sizeOf70
  v75:=Tryd.zeroValue70
  t164:=Tryd.underlying105
  a164:=Tryd.isAgg105
  z164:=Tryd.sizeOf105
  v164:=Tryd.zeroValue105 }
theorem extra166:Builder.Extra Tryd.prog lays166_ren:={
  sizeBuilder:=by kernel_rfl
  liesBuilder:=by kernel_rfl
  t5:=Tryd.underlying5
  a5:=Tryd.isAgg5
  z5:=Tryd.sizeOf5
  v5:=Tryd.zeroValue5
  infoByte:=by kernel_rfl
  cellsByte:=by kernel_rfl
  sizeByte:=by kernel_rfl
  neB5:=by decide }
def lays167_ren:Go.Shelf.Ren:=⟨fun | 167=>41 | 240=>61 | 276=>76 | n=>n,fun | 0=>0 | 3=>3 | 4=>4 | 5=>5 | 9=>9 | 20=>20 | 37=>65 | 70=>66 | 72=>68 | 75=>70 | 80=>75 | 164=>105 | n=>n,fun | n=>n⟩
theorem lays167:Go.Proofs.Lays.n167 Tryd.prog lays167_ren:={
  mixed:=by kernel_rfl
  f167:=Tryd.func41.trans (congrArg some (by kernel_rfl))
  f240:=Tryd.func61.trans (congrArg some (by kernel_rfl))
  f276:=Tryd.func76.trans (congrArg some (by kernel_rfl))
  t0:=Tryd.underlying0
  a0:=Tryd.isAgg0
  z0:=Tryd.sizeOf0
  v0:=Tryd.zeroValue0
  t4:=Tryd.underlying4
  a4:=Tryd.isAgg4
  z4:=Tryd.sizeOf4
  v4:=Tryd.zeroValue4
  t5:=Tryd.underlying5
  a5:=Tryd.isAgg5
  z5:=Tryd.sizeOf5
  v5:=Tryd.zeroValue5
  t9:=Tryd.underlying9
  a9:=Tryd.isAgg9
  z9:=Tryd.sizeOf9
  v9:=Tryd.zeroValue9
  t20:=Tryd.underlying20
  a20:=Tryd.isAgg20
  z20:=Tryd.sizeOf20
  v20:=Tryd.zeroValue20
  t37:=Tryd.underlying65
  a37:=Tryd.isAgg65
  z37:=Tryd.sizeOf65
  v37:=Tryd.zeroValue65
  t70:=Tryd.underlying66
  a70:=Tryd.isAgg66
  z70:=Tryd.sizeOf66
  v70:=Tryd.zeroValue66
  t72:=Tryd.underlying68
  a72:=Tryd.isAgg68
  z72:=Tryd.sizeOf68
  v72:=Tryd.zeroValue68
  t75:=Tryd.underlying70
  a75:=Tryd.isAgg70
  z75:=Tryd.sizeOf70
  v75:=Tryd.zeroValue70
  t164:=Tryd.underlying105
  a164:=Tryd.isAgg105
  z164:=Tryd.sizeOf105
  v164:=Tryd.zeroValue105 }
theorem extra167:Builder.Extra Tryd.prog lays167_ren:={
  sizeBuilder:=by kernel_rfl
  liesBuilder:=by kernel_rfl
  t5:=Tryd.underlying5
  a5:=Tryd.isAgg5
  z5:=Tryd.sizeOf5
  v5:=Tryd.zeroValue5
  infoByte:=by kernel_rfl
  cellsByte:=by kernel_rfl
  sizeByte:=by kernel_rfl
  neB5:=by decide }
theorem writeByte_k (B b:Nat) (bs:List Value) (c:Int) (w:World) (h:Lib.IsBuilderF 68 5 B b bs w) (hlen:bs.length+1≤140737488355328) (hBw:B≤w.heap.size) :
    Calls Tryd.prog 41 #[.pointer (some ⟨b,0,none⟩),.int .u8 c] w fun e w'=>e=.returned .nilIface∧(Lib.BuilderAtF 68 5 B b (.pointer (some ⟨b,0,none⟩)) (bs++[.int .u8 c]) w'∧Below B w w'∧Lib.OthersKept 5 (some b) w w') :=
  Any.Builder_WriteByte_k lays167 extra167 B b bs c w h hlen hBw
theorem writeString_k (B b:Nat) (bs:List Value) (s:ByteArray) (w:World) (h:Lib.IsBuilderF 68 5 B b bs w) (hlen:bs.length+s.size≤140737488355328) (hBw:B≤w.heap.size) :
    Calls Tryd.prog 42 #[.pointer (some ⟨b,0,none⟩),.string s] w fun e w'=>e=.returned (.tuple #[.int .i64 s.size,.nilIface])∧(Lib.BuilderAtF 68 5 B b (.pointer (some ⟨b,0,none⟩)) (bs++Lib.strCells s) w'∧Below B w w'∧Lib.OthersKept 5 (some b) w w') :=
  Any.Builder_WriteString_k lays166 extra166 B b bs s w h hlen hBw
end Go.Proofs.YtapicpdfdjofaaaDoor
