/- Texts of the claim. -/
import Derived.Test.YtijaphbccnadbaaGreatDoorUe
import Derived.Lib.Bytealg
import Derived.Lib.ItoaNum
import Derived.Lib.Repeat
set_option linter.unusedVariables false
set_option linter.unusedSimpArgs false
set_option maxHeartbeats 1000000
set_option maxRecDepth 100000
namespace Go.Proofs.YtijaphbccnadbaaGreatDoor
open Go.RowKit
open Go.RowKit
open Go.RowKit
open Go.RowKit
def chkB (neg:Bool) (xs:List Nat) (e:Int):Bool :=
  if xs.length=0 then !neg && decide (e=0) else decide (xs.length≤90∧xs.getD (xs.length - 1) 0 ≠ 0∧-1200≤e∧e≤1200∧val xs % 10 ≠ 0)
theorem chkB_nil {neg:Bool} {e:Int}:chkB neg [] e=(!neg && decide (e=0)):=rfl
theorem chkB_zero {neg:Bool} {e:Int} (h:chkB neg [] e=true):neg=false∧e=0:=by
  simpa [chkB] using h
theorem chkB_some {neg:Bool} {xs:List Nat} {e:Int} (h0:xs ≠ []) (h:chkB neg xs e=true):xs.length≤90∧xs.getD (xs.length - 1) 0 ≠ 0∧-1200≤e∧e≤1200∧val xs % 10 ≠ 0:=by
  unfold chkB at h
  rw [if_neg (fun h1=>h0 (List.eq_nil_of_length_eq_zero h1))] at h
  exact of_decide_eq_true h
theorem chkB_bounds {neg:Bool} {xs:List Nat} {e:Int} (h:chkB neg xs e=true):xs.length≤90∧-1200≤e∧e≤1200:=by
  by_cases h0:xs=[]
  · subst h0;obtain ⟨_,rfl⟩:=chkB_zero h;exact ⟨by simp,by omega,by omega⟩
  · obtain ⟨a,_,b,c,_⟩:=chkB_some h0 h;exact ⟨a,b,c⟩
theorem chkB_limbs {neg:Bool} {xs:List Nat} {e:Int} (ho:Okl xs) (h:chkB neg xs e=true):limbs (val xs)=xs:=by
  by_cases h0:xs=[]
  · subst h0;exact limbs_zero
  · refine limbs_val ho fun n hn=>?_
    have:=(chkB_some h0 h).2.1
    rw [hn] at this
    exact this
theorem chkB_mk {neg:Bool} {N:Nat} {e:Int} (h0:N % 10 ≠ 0) (h1:(limbs N).length≤90) (h2:-1200≤e) (h3:e≤1200):chkB neg (limbs N) e=true:=by
  have hne:N ≠ 0:=by intro h;rw [h] at h0;exact h0 rfl
  have hl:(limbs N).length ≠ 0:=fun h=>hne ((limbs_nil_iff N).1 (List.eq_nil_of_length_eq_zero h))
  unfold chkB
  rw [if_neg hl]
  refine decide_eq_true ⟨h1,?_,h2,h3,by rw [val_limbs];exact h0⟩
  obtain ⟨t,ht⟩:∃ t,(limbs N).length=t+1:=⟨(limbs N).length - 1,by omega⟩
  rw [ht]
  exact limbs_top ht
theorem hval_cons (x:Nat) (l:List Nat):hval (x::l)=(x - 48)*tenN l.length+hval l:=by
  have:=hval_append [x] l
  rw [hval_one] at this
  exact this
theorem dec_small {N:Nat} (h:N<10):dec N=[48+N]:=by
  unfold dec
  by_cases h0:N=0
  · subst h0;rfl
  · rw [if_neg h0,decl_pos h0,Nat.mod_eq_of_lt h,Nat.div_eq_of_lt h,decl_zero];rfl
theorem dec_step {N:Nat} (h:10≤N):dec N=dec (N / 10)++[48+N % 10]:=by
  unfold dec
  rw [if_neg (by omega),if_neg (by omega),decl_pos (by omega),List.reverse_cons]
theorem decDigits_eq (N:Nat):Lib.decDigits N=(dec N).map UInt8.ofNat:=by
  induction N using Nat.strongRecOn with
  | _ N ih =>
    rw [Lib.decDigits]
    split
    · rename_i h;rw [dec_small h];rfl
    · rename_i h
      rw [ih (N / 10) (by omega),dec_step (N:=N) (by omega),List.map_append];rfl
theorem itoa_txt (k:Nat):(⟨(Lib.itoa (k:Int)).toArray⟩:ByteArray)=txt (dec k):=by
  unfold Lib.itoa
  rw [if_neg (by omega),Int.toNat_natCast,decDigits_eq];rfl
theorem repeat_txt (k:Nat):(⟨(Lib.repeatL (txt [48]).data.toList k).toArray⟩:ByteArray)=txt (List.replicate k 48):=by
  have e:(txt [48]).data.toList=List.replicate 1 (48:UInt8):=rfl
  rw [e,Lib.repeatL_replicate,Nat.mul_one]
  simp [txt]
def expTxt (d:List Nat) (x:Int):List Nat:=d.take 1++((if 1<d.length then [46]++d.drop 1 else [])++([101,if x<0 then 45 else 43]++dec x.natAbs))
def sizeTxt (d:List Nat) (e:Int):List Nat :=
  if (d.length:Int)+e < -5∨21<(d.length:Int)+e then expTxt d ((d.length:Int)+e - 1)
  else if (d.length:Int)+e≤0 then [48,46]++List.replicate (-((d.length:Int)+e)).toNat 48++d
  else if e<0 then d.take ((d.length:Int)+e).toNat++[46]++d.drop ((d.length:Int)+e).toNat
  else d++List.replicate e.toNat 48
def numTxt (neg:Bool) (N:Nat) (e:Int):List Nat:=if N=0 then [48] else (if neg then [45] else [])++sizeTxt (dec N) e
theorem txt_take (d:List Nat) (k:Nat) (h:k≤d.length):(txt d).extract 0 k=txt (d.take k):=by
  apply ByteArray.ext
  simp [txt,ByteArray.data_extract,List.map_take,List.extract_eq_take_drop]
theorem txt_drop (d:List Nat) (k:Nat):(txt d).extract k (txt d).size=txt (d.drop k):=by
  apply ByteArray.ext
  simp only [txt,ByteArray.data_extract,ByteArray.size]
  apply Array.ext'
  simp [List.map_drop,List.extract_eq_take_drop]
  exact List.take_of_length_le (by simp)
theorem expTxt_len {d : List Nat} {x : Int} (hd : d.length ≤ 2000) (hx : -1000000 ≤ x ∧ x ≤ 1000000) : (expTxt d x).length ≤ 4000 := by
  have h := dec_len_le (n := 7) (N := x.natAbs) (by omega) (by have : tenN 7 = 10000000 := by decide
                                                               omega)
  unfold expTxt
  split <;> simp <;> omega
theorem sizeTxt_len {d:List Nat} {e:Int} (hd:d.length≤2000) (he:-1200≤e∧e≤1200):(sizeTxt d e).length≤5000:=by
  unfold sizeTxt
  split
  · have:=expTxt_len (d:=d) (x:=(d.length:Int)+e - 1) hd (by omega)
    omega
  · split
    · simp;omega
    · split <;> simp <;> omega
theorem sizeTxt_len2 {d : List Nat} {e : Int} (hd : d.length ≤ 900) (he : -1200 ≤ e ∧ e ≤ 1200) : (sizeTxt d e).length ≤ 1900 := by
  have h := dec_len_le (n := 7) (N := ((d.length : Int) + e - 1).natAbs) (by omega) (by have : tenN 7 = 10000000 := by decide
                                                                                        omega)
  unfold sizeTxt
  split
  · unfold expTxt
    split <;> simp <;> omega
  · split
    · simp; omega
    · split <;> simp <;> omega
def trimF:Nat→Nat→Nat
  | 0,_=>0
  | f+1,N=>if N % 10=0 then trimF f (N / 10)+1 else 0
def trimK (N:Nat):Nat:=trimF N N
def trimM (N:Nat):Nat:=N / tenN (trimK N)
theorem trimF_spec:∀ (f N:Nat),N≤f→N ≠ 0→N=N / tenN (trimF f N)*tenN (trimF f N)∧N / tenN (trimF f N) % 10 ≠ 0
  | 0,N,h,h0=>by omega
  | f+1,N,h,h0=>by
    unfold trimF
    by_cases h1:N % 10=0
    · rw [if_pos h1]
      obtain ⟨a,b⟩:=trimF_spec f (N / 10) (by omega) (by omega)
      have e:tenN (trimF f (N / 10)+1)=10*tenN (trimF f (N / 10)):=by rw [tenN_succ,Nat.mul_comm]
      rw [e,← Nat.div_div_eq_div_mul]
      refine ⟨?_,b⟩
      generalize N / 10 / tenN (trimF f (N / 10))=Q at *
      have h2:N=10*(N / 10):=by omega
      rw [Nat.mul_left_comm,← a]
      exact h2
    · rw [if_neg h1,tenN_zero]
      exact ⟨by simp,by simpa using h1⟩
theorem trim_spec {N:Nat} (h:N ≠ 0):N=trimM N*tenN (trimK N)∧trimM N % 10 ≠ 0:=trimF_spec N N (Nat.le_refl _) h
theorem trim_unique {N m k:Nat} (h:N=m*tenN k) (hm:m % 10 ≠ 0):trimM N=m∧trimK N=k:=by
  have hne:N ≠ 0:=by
    rw [h];exact Nat.mul_ne_zero (fun h0=>by rw [h0] at hm;exact hm rfl) (tenN_ne _)
  obtain ⟨a,b⟩:=trim_spec hne
  exact ten_unique (by rw [← a];exact h) b hm
def isd (x:Nat):Bool:=decide (48≤x∧x≤57)
def digs (l:List Nat):List Nat:=l.takeWhile isd
def undigs (l:List Nat):List Nat:=l.dropWhile isd
def takes (l:List Nat) (c:Nat):Bool:=l.head? == some c
def rest (l:List Nat) (c:Nat):List Nat:=if takes l c then l.tail else l
theorem digs_ok (l:List Nat):Okd (digs l):=by
  intro x hx
  have:=List.all_takeWhile (p:=isd) (l:=l)
  have h:=(List.all_eq_true.1 this) x hx
  simpa [isd] using h
theorem digs_len (l:List Nat):(digs l).length≤l.length:=(List.takeWhile_sublist isd).length_le
theorem undigs_len (l:List Nat):(undigs l).length≤l.length:=(List.dropWhile_sublist isd).length_le
theorem rest_len (l:List Nat) (c:Nat):(rest l c).length≤l.length:=by unfold rest;split <;> simp
theorem takes_cons (x:Nat) (l:List Nat) (c:Nat):takes (x::l) c=decide (x=c):=by by_cases h:x=c <;> simp [takes,h]
theorem takes_true {l:List Nat} {c:Nat} (h:takes l c=true):∃ l',l=c::l':=by
  cases l with
  | nil=>cases h
  | cons x l=>rw [takes_cons] at h;exact ⟨l,by rw [of_decide_eq_true h]⟩
structure Pt where
  neg:Bool
  whole:List Nat
  frac:List Nat
  down:Bool
  exp:List Nat
def fracL (l:List Nat):Option (List Nat × List Nat) :=
  if takes l 46 then (if digs l.tail=[] then none else some (digs l.tail,undigs l.tail)) else some ([],l)
def signL (l:List Nat):List Nat:=if takes l 45 then l.tail else rest l 43
def expL (l:List Nat):Option (Bool × List Nat × List Nat) :=
  if takes l 101=true∨takes l 69=true then (if digs (signL l.tail)=[] then none else some (takes l.tail 45,digs (signL l.tail),undigs (signL l.tail))) else some (false,[],l)
def wholeBad (d:List Nat):Prop:=d=[]∨(1<d.length∧d.head? = some 48)
instance (d : List Nat) : Decidable (wholeBad d) := by unfold wholeBad; infer_instance
def readL (l:List Nat):Option Pt :=
  if wholeBad (digs (rest l 45)) then none else
  match fracL (undigs (rest l 45)) with
  | none=>none
  | some (f,l3) =>
    match expL l3 with
    | none=>none
    | some (d,x,l4)=>if l4=[] then some ⟨takes l 45,digs (rest l 45),f,d,x⟩ else none
def expN (p:Pt):List Nat:=p.exp.dropWhile (· == 48)
def expV (p:Pt):Int:=if p.down then -(hval (expN p):Int) else (hval (expN p):Int)
def numberL (p:Pt):Option (Bool × Nat × Int) :=
  if hval (p.whole++p.frac)=0 then some (false,0,0) else
  if 6<(expN p).length then none else
  if (limbs (trimM (hval (p.whole++p.frac)))).length≤90∧-1200≤expV p - (p.frac.length:Int)+(trimK (hval (p.whole++p.frac)):Int)∧expV p - (p.frac.length:Int)+(trimK (hval (p.whole++p.frac)):Int)≤1200
  then some (p.neg,trimM (hval (p.whole++p.frac)),expV p - (p.frac.length:Int)+(trimK (hval (p.whole++p.frac)):Int)) else none
def parseN (l:List Nat):(Bool × Nat × Int) ⊕ Int :=
  if 2000<l.length then .inr 4 else
  match readL l with
  | none=>.inr 2
  | some p=>match numberL p with
    | none=>.inr 4
    | some r=>.inl r
theorem expV_bd {p:Pt} (h:(expN p).length≤6) (hx:Okd p.exp):-1000000≤expV p∧expV p≤1000000:=by
  have ho:Okd (expN p):=fun a ha=>hx a ((List.dropWhile_sublist _).subset ha)
  have h1:=hval_lt ho
  have h2:=tenN_le h
  have h3:tenN 6=1000000:=by decide
  unfold expV
  split <;> omega
theorem digs_all {a:List Nat} (h:Okd a):digs a=a∧undigs a=[]:=by
  induction a with
  | nil=>exact ⟨rfl,rfl⟩
  | cons x a ih =>
    have hx:isd x=true:=by have:=h x (by simp);simpa [isd] using this
    obtain ⟨h1,h2⟩:=ih h.tail
    constructor
    · unfold digs at *;rw [List.takeWhile_cons,if_pos hx,h1]
    · unfold undigs at *;rw [List.dropWhile_cons,if_pos hx,h2]
theorem digs_stop {a:List Nat} (h:Okd a) {c:Nat} (hc:isd c=false) (t:List Nat):digs (a++c::t)=a∧undigs (a++c::t)=c::t:=by
  induction a with
  | nil=>simp [digs,undigs,hc]
  | cons x a ih =>
    have hx:isd x=true:=by have:=h x (by simp);simpa [isd] using this
    obtain ⟨h1,h2⟩:=ih h.tail
    constructor
    · unfold digs at *;rw [List.cons_append,List.takeWhile_cons,if_pos hx,h1]
    · unfold undigs at *;rw [List.cons_append,List.dropWhile_cons,if_pos hx,h2]
def signT (neg:Bool):List Nat:=if neg then [45] else []
def fracT (f:List Nat):List Nat:=if f=[] then [] else 46::f
theorem takes_digit {l:List Nat} {x:Nat} {c:Nat} (h:48≤x) (hc:c<48):takes (x::l) c=false:=by rw [takes_cons];exact decide_eq_false (by omega)
theorem sign_takes {neg:Bool} {w t:List Nat} (hw:Okd w) (h0:w ≠ []):takes (signT neg++(w++t)) 45=neg∧rest (signT neg++(w++t)) 45=w++t:=by
  cases neg
  · cases w with
    | nil=>exact absurd rfl h0
    | cons x w =>
      have h1:takes (x::(w++t)) 45=false:=takes_digit (hw x (by simp)).1 (by decide)
      refine ⟨h1,?_⟩
      show rest (x::(w++t)) 45=_
      unfold rest;rw [h1];rfl
  · exact ⟨rfl,rfl⟩
def tailT (f e:List Nat):List Nat:=fracT f++e
theorem tail_head {f e:List Nat} (he:e=[]∨∃ c t,e=c::t∧isd c=false):tailT f e=[]∨∃ c t,tailT f e=c::t∧isd c=false:=by
  unfold tailT fracT
  split
  · simpa using he
  · exact .inr ⟨46,f++e,rfl,rfl⟩
theorem digs_tail {w t:List Nat} (hw:Okd w) (ht:t=[]∨∃ c r,t=c::r∧isd c=false):digs (w++t)=w∧undigs (w++t)=t:=by
  rcases ht with rfl | ⟨c,r,rfl,hc⟩
  · rw [List.append_nil];exact digs_all hw
  · exact digs_stop hw hc r
theorem weak46 {e:List Nat} (he:e=[]∨∃ c t,e=c::t∧isd c=false∧c ≠ 46):e=[]∨∃ c t,e=c::t∧isd c=false:=by
  rcases he with h | ⟨c,t,h1,h2,_⟩
  · exact .inl h
  · exact .inr ⟨c,t,h1,h2⟩
theorem frac_tail {f e:List Nat} (hf:Okd f) (he:e=[]∨∃ c t,e=c::t∧isd c=false∧c ≠ 46):fracL (tailT f e)=some (f,e):=by
  unfold tailT fracT
  split
  · rename_i h;subst h
    rw [List.nil_append]
    unfold fracL
    rcases he with rfl | ⟨c,t,rfl,hc,hc2⟩
    · rfl
    · rw [takes_cons,decide_eq_false hc2];rfl
  · rename_i h
    unfold fracL
    rw [List.cons_append,takes_cons,decide_eq_true rfl,if_pos rfl,List.tail_cons]
    obtain ⟨h1,h2⟩:=digs_tail (t:=e) hf (weak46 he)
    rw [h1,h2,if_neg h]
theorem read_form {neg:Bool} {w f e:List Nat} {d:Bool} {x:List Nat} (hw:Okd w) (hb:¬ wholeBad w) (hf:Okd f) (he:e=[]∨∃ c t,e=c::t∧isd c=false∧c ≠ 46) (hx:expL e=some (d,x,[])) :
    readL (signT neg++(w++tailT f e))=some ⟨neg,w,f,d,x⟩:=by
  have h0:w ≠ []:=fun h=>hb (.inl h)
  obtain ⟨s1,s2⟩:=sign_takes (neg:=neg) (t:=tailT f e) hw h0
  have he2:=weak46 he
  obtain ⟨d1,d2⟩:=digs_tail (t:=tailT f e) hw (tail_head he2)
  have:=readL_ok' (l:=signT neg++(w++tailT f e)) (f:=f) (l3:=e) (d:=d) (x:=x) (by rw [s2,d1];exact hb) (by rw [s2,d2];exact frac_tail hf he) hx
  rw [this,s1,s2,d1]
where
  readL_ok' {l:List Nat} {f l3:List Nat} {d:Bool} {x:List Nat} (h:¬ wholeBad (digs (rest l 45))) (h2:fracL (undigs (rest l 45))=some (f,l3)) (h3:expL l3=some (d,x,[])):readL l=some ⟨takes l 45,digs (rest l 45),f,d,x⟩:=by
    unfold readL;rw [if_neg h,h2];simp only;rw [h3];simp
theorem exp_none:expL []=some (false,[],[]):=rfl
theorem exp_down {c:Nat} {x:List Nat} (hc:c=101∨c=69) (hx:Okd x) (h0:x ≠ []):expL (c::45::x)=some (true,x,[]):=by
  unfold expL
  have h1:takes (c::45::x) 101=true∨takes (c::45::x) 69=true:=by rw [takes_cons,takes_cons];rcases hc with rfl | rfl <;> simp
  rw [if_pos h1,List.tail_cons]
  have h2:signL (45::x)=x:=rfl
  rw [h2,(digs_all hx).1,(digs_all hx).2,if_neg h0];rfl
theorem exp_up {c:Nat} {x:List Nat} (hc:c=101∨c=69) (hx:Okd x) (h0:x ≠ []):expL (c::43::x)=some (false,x,[]):=by
  unfold expL
  have h1:takes (c::43::x) 101=true∨takes (c::43::x) 69=true:=by rw [takes_cons,takes_cons];rcases hc with rfl | rfl <;> simp
  rw [if_pos h1,List.tail_cons]
  have h2:signL (43::x)=x:=rfl
  rw [h2,(digs_all hx).1,(digs_all hx).2,if_neg h0];rfl
theorem number_form {p:Pt} {N m j:Nat} (hN:hval (p.whole++p.frac)=N) (h0:N ≠ 0) (h6:(expN p).length≤6) (hm:N=m*tenN j) (hm0:m % 10 ≠ 0) (hl:(limbs m).length≤90) (hlo:-1200≤expV p - (p.frac.length:Int)+(j:Int)) (hhi:expV p - (p.frac.length:Int)+(j:Int)≤1200) :
    numberL p=some (p.neg,m,expV p - (p.frac.length:Int)+(j:Int)):=by
  obtain ⟨t1,t2⟩:=trim_unique hm hm0
  unfold numberL
  rw [hN,if_neg h0,if_neg (by omega),t1,t2,if_pos ⟨hl,hlo,hhi⟩]
theorem drop_zeros {k:Nat}:hval ((dec k).dropWhile (· == 48))=k∧((dec k).dropWhile (· == 48)).length≤(dec k).length:=by
  refine ⟨?_,(List.dropWhile_sublist _).length_le⟩
  have key:∀ l:List Nat,hval (l.dropWhile (· == 48))=hval l:=by
    intro l
    induction l with
    | nil=>rfl
    | cons x l ih =>
      rw [List.dropWhile_cons]
      split
      · rename_i h
        have hx:x=48:=by simpa using h
        subst hx
        rw [ih,hval_cons];simp
      · rfl
  rw [key,hval_dec]
theorem dec_head {N:Nat} (h:N ≠ 0):(dec N).head? ≠ some 48:=by
  induction N using Nat.strongRecOn with
  | _ N ih =>
    by_cases h1:N<10
    · rw [dec_small h1];simp;omega
    · rw [dec_step (by omega)]
      have h2:=ih (N / 10) (by omega) (by omega)
      cases hd:dec (N / 10) with
      | nil=>have:=dec_pos (N / 10);rw [hd] at this;simp at this
      | cons a l=>rw [hd] at h2;exact h2
theorem good_of_head {w:List Nat} (h0:w ≠ []) (h:w.head? ≠ some 48):¬ wholeBad w:=by
  rintro (h1 | ⟨_,h1⟩)
  · exact h0 h1
  · exact h h1
theorem dec_small7 {k:Nat} (h:k<1000000):(dec k).length≤6:=dec_len_le (by omega) (by rw [show tenN 6=1000000 by decide];exact h)
theorem ne_of_len {l:List Nat} (h:0<l.length):l ≠ []:=fun h0=>by rw [h0] at h;cases h
theorem expV_no {p:Pt} (h:p.exp=[]):expV p=0∧(expN p).length=0:=by
  have:expN p=[]:=by unfold expN;rw [h];rfl
  unfold expV;rw [this]
  exact ⟨by split <;> simp [hval_nil],rfl⟩
theorem expV_dec {p:Pt} {k:Nat} (h:p.exp=dec k) (hk:k<1000000):expV p=(if p.down=true then -(k:Int) else (k:Int))∧(expN p).length≤6:=by
  have e:expN p=(dec k).dropWhile (· == 48):=by unfold expN;rw [h]
  obtain ⟨h1,h2⟩:=@drop_zeros k
  have h3:=dec_small7 hk
  unfold expV;rw [e,h1]
  exact ⟨rfl,by omega⟩
/-- P2.4: the text of a number that is not 0 is read as it. -/
theorem parse_text {neg:Bool} {N:Nat} {e:Int} (h0:N % 10 ≠ 0) (hl:(limbs N).length≤90) (hd:(dec N).length≤900) (hlo:-1200≤e) (hhi:e≤1200):parseN (numTxt neg N e)=.inl (neg,N,e):=by
  have hne:N ≠ 0:=by intro h;rw [h] at h0;exact h0 rfl
  have hod:=dec_ok N
  have hdp:=dec_pos N
  have hdv:=hval_dec N
  have hdh:=dec_head hne
  have hlen:(numTxt neg N e).length≤2000:=by
    have:=sizeTxt_len2 (d:=dec N) (e:=e) hd ⟨hlo,hhi⟩
    unfold numTxt
    rw [if_neg hne]
    cases neg <;> simp <;> omega
  have ht:numTxt neg N e=signT neg++sizeTxt (dec N) e:=by unfold numTxt signT;rw [if_neg hne]
  have fin:∀ (p:Pt) (m j:Nat),readL (numTxt neg N e)=some p→p.neg=neg→numberL p=some (p.neg,N,e)→parseN (numTxt neg N e)=.inl (neg,N,e):=by
    intro p m j hr hn hnum
    unfold parseN
    rw [if_neg (by omega),hr]
    simp only
    rw [hnum,hn]
  generalize hdd:dec N=d at *
  rw [ht] at fin ⊢
  clear ht hlen
  have htk1:d.take 1++d.drop 1=d:=List.take_append_drop 1 d
  unfold sizeTxt at fin ⊢
  by_cases hA:(d.length:Int)+e < -5∨21<(d.length:Int)+e
  · rw [if_pos hA] at fin ⊢
    have hsh:expTxt d ((d.length:Int)+e - 1)=d.take 1++tailT (d.drop 1) (101::(if (d.length:Int)+e - 1<0 then 45 else 43)::dec ((d.length:Int)+e - 1).natAbs):=by
      unfold expTxt tailT fracT
      by_cases h1:1<d.length
      · have h2:d.drop 1 ≠ []:=fun h=>by have:=congrArg List.length h;simp at this;omega
        rw [if_pos h1,if_neg h2];simp
      · have h2:d.drop 1=[]:=List.drop_of_length_le (by omega)
        rw [if_neg h1,h2];simp
    rw [hsh] at fin ⊢
    have hw:Okd (d.take 1):=hod.take 1
    have hwb:¬ wholeBad (d.take 1):=by
      rintro (h1 | ⟨h1,_⟩)
      · have:=congrArg List.length h1;simp at this;rw [this] at hdp;simp at hdp
      · simp at h1;omega
    have hf:Okd (d.drop 1):=fun x hx=>hod x (List.mem_of_mem_drop hx)
    obtain ⟨k,hk⟩:∃ k,((d.length:Int)+e - 1).natAbs=k:=⟨_,rfl⟩
    have hkb:k<1000000:=by omega
    have hk0:dec k ≠ []:=fun h=>by have:=dec_pos k;rw [h] at this;simp at this
    rw [hk] at fin ⊢
    by_cases hs:(d.length:Int)+e - 1<0
    · rw [if_pos hs] at fin ⊢
      have hr:=read_form (neg:=neg) hw hwb hf (e:=101::45::dec k) (.inr ⟨101,_,rfl,rfl,by decide⟩) (exp_down (.inl rfl) (dec_ok k) hk0)
      refine fin _ N 0 hr rfl ?_
      obtain ⟨v1,v2⟩:=expV_dec (p:=⟨neg,d.take 1,d.drop 1,true,dec k⟩) rfl hkb
      simp only [if_true] at v1
      have hee:expV ⟨neg,d.take 1,d.drop 1,true,dec k⟩ - ((d.drop 1).length:Int)+((0:Nat):Int)=e:=by rw [v1];simp only [List.length_drop];omega
      have:=number_form (p:=⟨neg,d.take 1,d.drop 1,true,dec k⟩) (N:=N) (m:=N) (j:=0) (by simp only;rw [htk1,hdv]) hne v2 (by rw [tenN_zero,Nat.mul_one]) h0 hl (by rw [hee];exact hlo) (by rw [hee];exact hhi)
      rw [this,hee]
    · rw [if_neg hs] at fin ⊢
      have hr:=read_form (neg:=neg) hw hwb hf (e:=101::43::dec k) (.inr ⟨101,_,rfl,rfl,by decide⟩) (exp_up (.inl rfl) (dec_ok k) hk0)
      refine fin _ N 0 hr rfl ?_
      obtain ⟨v1,v2⟩:=expV_dec (p:=⟨neg,d.take 1,d.drop 1,false,dec k⟩) rfl hkb
      simp only [Bool.false_eq_true,if_false] at v1
      have hee:expV ⟨neg,d.take 1,d.drop 1,false,dec k⟩ - ((d.drop 1).length:Int)+((0:Nat):Int)=e:=by rw [v1];simp only [List.length_drop];omega
      have:=number_form (p:=⟨neg,d.take 1,d.drop 1,false,dec k⟩) (N:=N) (m:=N) (j:=0) (by simp only;rw [htk1,hdv]) hne v2 (by rw [tenN_zero,Nat.mul_one]) h0 hl (by rw [hee];exact hlo) (by rw [hee];exact hhi)
      rw [this,hee]
  · rw [if_neg hA] at fin ⊢
    by_cases hB:(d.length:Int)+e≤0
    · rw [if_pos hB] at fin ⊢
      obtain ⟨k,hk⟩:∃ k,(-((d.length:Int)+e)).toNat=k:=⟨_,rfl⟩
      rw [hk] at fin ⊢
      have hz0:List.replicate k 48++d ≠ []:=ne_of_len (by rw [List.length_append];omega)
      have hsh:[48,46]++List.replicate k 48++d=[48]++tailT (List.replicate k 48++d) []:=by unfold tailT fracT;rw [if_neg hz0];simp
      rw [hsh] at fin ⊢
      have hw:Okd [48]:=by intro x hx;simp at hx;omega
      have hwb:¬ wholeBad [48]:=by rintro (h1 | ⟨h1,_⟩) <;> simp at h1
      have hf:Okd (List.replicate k 48++d):=(zeros_ok k).append hod
      have hr:=read_form (neg:=neg) hw hwb hf (.inl rfl) exp_none
      refine fin _ N 0 hr rfl ?_
      obtain ⟨v1,v2⟩:=expV_no (p:=⟨neg,[48],List.replicate k 48++d,false,[]⟩) rfl
      have hv:hval ([48]++(List.replicate k 48++d))=N:=by
        rw [hval_append,hval_append,hval_zeros,hdv]
        simp [hval_one]
      have hee:expV ⟨neg,[48],List.replicate k 48++d,false,[]⟩ - ((List.replicate k 48++d).length:Int)+((0:Nat):Int)=e:=by rw [v1];simp only [List.length_append,List.length_replicate];omega
      have:=number_form (p:=⟨neg,[48],List.replicate k 48++d,false,[]⟩) (N:=N) (m:=N) (j:=0) hv hne (by omega) (by rw [tenN_zero,Nat.mul_one]) h0 hl (by rw [hee];exact hlo) (by rw [hee];exact hhi)
      rw [this,hee]
    · rw [if_neg hB] at fin ⊢
      by_cases hC:e<0
      · rw [if_pos hC] at fin ⊢
        obtain ⟨k,hk⟩:∃ k,((d.length:Int)+e).toNat=k:=⟨_,rfl⟩
        rw [hk] at fin ⊢
        have hkl:0<k∧k<d.length:=by omega
        have hz0:d.drop k ≠ []:=ne_of_len (by rw [List.length_drop];omega)
        have hsh:d.take k++[46]++d.drop k=d.take k++tailT (d.drop k) []:=by unfold tailT fracT;rw [if_neg hz0];simp
        rw [hsh] at fin ⊢
        have hw:Okd (d.take k):=hod.take k
        have hth:(d.take k).head? = d.head?:=by rw [List.head?_take,if_neg (by omega)]
        have hwb:¬ wholeBad (d.take k):=good_of_head (ne_of_len (by rw [List.length_take];omega)) (by rw [hth];exact hdh)
        have hf:Okd (d.drop k):=fun x hx=>hod x (List.mem_of_mem_drop hx)
        have hr:=read_form (neg:=neg) hw hwb hf (.inl rfl) exp_none
        refine fin _ N 0 hr rfl ?_
        obtain ⟨v1,v2⟩:=expV_no (p:=⟨neg,d.take k,d.drop k,false,[]⟩) rfl
        have hee:expV ⟨neg,d.take k,d.drop k,false,[]⟩ - ((d.drop k).length:Int)+((0:Nat):Int)=e:=by rw [v1];simp only [List.length_drop];omega
        have:=number_form (p:=⟨neg,d.take k,d.drop k,false,[]⟩) (N:=N) (m:=N) (j:=0) (by simp only;rw [List.take_append_drop,hdv]) hne (by omega) (by rw [tenN_zero,Nat.mul_one]) h0 hl (by rw [hee];exact hlo) (by rw [hee];exact hhi)
        rw [this,hee]
      · rw [if_neg hC] at fin ⊢
        obtain ⟨k,hk⟩:∃ k,e.toNat=k:=⟨_,rfl⟩
        rw [hk] at fin ⊢
        have hsh:d++List.replicate k 48=(d++List.replicate k 48)++tailT [] []:=by simp [tailT,fracT]
        rw [hsh] at fin ⊢
        have hw:Okd (d++List.replicate k 48):=hod.append (zeros_ok k)
        have hth:(d++List.replicate k 48).head? = d.head?:=by
          cases d with
          | nil=>simp at hdp
          | cons a b=>rfl
        have hwb:¬ wholeBad (d++List.replicate k 48):=good_of_head (ne_of_len (by rw [List.length_append];omega)) (by rw [hth];exact hdh)
        have hr:=read_form (neg:=neg) hw hwb Okd.nil (.inl rfl) exp_none
        refine fin _ N 0 hr rfl ?_
        obtain ⟨v1,v2⟩:=expV_no (p:=⟨neg,d++List.replicate k 48,[],false,[]⟩) rfl
        have hv:hval ((d++List.replicate k 48)++[])=N*tenN k:=by rw [List.append_nil,hval_append,hval_zeros,hdv,List.length_replicate];rfl
        have hee:expV ⟨neg,d++List.replicate k 48,[],false,[]⟩ - (([]:List Nat).length:Int)+(k:Int)=e:=by rw [v1];simp;omega
        have:=number_form (p:=⟨neg,d++List.replicate k 48,[],false,[]⟩) (N:=N*tenN k) (m:=N) (j:=k) hv (Nat.mul_ne_zero hne (tenN_ne _)) (by omega) rfl h0 hl (by rw [hee];exact hlo) (by rw [hee];exact hhi)
        rw [this,hee]
end Go.Proofs.YtijaphbccnadbaaGreatDoor
