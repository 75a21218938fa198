/- Texts of the claim. -/
import Derived.Test.YtnacbakcalcgaaaGreatDoorIj
import Derived.Deep.AppendLies
import Derived.Lib.TrailingZeros
set_option linter.unusedVariables false
set_option linter.unusedSimpArgs false
set_option maxHeartbeats 4000000
set_option maxRecDepth 100000
namespace Go.Proofs.YtnacbakcalcgaaaGreatDoor
open Go.RowKit Go.Shelf
theorem nodesL_app (l r:List MT):MT.nodesL (l++r)=MT.nodesL l+MT.nodesL r:=by
  induction l with
  | nil=>rw [List.nil_append,MT.nodesL_nil];omega
  | cons t l ih=>rw [List.cons_append,MT.nodesL_cons,MT.nodesL_cons,ih];omega
theorem nodesL_cut (l:List MT) (p j:Nat) (h:p≤j):MT.nodesL (l.take p++l.drop j)≤MT.nodesL l:=by
  have h1:MT.nodesL l=MT.nodesL (l.take p)+MT.nodesL (l.drop p):=by rw [← nodesL_app,List.take_append_drop]
  have h2:MT.nodesL (l.drop p)=MT.nodesL ((l.drop p).take (j - p))+MT.nodesL ((l.drop p).drop (j - p)):=by rw [← nodesL_app,List.take_append_drop]
  rw [List.drop_drop,show p+(j - p)=j by omega] at h2
  rw [nodesL_app]
  omega
structure ObjOk (t:MT):Prop where
  k7:t.c.k=7
  kn:t.c.kn=t.k.length
  vn:t.c.vn=t.v.length
  kv:t.k.length=t.v.length
  le:t.k.length≤300
  ris:Ris t.k
  nums:NumsOk t
  nodes:t.nodes≤2000
structure PlaceOk (t:MT) (s:ByteArray) (p j:Nat) (has:Bool):Prop where
  spl:Spl t.k s p j
  yes:has=true→ixL t.k s=some p∧j=p+1
  no:has=false→ixL t.k s=none∧j=p∧plL t.k s=p
structure UnsetY (t:MT) (p j:Nat) (y:MT):Prop where
  k7:y.c.k=7
  k:y.k=t.k.take p++t.k.drop j
  v:y.v=t.v.take p++t.v.drop j
  kn:y.c.kn=y.k.length
  vn:y.c.vn=y.v.length
  le:y.k.length+j=t.k.length+p
theorem UnsetY.same {t y z:MT} {p j:Nat} (hy:UnsetY t p j y) (hz:UnsetY t p j z):sameM y z=true :=
  sameM_obj hy.k7 hz.k7 (by rw [hy.k,hz.k]) (by rw [hy.v,hz.v]) (by rw [hy.vn,hz.vn,hy.v,hz.v])
theorem UnsetY.nodes {t y:MT} {p j:Nat} (h:ObjOk t) (hpj:p≤j) (hy:UnsetY t p j y):y.nodes≤1000000:=by
  have h1:=nodesL_cut t.v p j hpj
  have h2:=MT.nodes_eq t
  have h3:=h.nodes
  rw [MT.nodes_eq,hy.v]
  omega
theorem UnsetY.back {t y:MT} {s:ByteArray} {p j:Nat} (h:ObjOk t) (hp:PlaceOk t s p j false) (hy:UnsetY t p j y):sameM y t=true:=by
  obtain ⟨h1,h2,h3⟩:=hp.no rfl
  subst h2
  exact sameM_obj hy.k7 h.k7 (by rw [hy.k,List.take_append_drop]) (by rw [hy.v,List.take_append_drop]) (by rw [hy.vn,h.vn,hy.v,List.take_append_drop])
def Cel.bare (c:Cel):Cel:=⟨c.k,c.b,c.neg,none,c.mn,0,c.e,c.s,none,c.kn,0,none,c.vn,0⟩
mutual
def MT.bare:MT→MT | .mk c m k v=>.mk c.bare m k (MT.bareL v)
def MT.bareL:List MT→List MT | []=>[] | t::l=>MT.bare t::MT.bareL l
end
theorem MT.bareL_map (l:List MT):MT.bareL l=l.map MT.bare:=by
  induction l with
  | nil=>rw [MT.bareL];rfl
  | cons t l ih=>rw [MT.bareL,ih];rfl
theorem MT.bare_eq (t:MT):t.bare=.mk t.c.bare t.m t.k (t.v.map MT.bare):=by
  obtain ⟨c,m,k,v⟩:=t
  rw [MT.bare,MT.bareL_map];rfl
def Sml (t:MT):Prop:=∀ s,t.sub s→s.c.mn≤1000000∧s.c.kn≤1000000∧s.c.vn≤1000000
theorem Sml.part {t s:MT} (h:Sml t) (hs:s∈t.v):Sml s:=fun u hu=>h u (MT.sub_v hs hu)
def Ind (X:Nat→Prop) (w:World) (P:World→Prop):Prop:=∀ W,w.heap.size≤W.heap.size→(∀ k,k<w.heap.size→¬ X k→W.heap[k]? = w.heap[k]?)→P W
theorem Ind.to {X Y:Nat→Prop} {w w':World} {P Q:World→Prop} (h:Ind X w P) (hs:w.heap.size≤w'.heap.size) (hk:∀ k,k<w.heap.size→¬ X k→w'.heap[k]? = w.heap[k]?) (hy:∀ k,k<w.heap.size→Y k→X k) (hq:∀ W,P W→Q W):Ind Y w' Q :=
  fun W h1 h2=>hq W (h W (Nat.le_trans hs h1) (fun k hlt hx=>(h2 k (Nat.lt_of_lt_of_le hlt hs) (fun hyk=>hx (hy k hlt hyk))).trans (hk k hlt hx)))
theorem Ind.below {X:Nat→Prop} {w w':World} {P:World→Prop} (h:Ind X w P) (hb:Below w.heap.size w w'):Ind X w' P :=
  h.to hb.size (fun k hk _=>hb.block k hk) (fun _ _ h=>h) (fun _ h=>h)
theorem Ind.and {X:Nat→Prop} {w:World} {P Q:World→Prop} (h:Ind X w P) (h2:Ind X w Q):Ind X w (fun W=>P W∧Q W):=fun W a b=>⟨h W a b,h2 W a b⟩
theorem ind_rdv {X:Nat→Prop} {w:World} {ad:Option Addr} {vs:List Value} (h:RdV w ad vs) (hx:∀ a,ad=some a→¬ X a.block):Ind X w (fun W=>RdV W ad vs):=by
  intro W hs hk i hi
  obtain ⟨b,o,e,hlt,hc⟩:=h i hi
  exact ⟨b,o,e,Nat.lt_of_lt_of_le hlt hs,by rw [World.cell?_of_block (w:=w) (hk b hlt (hx _ e))];exact hc⟩
theorem ind_rd {X:Nat→Prop} {w:World} {ad:Option Addr} {xs:List Nat} (h:Rd w ad xs) (hx:∀ a,ad=some a→¬ X a.block):Ind X w (fun W=>Rd W ad xs):=by
  intro W hs hk i hi
  obtain ⟨b,o,e,hlt,hc⟩:=h i hi
  exact ⟨b,o,e,Nat.lt_of_lt_of_le hlt hs,by rw [World.cell?_of_block (w:=w) (hk b hlt (hx _ e))];exact hc⟩
end Go.Proofs.YtnacbakcalcgaaaGreatDoor
namespace Go.Proofs.YtnacbakcalcgaaaGreatDoor
open Go.RowKit
def tz (N:Nat):Nat:=Lib.ctz N N
def odd (N:Nat):Nat:=N / 2 ^ tz N
theorem lt_two_pow' (N:Nat):N<2 ^ N:=Nat.lt_two_pow_self
theorem tz_spec {N:Nat} (h:N ≠ 0):N=odd N*2 ^ tz N∧odd N % 2=1:=by
  obtain ⟨m,hm,_⟩:=Lib.ctzFrom_spec N N (by omega) (lt_two_pow' N)
  have ht:tz N=Lib.ctzFrom N N:=by unfold tz Lib.ctz;rw [if_neg h]
  rw [← ht] at hm
  have ho:odd N=2*m+1:=by
    unfold odd
    conv=>lhs;rw [hm]
    rw [← hm]
    conv=>lhs;lhs;rw [hm]
    rw [Nat.mul_div_cancel_left _ (Nat.pow_pos (by decide))]
  rw [ho]
  exact ⟨by rw [Nat.mul_comm];exact hm,by omega⟩
theorem two_unique {a b j k:Nat} (h:a*2 ^ j=b*2 ^ k) (ha:a % 2=1) (hb:b % 2=1):a=b∧j=k:=by
  have key:∀ {a b x y:Nat},a*2 ^ x=b*2 ^ y→a % 2=1→x<y→False:=by
    intro a b x y h1 h2 h3
    obtain ⟨d,rfl⟩:∃ d,y=x+(d+1):=⟨y - x - 1,by omega⟩
    have h4:a=b*2 ^ d*2:=by
      have h5:a*2 ^ x=(b*2 ^ d*2)*2 ^ x:=by rw [h1,Nat.pow_add,Nat.pow_succ];grind
      exact Nat.eq_of_mul_eq_mul_right (Nat.pow_pos (by decide)) h5
    omega
  rcases Nat.lt_trichotomy j k with h1 | h1 | h1
  · exact (key h ha h1).elim
  · subst h1;exact ⟨Nat.eq_of_mul_eq_mul_right (Nat.pow_pos (by decide)) h,rfl⟩
  · exact (key h.symm hb h1).elim
theorem tz_unique {N o k:Nat} (h:N=o*2 ^ k) (ho:o % 2=1):tz N=k∧odd N=o:=by
  have h0:N ≠ 0:=by
    intro h0
    rw [h0] at h
    have:=Nat.pos_of_ne_zero (n:=o) (by omega)
    have h2:0<o*2 ^ k:=Nat.mul_pos this (Nat.pow_pos (by decide))
    omega
  obtain ⟨a,b⟩:=tz_spec h0
  obtain ⟨c,d⟩:=two_unique (a.symm.trans h) b ho
  exact ⟨d,c⟩
theorem tz_mul {N:Nat} (h:N ≠ 0) (k:Nat):tz (N*2 ^ k)=tz N+k∧odd (N*2 ^ k)=odd N:=by
  obtain ⟨a,b⟩:=tz_spec h
  refine tz_unique ?_ b
  conv=>lhs;rw [a]
  rw [Nat.pow_add,Nat.mul_assoc]
theorem odd_pos {N:Nat} (h:N ≠ 0):0<odd N:=by have:=(tz_spec h).2;omega
def decN (s:Nat) (t:Int):Nat:=s*5 ^ (-t).toNat*2 ^ t.toNat
theorem decN_ne {s:Nat} {t:Int} (h:s ≠ 0):decN s t ≠ 0:=by
  unfold decN
  exact Nat.mul_ne_zero (Nat.mul_ne_zero h (Nat.pos_iff_ne_zero.1 (Nat.pow_pos (by decide)))) (Nat.pos_iff_ne_zero.1 (Nat.pow_pos (by decide)))
def Fv (M:Nat) (E:Int) (P:Nat):Prop:=M*5 ^ E.toNat=P*5 ^ (-E).toNat
theorem five_pos (k:Nat):0<5 ^ k:=Nat.pow_pos (by decide)
theorem twop_pos (k:Nat):0<2 ^ k:=Nat.pow_pos (by decide)
theorem five_two (k j:Nat):Nat.Coprime (5 ^ k) (2 ^ j):=Nat.Coprime.pow _ _ (by decide)
theorem ten_two_five (k:Nat):tenN k=2 ^ k*5 ^ k:=by unfold tenN;rw [← Nat.mul_pow]
theorem exact_back {s:Nat} {t:Int} (hs:s ≠ 0) {m k:Nat} (hN:decN s t=m*tenN k) (E:Int) (hE:E=(k:Int) - ((-t).toNat:Int)) :
    ∃ P,Fv m E P∧P ≠ 0∧odd P=odd s∧E+(tz P:Int)=t+(tz s:Int):=by
  rw [ten_two_five] at hN
  unfold decN at hN
  have key:∃ P,Fv m E P∧P*2 ^ k=s*2 ^ t.toNat:=by
    by_cases h0:0≤E
    · obtain ⟨e,rfl⟩:∃ e:Nat,E=(e:Int):=⟨E.toNat,by omega⟩
      have hk:k=e+(-t).toNat:=by omega
      refine ⟨m*5 ^ e,?_,?_⟩
      · unfold Fv
        rw [show ((e:Int)).toNat=e by omega,show (-(e:Int)).toNat=0 by omega,Nat.pow_zero,Nat.mul_one]
      · refine Nat.eq_of_mul_eq_mul_right (five_pos (-t).toNat) ?_
        have h2:5 ^ k=5 ^ e*5 ^ (-t).toNat:=by rw [hk,Nat.pow_add]
        rw [h2] at hN
        grind
    · obtain ⟨e,he⟩:∃ e:Nat,E = -(e:Int):=⟨(-E).toNat,by omega⟩
      have hk:(-t).toNat=e+k:=by omega
      have h3:m*2 ^ k=s*2 ^ t.toNat*5 ^ e:=by
        refine Nat.eq_of_mul_eq_mul_right (five_pos k) ?_
        rw [hk,Nat.pow_add] at hN
        grind
      have hd:5 ^ e ∣ m:=by
        refine Nat.Coprime.dvd_of_dvd_mul_right (five_two e k) ⟨s*2 ^ t.toNat,?_⟩
        rw [h3,Nat.mul_comm]
      obtain ⟨P,hP⟩:=hd
      refine ⟨P,?_,?_⟩
      · unfold Fv
        rw [show E.toNat=0 by omega,show (-E).toNat=e by omega,Nat.pow_zero,Nat.mul_one,hP,Nat.mul_comm]
      · refine Nat.eq_of_mul_eq_mul_right (five_pos e) ?_
        rw [← h3,hP]
        grind
  obtain ⟨P,h1,h2⟩:=key
  have hP:P ≠ 0:=by
    intro h0
    rw [h0,Nat.zero_mul] at h2
    exact Nat.mul_ne_zero hs (Nat.pos_iff_ne_zero.1 (twop_pos _)) h2.symm
  have e1:=tz_mul hP k
  have e2:=tz_mul hs t.toNat
  rw [h2] at e1
  exact ⟨P,h1,hP,by rw [← e1.2,e2.2],by omega⟩
theorem fv_step {M M' P P' d:Nat} {E E':Int} (h:Fv M E P) (h':Fv M' E' P') (hP:P=P'*2 ^ d) (hE:E'=E+(d:Int)):M=M'*tenN d:=by
  unfold Fv at h h'
  rw [ten_two_five]
  have e1:E'.toNat+(-E).toNat=E.toNat+(-E').toNat+d:=by omega
  refine Nat.eq_of_mul_eq_mul_right (five_pos (E.toNat+(-E').toNat)) ?_
  have h2:5 ^ E'.toNat*5 ^ (-E).toNat=5 ^ (E.toNat+(-E').toNat)*5 ^ d:=by rw [← Nat.pow_add,← Nat.pow_add,e1]
  have h3:5 ^ (E.toNat+(-E').toNat)=5 ^ E.toNat*5 ^ (-E').toNat:=Nat.pow_add _ _ _
  generalize 5 ^ (E.toNat+(-E').toNat)=X at *
  generalize 5 ^ E.toNat=a at *
  generalize 5 ^ (-E').toNat=b' at *
  generalize 5 ^ E'.toNat=a' at *
  generalize 5 ^ (-E).toNat=b at *
  generalize 5 ^ d=f at *
  generalize 2 ^ d=g at *
  calc M*X=M*a*b':=by rw [h3];grind
    _=P*b*b':=by rw [h]
    _=g*b*(P'*b'):=by rw [hP];grind
    _=g*b*(M'*a'):=by rw [h']
    _=g*M'*(a'*b):=by grind
    _=g*M'*(X*f):=by rw [h2]
    _=M'*(g*f)*X:=by grind
theorem fv_unique {M M' P P':Nat} {E E':Int} (h:Fv M E P) (h':Fv M' E' P') (hM:M % 10 ≠ 0) (hM':M' % 10 ≠ 0) (hP:P ≠ 0) (hP':P' ≠ 0) (ho:odd P=odd P') (ht:E+(tz P:Int)=E'+(tz P':Int)):M=M'∧E=E':=by
  have a:=(tz_spec hP).1
  have b:=(tz_spec hP').1
  rcases Int.lt_or_le E' E with h0 | h0
  · obtain ⟨d,hd⟩:∃ d:Nat,E=E'+(d:Int):=⟨(E - E').toNat,by omega⟩
    have h1:=fv_step (d:=d) h' h (by
      rw [b,← ho,show tz P'=tz P+d by omega,Nat.pow_add,← Nat.mul_assoc,← a]) (by omega)
    have h2:d=0:=by
      rcases d with _ | d
      · rfl
      · rw [tenN_succ] at h1;rw [h1,← Nat.mul_assoc] at hM';exact absurd (Nat.mul_mod_left _ _) hM'
    omega
  · obtain ⟨d,hd⟩:∃ d:Nat,E'=E+(d:Int):=⟨(E' - E).toNat,by omega⟩
    have h1:=fv_step (d:=d) h h' (by
      rw [a,ho,show tz P=tz P'+d by omega,Nat.pow_add,← Nat.mul_assoc,← b]) hd
    have h2:d=0:=by
      rcases d with _ | d
      · rfl
      · rw [tenN_succ] at h1;rw [h1,← Nat.mul_assoc] at hM;exact absurd (Nat.mul_mod_left _ _) hM
    subst h2
    exact ⟨by rw [h1];simp [tenN],by omega⟩
def fives (M:Nat) (E:Int):Option Nat:=if 0≤E then some (M*5 ^ E.toNat) else if M % 5 ^ (-E).toNat=0 then some (M / 5 ^ (-E).toNat) else none
theorem fives_iff {M P:Nat} {E:Int}:fives M E=some P ↔ Fv M E P:=by
  unfold fives Fv
  by_cases h:0≤E
  · rw [if_pos h,show (-E).toNat=0 by omega,Nat.pow_zero,Nat.mul_one]
    simp
  · rw [if_neg h,show E.toNat=0 by omega,Nat.pow_zero,Nat.mul_one]
    have hp:=five_pos (-E).toNat
    generalize 5 ^ (-E).toNat=Q at *
    constructor
    · intro h1
      split at h1
      · rename_i h2
        cases h1
        exact (Nat.div_mul_cancel (Nat.dvd_of_mod_eq_zero h2)).symm
      · cases h1
    · rintro rfl
      rw [Nat.mul_mod_left,if_pos rfl,Nat.mul_div_cancel _ hp]
theorem fives_ne {M P:Nat} {E:Int} (hM:M ≠ 0) (h:fives M E=some P):P ≠ 0:=by
  intro h0
  have h1:=fives_iff.1 h
  unfold Fv at h1
  rw [h0,Nat.zero_mul] at h1
  exact Nat.mul_ne_zero hM (Nat.pos_iff_ne_zero.1 (five_pos _)) h1
def Lay (e f:Nat):Prop:=(e=5∧f=10)∨(e=8∧f=23)∨(e=11∧f=52)
def layOf (width:Int):Option (Nat × Nat):=if width=16 then some (5,10) else if width=32 then some (8,23) else if width=64 then some (11,52) else none
theorem layOf_lay {width:Int} {e f:Nat} (h:layOf width=some (e,f)):Lay e f:=by
  unfold layOf at h
  repeat' split at h
  all_goals first | (cases h;unfold Lay;omega) | cases h
def fEx (e f x:Nat):Nat:=x / 2 ^ f % 2 ^ e
def fFr (f x:Nat):Nat:=x % 2 ^ f
def fNeg (e f x:Nat):Bool:=decide (x / 2 ^ (e+f) % 2=1)
def kindF (e f x:Nat):Nat:=if fEx e f x=2 ^ e - 1 then (if fFr f x=0 then 3 else 4) else if fEx e f x=0∧fFr f x=0 then 2 else 1
def leastF (e f:Nat):Int:=2 - 2 ^ (e - 1) - (f:Int)
def sizeF (e f x:Nat):Nat:=if fEx e f x=0 then fFr f x else fFr f x+2 ^ f
def twosF (e f x:Nat):Int:=if fEx e f x=0 then leastF e f else leastF e f+(fEx e f x:Int) - 1
theorem sizeF_ne {e f x:Nat} (h:kindF e f x=1):sizeF e f x ≠ 0:=by
  unfold kindF at h
  unfold sizeF
  have:=twop_pos f
  repeat' split at h
  all_goals (try omega)
  split <;> omega
theorem sizeF_lt (e f x:Nat):sizeF e f x<2 ^ (f+1):=by
  unfold sizeF fFr
  have:=Nat.mod_lt x (twop_pos f)
  rw [Nat.pow_succ]
  split <;> omega
theorem twosF_bd {e f x:Nat} (hl:Lay e f):-1074≤twosF e f x∧twosF e f x≤972:=by
  unfold twosF leastF
  have:=Nat.mod_lt (x / 2 ^ f) (twop_pos e)
  have h2:fEx e f x<2 ^ e:=this
  rcases hl with ⟨rfl,rfl⟩ | ⟨rfl,rfl⟩ | ⟨rfl,rfl⟩ <;> (split <;> omega)
def lenB (N:Nat):Nat:=Lib.bitLen N
def joinF (e f o:Nat) (t:Int):Option Nat :=
  let top:Int:=t+(lenB o:Int) - 1
  let place:Int:=max (top - (f:Int)) (leastF e f)
  if top > 2 ^ (e - 1) - 1∨t<place then none else some (o*2 ^ (t - place).toNat+(place - leastF e f).toNat*2 ^ f)
theorem lenB_bounds {o:Nat} (h0:o ≠ 0) (h:o<2 ^ 64):1≤lenB o∧2 ^ (lenB o - 1)≤o∧o<2 ^ lenB o:=bitLen_bounds o o (Nat.le_refl _) h h0
theorem two_lt_iff {a b:Nat}:2 ^ a<2 ^ b ↔ a<b:=Nat.pow_lt_pow_iff_right (by decide)
theorem len_scaled {o d L a b:Nat} (h1:1≤L) (h2:2 ^ (L - 1)≤o) (h3:o<2 ^ L):(o*2 ^ d<2 ^ b→L - 1+d<b)∧(2 ^ a≤o*2 ^ d→a<L+d)∧2 ^ (L - 1+d)≤o*2 ^ d∧o*2 ^ d<2 ^ (L+d):=by
  have e1:2 ^ (L - 1+d)≤o*2 ^ d:=by rw [Nat.pow_add];exact Nat.mul_le_mul_right _ h2
  have e2:o*2 ^ d<2 ^ (L+d):=by rw [Nat.pow_add];exact Nat.mul_lt_mul_of_pos_right h3 (twop_pos d)
  exact ⟨fun h=>two_lt_iff.1 (Nat.lt_of_le_of_lt e1 h),fun h=>two_lt_iff.1 (Nat.lt_of_le_of_lt h e2),e1,e2⟩
theorem lay_small {e f:Nat} (hl:Lay e f):2 ^ (f+1)≤2 ^ 64:=Nat.pow_le_pow_right (by decide) (by rcases hl with ⟨rfl,rfl⟩ | ⟨rfl,rfl⟩ | ⟨rfl,rfl⟩ <;> omega)
theorem size_le_64 {e f x:Nat} (hl:Lay e f):sizeF e f x<2 ^ 64:=Nat.lt_of_lt_of_le (sizeF_lt e f x) (lay_small hl)
theorem join_back {e f o y:Nat} {t:Int} (hl:Lay e f) (ho:o % 2=1) (h64:o<2 ^ 64) (h:joinF e f o t=some y) :
    y<2 ^ (e+f)∧kindF e f y=1∧odd (sizeF e f y)=o∧twosF e f y+(tz (sizeF e f y):Int)=t:=by
  obtain ⟨b1,b2,b3⟩:=lenB_bounds (o:=o) (by omega) h64
  unfold joinF at h
  have hp:(2:Int) ^ (e - 1)*2=((2 ^ e:Nat):Int):=by rcases hl with ⟨rfl,rfl⟩ | ⟨rfl,rfl⟩ | ⟨rfl,rfl⟩ <;> rfl
  have he4:4≤2 ^ e:=by rcases hl with ⟨rfl,rfl⟩ | ⟨rfl,rfl⟩ | ⟨rfl,rfl⟩ <;> decide
  have hle2:leastF e f=2 - 2 ^ (e - 1) - (f:Int):=rfl
  have hfp:=twop_pos f
  by_cases hc:t+(lenB o:Int) - 1 - (f:Int) ≥ leastF e f
  · have hm:max (t+(lenB o:Int) - 1 - (f:Int)) (leastF e f)=t+(lenB o:Int) - 1 - (f:Int):=by omega
    simp only [hm] at h
    split at h
    · cases h
    rename_i hn
    simp only [Option.some.injEq] at h
    obtain ⟨d,hd⟩:∃ d:Nat,t - (t+(lenB o:Int) - 1 - (f:Int))=(d:Int):=⟨(t - (t+(lenB o:Int) - 1 - (f:Int))).toNat,by omega⟩
    obtain ⟨p,hpp⟩:∃ p:Nat,t+(lenB o:Int) - 1 - (f:Int) - leastF e f=(p:Int):=⟨(t+(lenB o:Int) - 1 - (f:Int) - leastF e f).toNat,by omega⟩
    rw [hd,hpp,Int.toNat_natCast,Int.toNat_natCast] at h
    have hLd:lenB o+d=f+1:=by omega
    obtain ⟨_,_,c3,c4⟩:=len_scaled (d:=d) (a:=0) (b:=0) b1 b2 b3
    rw [show lenB o - 1+d=f by omega] at c3
    rw [hLd] at c4
    obtain ⟨u,hu⟩:∃ u,o*2 ^ d=2 ^ f+u:=⟨o*2 ^ d - 2 ^ f,by omega⟩
    rw [Nat.pow_succ] at c4
    have hy:y=u+2 ^ f*(p+1):=by rw [← h,hu];grind
    have hul:u<2 ^ f:=by omega
    have hpe:p+1<2 ^ e - 1:=by omega
    have hex:fEx e f y=p+1:=by
      unfold fEx
      rw [hy,Nat.add_mul_div_left _ _ hfp,Nat.div_eq_of_lt hul,Nat.zero_add,Nat.mod_eq_of_lt (by omega)]
    have hfr:fFr f y=u:=by unfold fFr;rw [hy,Nat.add_mul_mod_self_left,Nat.mod_eq_of_lt hul]
    have hsz:sizeF e f y=o*2 ^ d:=by unfold sizeF;rw [hex,if_neg (by omega),hfr,hu,Nat.add_comm]
    obtain ⟨q1,q2⟩:=tz_unique (N:=o*2 ^ d) rfl ho
    refine ⟨?_,?_,by rw [hsz];exact q2,?_⟩
    · rw [hy,Nat.add_comm e f,Nat.pow_add]
      have:2 ^ f*(p+1+1)≤2 ^ f*2 ^ e:=Nat.mul_le_mul_left _ (by omega)
      rw [Nat.mul_add _ (p+1) 1,Nat.mul_one] at this
      omega
    · unfold kindF;rw [hex,if_neg (by omega),if_neg (by omega)]
    · rw [hsz,q1];unfold twosF;rw [hex,if_neg (by omega)];omega
  · have hm:max (t+(lenB o:Int) - 1 - (f:Int)) (leastF e f)=leastF e f:=by omega
    simp only [hm] at h
    split at h
    · cases h
    rename_i hn
    simp only [Option.some.injEq] at h
    obtain ⟨d,hd⟩:∃ d:Nat,t - leastF e f=(d:Int):=⟨(t - leastF e f).toNat,by omega⟩
    rw [hd,Int.toNat_natCast,show (leastF e f - leastF e f).toNat=0 by omega,Nat.zero_mul,Nat.add_zero] at h
    obtain ⟨_,_,c3,c4⟩:=len_scaled (d:=d) (a:=0) (b:=0) b1 b2 b3
    have hlt:o*2 ^ d<2 ^ f:=Nat.lt_of_lt_of_le c4 (Nat.pow_le_pow_right (by decide) (by omega))
    have hpos:0<o*2 ^ d:=Nat.mul_pos (by omega) (twop_pos d)
    have hex:fEx e f y=0:=by unfold fEx;rw [← h,Nat.div_eq_of_lt hlt,Nat.zero_mod]
    have hfr:fFr f y=o*2 ^ d:=by unfold fFr;rw [← h,Nat.mod_eq_of_lt hlt]
    have hsz:sizeF e f y=o*2 ^ d:=by unfold sizeF;rw [hex,if_pos rfl,hfr]
    obtain ⟨q1,q2⟩:=tz_unique (N:=o*2 ^ d) rfl ho
    refine ⟨?_,?_,by rw [hsz];exact q2,?_⟩
    · rw [← h];exact Nat.lt_of_lt_of_le hlt (Nat.pow_le_pow_right (by decide) (by omega))
    · unfold kindF;rw [hex,if_neg (by omega),hfr,if_neg (by omega)]
    · rw [hsz,q1];unfold twosF;rw [hex,if_pos rfl];omega
def toN (e f M:Nat) (E:Int):Option Nat :=
  match fives M E with
  | none=>none
  | some P=>if odd P<2 ^ 64 then joinF e f (odd P) (E+(tz P:Int)) else none
def exN (e f x:Nat):Nat:=decN (sizeF e f x) (twosF e f x)
def exM (e f x:Nat):Nat:=trimM (exN e f x)
def exE (e f x:Nat):Int:=(trimK (exN e f x):Int) - ((-twosF e f x).toNat:Int)
theorem exM_ten {e f x:Nat} (h:kindF e f x=1):exM e f x % 10 ≠ 0:=(trim_spec (decN_ne (sizeF_ne h))).2
theorem exM_back {e f x:Nat} (h:kindF e f x=1):∃ P,fives (exM e f x) (exE e f x)=some P∧P ≠ 0∧odd P=odd (sizeF e f x)∧exE e f x+(tz P:Int)=twosF e f x+(tz (sizeF e f x):Int):=by
  obtain ⟨P,h1,h2,h3,h4⟩:=exact_back (sizeF_ne h) (trim_spec (decN_ne (t:=twosF e f x) (sizeF_ne h))).1 _ rfl
  exact ⟨P,fives_iff.2 h1,h2,h3,h4⟩
theorem ex_to {e f M y:Nat} {E:Int} (hl:Lay e f) (hM:M % 10 ≠ 0) (h:toN e f M E=some y):y<2 ^ (e+f)∧kindF e f y=1∧exM e f y=M∧exE e f y=E:=by
  unfold toN at h
  split at h
  · cases h
  rename_i P hP
  split at h
  · rename_i h64
    have hP0:=fives_ne (by omega:M ≠ 0) hP
    obtain ⟨h1,h2,h3,h4⟩:=join_back hl (tz_spec hP0).2 h64 h
    obtain ⟨P',g1,g2,g3,g4⟩:=exM_back h2
    obtain ⟨q1,q2⟩:=fv_unique (fives_iff.1 g1) (fives_iff.1 hP) (exM_ten h2) hM g2 hP0 (by rw [g3,h3]) (by omega)
    exact ⟨h1,h2,q1,q2⟩
  · cases h
theorem tz_limb {xs:List Nat} {i x:Nat} (hz:∀ j,j<i→xs.getD j 0=0) (hx:xs.getD i 0=x) (h0:x ≠ 0) (hb:x<B32):tz (val xs)=32*i+tz x∧tz x<32:=by
  have hil:i<xs.length:=by
    rcases Nat.lt_or_ge i xs.length with h | h
    · exact h
    · rw [getD_out h] at hx;exact absurd hx.symm h0
  have e1:val xs=B32 ^ i*val (xs.drop i):=by
    rw [val_take_drop xs i (by omega)]
    have:val (xs.take i)=0:=by
      clear hx hil
      induction i with
      | zero=>rfl
      | succ i ih =>
        have h1:=ih (fun j hj=>hz j (by omega))
        by_cases hl:i<xs.length
        · rw [val_take_succ xs i hl,h1,hz i (by omega)];simp
        · rw [List.take_of_length_le (by omega)];rwa [List.take_of_length_le (by omega)] at h1
    rw [this,Nat.zero_add]
  have e2:xs.drop i=x::xs.drop (i+1):=by rw [List.drop_eq_getElem_cons hil,← hx];simp [List.getD,hil]
  obtain ⟨a,b⟩:=tz_spec h0
  have hk:tz x<32:=by
    apply Classical.byContradiction
    intro hc
    have h1:2 ^ 32≤2 ^ tz x:=Nat.pow_le_pow_right (by decide) (by omega)
    have h2:=Nat.le_mul_of_pos_left (2 ^ tz x) (odd_pos h0)
    rw [← a] at h2
    rw [B32_eq] at hb
    omega
  refine ⟨?_,hk⟩
  obtain ⟨d,hd⟩:∃ d,32=tz x+(d+1):=⟨31 - tz x,by omega⟩
  have hB:B32=2 ^ tz x*(2 ^ d*2):=by
    rw [← Nat.pow_succ,← Nat.pow_add,show tz x+d.succ=32 by omega];rfl
  refine (tz_unique (o:=odd x+2 ^ d*2*val (xs.drop (i+1))) ?_ ?_).1
  · rw [e1,e2]
    simp only [val]
    generalize val (xs.drop (i+1))=V
    have hBi:B32 ^ i=2 ^ (32*i):=by rw [Nat.pow_mul];rfl
    rw [hBi,Nat.pow_add]
    generalize 2 ^ (32*i)=I
    conv=>lhs;rw [a]
    rw [hB]
    grind
  · rw [Nat.mul_comm (2 ^ d) 2,Nat.mul_assoc,Nat.add_mul_mod_self_left];exact b
theorem from_step {xs:List Nat} {i n x:Nat} (ho:Okl xs) (hi:i<xs.length) (hx:xs.getD i 0=x) (hn:n<32*i+32) :
    (32*i<n→val (xs.take i) / 2 ^ n=0∧val (xs.take (i+1)) / 2 ^ n=x / 2 ^ (n - 32*i)) ∧
    (n≤32*i→val (xs.take i) / 2 ^ n<2 ^ (32*i - n)∧val (xs.take (i+1)) / 2 ^ n=val (xs.take i) / 2 ^ n+x*2 ^ (32*i - n)):=by
  have hB:B32 ^ i=2 ^ (32*i):=by rw [Nat.pow_mul];rfl
  have h1:=val_lt (ho.take i)
  rw [List.length_take,Nat.min_eq_left (by omega),hB] at h1
  rw [val_take_succ xs i hi,hx,hB]
  generalize val (xs.take i)=V at *
  constructor
  · intro h
    obtain ⟨k,rfl⟩:∃ k,n=32*i+k:=⟨n - 32*i,by omega⟩
    constructor
    · exact Nat.div_eq_of_lt (Nat.lt_of_lt_of_le h1 (Nat.pow_le_pow_right (by decide) (by omega)))
    · rw [Nat.pow_add,← Nat.div_div_eq_div_mul,Nat.add_mul_div_left _ _ (twop_pos _),Nat.div_eq_of_lt h1,Nat.zero_add,show 32*i+k - 32*i=k by omega]
  · intro h
    obtain ⟨k,hk⟩:∃ k,32*i=n+k:=⟨32*i - n,by omega⟩
    rw [hk,show n+k - n=k by omega]
    rw [hk] at h1
    constructor
    · rw [Nat.div_lt_iff_lt_mul (twop_pos _),Nat.mul_comm,← Nat.pow_add];exact h1
    · rw [Nat.pow_add,Nat.mul_assoc,Nat.add_mul_div_left _ _ (twop_pos _),Nat.mul_comm x]
theorem from_start {xs:List Nat} (ho:Okl xs) (n:Nat):val (xs.take (n / 32)) / 2 ^ n=0:=by
  refine Nat.div_eq_of_lt (Nat.lt_of_lt_of_le (val_lt (ho.take _)) ?_)
  have hB:B32 ^ (xs.take (n / 32)).length=2 ^ (32*(xs.take (n / 32)).length):=by rw [Nat.pow_mul];rfl
  rw [hB]
  refine Nat.pow_le_pow_right (by decide) ?_
  rw [List.length_take]
  omega
theorem from_le {xs:List Nat} {i:Nat} (n:Nat) (hi:i≤xs.length):val (xs.take i) / 2 ^ n≤val xs / 2 ^ n:=by
  refine Nat.div_le_div_right ?_
  rw [val_take_drop xs i hi]
  exact Nat.le_add_right _ _
theorem odd_bits {P:Nat} (h:P ≠ 0):(bitsN P:Int) - (tz P:Int) > 64 ↔ ¬ odd P<2 ^ 64:=by
  obtain ⟨t,h1,h2,h3⟩:=bitsN_bounds h
  obtain ⟨a,b⟩:=tz_spec h
  rw [h1]
  constructor
  · intro h4 h5
    have h6:P<2 ^ (64+tz P):=by
      conv=>lhs;rw [a]
      rw [Nat.pow_add];exact Nat.mul_lt_mul_of_pos_right h5 (twop_pos _)
    have:=two_lt_iff.1 (Nat.lt_of_le_of_lt h2 h6)
    omega
  · intro h4
    apply Classical.byContradiction
    intro h5
    apply h4
    have h6:P<2 ^ (64+tz P):=Nat.lt_of_lt_of_le h3 (Nat.pow_le_pow_right (by decide) (by omega))
    have h7:odd P*2 ^ tz P<2 ^ 64*2 ^ tz P:=by rw [← a,← Nat.pow_add];exact h6
    exact Nat.lt_of_mul_lt_mul_right h7
end Go.Proofs.YtnacbakcalcgaaaGreatDoor
namespace Go.Proofs.YtnacbakcalcgaaaGreatDoor
open Go.RowKit Go.Sort
theorem below_box' (w:World) (a:Array Value) (t:TypeId):Below w.heap.size w (w.alloc (.cells a t)):=(Below.refl _ _).alloc (Nat.le_refl _) _
def layV (e f:Nat):Value:=.agg #[.int .i64 (e:Int),.int .i64 (f:Int)]
theorem IntBelow.mk {a b:Int} {w w':World} (h:a=b) (hb:Below w.heap.size w w'):IntBelow b w (.returned (.int .i64 a)) w':=⟨by rw [h],hb⟩
theorem highest_any {e f:Nat} (hl:Lay e f) (w:World):Calls Tryz.prog 203 #[layV e f] w (IntBelow (2 ^ e - 1) w):=by
  have HB:=Lib.hid (fun a=>below_box' w a 151)
  rcases hl with ⟨rfl,rfl⟩ | ⟨rfl,rfl⟩ | ⟨rfl,rfl⟩
  all_goals
    go_enter Tryz.func203,Tryz.ntmps203
    unfold layV
    go_wp2
    go_ret
    exact IntBelow.mk (by rfl) (HB.out _)
theorem bias_any {e f:Nat} (hl:Lay e f) (w:World):Calls Tryz.prog 167 #[layV e f] w (IntBelow (2 ^ (e - 1) - 1) w):=by
  have HB:=Lib.hid (fun a=>below_box' w a 151)
  rcases hl with ⟨rfl,rfl⟩ | ⟨rfl,rfl⟩ | ⟨rfl,rfl⟩
  all_goals
    go_enter Tryz.func167,Tryz.ntmps167
    unfold layV
    go_wp2
    go_ret
    exact IntBelow.mk (by rfl) (HB.out _)
theorem lay_bd {e f:Nat} (hl:Lay e f):5≤e∧e≤11∧10≤f∧f≤52∧(15:Int)≤2 ^ (e - 1) - 1∧(2:Int) ^ (e - 1) - 1≤1023:=by
  rcases hl with ⟨rfl,rfl⟩ | ⟨rfl,rfl⟩ | ⟨rfl,rfl⟩ <;> decide
theorem leastPlace_any {e f:Nat} (hl:Lay e f) (w:World):Calls Tryz.prog 166 #[layV e f] w (IntBelow (leastF e f) w):=by
  have KB:=Lib.hid (fun W=>bias_any hl W)
  have HB:=Lib.hid (below_box' w #[.int .i64 (e:Int),.int .i64 (f:Int)] 151)
  obtain ⟨_,_,f1,f2,b1,b2⟩:=lay_bd hl
  have hr:1 - ((2:Int) ^ (e - 1) - 1) - (f:Int)=leastF e f:=by unfold leastF;omega
  generalize leastF e f=R at *
  generalize (2:Int) ^ (e - 1) - 1=b at *
  generalize hW:w.alloc (.cells #[.int .i64 (e:Int),.int .i64 (f:Int)] 151)=W at *
  have HW:=Lib.hid hW
  have cB:∀ d os,Calls Tryz.prog 167 #[.agg #[.int .i64 (e:Int),.int .i64 (f:Int)]] (grow (redrawn W d) os) fun r w''=>r=.returned (.int .i64 b)∧∃ p:Regrown,w''=grow (redrawn W p.d) p.os :=
    fun d os=>Calls.regrown_of (KB.out _)
  have c0:W.cell? ⟨w.heap.size,0,none⟩=some (.int .i64 (e:Int)):=by rw [← hW];simp
  have c1:W.cell? ⟨w.heap.size,1,none⟩=some (.int .i64 (f:Int)):=by rw [← hW];simp
  have k0:=cell_regrown c0
  have k1:=cell_regrown c1
  have HR:=Lib.hid hr
  clear hW KB hr
  unfold layV
  go_enter Tryz.func166,Tryz.ntmps166
  go_wp2_with fail
  rw [HW.out]
  refine wp_region_quiet_below (by kernel_rfl) (by kernel_rfl) ?_
  repeat (quiet_step (first | with_reducible exact cB _ _))
  refine wpQuiet_nil ?_
  intro _ hw'
  obtain ⟨⟨dq,osq⟩,hw''⟩:=hw'
  subst hw''
  go_wp2
  go_ret
  exact IntBelow.mk (by rw [← HR.out,IntWalk.i64_in (1 - b) (by omega),IntWalk.i64_in _ (by omega)]) (HB.out.trans ((below_regrown W dq osq).mono (by rw [← HW.out];simp)))
def layA (width:Int):Value:=match layOf width with | some (e,f)=>layV e f | none=>layV 0 0
theorem layoutOf_any (width:Int) (w:World):Calls Tryz.prog 128 #[.int .i64 width] w fun r w'=>r=.returned (.tuple #[layA width,.bool (layOf width).isSome])∧Below w.heap.size w w':=by
  have HB:=Lib.hid (fun a=>below_box' w a 151)
  by_cases h1:width=16
  · subst h1
    go_enter Tryz.func128,Tryz.ntmps128
    go_wp2
    exact bodyPost_ret (v:=.tuple #[.agg #[.int .i64 5,.int .i64 10],.bool true]) (by simp [results,Tryz.results128,go_sem]) rfl ⟨rfl,HB.out _⟩
  by_cases h2:width=32
  · subst h2
    go_enter Tryz.func128,Tryz.ntmps128
    go_wp2
    exact bodyPost_ret (v:=.tuple #[.agg #[.int .i64 8,.int .i64 23],.bool true]) (by simp [results,Tryz.results128,go_sem]) rfl ⟨rfl,HB.out _⟩
  by_cases h3:width=64
  · subst h3
    go_enter Tryz.func128,Tryz.ntmps128
    go_wp2
    exact bodyPost_ret (v:=.tuple #[.agg #[.int .i64 11,.int .i64 52],.bool true]) (by simp [results,Tryz.results128,go_sem]) rfl ⟨rfl,HB.out _⟩
  · have H:Hid (layOf width=none):=by unfold layOf;rw [if_neg h1,if_neg h2,if_neg h3];rfl
    have b1:(width == 16)=false:=by rw [beq_eq_false_iff_ne];exact h1
    have b2:(width == 32)=false:=by rw [beq_eq_false_iff_ne];exact h2
    have b3:(width == 64)=false:=by rw [beq_eq_false_iff_ne];exact h3
    go_enter Tryz.func128,Tryz.ntmps128
    go_wp2
    exact bodyPost_ret (v:=.tuple #[.agg #[.int .i64 0,.int .i64 0],.bool false]) (by simp [results,Tryz.results128,go_sem]) rfl ⟨by unfold layA;rw [H.out];rfl,HB.out _⟩
def partV (e f x:Nat):Value:=.agg #[.bool (fNeg e f x),.int .i64 (fEx e f x:Int),.int .u64 (fFr f x:Int)]
theorem mask_and (x k:Nat) (hx:x<18446744073709551616) (hk:k<64):bits BinOp.and IntKind.u64 (x:Int) ((2 ^ k - 1:Nat):Int)=((x % 2 ^ k:Nat):Int):=by
  have:2 ^ k - 1<18446744073709551616:=by
    have:2 ^ k≤2 ^ 63:=Nat.pow_le_pow_right (by decide) (by omega)
    omega
  rw [bits_and_u64_nat x _ hx this,Nat.and_two_pow_sub_one_eq_mod]
theorem int_beq1 (q:Nat):((q:Int) == 1)=decide (q=1):=by
  by_cases h:q=1
  · subst h;rfl
  · rw [decide_eq_false h,beq_eq_false_iff_ne];omega
theorem split_any {e f:Nat} (hl:Lay e f) (x:Nat) (hx:x<18446744073709551616) (w:World):Calls Tryz.prog 190 #[layV e f,.int .u64 (x:Int)] w fun r w'=>r=.returned (partV e f x)∧Below w.heap.size w w':=by
  have HB:=Lib.hid (fun a b=>(below_box' w a 151).alloc (by simp) (.cells b 204))
  rcases hl with ⟨rfl,rfl⟩ | ⟨rfl,rfl⟩ | ⟨rfl,rfl⟩
  ·
    have m1:bits BinOp.and IntKind.u64 ((x:Int) / 1024) 31=((x / 2 ^ 10 % 2 ^ 5:Nat):Int):=mask_and (x / 1024) 5 (by omega) (by omega)
    have m2:bits BinOp.and IntKind.u64 (x:Int) 1023=((x % 2 ^ 10:Nat):Int):=mask_and x 10 hx (by omega)
    have m3:bits BinOp.and IntKind.u64 ((x:Int) / 32768) 1=((x / 2 ^ (5+10) % 2:Nat):Int):=mask_and (x / 32768) 1 (by omega) (by omega)
    have h1:x / 2 ^ 10 % 2 ^ 5<32:=Nat.mod_lt _ (by decide)
    have h2:x / 2 ^ (5+10) % 2<2:=Nat.mod_lt _ (by decide)
    unfold layV partV fNeg fEx fFr
    generalize x / 2 ^ 10 % 2 ^ 5=a at *
    generalize x % 2 ^ 10=b at *
    generalize x / 2 ^ (5+10) % 2=c at *
    have h3:=Lib.hid (int_beq1 c)
    have HW:=Lib.hid (IntWalk.wrap64_in (a:Int) (by omega))
    have HW2:=Lib.hid (IntWalk.i64_in (a:Int) (by omega))
    have e1:IntKind.i64.wrap 15=15:=by decide
    have e2:IntKind.u64.wrap 32=32:=by decide
    have e3:IntKind.u64.wrap (32 - 1)=31:=by decide
    have e4:IntKind.u64.wrap 1024=1024:=by decide
    have e5:IntKind.u64.wrap (1024 - 1)=1023:=by decide
    have e6:IntKind.u64.wrap 31=31:=by decide
    have e7:IntKind.u64.wrap 1023=1023:=by decide
    go_enter Tryz.func190,Tryz.ntmps190
    go_wp2_with fail
    go_region_held3 (fun w'=>w'.cell? ⟨w.heap.size,0,none⟩=some (.int .i64 5)∧w'.cell? ⟨w.heap.size,1,none⟩=some (.int .i64 10)) (go_keep) (fail)
    all_goals
      go_wp2_with fail
      exact bodyPost_ret (v:=.agg #[.bool ((c:Int) == 1),.int .i64 (a:Int),.int .u64 (b:Int)]) (by simp [results,Tryz.results190,go_sem,HW.out,HW2.out,e6,e7,m1,m2]) rfl ⟨by rw [h3.out],below_drew (HB.out _ _)⟩
  ·
    have m1:bits BinOp.and IntKind.u64 ((x:Int) / 8388608) 255=((x / 2 ^ 23 % 2 ^ 8:Nat):Int):=mask_and (x / 8388608) 8 (by omega) (by omega)
    have m2:bits BinOp.and IntKind.u64 (x:Int) 8388607=((x % 2 ^ 23:Nat):Int):=mask_and x 23 hx (by omega)
    have m3:bits BinOp.and IntKind.u64 ((x:Int) / 2147483648) 1=((x / 2 ^ (8+23) % 2:Nat):Int):=mask_and (x / 2147483648) 1 (by omega) (by omega)
    have h1:x / 2 ^ 23 % 2 ^ 8<256:=Nat.mod_lt _ (by decide)
    have h2:x / 2 ^ (8+23) % 2<2:=Nat.mod_lt _ (by decide)
    unfold layV partV fNeg fEx fFr
    generalize x / 2 ^ 23 % 2 ^ 8=a at *
    generalize x % 2 ^ 23=b at *
    generalize x / 2 ^ (8+23) % 2=c at *
    have h3:=Lib.hid (int_beq1 c)
    have HW:=Lib.hid (IntWalk.wrap64_in (a:Int) (by omega))
    have HW2:=Lib.hid (IntWalk.i64_in (a:Int) (by omega))
    have e1:IntKind.i64.wrap 31=31:=by decide
    have e2:IntKind.u64.wrap 256=256:=by decide
    have e3:IntKind.u64.wrap (256 - 1)=255:=by decide
    have e4:IntKind.u64.wrap 8388608=8388608:=by decide
    have e5:IntKind.u64.wrap (8388608 - 1)=8388607:=by decide
    have e6:IntKind.u64.wrap 255=255:=by decide
    have e7:IntKind.u64.wrap 8388607=8388607:=by decide
    go_enter Tryz.func190,Tryz.ntmps190
    go_wp2_with fail
    go_region_held3 (fun w'=>w'.cell? ⟨w.heap.size,0,none⟩=some (.int .i64 8)∧w'.cell? ⟨w.heap.size,1,none⟩=some (.int .i64 23)) (go_keep) (fail)
    all_goals
      go_wp2_with fail
      exact bodyPost_ret (v:=.agg #[.bool ((c:Int) == 1),.int .i64 (a:Int),.int .u64 (b:Int)]) (by simp [results,Tryz.results190,go_sem,HW.out,HW2.out,e6,e7,m1,m2]) rfl ⟨by rw [h3.out],below_drew (HB.out _ _)⟩
  ·
    have m1:bits BinOp.and IntKind.u64 ((x:Int) / 4503599627370496) 2047=((x / 2 ^ 52 % 2 ^ 11:Nat):Int):=mask_and (x / 4503599627370496) 11 (by omega) (by omega)
    have m2:bits BinOp.and IntKind.u64 (x:Int) 4503599627370495=((x % 2 ^ 52:Nat):Int):=mask_and x 52 hx (by omega)
    have m3:bits BinOp.and IntKind.u64 ((x:Int) / 9223372036854775808) 1=((x / 2 ^ (11+52) % 2:Nat):Int):=mask_and (x / 9223372036854775808) 1 (by omega) (by omega)
    have h1:x / 2 ^ 52 % 2 ^ 11<2048:=Nat.mod_lt _ (by decide)
    have h2:x / 2 ^ (11+52) % 2<2:=Nat.mod_lt _ (by decide)
    unfold layV partV fNeg fEx fFr
    generalize x / 2 ^ 52 % 2 ^ 11=a at *
    generalize x % 2 ^ 52=b at *
    generalize x / 2 ^ (11+52) % 2=c at *
    have h3:=Lib.hid (int_beq1 c)
    have HW:=Lib.hid (IntWalk.wrap64_in (a:Int) (by omega))
    have HW2:=Lib.hid (IntWalk.i64_in (a:Int) (by omega))
    have e1:IntKind.i64.wrap 63=63:=by decide
    have e2:IntKind.u64.wrap 2048=2048:=by decide
    have e3:IntKind.u64.wrap (2048 - 1)=2047:=by decide
    have e4:IntKind.u64.wrap 4503599627370496=4503599627370496:=by decide
    have e5:IntKind.u64.wrap (4503599627370496 - 1)=4503599627370495:=by decide
    have e6:IntKind.u64.wrap 2047=2047:=by decide
    have e7:IntKind.u64.wrap 4503599627370495=4503599627370495:=by decide
    go_enter Tryz.func190,Tryz.ntmps190
    go_wp2_with fail
    go_region_held3 (fun w'=>w'.cell? ⟨w.heap.size,0,none⟩=some (.int .i64 11)∧w'.cell? ⟨w.heap.size,1,none⟩=some (.int .i64 52)) (go_keep) (fail)
    all_goals
      go_wp2_with fail
      exact bodyPost_ret (v:=.agg #[.bool ((c:Int) == 1),.int .i64 (a:Int),.int .u64 (b:Int)]) (by simp [results,Tryz.results190,go_sem,HW.out,HW2.out,e6,e7,m1,m2]) rfl ⟨by rw [h3.out],below_drew (HB.out _ _)⟩
theorem cell_new (w:World) (a:Array Value) (t:TypeId) (j:Nat):(w.alloc (.cells a t)).cell? ⟨w.heap.size,j,none⟩=a[j]?:=by
  have h:=heap_alloc_new w (.cells a t)
  simp only [World.cell?,h]
  simp
theorem cell_at (w:World) (a:Array Value) (t:TypeId) (b j:Nat) (h:b=w.heap.size):(w.alloc (.cells a t)).cell? ⟨b,j,none⟩=a[j]?:=by subst h;exact cell_new w a t j
theorem cell_old (w:World) (o:Obj) (b j:Nat) (h:b<w.heap.size):(w.alloc o).cell? ⟨b,j,none⟩=w.cell? ⟨b,j,none⟩:=World.cell?_alloc_lt w o ⟨b,j,none⟩ h
def binV (neg:Bool) (s:Nat) (t:Int):Value:=.agg #[.bool neg,.int .u64 (s:Int),.int .i64 t]
theorem or_add {a f:Nat} (h:a<2 ^ f) (hf:f<63):bits BinOp.or IntKind.u64 (a:Int) ((2 ^ f:Nat):Int)=((a+2 ^ f:Nat):Int):=by
  have h1:2 ^ f≤2 ^ 62:=Nat.pow_le_pow_right (by decide) (by omega)
  rw [bits_or_u64_nat a _ (by omega) (by omega),Nat.or_comm,nat_join f (2 ^ f) a (Nat.mod_self _) h,Nat.add_comm]
theorem binary_any {e f:Nat} (hl:Lay e f) (x:Nat) (w:World):Calls Tryz.prog 189 #[layV e f,partV e f x] w fun r w'=>r=.returned (binV (fNeg e f x) (sizeF e f x) (twosF e f x))∧Below w.heap.size w w':=by
  obtain ⟨p1,p2,f1,f2,b1,b2⟩:=lay_bd hl
  have hex:fEx e f x<2 ^ e:=Nat.mod_lt _ (twop_pos e)
  have he11:2 ^ e≤2 ^ 11:=Nat.pow_le_pow_right (by decide) p2
  have hfr:fFr f x<2 ^ f:=Nat.mod_lt _ (twop_pos f)
  have hf52:2 ^ f≤2 ^ 52:=Nat.pow_le_pow_right (by decide) f2
  have hor:=or_add hfr (by omega)
  have hls:-1074≤leastF e f∧leastF e f≤-24:=by rcases hl with ⟨rfl,rfl⟩ | ⟨rfl,rfl⟩ | ⟨rfl,rfl⟩ <;> decide
  have KL:=Lib.hid (fun W=>leastPlace_any hl W)
  have hsz:sizeF e f x=if fEx e f x=0 then fFr f x else fFr f x+2 ^ f:=rfl
  have htw:twosF e f x=if fEx e f x=0 then leastF e f else leastF e f+(fEx e f x:Int) - 1:=rfl
  have hpw:((2:Int) ^ f)=((2 ^ f:Nat):Int):=by push_cast;rfl
  unfold partV layV at *
  generalize fNeg e f x=ng at *
  generalize sizeF e f x=s at *
  generalize twosF e f x=t at *
  generalize leastF e f=lst at *
  generalize fEx e f x=ex at *
  generalize fFr f x=fr at *
  generalize (2:Nat) ^ f=Q at *
  have hbl:Below w.heap.size w (((w.alloc (.cells #[.int .i64 (e:Int),.int .i64 (f:Int)] 151)).alloc (.cells #[.bool ng,.int .i64 (ex:Int),.int .u64 (fr:Int)] 204)).alloc (.cells #[.bool false,.int .u64 0,.int .i64 0] 155)):=(((Below.refl _ _).alloc (Nat.le_refl _) _).alloc (by simp) _).alloc (by simp;omega) _
  have HB:=Lib.hid hbl;clear hbl
  have HEX:=Lib.hid (show ex<2048 by omega);have HPW:=Lib.hid hpw
  have HOR:=Lib.hid hor
  have HFB:=Lib.hid (show fr<4503599627370496 by omega)
  clear hex he11 hor hpw hfr
  have z0:(((w.alloc (.cells #[.int .i64 (e:Int),.int .i64 (f:Int)] 151)).alloc (.cells #[.bool ng,.int .i64 (ex:Int),.int .u64 (fr:Int)] 204)).alloc (.cells #[.bool false,.int .u64 0,.int .i64 0] 155)).cell? ⟨w.heap.size,0,none⟩=some (.int .i64 (e:Int)):=by rw [cell_old _ _ _ _ (by simp <;> omega),cell_old _ _ _ _ (by simp),cell_new];rfl
  have z1:(((w.alloc (.cells #[.int .i64 (e:Int),.int .i64 (f:Int)] 151)).alloc (.cells #[.bool ng,.int .i64 (ex:Int),.int .u64 (fr:Int)] 204)).alloc (.cells #[.bool false,.int .u64 0,.int .i64 0] 155)).cell? ⟨w.heap.size,1,none⟩=some (.int .i64 (f:Int)):=by rw [cell_old _ _ _ _ (by simp <;> omega),cell_old _ _ _ _ (by simp),cell_new];rfl
  have n1:¬ w.heap.size+1+1=w.heap.size:=by omega
  have n2:¬ w.heap.size+2=w.heap.size:=by omega
  by_cases h0:ex=0
  · rw [if_pos h0] at hsz htw
    subst h0 hsz htw
    go_enter Tryz.func189,Tryz.ntmps189
    go_wp2_with fail
    go_region_held3 (fun w'=>w'.cell? ⟨w.heap.size,0,none⟩=some (.int .i64 (e:Int))∧w'.cell? ⟨w.heap.size,1,none⟩=some (.int .i64 (f:Int))∧w'.cell? ⟨w.heap.size+1,0,none⟩=some (.bool ng)∧w'.cell? ⟨w.heap.size+1,2,none⟩=some (.int .u64 (s:Int))) (go_keep)
      (first | (go_at_call 166;refine (KL.out _).mono ?_;rintro r w1 ⟨rfl,hb1⟩;obtain ⟨hc1,hf1⟩:=bcell hb1;have hz1:w.heap.size+2<w1.heap.size:=(by have h:=hb1.size;(try simp at h);omega);have q0:w1.cell? ⟨w.heap.size,0,none⟩=some (.int .i64 (e:Int)):=(hc1 _ _ (by simp <;> omega)).trans z0;have q1:w1.cell? ⟨w.heap.size,1,none⟩=some (.int .i64 (f:Int)):=(hc1 _ _ (by simp <;> omega)).trans z1;have q2:w1.cell? ⟨w.heap.size+1,0,none⟩=some (.bool ng):=(by rw [hc1 _ _ (by simp <;> omega)];simp [World.cell?_alloc_lt]);have q3:w1.cell? ⟨w.heap.size+1,2,none⟩=some (.int .u64 (s:Int)):=(by rw [hc1 _ _ (by simp <;> omega)];simp [World.cell?_alloc_lt])))
    all_goals
      have r0:w1.cell? ⟨w.heap.size+1+1,0,none⟩=some (.bool false):=by rw [hc1 _ _ (by simp),World.cell?_drew,cell_at _ _ _ _ _ (by simp)];rfl
      have r1:w1.cell? ⟨w.heap.size+1+1,1,none⟩=some (.int .u64 0):=by rw [hc1 _ _ (by simp),World.cell?_drew,cell_at _ _ _ _ _ (by simp)];rfl
      have r2:w1.cell? ⟨w.heap.size+1+1,2,none⟩=some (.int .i64 0):=by rw [hc1 _ _ (by simp),World.cell?_drew,cell_at _ _ _ _ _ (by simp)];rfl
      go_wp2_with fail
      exact bodyPost_ret (v:=binV ng s t) (by simp [results,Tryz.results189,go_sem,r0,r1,r2,binV]) rfl ⟨rfl,(((below_on (below_drew HB.out) hb1).setCell (by simp <;> omega) _).setCell (by simp <;> omega) _).setCell (by simp <;> omega) _⟩
  · rw [if_neg h0] at hsz htw
    subst hsz htw
    have h0b:((ex:Int) == 0)=false:=by rw [beq_eq_false_iff_ne];omega
    have hexb:=HEX.out
    have hfl:(0:Int)≤(f:Int)∧(f:Int)<64:=by omega
    have hsh:IntKind.u64.wrap (1*2 ^ f)=(Q:Int):=by rw [Int.one_mul,HPW.out];exact IntWalk.u64_in _ (by omega)
    have hsh2:IntKind.u64.wrap (2 ^ f)=(Q:Int):=by rw [HPW.out];exact IntWalk.u64_in _ (by omega)
    have hor:=HOR.out
    have hw1:IntKind.i64.wrap (lst+(ex:Int))=lst+(ex:Int):=IntWalk.i64_in _ (by omega)
    have hw2:IntKind.i64.wrap (lst+(ex:Int) - 1)=lst+(ex:Int) - 1:=IntWalk.i64_in _ (by omega)
    go_enter Tryz.func189,Tryz.ntmps189
    go_wp2_with fail
    go_region_held3 (fun w'=>w'.cell? ⟨w.heap.size,0,none⟩=some (.int .i64 (e:Int))∧w'.cell? ⟨w.heap.size,1,none⟩=some (.int .i64 (f:Int))∧w'.cell? ⟨w.heap.size+1,0,none⟩=some (.bool ng)∧w'.cell? ⟨w.heap.size+1,1,none⟩=some (.int .i64 (ex:Int))∧w'.cell? ⟨w.heap.size+1,2,none⟩=some (.int .u64 (fr:Int))) (go_keep)
      (first | (go_at_call 166;refine (KL.out _).mono ?_;rintro r w1 ⟨rfl,hb1⟩;obtain ⟨hc1,hf1⟩:=bcell hb1;have hz1:w.heap.size+2<w1.heap.size:=(by have h:=hb1.size;(try simp at h);omega);have q0:w1.cell? ⟨w.heap.size,0,none⟩=some (.int .i64 (e:Int)):=(hc1 _ _ (by simp <;> omega)).trans z0;have q1:w1.cell? ⟨w.heap.size,1,none⟩=some (.int .i64 (f:Int)):=(hc1 _ _ (by simp <;> omega)).trans z1;have q2:w1.cell? ⟨w.heap.size+1,0,none⟩=some (.bool ng):=(by rw [hc1 _ _ (by simp <;> omega)];simp [World.cell?_alloc_lt]);have q4:w1.cell? ⟨w.heap.size+1,1,none⟩=some (.int .i64 (ex:Int)):=(by rw [hc1 _ _ (by simp <;> omega)];simp [World.cell?_alloc_lt]);have q3:w1.cell? ⟨w.heap.size+1,2,none⟩=some (.int .u64 (fr:Int)):=(by rw [hc1 _ _ (by simp <;> omega)];simp [World.cell?_alloc_lt])))
    all_goals
      have r0:w1.cell? ⟨w.heap.size+1+1,0,none⟩=some (.bool false):=by rw [hc1 _ _ (by simp),World.cell?_drew,cell_at _ _ _ _ _ (by simp)];rfl
      have r1:w1.cell? ⟨w.heap.size+1+1,1,none⟩=some (.int .u64 0):=by rw [hc1 _ _ (by simp),World.cell?_drew,cell_at _ _ _ _ _ (by simp)];rfl
      have r2:w1.cell? ⟨w.heap.size+1+1,2,none⟩=some (.int .i64 0):=by rw [hc1 _ _ (by simp),World.cell?_drew,cell_at _ _ _ _ _ (by simp)];rfl
      go_wp2_with fail
      exact bodyPost_ret (v:=binV ng (fr+Q) (lst+(ex:Int) - 1)) (by simp [results,Tryz.results189,go_sem,r0,r1,r2,binV,HPW.out,hor]) rfl ⟨rfl,(((below_on (below_drew HB.out) hb1).setCell (by simp <;> omega) _).setCell (by simp <;> omega) _).setCell (by simp <;> omega) _⟩
def kindB (b1 b2 b3:Bool):Int:=if b1 then (if b2 then 3 else 4) else if b3 then (if b2 then 2 else 1) else 1
def kindW (width:Int) (x:Nat):Int:=match layOf width with | some (e,f)=>(kindF e f x:Int) | none=>0
theorem kindF_eq (e f x:Nat):(kindF e f x:Int)=kindB (decide (fEx e f x=2 ^ e - 1)) (decide (fFr f x=0)) (decide (fEx e f x=0)):=by
  unfold kindF kindB
  by_cases h1:fEx e f x=2 ^ e - 1
  · rw [if_pos h1,decide_eq_true h1]
    by_cases h2:fFr f x=0 <;> simp [h2]
  · rw [if_neg h1,decide_eq_false h1]
    by_cases h2:fFr f x=0 <;> by_cases h3:fEx e f x=0 <;> simp [h2,h3]
theorem kind_walk (width:Int) (x:Nat) (w:World) {e f:Nat} (hl:Lay e f) (hlo:layOf width=some (e,f)) (ng:Bool) (ex fr:Nat) (b1 b2 b3:Bool) (h1:((ex:Int) == 2 ^ e - 1)=b1) (h2:((fr:Int) == 0)=b2) (h3:((ex:Int) == 0)=b3)
    (KS:∀ W,Calls Tryz.prog 190 #[layV e f,.int .u64 (x:Int)] W fun r w'=>r=.returned (.agg #[.bool ng,.int .i64 (ex:Int),.int .u64 (fr:Int)])∧Below W.heap.size W w') :
    Calls Tryz.prog 187 #[.int .i64 width,.int .u64 (x:Int)] w (IntBelow (kindB b1 b2 b3) w):=by
  have KL:=layoutOf_any width w
  unfold layA at KL
  rw [hlo] at KL
  have KLH:=Lib.hid KL
  have KSH:=Lib.hid KS
  have KH:=Lib.hid (fun W=>highest_any hl W)
  clear KL KS hlo hl
  unfold layV at *
  generalize (2:Int) ^ e - 1=hi at *
  go_enter Tryz.func187,Tryz.ntmps187
  go_wp2_with fail
  refine KLH.out.mono ?_
  rintro r w1 ⟨rfl,hb1⟩
  have HB1:=Lib.hid hb1;clear hb1
  go_wp2_with fail
  refine (KSH.out _).mono ?_
  rintro r w2 ⟨rfl,hb2⟩
  obtain ⟨hc2,hf2⟩:=bcell hb2
  have hz2:w1.heap.size<w2.heap.size:=by have h:=hb2.size;(try simp at h);omega
  have a0:w2.cell? ⟨w1.heap.size,0,none⟩=some (.int .i64 (e:Int)):=by rw [hc2 _ _ (by simp)];simp
  have a1:w2.cell? ⟨w1.heap.size,1,none⟩=some (.int .i64 (f:Int)):=by rw [hc2 _ _ (by simp)];simp
  have HB2:=Lib.hid (below_on (HB1.out.trans (((Below.refl _ _).alloc (by exact Nat.le_refl _) (.cells #[.int .i64 (e:Int),.int .i64 (f:Int)] 151)).mono HB1.out.size)) hb2)
  clear hc2 hf2 hb2
  have HB3:=Lib.hid (HB2.out.alloc HB2.out.size (.cells #[.bool ng,.int .i64 (ex:Int),.int .u64 (fr:Int)] 204))
  generalize hW:w2.alloc (.cells #[.bool ng,.int .i64 (ex:Int),.int .u64 (fr:Int)] 204)=W at *
  have HW:=Lib.hid hW
  have c0:W.cell? ⟨w1.heap.size,0,none⟩=some (.int .i64 (e:Int)):=by rw [← hW,cell_old _ _ _ _ hz2];exact a0
  have c1:W.cell? ⟨w1.heap.size,1,none⟩=some (.int .i64 (f:Int)):=by rw [← hW,cell_old _ _ _ _ hz2];exact a1
  have d0:W.cell? ⟨w2.heap.size,0,none⟩=some (.bool ng):=by rw [← hW];simp
  have d1:W.cell? ⟨w2.heap.size,1,none⟩=some (.int .i64 (ex:Int)):=by rw [← hW];simp
  have d2:W.cell? ⟨w2.heap.size,2,none⟩=some (.int .u64 (fr:Int)):=by rw [← hW];simp
  clear hW a0 a1
  go_wp2_with fail
  rw [HW.out]
  clear HB2 HW hz2 d0
  have c00:=c0;have c10:=c1;have d10:=d1;have d20:=d2;clear c0 c1 d1 d2
  cases b1
  · cases b3
    ·
      have cH1:∀ d os,Calls Tryz.prog 203 #[.agg #[.int .i64 (e:Int),.int .i64 (f:Int)]] (grow (redrawn W d) os) fun r w''=>r=.returned (.int .i64 hi)∧∃ p:Regrown,w''=grow (redrawn W p.d) p.os:=fun d os=>Calls.regrown_of (KH.out _)
      have k01:=cell_regrown c00
      have k11:=cell_regrown c10
      have k21:=cell_regrown d10
      have k31:=cell_regrown d20
      refine wp_region_quiet_below (by kernel_rfl) (by kernel_rfl) ?_
      repeat (quiet_step (first | with_reducible exact cH1 _ _))
      refine wpQuiet_nil ?_
      intro _ hw'
      obtain ⟨⟨dq,osq⟩,hw''⟩:=hw'
      subst hw''
      have c01:=k01 dq osq
      have c11:=k11 dq osq
      have d11:=k21 dq osq
      have d21:=k31 dq osq
      have HB4:=Lib.hid (below_on HB3.out (below_regrown W dq osq))
      clear k01 k11 k21 k31 cH1 c00 c10 d10 d20
      generalize grow (redrawn W dq) osq=W1 at *
      go_wp2_with fail
      have cH2:∀ d os,Calls Tryz.prog 203 #[.agg #[.int .i64 (e:Int),.int .i64 (f:Int)]] (grow (redrawn W1 d) os) fun r w''=>r=.returned (.int .i64 hi)∧∃ p:Regrown,w''=grow (redrawn W1 p.d) p.os:=fun d os=>Calls.regrown_of (KH.out _)
      have k02:=cell_regrown c01
      have k12:=cell_regrown c11
      have k22:=cell_regrown d11
      have k32:=cell_regrown d21
      refine wp_region_quiet_below (by kernel_rfl) (by kernel_rfl) ?_
      repeat (quiet_step (first | with_reducible exact cH2 _ _))
      refine wpQuiet_nil ?_
      intro _ hw'
      obtain ⟨⟨dq,osq⟩,hw''⟩:=hw'
      subst hw''
      have c02:=k02 dq osq
      have c12:=k12 dq osq
      have d12:=k22 dq osq
      have d22:=k32 dq osq
      have HB5:=Lib.hid (below_on HB4.out (below_regrown W1 dq osq))
      clear k02 k12 k22 k32 cH2 c01 c11 d11 d21
      generalize grow (redrawn W1 dq) osq=W2 at *
      go_wp2
      go_ret
      exact IntBelow.mk rfl HB5.out
    · cases b2
      ·
        have cH1:∀ d os,Calls Tryz.prog 203 #[.agg #[.int .i64 (e:Int),.int .i64 (f:Int)]] (grow (redrawn W d) os) fun r w''=>r=.returned (.int .i64 hi)∧∃ p:Regrown,w''=grow (redrawn W p.d) p.os:=fun d os=>Calls.regrown_of (KH.out _)
        have k01:=cell_regrown c00
        have k11:=cell_regrown c10
        have k21:=cell_regrown d10
        have k31:=cell_regrown d20
        refine wp_region_quiet_below (by kernel_rfl) (by kernel_rfl) ?_
        repeat (quiet_step (first | with_reducible exact cH1 _ _))
        refine wpQuiet_nil ?_
        intro _ hw'
        obtain ⟨⟨dq,osq⟩,hw''⟩:=hw'
        subst hw''
        have c01:=k01 dq osq
        have c11:=k11 dq osq
        have d11:=k21 dq osq
        have d21:=k31 dq osq
        have HB4:=Lib.hid (below_on HB3.out (below_regrown W dq osq))
        clear k01 k11 k21 k31 cH1 c00 c10 d10 d20
        generalize grow (redrawn W dq) osq=W1 at *
        go_wp2_with fail
        have cH2:∀ d os,Calls Tryz.prog 203 #[.agg #[.int .i64 (e:Int),.int .i64 (f:Int)]] (grow (redrawn W1 d) os) fun r w''=>r=.returned (.int .i64 hi)∧∃ p:Regrown,w''=grow (redrawn W1 p.d) p.os:=fun d os=>Calls.regrown_of (KH.out _)
        have k02:=cell_regrown c01
        have k12:=cell_regrown c11
        have k22:=cell_regrown d11
        have k32:=cell_regrown d21
        refine wp_region_quiet_below (by kernel_rfl) (by kernel_rfl) ?_
        repeat (quiet_step (first | with_reducible exact cH2 _ _))
        refine wpQuiet_nil ?_
        intro _ hw'
        obtain ⟨⟨dq,osq⟩,hw''⟩:=hw'
        subst hw''
        have c02:=k02 dq osq
        have c12:=k12 dq osq
        have d12:=k22 dq osq
        have d22:=k32 dq osq
        have HB5:=Lib.hid (below_on HB4.out (below_regrown W1 dq osq))
        clear k02 k12 k22 k32 cH2 c01 c11 d11 d21
        generalize grow (redrawn W1 dq) osq=W2 at *
        go_wp2
        go_ret
        exact IntBelow.mk rfl HB5.out
      ·
        have cH1:∀ d os,Calls Tryz.prog 203 #[.agg #[.int .i64 (e:Int),.int .i64 (f:Int)]] (grow (redrawn W d) os) fun r w''=>r=.returned (.int .i64 hi)∧∃ p:Regrown,w''=grow (redrawn W p.d) p.os:=fun d os=>Calls.regrown_of (KH.out _)
        have k01:=cell_regrown c00
        have k11:=cell_regrown c10
        have k21:=cell_regrown d10
        have k31:=cell_regrown d20
        refine wp_region_quiet_below (by kernel_rfl) (by kernel_rfl) ?_
        repeat (quiet_step (first | with_reducible exact cH1 _ _))
        refine wpQuiet_nil ?_
        intro _ hw'
        obtain ⟨⟨dq,osq⟩,hw''⟩:=hw'
        subst hw''
        have c01:=k01 dq osq
        have c11:=k11 dq osq
        have d11:=k21 dq osq
        have d21:=k31 dq osq
        have HB4:=Lib.hid (below_on HB3.out (below_regrown W dq osq))
        clear k01 k11 k21 k31 cH1 c00 c10 d10 d20
        generalize grow (redrawn W dq) osq=W1 at *
        go_wp2_with fail
        have cH2:∀ d os,Calls Tryz.prog 203 #[.agg #[.int .i64 (e:Int),.int .i64 (f:Int)]] (grow (redrawn W1 d) os) fun r w''=>r=.returned (.int .i64 hi)∧∃ p:Regrown,w''=grow (redrawn W1 p.d) p.os:=fun d os=>Calls.regrown_of (KH.out _)
        have k02:=cell_regrown c01
        have k12:=cell_regrown c11
        have k22:=cell_regrown d11
        have k32:=cell_regrown d21
        refine wp_region_quiet_below (by kernel_rfl) (by kernel_rfl) ?_
        repeat (quiet_step (first | with_reducible exact cH2 _ _))
        refine wpQuiet_nil ?_
        intro _ hw'
        obtain ⟨⟨dq,osq⟩,hw''⟩:=hw'
        subst hw''
        have c02:=k02 dq osq
        have c12:=k12 dq osq
        have d12:=k22 dq osq
        have d22:=k32 dq osq
        have HB5:=Lib.hid (below_on HB4.out (below_regrown W1 dq osq))
        clear k02 k12 k22 k32 cH2 c01 c11 d11 d21
        generalize grow (redrawn W1 dq) osq=W2 at *
        go_wp2
        go_ret
        exact IntBelow.mk rfl HB5.out
  · cases b2
    ·
      have cH1:∀ d os,Calls Tryz.prog 203 #[.agg #[.int .i64 (e:Int),.int .i64 (f:Int)]] (grow (redrawn W d) os) fun r w''=>r=.returned (.int .i64 hi)∧∃ p:Regrown,w''=grow (redrawn W p.d) p.os:=fun d os=>Calls.regrown_of (KH.out _)
      have k01:=cell_regrown c00
      have k11:=cell_regrown c10
      have k21:=cell_regrown d10
      have k31:=cell_regrown d20
      refine wp_region_quiet_below (by kernel_rfl) (by kernel_rfl) ?_
      repeat (quiet_step (first | with_reducible exact cH1 _ _))
      refine wpQuiet_nil ?_
      intro _ hw'
      obtain ⟨⟨dq,osq⟩,hw''⟩:=hw'
      subst hw''
      have c01:=k01 dq osq
      have c11:=k11 dq osq
      have d11:=k21 dq osq
      have d21:=k31 dq osq
      have HB4:=Lib.hid (below_on HB3.out (below_regrown W dq osq))
      clear k01 k11 k21 k31 cH1 c00 c10 d10 d20
      generalize grow (redrawn W dq) osq=W1 at *
      go_wp2_with fail
      have cH2:∀ d os,Calls Tryz.prog 203 #[.agg #[.int .i64 (e:Int),.int .i64 (f:Int)]] (grow (redrawn W1 d) os) fun r w''=>r=.returned (.int .i64 hi)∧∃ p:Regrown,w''=grow (redrawn W1 p.d) p.os:=fun d os=>Calls.regrown_of (KH.out _)
      have k02:=cell_regrown c01
      have k12:=cell_regrown c11
      have k22:=cell_regrown d11
      have k32:=cell_regrown d21
      refine wp_region_quiet_below (by kernel_rfl) (by kernel_rfl) ?_
      repeat (quiet_step (first | with_reducible exact cH2 _ _))
      refine wpQuiet_nil ?_
      intro _ hw'
      obtain ⟨⟨dq,osq⟩,hw''⟩:=hw'
      subst hw''
      have c02:=k02 dq osq
      have c12:=k12 dq osq
      have d12:=k22 dq osq
      have d22:=k32 dq osq
      have HB5:=Lib.hid (below_on HB4.out (below_regrown W1 dq osq))
      clear k02 k12 k22 k32 cH2 c01 c11 d11 d21
      generalize grow (redrawn W1 dq) osq=W2 at *
      go_wp2
      go_ret
      exact IntBelow.mk rfl HB5.out
    ·
      have cH1:∀ d os,Calls Tryz.prog 203 #[.agg #[.int .i64 (e:Int),.int .i64 (f:Int)]] (grow (redrawn W d) os) fun r w''=>r=.returned (.int .i64 hi)∧∃ p:Regrown,w''=grow (redrawn W p.d) p.os:=fun d os=>Calls.regrown_of (KH.out _)
      have k01:=cell_regrown c00
      have k11:=cell_regrown c10
      have k21:=cell_regrown d10
      have k31:=cell_regrown d20
      refine wp_region_quiet_below (by kernel_rfl) (by kernel_rfl) ?_
      repeat (quiet_step (first | with_reducible exact cH1 _ _))
      refine wpQuiet_nil ?_
      intro _ hw'
      obtain ⟨⟨dq,osq⟩,hw''⟩:=hw'
      subst hw''
      have c01:=k01 dq osq
      have c11:=k11 dq osq
      have d11:=k21 dq osq
      have d21:=k31 dq osq
      have HB4:=Lib.hid (below_on HB3.out (below_regrown W dq osq))
      clear k01 k11 k21 k31 cH1 c00 c10 d10 d20
      generalize grow (redrawn W dq) osq=W1 at *
      go_wp2
      go_ret
      exact IntBelow.mk rfl HB4.out
theorem kind_any (width:Int) (x:Nat) (hx:x<18446744073709551616) (w:World):Calls Tryz.prog 187 #[.int .i64 width,.int .u64 (x:Int)] w (IntBelow (kindW width x) w):=by
  cases h:layOf width with
  | some p =>
    obtain ⟨e,f⟩:=p
    have hl:=layOf_lay h
    have hk:kindW width x=(kindF e f x:Int):=by unfold kindW;rw [h]
    rw [hk,kindF_eq]
    have hp:((2:Int) ^ e)=((2 ^ e:Nat):Int):=by push_cast;rfl
    have he:1≤2 ^ e:=twop_pos e
    refine kind_walk width x w hl h (fNeg e f x) (fEx e f x) (fFr f x) _ _ _ ?_ (int_beq0 _) (int_beq0 _) (fun W=>split_any hl x hx W)
    rw [hp]
    generalize fEx e f x=a
    generalize 2 ^ e=Q at *
    by_cases h1:a=Q - 1
    · rw [decide_eq_true h1,beq_iff_eq];omega
    · rw [decide_eq_false h1,beq_eq_false_iff_ne];omega
  | none =>
    have KL:=layoutOf_any width w
    unfold layA at KL
    rw [h] at KL
    have KLH:=Lib.hid KL
    have H:Hid (kindW width x=0):=by unfold kindW;rw [h];rfl
    clear KL h
    unfold layV at *
    go_enter Tryz.func187,Tryz.ntmps187
    go_wp2_with fail
    refine KLH.out.mono ?_
    rintro r w1 ⟨rfl,hb1⟩
    have HB1:=Lib.hid (below_on hb1 (below_box' w1 #[.int .i64 0,.int .i64 0] 151));clear hb1
    go_wp2
    go_ret
    exact IntBelow.mk H.out.symm HB1.out
end Go.Proofs.YtnacbakcalcgaaaGreatDoor
