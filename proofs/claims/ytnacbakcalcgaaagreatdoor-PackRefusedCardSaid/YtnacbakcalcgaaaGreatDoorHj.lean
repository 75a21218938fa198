/- Texts of the claim. -/
import Derived.Test.YtnacbakcalcgaaaGreatDoorHi
set_option linter.unusedVariables false
set_option linter.unusedSimpArgs false
set_option maxHeartbeats 200000
set_option maxRecDepth 100000
namespace Go.Proofs.YtnacbakcalcgaaaGreatDoor
open Go.RowKit Go.Shelf
def Tw:List Nat→MT
  | []=>leafT 1 false ⟨#[]⟩
  | b::bs=>arrT (some ⟨b,0,none⟩) 1 1 [Tw bs]
def RepB (s:Nat) (w:World) (t:MT):Prop:=∀ W,But s w W→Rep W t
theorem RepB.on {s:Nat} {w W:World} {t:MT} (h:RepB s w t) (hb:But s w W):RepB s W t:=fun U hU=>h U (hb.trans hU)
theorem RepB.rep {s:Nat} {w:World} {t:MT} (h:RepB s w t):Rep w t:=h w (But.refl s w)
theorem cel_one (c:Cel):∀ u∈c.cells,u.oneCell'=true:=by
  intro u hu;simp [Cel.cells] at hu
  rcases hu with rfl | rfl | rfl | rfl | rfl | rfl | rfl | rfl <;> rfl
def L1 (w:World) (s d:Nat) (k:Nat) (i:Value) (wr:World):Prop :=
  ∃ bs:List Nat,bs.length≤d∧d - bs.length≤k∧i=.int .i64 (bs.length:Int)∧BlkV wr s 29 (flat [(Tw bs).c])∧RepB s wr (Tw bs)∧Below w.heap.size w wr
def L2 (w1:World) (s n:Nat) (k:Nat) (i:Value) (wr:World):Prop :=
  ∃ (m:Nat) (ad:Option Addr) (cap:Nat),m≤n∧n - m≤k∧i=.int .i64 (m:Int)∧BlkV wr s 29 (flat [arrC ad m cap])∧wr.ownsRow (s+1) 29 8 (.slice ad m cap) m (flat (List.replicate m (leafC 2 true ⟨#[]⟩)))∧Below w1.heap.size w1 wr
def eqS (a b:ByteArray):Bool:=a.toList == b.toList
theorem eqS_iff {a b:ByteArray}:eqS a b=true ↔ a=b:=by
  unfold eqS
  rw [beq_iff_eq]
  refine ⟨fun h=>?_,fun h=>by rw [h]⟩
  rw [Lib.toList_data,Lib.toList_data] at h
  exact ByteArray.ext (Array.toList_inj.1 h)
theorem eqS_refl (a:ByteArray):eqS a a=true:=eqS_iff.2 rfl
theorem eqS_no {a b:ByteArray}:eqS a b=false ↔ a ≠ b:=by rw [← Bool.not_eq_true,eqS_iff]
def ixL:List ByteArray→ByteArray→Option Nat
  | [],_=>none
  | x::l,s=>if eqS x s then some 0 else (ixL l s).map (· + 1)
theorem ixL_cases (l:List ByteArray) (s:ByteArray):(ixL l s=none∧∀ j,j<l.length→l.getD j ByteArray.empty ≠ s)∨∃ i,ixL l s=some i∧i<l.length∧l.getD i ByteArray.empty=s∧∀ j,j<i→l.getD j ByteArray.empty ≠ s:=by
  induction l with
  | nil=>left;exact ⟨rfl,fun j hj=>by simp at hj⟩
  | cons x l ih =>
    by_cases hx:x=s
    · right;subst hx;exact ⟨0,by unfold ixL;rw [eqS_refl,if_pos rfl],by simp,by simp,fun j hj=>by omega⟩
    · rcases ih with ⟨h1,h2⟩ | ⟨i,h1,h2,h3,h4⟩
      · left
        refine ⟨by unfold ixL;rw [eqS_no.2 hx,if_neg (by decide),h1];rfl,fun j hj=>?_⟩
        cases j with
        | zero=>simpa using hx
        | succ j=>have:=h2 j (by simpa using hj);simpa using this
      · right
        refine ⟨i+1,by unfold ixL;rw [eqS_no.2 hx,if_neg (by decide),h1];rfl,by simpa using h2,by simpa using h3,fun j hj=>?_⟩
        cases j with
        | zero=>simpa using hx
        | succ j=>have:=h4 j (by omega);simpa using this
def plL:List ByteArray→ByteArray→Nat
  | [],_=>0
  | x::l,s=>if ltS s x then 0 else plL l s+1
theorem plL_le (l:List ByteArray) (s:ByteArray):plL l s≤l.length:=by
  induction l with
  | nil=>exact Nat.le_refl _
  | cons x l ih=>unfold plL;split <;> simp <;> omega


def put0 (w:World) (b:Nat) (c:Cel):World :=
  (((((((w.setCell ⟨b,0,none⟩ (.int .i64 c.k)).setCell ⟨b,1,none⟩ (.bool c.b)).setCell ⟨b,2,none⟩ (.bool c.neg)).setCell ⟨b,3,none⟩ (.slice c.ma c.mn c.mc)).setCell ⟨b,4,none⟩ (.int .i64 c.e)).setCell ⟨b,5,none⟩ (.string c.s)).setCell ⟨b,6,none⟩ (.slice c.ka c.kn c.kc)).setCell ⟨b,7,none⟩ (.slice c.va c.vn c.vc)
theorem put0_eq (w:World) (b:Nat) (c:Cel):put0 w b c=put8 w b (0*8) c:=by simp [put0,put8]
theorem box_blk {w:World} {b:Nat} {c:Cel} (h:BoxT w b c):BlkV w b 29 (flat [c]):=by unfold BlkV;unfold BoxT at h;simpa [flat] using h
theorem blk_box {w:World} {b:Nat} {c:Cel} (h:BlkV w b 29 (flat [c])):BoxT w b c:=by unfold BlkV at h;unfold BoxT;simpa [flat] using h
theorem put0_box {w:World} {b:Nat} {c0 c:Cel} (h:BoxT w b c0):BoxT (put0 w b c) b c:=by
  rw [put0_eq]
  exact blk_box (put8_blk (box_blk h) 0 (by simp) c)
theorem put0_but (w:World) (b:Nat) (c:Cel):But b w (put0 w b c):=by rw [put0_eq];exact put8_but _ _ _ _
def Var (w:World) (b:Nat) (c:Cel):Prop :=
  (w.cell? ⟨b,0,none⟩=some (.int .i64 c.k)∧w.cell? ⟨b,1,none⟩=some (.bool c.b)∧w.cell? ⟨b,2,none⟩=some (.bool c.neg)∧w.cell? ⟨b,3,none⟩=some (.slice c.ma c.mn c.mc) ∧
    w.cell? ⟨b,4,none⟩=some (.int .i64 c.e)∧w.cell? ⟨b,5,none⟩=some (.string c.s)∧w.cell? ⟨b,6,none⟩=some (.slice c.ka c.kn c.kc)∧w.cell? ⟨b,7,none⟩=some (.slice c.va c.vn c.vc)) ∧
  (w.frozen? ⟨b,0,none⟩=false∧w.frozen? ⟨b,1,none⟩=false∧w.frozen? ⟨b,2,none⟩=false∧w.frozen? ⟨b,3,none⟩=false∧w.frozen? ⟨b,4,none⟩=false∧w.frozen? ⟨b,5,none⟩=false∧w.frozen? ⟨b,6,none⟩=false∧w.frozen? ⟨b,7,none⟩=false)
theorem BoxT.var {w:World} {b:Nat} {c:Cel} (h:BoxT w b c):Var w b c:=⟨h.cells,h.free 0,h.free 1,h.free 2,h.free 3,h.free 4,h.free 5,h.free 6,h.free 7⟩
theorem two2_box (w:World) (c d:Cel):BoxT (two2 w c d) w.heap.size c∧BoxT (two2 w c d) (w.heap.size+1) d:=by
  refine ⟨(Below.heap_alloc _ _ _ (by simp)).trans (heap_alloc_new w _),?_⟩
  have:=heap_alloc_new (w.alloc (.cells c.cells.toArray 29)) (.cells d.cells.toArray 29)
  rw [World.size_alloc] at this;exact this
theorem two2_size (w:World) (c d:Cel):(two2 w c d).heap.size=w.heap.size+2:=by simp [two2]
theorem getD_mapc {l:List MT} {i:Nat} (h:i<l.length) (d:MT):(l.map MT.c).getD i zeroC=(l.getD i d).c:=by simp [List.getD,h]
def partsL (t:MT):List MT:=if t.c.k=6∨t.c.k=7 then t.v else []
def alikeB (a b:MT):Bool :=
  if a.c.k=b.c.k then
    if a.c.k=2 then a.c.b == b.c.b
    else if a.c.k=3 then decide ((a.c.neg=b.c.neg∧a.c.e=b.c.e)∧a.m=b.m)
    else if a.c.k=4∨a.c.k=5 then eqS a.c.s b.c.s
    else if a.c.k=7 then decide (a.k=b.k) && decide (a.c.vn=b.c.vn)
    else if a.c.k=6 then decide (a.c.vn=b.c.vn)
    else true
  else false
mutual
def sameM:MT→MT→Bool | .mk c m k v,u=>alikeB (.mk c m k v) u && (if c.k=6∨c.k=7 then sameLs v u.v else true)
def sameLs:List MT→List MT→Bool | [],_=>true | _::_,[]=>false | t::l,u::r=>sameM t u && sameLs l r
end
theorem sameLs_nil (r:List MT):sameLs [] r=true:=by rw [sameLs]
theorem sameLs_cons (t:MT) (l:List MT) (u:MT) (r:List MT):sameLs (t::l) (u::r)=(sameM t u && sameLs l r):=by rw [sameLs]
theorem alike_kind {a b:MT} (h:alikeB a b=true):a.c.k=b.c.k:=by
  unfold alikeB at h
  split at h
  · assumption
  · cases h
theorem sameM_eq (t u:MT):sameM t u=(alikeB t u && sameLs (partsL t) (partsL u)):=by
  obtain ⟨c,m,k,v⟩:=t
  rw [sameM]
  cases h:alikeB (.mk c m k v) u
  · rfl
  · have hk:c.k=u.c.k:=alike_kind h
    unfold partsL
    rw [← hk]
    show (true && _)=(true && sameLs (if c.k=6∨c.k=7 then v else []) _)
    split
    · rfl
    · rw [sameLs_nil]
theorem alike_refl (t:MT):alikeB t t=true:=by
  unfold alikeB
  rw [if_pos rfl]
  split
  · simp
  · split
    · simp
    · split
      · exact eqS_refl _
      · split
        · simp
        · split
          · simp
          · rfl
theorem sameLs_refl (l:List MT) (h:∀ s∈l,sameM s s=true):sameLs l l=true:=by
  induction l with
  | nil=>exact sameLs_nil _
  | cons t l ih=>rw [sameLs_cons,h t (by simp),ih (fun s hs=>h s (by simp [hs]))];rfl
theorem sameM_refl:∀ t,sameM t t=true:=MT.ind fun t ih=>by
  rw [sameM_eq,alike_refl]
  show sameLs _ _=true
  refine sameLs_refl _ fun s hs=>ih s ?_
  unfold partsL at hs
  split at hs
  · exact hs
  · cases hs
theorem sameM_obj {a b:MT} (ha:a.c.k=7) (hb:b.c.k=7) (hk:a.k=b.k) (hv:a.v=b.v) (hn:a.c.vn=b.c.vn):sameM a b=true:=by
  rw [sameM_eq]
  have h1:alikeB a b=true:=by
    unfold alikeB
    rw [ha,hb,hk,hn]
    simp
  have h2:partsL a=partsL b:=by
    unfold partsL
    rw [ha,hb,hv]
  rw [h1,h2]
  exact sameLs_refl _ fun s _=>sameM_refl s
def NumsOk (t:MT):Prop:=∀ s,t.sub s→s.c.k=3→chkB s.c.neg s.m s.c.e=true
theorem NumsOk.part {t s:MT} (h:NumsOk t) (hs:s∈t.v):NumsOk s:=fun u hu=>h u (MT.sub_v hs hu)
theorem NumsOk.mk {t:MT} (h1:t.c.k=3→chkB t.c.neg t.m t.c.e=true) (h2:∀ s∈t.v,NumsOk s):NumsOk t:=by
  intro u hu
  rcases MT.sub_cases hu with rfl | ⟨s,hs,hu⟩
  · exact h1
  · exact h2 s hs u hu
theorem ltS_irr (a:ByteArray):ltS a a=false:=bytesLess_irr _
theorem ltS_tr {a b c:ByteArray} (h:ltS a b=true) (h2:ltS b c=true):ltS a c=true:=bytesLess_tr _ _ _ h h2
theorem ltS_tot (a b:ByteArray):ltS a b=true∨a=b∨ltS b a=true:=by
  rcases bytesLess_tot a.toList b.toList with h | h | h
  · exact .inl h
  · refine .inr (.inl ?_)
    rw [Lib.toList_data,Lib.toList_data] at h
    exact ByteArray.ext (Array.toList_inj.1 h)
  · exact .inr (.inr h)
def Ris (l:List ByteArray):Prop:=∀ i j,i<j→j<l.length→ltS (l.getD i ByteArray.empty) (l.getD j ByteArray.empty)=true
theorem ris_of {l:List ByteArray} (h:risesB l=true):Ris l:=by
  intro i j hij
  induction j with
  | zero=>omega
  | succ j ih =>
    intro hj
    have h1:=risesB_iff.1 h (j+1) hj
    unfold nameAt at h1
    simp at h1
    have h2:=h1.2
    by_cases e:i=j
    · subst e;simpa [List.getD] using h2
    · exact ltS_tr (ih (by omega) (by omega)) (by simpa [List.getD] using h2)
structure Spl (N:List ByteArray) (s:ByteArray) (p q:Nat):Prop where
  pq:p≤q
  qp:q≤p+1
  ql:q≤N.length
  lo:∀ j,j<p→ltS (N.getD j ByteArray.empty) s=true
  hi:∀ j,q≤j→j<N.length→ltS s (N.getD j ByteArray.empty)=true
  mid:q=p+1→N.getD p ByteArray.empty=s
theorem spl_some {N:List ByteArray} {s:ByteArray} {i:Nat} (hr:Ris N) (h:ixL N s=some i):Spl N s i (i+1):=by
  rcases ixL_cases N s with ⟨h1,_⟩ | ⟨k,h1,h2,h3,h4⟩
  · rw [h] at h1;cases h1
  · rw [h] at h1;cases h1
    exact ⟨by omega,Nat.le_refl _,h2,fun j hj=>by rw [← h3];exact hr j i hj h2,fun j hj hl=>by rw [← h3];exact hr i j hj hl,fun _=>h3⟩
theorem plL_spec (N:List ByteArray) (s:ByteArray):(∀ j,j<plL N s→ltS s (N.getD j ByteArray.empty)=false)∧(plL N s<N.length→ltS s (N.getD (plL N s) ByteArray.empty)=true):=by
  induction N with
  | nil=>exact ⟨fun j hj=>by simp [plL] at hj,fun h=>by simp at h⟩
  | cons x l ih =>
    unfold plL
    cases hx:ltS s x
    · rw [if_neg (by decide)]
      refine ⟨fun j hj=>?_,fun h=>?_⟩
      · cases j with
        | zero=>simpa using hx
        | succ j=>have:=ih.1 j (by omega);simpa using this
      · have:=ih.2 (by simpa using h);simpa using this
    · rw [if_pos rfl]
      exact ⟨fun j hj=>by omega,fun _=>by simpa using hx⟩
theorem spl_none {N:List ByteArray} {s:ByteArray} (hr:Ris N) (h:ixL N s=none):Spl N s (plL N s) (plL N s):=by
  rcases ixL_cases N s with ⟨_,h2⟩ | ⟨k,h1,_⟩
  · have hp:=plL_spec N s
    have hl:=plL_le N s
    refine ⟨Nat.le_refl _,by omega,hl,fun j hj=>?_,fun j hj hjl=>?_,fun h=>by omega⟩
    · rcases ltS_tot (N.getD j ByteArray.empty) s with h3 | h3 | h3
      · exact h3
      · exact absurd h3 (h2 j (by omega))
      · rw [hp.1 j hj] at h3;cases h3
    · have h3:=hp.2 (by omega)
      by_cases e:plL N s=j
      · rw [← e];exact h3
      · exact ltS_tr h3 (hr _ _ (by omega) hjl)
  · rw [h] at h1;cases h1
def put1 {α:Type} (l:List α) (p q:Nat) (x:α):List α:=l.take p++[x]++l.drop q
theorem put1_len {α:Type} (l:List α) (p q:Nat) (x:α) (h:p≤q) (hq:q≤l.length):(put1 l p q x).length+q=l.length+1+p:=by
  unfold put1;simp;omega
theorem put1_lt {α:Type} (l:List α) (p q:Nat) (x d:α) {i:Nat} (hp:p≤l.length) (h:i<p):(put1 l p q x).getD i d=l.getD i d:=by
  unfold put1
  simp only [List.getD,List.append_assoc]
  rw [List.getElem?_append_left (by simp;omega),List.getElem?_take,if_pos h]
theorem put1_at {α:Type} (l:List α) (p q:Nat) (x d:α) (hp:p≤l.length):(put1 l p q x).getD p d=x:=by
  unfold put1
  simp only [List.getD,List.append_assoc]
  rw [List.getElem?_append_right (by simp;omega)]
  simp [Nat.min_eq_left hp]
theorem put1_gt {α:Type} (l:List α) (p q:Nat) (x d:α) {i:Nat} (hp:p≤l.length) (h:p<i):(put1 l p q x).getD i d=l.getD (i - p - 1+q) d:=by
  unfold put1
  simp only [List.getD,List.append_assoc]
  rw [List.getElem?_append_right (by simp;omega),List.length_take,Nat.min_eq_left hp,List.getElem?_append_right (by simp;omega),List.getElem?_drop]
  simp
  congr 1
  rw [Nat.add_comm]
theorem spl_ris {N:List ByteArray} {s:ByteArray} {p q:Nat} (hr:Ris N) (h:Spl N s p q):Ris (put1 N p q s):=by
  intro i j hij hj
  have hl:=put1_len N p q s h.pq h.ql
  have h1:=h.pq;have h2:=h.qp;have h3:=h.ql
  have hp:p≤N.length:=by omega
  rcases Nat.lt_trichotomy i p with hi | rfl | hi
  · rw [put1_lt _ _ _ _ _ hp hi]
    rcases Nat.lt_trichotomy j p with hj2 | rfl | hj2
    · rw [put1_lt _ _ _ _ _ hp hj2];exact hr _ _ hij (by omega)
    · rw [put1_at _ _ _ _ _ hp];exact h.lo _ hi
    · rw [put1_gt _ _ _ _ _ hp hj2];exact hr _ _ (by omega) (by omega)
  · rw [put1_at _ _ _ _ _ hp,put1_gt _ _ _ _ _ hp hij];exact h.hi _ (by omega) (by omega)
  · rw [put1_gt _ _ _ _ _ hp hi,put1_gt _ _ _ _ _ hp (by omega)];exact hr _ _ (by omega) (by omega)






end Go.Proofs.YtnacbakcalcgaaaGreatDoor
