/- Texts of the claim. -/
import Derived.Test.YtnacbakcalcgaaaGreatDoorIi
set_option linter.unusedVariables false
set_option linter.unusedSimpArgs false
set_option maxHeartbeats 200000
set_option maxRecDepth 100000
namespace Go.Proofs.YtnacbakcalcgaaaGreatDoor
open Go.RowKit Go.Shelf
def Tw:List Nat→MT
  | []=>leafT 1 false ⟨#[]⟩
  | b::bs=>arrT (some ⟨b,0,none⟩) 1 1 [Tw bs]
def RepB (s:Nat) (w:World) (t:MT):Prop:=∀ W,But s w W→Rep W t
theorem RepB.on {s:Nat} {w W:World} {t:MT} (h:RepB s w t) (hb:But s w W):RepB s W t:=fun U hU=>h U (hb.trans hU)
theorem RepB.rep {s:Nat} {w:World} {t:MT} (h:RepB s w t):Rep w t:=h w (But.refl s w)
def L1 (w:World) (s d:Nat) (k:Nat) (i:Value) (wr:World):Prop :=
  ∃ bs:List Nat,bs.length≤d∧d - bs.length≤k∧i=.int .i64 (bs.length:Int)∧BlkV wr s 29 (flat [(Tw bs).c])∧RepB s wr (Tw bs)∧Below w.heap.size w wr
def L2 (w1:World) (s n:Nat) (k:Nat) (i:Value) (wr:World):Prop :=
  ∃ (m:Nat) (ad:Option Addr) (cap:Nat),m≤n∧n - m≤k∧i=.int .i64 (m:Int)∧BlkV wr s 29 (flat [arrC ad m cap])∧wr.ownsRow (s+1) 29 8 (.slice ad m cap) m (flat (List.replicate m (leafC 2 true ⟨#[]⟩)))∧Below w1.heap.size w1 wr
def eqS (a b:ByteArray):Bool:=a.toList == b.toList
theorem eqS_iff {a b:ByteArray}:eqS a b=true ↔ a=b:=by
  unfold eqS
  rw [beq_iff_eq]
  refine ⟨fun h=>?_,fun h=>by rw [h]⟩
  rw [Lib.toList_data,Lib.toList_data] at h
  exact ByteArray.ext (Array.toList_inj.1 h)
theorem eqS_refl (a:ByteArray):eqS a a=true:=eqS_iff.2 rfl
def ixL:List ByteArray→ByteArray→Option Nat
  | [],_=>none
  | x::l,s=>if eqS x s then some 0 else (ixL l s).map (· + 1)
def plL:List ByteArray→ByteArray→Nat
  | [],_=>0
  | x::l,s=>if ltS s x then 0 else plL l s+1


theorem getD_mapc {l:List MT} {i:Nat} (h:i<l.length) (d:MT):(l.map MT.c).getD i zeroC=(l.getD i d).c:=by simp [List.getD,h]
def partsL (t:MT):List MT:=if t.c.k=6∨t.c.k=7 then t.v else []
def alikeB (a b:MT):Bool :=
  if a.c.k=b.c.k then
    if a.c.k=2 then a.c.b == b.c.b
    else if a.c.k=3 then decide ((a.c.neg=b.c.neg∧a.c.e=b.c.e)∧a.m=b.m)
    else if a.c.k=4∨a.c.k=5 then eqS a.c.s b.c.s
    else if a.c.k=7 then decide (a.k=b.k) && decide (a.c.vn=b.c.vn)
    else if a.c.k=6 then decide (a.c.vn=b.c.vn)
    else true
  else false
mutual
def sameM:MT→MT→Bool | .mk c m k v,u=>alikeB (.mk c m k v) u && (if c.k=6∨c.k=7 then sameLs v u.v else true)
def sameLs:List MT→List MT→Bool | [],_=>true | _::_,[]=>false | t::l,u::r=>sameM t u && sameLs l r
end
theorem sameLs_nil (r:List MT):sameLs [] r=true:=by rw [sameLs]
theorem sameLs_cons (t:MT) (l:List MT) (u:MT) (r:List MT):sameLs (t::l) (u::r)=(sameM t u && sameLs l r):=by rw [sameLs]
theorem alike_kind {a b:MT} (h:alikeB a b=true):a.c.k=b.c.k:=by
  unfold alikeB at h
  split at h
  · assumption
  · cases h
theorem sameM_eq (t u:MT):sameM t u=(alikeB t u && sameLs (partsL t) (partsL u)):=by
  obtain ⟨c,m,k,v⟩:=t
  rw [sameM]
  cases h:alikeB (.mk c m k v) u
  · rfl
  · have hk:c.k=u.c.k:=alike_kind h
    unfold partsL
    rw [← hk]
    show (true && _)=(true && sameLs (if c.k=6∨c.k=7 then v else []) _)
    split
    · rfl
    · rw [sameLs_nil]
theorem alike_refl (t:MT):alikeB t t=true:=by
  unfold alikeB
  rw [if_pos rfl]
  split
  · simp
  · split
    · simp
    · split
      · exact eqS_refl _
      · split
        · simp
        · split
          · simp
          · rfl
theorem sameLs_refl (l:List MT) (h:∀ s∈l,sameM s s=true):sameLs l l=true:=by
  induction l with
  | nil=>exact sameLs_nil _
  | cons t l ih=>rw [sameLs_cons,h t (by simp),ih (fun s hs=>h s (by simp [hs]))];rfl
theorem sameM_refl:∀ t,sameM t t=true:=MT.ind fun t ih=>by
  rw [sameM_eq,alike_refl]
  show sameLs _ _=true
  refine sameLs_refl _ fun s hs=>ih s ?_
  unfold partsL at hs
  split at hs
  · exact hs
  · cases hs
theorem sameM_obj {a b:MT} (ha:a.c.k=7) (hb:b.c.k=7) (hk:a.k=b.k) (hv:a.v=b.v) (hn:a.c.vn=b.c.vn):sameM a b=true:=by
  rw [sameM_eq]
  have h1:alikeB a b=true:=by
    unfold alikeB
    rw [ha,hb,hk,hn]
    simp
  have h2:partsL a=partsL b:=by
    unfold partsL
    rw [ha,hb,hv]
  rw [h1,h2]
  exact sameLs_refl _ fun s _=>sameM_refl s
def NumsOk (t:MT):Prop:=∀ s,t.sub s→s.c.k=3→chkB s.c.neg s.m s.c.e=true
theorem NumsOk.part {t s:MT} (h:NumsOk t) (hs:s∈t.v):NumsOk s:=fun u hu=>h u (MT.sub_v hs hu)
theorem NumsOk.mk {t:MT} (h1:t.c.k=3→chkB t.c.neg t.m t.c.e=true) (h2:∀ s∈t.v,NumsOk s):NumsOk t:=by
  intro u hu
  rcases MT.sub_cases hu with rfl | ⟨s,hs,hu⟩
  · exact h1
  · exact h2 s hs u hu
theorem ltS_tr {a b c:ByteArray} (h:ltS a b=true) (h2:ltS b c=true):ltS a c=true:=bytesLess_tr _ _ _ h h2
def Ris (l:List ByteArray):Prop:=∀ i j,i<j→j<l.length→ltS (l.getD i ByteArray.empty) (l.getD j ByteArray.empty)=true
theorem ris_of {l:List ByteArray} (h:risesB l=true):Ris l:=by
  intro i j hij
  induction j with
  | zero=>omega
  | succ j ih =>
    intro hj
    have h1:=risesB_iff.1 h (j+1) hj
    unfold nameAt at h1
    simp at h1
    have h2:=h1.2
    by_cases e:i=j
    · subst e;simpa [List.getD] using h2
    · exact ltS_tr (ih (by omega) (by omega)) (by simpa [List.getD] using h2)
structure Spl (N:List ByteArray) (s:ByteArray) (p q:Nat):Prop where
  pq:p≤q
  qp:q≤p+1
  ql:q≤N.length
  lo:∀ j,j<p→ltS (N.getD j ByteArray.empty) s=true
  hi:∀ j,q≤j→j<N.length→ltS s (N.getD j ByteArray.empty)=true
  mid:q=p+1→N.getD p ByteArray.empty=s






end Go.Proofs.YtnacbakcalcgaaaGreatDoor
