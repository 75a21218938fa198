/- Texts of the claim. -/
import Derived.Test.YtnacbakcalcgaaaGreatDoorRows
import Derived.Test.YtnacbakcalcgaaaGreatDoorEm
import Derived.Deep.LoopGhost
set_option linter.unusedVariables false
set_option linter.unusedSimpArgs false
set_option maxHeartbeats 2000000
set_option maxRecDepth 100000
namespace Go.Proofs.YtnacbakcalcgaaaGreatDoor
structure Sto {K:Type} (lt:K→K→Bool):Prop where
  irr:∀ a,lt a a=false
  tr:∀ a b c,lt a b=true→lt b c=true→lt a c=true
  tot:∀ a b,lt a b=true∨a=b∨lt b a=true
theorem Sto.asym {K:Type} {lt:K→K→Bool} (h:Sto lt) {a b:K} (x:lt a b=true):lt b a=false:=by
  cases y:lt b a
  · rfl
  · have:=h.tr _ _ _ x y;rw [h.irr] at this;cases this
theorem bytesLess_irr:∀ a:List UInt8,Op.bytesLess a a=false
  | []=>rfl
  | x::a=>by
    simp only [Op.bytesLess,bytesLess_irr a,Bool.and_false,Bool.or_false,decide_eq_false_iff_not]
    exact UInt8.lt_irrefl x
theorem bytesLess_cons (x y:UInt8) (a b:List UInt8):Op.bytesLess (x::a) (y::b)=true ↔ x<y∨(x=y∧Op.bytesLess a b=true):=by
  simp [Op.bytesLess]
theorem bytesLess_tr:∀ a b c:List UInt8,Op.bytesLess a b=true→Op.bytesLess b c=true→Op.bytesLess a c=true
  | [],[],_,h,_=>by simp [Op.bytesLess] at h
  | [],_::_,[],_,k=>by simp [Op.bytesLess] at k
  | [],_::_,_::_,_,_=>rfl
  | _::_,[],_,h,_=>by simp [Op.bytesLess] at h
  | _::_,_::_,[],_,k=>by simp [Op.bytesLess] at k
  | x::a,y::b,z::c,h,k=>by
    rw [bytesLess_cons] at h k ⊢
    rcases h with h | ⟨h,h'⟩
    · rcases k with k | ⟨k,k'⟩
      · exact .inl (UInt8.lt_trans h k)
      · exact .inl (k ▸ h)
    · rcases k with k | ⟨k,k'⟩
      · exact .inl (h ▸ k)
      · exact .inr ⟨h.trans k,bytesLess_tr a b c h' k'⟩
theorem bytesLess_tot:∀ a b:List UInt8,Op.bytesLess a b=true∨a=b∨Op.bytesLess b a=true
  | [],[]=>.inr (.inl rfl)
  | [],_::_=>.inl rfl
  | _::_,[]=>.inr (.inr rfl)
  | x::a,y::b=>by
    rw [bytesLess_cons,bytesLess_cons]
    rcases UInt8.lt_or_lt_of_ne (a:=x) (b:=y) |> fun f=>(Classical.em (x=y)).imp id f with h | h
    · subst h
      rcases bytesLess_tot a b with k | k | k
      · exact .inl (.inr ⟨rfl,k⟩)
      · exact .inr (.inl (by rw [k]))
      · exact .inr (.inr (.inr ⟨rfl,k⟩))
    · rcases h with h | h
      · exact .inl (.inl h)
      · exact .inr (.inr (.inl h))
theorem sto_bytes:Sto Op.bytesLess:=⟨bytesLess_irr,bytesLess_tr,bytesLess_tot⟩
def shortL (a b:List UInt8):Bool:=decide (a.length<b.length) || (decide (a.length=b.length) && Op.bytesLess a b)
theorem shortL_iff (a b:List UInt8):shortL a b=true ↔ a.length<b.length∨(a.length=b.length∧Op.bytesLess a b=true):=by
  simp [shortL]
theorem sto_short:Sto shortL where
  irr a:=by simp [shortL,bytesLess_irr]
  tr a b c h k:=by
    rw [shortL_iff] at h k ⊢
    rcases h with h | ⟨h,h'⟩ <;> rcases k with k | ⟨k,k'⟩
    iterate 3
      · exact .inl (by omega)
    · exact .inr ⟨by omega,bytesLess_tr _ _ _ h' k'⟩
  tot a b:=by
    rw [shortL_iff,shortL_iff]
    rcases Nat.lt_trichotomy a.length b.length with h | h | h
    · exact .inl (.inl h)
    · rcases bytesLess_tot a b with k | k | k
      · exact .inl (.inr ⟨h,k⟩)
      · exact .inr (.inl k)
      · exact .inr (.inr (.inr ⟨h.symm,k⟩))
    · exact .inr (.inr (.inl h))
section
variable {K : Type} [DecidableEq K]
def leI (lt:K→K→Bool) (key:Nat→K) (i j:Nat):Bool:=lt (key i) (key j) || (decide (key i=key j) && decide (i≤j))
theorem leI_iff (lt:K→K→Bool) (key:Nat→K) (i j:Nat):leI lt key i j=true ↔ lt (key i) (key j)=true∨(key i=key j∧i≤j):=by simp [leI]
theorem leI_tr {lt:K→K→Bool} (h:Sto lt) (key:Nat→K) (a b c:Nat):leI lt key a b=true→leI lt key b c=true→leI lt key a c=true:=by
  rw [leI_iff,leI_iff,leI_iff]
  rintro (x | ⟨x,x'⟩) (y | ⟨y,y'⟩)
  · exact .inl (h.tr _ _ _ x y)
  · exact .inl (y ▸ x)
  · exact .inl (x ▸ y)
  · exact .inr ⟨x.trans y,by omega⟩
theorem leI_tot {lt:K→K→Bool} (h:Sto lt) (key:Nat→K) (a b:Nat):(leI lt key a b || leI lt key b a)=true:=by
  rw [Bool.or_eq_true,leI_iff,leI_iff]
  rcases h.tot (key a) (key b) with x | x | x
  · exact .inl (.inl x)
  · rcases Nat.le_total a b with y | y
    · exact .inl (.inr ⟨x,y⟩)
    · exact .inr (.inr ⟨x.symm,y⟩)
  · exact .inr (.inl x)
theorem leI_anti {lt:K→K→Bool} (h:Sto lt) (key:Nat→K) {a b:Nat} (x:leI lt key a b=true) (y:leI lt key b a=true):a=b:=by
  rw [leI_iff] at x y
  rcases x with x | ⟨x,x'⟩ <;> rcases y with y | ⟨y,y'⟩
  · have:=h.asym x;rw [y] at this;cases this
  · rw [y,h.irr] at x;cases x
  · rw [x,h.irr] at y;cases y
  · omega
theorem leI_lt {lt:K→K→Bool} (h:Sto lt) (key:Nat→K) {i j:Nat} (hij:i<j):leI lt key i j = !lt (key j) (key i):=by
  rw [Bool.eq_iff_iff,leI_iff,Bool.not_eq_true']
  constructor
  · rintro (x | ⟨x,_⟩)
    · exact h.asym x
    · rw [x];exact h.irr _
  · intro x
    rcases h.tot (key i) (key j) with y | y | y
    · exact .inl y
    · exact .inr ⟨y,by omega⟩
    · rw [x] at y;cases y
def srt (lt:K→K→Bool) (key:Nat→K) (s len:Nat):List Nat:=(List.range' s len).mergeSort (leI lt key)
theorem srt_perm (lt:K→K→Bool) (key:Nat→K) (s len:Nat):(srt lt key s len).Perm (List.range' s len):=List.mergeSort_perm _ _
theorem srt_len (lt:K→K→Bool) (key:Nat→K) (s len:Nat):(srt lt key s len).length=len:=by
  rw [(srt_perm lt key s len).length_eq,List.length_range']
theorem srt_mem {lt:K→K→Bool} {key:Nat→K} {s len x:Nat}:x∈srt lt key s len ↔ s≤x∧x<s+len:=by
  rw [(srt_perm lt key s len).mem_iff,List.mem_range'_1]
theorem srt_sorted {lt:K→K→Bool} (h:Sto lt) (key:Nat→K) (s len:Nat):(srt lt key s len).Pairwise fun a b=>leI lt key a b=true :=
  List.pairwise_mergeSort (leI_tr h key) (leI_tot h key) _
theorem srt_unique {lt:K→K→Bool} (h:Sto lt) (key:Nat→K) (s len:Nat) (l:List Nat) (hp:l.Perm (List.range' s len)) (hs:l.Pairwise fun a b=>leI lt key a b=true):l=srt lt key s len :=
  List.Perm.eq_of_pairwise (fun a b _ _ x y=>leI_anti h key x y) hs (srt_sorted h key s len) (hp.trans (srt_perm lt key s len).symm)
theorem srt_zero (lt:K→K→Bool) (key:Nat→K) (s:Nat):srt lt key s 0=[]:=by simp [srt]
theorem srt_one (lt:K→K→Bool) (key:Nat→K) (s:Nat):srt lt key s 1=[s]:=by simp [srt,List.range']
theorem srt_merge {lt:K→K→Bool} (h:Sto lt) (key:Nat→K) (s a b:Nat):(srt lt key s a).merge (srt lt key (s+a) b) (leI lt key)=srt lt key s (a+b):=by
  apply srt_unique h
  · refine (List.merge_perm_append _).trans ?_
    refine ((srt_perm lt key s a).append (srt_perm lt key (s+a) b)).trans ?_
    have:=@List.range'_append s a b 1
    rw [Nat.one_mul] at this;rw [this]
  · exact List.pairwise_merge (leI_tr h key) (leI_tot h key) _ _ (srt_sorted h key s a) (srt_sorted h key (s+a) b)
def mrg (lt:K→K→Bool) (key:Nat→K) (A B:List Nat):List Nat:=A.merge B (leI lt key)
theorem mrg_nil_left (lt:K→K→Bool) (key:Nat→K) (B:List Nat):mrg lt key [] B=B:=by simp [mrg]
theorem mrg_nil_right (lt:K→K→Bool) (key:Nat→K) (A:List Nat):mrg lt key A []=A:=by simp [mrg]
theorem mrg_left {lt:K→K→Bool} {key:Nat→K} {x y:Nat} {A B:List Nat} (h:leI lt key x y=true):mrg lt key (x::A) (y::B)=x::mrg lt key A (y::B):=by
  unfold mrg;rw [List.cons_merge_cons,if_pos h]
theorem mrg_right {lt:K→K→Bool} {key:Nat→K} {x y:Nat} {A B:List Nat} (h:leI lt key x y=false):mrg lt key (x::A) (y::B)=y::mrg lt key (x::A) B:=by
  unfold mrg;rw [List.cons_merge_cons,if_neg (by rw [h];exact Bool.false_ne_true)]
theorem mrg_len (lt:K→K→Bool) (key:Nat→K) (A B:List Nat):(mrg lt key A B).length=A.length+B.length:=by
  unfold mrg;rw [(List.merge_perm_append _).length_eq,List.length_append]
def Runs (lt:K→K→Bool) (key:Nat→K) (r n:Nat) (p:Nat) (F:List Nat):Prop :=
  F.length=n∧∀ k,k*r<p→k*r<n→(F.drop (k*r)).take r=srt lt key (k*r) (min r (n - k*r))
theorem Runs.start (lt:K→K→Bool) (key:Nat→K) (n:Nat):Runs lt key 1 n n (List.range n):=by
  refine ⟨List.length_range,fun k _ hk=>?_⟩
  rw [Nat.mul_one] at hk ⊢
  rw [Nat.min_eq_left (by omega),srt_one,List.drop_eq_getElem_cons (by simpa using hk)]
  simp
theorem Runs.done {lt:K→K→Bool} {key:Nat→K} {r n:Nat} {F:List Nat} (h:Runs lt key r n n F) (hr:n≤r):F=srt lt key 0 n:=by
  obtain ⟨h1,h2⟩:=h
  rcases Nat.eq_zero_or_pos n with h0 | h0
  · subst h0;rw [srt_zero];exact List.eq_nil_of_length_eq_zero h1
  · have:=h2 0 (by omega) (by omega)
    rw [Nat.zero_mul,List.drop_zero,List.take_of_length_le (by omega),Nat.sub_zero,Nat.min_eq_right hr] at this
    exact this
theorem Runs.empty (lt:K→K→Bool) (key:Nat→K) (r n:Nat) (T:List Nat) (h:T.length=n):Runs lt key r n 0 T:=⟨h,fun k hk=>absurd hk (by omega)⟩
theorem Runs.step {lt:K→K→Bool} (hs:Sto lt) {key:Nat→K} {r n k:Nat} {F T:List Nat} (hr:0<r) (h:Runs lt key r n n F) (ht:Runs lt key (2*r) n (k*(2*r)) T) (hk:k*(2*r)<n) :
    Runs lt key (2*r) n ((k+1)*(2*r)) (T.take (k*(2*r))++mrg lt key ((F.drop (k*(2*r))).take (min (k*(2*r)+r) n - k*(2*r))) ((F.drop (min (k*(2*r)+r) n)).take (min (k*(2*r)+2*r) n - min (k*(2*r)+r) n))++T.drop (min (k*(2*r)+2*r) n)):=by
  obtain ⟨f1,f2⟩:=h
  obtain ⟨t1,t2⟩:=ht
  have e2:k*(2*r)=(2*k)*r:=by rw [← Nat.mul_assoc,Nat.mul_comm k 2]
  have a1:=f2 (2*k) (by omega) (by omega)
  rw [← e2] at a1
  have eA:(F.drop (k*(2*r))).take (min (k*(2*r)+r) n - k*(2*r))=srt lt key (k*(2*r)) (min r (n - k*(2*r))):=by
    rw [← a1]
    by_cases hm:k*(2*r)+r≤n
    · rw [Nat.min_eq_left hm,Nat.add_sub_cancel_left]
    · rw [Nat.min_eq_right (by omega),List.take_of_length_le (by rw [List.length_drop];omega),List.take_of_length_le (by rw [List.length_drop];omega)]
  have eB:(F.drop (min (k*(2*r)+r) n)).take (min (k*(2*r)+2*r) n - min (k*(2*r)+r) n)=srt lt key (k*(2*r)+min r (n - k*(2*r))) (min (2*r) (n - k*(2*r)) - min r (n - k*(2*r))):=by
    by_cases hm:k*(2*r)+r<n
    · have e3:k*(2*r)+r=(2*k+1)*r:=by rw [Nat.add_mul,Nat.one_mul,← e2]
      have a2:=f2 (2*k+1) (by omega) (by omega)
      rw [← e3] at a2
      rw [Nat.min_eq_left (show k*(2*r)+r≤n by omega),Nat.min_eq_left (show r≤n - k*(2*r) by omega)]
      rw [show min (2*r) (n - k*(2*r)) - r=min r (n - (k*(2*r)+r)) by omega,← a2]
      by_cases hm2:k*(2*r)+2*r≤n
      · rw [Nat.min_eq_left hm2];congr 1;omega
      · rw [Nat.min_eq_right (show n≤k*(2*r)+2*r by omega),List.take_of_length_le (by rw [List.length_drop];omega),List.take_of_length_le (by rw [List.length_drop];omega)]
    · rw [show min (2*r) (n - k*(2*r)) - min r (n - k*(2*r))=0 by omega,srt_zero]
      rw [show min (k*(2*r)+2*r) n - min (k*(2*r)+r) n=0 by omega,List.take_zero]
  have eM:mrg lt key ((F.drop (k*(2*r))).take (min (k*(2*r)+r) n - k*(2*r))) ((F.drop (min (k*(2*r)+r) n)).take (min (k*(2*r)+2*r) n - min (k*(2*r)+r) n))=srt lt key (k*(2*r)) (min (2*r) (n - k*(2*r))):=by
    rw [eA,eB];unfold mrg;rw [srt_merge hs];congr 1;omega
  rw [eM]
  generalize hS:srt lt key (k*(2*r)) (min (2*r) (n - k*(2*r)))=S
  have lS:S.length=min (2*r) (n - k*(2*r)):=by rw [← hS];exact srt_len _ _ _ _
  refine ⟨by simp [lS,t1];omega,fun j hj hjn=>?_⟩
  have hle:j≤k:=by
    rcases Nat.lt_or_ge k j with h | h
    · have:=Nat.mul_le_mul_right (2*r) (show k+1≤j by omega);omega
    · exact h
  rcases Nat.lt_or_ge j k with h | h
  · have hj2:=Nat.mul_le_mul_right (2*r) (show j+1≤k by omega)
    rw [Nat.add_mul,Nat.one_mul] at hj2
    rw [← t2 j (by omega) hjn,List.append_assoc,List.drop_append_of_le_length (by rw [List.length_take];omega),List.take_append_of_le_length (by rw [List.length_drop,List.length_take];omega),List.drop_take,List.take_take,Nat.min_eq_left (by omega)]
  · obtain rfl:j=k:=by omega
    rw [List.append_assoc,List.drop_append,List.drop_of_length_le (by rw [List.length_take];omega),List.nil_append,List.length_take,t1,Nat.min_eq_left (by omega),Nat.sub_self,List.drop_zero,hS]
    by_cases hm:j*(2*r)+2*r≤n
    · rw [List.take_append_of_le_length (by omega),List.take_of_length_le (by omega)]
    · rw [Nat.min_eq_right (by omega),List.drop_of_length_le (by omega),List.append_nil,List.take_of_length_le (by omega)]
theorem Runs.mono {lt:K→K→Bool} {key:Nat→K} {r n p q:Nat} {F:List Nat} (h:Runs lt key r n p F) (hq:n≤p):Runs lt key r n q F:=⟨h.1,fun k _ hn=>h.2 k (by omega) hn⟩
end
end Go.Proofs.YtnacbakcalcgaaaGreatDoor
namespace Go.Proofs.YtnacbakcalcgaaaGreatDoor
open Go.RowKit Go.Shelf
def okN (s:ByteArray):Bool:=decide (s.size≤2000) && validL s.data.toList
def ltS (a b:ByteArray):Bool:=Op.bytesLess a.toList b.toList
theorem ltS_yes {x y:ByteArray} (h:ltS y x=true):Op.bytesLess x.toList y.toList=false∧(x.toList == y.toList)=false:=by
  refine ⟨?_,?_⟩
  · cases h2:Op.bytesLess x.toList y.toList
    · rfl
    · have:=bytesLess_tr _ _ _ h h2;rw [bytesLess_irr] at this;cases this
  · rw [beq_eq_false_iff_ne];intro e
    unfold ltS at h;rw [e,bytesLess_irr] at h;cases h
theorem ltS_no {x y:ByteArray} (h:ltS y x=false):Op.bytesLess x.toList y.toList=true∨(Op.bytesLess x.toList y.toList=false∧(x.toList == y.toList)=true):=by
  rcases bytesLess_tot x.toList y.toList with h1 | h1 | h1
  · exact .inl h1
  · exact .inr ⟨by rw [h1,bytesLess_irr],by rw [h1];simp⟩
  · unfold ltS at h;rw [h1] at h;cases h
def nameAt (l:List ByteArray) (i:Nat):Bool:=okN (l.getD i ByteArray.empty) && (decide (i=0) || ltS (l.getD (i - 1) ByteArray.empty) (l.getD i ByteArray.empty))
def risesB (l:List ByteArray):Bool:=(List.range l.length).all (nameAt l)
theorem risesB_iff {l:List ByteArray}:risesB l=true ↔ ∀ i,i<l.length→nameAt l i=true:=by
  unfold risesB;rw [List.all_eq_true];simp
theorem risesB_no {l:List ByteArray} {i:Nat} (hi:i<l.length) (h:nameAt l i=false):risesB l=false:=by
  cases hb:risesB l
  · rfl
  · rw [risesB_iff.1 hb i hi] at h;cases h
def NR (l:List ByteArray) (w:World) (k:Nat) (i:Value) (wr:World):Prop :=
  ∃ j:Nat,j≤l.length∧l.length - j≤k∧i=.int .i64 (j:Int)∧(∀ q,q<j→nameAt l q=true)∧Below w.heap.size w wr
theorem namesRise_any (ad:Option Addr) (n cap:Nat) (l:List ByteArray) (w:World) (hl:l.length=n) (hcap:n≤cap) (hm:n≤1000000000000000) (hr:RdV w ad (sv l)) (hz:∀ s∈l,s.size≤maxLen) (hT:UT w) :
    Calls Tryz.prog 104 #[.slice ad n cap] w (BoolBelow (risesB l) w):=by
  have HL:=Lib.hid hl
  have HRD:=Lib.hid (fun W (h:Below w.heap.size w W)=>hr.on h)
  have HZ:=Lib.hid hz
  have HUT:=Lib.hid (fun W (h:Below w.heap.size w W)=>hT.below h)
  clear hl hr hz hT
  have HST:=Lib.hid (show NR l w n (.int .i64 0) w from ⟨0,Nat.zero_le _,by rw [HL.out];omega,rfl,fun q h=>by omega,Below.refl _ _⟩)
  go_enter Tryz.func104,Tryz.ntmps104
  go_wp2
  go_loopg [7] n (fun k i wr=>NR l w k i wr)
  case atStart=>exact HST.out
  case round =>
    obtain ⟨j,hj,hk,rfl,hpre,hb⟩:=hrel
    rw [HL.out] at hj hk
    have HP:=Lib.hid hpre;have HB:=Lib.hid hb
    clear hpre hb
    by_cases hlt:j<n
    · obtain ⟨k,rfl⟩:∃ k,gk=k+1:=⟨gk - 1,by omega⟩
      have hjz:(j:Int)<(n:Int):=by omega
      have hjl:j<l.length:=by rw [HL.out];exact hlt
      obtain ⟨b,o,rfl,hbl,hc⟩:=HRD.out wr HB.out j (by rw [sv_len];exact hjl)
      rw [sv_get _ _ hjl] at hc
      have hz:=HZ.out (l.getD j ByteArray.empty) (by simp [List.getD,hjl])
      have HNX:=Lib.hid (fun W (h:Below w.heap.size w W) (hn:nameAt l j=true)=>(show NR l w k (.int .i64 ((j:Int)+1)) W from
        ⟨j+1,by rw [HL.out];omega,by rw [HL.out];omega,rfl,fun q hq=>by
          by_cases e:q=j
          · subst e;exact hn
          · exact HP.out q (by omega),h⟩))
      have HNO:=Lib.hid (fun (hn:nameAt l j=false)=>risesB_no hjl hn)
      have KV:=Lib.hid (fun W (h:Below w.heap.size w W)=>valid_any (l.getD j ByteArray.empty) W hz (HUT.out W h))
      have HPR:=Lib.hid (fun W (h:Below w.heap.size w W) (h0:0<j)=>(by
        obtain ⟨b',o',e,_,hc⟩:=HRD.out W h (j - 1) (by rw [sv_len];omega)
        cases e
        rw [sv_get _ _ (by omega)] at hc;exact hc:W.cell? ⟨b,o+(j - 1),none⟩=some (.string (l.getD (j - 1) ByteArray.empty))))
      have HNA:=Lib.hid (show nameAt l j=(okN (l.getD j ByteArray.empty) && (decide (j=0) || ltS (l.getD (j - 1) ByteArray.empty) (l.getD j ByteArray.empty))) from rfl)
      have hz2:=HZ.out
      generalize l.getD j ByteArray.empty=x at *
      clear hz2
      unfold maxLen at hz
      by_cases hs:x.size≤2000
      · have d1:¬ (2000:Int)<(x.size:Int):=by omega
        cases hv:validL x.data.toList
        · have HF:=Lib.hid (HNO.out (by rw [HNA.out];unfold okN;rw [hv];simp))
          rw [hv] at KV
          clear hv
          go_wp2_with fail
          refine (KV.out _ HB.out).mono ?_
          rintro r w1 ⟨rfl,h1⟩
          have H1:=Lib.hid (below_on HB.out h1);clear h1
          go_wp2
          go_ret
          rw [HF.out]
          exact BoolBelow.mk rfl H1.out
        · have HOK:=Lib.hid (show okN x=true by unfold okN;rw [hv,decide_eq_true hs];rfl)
          rw [hv] at KV
          clear hv
          by_cases h0:j=0
          · have HY:=Lib.hid (HNO.out)
            have HT:=Lib.hid (show nameAt l j=true by rw [HNA.out,HOK.out,decide_eq_true h0];rfl)
            have d2:¬ 0<(j:Int):=by omega
            clear h0
            go_wp2_with fail
            refine (KV.out _ HB.out).mono ?_
            rintro r w1 ⟨rfl,h1⟩
            have H1:=Lib.hid (HNX.out _ (below_on HB.out h1) HT.out);clear h1
            go_wp2
            go_roundg k
            case rel=>exact H1.out
            case measure=>omega
          · have d2:0<(j:Int):=by omega
            have hj0:0<j:=by omega
            have hj1:(1:Int)≤(j:Int):=by omega
            obtain ⟨j',rfl⟩:∃ j',j=j'+1:=⟨j - 1,by omega⟩
            generalize hy:l.getD (j'+1 - 1) ByteArray.empty=y at *
            have hne:decide (j'+1=0)=false:=decide_eq_false (by omega)
            rw [hne,Bool.false_or] at HNA
            clear hne hy
            cases hc:ltS y x
            · have HF:=Lib.hid (HNO.out (by rw [HNA.out,HOK.out,hc];rfl))
              rcases ltS_no hc with e1 | ⟨e1,e2⟩
              all_goals
                clear hc
                go_wp2_with fail
                refine (KV.out _ HB.out).mono ?_
                rintro r w1 ⟨rfl,h1⟩
                have H1:=Lib.hid (below_on HB.out h1);clear h1
                have hc1:=HPR.out w1 H1.out hj0
                simp only [Nat.add_sub_cancel] at hc1
                go_wp2
                go_ret
                rw [HF.out]
                exact BoolBelow.mk rfl H1.out
            · obtain ⟨e1,e2⟩:=ltS_yes hc
              have HT:=Lib.hid (show nameAt l (j'+1)=true by rw [HNA.out,HOK.out,hc];rfl)
              clear hc
              go_wp2_with fail
              refine (KV.out _ HB.out).mono ?_
              rintro r w1 ⟨rfl,h1⟩
              have H1:=Lib.hid (below_on HB.out h1)
              have hc1:=HPR.out w1 H1.out hj0
              simp only [Nat.add_sub_cancel] at hc1
              have H2:=Lib.hid (HNX.out _ H1.out HT.out);clear h1
              go_wp2
              go_roundg k
              case rel=>exact H2.out
              case measure=>omega
      · have d1:(2000:Int)<(x.size:Int):=by omega
        have HF:=Lib.hid (HNO.out (by rw [HNA.out];unfold okN;rw [decide_eq_false hs];rfl))
        clear hs
        go_wp2
        go_ret
        rw [HF.out]
        exact BoolBelow.mk rfl HB.out
    · have hjz:¬ (j:Int)<(n:Int):=by omega
      have HF:=Lib.hid (show risesB l=true from risesB_iff.2 (fun q hq=>HP.out q (by rw [HL.out] at hq;omega)))
      go_wp2
      go_ret
      rw [HF.out]
      exact BoolBelow.mk rfl HB.out
end Go.Proofs.YtnacbakcalcgaaaGreatDoor
