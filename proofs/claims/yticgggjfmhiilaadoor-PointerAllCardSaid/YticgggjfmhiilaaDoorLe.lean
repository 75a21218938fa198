/- Texts of the claim. -/
import Derived.Test.YticgggjfmhiilaaDoorLd
import Derived.Sort.LoopGhostIn
set_option linter.unusedVariables false
set_option linter.unusedSimpArgs false
set_option maxHeartbeats 200000
set_option maxRecDepth 100000
namespace Go.Proofs.YticgggjfmhiilaaDoor
open Go.RowKit Go.Shelf
attribute [local go_sem] Oper.semAt_some
theorem KeepB.grown {V:Nat→Prop} {a w w':World} {row:Option Nat} (h:KeepB V a w) (hg:w.grownBy w' row) (hr:∀ k,row=some k→a.heap.size≤k):KeepB V a w' :=
  ⟨hg.os.trans h.os,hg.tape.trans h.tape,hg.output.trans h.output,Nat.le_trans h.size hg.size,fun k h1 h2=>by
    rw [hg.block k (Nat.lt_of_lt_of_le h1 h.size) (fun e=>by have:=hr k e.symm;omega)];exact h.block k h1 h2⟩
def BoxT (w:World) (b:Nat) (c:Cel):Prop:=w.heap[b]? = some (.cells c.cells.toArray 28)
theorem BoxT.cells {w:World} {b:Nat} {c:Cel} (h:BoxT w b c) :
    w.cell? ⟨b,0,none⟩=some (.int .i64 c.k)∧w.cell? ⟨b,1,none⟩=some (.bool c.b)∧w.cell? ⟨b,2,none⟩=some (.bool c.neg)∧w.cell? ⟨b,3,none⟩=some (.slice c.ma c.mn c.mc) ∧
    w.cell? ⟨b,4,none⟩=some (.int .i64 c.e)∧w.cell? ⟨b,5,none⟩=some (.string c.s)∧w.cell? ⟨b,6,none⟩=some (.slice c.ka c.kn c.kc)∧w.cell? ⟨b,7,none⟩=some (.slice c.va c.vn c.vc):=by
  unfold BoxT at h
  simp [World.cell?,h,Cel.cells]
theorem BoxT.lt {w:World} {b:Nat} {c:Cel} (h:BoxT w b c):b<w.heap.size:=(Array.getElem?_eq_some_iff.1 h).1
theorem BoxT.on {w w':World} {b:Nat} {c:Cel} (h:BoxT w b c) (hb:w'.heap[b]? = w.heap[b]?):BoxT w' b c:=by unfold BoxT;rw [hb];exact h
theorem BoxT.free {w:World} {b:Nat} {c:Cel} (h:BoxT w b c) (i:Nat):w.frozen? ⟨b,i,none⟩=false:=by
  unfold BoxT at h;simp [World.frozen?,h]
def blankB (c:Cel):Bool:=!c.b && (!c.neg && (decide (c.mn=0) && (decide (c.e=0) && (decide (c.s.size=0) && (decide (c.kn=0) && decide (c.vn=0))))))
theorem nat_bne0 {n:Nat} (h:¬ n=0):((n:Int) == 0)=false:=by rw [beq_eq_false_iff_ne];omega
end Go.Proofs.YticgggjfmhiilaaDoor
namespace Go.Proofs.YticgggjfmhiilaaDoor
structure Sto {K:Type} (lt:K→K→Bool):Prop where
  irr:∀ a,lt a a=false
  tr:∀ a b c,lt a b=true→lt b c=true→lt a c=true
  tot:∀ a b,lt a b=true∨a=b∨lt b a=true
theorem Sto.asym {K:Type} {lt:K→K→Bool} (h:Sto lt) {a b:K} (x:lt a b=true):lt b a=false:=by
  cases y:lt b a
  · rfl
  · have:=h.tr _ _ _ x y;rw [h.irr] at this;cases this
theorem bytesLess_irr:∀ a:List UInt8,Op.bytesLess a a=false
  | []=>rfl
  | x::a=>by
    simp only [Op.bytesLess,bytesLess_irr a,Bool.and_false,Bool.or_false,decide_eq_false_iff_not]
    exact UInt8.lt_irrefl x
theorem bytesLess_cons (x y:UInt8) (a b:List UInt8):Op.bytesLess (x::a) (y::b)=true ↔ x<y∨(x=y∧Op.bytesLess a b=true):=by
  simp [Op.bytesLess]
theorem bytesLess_tr:∀ a b c:List UInt8,Op.bytesLess a b=true→Op.bytesLess b c=true→Op.bytesLess a c=true
  | [],[],_,h,_=>by simp [Op.bytesLess] at h
  | [],_::_,[],_,k=>by simp [Op.bytesLess] at k
  | [],_::_,_::_,_,_=>rfl
  | _::_,[],_,h,_=>by simp [Op.bytesLess] at h
  | _::_,_::_,[],_,k=>by simp [Op.bytesLess] at k
  | x::a,y::b,z::c,h,k=>by
    rw [bytesLess_cons] at h k ⊢
    rcases h with h | ⟨h,h'⟩
    · rcases k with k | ⟨k,k'⟩
      · exact .inl (UInt8.lt_trans h k)
      · exact .inl (k ▸ h)
    · rcases k with k | ⟨k,k'⟩
      · exact .inl (h ▸ k)
      · exact .inr ⟨h.trans k,bytesLess_tr a b c h' k'⟩
theorem bytesLess_tot:∀ a b:List UInt8,Op.bytesLess a b=true∨a=b∨Op.bytesLess b a=true
  | [],[]=>.inr (.inl rfl)
  | [],_::_=>.inl rfl
  | _::_,[]=>.inr (.inr rfl)
  | x::a,y::b=>by
    rw [bytesLess_cons,bytesLess_cons]
    rcases UInt8.lt_or_lt_of_ne (a:=x) (b:=y) |> fun f=>(Classical.em (x=y)).imp id f with h | h
    · subst h
      rcases bytesLess_tot a b with k | k | k
      · exact .inl (.inr ⟨rfl,k⟩)
      · exact .inr (.inl (by rw [k]))
      · exact .inr (.inr (.inr ⟨rfl,k⟩))
    · rcases h with h | h
      · exact .inl (.inl h)
      · exact .inr (.inr (.inl h))
section
variable {K : Type} [DecidableEq K]
def leI (lt:K→K→Bool) (key:Nat→K) (i j:Nat):Bool:=lt (key i) (key j) || (decide (key i=key j) && decide (i≤j))
theorem leI_iff (lt:K→K→Bool) (key:Nat→K) (i j:Nat):leI lt key i j=true ↔ lt (key i) (key j)=true∨(key i=key j∧i≤j):=by simp [leI]
theorem leI_tr {lt:K→K→Bool} (h:Sto lt) (key:Nat→K) (a b c:Nat):leI lt key a b=true→leI lt key b c=true→leI lt key a c=true:=by
  rw [leI_iff,leI_iff,leI_iff]
  rintro (x | ⟨x,x'⟩) (y | ⟨y,y'⟩)
  · exact .inl (h.tr _ _ _ x y)
  · exact .inl (y ▸ x)
  · exact .inl (x ▸ y)
  · exact .inr ⟨x.trans y,by omega⟩
theorem leI_tot {lt:K→K→Bool} (h:Sto lt) (key:Nat→K) (a b:Nat):(leI lt key a b || leI lt key b a)=true:=by
  rw [Bool.or_eq_true,leI_iff,leI_iff]
  rcases h.tot (key a) (key b) with x | x | x
  · exact .inl (.inl x)
  · rcases Nat.le_total a b with y | y
    · exact .inl (.inr ⟨x,y⟩)
    · exact .inr (.inr ⟨x.symm,y⟩)
  · exact .inr (.inl x)
theorem leI_anti {lt:K→K→Bool} (h:Sto lt) (key:Nat→K) {a b:Nat} (x:leI lt key a b=true) (y:leI lt key b a=true):a=b:=by
  rw [leI_iff] at x y
  rcases x with x | ⟨x,x'⟩ <;> rcases y with y | ⟨y,y'⟩
  · have:=h.asym x;rw [y] at this;cases this
  · rw [y,h.irr] at x;cases x
  · rw [x,h.irr] at y;cases y
  · omega
def srt (lt:K→K→Bool) (key:Nat→K) (s len:Nat):List Nat:=(List.range' s len).mergeSort (leI lt key)
theorem srt_perm (lt:K→K→Bool) (key:Nat→K) (s len:Nat):(srt lt key s len).Perm (List.range' s len):=List.mergeSort_perm _ _
theorem srt_len (lt:K→K→Bool) (key:Nat→K) (s len:Nat):(srt lt key s len).length=len:=by
  rw [(srt_perm lt key s len).length_eq,List.length_range']
theorem srt_sorted {lt:K→K→Bool} (h:Sto lt) (key:Nat→K) (s len:Nat):(srt lt key s len).Pairwise fun a b=>leI lt key a b=true :=
  List.pairwise_mergeSort (leI_tr h key) (leI_tot h key) _
theorem srt_unique {lt:K→K→Bool} (h:Sto lt) (key:Nat→K) (s len:Nat) (l:List Nat) (hp:l.Perm (List.range' s len)) (hs:l.Pairwise fun a b=>leI lt key a b=true):l=srt lt key s len :=
  List.Perm.eq_of_pairwise (fun a b _ _ x y=>leI_anti h key x y) hs (srt_sorted h key s len) (hp.trans (srt_perm lt key s len).symm)
theorem srt_zero (lt:K→K→Bool) (key:Nat→K) (s:Nat):srt lt key s 0=[]:=by simp [srt]
theorem srt_one (lt:K→K→Bool) (key:Nat→K) (s:Nat):srt lt key s 1=[s]:=by simp [srt,List.range']
theorem srt_merge {lt:K→K→Bool} (h:Sto lt) (key:Nat→K) (s a b:Nat):(srt lt key s a).merge (srt lt key (s+a) b) (leI lt key)=srt lt key s (a+b):=by
  apply srt_unique h
  · refine (List.merge_perm_append _).trans ?_
    refine ((srt_perm lt key s a).append (srt_perm lt key (s+a) b)).trans ?_
    have:=@List.range'_append s a b 1
    rw [Nat.one_mul] at this;rw [this]
  · exact List.pairwise_merge (leI_tr h key) (leI_tot h key) _ _ (srt_sorted h key s a) (srt_sorted h key (s+a) b)
def mrg (lt:K→K→Bool) (key:Nat→K) (A B:List Nat):List Nat:=A.merge B (leI lt key)
def Runs (lt:K→K→Bool) (key:Nat→K) (r n:Nat) (p:Nat) (F:List Nat):Prop :=
  F.length=n∧∀ k,k*r<p→k*r<n→(F.drop (k*r)).take r=srt lt key (k*r) (min r (n - k*r))
theorem Runs.start (lt:K→K→Bool) (key:Nat→K) (n:Nat):Runs lt key 1 n n (List.range n):=by
  refine ⟨List.length_range,fun k _ hk=>?_⟩
  rw [Nat.mul_one] at hk ⊢
  rw [Nat.min_eq_left (by omega),srt_one,List.drop_eq_getElem_cons (by simpa using hk)]
  simp
theorem Runs.empty (lt:K→K→Bool) (key:Nat→K) (r n:Nat) (T:List Nat) (h:T.length=n):Runs lt key r n 0 T:=⟨h,fun k hk=>absurd hk (by omega)⟩
theorem Runs.step {lt:K→K→Bool} (hs:Sto lt) {key:Nat→K} {r n k:Nat} {F T:List Nat} (hr:0<r) (h:Runs lt key r n n F) (ht:Runs lt key (2*r) n (k*(2*r)) T) (hk:k*(2*r)<n) :
    Runs lt key (2*r) n ((k+1)*(2*r)) (T.take (k*(2*r))++mrg lt key ((F.drop (k*(2*r))).take (min (k*(2*r)+r) n - k*(2*r))) ((F.drop (min (k*(2*r)+r) n)).take (min (k*(2*r)+2*r) n - min (k*(2*r)+r) n))++T.drop (min (k*(2*r)+2*r) n)):=by
  obtain ⟨f1,f2⟩:=h
  obtain ⟨t1,t2⟩:=ht
  have e2:k*(2*r)=(2*k)*r:=by rw [← Nat.mul_assoc,Nat.mul_comm k 2]
  have a1:=f2 (2*k) (by omega) (by omega)
  rw [← e2] at a1
  have eA:(F.drop (k*(2*r))).take (min (k*(2*r)+r) n - k*(2*r))=srt lt key (k*(2*r)) (min r (n - k*(2*r))):=by
    rw [← a1]
    by_cases hm:k*(2*r)+r≤n
    · rw [Nat.min_eq_left hm,Nat.add_sub_cancel_left]
    · rw [Nat.min_eq_right (by omega),List.take_of_length_le (by rw [List.length_drop];omega),List.take_of_length_le (by rw [List.length_drop];omega)]
  have eB:(F.drop (min (k*(2*r)+r) n)).take (min (k*(2*r)+2*r) n - min (k*(2*r)+r) n)=srt lt key (k*(2*r)+min r (n - k*(2*r))) (min (2*r) (n - k*(2*r)) - min r (n - k*(2*r))):=by
    by_cases hm:k*(2*r)+r<n
    · have e3:k*(2*r)+r=(2*k+1)*r:=by rw [Nat.add_mul,Nat.one_mul,← e2]
      have a2:=f2 (2*k+1) (by omega) (by omega)
      rw [← e3] at a2
      rw [Nat.min_eq_left (show k*(2*r)+r≤n by omega),Nat.min_eq_left (show r≤n - k*(2*r) by omega)]
      rw [show min (2*r) (n - k*(2*r)) - r=min r (n - (k*(2*r)+r)) by omega,← a2]
      by_cases hm2:k*(2*r)+2*r≤n
      · rw [Nat.min_eq_left hm2];congr 1;omega
      · rw [Nat.min_eq_right (show n≤k*(2*r)+2*r by omega),List.take_of_length_le (by rw [List.length_drop];omega),List.take_of_length_le (by rw [List.length_drop];omega)]
    · rw [show min (2*r) (n - k*(2*r)) - min r (n - k*(2*r))=0 by omega,srt_zero]
      rw [show min (k*(2*r)+2*r) n - min (k*(2*r)+r) n=0 by omega,List.take_zero]
  have eM:mrg lt key ((F.drop (k*(2*r))).take (min (k*(2*r)+r) n - k*(2*r))) ((F.drop (min (k*(2*r)+r) n)).take (min (k*(2*r)+2*r) n - min (k*(2*r)+r) n))=srt lt key (k*(2*r)) (min (2*r) (n - k*(2*r))):=by
    rw [eA,eB];unfold mrg;rw [srt_merge hs];congr 1;omega
  rw [eM]
  generalize hS:srt lt key (k*(2*r)) (min (2*r) (n - k*(2*r)))=S
  have lS:S.length=min (2*r) (n - k*(2*r)):=by rw [← hS];exact srt_len _ _ _ _
  refine ⟨by simp [lS,t1];omega,fun j hj hjn=>?_⟩
  have hle:j≤k:=by
    rcases Nat.lt_or_ge k j with h | h
    · have:=Nat.mul_le_mul_right (2*r) (show k+1≤j by omega);omega
    · exact h
  rcases Nat.lt_or_ge j k with h | h
  · have hj2:=Nat.mul_le_mul_right (2*r) (show j+1≤k by omega)
    rw [Nat.add_mul,Nat.one_mul] at hj2
    rw [← t2 j (by omega) hjn,List.append_assoc,List.drop_append_of_le_length (by rw [List.length_take];omega),List.take_append_of_le_length (by rw [List.length_drop,List.length_take];omega),List.drop_take,List.take_take,Nat.min_eq_left (by omega)]
  · obtain rfl:j=k:=by omega
    rw [List.append_assoc,List.drop_append,List.drop_of_length_le (by rw [List.length_take];omega),List.nil_append,List.length_take,t1,Nat.min_eq_left (by omega),Nat.sub_self,List.drop_zero,hS]
    by_cases hm:j*(2*r)+2*r≤n
    · rw [List.take_append_of_le_length (by omega),List.take_of_length_le (by omega)]
    · rw [Nat.min_eq_right (by omega),List.drop_of_length_le (by omega),List.append_nil,List.take_of_length_le (by omega)]
theorem Runs.mono {lt:K→K→Bool} {key:Nat→K} {r n p q:Nat} {F:List Nat} (h:Runs lt key r n p F) (hq:n≤p):Runs lt key r n q F:=⟨h.1,fun k _ hn=>h.2 k (by omega) hn⟩
end
end Go.Proofs.YticgggjfmhiilaaDoor
namespace Go.Proofs.YticgggjfmhiilaaDoor
open Go.RowKit Go.Shelf
def okN (s:ByteArray):Bool:=decide (s.size≤2000) && validL s.data.toList
def ltS (a b:ByteArray):Bool:=Op.bytesLess a.toList b.toList
theorem ltS_yes {x y:ByteArray} (h:ltS y x=true):Op.bytesLess x.toList y.toList=false∧(x.toList == y.toList)=false:=by
  refine ⟨?_,?_⟩
  · cases h2:Op.bytesLess x.toList y.toList
    · rfl
    · have:=bytesLess_tr _ _ _ h h2;rw [bytesLess_irr] at this;cases this
  · rw [beq_eq_false_iff_ne];intro e
    unfold ltS at h;rw [e,bytesLess_irr] at h;cases h
theorem ltS_no {x y:ByteArray} (h:ltS y x=false):Op.bytesLess x.toList y.toList=true∨(Op.bytesLess x.toList y.toList=false∧(x.toList == y.toList)=true):=by
  rcases bytesLess_tot x.toList y.toList with h1 | h1 | h1
  · exact .inl h1
  · exact .inr ⟨by rw [h1,bytesLess_irr],by rw [h1];simp⟩
  · unfold ltS at h;rw [h1] at h;cases h
def nameAt (l:List ByteArray) (i:Nat):Bool:=okN (l.getD i ByteArray.empty) && (decide (i=0) || ltS (l.getD (i - 1) ByteArray.empty) (l.getD i ByteArray.empty))
def risesB (l:List ByteArray):Bool:=(List.range l.length).all (nameAt l)
theorem risesB_iff {l:List ByteArray}:risesB l=true ↔ ∀ i,i<l.length→nameAt l i=true:=by
  unfold risesB;rw [List.all_eq_true];simp
theorem risesB_no {l:List ByteArray} {i:Nat} (hi:i<l.length) (h:nameAt l i=false):risesB l=false:=by
  cases hb:risesB l
  · rfl
  · rw [risesB_iff.1 hb i hi] at h;cases h
end Go.Proofs.YticgggjfmhiilaaDoor
