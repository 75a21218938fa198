/- Texts of the claim. -/
import Derived.Test.YticgggjfmhiilaaDoorLg
set_option linter.unusedVariables false
set_option linter.unusedSimpArgs false
set_option maxHeartbeats 200000
set_option maxRecDepth 100000
namespace Go.Proofs.YticgggjfmhiilaaDoor
open Go.RowKit Go.Shelf
theorem flat_oneC (l:List Cel):∀ u∈flat l,u.oneCell'=true:=by
  intro u hu
  simp only [flat,List.mem_flatMap] at hu
  obtain ⟨c,_,hc⟩:=hu
  exact cel_one c u hc
def put0 (w:World) (b:Nat) (c:Cel):World :=
  (((((((w.setCell ⟨b,0,none⟩ (.int .i64 c.k)).setCell ⟨b,1,none⟩ (.bool c.b)).setCell ⟨b,2,none⟩ (.bool c.neg)).setCell ⟨b,3,none⟩ (.slice c.ma c.mn c.mc)).setCell ⟨b,4,none⟩ (.int .i64 c.e)).setCell ⟨b,5,none⟩ (.string c.s)).setCell ⟨b,6,none⟩ (.slice c.ka c.kn c.kc)).setCell ⟨b,7,none⟩ (.slice c.va c.vn c.vc)
theorem put0_eq (w:World) (b:Nat) (c:Cel):put0 w b c=put8 w b (0*8) c:=by simp [put0,put8]
theorem box_blk {w:World} {b:Nat} {c:Cel} (h:BoxT w b c):BlkV w b 28 (flat [c]):=by unfold BlkV;unfold BoxT at h;simpa [flat] using h
theorem blk_box {w:World} {b:Nat} {c:Cel} (h:BlkV w b 28 (flat [c])):BoxT w b c:=by unfold BlkV at h;unfold BoxT;simpa [flat] using h
theorem put0_box {w:World} {b:Nat} {c0 c:Cel} (h:BoxT w b c0):BoxT (put0 w b c) b c:=by
  rw [put0_eq]
  exact blk_box (put8_blk (box_blk h) 0 (by simp) c)
theorem put0_but (w:World) (b:Nat) (c:Cel):But b w (put0 w b c):=by rw [put0_eq];exact put8_but _ _ _ _
def Var (w:World) (b:Nat) (c:Cel):Prop :=
  (w.cell? ⟨b,0,none⟩=some (.int .i64 c.k)∧w.cell? ⟨b,1,none⟩=some (.bool c.b)∧w.cell? ⟨b,2,none⟩=some (.bool c.neg)∧w.cell? ⟨b,3,none⟩=some (.slice c.ma c.mn c.mc) ∧
    w.cell? ⟨b,4,none⟩=some (.int .i64 c.e)∧w.cell? ⟨b,5,none⟩=some (.string c.s)∧w.cell? ⟨b,6,none⟩=some (.slice c.ka c.kn c.kc)∧w.cell? ⟨b,7,none⟩=some (.slice c.va c.vn c.vc)) ∧
  (w.frozen? ⟨b,0,none⟩=false∧w.frozen? ⟨b,1,none⟩=false∧w.frozen? ⟨b,2,none⟩=false∧w.frozen? ⟨b,3,none⟩=false∧w.frozen? ⟨b,4,none⟩=false∧w.frozen? ⟨b,5,none⟩=false∧w.frozen? ⟨b,6,none⟩=false∧w.frozen? ⟨b,7,none⟩=false)
theorem BoxT.var {w:World} {b:Nat} {c:Cel} (h:BoxT w b c):Var w b c:=⟨h.cells,h.free 0,h.free 1,h.free 2,h.free 3,h.free 4,h.free 5,h.free 6,h.free 7⟩
theorem two2_box (w:World) (c d:Cel):BoxT (two2 w c d) w.heap.size c∧BoxT (two2 w c d) (w.heap.size+1) d:=by
  refine ⟨(Below.heap_alloc _ _ _ (by simp)).trans (heap_alloc_new w _),?_⟩
  have:=heap_alloc_new (w.alloc (.cells c.cells.toArray 28)) (.cells d.cells.toArray 28)
  rw [World.size_alloc] at this;exact this
theorem two2_size (w:World) (c d:Cel):(two2 w c d).heap.size=w.heap.size+2:=by simp [two2]
theorem getD_mapc {l:List MT} {i:Nat} (h:i<l.length) (d:MT):(l.map MT.c).getD i zeroC=(l.getD i d).c:=by simp [List.getD,h]
def NumsOk (t:MT):Prop:=∀ s,t.sub s→s.c.k=3→chkB s.c.neg s.m s.c.e=true
theorem NumsOk.part {t s:MT} (h:NumsOk t) (hs:s∈t.v):NumsOk s:=fun u hu=>h u (MT.sub_v hs hu)
theorem NumsOk.mk {t:MT} (h1:t.c.k=3→chkB t.c.neg t.m t.c.e=true) (h2:∀ s∈t.v,NumsOk s):NumsOk t:=by
  intro u hu
  rcases MT.sub_cases hu with rfl | ⟨s,hs,hu⟩
  · exact h1
  · exact h2 s hs u hu
theorem sub_pre {t s:MT} (h:t.sub s):∃ n,(n,s)∈t.pre 1:=MT.mem_pre_shift t 0 1 s h
theorem check_sound {t:MT} (h:checkB t=true):t.nodes≤2000∧∀ s,t.sub s→soundB s=true:=by
  unfold checkB at h
  rw [Bool.and_eq_true,decide_eq_true_eq,List.all_eq_true] at h
  refine ⟨h.1,fun s hs=>?_⟩
  obtain ⟨n,hn⟩:=sub_pre hs
  have:=h.2 _ hn
  rw [Bool.and_eq_true] at this
  exact this.2
theorem ltS_irr (a:ByteArray):ltS a a=false:=bytesLess_irr _
theorem ltS_tr {a b c:ByteArray} (h:ltS a b=true) (h2:ltS b c=true):ltS a c=true:=bytesLess_tr _ _ _ h h2
def Ris (l:List ByteArray):Prop:=∀ i j,i<j→j<l.length→ltS (l.getD i ByteArray.empty) (l.getD j ByteArray.empty)=true
theorem ris_of {l:List ByteArray} (h:risesB l=true):Ris l:=by
  intro i j hij
  induction j with
  | zero=>omega
  | succ j ih =>
    intro hj
    have h1:=risesB_iff.1 h (j+1) hj
    unfold nameAt at h1
    simp at h1
    have h2:=h1.2
    by_cases e:i=j
    · subst e;simpa [List.getD] using h2
    · exact ltS_tr (ih (by omega) (by omega)) (by simpa [List.getD] using h2)
structure Spl (N:List ByteArray) (s:ByteArray) (p q:Nat):Prop where
  pq:p≤q
  qp:q≤p+1
  ql:q≤N.length
  lo:∀ j,j<p→ltS (N.getD j ByteArray.empty) s=true
  hi:∀ j,q≤j→j<N.length→ltS s (N.getD j ByteArray.empty)=true
  mid:q=p+1→N.getD p ByteArray.empty=s
def put1 {α:Type} (l:List α) (p q:Nat) (x:α):List α:=l.take p++[x]++l.drop q
theorem put1_len {α:Type} (l:List α) (p q:Nat) (x:α) (h:p≤q) (hq:q≤l.length):(put1 l p q x).length+q=l.length+1+p:=by
  unfold put1;simp;omega
theorem put1_lt {α:Type} (l:List α) (p q:Nat) (x d:α) {i:Nat} (hp:p≤l.length) (h:i<p):(put1 l p q x).getD i d=l.getD i d:=by
  unfold put1
  simp only [List.getD,List.append_assoc]
  rw [List.getElem?_append_left (by simp;omega),List.getElem?_take,if_pos h]
theorem put1_at {α:Type} (l:List α) (p q:Nat) (x d:α) (hp:p≤l.length):(put1 l p q x).getD p d=x:=by
  unfold put1
  simp only [List.getD,List.append_assoc]
  rw [List.getElem?_append_right (by simp;omega)]
  simp [Nat.min_eq_left hp]
theorem put1_gt {α:Type} (l:List α) (p q:Nat) (x d:α) {i:Nat} (hp:p≤l.length) (h:p<i):(put1 l p q x).getD i d=l.getD (i - p - 1+q) d:=by
  unfold put1
  simp only [List.getD,List.append_assoc]
  rw [List.getElem?_append_right (by simp;omega),List.length_take,Nat.min_eq_left hp,List.getElem?_append_right (by simp;omega),List.getElem?_drop]
  simp
  congr 1
  rw [Nat.add_comm]
theorem spl_ris {N:List ByteArray} {s:ByteArray} {p q:Nat} (hr:Ris N) (h:Spl N s p q):Ris (put1 N p q s):=by
  intro i j hij hj
  have hl:=put1_len N p q s h.pq h.ql
  have h1:=h.pq;have h2:=h.qp;have h3:=h.ql
  have hp:p≤N.length:=by omega
  rcases Nat.lt_trichotomy i p with hi | rfl | hi
  · rw [put1_lt _ _ _ _ _ hp hi]
    rcases Nat.lt_trichotomy j p with hj2 | rfl | hj2
    · rw [put1_lt _ _ _ _ _ hp hj2];exact hr _ _ hij (by omega)
    · rw [put1_at _ _ _ _ _ hp];exact h.lo _ hi
    · rw [put1_gt _ _ _ _ _ hp hj2];exact hr _ _ (by omega) (by omega)
  · rw [put1_at _ _ _ _ _ hp,put1_gt _ _ _ _ _ hp hij];exact h.hi _ (by omega) (by omega)
  · rw [put1_gt _ _ _ _ _ hp hi,put1_gt _ _ _ _ _ hp (by omega)];exact hr _ _ (by omega) (by omega)
theorem bal (W:World) (o:Obj):Below W.heap.size W (W.alloc o):=(Below.refl _ _).alloc (Nat.le_refl _) _



end Go.Proofs.YticgggjfmhiilaaDoor
