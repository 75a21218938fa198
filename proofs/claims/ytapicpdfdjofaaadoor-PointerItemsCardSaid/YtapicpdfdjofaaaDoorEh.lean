/- Texts of the claim. -/
import Derived.Test.YtapicpdfdjofaaaDoorEg
set_option linter.unusedVariables false
set_option linter.unusedSimpArgs false
set_option maxHeartbeats 200000
set_option maxRecDepth 100000
namespace Go.Proofs.YtapicpdfdjofaaaDoor
open Go.RowKit Go.Shelf
attribute [local go_sem] Oper.semAt_some
def OneB (W:World) (b:Nat) (t:TypeId) (v:Value):Prop:=W.heap[b]? = some (.cells #[v] t)
theorem OneB.cell {W:World} {b t v} (h:OneB W b t v):W.cell? ⟨b,0,none⟩=some v:=by unfold OneB at h;simp [World.cell?,h]
theorem OneB.free {W:World} {b t v} (h:OneB W b t v):W.frozen? ⟨b,0,none⟩=false:=by unfold OneB at h;simp [World.frozen?,h]
theorem OneB.on {W W':World} {b t v} (h:OneB W b t v) (hk:W'.heap[b]? = W.heap[b]?):OneB W' b t v:=by unfold OneB;rw [hk];exact h
theorem OneB.set {W:World} {b t v} (h:OneB W b t v) (u:Value):OneB (W.setCell ⟨b,0,none⟩ u) b t u:=by
  unfold OneB at h ⊢;simp [World.setCell,Array.getElem?_modify,h]
theorem OneB.lt {W:World} {b t v} (h:OneB W b t v):b<W.heap.size:=(Array.getElem?_eq_some_iff.1 h).1
end Go.Proofs.YtapicpdfdjofaaaDoor
namespace Go.Proofs.YtapicpdfdjofaaaDoor
open Go.RowKit
section
variable {t e : TypeId} {z : Value} {size bytes : Nat}
theorem wp_appV (ht:Tryd.prog.underlying t=some (.slice e)) (hi:(Tryd.prog.info? e).map (fun i=>(i.zero,i.size,i.bytes))=some (some z,size,bytes)) (hzs:z.cells.size=size) (hsz:0<size) (hby:bytes≤1000) (w:World) {o:Oper} {a:Act} {K:Act→World→Prop} {Q:Exit→Act→World→Prop}
    (s x:Operand) (hop:o.op=.call { callee:=.builtin .append,args:=#[s,x],argTypes:=#[t,t] })
    (B:Nat) (v:Value) (n:Nat) (xs:List Value) (hs:a.eval s=v) (hown:w.ownsRow B e size v n xs) (ad:Option Addr) (m c:Nat) (news:List Value) (hx:a.eval x=.slice ad m c) (hl:news.length=m*size) (hr:RdV w ad news) (h1:∀ u∈news,u.oneCell'=true) (h0:ad=none→c=0)
    (hn:n+m≤1000000000) (hB:B≤w.heap.size)
    (h:∀ v' w',w'.ownsRow B e size v' (n+m) (xs++news)→w.grownBy w' v.ownBlock→K (a.put o.dst v') w'):o.wp Tryd.prog a w K Q:=by
  obtain ⟨i0,hi,hz0,hz1,hz2⟩:=info_parts hi
  cases ad with
  | none =>
    have hnil:news=[]:=by
      rcases Nat.eq_zero_or_pos news.length with h0 | h0
      · exact List.eq_nil_of_length_eq_zero h0
      · obtain ⟨_,_,e,_⟩:=hr 0 h0
        cases e
    subst hnil
    obtain rfl:m=0:=by
      rcases Nat.eq_zero_or_pos m with h | h
      · exact h
      · have:=Nat.mul_pos h hsz;simp at hl;omega
    obtain rfl:=h0 rfl
    have hrun:=run_append_owned_none (P:=Tryd.prog) (w:=w) B t o.type e i0 size ht hi v n xs hown
    unfold Oper.wp execOp
    simp only [hop,resolve,invoke,builtin,Sem.run_bind,Sem.run_pure,Result.andThen_ok,List.map_toArray,List.map_cons,List.map_nil,hs,hx,hrun]
    exact h v w (by simpa using hown) (World.grownBy.refl _ _)
  | some ad =>
    refine wp_append_own w s x t hop B e i0 z size bytes ht hi hz0 hz1 hz2 hzs hsz v n xs hs hown ad m c news hx hl ?_ h1 (by unfold maxLen;omega) (by
      have:(n+m)*bytes≤(n+m)*1000:=Nat.mul_le_mul_left _ hby
      omega) hB (fun v' w' h1 h2 _=>h v' w' h1 h2)
    intro j u hj
    have hjl:j<news.length:=(List.getElem?_eq_some_iff.1 hj).1
    obtain ⟨b,o',e,_,hc⟩:=hr j hjl
    cases e
    have hadd:(⟨b,o',none⟩:Addr).add j=⟨b,o'+j,none⟩:=by unfold Addr.add;split <;> simp_all
    rw [hadd,hc,hj]
end
theorem own_viewN {w:World} {B:Nat} {e:TypeId} {size:Nat} {v:Value} {n:Nat} {vs:List Value} (h:w.ownsRow B e size v n vs) :
    ∃ ad cap,v=.slice ad n cap∧n≤cap∧RdV w ad vs∧vs.length=n*size∧(∀ a,ad=some a→B≤a.block∧a.block<w.heap.size)∧(ad=none→cap=0∧n=0):=by
  have hl:vs.length=n*size:=h.1
  rcases h.2 with ⟨rfl,h0⟩ | ⟨g,cap,cur,rfl,hB,hg,hc,hm,hs,ht⟩
  · subst h0
    have:vs=[]:=List.eq_nil_of_length_eq_zero (by simpa using hl)
    subst this
    exact ⟨none,0,rfl,Nat.le_refl _,RdV.nil _ _,by simp,(fun a h=>by cases h),fun _=>⟨rfl,rfl⟩⟩
  · have hlt:g<w.heap.size:=(Array.getElem?_eq_some_iff.1 hg).1
    refine ⟨_,cap,rfl,hc,?_,hl,(fun a h=>by cases h;exact ⟨hB,hlt⟩),fun h=>by cases h⟩
    intro i hi
    refine ⟨g,0,rfl,hlt,?_⟩
    have hv:vs[i]? = some vs[i]:=List.getElem?_eq_getElem hi
    have:=World.ownsRow.cells h (g:=g) rfl i vs[i] hv
    have hadd:(⟨g,0,none⟩:Addr).add i=⟨g,0+i,none⟩:=by unfold Addr.add;split <;> simp_all
    rw [hadd] at this
    rw [this,hv]
theorem own_onN {w w':World} {B:Nat} {e:TypeId} {size:Nat} {v:Value} {n:Nat} {xs:List Value} (h:w.ownsRow B e size v n xs) (hb:Below w.heap.size w w'):w'.ownsRow B e size v n xs:=by
  refine ⟨h.1,?_⟩
  rcases h.2 with h2 | ⟨g,cap,cur,rfl,hB,hg,rest⟩
  · exact .inl h2
  · refine .inr ⟨g,cap,cur,rfl,hB,?_,rest⟩
    rw [hb.block g (Array.getElem?_eq_some_iff.1 hg).1];exact hg
end Go.Proofs.YtapicpdfdjofaaaDoor
namespace Go.Proofs.YtapicpdfdjofaaaDoor
open Go.RowKit Go.Shelf
theorem lm0:(0:Nat)≤1000000000000000:=Nat.zero_le _
theorem li0:-9223372036854775808≤(0:Int)∧(0:Int)≤9223372036854775807:=by decide
theorem li6:-9223372036854775808≤(6:Int)∧(6:Int)≤9223372036854775807:=by decide
def leafC (k:Int) (b:Bool) (s:ByteArray):Cel:=⟨k,b,false,none,0,0,0,s,none,0,0,none,0,0⟩
def leafT (k:Int) (b:Bool) (s:ByteArray):MT:=.mk (leafC k b s) [] [] []
theorem leafT_rep (w:World) (k:Int) (b:Bool) (s:ByteArray) (hk:-9223372036854775808≤k∧k≤9223372036854775807) (hs:s.size≤maxLen):Rep w (leafT k b s) :=
  Rep.mk ⟨rfl,Nat.le_refl _,Okl.nil,Rd.nil _ _,rfl,Nat.le_refl _,RdV.nil _ _,rfl,Nat.le_refl _,RdV.nil _ _,⟨lm0,lm0,lm0⟩,hs,nofun,li0,hk⟩ nofun
def arrC (va:Option Addr) (n cap:Nat):Cel:=⟨6,false,false,none,0,0,0,⟨#[]⟩,none,0,0,va,n,cap⟩
def arrT (va:Option Addr) (n cap:Nat) (l:List MT):MT:=.mk (arrC va n cap) [] [] l
theorem arrT_rep {w:World} {va:Option Addr} {n cap:Nat} {l:List MT} (hl:l.length=n) (hc:n≤cap) (hm:n≤1000000000000000) (hr:RdV w va (flat (l.map MT.c))) (hp:∀ t∈l,Rep w t):Rep w (arrT va n cap l) :=
  Rep.mk ⟨rfl,Nat.le_refl _,Okl.nil,Rd.nil _ _,rfl,Nat.le_refl _,RdV.nil _ _,hl,hc,hr,⟨lm0,lm0,hm⟩,Nat.zero_le _,nofun,li0,li6⟩ hp
def objC7 (ka:Option Addr) (kn kc:Nat) (va:Option Addr) (n cap:Nat):Cel:=⟨7,false,false,none,0,0,0,⟨#[]⟩,ka,kn,kc,va,n,cap⟩
end Go.Proofs.YtapicpdfdjofaaaDoor
namespace Go.Proofs.YtapicpdfdjofaaaDoor
open Go.RowKit
theorem place_any (v n:Int) (w:World) (hv:-9223372036854775808≤v∧v≤9223372036854775807) (hn:0<n∧n≤100000000) :
    Calls Tryd.prog 31 #[.int .i64 v,.int .i64 n] w fun e w'=>e=.returned (.int .i64 (v % n))∧w'=w:=by
  have h1:=Int.emod_nonneg v (show n ≠ 0 by omega)
  have h2:=Int.emod_lt_of_pos v hn.1
  have ht:v.tmod n=if 0≤v∨v % n=0 then v % n else v % n - n:=by
    rw [Int.tmod_eq_emod]
    by_cases h0:0≤v∨n ∣ v
    · rw [if_pos h0,if_pos (h0.imp id Int.emod_eq_zero_of_dvd)];omega
    · rw [if_neg h0,if_neg (fun h=>h0 (h.imp id Int.dvd_of_emod_eq_zero))];omega
  have hne:n ≠ 0:=by omega
  have hnb:(n == 0)=false:=by rw [beq_eq_false_iff_ne];exact hne
  generalize v % n=r at *
  by_cases hv0:0≤v∨r=0
  · rw [if_pos hv0] at ht
    have hlt:¬ (r<0):=by omega
    clear hv0
    go_enter Tryd.func31,Tryd.ntmps31
    go_wp2_with fail
    go_ret
    exact ⟨rfl,rfl⟩
  · rw [if_neg hv0] at ht
    clear hv0
    go_enter Tryd.func31,Tryd.ntmps31
    go_wp2_with fail
    go_ret
    exact ⟨rfl,rfl⟩
end Go.Proofs.YtapicpdfdjofaaaDoor
namespace Go.Proofs.YtapicpdfdjofaaaDoor
open Go.RowKit Go.Shelf
def Tw:List Nat→MT
  | []=>leafT 1 false ⟨#[]⟩
  | b::bs=>arrT (some ⟨b,0,none⟩) 1 1 [Tw bs]
def RepB (s:Nat) (w:World) (t:MT):Prop:=∀ W,But s w W→Rep W t
theorem RepB.on {s:Nat} {w W:World} {t:MT} (h:RepB s w t) (hb:But s w W):RepB s W t:=fun U hU=>h U (hb.trans hU)
theorem RepB.rep {s:Nat} {w:World} {t:MT} (h:RepB s w t):Rep w t:=h w (But.refl s w)
theorem cel_one (c:Cel):∀ u∈c.cells,u.oneCell'=true:=by
  intro u hu;simp [Cel.cells] at hu
  rcases hu with rfl | rfl | rfl | rfl | rfl | rfl | rfl | rfl <;> rfl
def L1 (w:World) (s d:Nat) (k:Nat) (i:Value) (wr:World):Prop :=
  ∃ bs:List Nat,bs.length≤d∧d - bs.length≤k∧i=.int .i64 (bs.length:Int)∧BlkV wr s 28 (flat [(Tw bs).c])∧RepB s wr (Tw bs)∧Below w.heap.size w wr
def L2 (w1:World) (s n:Nat) (k:Nat) (i:Value) (wr:World):Prop :=
  ∃ (m:Nat) (ad:Option Addr) (cap:Nat),m≤n∧n - m≤k∧i=.int .i64 (m:Int)∧BlkV wr s 28 (flat [arrC ad m cap])∧wr.ownsRow (s+1) 28 8 (.slice ad m cap) m (flat (List.replicate m (leafC 2 true ⟨#[]⟩)))∧Below w1.heap.size w1 wr



def put0 (w:World) (b:Nat) (c:Cel):World :=
  (((((((w.setCell ⟨b,0,none⟩ (.int .i64 c.k)).setCell ⟨b,1,none⟩ (.bool c.b)).setCell ⟨b,2,none⟩ (.bool c.neg)).setCell ⟨b,3,none⟩ (.slice c.ma c.mn c.mc)).setCell ⟨b,4,none⟩ (.int .i64 c.e)).setCell ⟨b,5,none⟩ (.string c.s)).setCell ⟨b,6,none⟩ (.slice c.ka c.kn c.kc)).setCell ⟨b,7,none⟩ (.slice c.va c.vn c.vc)
theorem put0_eq (w:World) (b:Nat) (c:Cel):put0 w b c=put8 w b (0*8) c:=by simp [put0,put8]
theorem box_blk {w:World} {b:Nat} {c:Cel} (h:BoxT w b c):BlkV w b 28 (flat [c]):=by unfold BlkV;unfold BoxT at h;simpa [flat] using h
theorem blk_box {w:World} {b:Nat} {c:Cel} (h:BlkV w b 28 (flat [c])):BoxT w b c:=by unfold BlkV at h;unfold BoxT;simpa [flat] using h
theorem put0_box {w:World} {b:Nat} {c0 c:Cel} (h:BoxT w b c0):BoxT (put0 w b c) b c:=by
  rw [put0_eq]
  exact blk_box (put8_blk (box_blk h) 0 (by simp) c)
theorem put0_but (w:World) (b:Nat) (c:Cel):But b w (put0 w b c):=by rw [put0_eq];exact put8_but _ _ _ _
def Var (w:World) (b:Nat) (c:Cel):Prop :=
  (w.cell? ⟨b,0,none⟩=some (.int .i64 c.k)∧w.cell? ⟨b,1,none⟩=some (.bool c.b)∧w.cell? ⟨b,2,none⟩=some (.bool c.neg)∧w.cell? ⟨b,3,none⟩=some (.slice c.ma c.mn c.mc) ∧
    w.cell? ⟨b,4,none⟩=some (.int .i64 c.e)∧w.cell? ⟨b,5,none⟩=some (.string c.s)∧w.cell? ⟨b,6,none⟩=some (.slice c.ka c.kn c.kc)∧w.cell? ⟨b,7,none⟩=some (.slice c.va c.vn c.vc)) ∧
  (w.frozen? ⟨b,0,none⟩=false∧w.frozen? ⟨b,1,none⟩=false∧w.frozen? ⟨b,2,none⟩=false∧w.frozen? ⟨b,3,none⟩=false∧w.frozen? ⟨b,4,none⟩=false∧w.frozen? ⟨b,5,none⟩=false∧w.frozen? ⟨b,6,none⟩=false∧w.frozen? ⟨b,7,none⟩=false)
theorem BoxT.var {w:World} {b:Nat} {c:Cel} (h:BoxT w b c):Var w b c:=⟨h.cells,h.free 0,h.free 1,h.free 2,h.free 3,h.free 4,h.free 5,h.free 6,h.free 7⟩
theorem two2_box (w:World) (c d:Cel):BoxT (two2 w c d) w.heap.size c∧BoxT (two2 w c d) (w.heap.size+1) d:=by
  refine ⟨(Below.heap_alloc _ _ _ (by simp)).trans (heap_alloc_new w _),?_⟩
  have:=heap_alloc_new (w.alloc (.cells c.cells.toArray 28)) (.cells d.cells.toArray 28)
  rw [World.size_alloc] at this;exact this
theorem getD_mapc {l:List MT} {i:Nat} (h:i<l.length) (d:MT):(l.map MT.c).getD i zeroC=(l.getD i d).c:=by simp [List.getD,h]
def NumsOk (t:MT):Prop:=∀ s,t.sub s→s.c.k=3→chkB s.c.neg s.m s.c.e=true
theorem NumsOk.part {t s:MT} (h:NumsOk t) (hs:s∈t.v):NumsOk s:=fun u hu=>h u (MT.sub_v hs hu)
theorem NumsOk.mk {t:MT} (h1:t.c.k=3→chkB t.c.neg t.m t.c.e=true) (h2:∀ s∈t.v,NumsOk s):NumsOk t:=by
  intro u hu
  rcases MT.sub_cases hu with rfl | ⟨s,hs,hu⟩
  · exact h1
  · exact h2 s hs u hu
def Ris (l:List ByteArray):Prop:=∀ i j,i<j→j<l.length→ltS (l.getD i ByteArray.empty) (l.getD j ByteArray.empty)=true
structure Spl (N:List ByteArray) (s:ByteArray) (p q:Nat):Prop where
  pq:p≤q
  qp:q≤p+1
  ql:q≤N.length
  lo:∀ j,j<p→ltS (N.getD j ByteArray.empty) s=true
  hi:∀ j,q≤j→j<N.length→ltS s (N.getD j ByteArray.empty)=true
  mid:q=p+1→N.getD p ByteArray.empty=s
def put1 {α:Type} (l:List α) (p q:Nat) (x:α):List α:=l.take p++[x]++l.drop q
theorem put1_len {α:Type} (l:List α) (p q:Nat) (x:α) (h:p≤q) (hq:q≤l.length):(put1 l p q x).length+q=l.length+1+p:=by
  unfold put1;simp;omega
theorem put1_lt {α:Type} (l:List α) (p q:Nat) (x d:α) {i:Nat} (hp:p≤l.length) (h:i<p):(put1 l p q x).getD i d=l.getD i d:=by
  unfold put1
  simp only [List.getD,List.append_assoc]
  rw [List.getElem?_append_left (by simp;omega),List.getElem?_take,if_pos h]
theorem put1_at {α:Type} (l:List α) (p q:Nat) (x d:α) (hp:p≤l.length):(put1 l p q x).getD p d=x:=by
  unfold put1
  simp only [List.getD,List.append_assoc]
  rw [List.getElem?_append_right (by simp;omega)]
  simp [Nat.min_eq_left hp]
theorem put1_gt {α:Type} (l:List α) (p q:Nat) (x d:α) {i:Nat} (hp:p≤l.length) (h:p<i):(put1 l p q x).getD i d=l.getD (i - p - 1+q) d:=by
  unfold put1
  simp only [List.getD,List.append_assoc]
  rw [List.getElem?_append_right (by simp;omega),List.length_take,Nat.min_eq_left hp,List.getElem?_append_right (by simp;omega),List.getElem?_drop]
  simp
  congr 1
  rw [Nat.add_comm]
theorem spl_ris {N:List ByteArray} {s:ByteArray} {p q:Nat} (hr:Ris N) (h:Spl N s p q):Ris (put1 N p q s):=by
  intro i j hij hj
  have hl:=put1_len N p q s h.pq h.ql
  have h1:=h.pq;have h2:=h.qp;have h3:=h.ql
  have hp:p≤N.length:=by omega
  rcases Nat.lt_trichotomy i p with hi | rfl | hi
  · rw [put1_lt _ _ _ _ _ hp hi]
    rcases Nat.lt_trichotomy j p with hj2 | rfl | hj2
    · rw [put1_lt _ _ _ _ _ hp hj2];exact hr _ _ hij (by omega)
    · rw [put1_at _ _ _ _ _ hp];exact h.lo _ hi
    · rw [put1_gt _ _ _ _ _ hp hj2];exact hr _ _ (by omega) (by omega)
  · rw [put1_at _ _ _ _ _ hp,put1_gt _ _ _ _ _ hp hij];exact h.hi _ (by omega) (by omega)
  · rw [put1_gt _ _ _ _ _ hp hi,put1_gt _ _ _ _ _ hp (by omega)];exact hr _ _ (by omega) (by omega)





end Go.Proofs.YtapicpdfdjofaaaDoor
