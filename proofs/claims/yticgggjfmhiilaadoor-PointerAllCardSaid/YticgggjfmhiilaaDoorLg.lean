/- Texts of the claim. -/
import Derived.Test.YticgggjfmhiilaaDoorLf
set_option linter.unusedVariables false
set_option linter.unusedSimpArgs false
set_option maxHeartbeats 200000
set_option maxRecDepth 100000
namespace Go.Proofs.YticgggjfmhiilaaDoor
open Go.RowKit Go.Shelf
attribute [local go_sem] Oper.semAt_some
def OneB (W:World) (b:Nat) (t:TypeId) (v:Value):Prop:=W.heap[b]? = some (.cells #[v] t)
theorem OneB.cell {W:World} {b t v} (h:OneB W b t v):W.cell? ⟨b,0,none⟩=some v:=by unfold OneB at h;simp [World.cell?,h]
theorem OneB.free {W:World} {b t v} (h:OneB W b t v):W.frozen? ⟨b,0,none⟩=false:=by unfold OneB at h;simp [World.frozen?,h]
theorem OneB.on {W W':World} {b t v} (h:OneB W b t v) (hk:W'.heap[b]? = W.heap[b]?):OneB W' b t v:=by unfold OneB;rw [hk];exact h
theorem OneB.set {W:World} {b t v} (h:OneB W b t v) (u:Value):OneB (W.setCell ⟨b,0,none⟩ u) b t u:=by
  unfold OneB at h ⊢;simp [World.setCell,Array.getElem?_modify,h]
theorem OneB.lt {W:World} {b t v} (h:OneB W b t v):b<W.heap.size:=(Array.getElem?_eq_some_iff.1 h).1
def checkB (t:MT):Bool:=decide (t.nodes≤2000) && (t.pre 1).all (fun x=>decide (x.1≤64) && soundB x.2)
end Go.Proofs.YticgggjfmhiilaaDoor
namespace Go.Proofs.YticgggjfmhiilaaDoor
open Go.RowKit
section
variable {t e : TypeId} {z : Value} {size bytes : Nat}
theorem wp_appV (ht:Tryd.prog.underlying t=some (.slice e)) (hi:(Tryd.prog.info? e).map (fun i=>(i.zero,i.size,i.bytes))=some (some z,size,bytes)) (hzs:z.cells.size=size) (hsz:0<size) (hby:bytes≤1000) (w:World) {o:Oper} {a:Act} {K:Act→World→Prop} {Q:Exit→Act→World→Prop}
    (s x:Operand) (hop:o.op=.call { callee:=.builtin .append,args:=#[s,x],argTypes:=#[t,t] })
    (B:Nat) (v:Value) (n:Nat) (xs:List Value) (hs:a.eval s=v) (hown:w.ownsRow B e size v n xs) (ad:Option Addr) (m c:Nat) (news:List Value) (hx:a.eval x=.slice ad m c) (hl:news.length=m*size) (hr:RdV w ad news) (h1:∀ u∈news,u.oneCell'=true) (h0:ad=none→c=0)
    (hn:n+m≤1000000000) (hB:B≤w.heap.size)
    (h:∀ v' w',w'.ownsRow B e size v' (n+m) (xs++news)→w.grownBy w' v.ownBlock→K (a.put o.dst v') w'):o.wp Tryd.prog a w K Q:=by
  obtain ⟨i0,hi,hz0,hz1,hz2⟩:=info_parts hi
  cases ad with
  | none =>
    have hnil:news=[]:=by
      rcases Nat.eq_zero_or_pos news.length with h0 | h0
      · exact List.eq_nil_of_length_eq_zero h0
      · obtain ⟨_,_,e,_⟩:=hr 0 h0
        cases e
    subst hnil
    obtain rfl:m=0:=by
      rcases Nat.eq_zero_or_pos m with h | h
      · exact h
      · have:=Nat.mul_pos h hsz;simp at hl;omega
    obtain rfl:=h0 rfl
    have hrun:=run_append_owned_none (P:=Tryd.prog) (w:=w) B t o.type e i0 size ht hi v n xs hown
    unfold Oper.wp execOp
    simp only [hop,resolve,invoke,builtin,Sem.run_bind,Sem.run_pure,Result.andThen_ok,List.map_toArray,List.map_cons,List.map_nil,hs,hx,hrun]
    exact h v w (by simpa using hown) (World.grownBy.refl _ _)
  | some ad =>
    refine wp_append_own w s x t hop B e i0 z size bytes ht hi hz0 hz1 hz2 hzs hsz v n xs hs hown ad m c news hx hl ?_ h1 (by unfold maxLen;omega) (by
      have:(n+m)*bytes≤(n+m)*1000:=Nat.mul_le_mul_left _ hby
      omega) hB (fun v' w' h1 h2 _=>h v' w' h1 h2)
    intro j u hj
    have hjl:j<news.length:=(List.getElem?_eq_some_iff.1 hj).1
    obtain ⟨b,o',e,_,hc⟩:=hr j hjl
    cases e
    have hadd:(⟨b,o',none⟩:Addr).add j=⟨b,o'+j,none⟩:=by unfold Addr.add;split <;> simp_all
    rw [hadd,hc,hj]
theorem wpl_appV (ht:Tryd.prog.underlying t=some (.slice e)) (hi:(Tryd.prog.info? e).map (fun i=>(i.zero,i.size,i.bytes))=some (some z,size,bytes)) (hzs:z.cells.size=size) (hsz:0<size) (hby:bytes≤1000) (w:World) {ops:Array Oper} {rest:List Oper} {o:Oper} {a:Act} {Q:Exit→Act→World→Prop}
    (hg:o.guard=none) (s x:Operand) (hop:o.op=.call { callee:=.builtin .append,args:=#[s,x],argTypes:=#[t,t] })
    (B:Nat) (v:Value) (n:Nat) (xs:List Value) (hs:a.eval s=v) (hown:w.ownsRow B e size v n xs) (ad:Option Addr) (m c:Nat) (news:List Value) (hx:a.eval x=.slice ad m c) (hl:news.length=m*size) (hr:RdV w ad news) (h1:∀ u∈news,u.oneCell'=true) (h0:ad=none→c=0)
    (hn:n+m≤1000000000) (hB:B≤w.heap.size)
    (h:∀ v' w',w'.ownsRow B e size v' (n+m) (xs++news)→w.grownBy w' v.ownBlock→wpList Tryd.prog ops Q rest (a.put o.dst v') w') :
    wpList Tryd.prog ops Q (o::rest) a w:=by
  refine wpList_plain hg fun K hK=>?_
  exact wp_appV ht hi hzs hsz hby w s x hop B v n xs hs hown ad m c news hx hl hr h1 h0 hn hB (fun v' w' h1 h2=>hK _ _ (h v' w' h1 h2))
end
theorem own_viewN {w:World} {B:Nat} {e:TypeId} {size:Nat} {v:Value} {n:Nat} {vs:List Value} (h:w.ownsRow B e size v n vs) :
    ∃ ad cap,v=.slice ad n cap∧n≤cap∧RdV w ad vs∧vs.length=n*size∧(∀ a,ad=some a→B≤a.block∧a.block<w.heap.size)∧(ad=none→cap=0∧n=0):=by
  have hl:vs.length=n*size:=h.1
  rcases h.2 with ⟨rfl,h0⟩ | ⟨g,cap,cur,rfl,hB,hg,hc,hm,hs,ht⟩
  · subst h0
    have:vs=[]:=List.eq_nil_of_length_eq_zero (by simpa using hl)
    subst this
    exact ⟨none,0,rfl,Nat.le_refl _,RdV.nil _ _,by simp,(fun a h=>by cases h),fun _=>⟨rfl,rfl⟩⟩
  · have hlt:g<w.heap.size:=(Array.getElem?_eq_some_iff.1 hg).1
    refine ⟨_,cap,rfl,hc,?_,hl,(fun a h=>by cases h;exact ⟨hB,hlt⟩),fun h=>by cases h⟩
    intro i hi
    refine ⟨g,0,rfl,hlt,?_⟩
    have hv:vs[i]? = some vs[i]:=List.getElem?_eq_getElem hi
    have:=World.ownsRow.cells h (g:=g) rfl i vs[i] hv
    have hadd:(⟨g,0,none⟩:Addr).add i=⟨g,0+i,none⟩:=by unfold Addr.add;split <;> simp_all
    rw [hadd] at this
    rw [this,hv]
theorem own_onN {w w':World} {B:Nat} {e:TypeId} {size:Nat} {v:Value} {n:Nat} {xs:List Value} (h:w.ownsRow B e size v n xs) (hb:Below w.heap.size w w'):w'.ownsRow B e size v n xs:=by
  refine ⟨h.1,?_⟩
  rcases h.2 with h2 | ⟨g,cap,cur,rfl,hB,hg,rest⟩
  · exact .inl h2
  · refine .inr ⟨g,cap,cur,rfl,hB,?_,rest⟩
    rw [hb.block g (Array.getElem?_eq_some_iff.1 hg).1];exact hg
end Go.Proofs.YticgggjfmhiilaaDoor
namespace Go.Proofs.YticgggjfmhiilaaDoor
open Go.RowKit Go.Shelf
theorem lm0:(0:Nat)≤1000000000000000:=Nat.zero_le _
theorem li0:-9223372036854775808≤(0:Int)∧(0:Int)≤9223372036854775807:=by decide
theorem li7:-9223372036854775808≤(7:Int)∧(7:Int)≤9223372036854775807:=by decide
def leafC (k:Int) (b:Bool) (s:ByteArray):Cel:=⟨k,b,false,none,0,0,0,s,none,0,0,none,0,0⟩
def leafT (k:Int) (b:Bool) (s:ByteArray):MT:=.mk (leafC k b s) [] [] []
theorem leafT_rep (w:World) (k:Int) (b:Bool) (s:ByteArray) (hk:-9223372036854775808≤k∧k≤9223372036854775807) (hs:s.size≤maxLen):Rep w (leafT k b s) :=
  Rep.mk ⟨rfl,Nat.le_refl _,Okl.nil,Rd.nil _ _,rfl,Nat.le_refl _,RdV.nil _ _,rfl,Nat.le_refl _,RdV.nil _ _,⟨lm0,lm0,lm0⟩,hs,nofun,li0,hk⟩ nofun
def arrC (va:Option Addr) (n cap:Nat):Cel:=⟨6,false,false,none,0,0,0,⟨#[]⟩,none,0,0,va,n,cap⟩
def arrT (va:Option Addr) (n cap:Nat) (l:List MT):MT:=.mk (arrC va n cap) [] [] l
def objC7 (ka:Option Addr) (kn kc:Nat) (va:Option Addr) (n cap:Nat):Cel:=⟨7,false,false,none,0,0,0,⟨#[]⟩,ka,kn,kc,va,n,cap⟩
def objT (ka:Option Addr) (kn kc:Nat) (va:Option Addr) (n cap:Nat) (ks:List ByteArray) (l:List MT):MT:=.mk (objC7 ka kn kc va n cap) [] ks l
theorem objT_rep {w:World} {ka:Option Addr} {kn kc:Nat} {va:Option Addr} {n cap:Nat} {ks:List ByteArray} {l:List MT} (hkl:ks.length=kn) (hkc:kn≤kc) (hkm:kn≤1000000000000000) (hkr:RdV w ka (sv ks)) (hks:∀ s∈ks,s.size≤maxLen) (hl:l.length=n) (hc:n≤cap) (hm:n≤1000000000000000) (hr:RdV w va (flat (l.map MT.c))) (hp:∀ t∈l,Rep w t):Rep w (objT ka kn kc va n cap ks l) :=
  Rep.mk ⟨rfl,Nat.le_refl _,Okl.nil,Rd.nil _ _,hkl,hkc,hkr,hl,hc,hr,⟨lm0,hkm,hm⟩,Nat.zero_le _,hks,li0,li7⟩ hp
theorem rdv_new (w:World) (vs:List Value) (e:TypeId):RdV (w.alloc (.cells vs.toArray e)) (some ⟨w.heap.size,0,none⟩) vs :=
  BlkV.all (e:=e) (by unfold BlkV;exact heap_alloc_new w _)
end Go.Proofs.YticgggjfmhiilaaDoor
namespace Go.Proofs.YticgggjfmhiilaaDoor
open Go.RowKit

end Go.Proofs.YticgggjfmhiilaaDoor
namespace Go.Proofs.YticgggjfmhiilaaDoor
open Go.RowKit Go.Shelf
def Tw:List Nat→MT
  | []=>leafT 1 false ⟨#[]⟩
  | b::bs=>arrT (some ⟨b,0,none⟩) 1 1 [Tw bs]
def Wd (va:Option Addr) (n cap:Nat):MT:=arrT va n cap (List.replicate n (leafT 2 true ⟨#[]⟩))
def RepB (s:Nat) (w:World) (t:MT):Prop:=∀ W,But s w W→Rep W t
theorem RepB.on {s:Nat} {w W:World} {t:MT} (h:RepB s w t) (hb:But s w W):RepB s W t:=fun U hU=>h U (hb.trans hU)
theorem cel_one (c:Cel):∀ u∈c.cells,u.oneCell'=true:=by
  intro u hu;simp [Cel.cells] at hu
  rcases hu with rfl | rfl | rfl | rfl | rfl | rfl | rfl | rfl <;> rfl
theorem flat_append1 (l:List Cel) (c:Cel):flat (l++[c])=flat l++c.cells:=by simp [flat]
theorem own_other {w w':World} {B:Nat} {e:TypeId} {size:Nat} {v:Value} {n:Nat} {xs:List Value} (h:w.ownsRow B e size v n xs) (hk:∀ k,v.ownBlock=some k→w'.heap[k]? = w.heap[k]?):w'.ownsRow B e size v n xs:=by
  refine ⟨h.1,?_⟩
  rcases h.2 with h2 | ⟨g,cap,cur,rfl,hB,hg,rest⟩
  · exact .inl h2
  · refine .inr ⟨g,cap,cur,rfl,hB,?_,rest⟩
    rw [hk g rfl];exact hg
def L1 (w:World) (s d:Nat) (k:Nat) (i:Value) (wr:World):Prop :=
  ∃ bs:List Nat,bs.length≤d∧d - bs.length≤k∧i=.int .i64 (bs.length:Int)∧BlkV wr s 28 (flat [(Tw bs).c])∧RepB s wr (Tw bs)∧Below w.heap.size w wr
def L2 (w1:World) (s n:Nat) (k:Nat) (i:Value) (wr:World):Prop :=
  ∃ (m:Nat) (ad:Option Addr) (cap:Nat),m≤n∧n - m≤k∧i=.int .i64 (m:Int)∧BlkV wr s 28 (flat [arrC ad m cap])∧wr.ownsRow (s+1) 28 8 (.slice ad m cap) m (flat (List.replicate m (leafC 2 true ⟨#[]⟩)))∧Below w1.heap.size w1 wr
def eqS (a b:ByteArray):Bool:=a.toList == b.toList
theorem eqS_iff {a b:ByteArray}:eqS a b=true ↔ a=b:=by
  unfold eqS
  rw [beq_iff_eq]
  refine ⟨fun h=>?_,fun h=>by rw [h]⟩
  rw [Lib.toList_data,Lib.toList_data] at h
  exact ByteArray.ext (Array.toList_inj.1 h)
theorem eqS_no {a b:ByteArray}:eqS a b=false ↔ a ≠ b:=by rw [← Bool.not_eq_true,eqS_iff]
theorem run_copy_rowN {P:Program} (w:World) (dT sT ty elem:TypeId) (size:Nat) (g o dLen dCap:Nat) (a:Addr) (sLen sCap:Nat) (cur:Array Value) (t:TypeId) (cs:List Value)
    (hu:P.underlying dT=some (.slice elem)) (hs:(P.info? elem).map (·.size)=some size)
    (hg:w.heap[g]? = some (.cells cur t (0,0))) (hn:cs.length=Nat.min sLen dLen*size)
    (hsrc:∀ j v,cs[j]? = some v→w.cell? (a.add j)=some v) (hfit:o+cs.length≤cur.size) (h1:∀ v∈cs,v.oneCell'=true) :
    (Builtin.copy_ #[dT,sT] ty #[.slice (some ⟨g,o,none⟩) dLen dCap,.slice (some a) sLen sCap]).run P w =
      .ok (goInt (Nat.min sLen dLen)) (w.setRow g (cur.toList.take o++cs++cur.toList.drop (o+cs.length)).toArray):=by
  have hl:=run_loadCells_list (P:=P) w a cs hsrc
  have hst:=run_storeCells_at P g o t cs 0 cur w hg (by simpa using hfit) h1
  cases hq:P.info? elem with
  | none=>simp [hq] at hs
  | some i =>
    have hi:i.size=size:=by simpa [hq] using hs
    simp [Builtin.copy_,run_underlying hu,Builtin.lenOf,Builtin.firstCells,sizeOf,typeInfo,hq,hi,← hn,hl,hst]
theorem run_copy_noneN {P:Program} (w:World) (dT sT ty elem:TypeId) (size:Nat) (d a:Option Addr) (dLen dCap sLen sCap:Nat) (hu:P.underlying dT=some (.slice elem)) (hs:(P.info? elem).map (·.size)=some size) (hn:Nat.min sLen dLen=0) :
    (Builtin.copy_ #[dT,sT] ty #[.slice d dLen dCap,.slice a sLen sCap]).run P w=.ok (goInt 0) w:=by
  cases hq:P.info? elem with
  | none=>simp [hq] at hs
  | some i =>
    have hl:∀ (x:Addr),(loadCells x 0).run P w=.ok #[] w:=fun x=>by simpa using run_loadCells_list (P:=P) w x [] (by simp)
    cases d <;> cases a <;> simp [Builtin.copy_,run_underlying hu,Builtin.lenOf,Builtin.firstCells,sizeOf,typeInfo,hq,hn,storeCells,hl]
theorem wp_spliceN {P:Program} {w:World} {o:Oper} {a:Act} {K:Act→World→Prop} {Q:Exit→Act→World→Prop} (d s:Operand) (dT sT:TypeId)
    (ho:o.op=.call { callee:=.builtin .copy,args:=#[d,s],argTypes:=#[dT,sT] }) (elem:TypeId) (size:Nat) (hu:P.underlying dT=some (.slice elem)) (hsz:(P.info? elem).map (·.size)=some size)
    (dp sp:Option Addr) (dLen dCap sLen sCap:Nat) (hd:a.eval d=.slice dp dLen dCap) (hs:a.eval s=.slice sp sLen sCap)
    (g off:Nat) (cur:List Value) (t:TypeId) (hg:BlkV w g t cur) (cs:List Value) (hsp:0<size) (hn:cs.length=Nat.min sLen dLen*size)
    (hpos:0<cs.length→dp=some ⟨g,off,none⟩) (hr:RdV w sp cs)
    (hfit:off+cs.length≤cur.length) (h1:∀ v∈cs,v.oneCell'=true) (B:Nat) (w0:World) (hb:RowKit.Below B w0 w) (hBg:B≤g)
    (h:∀ w',RowKit.Hid (BlkV w' g t (splice cur off cs))→RowKit.Below B w0 w'→K (a.put o.dst (goInt (Nat.min sLen dLen))) w') :
    Oper.wp P o a w K Q:=by
  by_cases h0:cs.length=0
  · obtain rfl:cs=[]:=List.eq_nil_of_length_eq_zero h0
    have hz:Nat.min sLen dLen=0:=by
      rcases Nat.eq_zero_or_pos (Nat.min sLen dLen) with h | h
      · exact h
      · have:=Nat.mul_pos h hsp;simp at hn;omega
    have hrun:=run_copy_noneN (P:=P) w dT sT o.type elem size dp sp dLen dCap sLen sCap hu hsz hz
    rw [hz] at h
    unfold Oper.wp
    simp [execOp,ho,resolve,invoke,builtin,hd,hs,hrun,Result.andThen]
    exact h w (show BlkV _ _ _ _ by unfold BlkV at hg ⊢;simpa [splice] using hg) hb
  · obtain rfl:=hpos (by omega)
    obtain ⟨b,o',rfl,_,_⟩:=hr 0 (by omega)
    have hsrc:∀ j v,cs[j]? = some v→w.cell? ((⟨b,o',none⟩:Addr).add j)=some v:=by
      intro j v hj
      have hjl:j<cs.length:=(List.getElem?_eq_some_iff.1 hj).1
      have hadd:(⟨b,o',none⟩:Addr).add j=⟨b,o'+j,none⟩:=by unfold Addr.add;split <;> simp_all
      rw [hadd,hr.at j hjl,hj]
    have hrun:=run_copy_rowN (P:=P) w dT sT o.type elem size g off dLen dCap ⟨b,o',none⟩ sLen sCap cur.toArray t cs hu hsz hg hn hsrc (by simpa using hfit) h1
    unfold Oper.wp
    simp [execOp,ho,resolve,invoke,builtin,hd,hs,hrun,Result.andThen]
    exact h _ (show BlkV _ _ _ _ by unfold BlkV at hg ⊢;simpa [splice] using setRow_heap w g _ _ t _ hg) (below_setRow hb hBg _)
theorem wpl_spliceN {P:Program} {w:World} {ops:Array Oper} {rest:List Oper} {o:Oper} {a:Act} {Q:Exit→Act→World→Prop} (hgd:o.guard=none) (d s:Operand) (dT sT:TypeId)
    (ho:o.op=.call { callee:=.builtin .copy,args:=#[d,s],argTypes:=#[dT,sT] }) (elem:TypeId) (size:Nat) (hu:P.underlying dT=some (.slice elem)) (hsz:(P.info? elem).map (·.size)=some size)
    (dp sp:Option Addr) (dLen dCap sLen sCap:Nat) (hd:a.eval d=.slice dp dLen dCap) (hs:a.eval s=.slice sp sLen sCap)
    (g off:Nat) (cur:List Value) (t:TypeId) (hg:BlkV w g t cur) (cs:List Value) (hsp:0<size) (hn:cs.length=Nat.min sLen dLen*size)
    (hpos:0<cs.length→dp=some ⟨g,off,none⟩) (hr:RdV w sp cs)
    (hfit:off+cs.length≤cur.length) (h1:∀ v∈cs,v.oneCell'=true) (B:Nat) (w0:World) (hb:RowKit.Below B w0 w) (hBg:B≤g)
    (h:∀ w',RowKit.Hid (BlkV w' g t (splice cur off cs))→RowKit.Below B w0 w'→wpList P ops Q rest (a.put o.dst (goInt (Nat.min sLen dLen))) w') :
    wpList P ops Q (o::rest) a w :=
  wpList_plain hgd fun _ hK=>wp_spliceN d s dT sT ho elem size hu hsz dp sp dLen dCap sLen sCap hd hs g off cur t hg cs hsp hn hpos hr hfit h1 B w0 hb hBg (fun w' h1 h2=>hK _ _ (h w' h1 h2))
end Go.Proofs.YticgggjfmhiilaaDoor
