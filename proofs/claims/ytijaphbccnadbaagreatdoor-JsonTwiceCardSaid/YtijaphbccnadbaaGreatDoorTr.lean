/- Texts of the claim. -/
import Derived.Test.YtijaphbccnadbaaGreatDoorTp
import Derived.Test.YtijaphbccnadbaaGreatDoorTq
import Derived.Test.YtijaphbccnadbaaGreatDoorTo
import Derived.Deep.AppendLies
import Derived.OrdersHeld
import Derived.Deep.MidRow
import Derived.Deep.RegionHeldLaw
import Derived.Test.YtijaphbccnadbaaGreatDoorProg
set_option linter.unusedVariables false
set_option linter.unusedSimpArgs false
set_option maxHeartbeats 200000
set_option maxRecDepth 100000
namespace Go.Proofs.YtijaphbccnadbaaGreatDoor
open Go.RowKit Go.Shelf
theorem nodesL_app (l r:List MT):MT.nodesL (l++r)=MT.nodesL l+MT.nodesL r:=by
  induction l with
  | nil=>rw [List.nil_append,MT.nodesL_nil];omega
  | cons t l ih=>rw [List.cons_append,MT.nodesL_cons,MT.nodesL_cons,ih];omega
theorem nodesL_cut (l:List MT) (p j:Nat) (h:p≤j):MT.nodesL (l.take p++l.drop j)≤MT.nodesL l:=by
  have h1:MT.nodesL l=MT.nodesL (l.take p)+MT.nodesL (l.drop p):=by rw [← nodesL_app,List.take_append_drop]
  have h2:MT.nodesL (l.drop p)=MT.nodesL ((l.drop p).take (j - p))+MT.nodesL ((l.drop p).drop (j - p)):=by rw [← nodesL_app,List.take_append_drop]
  rw [List.drop_drop,show p+(j - p)=j by omega] at h2
  rw [nodesL_app]
  omega
structure ObjOk (t:MT):Prop where
  k7:t.c.k=7
  kn:t.c.kn=t.k.length
  vn:t.c.vn=t.v.length
  kv:t.k.length=t.v.length
  le:t.k.length≤300
  ris:Ris t.k
  nums:NumsOk t
  nodes:t.nodes≤2000
structure PlaceOk (t:MT) (s:ByteArray) (p j:Nat) (has:Bool):Prop where
  spl:Spl t.k s p j
  yes:has=true→ixL t.k s=some p∧j=p+1
  no:has=false→ixL t.k s=none∧j=p∧plL t.k s=p
structure UnsetY (t:MT) (p j:Nat) (y:MT):Prop where
  k7:y.c.k=7
  k:y.k=t.k.take p++t.k.drop j
  v:y.v=t.v.take p++t.v.drop j
  kn:y.c.kn=y.k.length
  vn:y.c.vn=y.v.length
  le:y.k.length+j=t.k.length+p
theorem UnsetY.same {t y z:MT} {p j:Nat} (hy:UnsetY t p j y) (hz:UnsetY t p j z):sameM y z=true :=
  sameM_obj hy.k7 hz.k7 (by rw [hy.k,hz.k]) (by rw [hy.v,hz.v]) (by rw [hy.vn,hz.vn,hy.v,hz.v])
theorem UnsetY.nodes {t y:MT} {p j:Nat} (h:ObjOk t) (hpj:p≤j) (hy:UnsetY t p j y):y.nodes≤1000000:=by
  have h1:=nodesL_cut t.v p j hpj
  have h2:=MT.nodes_eq t
  have h3:=h.nodes
  rw [MT.nodes_eq,hy.v]
  omega
theorem UnsetY.back {t y:MT} {s:ByteArray} {p j:Nat} (h:ObjOk t) (hp:PlaceOk t s p j false) (hy:UnsetY t p j y):sameM y t=true:=by
  obtain ⟨h1,h2,h3⟩:=hp.no rfl
  subst h2
  exact sameM_obj hy.k7 h.k7 (by rw [hy.k,List.take_append_drop]) (by rw [hy.v,List.take_append_drop]) (by rw [hy.vn,h.vn,hy.v,List.take_append_drop])
def Cel.bare (c:Cel):Cel:=⟨c.k,c.b,c.neg,none,c.mn,0,c.e,c.s,none,c.kn,0,none,c.vn,0⟩
mutual
def MT.bare:MT→MT | .mk c m k v=>.mk c.bare m k (MT.bareL v)
def MT.bareL:List MT→List MT | []=>[] | t::l=>MT.bare t::MT.bareL l
end
theorem MT.bareL_map (l:List MT):MT.bareL l=l.map MT.bare:=by
  induction l with
  | nil=>rw [MT.bareL];rfl
  | cons t l ih=>rw [MT.bareL,ih];rfl
theorem MT.bare_eq (t:MT):t.bare=.mk t.c.bare t.m t.k (t.v.map MT.bare):=by
  obtain ⟨c,m,k,v⟩:=t
  rw [MT.bare,MT.bareL_map];rfl
def Sml (t:MT):Prop:=∀ s,t.sub s→s.c.mn≤1000000∧s.c.kn≤1000000∧s.c.vn≤1000000
theorem Sml.part {t s:MT} (h:Sml t) (hs:s∈t.v):Sml s:=fun u hu=>h u (MT.sub_v hs hu)
def Ind (X:Nat→Prop) (w:World) (P:World→Prop):Prop:=∀ W,w.heap.size≤W.heap.size→(∀ k,k<w.heap.size→¬ X k→W.heap[k]? = w.heap[k]?)→P W
theorem Ind.here {X:Nat→Prop} {w:World} {P:World→Prop} (h:Ind X w P):P w:=h w (Nat.le_refl _) (fun _ _ _=>rfl)
theorem Ind.to {X Y:Nat→Prop} {w w':World} {P Q:World→Prop} (h:Ind X w P) (hs:w.heap.size≤w'.heap.size) (hk:∀ k,k<w.heap.size→¬ X k→w'.heap[k]? = w.heap[k]?) (hy:∀ k,k<w.heap.size→Y k→X k) (hq:∀ W,P W→Q W):Ind Y w' Q :=
  fun W h1 h2=>hq W (h W (Nat.le_trans hs h1) (fun k hlt hx=>(h2 k (Nat.lt_of_lt_of_le hlt hs) (fun hyk=>hx (hy k hlt hyk))).trans (hk k hlt hx)))
theorem Ind.below {X:Nat→Prop} {w w':World} {P:World→Prop} (h:Ind X w P) (hb:Below w.heap.size w w'):Ind X w' P :=
  h.to hb.size (fun k hk _=>hb.block k hk) (fun _ _ h=>h) (fun _ h=>h)
theorem ind_rdv {X:Nat→Prop} {w:World} {ad:Option Addr} {vs:List Value} (h:RdV w ad vs) (hx:∀ a,ad=some a→¬ X a.block):Ind X w (fun W=>RdV W ad vs):=by
  intro W hs hk i hi
  obtain ⟨b,o,e,hlt,hc⟩:=h i hi
  exact ⟨b,o,e,Nat.lt_of_lt_of_le hlt hs,by rw [World.cell?_of_block (w:=w) (hk b hlt (hx _ e))];exact hc⟩
theorem ind_rd {X:Nat→Prop} {w:World} {ad:Option Addr} {xs:List Nat} (h:Rd w ad xs) (hx:∀ a,ad=some a→¬ X a.block):Ind X w (fun W=>Rd W ad xs):=by
  intro W hs hk i hi
  obtain ⟨b,o,e,hlt,hc⟩:=h i hi
  exact ⟨b,o,e,Nat.lt_of_lt_of_le hlt hs,by rw [World.cell?_of_block (w:=w) (hk b hlt (hx _ e))];exact hc⟩
theorem box_set {w:World} {b:Nat} {k:Int} {b0 neg:Bool} {ma:Option Addr} {mn mc:Nat} {e:Int} {st:ByteArray} {ka:Option Addr} {kn kc:Nat} {va:Option Addr} {vn vc:Nat} (h:BoxT w b ⟨k,b0,neg,ma,mn,mc,e,st,ka,kn,kc,va,vn,vc⟩) (va':Option Addr) (vn' vc':Nat) :
    BoxT (w.setCell ⟨b,7,none⟩ (.slice va' vn' vc')) b ⟨k,b0,neg,ma,mn,mc,e,st,ka,kn,kc,va',vn',vc'⟩:=by
  unfold BoxT at h ⊢
  simp only [World.setCell,Array.getElem?_modify,h]
  simp [Cel.cells]
theorem set_cells {w:World} {b g h q:Nat} (v:Value) {vT v0 v1 v2 v3 v4 v5 v6 v7:Value} (h1:g ≠ b) (h2:h ≠ b) (c:w.cell? ⟨g,7,none⟩=some vT)
    (d:w.cell? ⟨h,q,none⟩=some v0∧w.cell? ⟨h,q+1,none⟩=some v1∧w.cell? ⟨h,q+2,none⟩=some v2∧w.cell? ⟨h,q+3,none⟩=some v3∧w.cell? ⟨h,q+4,none⟩=some v4∧w.cell? ⟨h,q+5,none⟩=some v5∧w.cell? ⟨h,q+6,none⟩=some v6∧w.cell? ⟨h,q+7,none⟩=some v7) :
    (w.setCell ⟨b,7,none⟩ v).cell? ⟨g,7,none⟩=some vT∧(w.setCell ⟨b,7,none⟩ v).cell? ⟨h,q,none⟩=some v0∧(w.setCell ⟨b,7,none⟩ v).cell? ⟨h,q+1,none⟩=some v1∧(w.setCell ⟨b,7,none⟩ v).cell? ⟨h,q+2,none⟩=some v2∧(w.setCell ⟨b,7,none⟩ v).cell? ⟨h,q+3,none⟩=some v3∧(w.setCell ⟨b,7,none⟩ v).cell? ⟨h,q+4,none⟩=some v4∧(w.setCell ⟨b,7,none⟩ v).cell? ⟨h,q+5,none⟩=some v5∧(w.setCell ⟨b,7,none⟩ v).cell? ⟨h,q+6,none⟩=some v6∧(w.setCell ⟨b,7,none⟩ v).cell? ⟨h,q+7,none⟩=some v7:=by
  obtain ⟨d0,d1,d2,d3,d4,d5,d6,d7⟩:=d
  refine ⟨?_,?_,?_,?_,?_,?_,?_,?_,?_⟩ <;> (rw [World.cell?_setCell_other (h:=by simp [h1,h2])];assumption)
theorem step_appT {w:World} {ops:Array Oper} {o:Oper} {a:Act} {K:Act→World→Prop} {Q:Exit→Act→World→Prop} {E:Prop} (hgd:o.guard=none) (s x:Operand)
    (ho:o.op=.call { callee:=.builtin .append,args:=#[s,x],argTypes:=#[26,26] }) (B:Nat) (v:Value) (n:Nat) (xs:List Value) (hs:a.eval s=v) (hown:w.ownsRow B 28 8 v n xs)
    (ad:Addr) (c:Nat) (y:Cel) (hx:a.eval x=.slice (some ad) 1 c) (hr:RdV w (some ad) y.cells) (hn:n≤1000000000) (hB:B≤w.heap.size)
    (h:∀ g cap w',w'.ownsRow B 28 8 (.slice (some ⟨g,0,none⟩) (n+1) cap) (n+1) (xs++y.cells)→w.grownBy w' v.ownBlock→(v.ownBlock=some g∨g=w.heap.size)→K (a.put o.dst (.slice (some ⟨g,0,none⟩) (n+1) cap)) w') :
    if Region.wanted o (yielded ops a.tmps)=true then Oper.wp Tryz.prog o a w K Q else E:=by
  obtain ⟨i0,hi,hz0,hz1,hz2⟩:=info_parts info_tree
  refine step_append_lies w hgd s x 26 ho B 28 i0 zeroC.val 8 120 Tryz.underlying26 hi hz0 hz1 hz2 rfl (by decide) v n xs hs hown ad 1 c y.cells hx rfl ?_ (cel_one y) (by decide) (by unfold maxLen;omega) (by omega) hB _ rfl (fun g cap w' h1 h2 h3 _=>h g cap w' h1 h2 h3)
  intro j u hj
  have hjl:j<y.cells.length:=(List.getElem?_eq_some_iff.1 hj).1
  obtain ⟨b,o',e,_,hc⟩:=hr j hjl
  cases e
  have hadd:(⟨b,o',none⟩:Addr).add j=⟨b,o'+j,none⟩:=by unfold Addr.add;split <;> simp_all
  rw [hadd,hc,hj]
end Go.Proofs.YtijaphbccnadbaaGreatDoor
namespace Go.Proofs.YtijaphbccnadbaaGreatDoor
section
variable {P : Program} {ops : Array Oper} {Q : Exit → Act → World → Prop} {S : World → Prop}
theorem rg_run1 (w:World) (ad:Addr) (ty:TypeId) (v:Value) (d:TypeDesc) (hc:w.cell? ad=some v) (hu:P.underlying ty=some d) (hd:d.isRow=false) :
    (Instr.loadAt ty (.pointer (some ad))).run P w=.ok v w:=by
  have hagg:(isAgg ty).run P w=.ok false w:=by
    unfold isAgg
    rw [Sem.run_bind,run_underlying hu w]
    cases d <;> simp_all
  simp [Instr.loadAt,Instr.sureAddr,Sem.run_bind,Sem.run_pure,Result.andThen_ok,loadVar,hagg,run_load,hc,Result.andThen]
theorem rg_load1 {fuel:Nat} {L:Array Bool} {a:Act} {w:World} (i:Nat) (o:Oper) (ty:TypeId) (x:Operand) (ad:Addr) (v:Value) (d:TypeDesc)
    (dd:Option Tmp) (hi:ops[i]? = some o) (hdd:o.dst=dd) (hs:Region.noSelect ops=true) (hf:Region.free .any ops L i=true) (hr:(Region.ready .any ops L).contains i=true)
    (hQ:∀ c a w,Q (.panic c) (a.put dd v) w→Q (.panic c) a w) (hw:Region.wanted o (yielded ops a.tmps)=true) (ho:o.op=.load ty x) (hx:a.eval x=.pointer (some ad))
    (hu:P.underlying ty=some d) (hd:d.isRow=false) (hS:∀ w,S w→w.cell? ad=some v) (h0:S w)
    (h:wpAnyH P .any ops Q S fuel (L.setIfInBounds i true) (a.put dd v) w):wpAnyH P .any ops Q S (fuel+1) L a w:=by
  subst hdd
  exact wpAnyH_take hi hs hf hr hQ (.inl ⟨hw,fun w hw'=>by
    unfold execOp
    simp only [ho,hx,Sem.run_bind,Sem.run_pure,Result.andThen_ok,rg_run1 w ad ty v d (hS w hw') hu hd]⟩) h0 h
theorem rg_loadM {fuel:Nat} {L:Array Bool} {a:Act} {w:World} (i:Nat) (o:Oper) (ty:TypeId) (x:Operand) (b k:Nat) (cs:List Value) (d:TypeDesc)
    (dd:Option Tmp) (hi:ops[i]? = some o) (hdd:o.dst=dd) (hs:Region.noSelect ops=true) (hf:Region.free .any ops L i=true) (hr:(Region.ready .any ops L).contains i=true)
    (hQ:∀ c a w,Q (.panic c) (a.put dd (.agg cs.toArray)) w→Q (.panic c) a w) (hw:Region.wanted o (yielded ops a.tmps)=true) (ho:o.op=.load ty x) (hx:a.eval x=.pointer (some ⟨b,k,none⟩))
    (hu:P.underlying ty=some d) (hd:d.isRow=true) (hz:(P.info? ty).map (·.size)=some cs.length) (hS:∀ w,S w→w.rangeAt b k cs) (h0:S w)
    (h:wpAnyH P .any ops Q S fuel (L.setIfInBounds i true) (a.put dd (.agg cs.toArray)) w):wpAnyH P .any ops Q S (fuel+1) L a w:=by
  subst hdd
  exact wpAnyH_take hi hs hf hr hQ (yieldsIf_load_mid hw ty x ho b k hx cs d hS hu hd hz) h0 h
theorem rg_pure {fuel:Nat} {L:Array Bool} {a:Act} {w:World} (i:Nat) (o:Oper) (v:Value)
    (dd:Option Tmp) (hi:ops[i]? = some o) (hdd:o.dst=dd) (hs:Region.noSelect ops=true) (hf:Region.free .any ops L i=true) (hr:(Region.ready .any ops L).contains i=true)
    (hQ:∀ c a w,Q (.panic c) (a.put dd v) w→Q (.panic c) a w) (hw:Region.wanted o (yielded ops a.tmps)=true) (hx:∀ w,(execOp a.eval o).run P w=.ok (.value v) w) (h0:S w)
    (h:wpAnyH P .any ops Q S fuel (L.setIfInBounds i true) (a.put dd v) w):wpAnyH P .any ops Q S (fuel+1) L a w:=by
  subst hdd
  exact wpAnyH_take hi hs hf hr hQ (.inl ⟨hw,fun w _=>hx w⟩) h0 h
theorem rg_enter (w:World) (ev:Operand→Value) (o:Oper) (n:Nat) (fn:Func) (f:Operand) (args:Array Operand) (ts:Array TypeId) (vs:Array Value)
    (ho:o.op=.call { callee:=.value f,args:=args,argTypes:=ts }) (hff:ev f=.func (.func n) #[] #[]) (hfn:P.funcs[n]? = some fn) (hn:(fn.name == "runtime.NumGoroutine")=false) (hb:fn.body.isNone=false)
    (hv:args.map ev=vs):(execOp ev o).run P w=.ok (.enter n vs) w:=by
  simp [execOp,ho,resolve,Deferred.ofValue,invoke,callFunc,hfn,hv,hff,go_sem]
  rw [if_neg (by simpa using hn),if_neg (by intro h0;rw [h0] at hb;cases hb)]
theorem rg_call {fuel:Nat} {L:Array Bool} {a:Act} {w:World} (i:Nat) (o:Oper) (n:Nat) (fn:Func) (f:Operand) (args:Array Operand) (ts:Array TypeId) (vs:Array Value)
    (dd:Option Tmp) (hi:ops[i]? = some o) (hdd:o.dst=dd) (hr:Region.ready .any ops L=[i]) (hw:Region.wanted o (yielded ops a.tmps)=true)
    (ho:o.op=.call { callee:=.value f,args:=args,argTypes:=ts }) (hff:a.eval f=.func (.func n) #[] #[]) (hfn:P.funcs[n]? = some fn) (hn:(fn.name == "runtime.NumGoroutine")=false) (hb:fn.body.isNone=false)
    (hv:args.map a.eval=vs) {Post:Ending→World→Prop} (C:Calls P n vs w Post)
    (h:∀ r w',Post r w'→∃ v,r=.returned v∧S w'∧wpAnyH P .any ops Q S fuel (L.setIfInBounds i true) (a.put dd v) w'):wpAnyH P .any ops Q S (fuel+1) L a w:=by
  subst hdd
  refine wpAnyH_all hr (by simp) (fun j hj=>?_)
  rw [List.mem_singleton.1 hj]
  unfold wpOp
  simp only [hi]
  rw [if_pos hw]
  refine .inl ?_
  have hx:(execOp a.eval o).run P w=.ok (.enter n vs) w:=rg_enter w a.eval o n fn f args ts vs ho hff hfn hn hb hv
  unfold Oper.wp
  rw [hx,Oper.upon_enter]
  exact C.mono (fun r w' hp=>by obtain ⟨v,rfl,hk⟩:=h r w' hp;exact hk)
theorem rg_eqI (w:World) (ev:Operand→Value) (o:Oper) (ty ty':TypeId) (x y:Operand) (k:IntKind) (n:Int) (ho:o.op=.binOp .eql ty x y ty') (hx:ev x=.int k n) (hy:ev y=.int k n) :
    (execOp ev o).run P w=.ok (.value (.bool true)) w:=by
  simp [execOp,ho,hx,hy,go_sem]
theorem rg_eqS (w:World) (ev:Operand→Value) (o:Oper) (ty ty':TypeId) (x y:Operand) (s:ByteArray) (ho:o.op=.binOp .eql ty x y ty') (hx:ev x=.string s) (hy:ev y=.string s) :
    (execOp ev o).run P w=.ok (.value (.bool true)) w:=by
  simp [execOp,ho,hx,hy,go_sem,binOp,Op.stringOp]
def RgQ (R:Act→World→Prop) (e:Exit) (a:Act) (w:World):Prop:=match e with | .normal=>R a w | _=>False
theorem rg_norm {C:Code} {a:Act} {w:World} (h:∀ J:Act→World→Prop,(∀ a' w',Q .normal a' w'→J a' w')→C.wp P (RgQ J) a w):C.wp P Q a w :=
  Code.wp_mono (fun e a' w' hr=>by cases e <;> first | exact hr | exact absurd hr id) (h (fun a w=>Q .normal a w) (fun _ _ h=>h))
end
end Go.Proofs.YtijaphbccnadbaaGreatDoor
