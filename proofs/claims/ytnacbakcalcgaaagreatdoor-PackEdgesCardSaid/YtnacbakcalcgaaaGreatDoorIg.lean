/- Texts of the claim. -/
import Derived.Test.YtnacbakcalcgaaaGreatDoorIf
import Derived.RangeFuncNested
import Derived.RangeFuncBound
import Derived.Shelf.RegionOpen
import Derived.OwnWalkIn
import Derived.LoopNIn
import Derived.Sort.LoopGhostIn
set_option linter.unusedVariables false
set_option linter.unusedSimpArgs false
set_option maxHeartbeats 4000000
set_option maxRecDepth 100000
namespace Go.Proofs.YtnacbakcalcgaaaGreatDoor
open Go.RowKit
inductive MT where
  | mk (c:Cel) (m:List Nat) (k:List ByteArray) (v:List MT)
def MT.c:MT→Cel | .mk c _ _ _=>c
def MT.m:MT→List Nat | .mk _ m _ _=>m
def MT.k:MT→List ByteArray | .mk _ _ k _=>k
def MT.v:MT→List MT | .mk _ _ _ v=>v
mutual
def MT.nodes:MT→Nat | .mk _ _ _ v=>1+MT.nodesL v
def MT.nodesL:List MT→Nat | []=>0 | t::l=>MT.nodes t+MT.nodesL l
end
mutual
/-- All nodes of a tree,each with how deep it is,each ahead of those in it. -/
def MT.pre:MT→Nat→List (Nat × MT) | .mk c m k v,d=>(d,.mk c m k v)::MT.preL v (d+1)
def MT.preL:List MT→Nat→List (Nat × MT) | [],_=>[] | t::l,d=>MT.pre t d++MT.preL l d
end
theorem MT.pre_eq (t:MT) (d:Nat):t.pre d=(d,t)::MT.preL t.v (d+1):=by cases t;rw [MT.pre];rfl
theorem MT.preL_nil (d:Nat):MT.preL [] d=[]:=by rw [MT.preL]
theorem MT.preL_cons (t:MT) (l:List MT) (d:Nat):MT.preL (t::l) d=t.pre d++MT.preL l d:=by rw [MT.preL]
theorem MT.nodes_eq (t:MT):t.nodes=1+MT.nodesL t.v:=by cases t;rw [MT.nodes];rfl
theorem MT.nodesL_nil:MT.nodesL []=0:=by rw [MT.nodesL]
theorem MT.nodesL_cons (t:MT) (l:List MT):MT.nodesL (t::l)=t.nodes+MT.nodesL l:=by rw [MT.nodesL]
theorem MT.nodes_pos (t:MT):1≤t.nodes:=by rw [MT.nodes_eq];omega
theorem MT.nodes_mem {t:MT} {l:List MT} (h:t∈l):t.nodes≤MT.nodesL l:=by
  induction l with
  | nil=>cases h
  | cons x l ih =>
    rw [MT.nodesL_cons]
    rcases List.mem_cons.1 h with rfl | h
    · omega
    · have:=ih h;omega
theorem MT.ind {P:MT→Prop} (h:∀ t,(∀ s∈t.v,P s)→P t):∀ t,P t:=by
  have key:∀ n t,MT.nodes t≤n→P t:=by
    intro n
    induction n with
    | zero=>intro t ht;have:=t.nodes_pos;omega
    | succ n ih =>
      intro t ht
      refine h t fun s hs=>ih s ?_
      have:=MT.nodes_mem hs
      rw [MT.nodes_eq] at ht
      omega
  exact fun t=>key _ t (Nat.le_refl _)
theorem MT.preL_len (l:List MT) (h:∀ s∈l,∀ d,(s.pre d).length=s.nodes):∀ d,(MT.preL l d).length=MT.nodesL l:=by
  induction l with
  | nil=>intro d;rw [MT.preL_nil,MT.nodesL_nil];rfl
  | cons t l ih =>
    intro d
    rw [MT.preL_cons,List.length_append,MT.nodesL_cons,h t (by simp),ih (fun s hs=>h s (by simp [hs]))]
theorem MT.pre_len (t:MT):∀ d,(t.pre d).length=t.nodes :=
  MT.ind (P:=fun t=>∀ d,(t.pre d).length=t.nodes) (fun t ih d=>by
    rw [MT.pre_eq,List.length_cons,MT.preL_len t.v ih,MT.nodes_eq];omega) t
theorem MT.mem_preL {l:List MT} {d:Nat} {x:Nat × MT}:x∈MT.preL l d ↔ ∃ s∈l,x∈s.pre d:=by
  induction l with
  | nil=>rw [MT.preL_nil];simp
  | cons t l ih=>rw [MT.preL_cons,List.mem_append,ih];simp
theorem MT.mem_pre_shift (t:MT):∀ d e s,(∃ n,(n,s)∈t.pre d)→∃ n,(n,s)∈t.pre e :=
  MT.ind (P:=fun t=>∀ d e s,(∃ n,(n,s)∈t.pre d)→∃ n,(n,s)∈t.pre e) (fun t ih d e s h=>by
    obtain ⟨n,h⟩:=h
    rw [MT.pre_eq,List.mem_cons] at h
    rcases h with h | h
    · exact ⟨e,by rw [MT.pre_eq];simp at h ⊢;exact .inl h.2⟩
    · obtain ⟨u,hu,hx⟩:=MT.mem_preL.1 h
      obtain ⟨n',h'⟩:=ih u hu (d+1) (e+1) s ⟨n,hx⟩
      exact ⟨n',by rw [MT.pre_eq];exact List.mem_cons_of_mem _ (MT.mem_preL.2 ⟨u,hu,h'⟩)⟩) t
def MT.sub (t s:MT):Prop:=∃ n,(n,s)∈t.pre 0
theorem MT.sub_refl (t:MT):t.sub t:=⟨0,by rw [MT.pre_eq];simp⟩
theorem MT.sub_v {t u s:MT} (hu:u∈t.v) (h:u.sub s):t.sub s:=by
  obtain ⟨n,h⟩:=MT.mem_pre_shift u 0 1 s h
  exact ⟨n,by rw [MT.pre_eq];exact List.mem_cons_of_mem _ (MT.mem_preL.2 ⟨u,hu,h⟩)⟩
theorem MT.sub_cases {t s:MT} (h:t.sub s):s=t∨∃ u∈t.v,u.sub s:=by
  obtain ⟨n,h⟩:=h
  rw [MT.pre_eq,List.mem_cons] at h
  rcases h with h | h
  · left;simp at h;exact h.2
  · right
    obtain ⟨u,hu,hx⟩:=MT.mem_preL.1 h
    exact ⟨u,hu,MT.mem_pre_shift u 1 0 s ⟨n,hx⟩⟩
theorem MT.sub_of_pre {t s:MT} {n d:Nat} (h:(n,s)∈t.pre d):t.sub s:=MT.mem_pre_shift t d 0 s ⟨n,h⟩
structure Rd1 (w:World) (t:MT):Prop where
  mn:t.m.length=t.c.mn
  mc:t.c.mn≤t.c.mc
  mo:Okl t.m
  mr:Rd w t.c.ma t.m
  kn:t.k.length=t.c.kn
  kc:t.c.kn≤t.c.kc
  kr:RdV w t.c.ka (sv t.k)
  vn:t.v.length=t.c.vn
  vc:t.c.vn≤t.c.vc
  vr:RdV w t.c.va (flat (t.v.map MT.c))
  lm:t.c.mn≤1000000000000000∧t.c.kn≤1000000000000000∧t.c.vn≤1000000000000000
  ls:t.c.s.size≤maxLen
  lk:∀ s∈t.k,s.size≤maxLen
  le:-9223372036854775808≤t.c.e∧t.c.e≤9223372036854775807
  lq:-9223372036854775808≤t.c.k∧t.c.k≤9223372036854775807
def Rep (w:World) (t:MT):Prop:=∀ s,t.sub s→Rd1 w s
theorem Rep.own {w:World} {t:MT} (h:Rep w t):Rd1 w t:=h t t.sub_refl
theorem Rep.part {w:World} {t s:MT} (h:Rep w t) (hs:s∈t.v):Rep w s:=fun u hu=>h u (MT.sub_v hs hu)
theorem Rep.mk {w:World} {t:MT} (h1:Rd1 w t) (h2:∀ s∈t.v,Rep w s):Rep w t:=by
  intro u hu
  rcases MT.sub_cases hu with rfl | ⟨s,hs,hu⟩
  · exact h1
  · exact h2 s hs u hu
theorem Rd1.on {w w':World} {t:MT} (h:Rd1 w t) (hb:Below w.heap.size w w'):Rd1 w' t :=
  ⟨h.mn,h.mc,h.mo,h.mr.below hb,h.kn,h.kc,h.kr.on hb,h.vn,h.vc,h.vr.on hb,h.lm,h.ls,h.lk,h.le,h.lq⟩
theorem Rep.on {w w':World} {t:MT} (h:Rep w t) (hb:Below w.heap.size w w'):Rep w' t:=fun s hs=>(h s hs).on hb
def outR:List (List MT)→List (Nat × MT)
  | []=>[]
  | l::R=>MT.preL l (R.length+2)++outR R
theorem outR_pop (R:List (List MT)):outR ([]::R)=outR R:=by rw [outR,MT.preL_nil];rfl
theorem outR_push (t:MT) (l:List MT) (R:List (List MT)):outR ((t::l)::R)=(R.length+2,t)::outR (t.v::l::R):=by
  rw [outR,outR,outR,MT.preL_cons,MT.pre_eq]
  simp
theorem outR_start (t:MT):t.pre 1=(1,t)::outR [t.v]:=by rw [MT.pre_eq,outR,outR];simp
def stepsR:List (List MT)→Nat
  | []=>0
  | l::R=>2*MT.nodesL l+1+stepsR R
theorem stepsR_pop (R:List (List MT)):stepsR ([]::R)=stepsR R+1:=by rw [stepsR,MT.nodesL_nil];omega
theorem stepsR_push (t:MT) (l:List MT) (R:List (List MT)):stepsR ((t::l)::R)=stepsR (t.v::l::R)+1:=by
  rw [stepsR,stepsR,stepsR,MT.nodesL_cons,MT.nodes_eq];omega
structure SE where
  ad:Option Addr
  n:Nat
  cap:Nat
  l:List MT
def SE.val (s:SE):Value:=.slice s.ad s.n s.cap
structure SEOk (w:World) (s:SE):Prop where
  ln:s.l.length=s.n
  lc:s.n≤s.cap
  lm:s.n≤1000000000000000
  rd:RdV w s.ad (flat (s.l.map MT.c))
  rp:∀ t∈s.l,Rep w t
theorem SEOk.on {w w':World} {s:SE} (h:SEOk w s) (hb:Below w.heap.size w w'):SEOk w' s :=
  ⟨h.ln,h.lc,h.lm,h.rd.on hb,fun t ht=>(h.rp t ht).on hb⟩
def MT.se (t:MT):SE:=⟨t.c.va,t.c.vn,t.c.vc,t.v⟩
theorem MT.se_ok {w:World} {t:MT} (h:Rep w t):SEOk w t.se:=⟨h.own.vn,h.own.vc,h.own.lm.2.2,h.own.vr,fun s hs=>h.part hs⟩
theorem flat_cons (c:Cel) (l:List Cel):flat (c::l)=c.cells++flat l:=rfl
theorem flat_tail (l:List Cel):flat l.tail=(flat l).drop 8:=by
  cases l with
  | nil=>rfl
  | cons c l=>rw [flat_cons,List.tail_cons,List.drop_left' (by rfl)]
end Go.Proofs.YtnacbakcalcgaaaGreatDoor
namespace Go.Proofs.YtnacbakcalcgaaaGreatDoor
open Go.RowKit Go.Shelf
structure KeepB (V:Nat→Prop) (w w':World):Prop where
  os:w'.os=w.os
  tape:w'.tape=w.tape
  output:w'.output=w.output
  size:w.heap.size≤w'.heap.size
  block:∀ k,k<w.heap.size→¬ V k→w'.heap[k]? = w.heap[k]?
theorem KeepB.refl (V:Nat→Prop) (w:World):KeepB V w w:=⟨rfl,rfl,rfl,Nat.le_refl _,fun _ _ _=>rfl⟩
theorem KeepB.trans {V:Nat→Prop} {a b c:World} (h:KeepB V a b) (k:KeepB V b c):KeepB V a c :=
  ⟨k.os.trans h.os,k.tape.trans h.tape,k.output.trans h.output,Nat.le_trans h.size k.size,fun i hi hn=>(k.block i (Nat.lt_of_lt_of_le hi h.size) hn).trans (h.block i hi hn)⟩
theorem KeepB.more {V V':Nat→Prop} {a b:World} (h:KeepB V a b) (hv:∀ k,V k→V' k):KeepB V' a b :=
  ⟨h.os,h.tape,h.output,h.size,fun k hk hn=>h.block k hk (fun e=>hn (hv k e))⟩
theorem KeepB.of_below {V:Nat→Prop} {a b:World} (h:Below a.heap.size a b):KeepB V a b:=⟨h.os,h.tape,h.output,h.size,fun k hk _=>h.block k hk⟩
theorem KeepB.alloc {V:Nat→Prop} {a w:World} (h:KeepB V a w) (o:Obj):KeepB V a (w.alloc o):=h.trans (KeepB.of_below ((Below.refl _ w).alloc (Nat.le_refl _) o))
theorem KeepB.drewN {V:Nat→Prop} {a w:World} (h:KeepB V a w) (n:Nat):KeepB V a (w.drewN n):=h.trans ⟨rfl,rfl,rfl,Nat.le_refl _,fun _ _ _=>rfl⟩
theorem KeepB.drew {V:Nat→Prop} {a w:World} (h:KeepB V a w):KeepB V a w.drew:=h.trans ⟨rfl,rfl,rfl,Nat.le_refl _,fun _ _ _=>rfl⟩
theorem KeepB.setCell {V:Nat→Prop} {a w:World} (h:KeepB V a w) {p:Addr} (hp:V p.block∨a.heap.size≤p.block) (u:Value):KeepB V a (w.setCell p u):=by
  refine ⟨h.os,h.tape,h.output,by simp [World.setCell];exact h.size,fun k hk hn=>?_⟩
  rw [Below.heap_setCell _ _ _ _ (by rintro rfl;rcases hp with hp | hp;exact hn hp;omega)]
  exact h.block k hk hn
theorem KeepB.putObj {V:Nat→Prop} (w:World) {l:Nat} (hl:V l) (o:Obj):KeepB V w (w.putObj l o) :=
  ⟨rfl,rfl,rfl,by simp,fun k hk hn=>World.putObj_heap_other (by rintro rfl;exact hn hl)⟩
theorem KeepB.below {V:Nat→Prop} {w w':World} (h:KeepB V w w') {B:Nat} (hB:B≤w.heap.size) (hv:∀ k,V k→B≤k):Below B w w' :=
  ⟨h.os,h.tape,h.output,h.size,fun k hk=>h.block k (by omega) (fun e=>by have:=hv k e;omega)⟩
theorem KeepB.cell {V:Nat→Prop} {w w':World} (h:KeepB V w w') {p:Addr} (hp:p.block<w.heap.size) (hn:¬ V p.block):w'.cell? p=w.cell? p:=World.cell?_of_block (w:=w) (h.block p.block hp hn)
theorem KeepB.frozen {V:Nat→Prop} {w w':World} (h:KeepB V w w') {p:Addr} (hp:p.block<w.heap.size) (hn:¬ V p.block):w'.frozen? p=w.frozen? p:=World.frozen?_of_block (w:=w) (h.block p.block hp hn)
def encT (x:Nat × MT):Array Value:=#[.int .i64 ((x.1:Nat):Int),x.2.c.val]
def On (V:Nat→Prop) (I:List (Nat × MT)→World→Prop):Prop:=∀ pre A B,(∀ k,V k→B.heap[k]? = A.heap[k]?)→I pre A→I pre B
def SeqAll (m : Nat) (g : Nat) (lb : Array Value) (xs : List (Nat × MT)) (n0 tb : Nat) (w : World) : Prop :=
  ∀ (l : Nat) (V : Nat → Prop) (I Ix : List (Nat × MT) → World → Prop) (W : World), Below w.heap.size w W → (∀ k, V k → n0 ≤ k ∧ k < W.heap.size ∧ k ≠ tb) → On V I → On V Ix → (∀ pre A, I pre A → pre.length ≤ 1000000) →
    (∀ pre x W1, pre ++ [x] <+: xs → KeepB V W W1 → I pre W1 → YieldAt Fence.wide m Tryz.prog l (encT x) W1 fun e W' =>
      (e = .returned (.bool true) ∧ KeepB V W1 W' ∧ I (pre ++ [x]) W') ∨ (e = .returned (.bool false) ∧ KeepB V W1 W' ∧ Ix (pre ++ [x]) W')) →
    I [] W →
    CallsIn Fence.wide (m + 1) Tryz.prog g (#[.func (.yield l) #[] #[]] ++ lb) W fun e W' => (∃ v, e = .returned v) ∧ KeepB V W W' ∧ (I xs W' ∨ ∃ pre, pre <+: xs ∧ Ix pre W')
def bodyPostA (V:Nat→Prop) (I:List (Nat × MT)→World→Prop) (Ix:Code→List (Nat × MT)→World→Prop) (xs:List (Nat × MT)) (W:World):Exit→Act→World→Prop
  | .normal,_,W'=>KeepB V W W'∧I xs W'
  | .ret,_,W'=>KeepB V W W'∧Ix .ret xs W'
  | .exit id,_,W'=>KeepB V W W'∧Ix (.exit id) xs W'
  | .goto t,_,W'=>KeepB V W W'∧Ix (.goto t) xs W'
  | .panic _,_,_=>False
  | .outgrown,_,_=>False
theorem wpIn_range_all {n:Nat} {g:Operand} {ps:Array Tmp} {assign body:Code} {Q:Exit→Act→World→Prop} {a:Act} {w:World} {gf:Nat} {lb:Array Value} {xs:List (Nat × MT)} {n0 tb:Nat}
    (hg:a.eval g=.func (.func gf) #[] lb) (eg:∀ args w,(callFunc gf args).run Tryz.prog w=.ok (.enter gf args) w) (hseq:SeqAll n gf lb xs n0 tb w) (hps:ps.size=2)
    (V:Nat→Prop) (hV:∀ k,V k→n0≤k∧k<w.heap.size∧k ≠ tb) (htb:tb<w.heap.size)
    (I:List (Nat × MT)→World→Prop) (Ix:Code→List (Nat × MT)→World→Prop) (hI:On V I) (hIx:∀ c,On V (Ix c)) (hN:∀ pre A,I pre A→pre.length≤1000000) (h0:I [] w)
    (Ax:Nat × MT→Act→World→Prop) (hAx:∀ x a' A B,(∀ k,k ≠ w.heap.size+1→B.heap[k]? = A.heap[k]?)→Ax x a' A→Ax x a' B) (hn0:n0≤w.heap.size)
    (hassign:∀ pre x W K,pre++[x] <+: xs→KeepB V w W→w.heap.size+2≤W.heap.size→I pre W→(∀ a' W',KeepB V W W'→I pre W'→Ax x a' W'→K a' W') →
      assign.wpIn (Fence.wide.inRound (w.heap.size+1)) n Tryz.prog (Exit.then K (fun _ _ _=>False)) { tmps:=(ps.zip (encT x)).foldl (fun t (p,v)=>t.setIfInBounds p v) a.tmps,defers:=[] } W)
    (hbody:∀ pre x a' W,pre++[x] <+: xs→KeepB V w W→I pre W→Ax x a' W→body.wpIn (Fence.wide.inRound (w.heap.size+1)) n Tryz.prog (bodyPostA V I Ix (pre++[x]) W) a' W)
    (hdone:∀ W,KeepB V w W→I xs W→W.heap[w.heap.size]? = some (.deferred (some []))→Q .normal { a with defers:={ target:=.collected w.heap.size,args:=#[] } :: a.defers } W)
    (hstop:∀ c pre W,pre <+: xs→KeepB V w W→Ix c pre W→W.heap[w.heap.size]? = some (.deferred (some []))→c.wpIn Fence.wide (n+2) Tryz.prog Q { a with defers:={ target:=.collected w.heap.size,args:=#[] } :: a.defers } W) :
    (Code.rangeFunc g ps assign body).wpIn Fence.wide (n+2) Tryz.prog Q a w:=by
  refine wpIn_rangeFunc ?_
  intro fn hfn
  obtain ⟨rec,hrec⟩:∃ rec:LoopState→Option Code→Loop,rec=fun st pe=>{ state:=st,pending:=pe,fn,tmps:=a.tmps,params:=ps,assign,body,defers:=w.heap.size }:=⟨_,rfl⟩
  obtain ⟨W1,hW1⟩:∃ W1,(w.alloc (.deferred (some []))).alloc (.loop (rec .ready none))=W1:=⟨_,rfl⟩
  have hL1:W1.heap[w.heap.size+1]? = some (.loop (rec .ready none)):=by
    rw [← hW1];have:=World.alloc_heap_new (w.alloc (.deferred (some []))) (.loop (rec .ready none));rwa [World.size_alloc] at this
  have hK1:W1.heap[w.heap.size]? = some (.deferred (some [])):=by
    rw [← hW1];exact (Below.heap_alloc _ _ _ (by simp)).trans (World.alloc_heap_new w _)
  have hS1:W1.heap.size=w.heap.size+2:=by rw [← hW1];simp
  have hb1:Below w.heap.size w W1:=by
    rw [← hW1];exact ((Below.refl _ w).alloc (Nat.le_refl _) _).alloc (by simp) _
  have hkb1:KeepB V w W1:=KeepB.of_below hb1
  have hI1:I [] W1:=hI [] w W1 (fun k hk=>hb1.block k (hV k hk).2.1) h0
  refine ⟨w.heap.size+1,[{ target:=.collected w.heap.size,args:=#[] }],W1,{ target:=.fn (.func gf) lb,args:=#[.func (.yield (w.heap.size+1)) #[] #[]] },W1,gf,
    #[.func (.yield (w.heap.size+1)) #[] #[]]++lb,W1,?_,?_,?_,?_,fun _=>by omega,?_⟩
  · rw [← hW1,hrec];exact run_enterLoop_outer _ _ _ _ _
  · simp only [resolve,hg]
    simp [go_sem]
  · intro f' hf';trivial
  · simp [invoke,go_sem,eg]
  · let V':Nat→Prop:=fun k=>V k∨k=w.heap.size∨k=w.heap.size+1
    have hVV:∀ k,V k→V' k:=fun k h=>.inl h
    have hnV:¬ V w.heap.size∧¬ V (w.heap.size+1):=⟨fun h=>by have:=(hV _ h).2.1;omega,fun h=>by have:=(hV _ h).2.1;omega⟩
    have hsq:=hseq (w.heap.size+1) V'
      (fun pre W=>I pre W∧W.heap[w.heap.size+1]? = some (.loop (rec .ready none))∧W.heap[w.heap.size]? = some (.deferred (some [])))
      (fun pre W=>∃ c,Ix c pre W∧W.heap[w.heap.size+1]? = some (.loop (rec .done (some c)))∧W.heap[w.heap.size]? = some (.deferred (some [])))
      W1 hb1
      (fun k hk=>by
        rcases hk with hk | rfl | rfl
        · have:=hV k hk;omega
        · omega
        · omega)
      (fun pre A B hk hs=>⟨hI pre A B (fun k h=>hk k (hVV k h)) hs.1,(hk _ (.inr (.inr rfl))).trans hs.2.1,(hk _ (.inr (.inl rfl))).trans hs.2.2⟩)
      (fun pre A B hk hs=>by
        obtain ⟨c,h1,h2,h3⟩:=hs
        exact ⟨c,hIx c pre A B (fun k h=>hk k (hVV k h)) h1,(hk _ (.inr (.inr rfl))).trans h2,(hk _ (.inr (.inl rfl))).trans h3⟩)
      (fun pre A hs=>hN pre A hs.1)
      ?_ ⟨hI1,hL1,hK1⟩
    · refine CallsIn.mono (F:=Fence.wide) hsq ?_
      rintro e W2 ⟨⟨v,rfl⟩,hkb,(⟨hi,hl,hk⟩ | ⟨pre,hpre,c,hi,hl,hk⟩)⟩
      · have hkw:KeepB V w (W2.putObj (w.heap.size+1) (.loop (rec .exhausted none))):=by
          refine ⟨?_,?_,?_,?_,?_⟩
          · exact hkb.os.trans hkb1.os
          · exact hkb.tape.trans hkb1.tape
          · exact hkb.output.trans hkb1.output
          · have:=hkb.size;simp;omega
          · intro k h1 h2
            rw [World.putObj_heap_other (by omega),hkb.block k (by omega) (by rintro (h | h | h);exact h2 h;omega;omega),hkb1.block k h1 h2]
        exact ⟨none,_,by have:=run_endLoop (P:=Tryz.prog) hl (by rw [hrec];simp);rw [hrec] at this ⊢;exact this,
          hdone _ hkw (hI xs W2 _ (fun k h=>World.putObj_heap_other (by have:=(hV k h).2.1;omega)) hi) ((World.putObj_heap_other (by omega)).trans hk)⟩
      · have hkw:KeepB V w (W2.putObj (w.heap.size+1) (.loop (rec .exhausted (some c)))):=by
          refine ⟨?_,?_,?_,?_,?_⟩
          · exact hkb.os.trans hkb1.os
          · exact hkb.tape.trans hkb1.tape
          · exact hkb.output.trans hkb1.output
          · have:=hkb.size;simp;omega
          · intro k h1 h2
            rw [World.putObj_heap_other (by omega),hkb.block k (by omega) (by rintro (h | h | h);exact h2 h;omega;omega),hkb1.block k h1 h2]
        exact ⟨some c,_,by have:=run_endLoop (P:=Tryz.prog) hl (by rw [hrec];simp);rw [hrec] at this ⊢;exact this,
          hstop c pre _ hpre hkw (hIx c pre W2 _ (fun k h=>World.putObj_heap_other (by have:=(hV k h).2.1;omega)) hi) ((World.putObj_heap_other (by omega)).trans hk)⟩
    · -- ONE ROUND
      rintro pre x W hx hkW ⟨hi,hl,hk⟩
      have hsW:w.heap.size+2≤W.heap.size:=by have:=hkW.size;omega
      have hy:=run_yield (P:=Tryz.prog) (args:=encT x) hl (by rw [hrec];simp [encT,hps])
      rw [hrec] at hy
      have hkwW:KeepB V w W:=by
        refine ⟨hkW.os.trans hkb1.os,hkW.tape.trans hkb1.tape,hkW.output.trans hkb1.output,by omega,fun k h1 h2=>?_⟩
        rw [hkW.block k (by omega) (by rintro (h | h | h);exact h2 h;omega;omega),hkb1.block k h1 h2]
      refine ⟨fn,_,assign,body,hy,roundIn_of_wpIn hfn (hassign pre x W _ hx hkwW hsW hi (fun a1 W2 hk2 hi2 hax=>?_))⟩
      have hl2:W2.heap[w.heap.size+1]? = some (.loop (rec .ready none)):=(hk2.block _ (by omega) hnV.2).trans hl
      have hd2:W2.heap[w.heap.size]? = some (.deferred (some [])):=(hk2.block _ (by omega) hnV.1).trans hk
      refine ⟨_,run_beginRound hl2 (by rw [hrec]),?_⟩
      generalize hW3:W2.putObj (w.heap.size+1) (.loop { rec .ready none with state:=.busy })=W3
      have hlt2:w.heap.size+1<W2.heap.size:=(Array.getElem?_eq_some_iff.1 hl2).1
      have hl3:W3.heap[w.heap.size+1]? = some (.loop { rec .ready none with state:=.busy }):=by rw [← hW3];exact World.putObj_heap_same hlt2
      have hd3:W3.heap[w.heap.size]? = some (.deferred (some [])):=by rw [← hW3];exact (World.putObj_heap_other (by omega)).trans hd2
      have hs3:W3.heap.size=W2.heap.size:=by rw [← hW3];simp
      have hkV3:KeepB V' W W3:=(hk2.more hVV).trans (by rw [← hW3];exact KeepB.putObj _ (.inr (.inr rfl)) _)
      have hi3:I pre W3:=hI pre W2 W3 (fun k h=>by rw [← hW3];exact World.putObj_heap_other (by have:=(hV k h).2.1;omega)) hi2
      have hax3:Ax x a1 W3:=hAx x a1 W2 W3 (fun k h=>by rw [← hW3];exact World.putObj_heap_other h) hax
      have hkw3:KeepB V w W3:=by
        refine ⟨hkV3.os.trans hkwW.os,hkV3.tape.trans hkwW.tape,hkV3.output.trans hkwW.output,Nat.le_trans hkwW.size hkV3.size,fun k h1 h2=>?_⟩
        rw [hkV3.block k (by omega) (by rintro (h | h | h);exact h2 h;omega;omega),hkwW.block k h1 h2]
      refine wpIn_mono (hbody pre x a1 W3 hx hkw3 hi3 hax3) ?_
      have fin:∀ (jump:Option Code) (W4:World),KeepB V W3 W4 →
          (Instr.endRound (w.heap.size+1) jump).run Tryz.prog W4=.ok (.bool jump.isNone) (W4.putObj (w.heap.size+1) (.loop (rec (if jump.isNone then .ready else .done) jump))) ∧
          (W4.putObj (w.heap.size+1) (.loop (rec (if jump.isNone then .ready else .done) jump))).heap[w.heap.size+1]? = some (.loop (rec (if jump.isNone then .ready else .done) jump)) ∧
          (W4.putObj (w.heap.size+1) (.loop (rec (if jump.isNone then .ready else .done) jump))).heap[w.heap.size]? = some (.deferred (some [])) ∧
          KeepB V' W (W4.putObj (w.heap.size+1) (.loop (rec (if jump.isNone then .ready else .done) jump))):=fun jump W4 hk4=>by
        have hl4:W4.heap[w.heap.size+1]? = some (.loop { rec .ready none with state:=.busy }):=(hk4.block _ (by omega) hnV.2).trans hl3
        have hd4:W4.heap[w.heap.size]? = some (.deferred (some [])):=(hk4.block _ (by omega) hnV.1).trans hd3
        have:=run_endRound (P:=Tryz.prog) jump hl4
        refine ⟨?_,World.putObj_heap_same (Array.getElem?_eq_some_iff.1 hl4).1,(World.putObj_heap_other (by omega)).trans hd4,(hkV3.trans (hk4.more hVV)).trans (KeepB.putObj _ (.inr (.inr rfl)) _)⟩
        rw [hrec] at this ⊢
        exact this
      have onV:∀ (W4:World) (o:Obj) (k:Nat),V k→(W4.putObj (w.heap.size+1) o).heap[k]? = W4.heap[k]?:=fun W4 o k h=>World.putObj_heap_other (by have:=(hV k h).2.1;omega)
      rintro e a4 W4 hp
      cases e with
      | normal =>
        obtain ⟨hk4,hi4⟩:=hp
        obtain ⟨h1,h2,h3,h4⟩:=fin none W4 hk4
        exact ⟨_,_,h1,.inl ⟨rfl,h4,hI _ W4 _ (onV W4 _) hi4,h2,h3⟩⟩
      | ret =>
        obtain ⟨hk4,hi4⟩:=hp
        obtain ⟨h1,h2,h3,h4⟩:=fin (some .ret) W4 hk4
        exact ⟨_,_,h1,.inr ⟨rfl,h4,.ret,hIx _ _ W4 _ (onV W4 _) hi4,h2,h3⟩⟩
      | exit id =>
        obtain ⟨hk4,hi4⟩:=hp
        obtain ⟨h1,h2,h3,h4⟩:=fin (some (.exit id)) W4 hk4
        exact ⟨_,_,h1,.inr ⟨rfl,h4,.exit id,hIx _ _ W4 _ (onV W4 _) hi4,h2,h3⟩⟩
      | goto t =>
        obtain ⟨hk4,hi4⟩:=hp
        obtain ⟨h1,h2,h3,h4⟩:=fin (some (.goto t)) W4 hk4
        exact ⟨_,_,h1,.inr ⟨rfl,h4,.goto t,hIx _ _ W4 _ (onV W4 _) hi4,h2,h3⟩⟩
      | panic ch=>exact hp.elim
      | outgrown=>exact hp.elim
attribute [local go_sem] Oper.semAt_some
theorem own_open {w : World} {B : Nat} {e : TypeId} {v : Value} {n : Nat} {xs : List Value} (h : w.ownsRow B e 1 v (n + 1) xs) :
    ∃ g cap, v = .slice (some ⟨g, 0, none⟩) (n + 1) cap ∧ B ≤ g ∧ g < w.heap.size ∧ n + 1 ≤ cap ∧ w.cell? ⟨g, n, none⟩ = xs[n]? ∧ w.frozen? ⟨g, n, none⟩ = false ∧
      (∀ x, (w.setCell ⟨g, n, none⟩ x).ownsRow B e 1 v (n + 1) (xs.set n x)) ∧ w.ownsRow B e 1 (.slice (some ⟨g, 0, none⟩) n cap) n (xs.take n) := by
  rcases h.2 with ⟨_, h0⟩ | ⟨g, cap, cur, rfl, hB, hg, hc, hm, hs, ht⟩
  · omega
  · have hlt : g < w.heap.size := (Array.getElem?_eq_some_iff.1 hg).1
    have hsz : cur.size = cap := by omega
    have hx : xs[n]? = cur[n]? := by rw [← ht, List.getElem?_take]; simp
    refine ⟨g, cap, rfl, hB, hlt, hc, ?_, ?_, fun x => ⟨?_, .inr ⟨g, cap, cur.setIfInBounds n x, rfl, hB, ?_, hc, hm, ?_, ?_⟩⟩, ⟨?_, .inr ⟨g, cap, cur, rfl, hB, hg, by omega, hm, hs, ?_⟩⟩⟩
    · rw [hx]; simp [World.cell?, hg]
    · simp [World.frozen?, hg]
    · rw [List.length_set]; exact h.1
    · simp [World.setCell, Array.getElem?_modify, hg]
    · simp; omega
    · rw [← ht, Array.toList_setIfInBounds, List.take_set]
    · rw [List.length_take, h.1]; omega
    · rw [← ht, List.take_take]; congr 1; omega
theorem own_one (w:World) (B:Nat) (e:TypeId) (x:Value) (hB:B≤w.heap.size):(w.alloc (.cells #[x] e)).ownsRow B e 1 (.slice (some ⟨w.heap.size,0,none⟩) 1 1) 1 [x] :=
  ⟨rfl,.inr ⟨w.heap.size,1,#[x],rfl,hB,heap_alloc_new w _,Nat.le_refl _,by decide,rfl,rfl⟩⟩
theorem own_same {w w':World} {B:Nat} {e:TypeId} {v:Value} {n:Nat} {xs:List Value} (h:w.ownsRow B e 1 v n xs) (hk:∀ k,v.ownBlock=some k→k<w.heap.size→w'.heap[k]? = w.heap[k]?):w'.ownsRow B e 1 v n xs:=by
  refine ⟨h.1,?_⟩
  rcases h.2 with h2 | ⟨g,cap,cur,rfl,hB,hg,rest⟩
  · exact .inl h2
  · refine .inr ⟨g,cap,cur,rfl,hB,?_,rest⟩
    rw [hk g rfl (Array.getElem?_eq_some_iff.1 hg).1];exact hg
theorem KeepB.grown {V:Nat→Prop} {a w w':World} {row:Option Nat} (h:KeepB V a w) (hg:w.grownBy w' row) (hr:∀ k,row=some k→a.heap.size≤k):KeepB V a w' :=
  ⟨hg.os.trans h.os,hg.tape.trans h.tape,hg.output.trans h.output,Nat.le_trans h.size hg.size,fun k h1 h2=>by
    rw [hg.block k (Nat.lt_of_lt_of_le h1 h.size) (fun e=>by have:=hr k e.symm;omega)];exact h.block k h1 h2⟩
theorem info_slices:(Tryz.prog.info? 27).map (fun i=>(i.zero,i.size,i.bytes))=some (some (.slice none 0 0),1,24):=by kernel_rfl
def BoxT (w:World) (b:Nat) (c:Cel):Prop:=w.heap[b]? = some (.cells c.cells.toArray 29)
theorem BoxT.cells {w:World} {b:Nat} {c:Cel} (h:BoxT w b c) :
    w.cell? ⟨b,0,none⟩=some (.int .i64 c.k)∧w.cell? ⟨b,1,none⟩=some (.bool c.b)∧w.cell? ⟨b,2,none⟩=some (.bool c.neg)∧w.cell? ⟨b,3,none⟩=some (.slice c.ma c.mn c.mc) ∧
    w.cell? ⟨b,4,none⟩=some (.int .i64 c.e)∧w.cell? ⟨b,5,none⟩=some (.string c.s)∧w.cell? ⟨b,6,none⟩=some (.slice c.ka c.kn c.kc)∧w.cell? ⟨b,7,none⟩=some (.slice c.va c.vn c.vc):=by
  unfold BoxT at h
  simp [World.cell?,h,Cel.cells]
theorem BoxT.lt {w:World} {b:Nat} {c:Cel} (h:BoxT w b c):b<w.heap.size:=(Array.getElem?_eq_some_iff.1 h).1
theorem BoxT.on {w w':World} {b:Nat} {c:Cel} (h:BoxT w b c) (hb:w'.heap[b]? = w.heap[b]?):BoxT w' b c:=by unfold BoxT;rw [hb];exact h
theorem BoxT.free {w:World} {b:Nat} {c:Cel} (h:BoxT w b c) (i:Nat):w.frozen? ⟨b,i,none⟩=false:=by
  unfold BoxT at h;simp [World.frozen?,h]
def AR (w00:World) (xs:List (Nat × MT)) (V:Nat→Prop) (I:List (Nat × MT)→World→Prop) (W:World) (k:Nat) (v:Value) (wr:World):Prop :=
  ∃ (pre:List (Nat × MT)) (R:List SE),xs=pre++outR (R.map SE.l)∧stepsR (R.map SE.l)≤k∧wr.ownsRow W.heap.size 27 1 v R.length (R.reverse.map SE.val)∧(∀ s∈R,SEOk w00 s)∧KeepB V W wr∧I pre wr∧R.length≤pre.length
theorem wpi_app (w:World) {F:Fence} {m:Nat} {ops:Array Oper} {rest:List Oper} {o:Oper} {a:Act} {Q:Exit→Act→World→Prop}
    (hg:o.guard=none) (s x:Operand) (hop:o.op=.call { callee:=.builtin .append,args:=#[s,x],argTypes:=#[135,135] })
    (B:Nat) (v:Value) (n:Nat) (xs:List Value) (hs:a.eval s=v) (hown:w.ownsRow B 27 1 v n xs) (g:Nat) (y:SE) (hx:a.eval x=.slice (some ⟨g,0,none⟩) 1 1) (hc:w.cell? ⟨g,0,none⟩=some y.val)
    (hn:n≤1000000000) (hB:B≤w.heap.size)
    (h:∀ v' w',w'.ownsRow B 27 1 v' (n+1) (xs++[y.val])→w.grownBy w' v.ownBlock→wpListIn F m Tryz.prog ops Q rest (a.put o.dst v') w') :
    wpListIn F m Tryz.prog ops Q (o::rest) a w:=by
  obtain ⟨i0,hi,hz0,hz1,hz2⟩:=info_parts info_slices
  refine wpListIn_append_own w hg s x 135 hop B 27 i0 (.slice none 0 0) 1 24 Tryz.underlying135 hi hz0 hz1 hz2 rfl (by decide) v n xs hs hown ⟨g,0,none⟩ 1 1 [y.val] hx rfl ?_ ?_ (by unfold maxLen;omega) (by omega) hB (fun v' w' h1 h2 _=>h v' w' h1 h2)
  · intro j u hj
    match j,hj with
    | 0,hj=>simp at hj;subst hj;simpa [Addr.add] using hc
  · intro u hu;simp at hu;subst hu;rfl
theorem all1_seq (t:MT) (tb:Nat) (w00 w:World) (m:Nat) (hR:Rep w00 t) (hb:Below w00.heap.size w00 w) (htb:BoxT w tb t.c) (hn:w00.heap.size≤tb) :
    SeqAll m 101 #[.pointer (some ⟨tb,0,none⟩)] (t.pre 1) w00.heap.size tb w:=by
  intro l V I Ix W hW hV hI hIx hN hY h0
  refine callsIn_of_wp Tryz.func101 rfl trivial ?_ rfl
  simp only [Tryz.ntmps101,List.size_toArray,List.length_cons,List.length_nil,Nat.reduceAdd,Nat.reduceSub,Array.replicate_succ,Array.replicate_zero,List.push_toArray,List.append_toArray,List.nil_append,List.cons_append]
  have hlt:=htb.lt
  have hbox:BoxT W tb t.c:=htb.on (hW.block tb hlt)
  obtain ⟨c0,c1,c2,c3,c4,c5,c6,c7⟩:=hbox.cells
  obtain ⟨fn,tmps,assign,body,hy,hRd⟩:=hY [] (1,t) W ⟨outR [t.v],by rw [outR_start];rfl⟩ (KeepB.refl V W) h0
  have HRD:=Lib.hid hRd;clear hRd
  simp only [encT,Cel.val,Int.natCast_one] at hy
  generalize hc:t.c=c at *
  gi_wp2
  refine HRD.out.mono ?_
  rintro e W1 (⟨rfl,hk1,hi1⟩ | ⟨rfl,hk1,hx1⟩)
  · have hnV:¬ V tb:=fun h=>(hV tb h).2.2 rfl
    have hbW:BoxT W1 tb c:=hbox.on (hk1.block tb hbox.lt hnV)
    obtain ⟨d0,d1,d2,d3,d4,d5,d6,d7⟩:=hbW.cells
    have hsz1:=hk1.size
    have HST:=Lib.hid (show AR w00 (t.pre 1) V I W (stepsR [t.v]) (.slice (some ⟨W1.heap.size,0,none⟩) 1 1) (W1.alloc (.cells #[.slice c.va c.vn c.vc] 27)) from by
      refine ⟨[(1,t)],[t.se],?_,Nat.le_refl _,?_,?_,hk1.alloc _,hI _ W1 _ (fun k h=>Below.heap_alloc _ _ _ (by have:=(hV k h).2.1;omega)) hi1,Nat.le_refl _⟩
      · rw [outR_start];rfl
      · rw [← hc];exact own_one W1 W.heap.size _ _ hsz1
      · intro s hs;simp at hs;subst hs;exact MT.se_ok hR)
    clear c0 c1 c2 c3 c4 c5 c6 c7 hy hbox hk1 hi1 hbW hlt htb
    gi_wp2
    clear d0 d1 d2 d3 d4 d5 d6 d7
    gi_loopg [3] (stepsR [t.v]) (fun k v wr=>AR w00 (t.pre 1) V I W k v wr)
    case atStart=>exact HST.out
    case round =>
      obtain ⟨pre,R,hxs,hst,ho,hok,hkb,hi,hlen⟩:=hrel
      have HXS:=Lib.hid hxs;have HI:=Lib.hid hi;have HKB:=Lib.hid hkb;have HO:=Lib.hid ho;have HOK:=Lib.hid hok
      have hN1:=hN _ _ hi
      have hszr:=hkb.size
      clear hxs hi hkb ho hok
      cases R with
      | nil =>
        obtain ⟨ad,cap,rfl,_⟩:=own_view HO.out
        have hd:pre=t.pre 1:=by rw [HXS.out];simp [outR]
        have HD:=Lib.hid hd;clear hd
        gi_wp2
        go_end0
        exact ⟨⟨_,rfl⟩,HKB.out,.inl (by rw [← HD.out];exact HI.out)⟩
      | cons s R =>
        obtain ⟨k,rfl⟩:∃ k,gk=k+1:=⟨gk - 1,by have:=hst;simp only [List.map_cons,stepsR] at this;omega⟩
        have hrv:(s::R).reverse.map SE.val=R.reverse.map SE.val++[s.val]:=by simp
        have hlr:(R.reverse.map SE.val).length=R.length:=by simp
        have hown:wr.ownsRow W.heap.size 27 1 u3 (R.length+1) (R.reverse.map SE.val++[s.val]):=by rw [← hrv];exact HO.out
        obtain ⟨g,cap,rfl,hBg,hgl,hcap,hcell,hfz,hset,hpop⟩:=own_open hown
        rw [List.getElem?_append_right (by omega),hlr,Nat.sub_self] at hcell
        have hcell2:wr.cell? ⟨g,R.length,none⟩=some (.slice s.ad s.n s.cap):=hcell
        rw [List.take_append_of_le_length (by omega),List.take_of_length_le (by omega)] at hpop
        have hsok:=HOK.out s (by simp)
        have HSET:=Lib.hid hset;have HPOP:=Lib.hid hpop;have HSOK:=Lib.hid hsok
        have hRl:R.length≤1000000:=by simp only [List.length_cons] at hlen;omega
        have hRz:(R.length:Int)<((R.length+1:Nat):Int):=by omega
        simp only [List.length_cons] at hlen
        clear hcell hrv hown hset hpop hsok
        by_cases h0n:s.n=0
        · have hl0:s.l=[]:=List.eq_nil_of_length_eq_zero (by rw [HSOK.out.ln];exact h0n)
          have HF:=Lib.hid (show AR w00 (t.pre 1) V I W k (.slice (some ⟨g,0,none⟩) R.length cap) wr from by
            refine ⟨pre,R,?_,?_,HPOP.out,fun x hx=>HOK.out x (by simp [hx]),HKB.out,HI.out,by omega⟩
            · rw [HXS.out,List.map_cons,hl0,outR_pop]
            · rw [List.map_cons,hl0,stepsR_pop] at hst;omega)
          rw [h0n] at hcell2
          clear hl0 h0n
          generalize R.length=r at *
          generalize s.ad=ad at *
          generalize s.cap=scap at *
          gi_wp2
          gi_roundg k
          case rel=>exact HF.out
          case measure=>omega
        · obtain ⟨ad,sn,scap,sl⟩:=s
          simp only at h0n hcell2 HSOK
          cases sl with
          | nil=>exact absurd HSOK.out.ln.symm (by simpa using h0n)
          | cons x xs =>
            have hln:xs.length+1=sn:=HSOK.out.ln
            obtain ⟨sm,rfl⟩:∃ sm,sn=sm+1:=⟨xs.length,hln.symm⟩
            have hxl:xs.length=sm:=by omega
            have hsc:sm+1≤scap:=HSOK.out.lc
            obtain ⟨sd,rfl⟩:∃ sd,scap=sd+1:=⟨scap - 1,by omega⟩
            have hbw:Below w00.heap.size w00 wr:=(hb.trans (hW.mono hb.size)).trans (HKB.out.below (by have:=hb.size;have:=hW.size;omega) (fun k h=>(hV k h).1))
            have hrd:RdV wr ad (flat ((x::xs).map MT.c)):=HSOK.out.rd.on hbw
            obtain ⟨bk,bo,rfl,hbl⟩:=hrd.shape (by rw [flat_len];simp)
            have hfa:=flat_at hrd 0 (by simp) (c:=x.c) rfl
            simp only [Nat.zero_mul,Nat.add_zero] at hfa
            obtain ⟨e0,e1,e2,e3,e4,e5,e6,e7⟩:=hfa
            have hxrep:=HSOK.out.rp x (by simp)
            have hrdt:RdV w00 (some ⟨bk,bo+8,none⟩) (flat (xs.map MT.c)):=by
              have:=HSOK.out.rd.drop 8
              rw [← flat_tail] at this
              exact this
            generalize hcx:x.c=cx at *
            by_cases hsd:sd=0
            · subst hsd
              obtain rfl:sm=0:=by omega
              simp only [Nat.zero_add] at HSOK hcell2
              clear hrdt
              obtain ⟨W2,hW2⟩:∃ W2,(wr.setCell ⟨g,R.length,none⟩ (.slice (some ⟨bk,bo,none⟩) 0 0)).alloc (.cells #[.int .i64 cx.k,.bool cx.b,.bool cx.neg,.slice cx.ma cx.mn cx.mc,.int .i64 cx.e,.string cx.s,.slice cx.ka cx.kn cx.kc,.slice cx.va cx.vn cx.vc] 29)=W2:=⟨_,rfl⟩
              have hVg:∀ k,V k→k<W.heap.size:=fun k h=>(hV k h).2.1
              have hk2:KeepB V W W2:=by rw [← hW2];exact (HKB.out.setCell (.inr hBg) _).alloc _
              have hs2:W2.heap.size=wr.heap.size+1:=by rw [← hW2];simp [World.setCell]
              have hi2:I pre W2:=hI pre wr W2 (fun k h=>by
                have:=hVg k h
                rw [← hW2,Below.heap_alloc _ _ _ (by simp [World.setCell];omega),Below.heap_setCell _ _ _ _ (by simp;omega)]) HI.out
              have hbox2:BoxT W2 wr.heap.size cx:=by
                unfold BoxT
                rw [← hW2]
                have:=heap_alloc_new (wr.setCell ⟨g,R.length,none⟩ (.slice (some ⟨bk,bo,none⟩) 0 0)) (.cells cx.cells.toArray 29)
                simp only [World.setCell,Array.size_modify] at this ⊢
                exact this
              have hown2:W2.ownsRow W.heap.size 27 1 (.slice (some ⟨g,0,none⟩) (R.length+1) cap) (R.length+1) (R.reverse.map SE.val++[.slice (some ⟨bk,bo,none⟩) 0 0]):=by
                have h1:=HSET.out (.slice (some ⟨bk,bo,none⟩) 0 0)
                rw [List.set_append_right _ _ (by omega),hlr,Nat.sub_self,List.set_cons_zero] at h1
                rw [← hW2];exact h1.alloc _
              have HPF:=Lib.hid (show pre++[(R.length+2,x)] <+: t.pre 1 from ⟨outR (x.v::xs::R.map SE.l),by rw [HXS.out,List.map_cons,outR_push];simp⟩)
              obtain ⟨fn2,tmps2,assign2,body2,hy2,hR2⟩:=hY pre (R.length+2,x) W2 HPF.out hk2 hi2
              simp only [encT,Cel.val,hcx] at hy2
              rw [show (((R.length+2:Nat)):Int)=(R.length:Int)+2 from rfl] at hy2
              rw [← hW2] at hy2
              have HR2:=Lib.hid hR2;have HW2:=Lib.hid hW2
              clear hR2 hW2
              have HOWN2:=Lib.hid hown2;have HBOX2:=Lib.hid hbox2;have HK2:=Lib.hid hk2
              clear hown2 hbox2 hk2 hi2
              have HLAST:=Lib.hid (fun W5 v5 (h1:W5.ownsRow W.heap.size 27 1 v5 (R.length+1+1) (R.reverse.map SE.val++[.slice (some ⟨bk,bo,none⟩) 0 0]++[x.se.val])) (h2:KeepB V W W5) (h3:I (pre++[(R.length+2,x)]) W5)=>(by
                refine ⟨pre++[(R.length+2,x)],x.se :: ⟨some ⟨bk,bo,none⟩,0,0,xs⟩::R,?_,?_,?_,?_,h2,h3,?_⟩
                · rw [HXS.out];simp only [List.map_cons];rw [outR_push];simp [MT.se]
                · simp only [List.map_cons] at hst ⊢;rw [stepsR_push] at hst;show stepsR (x.v::xs::_)≤k;omega
                · simpa [SE.val] using h1
                · intro y hy
                  rcases List.mem_cons.1 hy with rfl | hy
                  · exact MT.se_ok hxrep
                  · rcases List.mem_cons.1 hy with rfl | hy
                    · exact ⟨hxl,Nat.le_refl _,Nat.zero_le _,by have:xs=[]:=List.eq_nil_of_length_eq_zero hxl;subst this;exact RdV.nil _ _,fun y hy=>HSOK.out.rp y (by simp [hy])⟩
                    · exact HOK.out y (by simp [hy])
                · simp only [List.length_cons,List.length_append,List.length_nil];omega:AR w00 (t.pre 1) V I W k v5 W5))
              have hsev:x.se.val=.slice cx.va cx.vn cx.vc:=by rw [← hcx];rfl
              have HSEV:=Lib.hid hsev
              clear hsev
              have e0r:(R.length:Int)<((R.length:Int)+1):=by omega
              generalize hr:R.length=r at *
              have HRR:=Lib.hid hr;clear hr
              gi_wp2
              rw [HW2.out]
              refine HR2.out.mono ?_
              rintro e W3 (⟨rfl,hk3,hi3⟩ | ⟨rfl,hk3,hx3⟩)
              · have hnb:¬ V wr.heap.size:=fun h=>by have:=hVg _ h;omega
                have hng:¬ V g:=fun h=>by have:=hVg _ h;omega
                have hb3:=HBOX2.out.on (hk3.block _ (by rw [hs2];omega) hnb)
                obtain ⟨_,_,_,_,_,_,_,g7⟩:=hb3.cells
                have ho3:=own_same HOWN2.out (w':=W3) (fun k hk hlt=>by
                  simp [Value.ownBlock] at hk;subst hk
                  exact hk3.block _ hlt hng)
                have HO3:=Lib.hid ho3;have HK3:=Lib.hid (HK2.out.trans hk3);have HI3:=Lib.hid hi3
                have hs3:=HK3.out.size
                clear hb3 ho3 hk3 hi3 hy2 e0 e1 e2 e3 e4 e5 e6 e7
                gi_wp2_with (gi_at_builtin;refine wpi_app _ rfl _ _ rfl W.heap.size _ (r+1) _ rfl (HO3.out.alloc _) W3.heap.size x.se rfl (by rw [HSEV.out];simp) (by omega) (by simp;omega) ?_)
                intro v5 W5 ho5 hg5
                have HF:=Lib.hid (HLAST.out W5 v5 (by simpa [List.append_assoc] using ho5) ((HK3.out.alloc _).grown hg5 (fun k hk=>by simp [Value.ownBlock] at hk;omega)) (hI _ W3 W5 (fun k h=>by
                  have h1:=hVg k h
                  rw [hg5.block k (by simp;omega) (by simp [Value.ownBlock];omega),Below.heap_alloc _ _ _ (by omega)]) HI3.out))
                clear ho5 hg5
                gi_wp2
                gi_roundg k
                case rel=>exact HF.out
                case measure=>omega
              · gi_wp2
                refine bodyPost_ret (results_none rfl _ _ _) rfl ?_
                exact ⟨⟨_,rfl⟩,HK2.out.trans hk3,.inr ⟨_,HPF.out,hx3⟩⟩
            · have hsd2:¬ sd+1=1:=by omega
              obtain ⟨W2,hW2⟩:∃ W2,(wr.setCell ⟨g,R.length,none⟩ (.slice (some ⟨bk,bo+8,none⟩) sm sd)).alloc (.cells #[.int .i64 cx.k,.bool cx.b,.bool cx.neg,.slice cx.ma cx.mn cx.mc,.int .i64 cx.e,.string cx.s,.slice cx.ka cx.kn cx.kc,.slice cx.va cx.vn cx.vc] 29)=W2:=⟨_,rfl⟩
              have hVg:∀ k,V k→k<W.heap.size:=fun k h=>(hV k h).2.1
              have hk2:KeepB V W W2:=by rw [← hW2];exact (HKB.out.setCell (.inr hBg) _).alloc _
              have hs2:W2.heap.size=wr.heap.size+1:=by rw [← hW2];simp [World.setCell]
              have hi2:I pre W2:=hI pre wr W2 (fun k h=>by
                have:=hVg k h
                rw [← hW2,Below.heap_alloc _ _ _ (by simp [World.setCell];omega),Below.heap_setCell _ _ _ _ (by simp;omega)]) HI.out
              have hbox2:BoxT W2 wr.heap.size cx:=by
                unfold BoxT
                rw [← hW2]
                have:=heap_alloc_new (wr.setCell ⟨g,R.length,none⟩ (.slice (some ⟨bk,bo+8,none⟩) sm sd)) (.cells cx.cells.toArray 29)
                simp only [World.setCell,Array.size_modify] at this ⊢
                exact this
              have hown2:W2.ownsRow W.heap.size 27 1 (.slice (some ⟨g,0,none⟩) (R.length+1) cap) (R.length+1) (R.reverse.map SE.val++[.slice (some ⟨bk,bo+8,none⟩) sm sd]):=by
                have h1:=HSET.out (.slice (some ⟨bk,bo+8,none⟩) sm sd)
                rw [List.set_append_right _ _ (by omega),hlr,Nat.sub_self,List.set_cons_zero] at h1
                rw [← hW2];exact h1.alloc _
              have HPF:=Lib.hid (show pre++[(R.length+2,x)] <+: t.pre 1 from ⟨outR (x.v::xs::R.map SE.l),by rw [HXS.out,List.map_cons,outR_push];simp⟩)
              obtain ⟨fn2,tmps2,assign2,body2,hy2,hR2⟩:=hY pre (R.length+2,x) W2 HPF.out hk2 hi2
              simp only [encT,Cel.val,hcx] at hy2
              rw [show (((R.length+2:Nat)):Int)=(R.length:Int)+2 from rfl] at hy2
              rw [← hW2] at hy2
              have HR2:=Lib.hid hR2;have HW2:=Lib.hid hW2
              clear hR2 hW2
              have HOWN2:=Lib.hid hown2;have HBOX2:=Lib.hid hbox2;have HK2:=Lib.hid hk2
              clear hown2 hbox2 hk2 hi2
              have HLAST:=Lib.hid (fun W5 v5 (h1:W5.ownsRow W.heap.size 27 1 v5 (R.length+1+1) (R.reverse.map SE.val++[.slice (some ⟨bk,bo+8,none⟩) sm sd]++[x.se.val])) (h2:KeepB V W W5) (h3:I (pre++[(R.length+2,x)]) W5)=>(by
                refine ⟨pre++[(R.length+2,x)],x.se :: ⟨some ⟨bk,bo+8,none⟩,sm,sd,xs⟩::R,?_,?_,?_,?_,h2,h3,?_⟩
                · rw [HXS.out];simp only [List.map_cons];rw [outR_push];simp [MT.se]
                · simp only [List.map_cons] at hst ⊢;rw [stepsR_push] at hst;show stepsR (x.v::xs::_)≤k;omega
                · simpa [SE.val] using h1
                · intro y hy
                  rcases List.mem_cons.1 hy with rfl | hy
                  · exact MT.se_ok hxrep
                  · rcases List.mem_cons.1 hy with rfl | hy
                    · exact ⟨hxl,by show sm≤sd;omega,by have:=HSOK.out.lm;simp only at this;show sm≤_;omega,hrdt,fun y hy=>HSOK.out.rp y (by simp [hy])⟩
                    · exact HOK.out y (by simp [hy])
                · simp only [List.length_cons,List.length_append,List.length_nil];omega:AR w00 (t.pre 1) V I W k v5 W5))
              have hsev:x.se.val=.slice cx.va cx.vn cx.vc:=by rw [← hcx];rfl
              have HSEV:=Lib.hid hsev
              clear hsev
              have e0r:(R.length:Int)<((R.length:Int)+1):=by omega
              generalize hr:R.length=r at *
              have HRR:=Lib.hid hr;clear hr
              gi_wp2
              rw [HW2.out]
              refine HR2.out.mono ?_
              rintro e W3 (⟨rfl,hk3,hi3⟩ | ⟨rfl,hk3,hx3⟩)
              · have hnb:¬ V wr.heap.size:=fun h=>by have:=hVg _ h;omega
                have hng:¬ V g:=fun h=>by have:=hVg _ h;omega
                have hb3:=HBOX2.out.on (hk3.block _ (by rw [hs2];omega) hnb)
                obtain ⟨_,_,_,_,_,_,_,g7⟩:=hb3.cells
                have ho3:=own_same HOWN2.out (w':=W3) (fun k hk hlt=>by
                  simp [Value.ownBlock] at hk;subst hk
                  exact hk3.block _ hlt hng)
                have HO3:=Lib.hid ho3;have HK3:=Lib.hid (HK2.out.trans hk3);have HI3:=Lib.hid hi3
                have hs3:=HK3.out.size
                clear hb3 ho3 hk3 hi3 hy2 e0 e1 e2 e3 e4 e5 e6 e7
                gi_wp2_with (gi_at_builtin;refine wpi_app _ rfl _ _ rfl W.heap.size _ (r+1) _ rfl (HO3.out.alloc _) W3.heap.size x.se rfl (by rw [HSEV.out];simp) (by omega) (by simp;omega) ?_)
                intro v5 W5 ho5 hg5
                have HF:=Lib.hid (HLAST.out W5 v5 (by simpa [List.append_assoc] using ho5) ((HK3.out.alloc _).grown hg5 (fun k hk=>by simp [Value.ownBlock] at hk;omega)) (hI _ W3 W5 (fun k h=>by
                  have h1:=hVg k h
                  rw [hg5.block k (by simp;omega) (by simp [Value.ownBlock];omega),Below.heap_alloc _ _ _ (by omega)]) HI3.out))
                clear ho5 hg5
                gi_wp2
                gi_roundg k
                case rel=>exact HF.out
                case measure=>omega
              · gi_wp2
                refine bodyPost_ret (results_none rfl _ _ _) rfl ?_
                exact ⟨⟨_,rfl⟩,HK2.out.trans hk3,.inr ⟨_,HPF.out,hx3⟩⟩
  · gi_wp2
    refine bodyPost_ret (results_none rfl _ _ _) rfl ?_
    exact ⟨⟨_,rfl⟩,hk1,.inr ⟨[(1,t)],⟨outR [t.v],by rw [outR_start];rfl⟩,hx1⟩⟩
def blankB (c:Cel):Bool:=!c.b && (!c.neg && (decide (c.mn=0) && (decide (c.e=0) && (decide (c.s.size=0) && (decide (c.kn=0) && decide (c.vn=0))))))
theorem nat_beq0 {n:Nat} (h:n=0):((n:Int) == 0)=true:=by subst h;rfl
theorem nat_bne0 {n:Nat} (h:¬ n=0):((n:Int) == 0)=false:=by rw [beq_eq_false_iff_ne];omega
theorem blank_any (c:Cel) (w:World) (hs:c.s.size≤maxLen) :
    Calls Tryz.prog 105 #[c.val] w (BoolBelow (blankB c) w):=by
  unfold maxLen at hs
  obtain ⟨k,b,neg,ma,mn,mc,e,s,ka,kn,kc,va,vn,vc⟩:=c
  unfold blankB Cel.val
  simp only at hs ⊢
  have HB:=Lib.hid (((Below.refl w.heap.size w).alloc (Nat.le_refl _) (.cells #[.int .i64 k,.bool b,.bool neg,.slice ma mn mc,.int .i64 e,.string s,.slice ka kn kc,.slice va vn vc] 29)).alloc (by simp) (.cells #[.bool neg,.slice ma mn mc,.int .i64 e] 25))
  cases b
  · cases neg
    · by_cases h1:mn=0
      · have d1:=nat_beq0 h1
        have D1:=Lib.hid (decide_eq_true h1)
        by_cases h2:e=0
        · have d2:(e == 0)=true:=by rw [h2];rfl
          have D2:=Lib.hid (decide_eq_true h2)
          by_cases h3:s.size=0
          · have e3:s=⟨#[]⟩:=by apply ByteArray.ext;apply Array.eq_empty_of_size_eq_zero;exact h3
            have D3:=Lib.hid (decide_eq_true h3)
            by_cases h4:kn=0
            · have d4:=nat_beq0 h4
              have D4:=Lib.hid (decide_eq_true h4)
              by_cases h5:vn=0
              · have d5:=nat_beq0 h5
                have D5:=Lib.hid (decide_eq_true h5)
                rw [D1.out,D2.out,D3.out,D4.out,D5.out]
                subst e3 h1 h2 h4 h5
                clear h3 d1 d2 d4 d5 hs
                go_enter Tryz.func105,Tryz.ntmps105
                go_wp2
                go_ret
                exact BoolBelow.mk rfl HB.out
              · have d5:=nat_bne0 h5
                have D5:=Lib.hid (decide_eq_false h5)
                rw [D1.out,D2.out,D3.out,D4.out,D5.out]
                subst e3 h1 h2 h4
                clear h3 d1 d2 d4 hs h5
                go_enter Tryz.func105,Tryz.ntmps105
                go_wp2
                go_ret
                exact BoolBelow.mk rfl HB.out
            · have d4:=nat_bne0 h4
              have D4:=Lib.hid (decide_eq_false h4)
              rw [D1.out,D2.out,D3.out,D4.out]
              subst e3 h1 h2
              clear h3 d1 d2 hs h4
              go_enter Tryz.func105,Tryz.ntmps105
              go_wp2
              go_ret
              exact BoolBelow.mk rfl HB.out
          · have D3:=Lib.hid (decide_eq_false h3)
            have d3:s.toList.isEmpty=false:=by
              rw [Lib.toList_data]
              cases h:s.data.toList with
              | nil=>exact absurd (by have:=congrArg List.length h;simpa using this) h3
              | cons _ _=>rfl
            rw [D1.out,D2.out,D3.out]
            subst h1 h2
            clear d1 d2 h3
            go_enter Tryz.func105,Tryz.ntmps105
            go_wp2
            go_ret
            exact BoolBelow.mk rfl HB.out
        · have d2:(e == 0)=false:=by rw [beq_eq_false_iff_ne];exact h2
          have D2:=Lib.hid (decide_eq_false h2)
          rw [D1.out,D2.out]
          subst h1
          clear d1 h2
          go_enter Tryz.func105,Tryz.ntmps105
          go_wp2
          go_ret
          exact BoolBelow.mk rfl HB.out
      · have d1:=nat_bne0 h1
        have D1:=Lib.hid (decide_eq_false h1)
        rw [D1.out]
        clear h1
        go_enter Tryz.func105,Tryz.ntmps105
        go_wp2
        go_ret
        exact BoolBelow.mk rfl HB.out
    · go_enter Tryz.func105,Tryz.ntmps105
      go_wp2
      go_ret
      exact BoolBelow.mk rfl HB.out
  · go_enter Tryz.func105,Tryz.ntmps105
    go_wp2
    go_ret
    exact BoolBelow.mk rfl HB.out
end Go.Proofs.YtnacbakcalcgaaaGreatDoor
namespace Go.Proofs.YtnacbakcalcgaaaGreatDoor
structure Sto {K:Type} (lt:K→K→Bool):Prop where
  irr:∀ a,lt a a=false
  tr:∀ a b c,lt a b=true→lt b c=true→lt a c=true
  tot:∀ a b,lt a b=true∨a=b∨lt b a=true
theorem Sto.asym {K:Type} {lt:K→K→Bool} (h:Sto lt) {a b:K} (x:lt a b=true):lt b a=false:=by
  cases y:lt b a
  · rfl
  · have:=h.tr _ _ _ x y;rw [h.irr] at this;cases this
theorem bytesLess_irr:∀ a:List UInt8,Op.bytesLess a a=false
  | []=>rfl
  | x::a=>by
    simp only [Op.bytesLess,bytesLess_irr a,Bool.and_false,Bool.or_false,decide_eq_false_iff_not]
    exact UInt8.lt_irrefl x
theorem bytesLess_cons (x y:UInt8) (a b:List UInt8):Op.bytesLess (x::a) (y::b)=true ↔ x<y∨(x=y∧Op.bytesLess a b=true):=by
  simp [Op.bytesLess]
theorem bytesLess_tr:∀ a b c:List UInt8,Op.bytesLess a b=true→Op.bytesLess b c=true→Op.bytesLess a c=true
  | [],[],_,h,_=>by simp [Op.bytesLess] at h
  | [],_::_,[],_,k=>by simp [Op.bytesLess] at k
  | [],_::_,_::_,_,_=>rfl
  | _::_,[],_,h,_=>by simp [Op.bytesLess] at h
  | _::_,_::_,[],_,k=>by simp [Op.bytesLess] at k
  | x::a,y::b,z::c,h,k=>by
    rw [bytesLess_cons] at h k ⊢
    rcases h with h | ⟨h,h'⟩
    · rcases k with k | ⟨k,k'⟩
      · exact .inl (UInt8.lt_trans h k)
      · exact .inl (k ▸ h)
    · rcases k with k | ⟨k,k'⟩
      · exact .inl (h ▸ k)
      · exact .inr ⟨h.trans k,bytesLess_tr a b c h' k'⟩
theorem bytesLess_tot:∀ a b:List UInt8,Op.bytesLess a b=true∨a=b∨Op.bytesLess b a=true
  | [],[]=>.inr (.inl rfl)
  | [],_::_=>.inl rfl
  | _::_,[]=>.inr (.inr rfl)
  | x::a,y::b=>by
    rw [bytesLess_cons,bytesLess_cons]
    rcases UInt8.lt_or_lt_of_ne (a:=x) (b:=y) |> fun f=>(Classical.em (x=y)).imp id f with h | h
    · subst h
      rcases bytesLess_tot a b with k | k | k
      · exact .inl (.inr ⟨rfl,k⟩)
      · exact .inr (.inl (by rw [k]))
      · exact .inr (.inr (.inr ⟨rfl,k⟩))
    · rcases h with h | h
      · exact .inl (.inl h)
      · exact .inr (.inr (.inl h))
theorem sto_bytes:Sto Op.bytesLess:=⟨bytesLess_irr,bytesLess_tr,bytesLess_tot⟩
section
variable {K : Type} [DecidableEq K]
def leI (lt:K→K→Bool) (key:Nat→K) (i j:Nat):Bool:=lt (key i) (key j) || (decide (key i=key j) && decide (i≤j))
theorem leI_iff (lt:K→K→Bool) (key:Nat→K) (i j:Nat):leI lt key i j=true ↔ lt (key i) (key j)=true∨(key i=key j∧i≤j):=by simp [leI]
theorem leI_tr {lt:K→K→Bool} (h:Sto lt) (key:Nat→K) (a b c:Nat):leI lt key a b=true→leI lt key b c=true→leI lt key a c=true:=by
  rw [leI_iff,leI_iff,leI_iff]
  rintro (x | ⟨x,x'⟩) (y | ⟨y,y'⟩)
  · exact .inl (h.tr _ _ _ x y)
  · exact .inl (y ▸ x)
  · exact .inl (x ▸ y)
  · exact .inr ⟨x.trans y,by omega⟩
theorem leI_tot {lt:K→K→Bool} (h:Sto lt) (key:Nat→K) (a b:Nat):(leI lt key a b || leI lt key b a)=true:=by
  rw [Bool.or_eq_true,leI_iff,leI_iff]
  rcases h.tot (key a) (key b) with x | x | x
  · exact .inl (.inl x)
  · rcases Nat.le_total a b with y | y
    · exact .inl (.inr ⟨x,y⟩)
    · exact .inr (.inr ⟨x.symm,y⟩)
  · exact .inr (.inl x)
theorem leI_anti {lt:K→K→Bool} (h:Sto lt) (key:Nat→K) {a b:Nat} (x:leI lt key a b=true) (y:leI lt key b a=true):a=b:=by
  rw [leI_iff] at x y
  rcases x with x | ⟨x,x'⟩ <;> rcases y with y | ⟨y,y'⟩
  · have:=h.asym x;rw [y] at this;cases this
  · rw [y,h.irr] at x;cases x
  · rw [x,h.irr] at y;cases y
  · omega
theorem leI_lt {lt:K→K→Bool} (h:Sto lt) (key:Nat→K) {i j:Nat} (hij:i<j):leI lt key i j = !lt (key j) (key i):=by
  rw [Bool.eq_iff_iff,leI_iff,Bool.not_eq_true']
  constructor
  · rintro (x | ⟨x,_⟩)
    · exact h.asym x
    · rw [x];exact h.irr _
  · intro x
    rcases h.tot (key i) (key j) with y | y | y
    · exact .inl y
    · exact .inr ⟨y,by omega⟩
    · rw [x] at y;cases y
def srt (lt:K→K→Bool) (key:Nat→K) (s len:Nat):List Nat:=(List.range' s len).mergeSort (leI lt key)
theorem srt_perm (lt:K→K→Bool) (key:Nat→K) (s len:Nat):(srt lt key s len).Perm (List.range' s len):=List.mergeSort_perm _ _
theorem srt_len (lt:K→K→Bool) (key:Nat→K) (s len:Nat):(srt lt key s len).length=len:=by
  rw [(srt_perm lt key s len).length_eq,List.length_range']
theorem srt_mem {lt:K→K→Bool} {key:Nat→K} {s len x:Nat}:x∈srt lt key s len ↔ s≤x∧x<s+len:=by
  rw [(srt_perm lt key s len).mem_iff,List.mem_range'_1]
theorem srt_sorted {lt:K→K→Bool} (h:Sto lt) (key:Nat→K) (s len:Nat):(srt lt key s len).Pairwise fun a b=>leI lt key a b=true :=
  List.pairwise_mergeSort (leI_tr h key) (leI_tot h key) _
theorem srt_unique {lt:K→K→Bool} (h:Sto lt) (key:Nat→K) (s len:Nat) (l:List Nat) (hp:l.Perm (List.range' s len)) (hs:l.Pairwise fun a b=>leI lt key a b=true):l=srt lt key s len :=
  List.Perm.eq_of_pairwise (fun a b _ _ x y=>leI_anti h key x y) hs (srt_sorted h key s len) (hp.trans (srt_perm lt key s len).symm)
theorem srt_zero (lt:K→K→Bool) (key:Nat→K) (s:Nat):srt lt key s 0=[]:=by simp [srt]
theorem srt_one (lt:K→K→Bool) (key:Nat→K) (s:Nat):srt lt key s 1=[s]:=by simp [srt,List.range']
theorem srt_merge {lt:K→K→Bool} (h:Sto lt) (key:Nat→K) (s a b:Nat):(srt lt key s a).merge (srt lt key (s+a) b) (leI lt key)=srt lt key s (a+b):=by
  apply srt_unique h
  · refine (List.merge_perm_append _).trans ?_
    refine ((srt_perm lt key s a).append (srt_perm lt key (s+a) b)).trans ?_
    have:=@List.range'_append s a b 1
    rw [Nat.one_mul] at this;rw [this]
  · exact List.pairwise_merge (leI_tr h key) (leI_tot h key) _ _ (srt_sorted h key s a) (srt_sorted h key (s+a) b)
def mrg (lt:K→K→Bool) (key:Nat→K) (A B:List Nat):List Nat:=A.merge B (leI lt key)
theorem mrg_nil_left (lt:K→K→Bool) (key:Nat→K) (B:List Nat):mrg lt key [] B=B:=by simp [mrg]
theorem mrg_nil_right (lt:K→K→Bool) (key:Nat→K) (A:List Nat):mrg lt key A []=A:=by simp [mrg]
theorem mrg_left {lt:K→K→Bool} {key:Nat→K} {x y:Nat} {A B:List Nat} (h:leI lt key x y=true):mrg lt key (x::A) (y::B)=x::mrg lt key A (y::B):=by
  unfold mrg;rw [List.cons_merge_cons,if_pos h]
theorem mrg_right {lt:K→K→Bool} {key:Nat→K} {x y:Nat} {A B:List Nat} (h:leI lt key x y=false):mrg lt key (x::A) (y::B)=y::mrg lt key (x::A) B:=by
  unfold mrg;rw [List.cons_merge_cons,if_neg (by rw [h];exact Bool.false_ne_true)]
theorem mrg_len (lt:K→K→Bool) (key:Nat→K) (A B:List Nat):(mrg lt key A B).length=A.length+B.length:=by
  unfold mrg;rw [(List.merge_perm_append _).length_eq,List.length_append]
def Runs (lt:K→K→Bool) (key:Nat→K) (r n:Nat) (p:Nat) (F:List Nat):Prop :=
  F.length=n∧∀ k,k*r<p→k*r<n→(F.drop (k*r)).take r=srt lt key (k*r) (min r (n - k*r))
theorem Runs.start (lt:K→K→Bool) (key:Nat→K) (n:Nat):Runs lt key 1 n n (List.range n):=by
  refine ⟨List.length_range,fun k _ hk=>?_⟩
  rw [Nat.mul_one] at hk ⊢
  rw [Nat.min_eq_left (by omega),srt_one,List.drop_eq_getElem_cons (by simpa using hk)]
  simp
theorem Runs.done {lt:K→K→Bool} {key:Nat→K} {r n:Nat} {F:List Nat} (h:Runs lt key r n n F) (hr:n≤r):F=srt lt key 0 n:=by
  obtain ⟨h1,h2⟩:=h
  rcases Nat.eq_zero_or_pos n with h0 | h0
  · subst h0;rw [srt_zero];exact List.eq_nil_of_length_eq_zero h1
  · have:=h2 0 (by omega) (by omega)
    rw [Nat.zero_mul,List.drop_zero,List.take_of_length_le (by omega),Nat.sub_zero,Nat.min_eq_right hr] at this
    exact this
theorem Runs.empty (lt:K→K→Bool) (key:Nat→K) (r n:Nat) (T:List Nat) (h:T.length=n):Runs lt key r n 0 T:=⟨h,fun k hk=>absurd hk (by omega)⟩
theorem Runs.step {lt:K→K→Bool} (hs:Sto lt) {key:Nat→K} {r n k:Nat} {F T:List Nat} (hr:0<r) (h:Runs lt key r n n F) (ht:Runs lt key (2*r) n (k*(2*r)) T) (hk:k*(2*r)<n) :
    Runs lt key (2*r) n ((k+1)*(2*r)) (T.take (k*(2*r))++mrg lt key ((F.drop (k*(2*r))).take (min (k*(2*r)+r) n - k*(2*r))) ((F.drop (min (k*(2*r)+r) n)).take (min (k*(2*r)+2*r) n - min (k*(2*r)+r) n))++T.drop (min (k*(2*r)+2*r) n)):=by
  obtain ⟨f1,f2⟩:=h
  obtain ⟨t1,t2⟩:=ht
  have e2:k*(2*r)=(2*k)*r:=by rw [← Nat.mul_assoc,Nat.mul_comm k 2]
  have a1:=f2 (2*k) (by omega) (by omega)
  rw [← e2] at a1
  have eA:(F.drop (k*(2*r))).take (min (k*(2*r)+r) n - k*(2*r))=srt lt key (k*(2*r)) (min r (n - k*(2*r))):=by
    rw [← a1]
    by_cases hm:k*(2*r)+r≤n
    · rw [Nat.min_eq_left hm,Nat.add_sub_cancel_left]
    · rw [Nat.min_eq_right (by omega),List.take_of_length_le (by rw [List.length_drop];omega),List.take_of_length_le (by rw [List.length_drop];omega)]
  have eB:(F.drop (min (k*(2*r)+r) n)).take (min (k*(2*r)+2*r) n - min (k*(2*r)+r) n)=srt lt key (k*(2*r)+min r (n - k*(2*r))) (min (2*r) (n - k*(2*r)) - min r (n - k*(2*r))):=by
    by_cases hm:k*(2*r)+r<n
    · have e3:k*(2*r)+r=(2*k+1)*r:=by rw [Nat.add_mul,Nat.one_mul,← e2]
      have a2:=f2 (2*k+1) (by omega) (by omega)
      rw [← e3] at a2
      rw [Nat.min_eq_left (show k*(2*r)+r≤n by omega),Nat.min_eq_left (show r≤n - k*(2*r) by omega)]
      rw [show min (2*r) (n - k*(2*r)) - r=min r (n - (k*(2*r)+r)) by omega,← a2]
      by_cases hm2:k*(2*r)+2*r≤n
      · rw [Nat.min_eq_left hm2];congr 1;omega
      · rw [Nat.min_eq_right (show n≤k*(2*r)+2*r by omega),List.take_of_length_le (by rw [List.length_drop];omega),List.take_of_length_le (by rw [List.length_drop];omega)]
    · rw [show min (2*r) (n - k*(2*r)) - min r (n - k*(2*r))=0 by omega,srt_zero]
      rw [show min (k*(2*r)+2*r) n - min (k*(2*r)+r) n=0 by omega,List.take_zero]
  have eM:mrg lt key ((F.drop (k*(2*r))).take (min (k*(2*r)+r) n - k*(2*r))) ((F.drop (min (k*(2*r)+r) n)).take (min (k*(2*r)+2*r) n - min (k*(2*r)+r) n))=srt lt key (k*(2*r)) (min (2*r) (n - k*(2*r))):=by
    rw [eA,eB];unfold mrg;rw [srt_merge hs];congr 1;omega
  rw [eM]
  generalize hS:srt lt key (k*(2*r)) (min (2*r) (n - k*(2*r)))=S
  have lS:S.length=min (2*r) (n - k*(2*r)):=by rw [← hS];exact srt_len _ _ _ _
  refine ⟨by simp [lS,t1];omega,fun j hj hjn=>?_⟩
  have hle:j≤k:=by
    rcases Nat.lt_or_ge k j with h | h
    · have:=Nat.mul_le_mul_right (2*r) (show k+1≤j by omega);omega
    · exact h
  rcases Nat.lt_or_ge j k with h | h
  · have hj2:=Nat.mul_le_mul_right (2*r) (show j+1≤k by omega)
    rw [Nat.add_mul,Nat.one_mul] at hj2
    rw [← t2 j (by omega) hjn,List.append_assoc,List.drop_append_of_le_length (by rw [List.length_take];omega),List.take_append_of_le_length (by rw [List.length_drop,List.length_take];omega),List.drop_take,List.take_take,Nat.min_eq_left (by omega)]
  · obtain rfl:j=k:=by omega
    rw [List.append_assoc,List.drop_append,List.drop_of_length_le (by rw [List.length_take];omega),List.nil_append,List.length_take,t1,Nat.min_eq_left (by omega),Nat.sub_self,List.drop_zero,hS]
    by_cases hm:j*(2*r)+2*r≤n
    · rw [List.take_append_of_le_length (by omega),List.take_of_length_le (by omega)]
    · rw [Nat.min_eq_right (by omega),List.drop_of_length_le (by omega),List.append_nil,List.take_of_length_le (by omega)]
theorem Runs.mono {lt:K→K→Bool} {key:Nat→K} {r n p q:Nat} {F:List Nat} (h:Runs lt key r n p F) (hq:n≤p):Runs lt key r n q F:=⟨h.1,fun k _ hn=>h.2 k (by omega) hn⟩
end
end Go.Proofs.YtnacbakcalcgaaaGreatDoor
namespace Go.Proofs.YtnacbakcalcgaaaGreatDoor
open Go.RowKit Go.Shelf
def okN (s:ByteArray):Bool:=decide (s.size≤2000) && validL s.data.toList
def ltS (a b:ByteArray):Bool:=Op.bytesLess a.toList b.toList
theorem ltS_yes {x y:ByteArray} (h:ltS y x=true):Op.bytesLess x.toList y.toList=false∧(x.toList == y.toList)=false:=by
  refine ⟨?_,?_⟩
  · cases h2:Op.bytesLess x.toList y.toList
    · rfl
    · have:=bytesLess_tr _ _ _ h h2;rw [bytesLess_irr] at this;cases this
  · rw [beq_eq_false_iff_ne];intro e
    unfold ltS at h;rw [e,bytesLess_irr] at h;cases h
theorem ltS_no {x y:ByteArray} (h:ltS y x=false):Op.bytesLess x.toList y.toList=true∨(Op.bytesLess x.toList y.toList=false∧(x.toList == y.toList)=true):=by
  rcases bytesLess_tot x.toList y.toList with h1 | h1 | h1
  · exact .inl h1
  · exact .inr ⟨by rw [h1,bytesLess_irr],by rw [h1];simp⟩
  · unfold ltS at h;rw [h1] at h;cases h
def nameAt (l:List ByteArray) (i:Nat):Bool:=okN (l.getD i ByteArray.empty) && (decide (i=0) || ltS (l.getD (i - 1) ByteArray.empty) (l.getD i ByteArray.empty))
def risesB (l:List ByteArray):Bool:=(List.range l.length).all (nameAt l)
theorem risesB_iff {l:List ByteArray}:risesB l=true ↔ ∀ i,i<l.length→nameAt l i=true:=by
  unfold risesB;rw [List.all_eq_true];simp
theorem risesB_no {l:List ByteArray} {i:Nat} (hi:i<l.length) (h:nameAt l i=false):risesB l=false:=by
  cases hb:risesB l
  · rfl
  · rw [risesB_iff.1 hb i hi] at h;cases h
def NR (l:List ByteArray) (w:World) (k:Nat) (i:Value) (wr:World):Prop :=
  ∃ j:Nat,j≤l.length∧l.length - j≤k∧i=.int .i64 (j:Int)∧(∀ q,q<j→nameAt l q=true)∧Below w.heap.size w wr
theorem namesRise_any (ad:Option Addr) (n cap:Nat) (l:List ByteArray) (w:World) (hl:l.length=n) (hcap:n≤cap) (hm:n≤1000000000000000) (hr:RdV w ad (sv l)) (hz:∀ s∈l,s.size≤maxLen) (hT:UT w) :
    Calls Tryz.prog 104 #[.slice ad n cap] w (BoolBelow (risesB l) w):=by
  have HL:=Lib.hid hl
  have HRD:=Lib.hid (fun W (h:Below w.heap.size w W)=>hr.on h)
  have HZ:=Lib.hid hz
  have HUT:=Lib.hid (fun W (h:Below w.heap.size w W)=>hT.below h)
  clear hl hr hz hT
  have HST:=Lib.hid (show NR l w n (.int .i64 0) w from ⟨0,Nat.zero_le _,by rw [HL.out];omega,rfl,fun q h=>by omega,Below.refl _ _⟩)
  go_enter Tryz.func104,Tryz.ntmps104
  go_wp2
  go_loopg [7] n (fun k i wr=>NR l w k i wr)
  case atStart=>exact HST.out
  case round =>
    obtain ⟨j,hj,hk,rfl,hpre,hb⟩:=hrel
    rw [HL.out] at hj hk
    have HP:=Lib.hid hpre;have HB:=Lib.hid hb
    clear hpre hb
    by_cases hlt:j<n
    · obtain ⟨k,rfl⟩:∃ k,gk=k+1:=⟨gk - 1,by omega⟩
      have hjz:(j:Int)<(n:Int):=by omega
      have hjl:j<l.length:=by rw [HL.out];exact hlt
      obtain ⟨b,o,rfl,hbl,hc⟩:=HRD.out wr HB.out j (by rw [sv_len];exact hjl)
      rw [sv_get _ _ hjl] at hc
      have hz:=HZ.out (l.getD j ByteArray.empty) (by simp [List.getD,hjl])
      have HNX:=Lib.hid (fun W (h:Below w.heap.size w W) (hn:nameAt l j=true)=>(show NR l w k (.int .i64 ((j:Int)+1)) W from
        ⟨j+1,by rw [HL.out];omega,by rw [HL.out];omega,rfl,fun q hq=>by
          by_cases e:q=j
          · subst e;exact hn
          · exact HP.out q (by omega),h⟩))
      have HNO:=Lib.hid (fun (hn:nameAt l j=false)=>risesB_no hjl hn)
      have KV:=Lib.hid (fun W (h:Below w.heap.size w W)=>valid_any (l.getD j ByteArray.empty) W hz (HUT.out W h))
      have HPR:=Lib.hid (fun W (h:Below w.heap.size w W) (h0:0<j)=>(by
        obtain ⟨b',o',e,_,hc⟩:=HRD.out W h (j - 1) (by rw [sv_len];omega)
        cases e
        rw [sv_get _ _ (by omega)] at hc;exact hc:W.cell? ⟨b,o+(j - 1),none⟩=some (.string (l.getD (j - 1) ByteArray.empty))))
      have HNA:=Lib.hid (show nameAt l j=(okN (l.getD j ByteArray.empty) && (decide (j=0) || ltS (l.getD (j - 1) ByteArray.empty) (l.getD j ByteArray.empty))) from rfl)
      have hz2:=HZ.out
      generalize l.getD j ByteArray.empty=x at *
      clear hz2
      unfold maxLen at hz
      by_cases hs:x.size≤2000
      · have d1:¬ (2000:Int)<(x.size:Int):=by omega
        cases hv:validL x.data.toList
        · have HF:=Lib.hid (HNO.out (by rw [HNA.out];unfold okN;rw [hv];simp))
          rw [hv] at KV
          clear hv
          go_wp2_with fail
          refine (KV.out _ HB.out).mono ?_
          rintro r w1 ⟨rfl,h1⟩
          have H1:=Lib.hid (below_on HB.out h1);clear h1
          go_wp2
          go_ret
          rw [HF.out]
          exact BoolBelow.mk rfl H1.out
        · have HOK:=Lib.hid (show okN x=true by unfold okN;rw [hv,decide_eq_true hs];rfl)
          rw [hv] at KV
          clear hv
          by_cases h0:j=0
          · have HY:=Lib.hid (HNO.out)
            have HT:=Lib.hid (show nameAt l j=true by rw [HNA.out,HOK.out,decide_eq_true h0];rfl)
            have d2:¬ 0<(j:Int):=by omega
            clear h0
            go_wp2_with fail
            refine (KV.out _ HB.out).mono ?_
            rintro r w1 ⟨rfl,h1⟩
            have H1:=Lib.hid (HNX.out _ (below_on HB.out h1) HT.out);clear h1
            go_wp2
            go_roundg k
            case rel=>exact H1.out
            case measure=>omega
          · have d2:0<(j:Int):=by omega
            have hj0:0<j:=by omega
            have hj1:(1:Int)≤(j:Int):=by omega
            obtain ⟨j',rfl⟩:∃ j',j=j'+1:=⟨j - 1,by omega⟩
            generalize hy:l.getD (j'+1 - 1) ByteArray.empty=y at *
            have hne:decide (j'+1=0)=false:=decide_eq_false (by omega)
            rw [hne,Bool.false_or] at HNA
            clear hne hy
            cases hc:ltS y x
            · have HF:=Lib.hid (HNO.out (by rw [HNA.out,HOK.out,hc];rfl))
              rcases ltS_no hc with e1 | ⟨e1,e2⟩
              all_goals
                clear hc
                go_wp2_with fail
                refine (KV.out _ HB.out).mono ?_
                rintro r w1 ⟨rfl,h1⟩
                have H1:=Lib.hid (below_on HB.out h1);clear h1
                have hc1:=HPR.out w1 H1.out hj0
                simp only [Nat.add_sub_cancel] at hc1
                go_wp2
                go_ret
                rw [HF.out]
                exact BoolBelow.mk rfl H1.out
            · obtain ⟨e1,e2⟩:=ltS_yes hc
              have HT:=Lib.hid (show nameAt l (j'+1)=true by rw [HNA.out,HOK.out,hc];rfl)
              clear hc
              go_wp2_with fail
              refine (KV.out _ HB.out).mono ?_
              rintro r w1 ⟨rfl,h1⟩
              have H1:=Lib.hid (below_on HB.out h1)
              have hc1:=HPR.out w1 H1.out hj0
              simp only [Nat.add_sub_cancel] at hc1
              have H2:=Lib.hid (HNX.out _ H1.out HT.out);clear h1
              go_wp2
              go_roundg k
              case rel=>exact H2.out
              case measure=>omega
      · have d1:(2000:Int)<(x.size:Int):=by omega
        have HF:=Lib.hid (HNO.out (by rw [HNA.out];unfold okN;rw [decide_eq_false hs];rfl))
        clear hs
        go_wp2
        go_ret
        rw [HF.out]
        exact BoolBelow.mk rfl HB.out
    · have hjz:¬ (j:Int)<(n:Int):=by omega
      have HF:=Lib.hid (show risesB l=true from risesB_iff.2 (fun q hq=>HP.out q (by rw [HL.out] at hq;omega)))
      go_wp2
      go_ret
      rw [HF.out]
      exact BoolBelow.mk rfl HB.out
end Go.Proofs.YtnacbakcalcgaaaGreatDoor
