/- Texts of the claim. -/
import Derived.Test.YtnacbakcalcgaaaGreatDoorEl
import Derived.RangeFuncNested
import Derived.RangeFuncBound
import Derived.RangeFuncCalls
import Derived.RangeFuncLeaves
import Derived.Shelf.Abstract
import Derived.Shelf.RegionOpen
import Derived.OwnWalkIn
import Derived.TacticsInMore
import Derived.LoopNIn
import Derived.LoopIn
import Derived.Sort.LoopGhostIn
set_option linter.unusedVariables false
set_option linter.unusedSimpArgs false
set_option maxHeartbeats 4000000
set_option maxRecDepth 100000
namespace Go.Proofs.YtnacbakcalcgaaaGreatDoor
open Go.RowKit Go.Shelf
structure KeepB (V:Nat→Prop) (w w':World):Prop where
  os:w'.os=w.os
  tape:w'.tape=w.tape
  output:w'.output=w.output
  size:w.heap.size≤w'.heap.size
  block:∀ k,k<w.heap.size→¬ V k→w'.heap[k]? = w.heap[k]?
theorem KeepB.refl (V:Nat→Prop) (w:World):KeepB V w w:=⟨rfl,rfl,rfl,Nat.le_refl _,fun _ _ _=>rfl⟩
theorem KeepB.trans {V:Nat→Prop} {a b c:World} (h:KeepB V a b) (k:KeepB V b c):KeepB V a c :=
  ⟨k.os.trans h.os,k.tape.trans h.tape,k.output.trans h.output,Nat.le_trans h.size k.size,fun i hi hn=>(k.block i (Nat.lt_of_lt_of_le hi h.size) hn).trans (h.block i hi hn)⟩
theorem KeepB.more {V V':Nat→Prop} {a b:World} (h:KeepB V a b) (hv:∀ k,V k→V' k):KeepB V' a b :=
  ⟨h.os,h.tape,h.output,h.size,fun k hk hn=>h.block k hk (fun e=>hn (hv k e))⟩
theorem KeepB.of_below {V:Nat→Prop} {a b:World} (h:Below a.heap.size a b):KeepB V a b:=⟨h.os,h.tape,h.output,h.size,fun k hk _=>h.block k hk⟩
theorem KeepB.alloc {V:Nat→Prop} {a w:World} (h:KeepB V a w) (o:Obj):KeepB V a (w.alloc o):=h.trans (KeepB.of_below ((Below.refl _ w).alloc (Nat.le_refl _) o))
theorem KeepB.drewN {V:Nat→Prop} {a w:World} (h:KeepB V a w) (n:Nat):KeepB V a (w.drewN n):=h.trans ⟨rfl,rfl,rfl,Nat.le_refl _,fun _ _ _=>rfl⟩
theorem KeepB.drew {V:Nat→Prop} {a w:World} (h:KeepB V a w):KeepB V a w.drew:=h.trans ⟨rfl,rfl,rfl,Nat.le_refl _,fun _ _ _=>rfl⟩
theorem KeepB.setCell {V:Nat→Prop} {a w:World} (h:KeepB V a w) {p:Addr} (hp:V p.block∨a.heap.size≤p.block) (u:Value):KeepB V a (w.setCell p u):=by
  refine ⟨h.os,h.tape,h.output,by simp [World.setCell];exact h.size,fun k hk hn=>?_⟩
  rw [Below.heap_setCell _ _ _ _ (by rintro rfl;rcases hp with hp | hp;exact hn hp;omega)]
  exact h.block k hk hn
theorem KeepB.putObj {V:Nat→Prop} (w:World) {l:Nat} (hl:V l) (o:Obj):KeepB V w (w.putObj l o) :=
  ⟨rfl,rfl,rfl,by simp,fun k hk hn=>World.putObj_heap_other (by rintro rfl;exact hn hl)⟩
theorem KeepB.below {V:Nat→Prop} {w w':World} (h:KeepB V w w') {B:Nat} (hB:B≤w.heap.size) (hv:∀ k,V k→B≤k):Below B w w' :=
  ⟨h.os,h.tape,h.output,h.size,fun k hk=>h.block k (by omega) (fun e=>by have:=hv k e;omega)⟩
theorem KeepB.cell {V:Nat→Prop} {w w':World} (h:KeepB V w w') {p:Addr} (hp:p.block<w.heap.size) (hn:¬ V p.block):w'.cell? p=w.cell? p:=World.cell?_of_block (w:=w) (h.block p.block hp hn)
theorem KeepB.frozen {V:Nat→Prop} {w w':World} (h:KeepB V w w') {p:Addr} (hp:p.block<w.heap.size) (hn:¬ V p.block):w'.frozen? p=w.frozen? p:=World.frozen?_of_block (w:=w) (h.block p.block hp hn)
def encT (x:Nat × MT):Array Value:=#[.int .i64 ((x.1:Nat):Int),x.2.c.val]
def On (V:Nat→Prop) (I:List (Nat × MT)→World→Prop):Prop:=∀ pre A B,(∀ k,V k→B.heap[k]? = A.heap[k]?)→I pre A→I pre B
def SeqAll (m : Nat) (g : Nat) (lb : Array Value) (xs : List (Nat × MT)) (n0 tb : Nat) (w : World) : Prop :=
  ∀ (l : Nat) (V : Nat → Prop) (I Ix : List (Nat × MT) → World → Prop) (W : World), Below w.heap.size w W → (∀ k, V k → n0 ≤ k ∧ k < W.heap.size ∧ k ≠ tb) → On V I → On V Ix → (∀ pre A, I pre A → pre.length ≤ 1000000) →
    (∀ pre x W1, pre ++ [x] <+: xs → KeepB V W W1 → I pre W1 → YieldAt Fence.wide m Tryz.prog l (encT x) W1 fun e W' =>
      (e = .returned (.bool true) ∧ KeepB V W1 W' ∧ I (pre ++ [x]) W') ∨ (e = .returned (.bool false) ∧ KeepB V W1 W' ∧ Ix (pre ++ [x]) W')) →
    I [] W →
    CallsIn Fence.wide (m + 1) Tryz.prog g (#[.func (.yield l) #[] #[]] ++ lb) W fun e W' => (∃ v, e = .returned v) ∧ KeepB V W W' ∧ (I xs W' ∨ ∃ pre, pre <+: xs ∧ Ix pre W')
def bodyPostA (V:Nat→Prop) (I:List (Nat × MT)→World→Prop) (Ix:Code→List (Nat × MT)→World→Prop) (xs:List (Nat × MT)) (W:World):Exit→Act→World→Prop
  | .normal,_,W'=>KeepB V W W'∧I xs W'
  | .ret,_,W'=>KeepB V W W'∧Ix .ret xs W'
  | .exit id,_,W'=>KeepB V W W'∧Ix (.exit id) xs W'
  | .goto t,_,W'=>KeepB V W W'∧Ix (.goto t) xs W'
  | .panic _,_,_=>False
  | .outgrown,_,_=>False
theorem wpIn_range_all {n:Nat} {g:Operand} {ps:Array Tmp} {assign body:Code} {Q:Exit→Act→World→Prop} {a:Act} {w:World} {gf:Nat} {lb:Array Value} {xs:List (Nat × MT)} {n0 tb:Nat}
    (hg:a.eval g=.func (.func gf) #[] lb) (eg:∀ args w,(callFunc gf args).run Tryz.prog w=.ok (.enter gf args) w) (hseq:SeqAll n gf lb xs n0 tb w) (hps:ps.size=2)
    (V:Nat→Prop) (hV:∀ k,V k→n0≤k∧k<w.heap.size∧k ≠ tb) (htb:tb<w.heap.size)
    (I:List (Nat × MT)→World→Prop) (Ix:Code→List (Nat × MT)→World→Prop) (hI:On V I) (hIx:∀ c,On V (Ix c)) (hN:∀ pre A,I pre A→pre.length≤1000000) (h0:I [] w)
    (Ax:Nat × MT→Act→World→Prop) (hAx:∀ x a' A B,(∀ k,k ≠ w.heap.size+1→B.heap[k]? = A.heap[k]?)→Ax x a' A→Ax x a' B) (hn0:n0≤w.heap.size)
    (hassign:∀ pre x W K,pre++[x] <+: xs→KeepB V w W→w.heap.size+2≤W.heap.size→I pre W→(∀ a' W',KeepB V W W'→I pre W'→Ax x a' W'→K a' W') →
      assign.wpIn (Fence.wide.inRound (w.heap.size+1)) n Tryz.prog (Exit.then K (fun _ _ _=>False)) { tmps:=(ps.zip (encT x)).foldl (fun t (p,v)=>t.setIfInBounds p v) a.tmps,defers:=[] } W)
    (hbody:∀ pre x a' W,pre++[x] <+: xs→KeepB V w W→I pre W→Ax x a' W→body.wpIn (Fence.wide.inRound (w.heap.size+1)) n Tryz.prog (bodyPostA V I Ix (pre++[x]) W) a' W)
    (hdone:∀ W,KeepB V w W→I xs W→W.heap[w.heap.size]? = some (.deferred (some []))→Q .normal { a with defers:={ target:=.collected w.heap.size,args:=#[] } :: a.defers } W)
    (hstop:∀ c pre W,pre <+: xs→KeepB V w W→Ix c pre W→W.heap[w.heap.size]? = some (.deferred (some []))→c.wpIn Fence.wide (n+2) Tryz.prog Q { a with defers:={ target:=.collected w.heap.size,args:=#[] } :: a.defers } W) :
    (Code.rangeFunc g ps assign body).wpIn Fence.wide (n+2) Tryz.prog Q a w:=by
  refine wpIn_rangeFunc ?_
  intro fn hfn
  obtain ⟨rec,hrec⟩:∃ rec:LoopState→Option Code→Loop,rec=fun st pe=>{ state:=st,pending:=pe,fn,tmps:=a.tmps,params:=ps,assign,body,defers:=w.heap.size }:=⟨_,rfl⟩
  obtain ⟨W1,hW1⟩:∃ W1,(w.alloc (.deferred (some []))).alloc (.loop (rec .ready none))=W1:=⟨_,rfl⟩
  have hL1:W1.heap[w.heap.size+1]? = some (.loop (rec .ready none)):=by
    rw [← hW1];have:=World.alloc_heap_new (w.alloc (.deferred (some []))) (.loop (rec .ready none));rwa [World.size_alloc] at this
  have hK1:W1.heap[w.heap.size]? = some (.deferred (some [])):=by
    rw [← hW1];exact (Below.heap_alloc _ _ _ (by simp)).trans (World.alloc_heap_new w _)
  have hS1:W1.heap.size=w.heap.size+2:=by rw [← hW1];simp
  have hb1:Below w.heap.size w W1:=by
    rw [← hW1];exact ((Below.refl _ w).alloc (Nat.le_refl _) _).alloc (by simp) _
  have hkb1:KeepB V w W1:=KeepB.of_below hb1
  have hI1:I [] W1:=hI [] w W1 (fun k hk=>hb1.block k (hV k hk).2.1) h0
  refine ⟨w.heap.size+1,[{ target:=.collected w.heap.size,args:=#[] }],W1,{ target:=.fn (.func gf) lb,args:=#[.func (.yield (w.heap.size+1)) #[] #[]] },W1,gf,
    #[.func (.yield (w.heap.size+1)) #[] #[]]++lb,W1,?_,?_,?_,?_,fun _=>by omega,?_⟩
  · rw [← hW1,hrec];exact run_enterLoop_outer _ _ _ _ _
  · simp only [resolve,hg]
    simp [go_sem]
  · intro f' hf';trivial
  · simp [invoke,go_sem,eg]
  · let V':Nat→Prop:=fun k=>V k∨k=w.heap.size∨k=w.heap.size+1
    have hVV:∀ k,V k→V' k:=fun k h=>.inl h
    have hnV:¬ V w.heap.size∧¬ V (w.heap.size+1):=⟨fun h=>by have:=(hV _ h).2.1;omega,fun h=>by have:=(hV _ h).2.1;omega⟩
    have hsq:=hseq (w.heap.size+1) V'
      (fun pre W=>I pre W∧W.heap[w.heap.size+1]? = some (.loop (rec .ready none))∧W.heap[w.heap.size]? = some (.deferred (some [])))
      (fun pre W=>∃ c,Ix c pre W∧W.heap[w.heap.size+1]? = some (.loop (rec .done (some c)))∧W.heap[w.heap.size]? = some (.deferred (some [])))
      W1 hb1
      (fun k hk=>by
        rcases hk with hk | rfl | rfl
        · have:=hV k hk;omega
        · omega
        · omega)
      (fun pre A B hk hs=>⟨hI pre A B (fun k h=>hk k (hVV k h)) hs.1,(hk _ (.inr (.inr rfl))).trans hs.2.1,(hk _ (.inr (.inl rfl))).trans hs.2.2⟩)
      (fun pre A B hk hs=>by
        obtain ⟨c,h1,h2,h3⟩:=hs
        exact ⟨c,hIx c pre A B (fun k h=>hk k (hVV k h)) h1,(hk _ (.inr (.inr rfl))).trans h2,(hk _ (.inr (.inl rfl))).trans h3⟩)
      (fun pre A hs=>hN pre A hs.1)
      ?_ ⟨hI1,hL1,hK1⟩
    · refine CallsIn.mono (F:=Fence.wide) hsq ?_
      rintro e W2 ⟨⟨v,rfl⟩,hkb,(⟨hi,hl,hk⟩ | ⟨pre,hpre,c,hi,hl,hk⟩)⟩
      · have hkw:KeepB V w (W2.putObj (w.heap.size+1) (.loop (rec .exhausted none))):=by
          refine ⟨?_,?_,?_,?_,?_⟩
          · exact hkb.os.trans hkb1.os
          · exact hkb.tape.trans hkb1.tape
          · exact hkb.output.trans hkb1.output
          · have:=hkb.size;simp;omega
          · intro k h1 h2
            rw [World.putObj_heap_other (by omega),hkb.block k (by omega) (by rintro (h | h | h);exact h2 h;omega;omega),hkb1.block k h1 h2]
        exact ⟨none,_,by have:=run_endLoop (P:=Tryz.prog) hl (by rw [hrec];simp);rw [hrec] at this ⊢;exact this,
          hdone _ hkw (hI xs W2 _ (fun k h=>World.putObj_heap_other (by have:=(hV k h).2.1;omega)) hi) ((World.putObj_heap_other (by omega)).trans hk)⟩
      · have hkw:KeepB V w (W2.putObj (w.heap.size+1) (.loop (rec .exhausted (some c)))):=by
          refine ⟨?_,?_,?_,?_,?_⟩
          · exact hkb.os.trans hkb1.os
          · exact hkb.tape.trans hkb1.tape
          · exact hkb.output.trans hkb1.output
          · have:=hkb.size;simp;omega
          · intro k h1 h2
            rw [World.putObj_heap_other (by omega),hkb.block k (by omega) (by rintro (h | h | h);exact h2 h;omega;omega),hkb1.block k h1 h2]
        exact ⟨some c,_,by have:=run_endLoop (P:=Tryz.prog) hl (by rw [hrec];simp);rw [hrec] at this ⊢;exact this,
          hstop c pre _ hpre hkw (hIx c pre W2 _ (fun k h=>World.putObj_heap_other (by have:=(hV k h).2.1;omega)) hi) ((World.putObj_heap_other (by omega)).trans hk)⟩
    · -- ONE ROUND
      rintro pre x W hx hkW ⟨hi,hl,hk⟩
      have hsW:w.heap.size+2≤W.heap.size:=by have:=hkW.size;omega
      have hy:=run_yield (P:=Tryz.prog) (args:=encT x) hl (by rw [hrec];simp [encT,hps])
      rw [hrec] at hy
      have hkwW:KeepB V w W:=by
        refine ⟨hkW.os.trans hkb1.os,hkW.tape.trans hkb1.tape,hkW.output.trans hkb1.output,by omega,fun k h1 h2=>?_⟩
        rw [hkW.block k (by omega) (by rintro (h | h | h);exact h2 h;omega;omega),hkb1.block k h1 h2]
      refine ⟨fn,_,assign,body,hy,roundIn_of_wpIn hfn (hassign pre x W _ hx hkwW hsW hi (fun a1 W2 hk2 hi2 hax=>?_))⟩
      have hl2:W2.heap[w.heap.size+1]? = some (.loop (rec .ready none)):=(hk2.block _ (by omega) hnV.2).trans hl
      have hd2:W2.heap[w.heap.size]? = some (.deferred (some [])):=(hk2.block _ (by omega) hnV.1).trans hk
      refine ⟨_,run_beginRound hl2 (by rw [hrec]),?_⟩
      generalize hW3:W2.putObj (w.heap.size+1) (.loop { rec .ready none with state:=.busy })=W3
      have hlt2:w.heap.size+1<W2.heap.size:=(Array.getElem?_eq_some_iff.1 hl2).1
      have hl3:W3.heap[w.heap.size+1]? = some (.loop { rec .ready none with state:=.busy }):=by rw [← hW3];exact World.putObj_heap_same hlt2
      have hd3:W3.heap[w.heap.size]? = some (.deferred (some [])):=by rw [← hW3];exact (World.putObj_heap_other (by omega)).trans hd2
      have hs3:W3.heap.size=W2.heap.size:=by rw [← hW3];simp
      have hkV3:KeepB V' W W3:=(hk2.more hVV).trans (by rw [← hW3];exact KeepB.putObj _ (.inr (.inr rfl)) _)
      have hi3:I pre W3:=hI pre W2 W3 (fun k h=>by rw [← hW3];exact World.putObj_heap_other (by have:=(hV k h).2.1;omega)) hi2
      have hax3:Ax x a1 W3:=hAx x a1 W2 W3 (fun k h=>by rw [← hW3];exact World.putObj_heap_other h) hax
      have hkw3:KeepB V w W3:=by
        refine ⟨hkV3.os.trans hkwW.os,hkV3.tape.trans hkwW.tape,hkV3.output.trans hkwW.output,Nat.le_trans hkwW.size hkV3.size,fun k h1 h2=>?_⟩
        rw [hkV3.block k (by omega) (by rintro (h | h | h);exact h2 h;omega;omega),hkwW.block k h1 h2]
      refine wpIn_mono (hbody pre x a1 W3 hx hkw3 hi3 hax3) ?_
      have fin:∀ (jump:Option Code) (W4:World),KeepB V W3 W4 →
          (Instr.endRound (w.heap.size+1) jump).run Tryz.prog W4=.ok (.bool jump.isNone) (W4.putObj (w.heap.size+1) (.loop (rec (if jump.isNone then .ready else .done) jump))) ∧
          (W4.putObj (w.heap.size+1) (.loop (rec (if jump.isNone then .ready else .done) jump))).heap[w.heap.size+1]? = some (.loop (rec (if jump.isNone then .ready else .done) jump)) ∧
          (W4.putObj (w.heap.size+1) (.loop (rec (if jump.isNone then .ready else .done) jump))).heap[w.heap.size]? = some (.deferred (some [])) ∧
          KeepB V' W (W4.putObj (w.heap.size+1) (.loop (rec (if jump.isNone then .ready else .done) jump))):=fun jump W4 hk4=>by
        have hl4:W4.heap[w.heap.size+1]? = some (.loop { rec .ready none with state:=.busy }):=(hk4.block _ (by omega) hnV.2).trans hl3
        have hd4:W4.heap[w.heap.size]? = some (.deferred (some [])):=(hk4.block _ (by omega) hnV.1).trans hd3
        have:=run_endRound (P:=Tryz.prog) jump hl4
        refine ⟨?_,World.putObj_heap_same (Array.getElem?_eq_some_iff.1 hl4).1,(World.putObj_heap_other (by omega)).trans hd4,(hkV3.trans (hk4.more hVV)).trans (KeepB.putObj _ (.inr (.inr rfl)) _)⟩
        rw [hrec] at this ⊢
        exact this
      have onV:∀ (W4:World) (o:Obj) (k:Nat),V k→(W4.putObj (w.heap.size+1) o).heap[k]? = W4.heap[k]?:=fun W4 o k h=>World.putObj_heap_other (by have:=(hV k h).2.1;omega)
      rintro e a4 W4 hp
      cases e with
      | normal =>
        obtain ⟨hk4,hi4⟩:=hp
        obtain ⟨h1,h2,h3,h4⟩:=fin none W4 hk4
        exact ⟨_,_,h1,.inl ⟨rfl,h4,hI _ W4 _ (onV W4 _) hi4,h2,h3⟩⟩
      | ret =>
        obtain ⟨hk4,hi4⟩:=hp
        obtain ⟨h1,h2,h3,h4⟩:=fin (some .ret) W4 hk4
        exact ⟨_,_,h1,.inr ⟨rfl,h4,.ret,hIx _ _ W4 _ (onV W4 _) hi4,h2,h3⟩⟩
      | exit id =>
        obtain ⟨hk4,hi4⟩:=hp
        obtain ⟨h1,h2,h3,h4⟩:=fin (some (.exit id)) W4 hk4
        exact ⟨_,_,h1,.inr ⟨rfl,h4,.exit id,hIx _ _ W4 _ (onV W4 _) hi4,h2,h3⟩⟩
      | goto t =>
        obtain ⟨hk4,hi4⟩:=hp
        obtain ⟨h1,h2,h3,h4⟩:=fin (some (.goto t)) W4 hk4
        exact ⟨_,_,h1,.inr ⟨rfl,h4,.goto t,hIx _ _ W4 _ (onV W4 _) hi4,h2,h3⟩⟩
      | panic ch=>exact hp.elim
      | outgrown=>exact hp.elim
attribute [local go_sem] Oper.semAt_some
theorem own_open {w : World} {B : Nat} {e : TypeId} {v : Value} {n : Nat} {xs : List Value} (h : w.ownsRow B e 1 v (n + 1) xs) :
    ∃ g cap, v = .slice (some ⟨g, 0, none⟩) (n + 1) cap ∧ B ≤ g ∧ g < w.heap.size ∧ n + 1 ≤ cap ∧ w.cell? ⟨g, n, none⟩ = xs[n]? ∧ w.frozen? ⟨g, n, none⟩ = false ∧
      (∀ x, (w.setCell ⟨g, n, none⟩ x).ownsRow B e 1 v (n + 1) (xs.set n x)) ∧ w.ownsRow B e 1 (.slice (some ⟨g, 0, none⟩) n cap) n (xs.take n) := by
  rcases h.2 with ⟨_, h0⟩ | ⟨g, cap, cur, rfl, hB, hg, hc, hm, hs, ht⟩
  · omega
  · have hlt : g < w.heap.size := (Array.getElem?_eq_some_iff.1 hg).1
    have hsz : cur.size = cap := by omega
    have hx : xs[n]? = cur[n]? := by rw [← ht, List.getElem?_take]; simp
    refine ⟨g, cap, rfl, hB, hlt, hc, ?_, ?_, fun x => ⟨?_, .inr ⟨g, cap, cur.setIfInBounds n x, rfl, hB, ?_, hc, hm, ?_, ?_⟩⟩, ⟨?_, .inr ⟨g, cap, cur, rfl, hB, hg, by omega, hm, hs, ?_⟩⟩⟩
    · rw [hx]; simp [World.cell?, hg]
    · simp [World.frozen?, hg]
    · rw [List.length_set]; exact h.1
    · simp [World.setCell, Array.getElem?_modify, hg]
    · simp; omega
    · rw [← ht, Array.toList_setIfInBounds, List.take_set]
    · rw [List.length_take, h.1]; omega
    · rw [← ht, List.take_take]; congr 1; omega
theorem own_one (w:World) (B:Nat) (e:TypeId) (x:Value) (hB:B≤w.heap.size):(w.alloc (.cells #[x] e)).ownsRow B e 1 (.slice (some ⟨w.heap.size,0,none⟩) 1 1) 1 [x] :=
  ⟨rfl,.inr ⟨w.heap.size,1,#[x],rfl,hB,heap_alloc_new w _,Nat.le_refl _,by decide,rfl,rfl⟩⟩
theorem own_same {w w':World} {B:Nat} {e:TypeId} {v:Value} {n:Nat} {xs:List Value} (h:w.ownsRow B e 1 v n xs) (hk:∀ k,v.ownBlock=some k→k<w.heap.size→w'.heap[k]? = w.heap[k]?):w'.ownsRow B e 1 v n xs:=by
  refine ⟨h.1,?_⟩
  rcases h.2 with h2 | ⟨g,cap,cur,rfl,hB,hg,rest⟩
  · exact .inl h2
  · refine .inr ⟨g,cap,cur,rfl,hB,?_,rest⟩
    rw [hk g rfl (Array.getElem?_eq_some_iff.1 hg).1];exact hg
theorem KeepB.grown {V:Nat→Prop} {a w w':World} {row:Option Nat} (h:KeepB V a w) (hg:w.grownBy w' row) (hr:∀ k,row=some k→a.heap.size≤k):KeepB V a w' :=
  ⟨hg.os.trans h.os,hg.tape.trans h.tape,hg.output.trans h.output,Nat.le_trans h.size hg.size,fun k h1 h2=>by
    rw [hg.block k (Nat.lt_of_lt_of_le h1 h.size) (fun e=>by have:=hr k e.symm;omega)];exact h.block k h1 h2⟩
theorem info_slices:(Tryz.prog.info? 27).map (fun i=>(i.zero,i.size,i.bytes))=some (some (.slice none 0 0),1,24):=by kernel_rfl
def BoxT (w:World) (b:Nat) (c:Cel):Prop:=w.heap[b]? = some (.cells c.cells.toArray 29)
theorem BoxT.cells {w:World} {b:Nat} {c:Cel} (h:BoxT w b c) :
    w.cell? ⟨b,0,none⟩=some (.int .i64 c.k)∧w.cell? ⟨b,1,none⟩=some (.bool c.b)∧w.cell? ⟨b,2,none⟩=some (.bool c.neg)∧w.cell? ⟨b,3,none⟩=some (.slice c.ma c.mn c.mc) ∧
    w.cell? ⟨b,4,none⟩=some (.int .i64 c.e)∧w.cell? ⟨b,5,none⟩=some (.string c.s)∧w.cell? ⟨b,6,none⟩=some (.slice c.ka c.kn c.kc)∧w.cell? ⟨b,7,none⟩=some (.slice c.va c.vn c.vc):=by
  unfold BoxT at h
  simp [World.cell?,h,Cel.cells]
theorem BoxT.lt {w:World} {b:Nat} {c:Cel} (h:BoxT w b c):b<w.heap.size:=(Array.getElem?_eq_some_iff.1 h).1
theorem BoxT.on {w w':World} {b:Nat} {c:Cel} (h:BoxT w b c) (hb:w'.heap[b]? = w.heap[b]?):BoxT w' b c:=by unfold BoxT;rw [hb];exact h
theorem BoxT.free {w:World} {b:Nat} {c:Cel} (h:BoxT w b c) (i:Nat):w.frozen? ⟨b,i,none⟩=false:=by
  unfold BoxT at h;simp [World.frozen?,h]
def AR (w00:World) (xs:List (Nat × MT)) (V:Nat→Prop) (I:List (Nat × MT)→World→Prop) (W:World) (k:Nat) (v:Value) (wr:World):Prop :=
  ∃ (pre:List (Nat × MT)) (R:List SE),xs=pre++outR (R.map SE.l)∧stepsR (R.map SE.l)≤k∧wr.ownsRow W.heap.size 27 1 v R.length (R.reverse.map SE.val)∧(∀ s∈R,SEOk w00 s)∧KeepB V W wr∧I pre wr∧R.length≤pre.length
theorem wpi_app (w:World) {F:Fence} {m:Nat} {ops:Array Oper} {rest:List Oper} {o:Oper} {a:Act} {Q:Exit→Act→World→Prop}
    (hg:o.guard=none) (s x:Operand) (hop:o.op=.call { callee:=.builtin .append,args:=#[s,x],argTypes:=#[135,135] })
    (B:Nat) (v:Value) (n:Nat) (xs:List Value) (hs:a.eval s=v) (hown:w.ownsRow B 27 1 v n xs) (g:Nat) (y:SE) (hx:a.eval x=.slice (some ⟨g,0,none⟩) 1 1) (hc:w.cell? ⟨g,0,none⟩=some y.val)
    (hn:n≤1000000000) (hB:B≤w.heap.size)
    (h:∀ v' w',w'.ownsRow B 27 1 v' (n+1) (xs++[y.val])→w.grownBy w' v.ownBlock→wpListIn F m Tryz.prog ops Q rest (a.put o.dst v') w') :
    wpListIn F m Tryz.prog ops Q (o::rest) a w:=by
  obtain ⟨i0,hi,hz0,hz1,hz2⟩:=info_parts info_slices
  refine wpListIn_append_own w hg s x 135 hop B 27 i0 (.slice none 0 0) 1 24 Tryz.underlying135 hi hz0 hz1 hz2 rfl (by decide) v n xs hs hown ⟨g,0,none⟩ 1 1 [y.val] hx rfl ?_ ?_ (by unfold maxLen;omega) (by omega) hB (fun v' w' h1 h2 _=>h v' w' h1 h2)
  · intro j u hj
    match j,hj with
    | 0,hj=>simp at hj;subst hj;simpa [Addr.add] using hc
  · intro u hu;simp at hu;subst hu;rfl
theorem all1_seq (t:MT) (tb:Nat) (w00 w:World) (m:Nat) (hR:Rep w00 t) (hb:Below w00.heap.size w00 w) (htb:BoxT w tb t.c) (hn:w00.heap.size≤tb) :
    SeqAll m 101 #[.pointer (some ⟨tb,0,none⟩)] (t.pre 1) w00.heap.size tb w:=by
  intro l V I Ix W hW hV hI hIx hN hY h0
  refine callsIn_of_wp Tryz.func101 rfl trivial ?_ rfl
  simp only [Tryz.ntmps101,List.size_toArray,List.length_cons,List.length_nil,Nat.reduceAdd,Nat.reduceSub,Array.replicate_succ,Array.replicate_zero,List.push_toArray,List.append_toArray,List.nil_append,List.cons_append]
  have hlt:=htb.lt
  have hbox:BoxT W tb t.c:=htb.on (hW.block tb hlt)
  obtain ⟨c0,c1,c2,c3,c4,c5,c6,c7⟩:=hbox.cells
  obtain ⟨fn,tmps,assign,body,hy,hRd⟩:=hY [] (1,t) W ⟨outR [t.v],by rw [outR_start];rfl⟩ (KeepB.refl V W) h0
  have HRD:=Lib.hid hRd;clear hRd
  simp only [encT,Cel.val,Int.natCast_one] at hy
  generalize hc:t.c=c at *
  gi_wp2
  refine HRD.out.mono ?_
  rintro e W1 (⟨rfl,hk1,hi1⟩ | ⟨rfl,hk1,hx1⟩)
  · have hnV:¬ V tb:=fun h=>(hV tb h).2.2 rfl
    have hbW:BoxT W1 tb c:=hbox.on (hk1.block tb hbox.lt hnV)
    obtain ⟨d0,d1,d2,d3,d4,d5,d6,d7⟩:=hbW.cells
    have hsz1:=hk1.size
    have HST:=Lib.hid (show AR w00 (t.pre 1) V I W (stepsR [t.v]) (.slice (some ⟨W1.heap.size,0,none⟩) 1 1) (W1.alloc (.cells #[.slice c.va c.vn c.vc] 27)) from by
      refine ⟨[(1,t)],[t.se],?_,Nat.le_refl _,?_,?_,hk1.alloc _,hI _ W1 _ (fun k h=>Below.heap_alloc _ _ _ (by have:=(hV k h).2.1;omega)) hi1,Nat.le_refl _⟩
      · rw [outR_start];rfl
      · rw [← hc];exact own_one W1 W.heap.size _ _ hsz1
      · intro s hs;simp at hs;subst hs;exact MT.se_ok hR)
    clear c0 c1 c2 c3 c4 c5 c6 c7 hy hbox hk1 hi1 hbW hlt htb
    gi_wp2
    clear d0 d1 d2 d3 d4 d5 d6 d7
    gi_loopg [3] (stepsR [t.v]) (fun k v wr=>AR w00 (t.pre 1) V I W k v wr)
    case atStart=>exact HST.out
    case round =>
      obtain ⟨pre,R,hxs,hst,ho,hok,hkb,hi,hlen⟩:=hrel
      have HXS:=Lib.hid hxs;have HI:=Lib.hid hi;have HKB:=Lib.hid hkb;have HO:=Lib.hid ho;have HOK:=Lib.hid hok
      have hN1:=hN _ _ hi
      have hszr:=hkb.size
      clear hxs hi hkb ho hok
      cases R with
      | nil =>
        obtain ⟨ad,cap,rfl,_⟩:=own_view HO.out
        have hd:pre=t.pre 1:=by rw [HXS.out];simp [outR]
        have HD:=Lib.hid hd;clear hd
        gi_wp2
        go_end0
        exact ⟨⟨_,rfl⟩,HKB.out,.inl (by rw [← HD.out];exact HI.out)⟩
      | cons s R =>
        obtain ⟨k,rfl⟩:∃ k,gk=k+1:=⟨gk - 1,by have:=hst;simp only [List.map_cons,stepsR] at this;omega⟩
        have hrv:(s::R).reverse.map SE.val=R.reverse.map SE.val++[s.val]:=by simp
        have hlr:(R.reverse.map SE.val).length=R.length:=by simp
        have hown:wr.ownsRow W.heap.size 27 1 u3 (R.length+1) (R.reverse.map SE.val++[s.val]):=by rw [← hrv];exact HO.out
        obtain ⟨g,cap,rfl,hBg,hgl,hcap,hcell,hfz,hset,hpop⟩:=own_open hown
        rw [List.getElem?_append_right (by omega),hlr,Nat.sub_self] at hcell
        have hcell2:wr.cell? ⟨g,R.length,none⟩=some (.slice s.ad s.n s.cap):=hcell
        rw [List.take_append_of_le_length (by omega),List.take_of_length_le (by omega)] at hpop
        have hsok:=HOK.out s (by simp)
        have HSET:=Lib.hid hset;have HPOP:=Lib.hid hpop;have HSOK:=Lib.hid hsok
        have hRl:R.length≤1000000:=by simp only [List.length_cons] at hlen;omega
        have hRz:(R.length:Int)<((R.length+1:Nat):Int):=by omega
        simp only [List.length_cons] at hlen
        clear hcell hrv hown hset hpop hsok
        by_cases h0n:s.n=0
        · have hl0:s.l=[]:=List.eq_nil_of_length_eq_zero (by rw [HSOK.out.ln];exact h0n)
          have HF:=Lib.hid (show AR w00 (t.pre 1) V I W k (.slice (some ⟨g,0,none⟩) R.length cap) wr from by
            refine ⟨pre,R,?_,?_,HPOP.out,fun x hx=>HOK.out x (by simp [hx]),HKB.out,HI.out,by omega⟩
            · rw [HXS.out,List.map_cons,hl0,outR_pop]
            · rw [List.map_cons,hl0,stepsR_pop] at hst;omega)
          rw [h0n] at hcell2
          clear hl0 h0n
          generalize R.length=r at *
          generalize s.ad=ad at *
          generalize s.cap=scap at *
          gi_wp2
          gi_roundg k
          case rel=>exact HF.out
          case measure=>omega
        · obtain ⟨ad,sn,scap,sl⟩:=s
          simp only at h0n hcell2 HSOK
          cases sl with
          | nil=>exact absurd HSOK.out.ln.symm (by simpa using h0n)
          | cons x xs =>
            have hln:xs.length+1=sn:=HSOK.out.ln
            obtain ⟨sm,rfl⟩:∃ sm,sn=sm+1:=⟨xs.length,hln.symm⟩
            have hxl:xs.length=sm:=by omega
            have hsc:sm+1≤scap:=HSOK.out.lc
            obtain ⟨sd,rfl⟩:∃ sd,scap=sd+1:=⟨scap - 1,by omega⟩
            have hbw:Below w00.heap.size w00 wr:=(hb.trans (hW.mono hb.size)).trans (HKB.out.below (by have:=hb.size;have:=hW.size;omega) (fun k h=>(hV k h).1))
            have hrd:RdV wr ad (flat ((x::xs).map MT.c)):=HSOK.out.rd.on hbw
            obtain ⟨bk,bo,rfl,hbl⟩:=hrd.shape (by rw [flat_len];simp)
            have hfa:=flat_at hrd 0 (by simp) (c:=x.c) rfl
            simp only [Nat.zero_mul,Nat.add_zero] at hfa
            obtain ⟨e0,e1,e2,e3,e4,e5,e6,e7⟩:=hfa
            have hxrep:=HSOK.out.rp x (by simp)
            have hrdt:RdV w00 (some ⟨bk,bo+8,none⟩) (flat (xs.map MT.c)):=by
              have:=HSOK.out.rd.drop 8
              rw [← flat_tail] at this
              exact this
            generalize hcx:x.c=cx at *
            by_cases hsd:sd=0
            · subst hsd
              obtain rfl:sm=0:=by omega
              simp only [Nat.zero_add] at HSOK hcell2
              clear hrdt
              obtain ⟨W2,hW2⟩:∃ W2,(wr.setCell ⟨g,R.length,none⟩ (.slice (some ⟨bk,bo,none⟩) 0 0)).alloc (.cells #[.int .i64 cx.k,.bool cx.b,.bool cx.neg,.slice cx.ma cx.mn cx.mc,.int .i64 cx.e,.string cx.s,.slice cx.ka cx.kn cx.kc,.slice cx.va cx.vn cx.vc] 29)=W2:=⟨_,rfl⟩
              have hVg:∀ k,V k→k<W.heap.size:=fun k h=>(hV k h).2.1
              have hk2:KeepB V W W2:=by rw [← hW2];exact (HKB.out.setCell (.inr hBg) _).alloc _
              have hs2:W2.heap.size=wr.heap.size+1:=by rw [← hW2];simp [World.setCell]
              have hi2:I pre W2:=hI pre wr W2 (fun k h=>by
                have:=hVg k h
                rw [← hW2,Below.heap_alloc _ _ _ (by simp [World.setCell];omega),Below.heap_setCell _ _ _ _ (by simp;omega)]) HI.out
              have hbox2:BoxT W2 wr.heap.size cx:=by
                unfold BoxT
                rw [← hW2]
                have:=heap_alloc_new (wr.setCell ⟨g,R.length,none⟩ (.slice (some ⟨bk,bo,none⟩) 0 0)) (.cells cx.cells.toArray 29)
                simp only [World.setCell,Array.size_modify] at this ⊢
                exact this
              have hown2:W2.ownsRow W.heap.size 27 1 (.slice (some ⟨g,0,none⟩) (R.length+1) cap) (R.length+1) (R.reverse.map SE.val++[.slice (some ⟨bk,bo,none⟩) 0 0]):=by
                have h1:=HSET.out (.slice (some ⟨bk,bo,none⟩) 0 0)
                rw [List.set_append_right _ _ (by omega),hlr,Nat.sub_self,List.set_cons_zero] at h1
                rw [← hW2];exact h1.alloc _
              have HPF:=Lib.hid (show pre++[(R.length+2,x)] <+: t.pre 1 from ⟨outR (x.v::xs::R.map SE.l),by rw [HXS.out,List.map_cons,outR_push];simp⟩)
              obtain ⟨fn2,tmps2,assign2,body2,hy2,hR2⟩:=hY pre (R.length+2,x) W2 HPF.out hk2 hi2
              simp only [encT,Cel.val,hcx] at hy2
              rw [show (((R.length+2:Nat)):Int)=(R.length:Int)+2 from rfl] at hy2
              rw [← hW2] at hy2
              have HR2:=Lib.hid hR2;have HW2:=Lib.hid hW2
              clear hR2 hW2
              have HOWN2:=Lib.hid hown2;have HBOX2:=Lib.hid hbox2;have HK2:=Lib.hid hk2
              clear hown2 hbox2 hk2 hi2
              have HLAST:=Lib.hid (fun W5 v5 (h1:W5.ownsRow W.heap.size 27 1 v5 (R.length+1+1) (R.reverse.map SE.val++[.slice (some ⟨bk,bo,none⟩) 0 0]++[x.se.val])) (h2:KeepB V W W5) (h3:I (pre++[(R.length+2,x)]) W5)=>(by
                refine ⟨pre++[(R.length+2,x)],x.se :: ⟨some ⟨bk,bo,none⟩,0,0,xs⟩::R,?_,?_,?_,?_,h2,h3,?_⟩
                · rw [HXS.out];simp only [List.map_cons];rw [outR_push];simp [MT.se]
                · simp only [List.map_cons] at hst ⊢;rw [stepsR_push] at hst;show stepsR (x.v::xs::_)≤k;omega
                · simpa [SE.val] using h1
                · intro y hy
                  rcases List.mem_cons.1 hy with rfl | hy
                  · exact MT.se_ok hxrep
                  · rcases List.mem_cons.1 hy with rfl | hy
                    · exact ⟨hxl,Nat.le_refl _,Nat.zero_le _,by have:xs=[]:=List.eq_nil_of_length_eq_zero hxl;subst this;exact RdV.nil _ _,fun y hy=>HSOK.out.rp y (by simp [hy])⟩
                    · exact HOK.out y (by simp [hy])
                · simp only [List.length_cons,List.length_append,List.length_nil];omega:AR w00 (t.pre 1) V I W k v5 W5))
              have hsev:x.se.val=.slice cx.va cx.vn cx.vc:=by rw [← hcx];rfl
              have HSEV:=Lib.hid hsev
              clear hsev
              have e0r:(R.length:Int)<((R.length:Int)+1):=by omega
              generalize hr:R.length=r at *
              have HRR:=Lib.hid hr;clear hr
              gi_wp2
              rw [HW2.out]
              refine HR2.out.mono ?_
              rintro e W3 (⟨rfl,hk3,hi3⟩ | ⟨rfl,hk3,hx3⟩)
              · have hnb:¬ V wr.heap.size:=fun h=>by have:=hVg _ h;omega
                have hng:¬ V g:=fun h=>by have:=hVg _ h;omega
                have hb3:=HBOX2.out.on (hk3.block _ (by rw [hs2];omega) hnb)
                obtain ⟨_,_,_,_,_,_,_,g7⟩:=hb3.cells
                have ho3:=own_same HOWN2.out (w':=W3) (fun k hk hlt=>by
                  simp [Value.ownBlock] at hk;subst hk
                  exact hk3.block _ hlt hng)
                have HO3:=Lib.hid ho3;have HK3:=Lib.hid (HK2.out.trans hk3);have HI3:=Lib.hid hi3
                have hs3:=HK3.out.size
                clear hb3 ho3 hk3 hi3 hy2 e0 e1 e2 e3 e4 e5 e6 e7
                gi_wp2_with (gi_at_builtin;refine wpi_app _ rfl _ _ rfl W.heap.size _ (r+1) _ rfl (HO3.out.alloc _) W3.heap.size x.se rfl (by rw [HSEV.out];simp) (by omega) (by simp;omega) ?_)
                intro v5 W5 ho5 hg5
                have HF:=Lib.hid (HLAST.out W5 v5 (by simpa [List.append_assoc] using ho5) ((HK3.out.alloc _).grown hg5 (fun k hk=>by simp [Value.ownBlock] at hk;omega)) (hI _ W3 W5 (fun k h=>by
                  have h1:=hVg k h
                  rw [hg5.block k (by simp;omega) (by simp [Value.ownBlock];omega),Below.heap_alloc _ _ _ (by omega)]) HI3.out))
                clear ho5 hg5
                gi_wp2
                gi_roundg k
                case rel=>exact HF.out
                case measure=>omega
              · gi_wp2
                refine bodyPost_ret (results_none rfl _ _ _) rfl ?_
                exact ⟨⟨_,rfl⟩,HK2.out.trans hk3,.inr ⟨_,HPF.out,hx3⟩⟩
            · have hsd2:¬ sd+1=1:=by omega
              obtain ⟨W2,hW2⟩:∃ W2,(wr.setCell ⟨g,R.length,none⟩ (.slice (some ⟨bk,bo+8,none⟩) sm sd)).alloc (.cells #[.int .i64 cx.k,.bool cx.b,.bool cx.neg,.slice cx.ma cx.mn cx.mc,.int .i64 cx.e,.string cx.s,.slice cx.ka cx.kn cx.kc,.slice cx.va cx.vn cx.vc] 29)=W2:=⟨_,rfl⟩
              have hVg:∀ k,V k→k<W.heap.size:=fun k h=>(hV k h).2.1
              have hk2:KeepB V W W2:=by rw [← hW2];exact (HKB.out.setCell (.inr hBg) _).alloc _
              have hs2:W2.heap.size=wr.heap.size+1:=by rw [← hW2];simp [World.setCell]
              have hi2:I pre W2:=hI pre wr W2 (fun k h=>by
                have:=hVg k h
                rw [← hW2,Below.heap_alloc _ _ _ (by simp [World.setCell];omega),Below.heap_setCell _ _ _ _ (by simp;omega)]) HI.out
              have hbox2:BoxT W2 wr.heap.size cx:=by
                unfold BoxT
                rw [← hW2]
                have:=heap_alloc_new (wr.setCell ⟨g,R.length,none⟩ (.slice (some ⟨bk,bo+8,none⟩) sm sd)) (.cells cx.cells.toArray 29)
                simp only [World.setCell,Array.size_modify] at this ⊢
                exact this
              have hown2:W2.ownsRow W.heap.size 27 1 (.slice (some ⟨g,0,none⟩) (R.length+1) cap) (R.length+1) (R.reverse.map SE.val++[.slice (some ⟨bk,bo+8,none⟩) sm sd]):=by
                have h1:=HSET.out (.slice (some ⟨bk,bo+8,none⟩) sm sd)
                rw [List.set_append_right _ _ (by omega),hlr,Nat.sub_self,List.set_cons_zero] at h1
                rw [← hW2];exact h1.alloc _
              have HPF:=Lib.hid (show pre++[(R.length+2,x)] <+: t.pre 1 from ⟨outR (x.v::xs::R.map SE.l),by rw [HXS.out,List.map_cons,outR_push];simp⟩)
              obtain ⟨fn2,tmps2,assign2,body2,hy2,hR2⟩:=hY pre (R.length+2,x) W2 HPF.out hk2 hi2
              simp only [encT,Cel.val,hcx] at hy2
              rw [show (((R.length+2:Nat)):Int)=(R.length:Int)+2 from rfl] at hy2
              rw [← hW2] at hy2
              have HR2:=Lib.hid hR2;have HW2:=Lib.hid hW2
              clear hR2 hW2
              have HOWN2:=Lib.hid hown2;have HBOX2:=Lib.hid hbox2;have HK2:=Lib.hid hk2
              clear hown2 hbox2 hk2 hi2
              have HLAST:=Lib.hid (fun W5 v5 (h1:W5.ownsRow W.heap.size 27 1 v5 (R.length+1+1) (R.reverse.map SE.val++[.slice (some ⟨bk,bo+8,none⟩) sm sd]++[x.se.val])) (h2:KeepB V W W5) (h3:I (pre++[(R.length+2,x)]) W5)=>(by
                refine ⟨pre++[(R.length+2,x)],x.se :: ⟨some ⟨bk,bo+8,none⟩,sm,sd,xs⟩::R,?_,?_,?_,?_,h2,h3,?_⟩
                · rw [HXS.out];simp only [List.map_cons];rw [outR_push];simp [MT.se]
                · simp only [List.map_cons] at hst ⊢;rw [stepsR_push] at hst;show stepsR (x.v::xs::_)≤k;omega
                · simpa [SE.val] using h1
                · intro y hy
                  rcases List.mem_cons.1 hy with rfl | hy
                  · exact MT.se_ok hxrep
                  · rcases List.mem_cons.1 hy with rfl | hy
                    · exact ⟨hxl,by show sm≤sd;omega,by have:=HSOK.out.lm;simp only at this;show sm≤_;omega,hrdt,fun y hy=>HSOK.out.rp y (by simp [hy])⟩
                    · exact HOK.out y (by simp [hy])
                · simp only [List.length_cons,List.length_append,List.length_nil];omega:AR w00 (t.pre 1) V I W k v5 W5))
              have hsev:x.se.val=.slice cx.va cx.vn cx.vc:=by rw [← hcx];rfl
              have HSEV:=Lib.hid hsev
              clear hsev
              have e0r:(R.length:Int)<((R.length:Int)+1):=by omega
              generalize hr:R.length=r at *
              have HRR:=Lib.hid hr;clear hr
              gi_wp2
              rw [HW2.out]
              refine HR2.out.mono ?_
              rintro e W3 (⟨rfl,hk3,hi3⟩ | ⟨rfl,hk3,hx3⟩)
              · have hnb:¬ V wr.heap.size:=fun h=>by have:=hVg _ h;omega
                have hng:¬ V g:=fun h=>by have:=hVg _ h;omega
                have hb3:=HBOX2.out.on (hk3.block _ (by rw [hs2];omega) hnb)
                obtain ⟨_,_,_,_,_,_,_,g7⟩:=hb3.cells
                have ho3:=own_same HOWN2.out (w':=W3) (fun k hk hlt=>by
                  simp [Value.ownBlock] at hk;subst hk
                  exact hk3.block _ hlt hng)
                have HO3:=Lib.hid ho3;have HK3:=Lib.hid (HK2.out.trans hk3);have HI3:=Lib.hid hi3
                have hs3:=HK3.out.size
                clear hb3 ho3 hk3 hi3 hy2 e0 e1 e2 e3 e4 e5 e6 e7
                gi_wp2_with (gi_at_builtin;refine wpi_app _ rfl _ _ rfl W.heap.size _ (r+1) _ rfl (HO3.out.alloc _) W3.heap.size x.se rfl (by rw [HSEV.out];simp) (by omega) (by simp;omega) ?_)
                intro v5 W5 ho5 hg5
                have HF:=Lib.hid (HLAST.out W5 v5 (by simpa [List.append_assoc] using ho5) ((HK3.out.alloc _).grown hg5 (fun k hk=>by simp [Value.ownBlock] at hk;omega)) (hI _ W3 W5 (fun k h=>by
                  have h1:=hVg k h
                  rw [hg5.block k (by simp;omega) (by simp [Value.ownBlock];omega),Below.heap_alloc _ _ _ (by omega)]) HI3.out))
                clear ho5 hg5
                gi_wp2
                gi_roundg k
                case rel=>exact HF.out
                case measure=>omega
              · gi_wp2
                refine bodyPost_ret (results_none rfl _ _ _) rfl ?_
                exact ⟨⟨_,rfl⟩,HK2.out.trans hk3,.inr ⟨_,HPF.out,hx3⟩⟩
  · gi_wp2
    refine bodyPost_ret (results_none rfl _ _ _) rfl ?_
    exact ⟨⟨_,rfl⟩,hk1,.inr ⟨[(1,t)],⟨outR [t.v],by rw [outR_start];rfl⟩,hx1⟩⟩
def blankB (c:Cel):Bool:=!c.b && (!c.neg && (decide (c.mn=0) && (decide (c.e=0) && (decide (c.s.size=0) && (decide (c.kn=0) && decide (c.vn=0))))))
theorem nat_beq0 {n:Nat} (h:n=0):((n:Int) == 0)=true:=by subst h;rfl
theorem nat_bne0 {n:Nat} (h:¬ n=0):((n:Int) == 0)=false:=by rw [beq_eq_false_iff_ne];omega
theorem blank_any (c:Cel) (w:World) (hs:c.s.size≤maxLen) :
    Calls Tryz.prog 105 #[c.val] w (BoolBelow (blankB c) w):=by
  unfold maxLen at hs
  obtain ⟨k,b,neg,ma,mn,mc,e,s,ka,kn,kc,va,vn,vc⟩:=c
  unfold blankB Cel.val
  simp only at hs ⊢
  have HB:=Lib.hid (((Below.refl w.heap.size w).alloc (Nat.le_refl _) (.cells #[.int .i64 k,.bool b,.bool neg,.slice ma mn mc,.int .i64 e,.string s,.slice ka kn kc,.slice va vn vc] 29)).alloc (by simp) (.cells #[.bool neg,.slice ma mn mc,.int .i64 e] 25))
  cases b
  · cases neg
    · by_cases h1:mn=0
      · have d1:=nat_beq0 h1
        have D1:=Lib.hid (decide_eq_true h1)
        by_cases h2:e=0
        · have d2:(e == 0)=true:=by rw [h2];rfl
          have D2:=Lib.hid (decide_eq_true h2)
          by_cases h3:s.size=0
          · have e3:s=⟨#[]⟩:=by apply ByteArray.ext;apply Array.eq_empty_of_size_eq_zero;exact h3
            have D3:=Lib.hid (decide_eq_true h3)
            by_cases h4:kn=0
            · have d4:=nat_beq0 h4
              have D4:=Lib.hid (decide_eq_true h4)
              by_cases h5:vn=0
              · have d5:=nat_beq0 h5
                have D5:=Lib.hid (decide_eq_true h5)
                rw [D1.out,D2.out,D3.out,D4.out,D5.out]
                subst e3 h1 h2 h4 h5
                clear h3 d1 d2 d4 d5 hs
                go_enter Tryz.func105,Tryz.ntmps105
                go_wp2
                go_ret
                exact BoolBelow.mk rfl HB.out
              · have d5:=nat_bne0 h5
                have D5:=Lib.hid (decide_eq_false h5)
                rw [D1.out,D2.out,D3.out,D4.out,D5.out]
                subst e3 h1 h2 h4
                clear h3 d1 d2 d4 hs h5
                go_enter Tryz.func105,Tryz.ntmps105
                go_wp2
                go_ret
                exact BoolBelow.mk rfl HB.out
            · have d4:=nat_bne0 h4
              have D4:=Lib.hid (decide_eq_false h4)
              rw [D1.out,D2.out,D3.out,D4.out]
              subst e3 h1 h2
              clear h3 d1 d2 hs h4
              go_enter Tryz.func105,Tryz.ntmps105
              go_wp2
              go_ret
              exact BoolBelow.mk rfl HB.out
          · have D3:=Lib.hid (decide_eq_false h3)
            have d3:s.toList.isEmpty=false:=by
              rw [Lib.toList_data]
              cases h:s.data.toList with
              | nil=>exact absurd (by have:=congrArg List.length h;simpa using this) h3
              | cons _ _=>rfl
            rw [D1.out,D2.out,D3.out]
            subst h1 h2
            clear d1 d2 h3
            go_enter Tryz.func105,Tryz.ntmps105
            go_wp2
            go_ret
            exact BoolBelow.mk rfl HB.out
        · have d2:(e == 0)=false:=by rw [beq_eq_false_iff_ne];exact h2
          have D2:=Lib.hid (decide_eq_false h2)
          rw [D1.out,D2.out]
          subst h1
          clear d1 h2
          go_enter Tryz.func105,Tryz.ntmps105
          go_wp2
          go_ret
          exact BoolBelow.mk rfl HB.out
      · have d1:=nat_bne0 h1
        have D1:=Lib.hid (decide_eq_false h1)
        rw [D1.out]
        clear h1
        go_enter Tryz.func105,Tryz.ntmps105
        go_wp2
        go_ret
        exact BoolBelow.mk rfl HB.out
    · go_enter Tryz.func105,Tryz.ntmps105
      go_wp2
      go_ret
      exact BoolBelow.mk rfl HB.out
  · go_enter Tryz.func105,Tryz.ntmps105
    go_wp2
    go_ret
    exact BoolBelow.mk rfl HB.out
end Go.Proofs.YtnacbakcalcgaaaGreatDoor
