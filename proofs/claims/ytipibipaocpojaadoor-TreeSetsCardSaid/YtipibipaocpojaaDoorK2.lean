/- A range over a function whose iterator keeps state of its own in memory: the law of the loop, at the fence that asks nothing. -/
import Derived.Test.YtipibipaocpojaaDoorK1
import Derived.RangeFuncNested
import Derived.RangeFuncBound
import Derived.RangeFuncCalls
import Derived.RangeFuncLeaves
import Derived.Shelf.Abstract
import Derived.Shelf.RegionOpen
import Derived.OwnWalkIn
import Derived.TacticsInMore
import Derived.LoopNIn
import Derived.LoopIn
namespace Go.Proofs.YtipibipaocpojaaDoor
open Go.RowKit Go.Shelf
set_option linter.unusedVariables false
set_option linter.unusedSimpArgs false

/-- All blocks but those of V lie as they lay; there may be new ones. -/
structure KeepB (V : Nat → Prop) (w w' : World) : Prop where
  os : w'.os = w.os
  tape : w'.tape = w.tape
  output : w'.output = w.output
  size : w.heap.size ≤ w'.heap.size
  block : ∀ k, k < w.heap.size → ¬ V k → w'.heap[k]? = w.heap[k]?
theorem KeepB.refl (V : Nat → Prop) (w : World) : KeepB V w w := ⟨rfl, rfl, rfl, Nat.le_refl _, fun _ _ _ => rfl⟩
theorem KeepB.trans {V : Nat → Prop} {a b c : World} (h : KeepB V a b) (k : KeepB V b c) : KeepB V a c :=
  ⟨k.os.trans h.os, k.tape.trans h.tape, k.output.trans h.output, Nat.le_trans h.size k.size, fun i hi hn => (k.block i (Nat.lt_of_lt_of_le hi h.size) hn).trans (h.block i hi hn)⟩
theorem KeepB.more {V V' : Nat → Prop} {a b : World} (h : KeepB V a b) (hv : ∀ k, V k → V' k) : KeepB V' a b :=
  ⟨h.os, h.tape, h.output, h.size, fun k hk hn => h.block k hk (fun e => hn (hv k e))⟩
theorem KeepB.of_below {V : Nat → Prop} {a b : World} (h : Below a.heap.size a b) : KeepB V a b := ⟨h.os, h.tape, h.output, h.size, fun k hk _ => h.block k hk⟩
theorem KeepB.alloc {V : Nat → Prop} {a w : World} (h : KeepB V a w) (o : Obj) : KeepB V a (w.alloc o) := h.trans (KeepB.of_below ((Below.refl _ w).alloc (Nat.le_refl _) o))
theorem KeepB.drewN {V : Nat → Prop} {a w : World} (h : KeepB V a w) (n : Nat) : KeepB V a (w.drewN n) := h.trans ⟨rfl, rfl, rfl, Nat.le_refl _, fun _ _ _ => rfl⟩
theorem KeepB.drew {V : Nat → Prop} {a w : World} (h : KeepB V a w) : KeepB V a w.drew := h.trans ⟨rfl, rfl, rfl, Nat.le_refl _, fun _ _ _ => rfl⟩
theorem KeepB.setCell {V : Nat → Prop} {a w : World} (h : KeepB V a w) {p : Addr} (hp : V p.block ∨ a.heap.size ≤ p.block) (u : Value) : KeepB V a (w.setCell p u) := by
  refine ⟨h.os, h.tape, h.output, by simp [World.setCell]; exact h.size, fun k hk hn => ?_⟩
  rw [Below.heap_setCell _ _ _ _ (by rintro rfl; rcases hp with hp | hp; exact hn hp; omega)]
  exact h.block k hk hn
theorem KeepB.putObj {V : Nat → Prop} (w : World) {l : Nat} (hl : V l) (o : Obj) : KeepB V w (w.putObj l o) :=
  ⟨rfl, rfl, rfl, by simp, fun k hk hn => World.putObj_heap_other (by rintro rfl; exact hn hl)⟩
theorem KeepB.below {V : Nat → Prop} {w w' : World} (h : KeepB V w w') {B : Nat} (hB : B ≤ w.heap.size) (hv : ∀ k, V k → B ≤ k) : Below B w w' :=
  ⟨h.os, h.tape, h.output, h.size, fun k hk => h.block k (by omega) (fun e => by have := hv k e; omega)⟩
theorem KeepB.cell {V : Nat → Prop} {w w' : World} (h : KeepB V w w') {p : Addr} (hp : p.block < w.heap.size) (hn : ¬ V p.block) : w'.cell? p = w.cell? p := World.cell?_of_block (w := w) (h.block p.block hp hn)
theorem KeepB.frozen {V : Nat → Prop} {w w' : World} (h : KeepB V w w') {p : Addr} (hp : p.block < w.heap.size) (hn : ¬ V p.block) : w'.frozen? p = w.frozen? p := World.frozen?_of_block (w := w) (h.block p.block hp hn)

/-- What yield is handed: how deep, and the tree. -/
def encT (x : Nat × MT) : Array Value := #[.int .i64 ((x.1 : Nat) : Int), x.2.c.val]
/-- What a state of the body hangs on. -/
def On (V : Nat → Prop) (I : List (Nat × MT) → World → Prop) : Prop := ∀ pre A B, (∀ k, V k → B.heap[k]? = A.heap[k]?) → I pre A → I pre B

/-- THE ITERATOR's CONTRACT: it hands on all of xs, one behind the other, till it is told to stop; it writes into nothing that lay when it began. -/
def SeqAll (m : Nat) (g : Nat) (lb : Array Value) (xs : List (Nat × MT)) (n0 tb : Nat) (w : World) : Prop :=
  ∀ (l : Nat) (V : Nat → Prop) (I Ix : List (Nat × MT) → World → Prop) (W : World), Below w.heap.size w W → (∀ k, V k → n0 ≤ k ∧ k < W.heap.size ∧ k ≠ tb) → On V I → On V Ix → (∀ pre A, I pre A → pre.length ≤ 1000000) →
    (∀ pre x W1, pre ++ [x] <+: xs → KeepB V W W1 → I pre W1 → YieldAt Fence.wide m Tryd.prog l (encT x) W1 fun e W' =>
      (e = .returned (.bool true) ∧ KeepB V W1 W' ∧ I (pre ++ [x]) W') ∨ (e = .returned (.bool false) ∧ KeepB V W1 W' ∧ Ix (pre ++ [x]) W')) →
    I [] W →
    CallsIn Fence.wide (m + 1) Tryd.prog g (#[.func (.yield l) #[] #[]] ++ lb) W fun e W' => (∃ v, e = .returned v) ∧ KeepB V W W' ∧ (I xs W' ∨ ∃ pre, pre <+: xs ∧ Ix pre W')

/-- How the body of a round may be left. -/
def bodyPostA (V : Nat → Prop) (I : List (Nat × MT) → World → Prop) (Ix : Code → List (Nat × MT) → World → Prop) (xs : List (Nat × MT)) (W : World) : Exit → Act → World → Prop
  | .normal, _, W' => KeepB V W W' ∧ I xs W'
  | .ret, _, W' => KeepB V W W' ∧ Ix .ret xs W'
  | .exit id, _, W' => KeepB V W W' ∧ Ix (.exit id) xs W'
  | .goto t, _, W' => KeepB V W W' ∧ Ix (.goto t) xs W'
  | .panic _, _, _ => False
  | .outgrown, _, _ => False

/-- THE LOOP 'for d, t := range all(..)'. -/
theorem wpIn_range_all {n : Nat} {g : Operand} {ps : Array Tmp} {assign body : Code} {Q : Exit → Act → World → Prop} {a : Act} {w : World} {gf : Nat} {lb : Array Value} {xs : List (Nat × MT)} {n0 tb : Nat}
    (hg : a.eval g = .func (.func gf) #[] lb) (eg : ∀ args w, (callFunc gf args).run Tryd.prog w = .ok (.enter gf args) w) (hseq : SeqAll n gf lb xs n0 tb w) (hps : ps.size = 2)
    (V : Nat → Prop) (hV : ∀ k, V k → n0 ≤ k ∧ k < w.heap.size ∧ k ≠ tb) (htb : tb < w.heap.size)
    (I : List (Nat × MT) → World → Prop) (Ix : Code → List (Nat × MT) → World → Prop) (hI : On V I) (hIx : ∀ c, On V (Ix c)) (hN : ∀ pre A, I pre A → pre.length ≤ 1000000) (h0 : I [] w)
    (Ax : Nat × MT → Act → World → Prop) (hAx : ∀ x a' A B, (∀ k, k ≠ w.heap.size + 1 → B.heap[k]? = A.heap[k]?) → Ax x a' A → Ax x a' B) (hn0 : n0 ≤ w.heap.size)
    (hassign : ∀ pre x W K, pre ++ [x] <+: xs → KeepB V w W → w.heap.size + 2 ≤ W.heap.size → I pre W → (∀ a' W', KeepB V W W' → I pre W' → Ax x a' W' → K a' W') →
      assign.wpIn (Fence.wide.inRound (w.heap.size + 1)) n Tryd.prog (Exit.then K (fun _ _ _ => False)) { tmps := (ps.zip (encT x)).foldl (fun t (p, v) => t.setIfInBounds p v) a.tmps, defers := [] } W)
    (hbody : ∀ pre x a' W, pre ++ [x] <+: xs → KeepB V w W → I pre W → Ax x a' W → body.wpIn (Fence.wide.inRound (w.heap.size + 1)) n Tryd.prog (bodyPostA V I Ix (pre ++ [x]) W) a' W)
    (hdone : ∀ W, KeepB V w W → I xs W → W.heap[w.heap.size]? = some (.deferred (some [])) → Q .normal { a with defers := { target := .collected w.heap.size, args := #[] } :: a.defers } W)
    (hstop : ∀ c pre W, pre <+: xs → KeepB V w W → Ix c pre W → W.heap[w.heap.size]? = some (.deferred (some [])) → c.wpIn Fence.wide (n + 2) Tryd.prog Q { a with defers := { target := .collected w.heap.size, args := #[] } :: a.defers } W) :
    (Code.rangeFunc g ps assign body).wpIn Fence.wide (n + 2) Tryd.prog Q a w := by
  refine wpIn_rangeFunc ?_
  intro fn hfn
  obtain ⟨rec, hrec⟩ : ∃ rec : LoopState → Option Code → Loop, rec = fun st pe => { state := st, pending := pe, fn, tmps := a.tmps, params := ps, assign, body, defers := w.heap.size } := ⟨_, rfl⟩
  obtain ⟨W1, hW1⟩ : ∃ W1, (w.alloc (.deferred (some []))).alloc (.loop (rec .ready none)) = W1 := ⟨_, rfl⟩
  have hL1 : W1.heap[w.heap.size + 1]? = some (.loop (rec .ready none)) := by
    rw [← hW1]; have := World.alloc_heap_new (w.alloc (.deferred (some []))) (.loop (rec .ready none)); rwa [World.size_alloc] at this
  have hK1 : W1.heap[w.heap.size]? = some (.deferred (some [])) := by
    rw [← hW1]; exact (Below.heap_alloc _ _ _ (by simp)).trans (World.alloc_heap_new w _)
  have hS1 : W1.heap.size = w.heap.size + 2 := by rw [← hW1]; simp
  have hb1 : Below w.heap.size w W1 := by
    rw [← hW1]; exact ((Below.refl _ w).alloc (Nat.le_refl _) _).alloc (by simp) _
  have hkb1 : KeepB V w W1 := KeepB.of_below hb1
  have hI1 : I [] W1 := hI [] w W1 (fun k hk => hb1.block k (hV k hk).2.1) h0
  refine ⟨w.heap.size + 1, [{ target := .collected w.heap.size, args := #[] }], W1, { target := .fn (.func gf) lb, args := #[.func (.yield (w.heap.size + 1)) #[] #[]] }, W1, gf,
    #[.func (.yield (w.heap.size + 1)) #[] #[]] ++ lb, W1, ?_, ?_, ?_, ?_, fun _ => by omega, ?_⟩
  · rw [← hW1, hrec]; exact run_enterLoop_outer _ _ _ _ _
  · simp only [resolve, hg]
    simp [go_sem]
  · intro f' hf'; trivial
  · simp [invoke, go_sem, eg]
  · let V' : Nat → Prop := fun k => V k ∨ k = w.heap.size ∨ k = w.heap.size + 1
    have hVV : ∀ k, V k → V' k := fun k h => .inl h
    have hnV : ¬ V w.heap.size ∧ ¬ V (w.heap.size + 1) := ⟨fun h => by have := (hV _ h).2.1; omega, fun h => by have := (hV _ h).2.1; omega⟩
    have hsq := hseq (w.heap.size + 1) V'
      (fun pre W => I pre W ∧ W.heap[w.heap.size + 1]? = some (.loop (rec .ready none)) ∧ W.heap[w.heap.size]? = some (.deferred (some [])))
      (fun pre W => ∃ c, Ix c pre W ∧ W.heap[w.heap.size + 1]? = some (.loop (rec .done (some c))) ∧ W.heap[w.heap.size]? = some (.deferred (some [])))
      W1 hb1
      (fun k hk => by
        rcases hk with hk | rfl | rfl
        · have := hV k hk; omega
        · omega
        · omega)
      (fun pre A B hk hs => ⟨hI pre A B (fun k h => hk k (hVV k h)) hs.1, (hk _ (.inr (.inr rfl))).trans hs.2.1, (hk _ (.inr (.inl rfl))).trans hs.2.2⟩)
      (fun pre A B hk hs => by
        obtain ⟨c, h1, h2, h3⟩ := hs
        exact ⟨c, hIx c pre A B (fun k h => hk k (hVV k h)) h1, (hk _ (.inr (.inr rfl))).trans h2, (hk _ (.inr (.inl rfl))).trans h3⟩)
      (fun pre A hs => hN pre A hs.1)
      ?_ ⟨hI1, hL1, hK1⟩
    · refine CallsIn.mono (F := Fence.wide) hsq ?_
      rintro e W2 ⟨⟨v, rfl⟩, hkb, (⟨hi, hl, hk⟩ | ⟨pre, hpre, c, hi, hl, hk⟩)⟩
      · have hkw : KeepB V w (W2.putObj (w.heap.size + 1) (.loop (rec .exhausted none))) := by
          refine ⟨?_, ?_, ?_, ?_, ?_⟩
          · exact hkb.os.trans hkb1.os
          · exact hkb.tape.trans hkb1.tape
          · exact hkb.output.trans hkb1.output
          · have := hkb.size; simp; omega
          · intro k h1 h2
            rw [World.putObj_heap_other (by omega), hkb.block k (by omega) (by rintro (h | h | h); exact h2 h; omega; omega), hkb1.block k h1 h2]
        exact ⟨none, _, by have := run_endLoop (P := Tryd.prog) hl (by rw [hrec]; simp); rw [hrec] at this ⊢; exact this,
          hdone _ hkw (hI xs W2 _ (fun k h => World.putObj_heap_other (by have := (hV k h).2.1; omega)) hi) ((World.putObj_heap_other (by omega)).trans hk)⟩
      · have hkw : KeepB V w (W2.putObj (w.heap.size + 1) (.loop (rec .exhausted (some c)))) := by
          refine ⟨?_, ?_, ?_, ?_, ?_⟩
          · exact hkb.os.trans hkb1.os
          · exact hkb.tape.trans hkb1.tape
          · exact hkb.output.trans hkb1.output
          · have := hkb.size; simp; omega
          · intro k h1 h2
            rw [World.putObj_heap_other (by omega), hkb.block k (by omega) (by rintro (h | h | h); exact h2 h; omega; omega), hkb1.block k h1 h2]
        exact ⟨some c, _, by have := run_endLoop (P := Tryd.prog) hl (by rw [hrec]; simp); rw [hrec] at this ⊢; exact this,
          hstop c pre _ hpre hkw (hIx c pre W2 _ (fun k h => World.putObj_heap_other (by have := (hV k h).2.1; omega)) hi) ((World.putObj_heap_other (by omega)).trans hk)⟩
    · -- ONE ROUND
      rintro pre x W hx hkW ⟨hi, hl, hk⟩
      have hsW : w.heap.size + 2 ≤ W.heap.size := by have := hkW.size; omega
      have hy := run_yield (P := Tryd.prog) (args := encT x) hl (by rw [hrec]; simp [encT, hps])
      rw [hrec] at hy
      have hkwW : KeepB V w W := by
        refine ⟨hkW.os.trans hkb1.os, hkW.tape.trans hkb1.tape, hkW.output.trans hkb1.output, by omega, fun k h1 h2 => ?_⟩
        rw [hkW.block k (by omega) (by rintro (h | h | h); exact h2 h; omega; omega), hkb1.block k h1 h2]
      refine ⟨fn, _, assign, body, hy, roundIn_of_wpIn hfn (hassign pre x W _ hx hkwW hsW hi (fun a1 W2 hk2 hi2 hax => ?_))⟩
      have hl2 : W2.heap[w.heap.size + 1]? = some (.loop (rec .ready none)) := (hk2.block _ (by omega) hnV.2).trans hl
      have hd2 : W2.heap[w.heap.size]? = some (.deferred (some [])) := (hk2.block _ (by omega) hnV.1).trans hk
      refine ⟨_, run_beginRound hl2 (by rw [hrec]), ?_⟩
      generalize hW3 : W2.putObj (w.heap.size + 1) (.loop { rec .ready none with state := .busy }) = W3
      have hlt2 : w.heap.size + 1 < W2.heap.size := (Array.getElem?_eq_some_iff.1 hl2).1
      have hl3 : W3.heap[w.heap.size + 1]? = some (.loop { rec .ready none with state := .busy }) := by rw [← hW3]; exact World.putObj_heap_same hlt2
      have hd3 : W3.heap[w.heap.size]? = some (.deferred (some [])) := by rw [← hW3]; exact (World.putObj_heap_other (by omega)).trans hd2
      have hs3 : W3.heap.size = W2.heap.size := by rw [← hW3]; simp
      have hkV3 : KeepB V' W W3 := (hk2.more hVV).trans (by rw [← hW3]; exact KeepB.putObj _ (.inr (.inr rfl)) _)
      have hi3 : I pre W3 := hI pre W2 W3 (fun k h => by rw [← hW3]; exact World.putObj_heap_other (by have := (hV k h).2.1; omega)) hi2
      have hax3 : Ax x a1 W3 := hAx x a1 W2 W3 (fun k h => by rw [← hW3]; exact World.putObj_heap_other h) hax
      have hkw3 : KeepB V w W3 := by
        refine ⟨hkV3.os.trans hkwW.os, hkV3.tape.trans hkwW.tape, hkV3.output.trans hkwW.output, Nat.le_trans hkwW.size hkV3.size, fun k h1 h2 => ?_⟩
        rw [hkV3.block k (by omega) (by rintro (h | h | h); exact h2 h; omega; omega), hkwW.block k h1 h2]
      refine wpIn_mono (hbody pre x a1 W3 hx hkw3 hi3 hax3) ?_
      have fin : ∀ (jump : Option Code) (W4 : World), KeepB V W3 W4 →
          (Instr.endRound (w.heap.size + 1) jump).run Tryd.prog W4 = .ok (.bool jump.isNone) (W4.putObj (w.heap.size + 1) (.loop (rec (if jump.isNone then .ready else .done) jump))) ∧
          (W4.putObj (w.heap.size + 1) (.loop (rec (if jump.isNone then .ready else .done) jump))).heap[w.heap.size + 1]? = some (.loop (rec (if jump.isNone then .ready else .done) jump)) ∧
          (W4.putObj (w.heap.size + 1) (.loop (rec (if jump.isNone then .ready else .done) jump))).heap[w.heap.size]? = some (.deferred (some [])) ∧
          KeepB V' W (W4.putObj (w.heap.size + 1) (.loop (rec (if jump.isNone then .ready else .done) jump))) := fun jump W4 hk4 => by
        have hl4 : W4.heap[w.heap.size + 1]? = some (.loop { rec .ready none with state := .busy }) := (hk4.block _ (by omega) hnV.2).trans hl3
        have hd4 : W4.heap[w.heap.size]? = some (.deferred (some [])) := (hk4.block _ (by omega) hnV.1).trans hd3
        have := run_endRound (P := Tryd.prog) jump hl4
        refine ⟨?_, World.putObj_heap_same (Array.getElem?_eq_some_iff.1 hl4).1, (World.putObj_heap_other (by omega)).trans hd4, (hkV3.trans (hk4.more hVV)).trans (KeepB.putObj _ (.inr (.inr rfl)) _)⟩
        rw [hrec] at this ⊢
        exact this
      have onV : ∀ (W4 : World) (o : Obj) (k : Nat), V k → (W4.putObj (w.heap.size + 1) o).heap[k]? = W4.heap[k]? := fun W4 o k h => World.putObj_heap_other (by have := (hV k h).2.1; omega)
      rintro e a4 W4 hp
      cases e with
      | normal =>
        obtain ⟨hk4, hi4⟩ := hp
        obtain ⟨h1, h2, h3, h4⟩ := fin none W4 hk4
        exact ⟨_, _, h1, .inl ⟨rfl, h4, hI _ W4 _ (onV W4 _) hi4, h2, h3⟩⟩
      | ret =>
        obtain ⟨hk4, hi4⟩ := hp
        obtain ⟨h1, h2, h3, h4⟩ := fin (some .ret) W4 hk4
        exact ⟨_, _, h1, .inr ⟨rfl, h4, .ret, hIx _ _ W4 _ (onV W4 _) hi4, h2, h3⟩⟩
      | exit id =>
        obtain ⟨hk4, hi4⟩ := hp
        obtain ⟨h1, h2, h3, h4⟩ := fin (some (.exit id)) W4 hk4
        exact ⟨_, _, h1, .inr ⟨rfl, h4, .exit id, hIx _ _ W4 _ (onV W4 _) hi4, h2, h3⟩⟩
      | goto t =>
        obtain ⟨hk4, hi4⟩ := hp
        obtain ⟨h1, h2, h3, h4⟩ := fin (some (.goto t)) W4 hk4
        exact ⟨_, _, h1, .inr ⟨rfl, h4, .goto t, hIx _ _ W4 _ (onV W4 _) hi4, h2, h3⟩⟩
      | panic ch => exact hp.elim
      | outgrown => exact hp.elim
end Go.Proofs.YtipibipaocpojaaDoor
