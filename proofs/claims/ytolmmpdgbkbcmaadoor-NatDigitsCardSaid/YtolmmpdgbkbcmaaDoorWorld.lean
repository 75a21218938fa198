/- Slices of limbs in the world: read, owned, written. -/
import Derived.Test.YtolmmpdgbkbcmaaDoorMath
import Derived.Test.YtolmmpdgbkbcmaaDoorRows
import Derived.WalkKit
import Derived.WalkSpells
import Derived.WalkLawsBesides
import Derived.Deep.QuietTactic
import Derived.BigQuiet
import Derived.Lib.Hide
namespace Go.Proofs.YtolmmpdgbkbcmaaDoor
open Go.RowKit
set_option linter.unusedVariables false

/-- A limb as a value. -/
def lv (n : Nat) : Value := .int .u32 (n : Int)

/-- The cells that a slice's address leads to read as these limbs. -/
def Rd (w : World) (ad : Option Addr) (xs : List Nat) : Prop :=
  ∀ i, i < xs.length → ∃ b o, ad = some ⟨b, o, none⟩ ∧ b < w.heap.size ∧ w.cell? ⟨b, o + i, none⟩ = some (.int .u32 ((xs.getD i 0 : Nat) : Int))

theorem Rd.at {w : World} {b o : Nat} {xs : List Nat} (h : Rd w (some ⟨b, o, none⟩) xs) (i : Nat) (hi : i < xs.length) :
    w.cell? ⟨b, o + i, none⟩ = some (.int .u32 ((xs.getD i 0 : Nat) : Int)) := by
  obtain ⟨b', o', e, _, hc⟩ := h i hi
  cases e; exact hc
theorem Rd.lt {w : World} {ad : Option Addr} {xs : List Nat} (h : Rd w ad xs) (a : Addr) (e : ad = some a) (hx : 0 < xs.length) : a.block < w.heap.size := by
  obtain ⟨b, o, e', hb, _⟩ := h 0 hx
  rw [e] at e'; cases e'; exact hb
theorem Rd.apart {w : World} {ad : Option Addr} {xs : List Nat} (h : Rd w ad xs) {g : Nat} (hg : w.heap.size ≤ g) (a : Addr) (e : ad = some a) (hx : 0 < xs.length) : a.block ≠ g := by
  have := h.lt a e hx; omega
theorem Rd.nil (w : World) (ad : Option Addr) : Rd w ad [] := by intro i h; simp at h
theorem Rd.take {w : World} {ad : Option Addr} {xs : List Nat} (h : Rd w ad xs) (n : Nat) : Rd w ad (xs.take n) := by
  intro i hi
  rw [List.length_take] at hi
  obtain ⟨b, o, e, hb, hc⟩ := h i (by omega)
  exact ⟨b, o, e, hb, by rw [hc]; simp [List.getD, show i < n by omega]⟩
theorem Rd.below {w w' : World} {ad : Option Addr} {xs : List Nat} (h : Rd w ad xs) (hb : Below w.heap.size w w') : Rd w' ad xs := by
  intro i hi
  obtain ⟨b, o, e, hlt, hc⟩ := h i hi
  exact ⟨b, o, e, Nat.lt_of_lt_of_le hlt hb.size, by rw [hb.cell (p := ⟨b, o + i, none⟩) hlt]; exact hc⟩
/-- Block g holds these limbs, and then what r says; none of it frozen. -/
def Blk (w : World) (g : Nat) (ys : List Nat) (r : List Value) : Prop := w.heap[g]? = some (.cells (ys.map lv ++ r).toArray 23 (0, 0))
/-- The world with other limbs in block g. -/
def put (g : Nat) (ys : List Nat) (r : List Value) (w : World) : World := { w with heap := w.heap.setIfInBounds g (.cells (ys.map lv ++ r).toArray 23 (0, 0)) }

theorem Blk.lt {w : World} {g : Nat} {ys : List Nat} {r : List Value} (h : Blk w g ys r) : g < w.heap.size := by
  rcases Nat.lt_or_ge g w.heap.size with h1 | h1
  · exact h1
  · rw [Blk, Array.getElem?_eq_none h1] at h; cases h
theorem Blk.cell {w : World} {g : Nat} {ys : List Nat} {r : List Value} (h : Blk w g ys r) (i : Nat) (hi : i < ys.length) :
    w.cell? ⟨g, i, none⟩ = some (.int .u32 ((ys.getD i 0 : Nat) : Int)) := by
  unfold Blk at h
  have e : (List.map lv ys ++ r)[i]? = some (lv (ys.getD i 0)) := by
    rw [List.getElem?_append_left (by simpa using hi)]
    simp [List.getD, hi]
  simp only [World.cell?, h]
  simpa [lv] using e
theorem Blk.free {w : World} {g : Nat} {ys : List Nat} {r : List Value} (h : Blk w g ys r) (i : Nat) : w.frozen? ⟨g, i, none⟩ = false := by
  unfold Blk at h
  simp [World.frozen?, h]
theorem Blk.rd {w : World} {g : Nat} {ys : List Nat} {r : List Value} (h : Blk w g ys r) (o n : Nat) (hn : o + n ≤ ys.length) : Rd w (some ⟨g, o, none⟩) ((ys.drop o).take n) := by
  intro i hi
  rw [List.length_take, List.length_drop] at hi
  refine ⟨g, o, rfl, h.lt, ?_⟩
  rw [h.cell (o + i) (by omega)]
  simp [List.getD, show i < n by omega]
theorem Blk.rd_all {w : World} {g : Nat} {ys : List Nat} {r : List Value} (h : Blk w g ys r) : Rd w (some ⟨g, 0, none⟩) ys := by
  have := h.rd 0 ys.length (by omega)
  simpa using this
theorem put_heap (g : Nat) (ys : List Nat) (r : List Value) (w : World) : (put g ys r w).heap.size = w.heap.size := by simp [put]
theorem put_blk {w : World} {g : Nat} (ys : List Nat) (r : List Value) (h : g < w.heap.size) : Blk (put g ys r w) g ys r := by
  simp [Blk, put, h]
theorem put_put (g : Nat) (ys zs : List Nat) (r r' : List Value) (w : World) : put g ys r (put g zs r' w) = put g ys r w := by
  simp [put]
theorem put_other (g : Nat) (ys : List Nat) (r : List Value) (w : World) (k : Nat) (h : k ≠ g) : (put g ys r w).heap[k]? = w.heap[k]? := by
  simp only [put]; rw [Array.getElem?_setIfInBounds_ne (by omega)]
theorem put_cell (g : Nat) (ys : List Nat) (r : List Value) (w : World) (a : Addr) (h : a.block ≠ g) : (put g ys r w).cell? a = w.cell? a :=
  World.cell?_of_block (put_other g ys r w _ h)
theorem put_same {w : World} {g : Nat} {ys : List Nat} {r : List Value} (h : Blk w g ys r) : put g ys r w = w := by
  have hlt := h.lt
  unfold Blk at h
  have e : w.heap.setIfInBounds g (.cells (ys.map lv ++ r).toArray 23 (0, 0)) = w.heap := by
    apply Array.ext_getElem?
    intro k
    by_cases hk : k = g
    · subst hk; rw [Array.getElem?_setIfInBounds_self_of_lt hlt, h]
    · rw [Array.getElem?_setIfInBounds_ne (by omega)]
  simp only [put]; rw [e]
theorem set_blk {w : World} {g : Nat} {ys : List Nat} {r : List Value} (h : Blk w g ys r) (i v : Nat) (hi : i < ys.length) : w.setCell ⟨g, i, none⟩ (.int .u32 (v : Int)) = put g (ys.set i v) r w := by
  have hlt := h.lt
  unfold Blk at h
  have e : (w.setCell ⟨g, i, none⟩ (.int .u32 (v : Int))).heap = w.heap.setIfInBounds g (.cells ((ys.set i v).map lv ++ r).toArray 23 (0, 0)) := by
    apply Array.ext_getElem?
    intro k
    simp only [World.setCell, Array.getElem?_modify]
    by_cases hk : g = k
    · subst hk; rw [Array.getElem?_setIfInBounds_self_of_lt hlt, h]; simp [lv, hi]
    · rw [if_neg hk, Array.getElem?_setIfInBounds_ne hk]
  unfold put; rw [← e]; rfl
theorem put_below {B : Nat} {a w : World} (h : Below B a w) {g : Nat} (hg : B ≤ g) (ys : List Nat) (r : List Value) : Below B a (put g ys r w) :=
  h.trans ⟨rfl, rfl, rfl, by rw [put_heap]; exact Nat.le_refl _, fun k hk => put_other g ys r w k (by omega)⟩
theorem Rd.put {w : World} {ad : Option Addr} {xs : List Nat} (h : Rd w ad xs) {g : Nat} (hne : ∀ a, ad = some a → 0 < xs.length → a.block ≠ g) (ys : List Nat) (r : List Value) : Rd (put g ys r w) ad xs := by
  intro i hi
  obtain ⟨b, o, e, hb, hc⟩ := h i hi
  exact ⟨b, o, e, by rw [put_heap]; exact hb, by rw [put_cell g ys r w ⟨b, o + i, none⟩ (hne ⟨b, o, none⟩ e (by omega))]; exact hc⟩
theorem Rd.drewN {w : World} {ad : Option Addr} {xs : List Nat} (h : Rd w ad xs) (q : Nat) : Rd (w.drewN q) ad xs := h
theorem Blk.drewN {w : World} {g : Nat} {ys : List Nat} {r : List Value} (h : Blk w g ys r) (q : Nat) : Blk (w.drewN q) g ys r := h
theorem Blk.below {w w' : World} {g : Nat} {ys : List Nat} {r : List Value} (h : Blk w g ys r) {B : Nat} (hb : Below B w w') (hg : g < B) : Blk w' g ys r := by
  unfold Blk; rw [hb.block g hg]; exact h

/-- A slice of limbs that the call owns: at the head of a block from B on, or none. -/
def Own (B : Nat) (w : World) (v : Value) (xs : List Nat) : Prop :=
  Okl xs ∧ ((v = .slice none 0 0 ∧ xs = []) ∨ ∃ g cap r, v = .slice (some ⟨g, 0, none⟩) xs.length cap ∧ B ≤ g ∧ Blk w g xs r ∧ cap = xs.length + r.length ∧ cap ≤ maxLen)
theorem Own.nil (B : Nat) (w : World) : Own B w (.slice none 0 0) [] := ⟨Okl.nil, .inl ⟨rfl, rfl⟩⟩
/-- What is owned can be read; its address lies from B on. -/
theorem Own.view {B : Nat} {w : World} {v : Value} {xs : List Nat} (h : Own B w v xs) :
    ∃ ad cap, v = .slice ad xs.length cap ∧ xs.length ≤ cap ∧ Rd w ad xs ∧ ∀ a, ad = some a → B ≤ a.block ∧ a.block < w.heap.size := by
  obtain ⟨_, ⟨rfl, rfl⟩ | ⟨g, cap, r, rfl, hg, hb, hc, _⟩⟩ := h
  · exact ⟨none, 0, rfl, Nat.le_refl _, Rd.nil _ _, fun a h => by cases h⟩
  · exact ⟨_, cap, rfl, by omega, hb.rd_all, fun a h => by cases h; exact ⟨hg, hb.lt⟩⟩
theorem Own.mono {B B' : Nat} {w : World} {v : Value} {xs : List Nat} (h : Own B w v xs) (hB : B' ≤ B) : Own B' w v xs := by
  obtain ⟨ho, h | ⟨g, cap, r, e, hg, hb, hc⟩⟩ := h
  · exact ⟨ho, .inl h⟩
  · exact ⟨ho, .inr ⟨g, cap, r, e, by omega, hb, hc⟩⟩
theorem Own.below {B : Nat} {w w' : World} {v : Value} {xs : List Nat} (h : Own B w v xs) (hb : Below w.heap.size w w') : Own B w' v xs := by
  obtain ⟨ho, h | ⟨g, cap, r, e, hg, hk, hc⟩⟩ := h
  · exact ⟨ho, .inl h⟩
  · exact ⟨ho, .inr ⟨g, cap, r, e, hg, hk.below hb hk.lt, hc⟩⟩
theorem Own.drewN {B : Nat} {w : World} {v : Value} {xs : List Nat} (h : Own B w v xs) (q : Nat) : Own B (w.drewN q) v xs := h
theorem Okl.of_cut {xs : List Nat} (h : Okl xs) (n : Nat) : Okl (xs.take n) := h.take n
/-- A piece at the head of what is owned is owned. -/
theorem Blk.own {w : World} {g B : Nat} {ys : List Nat} {r : List Value} (h : Blk w g ys r) (hg : B ≤ g) (ho : Okl ys) (n cap : Nat) (hn : n ≤ ys.length) (hc : cap = ys.length + r.length) (hm : cap ≤ maxLen) :
    Own B w (.slice (some ⟨g, 0, none⟩) n cap) (ys.take n) := by
  refine ⟨ho.take n, .inr ⟨g, cap, (ys.drop n).map lv ++ r, ?_, hg, ?_, ?_, hm⟩⟩
  · rw [List.length_take, Nat.min_eq_left hn]
  · unfold Blk at h ⊢; rw [h, ← List.append_assoc, ← List.map_append, List.take_append_drop]
  · simp; omega
end Go.Proofs.YtolmmpdgbkbcmaaDoor
