/- Slices of bytes in the world: read, owned, written. (As XWorld's for limbs.) -/
import Derived.Test.YtolmmpdgbkbcmaaDoorNp
namespace Go.Proofs.YtolmmpdgbkbcmaaDoor
open Go.RowKit
set_option linter.unusedVariables false

def Okb (xs : List Nat) : Prop := ∀ x ∈ xs, x < 256
theorem Okb.nil : Okb [] := by intro x h; cases h
theorem Okb.take {xs : List Nat} (h : Okb xs) (n : Nat) : Okb (xs.take n) := fun y hy => h y (List.mem_of_mem_take hy)
theorem Okb.append {xs ys : List Nat} (h : Okb xs) (k : Okb ys) : Okb (xs ++ ys) := by
  intro y hy; rcases List.mem_append.1 hy with hy | hy
  · exact h y hy
  · exact k y hy
theorem Okb.one {x : Nat} (h : x < 256) : Okb [x] := by
  intro y hy; rw [List.mem_singleton] at hy; omega
theorem Okb.set {xs : List Nat} (h : Okb xs) (i v : Nat) (hv : v < 256) : Okb (xs.set i v) := by
  intro y hy; rcases List.mem_or_eq_of_mem_set hy with hy | hy
  · exact h y hy
  · exact hy ▸ hv
theorem Okb.getD {xs : List Nat} (h : Okb xs) (i : Nat) : xs.getD i 0 < 256 := by
  by_cases hi : i < xs.length
  · simp only [List.getD, List.getElem?_eq_getElem hi, Option.getD_some]; exact h _ (List.getElem_mem hi)
  · simp only [List.getD, List.getElem?_eq_none (Nat.le_of_not_lt hi), Option.getD_none]; decide

/-- A byte as a value. -/
def bv (n : Nat) : Value := .int .u8 (n : Int)

/-- The cells that a slice's address leads to read as these limbs. -/
def Rdb (w : World) (ad : Option Addr) (xs : List Nat) : Prop :=
  ∀ i, i < xs.length → ∃ b o, ad = some ⟨b, o, none⟩ ∧ b < w.heap.size ∧ w.cell? ⟨b, o + i, none⟩ = some (.int .u8 ((xs.getD i 0 : Nat) : Int))

theorem Rdb.at {w : World} {b o : Nat} {xs : List Nat} (h : Rdb w (some ⟨b, o, none⟩) xs) (i : Nat) (hi : i < xs.length) :
    w.cell? ⟨b, o + i, none⟩ = some (.int .u8 ((xs.getD i 0 : Nat) : Int)) := by
  obtain ⟨b', o', e, _, hc⟩ := h i hi
  cases e; exact hc
theorem Rdb.lt {w : World} {ad : Option Addr} {xs : List Nat} (h : Rdb w ad xs) (a : Addr) (e : ad = some a) (hx : 0 < xs.length) : a.block < w.heap.size := by
  obtain ⟨b, o, e', hb, _⟩ := h 0 hx
  rw [e] at e'; cases e'; exact hb
theorem Rdb.apart {w : World} {ad : Option Addr} {xs : List Nat} (h : Rdb w ad xs) {g : Nat} (hg : w.heap.size ≤ g) (a : Addr) (e : ad = some a) (hx : 0 < xs.length) : a.block ≠ g := by
  have := h.lt a e hx; omega
theorem Rdb.nil (w : World) (ad : Option Addr) : Rdb w ad [] := by intro i h; simp at h
theorem Rdb.take {w : World} {ad : Option Addr} {xs : List Nat} (h : Rdb w ad xs) (n : Nat) : Rdb w ad (xs.take n) := by
  intro i hi
  rw [List.length_take] at hi
  obtain ⟨b, o, e, hb, hc⟩ := h i (by omega)
  exact ⟨b, o, e, hb, by rw [hc]; simp [List.getD, show i < n by omega]⟩
theorem Rdb.below {w w' : World} {ad : Option Addr} {xs : List Nat} (h : Rdb w ad xs) (hb : Below w.heap.size w w') : Rdb w' ad xs := by
  intro i hi
  obtain ⟨b, o, e, hlt, hc⟩ := h i hi
  exact ⟨b, o, e, Nat.lt_of_lt_of_le hlt hb.size, by rw [hb.cell (p := ⟨b, o + i, none⟩) hlt]; exact hc⟩
/-- Block g holds these limbs, and then what r says; none of it frozen. -/
def Bkb (w : World) (g : Nat) (ys : List Nat) (r : List Value) : Prop := w.heap[g]? = some (.cells (ys.map bv ++ r).toArray 5 (0, 0))
/-- The world with other limbs in block g. -/
def putb (g : Nat) (ys : List Nat) (r : List Value) (w : World) : World := { w with heap := w.heap.setIfInBounds g (.cells (ys.map bv ++ r).toArray 5 (0, 0)) }

theorem Bkb.lt {w : World} {g : Nat} {ys : List Nat} {r : List Value} (h : Bkb w g ys r) : g < w.heap.size := by
  rcases Nat.lt_or_ge g w.heap.size with h1 | h1
  · exact h1
  · rw [Bkb, Array.getElem?_eq_none h1] at h; cases h
theorem Bkb.cell {w : World} {g : Nat} {ys : List Nat} {r : List Value} (h : Bkb w g ys r) (i : Nat) (hi : i < ys.length) :
    w.cell? ⟨g, i, none⟩ = some (.int .u8 ((ys.getD i 0 : Nat) : Int)) := by
  unfold Bkb at h
  have e : (List.map bv ys ++ r)[i]? = some (bv (ys.getD i 0)) := by
    rw [List.getElem?_append_left (by simpa using hi)]
    simp [List.getD, hi]
  simp only [World.cell?, h]
  simpa [bv] using e
theorem Bkb.free {w : World} {g : Nat} {ys : List Nat} {r : List Value} (h : Bkb w g ys r) (i : Nat) : w.frozen? ⟨g, i, none⟩ = false := by
  unfold Bkb at h
  simp [World.frozen?, h]
theorem Bkb.rd {w : World} {g : Nat} {ys : List Nat} {r : List Value} (h : Bkb w g ys r) (o n : Nat) (hn : o + n ≤ ys.length) : Rdb w (some ⟨g, o, none⟩) ((ys.drop o).take n) := by
  intro i hi
  rw [List.length_take, List.length_drop] at hi
  refine ⟨g, o, rfl, h.lt, ?_⟩
  rw [h.cell (o + i) (by omega)]
  simp [List.getD, show i < n by omega]
theorem Bkb.rd_all {w : World} {g : Nat} {ys : List Nat} {r : List Value} (h : Bkb w g ys r) : Rdb w (some ⟨g, 0, none⟩) ys := by
  have := h.rd 0 ys.length (by omega)
  simpa using this
theorem putb_heap (g : Nat) (ys : List Nat) (r : List Value) (w : World) : (putb g ys r w).heap.size = w.heap.size := by simp [putb]
theorem putb_blk {w : World} {g : Nat} (ys : List Nat) (r : List Value) (h : g < w.heap.size) : Bkb (putb g ys r w) g ys r := by
  simp [Bkb, putb, h]
theorem putb_put (g : Nat) (ys zs : List Nat) (r r' : List Value) (w : World) : putb g ys r (putb g zs r' w) = putb g ys r w := by
  simp [putb]
theorem putb_other (g : Nat) (ys : List Nat) (r : List Value) (w : World) (k : Nat) (h : k ≠ g) : (putb g ys r w).heap[k]? = w.heap[k]? := by
  simp only [putb]; rw [Array.getElem?_setIfInBounds_ne (by omega)]
theorem putb_cell (g : Nat) (ys : List Nat) (r : List Value) (w : World) (a : Addr) (h : a.block ≠ g) : (putb g ys r w).cell? a = w.cell? a :=
  World.cell?_of_block (putb_other g ys r w _ h)
theorem putb_same {w : World} {g : Nat} {ys : List Nat} {r : List Value} (h : Bkb w g ys r) : putb g ys r w = w := by
  have hlt := h.lt
  unfold Bkb at h
  have e : w.heap.setIfInBounds g (.cells (ys.map bv ++ r).toArray 5 (0, 0)) = w.heap := by
    apply Array.ext_getElem?
    intro k
    by_cases hk : k = g
    · subst hk; rw [Array.getElem?_setIfInBounds_self_of_lt hlt, h]
    · rw [Array.getElem?_setIfInBounds_ne (by omega)]
  simp only [putb]; rw [e]
theorem setb_blk {w : World} {g : Nat} {ys : List Nat} {r : List Value} (h : Bkb w g ys r) (i v : Nat) (hi : i < ys.length) : w.setCell ⟨g, i, none⟩ (.int .u8 (v : Int)) = putb g (ys.set i v) r w := by
  have hlt := h.lt
  unfold Bkb at h
  have e : (w.setCell ⟨g, i, none⟩ (.int .u8 (v : Int))).heap = w.heap.setIfInBounds g (.cells ((ys.set i v).map bv ++ r).toArray 5 (0, 0)) := by
    apply Array.ext_getElem?
    intro k
    simp only [World.setCell, Array.getElem?_modify]
    by_cases hk : g = k
    · subst hk; rw [Array.getElem?_setIfInBounds_self_of_lt hlt, h]; simp [bv, hi]
    · rw [if_neg hk, Array.getElem?_setIfInBounds_ne hk]
  unfold putb; rw [← e]; rfl
theorem putb_below {B : Nat} {a w : World} (h : Below B a w) {g : Nat} (hg : B ≤ g) (ys : List Nat) (r : List Value) : Below B a (putb g ys r w) :=
  h.trans ⟨rfl, rfl, rfl, by rw [putb_heap]; exact Nat.le_refl _, fun k hk => putb_other g ys r w k (by omega)⟩
theorem Rdb.putb {w : World} {ad : Option Addr} {xs : List Nat} (h : Rdb w ad xs) {g : Nat} (hne : ∀ a, ad = some a → 0 < xs.length → a.block ≠ g) (ys : List Nat) (r : List Value) : Rdb (putb g ys r w) ad xs := by
  intro i hi
  obtain ⟨b, o, e, hb, hc⟩ := h i hi
  exact ⟨b, o, e, by rw [putb_heap]; exact hb, by rw [putb_cell g ys r w ⟨b, o + i, none⟩ (hne ⟨b, o, none⟩ e (by omega))]; exact hc⟩
theorem Rdb.drewN {w : World} {ad : Option Addr} {xs : List Nat} (h : Rdb w ad xs) (q : Nat) : Rdb (w.drewN q) ad xs := h
theorem Bkb.drewN {w : World} {g : Nat} {ys : List Nat} {r : List Value} (h : Bkb w g ys r) (q : Nat) : Bkb (w.drewN q) g ys r := h
theorem Bkb.below {w w' : World} {g : Nat} {ys : List Nat} {r : List Value} (h : Bkb w g ys r) {B : Nat} (hb : Below B w w') (hg : g < B) : Bkb w' g ys r := by
  unfold Bkb; rw [hb.block g hg]; exact h

/-- A slice of limbs that the call owns: at the head of a block from B on, or none. -/
def Ownb (B : Nat) (w : World) (v : Value) (xs : List Nat) : Prop :=
  Okb xs ∧ ((v = .slice none 0 0 ∧ xs = []) ∨ ∃ g cap r, v = .slice (some ⟨g, 0, none⟩) xs.length cap ∧ B ≤ g ∧ Bkb w g xs r ∧ cap = xs.length + r.length ∧ cap ≤ maxLen)
theorem Ownb.nil (B : Nat) (w : World) : Ownb B w (.slice none 0 0) [] := ⟨Okb.nil, .inl ⟨rfl, rfl⟩⟩
/-- What is owned can be read; its address lies from B on. -/
theorem Ownb.view {B : Nat} {w : World} {v : Value} {xs : List Nat} (h : Ownb B w v xs) :
    ∃ ad cap, v = .slice ad xs.length cap ∧ xs.length ≤ cap ∧ Rdb w ad xs ∧ ∀ a, ad = some a → B ≤ a.block ∧ a.block < w.heap.size := by
  obtain ⟨_, ⟨rfl, rfl⟩ | ⟨g, cap, r, rfl, hg, hb, hc, _⟩⟩ := h
  · exact ⟨none, 0, rfl, Nat.le_refl _, Rdb.nil _ _, fun a h => by cases h⟩
  · exact ⟨_, cap, rfl, by omega, hb.rd_all, fun a h => by cases h; exact ⟨hg, hb.lt⟩⟩
theorem Ownb.mono {B B' : Nat} {w : World} {v : Value} {xs : List Nat} (h : Ownb B w v xs) (hB : B' ≤ B) : Ownb B' w v xs := by
  obtain ⟨ho, h | ⟨g, cap, r, e, hg, hb, hc⟩⟩ := h
  · exact ⟨ho, .inl h⟩
  · exact ⟨ho, .inr ⟨g, cap, r, e, by omega, hb, hc⟩⟩
theorem Ownb.below {B : Nat} {w w' : World} {v : Value} {xs : List Nat} (h : Ownb B w v xs) (hb : Below w.heap.size w w') : Ownb B w' v xs := by
  obtain ⟨ho, h | ⟨g, cap, r, e, hg, hk, hc⟩⟩ := h
  · exact ⟨ho, .inl h⟩
  · exact ⟨ho, .inr ⟨g, cap, r, e, hg, hk.below hb hk.lt, hc⟩⟩
theorem Ownb.drewN {B : Nat} {w : World} {v : Value} {xs : List Nat} (h : Ownb B w v xs) (q : Nat) : Ownb B (w.drewN q) v xs := h
/-- A piece at the head of what is owned is owned. -/
theorem Bkb.own {w : World} {g B : Nat} {ys : List Nat} {r : List Value} (h : Bkb w g ys r) (hg : B ≤ g) (ho : Okb ys) (n cap : Nat) (hn : n ≤ ys.length) (hc : cap = ys.length + r.length) (hm : cap ≤ maxLen) :
    Ownb B w (.slice (some ⟨g, 0, none⟩) n cap) (ys.take n) := by
  refine ⟨ho.take n, .inr ⟨g, cap, (ys.drop n).map bv ++ r, ?_, hg, ?_, ?_, hm⟩⟩
  · rw [List.length_take, Nat.min_eq_left hn]
  · unfold Bkb at h ⊢; rw [h, ← List.append_assoc, ← List.map_append, List.take_append_drop]
  · simp; omega
end Go.Proofs.YtolmmpdgbkbcmaaDoor
