/- Lists of one-cell values in the world: read, owned, written. The kit of the seats without limbs. -/
import Derived.Test.YtmnaccojekojkaaRows
import Derived.Below
import Derived.WalkKit
import Derived.WalkSpells
import Derived.WalkLawsBesides
import Derived.Deep.QuietTactic
import Derived.BigQuiet
import Derived.Lib.Hide
import Derived.OwnWalk
import Derived.Laws.AppendOwn
import Derived.Laws.MakeOwn
import Derived.Laws.CopyOwn
import Derived.Deep.OwnRows
namespace Go.Proofs.Ytmnaccojekojkaa
open Go.RowKit
set_option linter.unusedVariables false
set_option linter.unusedSimpArgs false

theorem below_on {w w1 w2 : World} (h : Below w.heap.size w w1) (h2 : Below w1.heap.size w1 w2) : Below w.heap.size w w2 := h.trans (h2.mono h.size)
theorem below_drew {B : Nat} {a w : World} (h : Below B a w) : Below B a w.drew := h.trans ⟨rfl, rfl, rfl, Nat.le_refl _, fun _ _ => rfl⟩
theorem below_drewN {B : Nat} {a w : World} (h : Below B a w) (n : Nat) : Below B a (w.drewN n) := h.trans ⟨rfl, rfl, rfl, Nat.le_refl _, fun _ _ => rfl⟩
theorem bcell {W w1 : World} (hb : Below W.heap.size W w1) : (∀ b o, b < W.heap.size → w1.cell? ⟨b, o, none⟩ = W.cell? ⟨b, o, none⟩) ∧ (∀ b o, b < W.heap.size → w1.frozen? ⟨b, o, none⟩ = W.frozen? ⟨b, o, none⟩) :=
  ⟨fun b o h => hb.cell (p := ⟨b, o, none⟩) h, fun b o h => hb.frozen (p := ⟨b, o, none⟩) h⟩

/-- The cells that a slice's address leads to read as these values. -/
def RdV (w : World) (ad : Option Addr) (vs : List Value) : Prop :=
  ∀ i, i < vs.length → ∃ b o, ad = some ⟨b, o, none⟩ ∧ b < w.heap.size ∧ w.cell? ⟨b, o + i, none⟩ = vs[i]?
theorem RdV.nil (w : World) (ad : Option Addr) : RdV w ad [] := by intro i h; simp at h
theorem RdV.at {w : World} {b o : Nat} {vs : List Value} (h : RdV w (some ⟨b, o, none⟩) vs) (i : Nat) (hi : i < vs.length) : w.cell? ⟨b, o + i, none⟩ = vs[i]? := by
  obtain ⟨b', o', e, _, hc⟩ := h i hi
  cases e; exact hc
theorem RdV.shape {w : World} {ad : Option Addr} {vs : List Value} (h : RdV w ad vs) (hp : 0 < vs.length) : ∃ b o, ad = some ⟨b, o, none⟩ ∧ b < w.heap.size := by
  obtain ⟨b, o, e, hb, _⟩ := h 0 hp
  exact ⟨b, o, e, hb⟩
theorem RdV.take {w : World} {ad : Option Addr} {vs : List Value} (h : RdV w ad vs) (n : Nat) : RdV w ad (vs.take n) := by
  intro i hi
  rw [List.length_take] at hi
  obtain ⟨b, o, e, hb, hc⟩ := h i (by omega)
  exact ⟨b, o, e, hb, by rw [hc, List.getElem?_take]; simp [show i < n by omega]⟩
theorem RdV.drop {w : World} {b o : Nat} {vs : List Value} (h : RdV w (some ⟨b, o, none⟩) vs) (k : Nat) : RdV w (some ⟨b, o + k, none⟩) (vs.drop k) := by
  intro i hi
  rw [List.length_drop] at hi
  obtain ⟨b', o', e, hb, hc⟩ := h (k + i) (by omega)
  cases e
  exact ⟨b, o + k, rfl, hb, by rw [Nat.add_assoc, hc, List.getElem?_drop]⟩
theorem RdV.below {w w' : World} {ad : Option Addr} {vs : List Value} (h : RdV w ad vs) {B : Nat} (hb : Below B w w') (hB : ∀ a, ad = some a → 0 < vs.length → a.block < B) : RdV w' ad vs := by
  intro i hi
  obtain ⟨b, o, e, hlt, hc⟩ := h i hi
  have hbb : b < B := hB _ e (by omega)
  exact ⟨b, o, e, Nat.lt_of_lt_of_le hlt hb.size, by rw [hb.cell (p := ⟨b, o + i, none⟩) hbb]; exact hc⟩
theorem RdV.on {w w' : World} {ad : Option Addr} {vs : List Value} (h : RdV w ad vs) (hb : Below w.heap.size w w') : RdV w' ad vs :=
  h.below hb fun a e hp => by obtain ⟨b, o, e', hlt, _⟩ := h 0 hp; rw [e] at e'; cases e'; exact hlt
theorem RdV.lt {w : World} {ad : Option Addr} {vs : List Value} (h : RdV w ad vs) (a : Addr) (e : ad = some a) (hp : 0 < vs.length) : a.block < w.heap.size := by
  obtain ⟨b, o, e', hb⟩ := h.shape hp
  rw [e] at e'; cases e'; exact hb

/-- Block g holds these values, cells of type e, none of it frozen. -/
def BlkV (w : World) (g : Nat) (e : TypeId) (vs : List Value) : Prop := w.heap[g]? = some (.cells vs.toArray e (0, 0))
theorem BlkV.lt {w : World} {g : Nat} {e : TypeId} {vs : List Value} (h : BlkV w g e vs) : g < w.heap.size := by
  rcases Nat.lt_or_ge g w.heap.size with h1 | h1
  · exact h1
  · rw [BlkV, Array.getElem?_eq_none h1] at h; cases h
theorem BlkV.cell {w : World} {g : Nat} {e : TypeId} {vs : List Value} (h : BlkV w g e vs) (i : Nat) : w.cell? ⟨g, i, none⟩ = vs[i]? := by
  unfold BlkV at h
  simp [World.cell?, h]
theorem BlkV.free {w : World} {g : Nat} {e : TypeId} {vs : List Value} (h : BlkV w g e vs) (i : Nat) : w.frozen? ⟨g, i, none⟩ = false := by
  unfold BlkV at h
  simp [World.frozen?, h]
theorem BlkV.rd {w : World} {g : Nat} {e : TypeId} {vs : List Value} (h : BlkV w g e vs) (o n : Nat) : RdV w (some ⟨g, o, none⟩) ((vs.drop o).take n) := by
  intro i hi
  rw [List.length_take, List.length_drop] at hi
  refine ⟨g, o, rfl, h.lt, ?_⟩
  rw [h.cell (o + i), List.getElem?_take, List.getElem?_drop]
  simp [show i < n by omega]
theorem BlkV.all {w : World} {g : Nat} {e : TypeId} {vs : List Value} (h : BlkV w g e vs) : RdV w (some ⟨g, 0, none⟩) vs := by
  have := h.rd 0 vs.length
  simpa using this
theorem BlkV.set {w : World} {g : Nat} {e : TypeId} {vs : List Value} (h : BlkV w g e vs) (i : Nat) (v : Value) : BlkV (w.setCell ⟨g, i, none⟩ v) g e (vs.set i v) := by
  have hlt := h.lt
  unfold BlkV at h ⊢
  simp only [World.setCell, Array.getElem?_modify, h]
  simp
theorem BlkV.drewN {w : World} {g : Nat} {e : TypeId} {vs : List Value} (h : BlkV w g e vs) (q : Nat) : BlkV (w.drewN q) g e vs := h
theorem BlkV.below {w w' : World} {g : Nat} {e : TypeId} {vs : List Value} (h : BlkV w g e vs) {B : Nat} (hb : Below B w w') (hg : g < B) : BlkV w' g e vs := by
  unfold BlkV; rw [hb.block g hg]; exact h

/-- All blocks but g are as they were; there may be new ones. -/
structure But (g : Nat) (w w' : World) : Prop where
  os : w'.os = w.os
  tape : w'.tape = w.tape
  output : w'.output = w.output
  size : w.heap.size ≤ w'.heap.size
  block : ∀ k, k < w.heap.size → k ≠ g → w'.heap[k]? = w.heap[k]?
theorem But.refl (g : Nat) (w : World) : But g w w := ⟨rfl, rfl, rfl, Nat.le_refl _, fun _ _ _ => rfl⟩
theorem But.trans {g : Nat} {a b c : World} (h : But g a b) (k : But g b c) : But g a c :=
  ⟨k.os.trans h.os, k.tape.trans h.tape, k.output.trans h.output, Nat.le_trans h.size k.size, fun i hi hn => (k.block i (Nat.lt_of_lt_of_le hi h.size) hn).trans (h.block i hi hn)⟩
theorem But.of_below {g : Nat} {w w' : World} (h : Below w.heap.size w w') : But g w w' := ⟨h.os, h.tape, h.output, h.size, fun k hk _ => h.block k hk⟩
theorem But.drewN {g : Nat} {a w : World} (h : But g a w) (n : Nat) : But g a (w.drewN n) := h.trans ⟨rfl, rfl, rfl, Nat.le_refl _, fun _ _ _ => rfl⟩
theorem But.setCell {g : Nat} {a w : World} (h : But g a w) (i : Nat) (v : Value) : But g a (w.setCell ⟨g, i, none⟩ v) :=
  h.trans ⟨rfl, rfl, rfl, by simp [World.setCell], fun k _ hn => Below.heap_setCell _ _ _ _ hn⟩
theorem But.below {g : Nat} {w w' : World} (h : But g w w') {B : Nat} (hg : B ≤ g) (hB : B ≤ w.heap.size) : Below B w w' :=
  ⟨h.os, h.tape, h.output, h.size, fun k hk => h.block k (by omega) (by omega)⟩
theorem But.blk {g k : Nat} {w w' : World} (h : But g w w') {e : TypeId} {vs : List Value} (hb : BlkV w k e vs) (hk : k ≠ g) : BlkV w' k e vs := by
  unfold BlkV; rw [h.block k hb.lt hk]; exact hb
theorem But.rd {g : Nat} {w w' : World} (h : But g w w') {ad : Option Addr} {vs : List Value} (hr : RdV w ad vs) (hn : ∀ a, ad = some a → 0 < vs.length → a.block ≠ g) : RdV w' ad vs := by
  intro i hi
  obtain ⟨b, o, e, hlt, hc⟩ := hr i hi
  exact ⟨b, o, e, Nat.lt_of_lt_of_le hlt h.size, by rw [World.cell?_of_block (w := w) (h.block b hlt (hn _ e (by omega)))]; exact hc⟩

/-- Whole numbers from 0 on as values. -/
def iv (n : Nat) : Value := .int .i64 (n : Int)
theorem iv_get (l : List Nat) (i : Nat) (hi : i < l.length) : (l.map iv)[i]? = some (.int .i64 ((l.getD i 0 : Nat) : Int)) := by
  simp [List.getD, hi, iv]
/-- Texts as values. -/
def sv (l : List ByteArray) : List Value := l.map Value.string
theorem sv_get (l : List ByteArray) (i : Nat) (hi : i < l.length) : (sv l)[i]? = some (.string (l.getD i ByteArray.empty)) := by
  simp [List.getD, hi, sv]
theorem sv_len (l : List ByteArray) : (sv l).length = l.length := by simp [sv]

theorem info_int : (Try.prog.info? 3).map (fun i => (i.zero, i.size, i.bytes)) = some (some (.int .i64 0), 1, 8) := by kernel_rfl
theorem made_ints (n : Nat) : (madeCells (Value.cells (.int .i64 0)) (n * 1)).toList = (List.replicate n 0).map iv := by
  simp only [madeCells]
  apply List.ext_getElem
  · simp
  · intro i h1 h2; simp [Value.cells, iv, Nat.mod_one]
/-- What make lays. -/
theorem made_blk (w : World) (z : Value) (n : Nat) (e : TypeId) : BlkV (w.alloc (.cells (madeCells #[z] n) e)) w.heap.size e (List.replicate n z) := by
  unfold BlkV
  rw [heap_alloc_new]
  congr 2
  apply Array.ext
  · simp [madeCells]
  · intro i h1 h2; simp [madeCells, Nat.mod_one]
theorem rep_iv (n : Nat) : List.replicate n (Value.int .i64 0) = (List.replicate n 0).map iv := by simp [iv]
end Go.Proofs.Ytmnaccojekojkaa
