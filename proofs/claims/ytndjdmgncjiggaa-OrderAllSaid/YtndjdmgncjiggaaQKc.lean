/- The walks of slices.Index on texts, tree's placeFor, members. -/
import Derived.Test.YtndjdmgncjiggaaQi
namespace Go.Proofs.Ytndjdmgncjiggaa
open Go.RowKit Go.Shelf
set_option linter.unusedVariables false
set_option linter.unusedSimpArgs false

/-- Texts, compared. -/
def eqS (a b : ByteArray) : Bool := a.toList == b.toList
theorem eqS_iff {a b : ByteArray} : eqS a b = true ↔ a = b := by
  unfold eqS
  rw [beq_iff_eq]
  refine ⟨fun h => ?_, fun h => by rw [h]⟩
  rw [Lib.toList_data, Lib.toList_data] at h
  exact ByteArray.ext (Array.toList_inj.1 h)
theorem eqS_refl (a : ByteArray) : eqS a a = true := eqS_iff.2 rfl
theorem eqS_no {a b : ByteArray} : eqS a b = false ↔ a ≠ b := by rw [← Bool.not_eq_true, eqS_iff]
/-- Where a text stands first. -/
def ixL : List ByteArray → ByteArray → Option Nat
  | [], _ => none
  | x :: l, s => if eqS x s then some 0 else (ixL l s).map (· + 1)
def ixZ (l : List ByteArray) (s : ByteArray) : Int := match ixL l s with | none => -1 | some i => i
theorem ixL_some {l : List ByteArray} {s : ByteArray} {i : Nat} (hi : i < l.length) (he : l.getD i ByteArray.empty = s) (hb : ∀ j, j < i → l.getD j ByteArray.empty ≠ s) : ixL l s = some i := by
  induction l generalizing i with
  | nil => simp at hi
  | cons x l ih =>
    cases i with
    | zero => simp at he; subst he; unfold ixL; rw [eqS_refl, if_pos rfl]
    | succ i =>
      have h0 := hb 0 (by omega)
      simp at h0
      unfold ixL
      rw [eqS_no.2 h0, if_neg (by decide), ih (i := i) (by simpa using hi) (by simpa using he) (fun j hj => by have := hb (j + 1) (by omega); simpa using this)]
      rfl
theorem ixL_none {l : List ByteArray} {s : ByteArray} (hb : ∀ j, j < l.length → l.getD j ByteArray.empty ≠ s) : ixL l s = none := by
  induction l with
  | nil => rfl
  | cons x l ih =>
    have h0 := hb 0 (by simp)
    simp at h0
    unfold ixL
    rw [eqS_no.2 h0, if_neg (by decide), ih (fun j hj => by have := hb (j + 1) (by simpa using hj); simpa using this)]
    rfl
theorem ixL_cases (l : List ByteArray) (s : ByteArray) : (ixL l s = none ∧ ∀ j, j < l.length → l.getD j ByteArray.empty ≠ s) ∨ ∃ i, ixL l s = some i ∧ i < l.length ∧ l.getD i ByteArray.empty = s ∧ ∀ j, j < i → l.getD j ByteArray.empty ≠ s := by
  induction l with
  | nil => left; exact ⟨rfl, fun j hj => by simp at hj⟩
  | cons x l ih =>
    by_cases hx : x = s
    · right; subst hx; exact ⟨0, by unfold ixL; rw [eqS_refl, if_pos rfl], by simp, by simp, fun j hj => by omega⟩
    · rcases ih with ⟨h1, h2⟩ | ⟨i, h1, h2, h3, h4⟩
      · left
        refine ⟨by unfold ixL; rw [eqS_no.2 hx, if_neg (by decide), h1]; rfl, fun j hj => ?_⟩
        cases j with
        | zero => simpa using hx
        | succ j => have := h2 j (by simpa using hj); simpa using this
      · right
        refine ⟨i + 1, by unfold ixL; rw [eqS_no.2 hx, if_neg (by decide), h1]; rfl, by simpa using h2, by simpa using h3, fun j hj => ?_⟩
        cases j with
        | zero => simpa using hx
        | succ j => have := h4 j (by omega); simpa using this
/-- A whole number, in the world as it was. -/
def IntSame (i : Int) (w : World) (e : Ending) (w' : World) : Prop := e = .returned (.int .i64 i) ∧ w' = w
def IX (l : List ByteArray) (s : ByteArray) (w : World) (k : Nat) (i : Value) (wr : World) : Prop :=
  ∃ j : Nat, j ≤ l.length ∧ l.length - j ≤ k ∧ i = .int .i64 (j : Int) ∧ (∀ q, q < j → l.getD q ByteArray.empty ≠ s) ∧ wr = w

/-- Where a new name stands: ahead of the first one that is above it. -/
def plL : List ByteArray → ByteArray → Nat
  | [], _ => 0
  | x :: l, s => if ltS s x then 0 else plL l s + 1
theorem plL_le (l : List ByteArray) (s : ByteArray) : plL l s ≤ l.length := by
  induction l with
  | nil => exact Nat.le_refl _
  | cons x l ih => unfold plL; split <;> simp <;> omega
theorem plL_at {l : List ByteArray} {s : ByteArray} {i : Nat} (hi : i < l.length) (he : ltS s (l.getD i ByteArray.empty) = true) (hb : ∀ j, j < i → ltS s (l.getD j ByteArray.empty) = false) : plL l s = i := by
  induction l generalizing i with
  | nil => simp at hi
  | cons x l ih =>
    unfold plL
    cases i with
    | zero => simp at he; rw [he, if_pos rfl]
    | succ i =>
      have h0 := hb 0 (by omega)
      simp at h0
      rw [h0, if_neg (by decide), ih (i := i) (by simpa using hi) (by simpa using he) (fun j hj => by have := hb (j + 1) (by omega); simpa using this)]
theorem plL_end {l : List ByteArray} {s : ByteArray} (hb : ∀ j, j < l.length → ltS s (l.getD j ByteArray.empty) = false) : plL l s = l.length := by
  induction l with
  | nil => rfl
  | cons x l ih =>
    have h0 := hb 0 (by simp)
    simp at h0
    unfold plL
    rw [h0, if_neg (by decide), ih (fun j hj => by have := hb (j + 1) (by simpa using hj); simpa using this)]
    rfl
def PL (l : List ByteArray) (s : ByteArray) (w : World) (k : Nat) (i : Value) (wr : World) : Prop :=
  ∃ j : Nat, j ≤ l.length ∧ l.length - j ≤ k ∧ i = .int .i64 (j : Int) ∧ (∀ q, q < j → ltS s (l.getD q ByteArray.empty) = false) ∧ wr = w

end Go.Proofs.Ytndjdmgncjiggaa
