/- The walk of the reference's Digits. -/
import Derived.Test.YtokppjfaihkkcaaDoorRs
import Derived.Test.YtokppjfaihkkcaaDoorC5
namespace Go.Proofs.YtokppjfaihkkcaaDoor
open Go.RowKit
set_option linter.unusedVariables false
set_option linter.unusedSimpArgs false

def RDRel (G N : Nat) (w : World) (M : Nat) (s lv : Value) (wr : World) : Prop :=
  ∃ T : List Nat, s = .string (txt T) ∧ Own G wr lv (limbs M) ∧ M ≤ N ∧ (decl M).reverse ++ T = (decl N).reverse ∧ Below G w wr

theorem decl_len90 {N : Nat} (h : (dec N).length ≤ 900) : (decl N).length ≤ 900 := by
  by_cases h0 : N = 0
  · subst h0; rw [decl_zero]; simp
  · unfold dec at h; rw [if_neg h0, List.length_reverse] at h; exact h
theorem txt_some {l : List Nat} (h : l ≠ []) : (txt l).toList.isEmpty = false := by
  cases l with
  | nil => exact absurd rfl h
  | cons a b => rw [ByteArray.toList_eq]; simp [txt]
theorem txt_none : (txt []).toList.isEmpty = true := by rw [ByteArray.toList_eq]; simp [txt]
theorem dig_cut {r : Nat} (h : r < 10) : (⟨#[48, 49, 50, 51, 52, 53, 54, 55, 56, 57]⟩ : ByteArray).extract r (r + 1) = txt [48 + r] := by
  have h1 : r = 0 ∨ r = 1 ∨ r = 2 ∨ r = 3 ∨ r = 4 ∨ r = 5 ∨ r = 6 ∨ r = 7 ∨ r = 8 ∨ r = 9 := by omega
  rcases h1 with rfl | rfl | rfl | rfl | rfl | rfl | rfl | rfl | rfl | rfl <;> (apply ByteArray.ext; decide)

end Go.Proofs.YtokppjfaihkkcaaDoor
