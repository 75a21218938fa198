/- Chapter 9's own Get. -/
import Derived.Test.YtmnaccojekojkaaH7
namespace Go.Proofs.Ytmnaccojekojkaa
open Go.RowKit Go.Lib
set_option linter.unusedVariables false
set_option linter.unusedSimpArgs false
theorem natB_snoc (l : List Nat) (x : Nat) : natB (l ++ [x]) = natB l * 256 + x := by simp [natB]
theorem natB_lt : ∀ (n : Nat) (l : List Nat), l.length = n → (∀ x ∈ l, x < 256) → natB l < 256 ^ n := by
  intro n
  induction n with
  | zero => intro l h _; rw [List.eq_nil_of_length_eq_zero h]; decide
  | succ n ih =>
    intro l h hb
    have hne : l ≠ [] := by intro e; subst e; cases h
    obtain ⟨k, x, rfl⟩ : ∃ k x, l = k ++ [x] := ⟨l.dropLast, l.getLast hne, (List.dropLast_concat_getLast hne).symm⟩
    have h1 := ih k (by simpa using h) (fun y hy => hb y (by simp [hy]))
    have h2 := hb x (by simp)
    rw [natB_snoc, Nat.pow_succ]
    omega
theorem pow7 {j : Nat} (hj : j ≤ 7) : 256 ^ j ≤ 72057594037927936 := Nat.le_trans (Nat.pow_le_pow_right (by decide) hj) (by decide)
end Go.Proofs.Ytmnaccojekojkaa
