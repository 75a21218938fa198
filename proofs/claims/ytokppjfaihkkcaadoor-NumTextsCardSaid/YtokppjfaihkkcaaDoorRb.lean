/- The walk of the reference's Bits. -/
import Derived.Test.YtokppjfaihkkcaaDoorRz
namespace Go.Proofs.YtokppjfaihkkcaaDoor
open Go.RowKit
set_option linter.unusedVariables false
set_option linter.unusedSimpArgs false

theorem bits_is {N j : Nat} (h1 : 2 ^ j ≤ N) (h2 : N < 2 ^ (j + 1)) : bitsN N = j + 1 := by
  have h0 : N ≠ 0 := by have := Nat.pow_pos (show 0 < 2 by decide) (n := j); omega
  obtain ⟨t, e, b1, b2⟩ := bitsN_bounds h0
  rw [e]
  have : t = j := by
    rcases Nat.lt_trichotomy t j with h | h | h
    · have := Nat.pow_le_pow_right (show 0 < 2 by decide) (show t + 1 ≤ j by omega); omega
    · exact h
    · have := Nat.pow_le_pow_right (show 0 < 2 by decide) (show j + 1 ≤ t by omega); omega
  omega
theorem bit_low {N j : Nat} (h : N < 2 ^ (j + 1)) (hb : N / 2 ^ j % 2 = 0) : N < 2 ^ j := by
  have h1 : N / 2 ^ j < 2 := by
    rw [Nat.div_lt_iff_lt_mul (Nat.pow_pos (by decide))]; rw [Nat.pow_succ, Nat.mul_comm] at h; exact h
  have h2 : N / 2 ^ j = 0 := by
    generalize N / 2 ^ j = q at *
    omega
  rcases Nat.div_eq_zero_iff.1 h2 with h3 | h3
  · have := Nat.pow_pos (show 0 < 2 by decide) (n := j); omega
  · exact h3
theorem bit_high {N j : Nat} (hb : N / 2 ^ j % 2 = 1) : 2 ^ j ≤ N := by
  rcases Nat.lt_or_ge N (2 ^ j) with h | h
  · rw [Nat.div_eq_of_lt h] at hb; simp at hb
  · exact h
theorem bits_none {N : Nat} (h : N < 2 ^ 0) : bitsN N = 0 := by
  have : N = 0 := by simpa using h
  subst this; exact bitsN_z

theorem and_oneb (x R : Nat) (hx : x < 4294967296) : bits .and .u32 ((x : Int) / 2 ^ R) 1 = ((x / 2 ^ R % 2 : Nat) : Int) := by
  have e : ((x : Int) / 2 ^ R) = ((x / 2 ^ R : Nat) : Int) := by simp
  have h := u32_and_nat (x / 2 ^ R) 1 (Nat.lt_of_le_of_lt (Nat.div_le_self _ _) hx) (by omega)
  rw [e]
  rw [Nat.and_one_is_mod] at h
  exact h
def BtRel (N c : Nat) (w : World) (g : Nat) (n : Value) (wr : World) : Prop := ∃ j, j ≤ g ∧ j ≤ 32 * c ∧ n = .int .i64 ((j : Nat) : Int) ∧ N < 2 ^ j ∧ wr = w

end Go.Proofs.YtokppjfaihkkcaaDoor
