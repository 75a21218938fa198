/- A whole number over a power of two: the float's exact number. -/
import Derived.Test.YtokppjfaihkkcaaDoorFp
namespace Go.Proofs.YtokppjfaihkkcaaDoor
open Go.RowKit Go.Sort
set_option linter.unusedVariables false
set_option linter.unusedSimpArgs false

theorem trim_ten {N : Nat} (h : N ≠ 0) (j : Nat) : trimM (N * tenN j) = trimM N ∧ trimK (N * tenN j) = trimK N + j := by
  obtain ⟨a, b⟩ := trim_spec h
  exact trim_unique (by rw [tenN_add, ← Nat.mul_assoc, ← a]) b
structure FloatIs (y M : Nat) (E : Int) : Prop where
  ok : okW 64 y = true
  neg : exNegW 64 y = false
  mag : exMW 64 y = M
  exp : exEW 64 y = E
theorem float_is {k L e : Nat} (h1 : 2 ^ L ≤ k) (h2 : k < 2 ^ (L + 1)) (hL : L < 50) (he : e < 30) :
    FloatIs ((L + 1023 - e) * 4503599627370496 + (k * 2 ^ (52 - L) - 4503599627370496)) (trimM (k * 5 ^ e)) ((trimK (k * 5 ^ e) : Int) - (e : Int)) := by
  have hk0 : k ≠ 0 := by have := Nat.two_pow_pos L; omega
  have hb : k * 2 ^ (52 - L) < 9007199254740992 := by
    have : k * 2 ^ (52 - L) < 2 ^ (L + 1) * 2 ^ (52 - L) := Nat.mul_lt_mul_of_pos_right h2 (Nat.two_pow_pos _)
    rw [← Nat.pow_add, show L + 1 + (52 - L) = 53 by omega] at this
    exact this
  have hb2 : 4503599627370496 ≤ k * 2 ^ (52 - L) := by
    have : 2 ^ L * 2 ^ (52 - L) ≤ k * 2 ^ (52 - L) := Nat.mul_le_mul_right _ h1
    rw [← Nat.pow_add, show L + (52 - L) = 52 by omega] at this
    exact this
  have hS : k * 2 ^ (52 - L) - 4503599627370496 + 2 ^ 52 = k * 2 ^ (52 - L) := by omega
  have hdec : k * 2 ^ (52 - L) * 5 ^ (e + 52 - L) = k * 5 ^ e * tenN (52 - L) := by
    rw [ten_two_five, show e + 52 - L = e + (52 - L) by omega, Nat.pow_add]
    simp only [Nat.mul_assoc, Nat.mul_comm, Nat.mul_left_comm]
  generalize hF : k * 2 ^ (52 - L) - 4503599627370496 = F at *
  have hF2 : F < 4503599627370496 := by omega
  generalize hq : L + 1023 - e = q at *
  have hq1 : 994 ≤ q ∧ q < 1073 := by omega
  have eE : fEx 11 52 (q * 4503599627370496 + F) = q := by unfold fEx; omega
  have eF : fFr 52 (q * 4503599627370496 + F) = F := by unfold fFr; omega
  have hk1 : kindF 11 52 (q * 4503599627370496 + F) = 1 := by unfold kindF; rw [eE, if_neg (by omega), if_neg (by omega)]
  have hlo : layOf 64 = some (11, 52) := rfl
  have hneg : fNeg 11 52 (q * 4503599627370496 + F) = false := by unfold fNeg; rw [Nat.div_eq_of_lt (by omega)]; rfl
  have hsz : sizeF 11 52 (q * 4503599627370496 + F) = k * 2 ^ (52 - L) := by unfold sizeF; rw [eE, if_neg (by omega), eF]; exact hS
  have htw : twosF 11 52 (q * 4503599627370496 + F) = -((e + 52 - L : Nat) : Int) := by
    unfold twosF; rw [eE, if_neg (by omega), show leastF 11 52 = -1074 from by decide]; omega
  have hN : exN 11 52 (q * 4503599627370496 + F) = k * 5 ^ e * tenN (52 - L) := by
    unfold exN decN
    rw [hsz, htw, show (- -((e + 52 - L : Nat) : Int)).toNat = e + 52 - L by omega, show (-((e + 52 - L : Nat) : Int)).toNat = 0 by omega, Nat.pow_zero, Nat.mul_one, hdec]
  obtain ⟨t1, t2⟩ := trim_ten (N := k * 5 ^ e) (Nat.mul_ne_zero hk0 (by have := five_pos e; omega)) (52 - L)
  refine ⟨?_, ?_, ?_, ?_⟩
  · unfold okW kindW; rw [hlo]; simp [hk1]
  · unfold exNegW; rw [hlo]; simp [hk1, hneg]
  · unfold exMW; rw [hlo]; simp only [hk1]; unfold exM; rw [hN]; simpa using t1
  · unfold exEW; rw [hlo]; simp only [hk1]; unfold exE; rw [hN, t2, htw]; simp; omega
theorem float_zero : FloatIs 0 0 0 := ⟨by decide, by decide, by decide, by decide⟩
end Go.Proofs.YtokppjfaihkkcaaDoor
