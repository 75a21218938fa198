/- What IeeeHalves leans on: odd naturals times halves, as floats. -/
import Derived.Test.YtnncokgdmdbidaaDoorFb
namespace Go.Proofs.YtnncokgdmdbidaaDoor
open Go.RowKit Go.Sort
set_option linter.unusedVariables false
set_option linter.unusedSimpArgs false

theorem odd_five {m k : Nat} (h : m % 2 = 1) : (m * 5 ^ k) % 2 = 1 := by
  induction k with
  | zero => simpa using h
  | succ k ih => rw [Nat.pow_succ, ← Nat.mul_assoc]; omega
theorem odd_ten {n : Nat} (h : n % 2 = 1) : n % 10 ≠ 0 := by omega
theorem half_fives {m k : Nat} : fives (m * 5 ^ k) (-(k : Int)) = some m := by
  refine fives_iff.2 ?_
  unfold Fv
  rw [show (-(k : Int)).toNat = 0 by omega, show (-(-(k : Int))).toNat = k by omega, Nat.pow_zero, Nat.mul_one]
theorem tz_odd {m : Nat} (h : m % 2 = 1) : tz m = 0 ∧ odd m = m := tz_unique (o := m) (by simp) h
/-- Which halves a width has. -/
theorem half_join {e f m k : Nat} (hl : Lay e f) (hm : m % 2 = 1) (h64 : m < 18446744073709551616) (hk : k ≤ 11) : (joinF e f m (-(k : Int))).isSome = decide (lenB m ≤ f + 1 ∧ (lenB m : Int) - (k : Int) ≤ 2 ^ (e - 1)) := by
  obtain ⟨l1, l2, l3⟩ := lenB_bounds (o := m) (by omega) h64
  have hls : -1074 ≤ leastF e f ∧ leastF e f ≤ -24 := by rcases hl with ⟨rfl, rfl⟩ | ⟨rfl, rfl⟩ | ⟨rfl, rfl⟩ <;> decide
  unfold joinF
  simp only []
  generalize lenB m = L at *
  generalize leastF e f = lst at *
  generalize (2 : Int) ^ (e - 1) = H at *
  by_cases h : (-(k : Int) + (L : Int) - 1 > H - 1 ∨ -(k : Int) < max (-(k : Int) + (L : Int) - 1 - (f : Int)) lst)
  · rw [if_pos h, decide_eq_false (by omega)]; rfl
  · rw [if_neg h, decide_eq_true (by omega)]; rfl
theorem half_to {width : Int} {e f m k : Nat} {ng : Bool} (hlo : layOf width = some (e, f)) (hm : m % 2 = 1) (h64 : m < 18446744073709551616) (hk : k ≤ 11) : (toF width ng (m * 5 ^ k) (-(k : Int))).isSome = decide (lenB m ≤ f + 1 ∧ (lenB m : Int) - (k : Int) ≤ 2 ^ (e - 1)) := by
  have hl := layOf_lay hlo
  have hM : m * 5 ^ k ≠ 0 := by have := odd_five (k := k) hm; omega
  rw [toF_some hlo hM]
  have ht : toN e f (m * 5 ^ k) (-(k : Int)) = joinF e f m (-(k : Int)) := by
    unfold toN
    rw [half_fives]
    simp only []
    rw [(tz_odd hm).1, (tz_odd hm).2, if_pos h64]
    simp
  rw [ht, ← half_join hl hm h64 hk]
  cases joinF e f m (-(k : Int)) <;> rfl
/-- The highest bit of a float that is there is the sign. -/
theorem sign_top {width : Int} {e f M d : Nat} {E : Int} {ng : Bool} (hlo : layOf width = some (e, f)) (hM : M % 10 ≠ 0) (h : toF width ng M E = some d) : (d / 2 ^ (e + f) = 1 ↔ ng = true) := by
  have hL := layOf_lay hlo
  rw [toF_some hlo (by omega)] at h
  cases ht : toN e f M E with
  | none => rw [ht] at h; cases h
  | some y =>
    rw [ht] at h
    simp only [Option.some.injEq] at h
    obtain ⟨h1, _⟩ := ex_to hL hM ht
    have hp := twop_pos (e + f)
    rw [← h]
    cases ng
    · simp [Nat.div_eq_of_lt h1]
    · simp [Nat.add_div_right _ hp, Nat.div_eq_of_lt h1]
end Go.Proofs.YtnncokgdmdbidaaDoor
