/- Place: any number as one from 0 to n - 1. -/
import Derived.Test.YtmnaccojekojkaaV1
namespace Go.Proofs.Ytmnaccojekojkaa
open Go.RowKit
set_option linter.unusedVariables false
set_option linter.unusedSimpArgs false

/-- Any number as one from 0 to n - 1. -/
theorem place_any (v n : Int) (w : World) (hv : -9223372036854775808 ≤ v ∧ v ≤ 9223372036854775807) (hn : 0 < n ∧ n ≤ 100000000) :
    Calls Try.prog 11 #[.int .i64 v, .int .i64 n] w fun e w' => e = .returned (.int .i64 (v % n)) ∧ w' = w := by
  have h1 := Int.emod_nonneg v (show n ≠ 0 by omega)
  have h2 := Int.emod_lt_of_pos v hn.1
  have ht : v.tmod n = if 0 ≤ v ∨ v % n = 0 then v % n else v % n - n := by
    rw [Int.tmod_eq_emod]
    by_cases h0 : 0 ≤ v ∨ n ∣ v
    · rw [if_pos h0, if_pos (h0.imp id Int.emod_eq_zero_of_dvd)]; omega
    · rw [if_neg h0, if_neg (fun h => h0 (h.imp id Int.dvd_of_emod_eq_zero))]; omega
  have hne : n ≠ 0 := by omega
  have hnb : (n == 0) = false := by rw [beq_eq_false_iff_ne]; exact hne
  generalize v % n = r at *
  by_cases hv0 : 0 ≤ v ∨ r = 0
  · rw [if_pos hv0] at ht
    have hlt : ¬ (r < 0) := by omega
    clear hv0
    go_enter Try.func11, Try.ntmps11
    go_wp2_with fail
    go_ret
    exact ⟨rfl, rfl⟩
  · rw [if_neg hv0] at ht
    clear hv0
    go_enter Try.func11, Try.ntmps11
    go_wp2_with fail
    go_ret
    exact ⟨rfl, rfl⟩
end Go.Proofs.Ytmnaccojekojkaa
