/- Floats: their bits, as Go's library has them; the walk of ieee's Same. -/
import Derived.Test.YtokppjfaihkkcaaDoorFs
import Derived.Laws.Externs
namespace Go.Proofs.YtokppjfaihkkcaaDoor
open Go.RowKit Go.Sort
set_option linter.unusedVariables false
set_option linter.unusedSimpArgs false

theorem run_bits (b : Nat) (W : World) : Sem.run Tryd.prog (callFunc 22 #[.float .f64 b]) W = Result.ok (Next.value (.int .u64 (b : Int))) W := by
  rw [run_callFunc_extern Tryd.func22 (by kernel_rfl) (by kernel_rfl) (by kernel_rfl) (e := Extern.MathFloatBits.float64bits) (by kernel_rfl)]
  rfl
theorem run_frombits (n : Int) (W : World) : Sem.run Tryd.prog (callFunc 81 #[.int .u64 n]) W = Result.ok (Next.value (.float .f64 n.toNat)) W := by
  rw [run_callFunc_extern Tryd.func81 (by kernel_rfl) (by kernel_rfl) (by kernel_rfl) (e := Extern.MathFloatBits.float64frombits) (by kernel_rfl)]
  rfl
/-- Is a float none? -/
def nanB (b : Nat) : Bool := decide (kindF 11 52 b = 4)
theorem order_self (b : Nat) : (FloatKind.f64.format.order b b == some .eq) = !nanB b := by
  have hw := word_parts 11 52 b
  have he : fEx 11 52 b < 2048 := Nat.mod_lt _ (by decide)
  have hf : fFr 52 b < 4503599627370496 := Nat.mod_lt _ (by decide)
  have hs : Ieee.double.signWeight = 9223372036854775808 := by decide
  have hi : Ieee.double.infRung = 9218868437227405312 := by decide
  have hb : Ieee.double.binade = 4503599627370496 := by decide
  have hk : nanB b = decide (9218868437227405312 < b % 9223372036854775808) := by
    unfold nanB kindF
    rw [show b % 9223372036854775808 = fFr 52 b + 2 ^ 52 * fEx 11 52 b from hw]
    refine decide_eq_decide.2 ?_
    generalize fEx 11 52 b = e at *
    generalize fFr 52 b = f at *
    repeat' split
    all_goals omega
  rw [hk]
  show (Ieee.double.order b b == some .eq) = _
  unfold Ieee.Format.order Ieee.Format.read
  simp only [hs, hi, hb]
  by_cases h1 : b % 9223372036854775808 < 4503599627370496
  · simp only [h1, if_true]
    rw [decide_eq_false (by omega)]
    simp [Ieee.Datum.order, compare, compareOfLessAndEq]
  · simp only [h1, if_false]
    by_cases h2 : b % 9223372036854775808 < 9218868437227405312
    · simp only [h2, if_true]
      rw [decide_eq_false (by omega)]
      simp [Ieee.Datum.order, compare, compareOfLessAndEq]
    · simp only [h2, if_false]
      by_cases h3 : b % 9223372036854775808 = 9218868437227405312
      · simp only [h3, if_true]
        rw [decide_eq_false (by omega)]
        simp [Ieee.Datum.order, compare, compareOfLessAndEq]
      · simp only [h3, if_false]
        rw [decide_eq_true (by omega)]
        rfl

set_option maxHeartbeats 2000000 in
theorem isNaN_any (b : Nat) (w : World) : Calls Tryd.prog 23 #[.float .f64 b] w fun r w' => r = .returned (.bool (nanB b)) ∧ w' = w := by
  have ho := order_self b
  go_enter Tryd.func23, Tryd.ntmps23
  go_wp2_with fail
  go_ret
  refine ⟨?_, rfl⟩
  show Ending.returned (Value.bool (!(FloatKind.f64.format.order b b == some Ordering.eq))) = _
  rw [ho, Bool.not_not]

def sameF (a b : Nat) : Bool := decide (a = b) || (nanB a && nanB b)
theorem nan_kind (b : Nat) : (kindW 64 b == 4) = nanB b := by
  show ((kindF 11 52 b : Int) == 4) = decide (kindF 11 52 b = 4)
  by_cases h : kindF 11 52 b = 4
  · rw [h]; rfl
  · rw [decide_eq_false h, beq_eq_false_iff_ne]; omega
theorem eq_beq (a b : Nat) : ((a : Int) == (b : Int)) = decide (a = b) := by
  by_cases h : a = b
  · subst h; simp
  · rw [decide_eq_false h, beq_eq_false_iff_ne]; omega

end Go.Proofs.YtokppjfaihkkcaaDoor
