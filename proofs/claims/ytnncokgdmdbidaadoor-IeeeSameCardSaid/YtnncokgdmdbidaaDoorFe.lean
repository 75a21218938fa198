/- Floats: their bits, as Go's library has them; the walk of ieee's Same. -/
import Derived.Test.YtnncokgdmdbidaaDoorFs
import Derived.Laws.Externs
namespace Go.Proofs.YtnncokgdmdbidaaDoor
open Go.RowKit Go.Sort
set_option linter.unusedVariables false
set_option linter.unusedSimpArgs false

theorem run_bits (b : Nat) (W : World) : Sem.run Tryd.prog (callFunc 54 #[.float .f64 b]) W = Result.ok (Next.value (.int .u64 (b : Int))) W := by
  rw [run_callFunc_extern Tryd.func54 (by kernel_rfl) (by kernel_rfl) (by kernel_rfl) (e := Extern.MathFloatBits.float64bits) (by kernel_rfl)]
  rfl
theorem run_frombits (n : Int) (W : World) : Sem.run Tryd.prog (callFunc 103 #[.int .u64 n]) W = Result.ok (Next.value (.float .f64 n.toNat)) W := by
  rw [run_callFunc_extern Tryd.func103 (by kernel_rfl) (by kernel_rfl) (by kernel_rfl) (e := Extern.MathFloatBits.float64frombits) (by kernel_rfl)]
  rfl
/-- Is a float none? -/
def nanB (b : Nat) : Bool := decide (kindF 11 52 b = 4)
theorem order_self (b : Nat) : (FloatKind.f64.format.order b b == some .eq) = !nanB b := by
  have hw := word_parts 11 52 b
  have he : fEx 11 52 b < 2048 := Nat.mod_lt _ (by decide)
  have hf : fFr 52 b < 4503599627370496 := Nat.mod_lt _ (by decide)
  have hs : Ieee.double.signWeight = 9223372036854775808 := by decide
  have hi : Ieee.double.infRung = 9218868437227405312 := by decide
  have hb : Ieee.double.binade = 4503599627370496 := by decide
  have hk : nanB b = decide (9218868437227405312 < b % 9223372036854775808) := by
    unfold nanB kindF
    rw [show b % 9223372036854775808 = fFr 52 b + 2 ^ 52 * fEx 11 52 b from hw]
    refine decide_eq_decide.2 ?_
    generalize fEx 11 52 b = e at *
    generalize fFr 52 b = f at *
    repeat' split
    all_goals omega
  rw [hk]
  show (Ieee.double.order b b == some .eq) = _
  unfold Ieee.Format.order Ieee.Format.read
  simp only [hs, hi, hb]
  by_cases h1 : b % 9223372036854775808 < 4503599627370496
  · simp only [h1, if_true]
    rw [decide_eq_false (by omega)]
    simp [Ieee.Datum.order, compare, compareOfLessAndEq]
  · simp only [h1, if_false]
    by_cases h2 : b % 9223372036854775808 < 9218868437227405312
    · simp only [h2, if_true]
      rw [decide_eq_false (by omega)]
      simp [Ieee.Datum.order, compare, compareOfLessAndEq]
    · simp only [h2, if_false]
      by_cases h3 : b % 9223372036854775808 = 9218868437227405312
      · simp only [h3, if_true]
        rw [decide_eq_false (by omega)]
        simp [Ieee.Datum.order, compare, compareOfLessAndEq]
      · simp only [h3, if_false]
        rw [decide_eq_true (by omega)]
        rfl

set_option maxHeartbeats 2000000 in
theorem isNaN_any (b : Nat) (w : World) : Calls Tryd.prog 55 #[.float .f64 b] w fun r w' => r = .returned (.bool (nanB b)) ∧ w' = w := by
  have ho := order_self b
  go_enter Tryd.func55, Tryd.ntmps55
  go_wp2_with fail
  go_ret
  refine ⟨?_, rfl⟩
  show Ending.returned (Value.bool (!(FloatKind.f64.format.order b b == some Ordering.eq))) = _
  rw [ho, Bool.not_not]

def sameF (a b : Nat) : Bool := decide (a = b) || (nanB a && nanB b)
theorem nan_kind (b : Nat) : (kindW 64 b == 4) = nanB b := by
  show ((kindF 11 52 b : Int) == 4) = decide (kindF 11 52 b = 4)
  by_cases h : kindF 11 52 b = 4
  · rw [h]; rfl
  · rw [decide_eq_false h, beq_eq_false_iff_ne]; omega
theorem eq_beq (a b : Nat) : ((a : Int) == (b : Int)) = decide (a = b) := by
  by_cases h : a = b
  · subst h; simp
  · rw [decide_eq_false h, beq_eq_false_iff_ne]; omega

set_option maxHeartbeats 4000000 in
theorem same_floats (a b : Nat) (ha : a < 18446744073709551616) (hb : b < 18446744073709551616) (w : World) : Calls Tryd.prog 61 #[.float .f64 a, .float .f64 b] w (BoolBelow (sameF a b) w) := by
  have hra := fun W => run_bits a W
  have hrb := fun W => run_bits b W
  have KA := Lib.hid (fun W => kind_any 64 a ha W)
  have KB := Lib.hid (fun W => kind_any 64 b hb W)
  have hea := nan_kind a
  have heb := nan_kind b
  have HE : Hid (sameF a b = (decide (a = b) || (nanB a && nanB b))) := rfl
  have hab := eq_beq a b
  generalize sameF a b = S at *
  generalize nanB a = na at *
  generalize nanB b = nb at *
  generalize kindW 64 a = ka at *
  generalize kindW 64 b = kb at *
  generalize hdd : decide (a = b) = d at *
  clear hdd
  have HB0 := Lib.hid (Below.refl w.heap.size w)
  cases d
  · cases na
    · go_enter Tryd.func61, Tryd.ntmps61
      go_wp2_with fail
      refine (KA.out _).mono ?_
      rintro r w1 ⟨rfl, hb1⟩
      have H1 := Lib.hid (below_on HB0.out hb1)
      clear hb1
      go_wp2
      go_ret
      exact BoolBelow.mk (by rw [HE.out]; rfl) H1.out
    · go_enter Tryd.func61, Tryd.ntmps61
      go_wp2_with fail
      refine (KA.out _).mono ?_
      rintro r w1 ⟨rfl, hb1⟩
      have H1 := Lib.hid (below_on HB0.out hb1)
      clear hb1
      go_wp2_with fail
      refine (KB.out _).mono ?_
      rintro r w2 ⟨rfl, hb2⟩
      have H2 := Lib.hid (below_on H1.out hb2)
      clear hb2
      go_wp2
      go_ret
      exact BoolBelow.mk (by rw [HE.out]; simp) H2.out
  · go_enter Tryd.func61, Tryd.ntmps61
    go_wp2
    go_ret
    exact BoolBelow.mk (by rw [HE.out]; rfl) HB0.out
end Go.Proofs.YtnncokgdmdbidaaDoor
