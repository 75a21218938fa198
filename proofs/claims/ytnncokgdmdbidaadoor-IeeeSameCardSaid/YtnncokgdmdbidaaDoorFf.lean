/- The walk of the law IeeeSame. -/
import Derived.Test.YtnncokgdmdbidaaDoorFe
namespace Go.Proofs.YtnncokgdmdbidaaDoor
open Go.RowKit Go.Sort
set_option linter.unusedVariables false
set_option linter.unusedSimpArgs false

theorem float_bd {b : Nat} (h : (Lit.float .f64 b).wf = true) : b < 18446744073709551616 := by
  have h2 : FloatKind.f64.format.width = 64 := by decide
  simp only [Lit.wf, decide_eq_true_eq] at h
  exact h
theorem copysign_zero (w : World) : Calls Tryd.prog 60 #[.float .f64 0, .float .f64 13830554455654793216] w fun r w' => r = .returned (.float .f64 9223372036854775808) ∧ w' = w := by
  have h1 := fun W => run_bits 0 W
  have h2 := fun W => run_bits 13830554455654793216 W
  have h3 := fun W => run_frombits 9223372036854775808 W
  have e1 : bits BinOp.andNot IntKind.u64 0 9223372036854775808 = 0 := by decide +kernel
  have e2 : bits BinOp.and IntKind.u64 13830554455654793216 9223372036854775808 = 9223372036854775808 := by decide +kernel
  have e3 : bits BinOp.or IntKind.u64 0 9223372036854775808 = 9223372036854775808 := by decide +kernel
  go_enter Tryd.func60, Tryd.ntmps60
  go_wp2
  go_ret
  exact ⟨rfl, rfl⟩
theorem nan_any (w : World) : Calls Tryd.prog 62 #[] w fun r w' => r = .returned (.float .f64 9221120237041090561) ∧ w' = w := by
  have h3 := fun W => run_frombits 9221120237041090561 W
  go_enter Tryd.func62, Tryd.ntmps62
  go_wp2
  go_ret
  exact ⟨rfl, rfl⟩
theorem inf_any (w : World) : Calls Tryd.prog 63 #[.int .i64 1] w fun r w' => r = .returned (.float .f64 9218868437227405312) ∧ w' = w := by
  have h3 := fun W => run_frombits 9218868437227405312 W
  go_enter Tryd.func63, Tryd.ntmps63
  go_wp2
  go_ret
  exact ⟨rfl, rfl⟩
theorem inf_less (w : World) : Calls Tryd.prog 63 #[.int .i64 (-1)] w fun r w' => r = .returned (.float .f64 18442240474082181120) ∧ w' = w := by
  have h3 := fun W => run_frombits 18442240474082181120 W
  go_enter Tryd.func63, Tryd.ntmps63
  go_wp2
  go_ret
  exact ⟨rfl, rfl⟩

set_option maxHeartbeats 16000000 in
set_option maxRecDepth 100000 in
theorem same_rest (a b : Nat) (w : World) (ha : a < 18446744073709551616) (hb : b < 18446744073709551616) (hD : DB w) (na nb d S : Bool) (hna : nanB a = na) (hnb : nanB b = nb) (hd : decide (a = b) = d) (hS : sameF a b = S) (hc : (S == ((na && nb) || d)) = true) :
    Calls Tryd.prog 8 #[.float .f64 a, .float .f64 b] w (BoolBelow true w) := by
  have hra := fun W => run_bits a W
  have hrb := fun W => run_bits b W
  have KNA := fun W => isNaN_any a W
  have KNB := fun W => isNaN_any b W
  rw [hna] at KNA
  rw [hnb] at KNB
  have KNAH := Lib.hid KNA
  have KNBH := Lib.hid KNB
  have hab := eq_beq a b
  rw [hd] at hab
  have KS1 := fun W => same_floats a b ha hb W
  rw [hS] at KS1
  have KS1H := Lib.hid KS1
  have KS2 := fun W => same_floats a a ha ha W
  rw [show sameF a a = true by unfold sameF; simp] at KS2
  have KS2H := Lib.hid KS2
  have KS3 := fun W => same_floats 9223372036854775808 0 (by decide) (by decide) W
  rw [show sameF 9223372036854775808 0 = false by decide +kernel] at KS3
  have KS3H := Lib.hid KS3
  have KS4 := fun W => same_floats 9221120237041090561 9221120237041090561 (by decide) (by decide) W
  rw [show sameF 9221120237041090561 9221120237041090561 = true by decide +kernel] at KS4
  have KS4H := Lib.hid KS4
  have KS5 := fun W => same_floats 9218868437227405312 18442240474082181120 (by decide) (by decide) W
  rw [show sameF 9218868437227405312 18442240474082181120 = false by decide +kernel] at KS5
  have KS5H := Lib.hid KS5
  have KA := Lib.hid (fun W (h : Below w.heap.size w W) => awake3_any W (hD.below h))
  have HB0 := Lib.hid (Below.refl w.heap.size w)
  clear KNA KNB KS1 KS2 KS3 KS4 KS5 hna hnb hd hS hD ha hb
  cases na
  · have hc2 : (S == d) = true := by simpa using hc
    clear hc
    go_enter Tryd.func8, Tryd.ntmps8
    go_wp2_with fail
    refine (KNAH.out _).mono ?_
    rintro r w1 ⟨rfl, rfl⟩
    go_wp2_with fail
    refine (copysign_zero _).mono ?_
    rintro r w2 ⟨rfl, rfl⟩
    go_wp2_with fail
    refine (KS1H.out _).mono ?_
    rintro r w3 ⟨rfl, hb3⟩
    have H3 := Lib.hid (below_on HB0.out hb3)
    clear hb3
    go_wp2_with fail
    refine (KS2H.out _).mono ?_
    rintro r w4 ⟨rfl, hb4⟩
    have H4 := Lib.hid (below_on H3.out hb4)
    clear hb4
    go_wp2_with fail
    refine (KS3H.out _).mono ?_
    rintro r w5 ⟨rfl, hb5⟩
    have H5 := Lib.hid (below_on H4.out hb5)
    clear hb5
    go_wp2_with fail
    refine (nan_any _).mono ?_
    rintro r w6 ⟨rfl, rfl⟩
    go_wp2_with fail
    refine (nan_any _).mono ?_
    rintro r w7 ⟨rfl, rfl⟩
    go_wp2_with fail
    refine (KS4H.out _).mono ?_
    rintro r w8 ⟨rfl, hb8⟩
    have H8 := Lib.hid (below_on H5.out hb8)
    clear hb8
    go_wp2_with fail
    refine (inf_any _).mono ?_
    rintro r w9 ⟨rfl, rfl⟩
    go_wp2_with fail
    refine (inf_less _).mono ?_
    rintro r w10 ⟨rfl, rfl⟩
    go_wp2_with fail
    refine (KS5H.out _).mono ?_
    rintro r w11 ⟨rfl, hb11⟩
    have H11 := Lib.hid (below_on H8.out hb11)
    clear hb11
    go_wp2_with fail
    refine (KA.out _ H11.out).mono ?_
    rintro r w12 ⟨rfl, hb12⟩
    have H12 := Lib.hid (below_on H11.out hb12)
    clear hb12
    go_wp2
    go_ret
    exact BoolBelow.mk rfl H12.out
  · cases nb
    · have hc2 : (S == d) = true := by simpa using hc
      clear hc
      go_enter Tryd.func8, Tryd.ntmps8
      go_wp2_with fail
      refine (KNAH.out _).mono ?_
      rintro r w1 ⟨rfl, rfl⟩
      go_wp2_with fail
      refine (KNBH.out _).mono ?_
      rintro r w1 ⟨rfl, rfl⟩
      go_wp2_with fail
      refine (copysign_zero _).mono ?_
      rintro r w2 ⟨rfl, rfl⟩
      go_wp2_with fail
      refine (KS1H.out _).mono ?_
      rintro r w3 ⟨rfl, hb3⟩
      have H3 := Lib.hid (below_on HB0.out hb3)
      clear hb3
      go_wp2_with fail
      refine (KS2H.out _).mono ?_
      rintro r w4 ⟨rfl, hb4⟩
      have H4 := Lib.hid (below_on H3.out hb4)
      clear hb4
      go_wp2_with fail
      refine (KS3H.out _).mono ?_
      rintro r w5 ⟨rfl, hb5⟩
      have H5 := Lib.hid (below_on H4.out hb5)
      clear hb5
      go_wp2_with fail
      refine (nan_any _).mono ?_
      rintro r w6 ⟨rfl, rfl⟩
      go_wp2_with fail
      refine (nan_any _).mono ?_
      rintro r w7 ⟨rfl, rfl⟩
      go_wp2_with fail
      refine (KS4H.out _).mono ?_
      rintro r w8 ⟨rfl, hb8⟩
      have H8 := Lib.hid (below_on H5.out hb8)
      clear hb8
      go_wp2_with fail
      refine (inf_any _).mono ?_
      rintro r w9 ⟨rfl, rfl⟩
      go_wp2_with fail
      refine (inf_less _).mono ?_
      rintro r w10 ⟨rfl, rfl⟩
      go_wp2_with fail
      refine (KS5H.out _).mono ?_
      rintro r w11 ⟨rfl, hb11⟩
      have H11 := Lib.hid (below_on H8.out hb11)
      clear hb11
      go_wp2_with fail
      refine (KA.out _ H11.out).mono ?_
      rintro r w12 ⟨rfl, hb12⟩
      have H12 := Lib.hid (below_on H11.out hb12)
      clear hb12
      go_wp2
      go_ret
      exact BoolBelow.mk rfl H12.out
    · have hc2 : S = true := by simpa using hc
      clear hc
      subst hc2
      go_enter Tryd.func8, Tryd.ntmps8
      go_wp2_with fail
      refine (KNAH.out _).mono ?_
      rintro r w1 ⟨rfl, rfl⟩
      go_wp2_with fail
      refine (KNBH.out _).mono ?_
      rintro r w1 ⟨rfl, rfl⟩
      go_wp2_with fail
      refine (copysign_zero _).mono ?_
      rintro r w2 ⟨rfl, rfl⟩
      go_wp2_with fail
      refine (KS1H.out _).mono ?_
      rintro r w3 ⟨rfl, hb3⟩
      have H3 := Lib.hid (below_on HB0.out hb3)
      clear hb3
      go_wp2_with fail
      refine (KS2H.out _).mono ?_
      rintro r w4 ⟨rfl, hb4⟩
      have H4 := Lib.hid (below_on H3.out hb4)
      clear hb4
      go_wp2_with fail
      refine (KS3H.out _).mono ?_
      rintro r w5 ⟨rfl, hb5⟩
      have H5 := Lib.hid (below_on H4.out hb5)
      clear hb5
      go_wp2_with fail
      refine (nan_any _).mono ?_
      rintro r w6 ⟨rfl, rfl⟩
      go_wp2_with fail
      refine (nan_any _).mono ?_
      rintro r w7 ⟨rfl, rfl⟩
      go_wp2_with fail
      refine (KS4H.out _).mono ?_
      rintro r w8 ⟨rfl, hb8⟩
      have H8 := Lib.hid (below_on H5.out hb8)
      clear hb8
      go_wp2_with fail
      refine (inf_any _).mono ?_
      rintro r w9 ⟨rfl, rfl⟩
      go_wp2_with fail
      refine (inf_less _).mono ?_
      rintro r w10 ⟨rfl, rfl⟩
      go_wp2_with fail
      refine (KS5H.out _).mono ?_
      rintro r w11 ⟨rfl, hb11⟩
      have H11 := Lib.hid (below_on H8.out hb11)
      clear hb11
      go_wp2_with fail
      refine (KA.out _ H11.out).mono ?_
      rintro r w12 ⟨rfl, hb12⟩
      have H12 := Lib.hid (below_on H11.out hb12)
      clear hb12
      go_wp2
      go_ret
      exact BoolBelow.mk rfl H12.out

theorem ieeeSame_walk (a b : Nat) (w : World) (ha : a < 18446744073709551616) (hb : b < 18446744073709551616) (hD : DB w) :
    Calls Tryd.prog 8 #[.float .f64 a, .float .f64 b] w (BoolBelow true w) :=
  same_rest a b w ha hb hD _ _ _ _ rfl rfl rfl rfl (by unfold sameF; rw [Bool.or_comm]; simp)
end Go.Proofs.YtnncokgdmdbidaaDoor
