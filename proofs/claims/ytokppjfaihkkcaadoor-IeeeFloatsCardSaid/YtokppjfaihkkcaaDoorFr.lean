/- The walks of math.IsInf, Abs, normalize, ldexp, Ldexp (of whole numbers by a negative power of two) and of ieee's Float. -/
import Derived.Test.YtokppjfaihkkcaaDoorFq
import Derived.Test.YtokppjfaihkkcaaDoorFe
import Derived.Laws.BitsAllLaws
namespace Go.Proofs.YtokppjfaihkkcaaDoor
open Go.RowKit Go.Sort
set_option linter.unusedVariables false
set_option linter.unusedSimpArgs false

theorem and_i64 (a : Nat) (ha : a < 2048) : bits BinOp.and IntKind.i64 (a : Int) 2047 = (a : Int) := by
  have h1 : (BitVec.ofInt 64 (a : Int)).toNat = a := by
    rw [BitVec.ofInt_natCast, BitVec.toNat_ofNat]; exact Nat.mod_eq_of_lt (by omega)
  have h2 : (BitVec.ofInt 64 2047).toNat = 2047 := by decide
  show IntKind.i64.wrap ((BitVec.ofInt 64 (a : Int) &&& BitVec.ofInt 64 2047).toNat : Int) = _
  rw [BitVec.toNat_and, h1, h2, show a &&& 2047 = a from by
    rw [show 2047 = 2 ^ 11 - 1 from rfl, Nat.and_two_pow_sub_one_eq_mod, Nat.mod_eq_of_lt (by omega)]]
  exact IntWalk.i64_in _ (by omega)
theorem andNot_sign (b : Nat) (hb : b < 18446744073709551616) : bits BinOp.andNot IntKind.u64 (b : Int) 9223372036854775808 = ((b % 9223372036854775808 : Nat) : Int) := by
  have h := u64_andNot_nat b 9223372036854775808 hb (by decide)
  rw [show ((9223372036854775808 : Nat) : Int) = 9223372036854775808 from rfl] at h
  rw [h, show 18446744073709551615 - 9223372036854775808 = 2 ^ 63 - 1 from by decide, Nat.and_two_pow_sub_one_eq_mod]
theorem andNot_exp {q F : Nat} (hq : q < 2048) (hF : F < 4503599627370496) : bits BinOp.andNot IntKind.u64 ((q * 4503599627370496 + F : Nat) : Int) 9218868437227405312 = (F : Int) := by
  have h := u64_andNot_nat (q * 4503599627370496 + F) 9218868437227405312 (by omega) (by decide)
  rw [show ((9218868437227405312 : Nat) : Int) = 9218868437227405312 from rfl] at h
  rw [h, show 18446744073709551615 - 9218868437227405312 = 2 ^ 63 ||| (2 ^ 52 - 1) from by decide, Nat.and_or_distrib_left, Nat.and_two_pow_sub_one_eq_mod]
  have hz : q * 4503599627370496 + F &&& 2 ^ 63 = 0 := by
    have hx : q * 4503599627370496 + F < 2 ^ 63 := by omega
    generalize q * 4503599627370496 + F = x at *
    apply Nat.eq_of_testBit_eq; intro i
    rw [Nat.testBit_and, Nat.testBit_two_pow, Nat.zero_testBit]
    by_cases h : 63 = i
    · subst h; rw [Nat.testBit_lt_two_pow hx]; rfl
    · simp [h]
  rw [hz]
  have : (q * 4503599627370496 + F) % 2 ^ 52 = F := by omega
  rw [this]
  simp
theorem or_exp {q F : Nat} (hq : q < 2048) (hF : F < 4503599627370496) : bits BinOp.or IntKind.u64 (F : Int) ((q : Int) * 4503599627370496) = ((q * 4503599627370496 + F : Nat) : Int) := by
  have e : (q : Int) * 4503599627370496 = ((q * 4503599627370496 : Nat) : Int) := by omega
  rw [e, bits_or_u64_nat F _ (by omega) (by omega), Nat.or_comm, nat_join 52 (q * 4503599627370496) F (by omega) (by omega)]

set_option maxHeartbeats 2000000 in
theorem abs_any (b : Nat) (hb : b < 18446744073709551616) (w : World) : Calls Tryd.prog 53 #[.float .f64 b] w fun r w' => r = .returned (.float .f64 (b % 9223372036854775808)) ∧ w' = w := by
  have h1 := fun W => run_bits b W
  have h2 := fun n W => run_frombits n W
  have h3 := andNot_sign b hb
  go_enter Tryd.func53, Tryd.ntmps53
  go_wp2
  go_ret
  exact ⟨rfl, rfl⟩
set_option maxHeartbeats 2000000 in
theorem isInf_any (b : Nat) (hb : b < 18446744073709551616) (w : World) : Calls Tryd.prog 24 #[.float .f64 b, .int .i64 0] w fun r w' => r = .returned (.bool (infB b)) ∧ w' = w := by
  have ho := order_max b
  have KA := Lib.hid (fun W => abs_any b hb W)
  go_enter Tryd.func24, Tryd.ntmps24
  go_wp2_with fail
  refine (KA.out _).mono ?_
  rintro r w' ⟨rfl, rfl⟩
  go_wp2_with fail
  go_ret
  exact ⟨rfl, rfl⟩
set_option maxHeartbeats 2000000 in
theorem normalize_any {q F : Nat} (hq : 1 ≤ q) (hq2 : q < 2047) (hF : F < 4503599627370496) (w : World) : Calls Tryd.prog 82 #[.float .f64 (q * 4503599627370496 + F)] w fun r w' => r = .returned (.tuple #[.float .f64 (q * 4503599627370496 + F), .int .i64 0]) ∧ w' = w := by
  have ho := order_small hq hq2 hF
  have KA := fun W => abs_any (q * 4503599627370496 + F) (by omega) W
  rw [Nat.mod_eq_of_lt (show q * 4503599627370496 + F < 9223372036854775808 by omega)] at KA
  have KAH := Lib.hid KA
  clear KA
  generalize q * 4503599627370496 + F = x at *
  go_enter Tryd.func82, Tryd.ntmps82
  go_wp2_with fail
  refine (KAH.out _).mono ?_
  rintro r w' ⟨rfl, rfl⟩
  have ho2 : (FloatKind.f64.format.order x 4503599627370496 == some Ordering.lt) = false := ho
  go_wp2_with fail
  go_ret2
  exact ⟨rfl, rfl⟩
set_option maxHeartbeats 8000000 in
set_option maxRecDepth 100000 in
/-- A float in its full range over a power of two, where nothing is lost. -/
theorem ldexp_any {q F e : Nat} (hq : 900 ≤ q) (hq2 : q < 1100) (hF : F < 4503599627370496) (he : e < 30) (w : World) :
    Calls Tryd.prog 55 #[.float .f64 (q * 4503599627370496 + F), .int .i64 (-(e : Int))] w fun r w' => r = .returned (.float .f64 ((q - e) * 4503599627370496 + F)) ∧ w' = w := by
  obtain ⟨x, hx⟩ : ∃ x, x = q * 4503599627370496 + F := ⟨_, rfl⟩
  obtain ⟨y, hy⟩ : ∃ y, y = (q - e) * 4503599627370496 + F := ⟨_, rfl⟩
  rw [← hx, ← hy]
  have hx64 : x < 9223372036854775808 := by omega
  have ho : (FloatKind.f64.format.order x 0 == some .eq) = false := by rw [hx]; exact order_zero (by omega) (by omega) hF
  have hk1 : kindF 11 52 x = 1 := by
    have eE : fEx 11 52 x = q := by unfold fEx; omega
    unfold kindF; rw [eE, if_neg (by omega), if_neg (by omega)]
  have KI := fun W => isInf_any x (by omega) W
  have KN := fun W => isNaN_any x W
  have KM : ∀ W, Calls Tryd.prog 82 #[.float .f64 x] W fun r w' => r = .returned (.tuple #[.float .f64 x, .int .i64 0]) ∧ w' = W := fun W => by rw [hx]; exact normalize_any (by omega) (by omega) hF W
  rw [show infB x = false from by unfold infB; rw [hk1]; rfl] at KI
  rw [show nanB x = false from by unfold nanB; rw [hk1]; rfl] at KN
  have h1 := fun W => run_bits x W
  have h2 := fun n W => run_frombits n W
  have h3 : bits BinOp.andNot IntKind.u64 (x : Int) 9218868437227405312 = (F : Int) := by rw [hx]; exact andNot_exp (by omega) hF
  have h4 : bits BinOp.or IntKind.u64 (F : Int) (((q - e : Nat) : Int) * 4503599627370496) = (y : Int) := by rw [hy]; exact or_exp (by omega) hF
  have h4 : bits BinOp.or IntKind.u64 (F : Int) ((-(e : Int) + ((q : Int) - 1023) + 1023) * 4503599627370496) = (y : Int) := by rw [show (-(e : Int) + ((q : Int) - 1023) + 1023) = ((q - e : Nat) : Int) by omega]; exact h4
  have hm : FloatKind.f64.format.mul 4607182418800017408 y = some y := by rw [hy]; exact mul_one_dbl (by omega) (by omega) hF
  have hmul : ∀ W, Sem.run Tryd.prog (binOp BinOp.mul 41 (Value.float FloatKind.f64 4607182418800017408) (Value.float FloatKind.f64 y)) W = Result.ok (Value.float FloatKind.f64 y) W := fun W => by
    simp [binOp, Op.floatArith, hm, go_sem]
  have hsh : (x : Int) / 4503599627370496 = (q : Int) := by omega
  have hqe : ((q - e : Nat) : Int) = (q : Int) - (e : Int) := by omega
  have KIH := Lib.hid KI; have KNH := Lib.hid KN; have KMH := Lib.hid KM
  have HQE := Lib.hid hqe; have HX := Lib.hid hx; have HY := Lib.hid hy
  clear KI KN KM hk1 hqe hx hy
  have h5 : bits BinOp.and IntKind.i64 (q : Int) 2047 = (q : Int) := and_i64 q (by omega)
  go_enter Tryd.func55, Tryd.ntmps55
  go_wp2_with fail
  refine (KIH.out _).mono ?_
  rintro r w' ⟨rfl, rfl⟩
  go_wp2_with fail
  refine (KNH.out _).mono ?_
  rintro r w' ⟨rfl, rfl⟩
  go_wp2_with fail
  refine (KMH.out _).mono ?_
  rintro r w' ⟨rfl, rfl⟩
  go_wp2_with fail
  go_ret
  exact ⟨rfl, rfl⟩
set_option maxHeartbeats 2000000 in
theorem ldexp_zero (e : Int) (w : World) : Calls Tryd.prog 55 #[.float .f64 0, .int .i64 e] w fun r w' => r = .returned (.float .f64 0) ∧ w' = w := by
  have ho : (FloatKind.f64.format.order 0 0 == some .eq) = true := by decide
  go_enter Tryd.func55, Tryd.ntmps55
  go_wp2_with fail
  go_ret
  exact ⟨rfl, rfl⟩
/-- The float of a whole number over a power of two. -/
def ldW (k e : Nat) : Nat := if k = 0 then 0 else (k.log2 + 1023 - e) * 4503599627370496 + (k * 2 ^ (52 - k.log2) - 4503599627370496)
theorem log_bounds {k : Nat} (h : k ≠ 0) (hk : k < 1125899906842624) : 2 ^ k.log2 ≤ k ∧ k < 2 ^ (k.log2 + 1) ∧ k.log2 < 50 := by
  obtain ⟨a, b⟩ := (Nat.log2_eq_iff h).1 rfl
  refine ⟨a, b, (Nat.log2_lt h).2 (by omega)⟩
theorem ldW_lt {k e : Nat} (hk : k < 1125899906842624) : ldW k e < 9223372036854775808 := by
  unfold ldW
  split
  · omega
  · rename_i h
    obtain ⟨a, b, c⟩ := log_bounds h hk
    have : k * 2 ^ (52 - k.log2) < 2 ^ (k.log2 + 1) * 2 ^ (52 - k.log2) := Nat.mul_lt_mul_of_pos_right b (Nat.two_pow_pos _)
    rw [← Nat.pow_add, show k.log2 + 1 + (52 - k.log2) = 53 by omega] at this
    omega
theorem ldW_is {k e : Nat} (h : k ≠ 0) (hk : k < 1125899906842624) (he : e < 30) : FloatIs (ldW k e) (trimM (k * 5 ^ e)) ((trimK (k * 5 ^ e) : Int) - (e : Int)) := by
  obtain ⟨a, b, c⟩ := log_bounds h hk
  unfold ldW; rw [if_neg h]
  exact float_is a b c he
set_option maxHeartbeats 2000000 in
theorem ldexp_all (k e : Nat) (hk : k < 1125899906842624) (he : e < 30) (w : World) :
    Calls Tryd.prog 26 #[.float .f64 (FloatKind.f64.nearest (k : Int)), .int .i64 (-(e : Int))] w fun r w' => r = .returned (.float .f64 (ldW k e)) ∧ w' = w := by
  have K : ∀ W, Calls Tryd.prog 55 #[.float .f64 (FloatKind.f64.nearest (k : Int)), .int .i64 (-(e : Int))] W fun r w' => r = .returned (.float .f64 (ldW k e)) ∧ w' = W := fun W => by
    by_cases h : k = 0
    · subst h
      rw [show FloatKind.f64.nearest ((0 : Nat) : Int) = 0 from by decide, show ldW 0 e = 0 from rfl]
      exact ldexp_zero _ W
    · obtain ⟨a, b, c⟩ := log_bounds h hk
      have h1 : k * 2 ^ (52 - k.log2) < 2 ^ (k.log2 + 1) * 2 ^ (52 - k.log2) := Nat.mul_lt_mul_of_pos_right b (Nat.two_pow_pos _)
      rw [← Nat.pow_add, show k.log2 + 1 + (52 - k.log2) = 53 by omega] at h1
      have h2 : 2 ^ k.log2 * 2 ^ (52 - k.log2) ≤ k * 2 ^ (52 - k.log2) := Nat.mul_le_mul_right _ a
      rw [← Nat.pow_add, show k.log2 + (52 - k.log2) = 52 by omega] at h2
      rw [near_int a b c]
      unfold ldW; rw [if_neg h]
      generalize k * 2 ^ (52 - k.log2) = S at *
      rw [show (k.log2 + 1022) * 4503599627370496 + S = (k.log2 + 1023) * 4503599627370496 + (S - 4503599627370496) by omega]
      exact ldexp_any (by omega) (by omega) (by omega) he W
  have KH := Lib.hid K
  clear K
  generalize FloatKind.f64.nearest (k : Int) = x at *
  go_enter Tryd.func26, Tryd.ntmps26
  go_wp2_with fail
  refine (KH.out _).mono ?_
  rintro r w' ⟨rfl, rfl⟩
  go_wp2
  go_ret
  exact ⟨rfl, rfl⟩

set_option maxHeartbeats 4000000 in
theorem float_any {w0 w : World} {l : List Ent} (h : Ctx w0 w l) (b : Nat) (hb : b < 18446744073709551616) :
    Calls Tryd.prog 21 #[.float .f64 b] w (MadePost w0 l 2000 (exNegW 64 b) (exMW 64 b) (exEW 64 b) (okW 64 b)) := by
  have hb1 := below_box w #[.bool false, .slice none 0 0, .int .i64 0] 25
  have h1 := h.step hb1
  have hW := Lib.hid h.below.size
  have K := Lib.hid (exact_all h1.again 64 b hb)
  have H1 := Lib.hid h1.below
  have hr := fun W => run_bits b W
  clear h h1 hb1
  generalize exNegW 64 b = ng at *
  generalize exMW 64 b = M at *
  generalize exEW 64 b = E at *
  generalize okW 64 b = ok at *
  go_enter Tryd.func21, Tryd.ntmps21
  go_wp2_with fail
  refine K.out.mono ?_
  rintro r w1 ⟨v, rfl, h2⟩
  obtain ⟨ad, cap, rfl, _⟩ := h2.get 0 rfl
  obtain ⟨hc, hf⟩ := bcell h2.below
  have hz : w.heap.size < w1.heap.size := by have := h2.below.size; simp at this; omega
  have H2 := Lib.hid h2; clear h2
  generalize (limbs M).length = n at *
  go_wp2_with fail
  have H3 := Ctx.back H1.out H2.out
  refine bodyPost_ret (v := .tuple #[.agg #[.bool ng, .slice ad n cap, .int .i64 E], .bool ok]) (by simp [results, Tryd.results21, go_sem, hc]) rfl ⟨_, rfl, ?_⟩
  exact H3.box3 hW.out (b := false) (a := none) (n := 0) (c := 0) (x := 0) (by simp [hc]) (by simp [hc]) (by simp [hc]) (.bool ng) (.slice ad n cap) (.int .i64 E)
end Go.Proofs.YtokppjfaihkkcaaDoor
