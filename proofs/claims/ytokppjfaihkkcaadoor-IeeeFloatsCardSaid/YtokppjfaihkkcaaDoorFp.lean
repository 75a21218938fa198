/- Floats by themselves: whole numbers as floats, one times a float, their order; what a float of a whole number over a power of two is. -/
import Derived.Test.YtokppjfaihkkcaaDoorFs
namespace Go.Proofs.YtokppjfaihkkcaaDoor
open Go.RowKit Go.Sort
set_option linter.unusedVariables false
set_option linter.unusedSimpArgs false

theorem dbl_frac : Ieee.double.fractionBits = 52 := rfl
theorem dbl_least : Ieee.double.leastPlace = -1074 := by decide
theorem dbl_binade : Ieee.double.binade = 4503599627370496 := by decide
theorem dbl_inf : Ieee.double.infRung = 9218868437227405312 := by decide
theorem dbl_sign : Ieee.double.signWeight = 9223372036854775808 := by decide
theorem cut_nought (neg : Bool) (n : Nat) : Ieee.Toward.even.cut neg n 0 = n := by
  unfold Ieee.Toward.cut
  simp [Nat.mod_one]
/-- Half of a great number is cut away where it is nought. -/
theorem cut_whole (neg : Bool) (n d : Nat) (hd : d ≤ n.log2 + 2) : Ieee.Toward.even.cut neg (n * 2 ^ d) d = n := by
  by_cases h0 : n = 0
  · subst h0
    unfold Ieee.Toward.cut
    have : 0 < 2 ^ min d 2 := Nat.two_pow_pos _
    simp
    try simp [Nat.one_shiftLeft]
    try omega
  · have hl : d ≤ (n * 2 ^ d).log2 + 2 := by
      have h1 : n.log2 ≤ (n * 2 ^ d).log2 := by
        rw [Nat.le_log2 (by have := Nat.two_pow_pos d; exact Nat.mul_ne_zero h0 (by omega))]
        exact Nat.le_trans (Nat.log2_self_le h0) (Nat.le_mul_of_pos_right _ (Nat.two_pow_pos d))
      omega
    unfold Ieee.Toward.cut
    simp only [Nat.min_eq_left hl, Nat.one_shiftLeft]
    rw [Nat.mul_mod_left, Nat.mul_div_cancel _ (Nat.two_pow_pos d)]
    have : 0 < 2 ^ d := Nat.two_pow_pos _
    simp
    try omega
theorem near_dbl {mag : Nat} {place : Int} {L : Nat} (h1 : 2 ^ L ≤ mag) (h2 : mag < 2 ^ (L + 1)) (q S : Nat) (hq : 1 ≤ q) (hlast : place + (L : Int) - 52 = (q : Int) - 1075)
    (hcut : Ieee.Toward.even.cut false (mag <<< (place - ((q : Int) - 1075)).toNat) ((q : Int) - 1075 - place).toNat = S) (hr : (q - 1) * 4503599627370496 + S ≤ 9218868437227405312) :
    Ieee.double.nearest false mag place = (q - 1) * 4503599627370496 + S := by
  have h0 : mag ≠ 0 := by have := Nat.two_pow_pos L; omega
  have hl : mag.log2 = L := (Nat.log2_eq_iff h0).2 ⟨h1, h2⟩
  have hm : max (place + (L : Int) - 52) (-1074) = (q : Int) - 1075 := by omega
  unfold Ieee.Format.nearest
  rw [if_neg h0]
  simp only [dbl_frac, dbl_least, dbl_binade, dbl_inf, hl]
  rw [show ((52 : Nat) : Int) = 52 from rfl, hm, hcut, show ((q : Int) - 1075 - -1074).toNat = q - 1 by omega, Nat.min_eq_left hr]
  rfl
/-- A whole number as a float. -/
theorem near_int {k L : Nat} (h1 : 2 ^ L ≤ k) (h2 : k < 2 ^ (L + 1)) (hL : L < 50) : FloatKind.f64.nearest (k : Int) = (L + 1022) * 4503599627370496 + k * 2 ^ (52 - L) := by
  have hb : k * 2 ^ (52 - L) < 9007199254740992 := by
    have : k * 2 ^ (52 - L) < 2 ^ (L + 1) * 2 ^ (52 - L) := Nat.mul_lt_mul_of_pos_right h2 (Nat.two_pow_pos _)
    rw [← Nat.pow_add, show L + 1 + (52 - L) = 53 by omega] at this
    exact this
  show Ieee.double.write (.number (decide ((k : Int) < 0)) (k : Int).natAbs 0) = _
  rw [decide_eq_false (by omega)]
  show Ieee.double.nearest false k 0 = _
  rw [near_dbl h1 h2 (L + 1023) (k * 2 ^ (52 - L)) (by omega) (by omega) ?_ (by omega)]
  · rw [show L + 1023 - 1 = L + 1022 by omega]
  · rw [show (0 - (((L + 1023 : Nat) : Int) - 1075)).toNat = 52 - L by omega, show ((((L + 1023 : Nat) : Int) - 1075) - 0).toNat = 0 by omega, cut_nought, Nat.shiftLeft_eq]
/-- What a word of a number in its full range stands for. -/
theorem read_norm {q F : Nat} (hq : 1 ≤ q) (hq2 : q < 2047) (hF : F < 4503599627370496) : Ieee.double.read (q * 4503599627370496 + F) = .number false (4503599627370496 + F) ((q : Int) - 1075) := by
  unfold Ieee.Format.read
  simp only [dbl_sign, dbl_inf, dbl_binade, dbl_least]
  have e1 : (q * 4503599627370496 + F) / 9223372036854775808 = 0 := Nat.div_eq_of_lt (by omega)
  have e2 : (q * 4503599627370496 + F) % 9223372036854775808 = q * 4503599627370496 + F := Nat.mod_eq_of_lt (by omega)
  rw [e1, e2, if_neg (by omega), if_pos (by omega)]
  have e3 : (q * 4503599627370496 + F) / 4503599627370496 = q := by omega
  have e4 : (q * 4503599627370496 + F) % 4503599627370496 = F := by omega
  rw [e3, e4]
  congr 1
  omega
theorem mul_one_dbl {q F : Nat} (hq : 1 ≤ q) (hq2 : q < 2047) (hF : F < 4503599627370496) : FloatKind.f64.format.mul 4607182418800017408 (q * 4503599627370496 + F) = some (q * 4503599627370496 + F) := by
  show ((Ieee.double.read 4607182418800017408).product (Ieee.double.read (q * 4503599627370496 + F))).map Ieee.double.write = _
  rw [read_norm hq hq2 hF, show Ieee.double.read 4607182418800017408 = .number false 4503599627370496 (-52) from by decide]
  show some (Ieee.double.nearest false (4503599627370496 * (4503599627370496 + F)) (-52 + ((q : Int) - 1075))) = _
  have hmag : 4503599627370496 * (4503599627370496 + F) = (4503599627370496 + F) * 2 ^ 52 := Nat.mul_comm _ _
  have hlg : (4503599627370496 + F).log2 = 52 := (Nat.log2_eq_iff (by omega)).2 ⟨by omega, by omega⟩
  rw [near_dbl (L := 104) (by rw [hmag]; omega) (by rw [hmag]; omega) q (4503599627370496 + F) hq (by omega) ?_ (by omega)]
  · exact congrArg some (by omega)
  · rw [show (-52 + ((q : Int) - 1075) - ((q : Int) - 1075)).toNat = 0 by omega, show ((q : Int) - 1075 - (-52 + ((q : Int) - 1075))).toNat = 52 by omega, Nat.shiftLeft_zero, hmag]
    exact cut_whole _ _ _ (by omega)
theorem shl_pos {m : Nat} (h : 0 < m) (u : Nat) : 0 < m <<< u := by rw [Nat.shiftLeft_eq]; exact Nat.mul_pos h (Nat.two_pow_pos _)
theorem shl_ge (m : Nat) (u : Nat) : m ≤ m <<< u := by rw [Nat.shiftLeft_eq]; exact Nat.le_mul_of_pos_right _ (Nat.two_pow_pos _)
theorem order_num (m n : Nat) (i j : Int) : (Ieee.Datum.number false m i).order (.number false n j) = some (compare ((m <<< (i - min i j).toNat : Nat) : Int) ((n <<< (j - min i j).toNat : Nat) : Int)) := rfl
theorem order_zero {q F : Nat} (hq : 1 ≤ q) (hq2 : q < 2047) (hF : F < 4503599627370496) : (FloatKind.f64.format.order (q * 4503599627370496 + F) 0 == some .eq) = false := by
  show ((Ieee.double.read (q * 4503599627370496 + F)).order (Ieee.double.read 0) == some .eq) = false
  rw [read_norm hq hq2 hF, show Ieee.double.read 0 = .number false 0 (-1074) from by decide]
  rw [order_num]
  have h := shl_pos (m := 4503599627370496 + F) (by omega) ((q : Int) - 1075 - min ((q : Int) - 1075) (-1074)).toNat
  generalize (4503599627370496 + F) <<< ((q : Int) - 1075 - min ((q : Int) - 1075) (-1074)).toNat = a at *
  simp [compare, compareOfLessAndEq]
  split <;> simp <;> omega
theorem order_small {q F : Nat} (hq : 1 ≤ q) (hq2 : q < 2047) (hF : F < 4503599627370496) : (FloatKind.f64.format.order (q * 4503599627370496 + F) 4503599627370496 == some .lt) = false := by
  show ((Ieee.double.read (q * 4503599627370496 + F)).order (Ieee.double.read 4503599627370496) == some .lt) = false
  rw [read_norm hq hq2 hF, show Ieee.double.read 4503599627370496 = .number false 4503599627370496 (-1074) from by decide]
  rw [order_num]
  have hm : min ((q : Int) - 1075) (-1074) = -1074 := by omega
  rw [hm]
  have h := shl_ge (4503599627370496 + F) ((q : Int) - 1075 - -1074).toNat
  generalize (4503599627370496 + F) <<< ((q : Int) - 1075 - -1074).toNat = a at *
  have h2 : ¬ ((a : Int) < 4503599627370496) := by omega
  simp only [compare, compareOfLessAndEq]
  rw [show ((4503599627370496 <<< ((-1074 : Int) - -1074).toNat : Nat) : Int) = 4503599627370496 from by decide, if_neg h2]
  split <;> rfl
/-- Is a float an infinity? -/
def infB (b : Nat) : Bool := decide (kindF 11 52 b = 3)
theorem order_max (b : Nat) : (FloatKind.f64.format.order (b % 9223372036854775808) 9218868437227405311 == some .gt) = infB b := by
  have hw := word_parts 11 52 b
  have he : fEx 11 52 b < 2048 := Nat.mod_lt _ (by decide)
  have hf : fFr 52 b < 4503599627370496 := Nat.mod_lt _ (by decide)
  have hk : infB b = decide (b % 9223372036854775808 = 9218868437227405312) := by
    unfold infB kindF
    rw [show b % 9223372036854775808 = fFr 52 b + 2 ^ 52 * fEx 11 52 b from hw]
    refine decide_eq_decide.2 ?_
    generalize fEx 11 52 b = e at *
    generalize fFr 52 b = f at *
    repeat' split
    all_goals omega
  have hc : b % 9223372036854775808 < 9223372036854775808 := Nat.mod_lt _ (by decide)
  rw [hk]
  generalize b % 9223372036854775808 = c at *
  show ((Ieee.double.read c).order (Ieee.double.read 9218868437227405311) == some .gt) = _
  rw [show Ieee.double.read 9218868437227405311 = .number false 9007199254740991 971 from by decide]
  by_cases h1 : c < 4503599627370496
  · have hr : Ieee.double.read c = .number false c (-1074) := by
      unfold Ieee.Format.read
      simp only [dbl_sign, dbl_inf, dbl_binade, dbl_least]
      rw [Nat.div_eq_of_lt hc, Nat.mod_eq_of_lt hc, if_pos h1]; rfl
    rw [hr, decide_eq_false (by omega)]
    rw [order_num]
    rw [show min (-1074 : Int) 971 = -1074 from by decide]
    have h := shl_ge 9007199254740991 ((971 : Int) - -1074).toNat
    generalize 9007199254740991 <<< ((971 : Int) - -1074).toNat = a at *
    simp [compare, compareOfLessAndEq]
    have : c < a := by omega
    simp [this]
  · by_cases h2 : c < 9218868437227405312
    · obtain ⟨q, F, hq, hq2, hF, rfl⟩ : ∃ q F, 1 ≤ q ∧ q < 2047 ∧ F < 4503599627370496 ∧ c = q * 4503599627370496 + F := ⟨c / 4503599627370496, c % 4503599627370496, by omega, by omega, by omega, by omega⟩
      rw [read_norm hq hq2 hF, decide_eq_false (by omega)]
      rw [order_num]
      rw [show min ((q : Int) - 1075) 971 = (q : Int) - 1075 by omega, show ((q : Int) - 1075 - ((q : Int) - 1075)).toNat = 0 by omega, Nat.shiftLeft_zero]
      have h := shl_ge 9007199254740991 ((971 : Int) - ((q : Int) - 1075)).toNat
      generalize 9007199254740991 <<< ((971 : Int) - ((q : Int) - 1075)).toNat = a at *
      simp [compare, compareOfLessAndEq]
      by_cases h3 : 4503599627370496 + F < a
      · simp [show (4503599627370496 : Int) + (F : Int) < (a : Int) by omega]
      · simp [show ¬ (4503599627370496 : Int) + (F : Int) < (a : Int) by omega, show (4503599627370496 : Int) + (F : Int) = (a : Int) by omega]
    · by_cases h3 : c = 9218868437227405312
      · subst h3
        rw [show Ieee.double.read 9218868437227405312 = .infinity false from by decide]; rfl
      · have hr : ∃ t, Ieee.double.read c = .nan false t := by
          unfold Ieee.Format.read
          simp only [dbl_sign, dbl_inf, dbl_binade, dbl_least]
          rw [Nat.div_eq_of_lt hc, Nat.mod_eq_of_lt hc, if_neg h1, if_neg h2, if_neg h3]; exact ⟨_, rfl⟩
        obtain ⟨t, hr⟩ := hr
        rw [hr, decide_eq_false h3]; rfl
theorem ok_none (b : Nat) : okW 64 b = !((decide (kindF 11 52 b = 4)) || infB b) := by
  have := kindF_cases 11 52 b
  show decide ((kindF 11 52 b : Int) = 1 ∨ (kindF 11 52 b : Int) = 2) = !(decide (kindF 11 52 b = 4) || decide (kindF 11 52 b = 3))
  rcases this with h | h | h | h <;> rw [h] <;> rfl
end Go.Proofs.YtokppjfaihkkcaaDoor
