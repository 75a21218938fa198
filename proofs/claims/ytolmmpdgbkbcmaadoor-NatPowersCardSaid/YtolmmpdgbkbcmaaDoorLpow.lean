/- The walk of the law NatPowers. -/
import Derived.Test.YtolmmpdgbkbcmaaDoorLsum
namespace Go.Proofs.YtolmmpdgbkbcmaaDoor
open Go.RowKit
set_option linter.unusedVariables false

theorem bitsN_bounds {N : Nat} (h : N ≠ 0) : ∃ t, bitsN N = t + 1 ∧ 2 ^ t ≤ N ∧ N < 2 ^ (t + 1) := by
  have hl : (limbs N).length ≠ 0 := fun h0 => h ((limbs_nil_iff N).1 (List.eq_nil_of_length_eq_zero h0))
  obtain ⟨t, ht⟩ : ∃ t, (limbs N).length = t + 1 := ⟨(limbs N).length - 1, by omega⟩
  have hx := (limbs_ok N).getD t
  rw [bitsN_top ht]
  have h1 := limbs_top ht
  have hv := val_limbs N
  have hs : val (limbs N) = val ((limbs N).take t) + B32 ^ t * (limbs N).getD t 0 := by
    have := val_take_succ (limbs N) t (by omega)
    rw [← ht, List.take_length] at this
    exact this
  have hlow := val_lt ((limbs_ok N).take t)
  rw [List.length_take, Nat.min_eq_left (by omega)] at hlow
  rw [hv] at hs
  generalize (limbs N).getD t 0 = d at *
  generalize val ((limbs N).take t) = lo at *
  rw [B32_eq] at hx
  have hb := bitLen_bounds d d (Nat.le_refl _) (by omega) h1
  have e1 : B32 ^ t = 2 ^ (32 * t) := by rw [Nat.pow_mul]; rfl
  rw [e1] at hlow hs
  unfold blen
  generalize Lib.bitLen d = c at *
  obtain ⟨c', rfl⟩ : ∃ c', c = c' + 1 := ⟨c - 1, by omega⟩
  rw [Nat.add_sub_cancel] at hb
  refine ⟨32 * t + c', by omega, ?_, ?_⟩
  · rw [Nat.pow_add, hs]
    have := Nat.mul_le_mul_left (2 ^ (32 * t)) hb.2.1
    exact Nat.le_trans this (Nat.le_add_left _ _)
  · rw [show 32 * t + c' + 1 = 32 * t + (c' + 1) by omega, Nat.pow_add, hs]
    have := Nat.mul_le_mul_left (2 ^ (32 * t)) (show d + 1 ≤ 2 ^ (c' + 1) from hb.2.2)
    rw [Nat.mul_add, Nat.mul_one] at this
    exact Nat.lt_of_lt_of_le (Nat.add_lt_add_right hlow _) (by rw [Nat.add_comm]; exact this)

theorem two_between {t a : Nat} (h1 : 2 ^ t ≤ 2 ^ a) (h2 : 2 ^ a < 2 ^ (t + 1)) : t = a := by
  have h3 := (Nat.pow_le_pow_iff_right (show 1 < 2 by decide)).1 h1
  have h4 := (Nat.pow_lt_pow_iff_right (show 1 < 2 by decide)).1 h2
  omega
theorem two_ne (a : Nat) : 2 ^ a ≠ 0 := Nat.pos_iff_ne_zero.1 (Nat.pow_pos (by decide))
theorem bits_two (a : Nat) : bitsN (2 ^ a) = a + 1 := by
  obtain ⟨t, h, h1, h2⟩ := bitsN_bounds (two_ne a)
  rw [h, two_between h1 h2]
theorem bits_two_less (a : Nat) : bitsN (2 ^ a - 1) = a := by
  cases a with
  | zero => exact bitsN_z
  | succ a =>
    have e : 2 ^ (a + 1) = 2 * 2 ^ a := by rw [Nat.pow_succ, Nat.mul_comm]
    have hp : 1 ≤ 2 ^ a := Nat.pow_pos (by decide)
    obtain ⟨t, h, h1, h2⟩ := bitsN_bounds (N := 2 ^ (a + 1) - 1) (by omega)
    have h3 : 2 ^ t ≤ 2 ^ (a + 1) := by omega
    have h4 := (Nat.pow_le_pow_iff_right (show 1 < 2 by decide)).1 h3
    have h5 : 2 ^ a < 2 ^ (t + 1) := by omega
    have h6 := (Nat.pow_lt_pow_iff_right (show 1 < 2 by decide)).1 h5
    have h7 : t ≠ a + 1 := by rintro rfl; omega
    omega
theorem two_div {a b : Nat} (h : b ≤ a) : 2 ^ a / 2 ^ b = 2 ^ (a - b) := Nat.pow_div h (by decide)
theorem two_mod {a b : Nat} (h : b ≤ a) : rmN (2 ^ a) (2 ^ b) = 0 := by
  rw [rmN, if_neg (two_ne b)]
  exact Nat.mod_eq_zero_of_dvd (Nat.pow_dvd_pow 2 h)
theorem two_lt {a b : Nat} (h : a < b) : 2 ^ a < 2 ^ b := Nat.pow_lt_pow_right (by decide) h

set_option maxHeartbeats 4000000 in
theorem natPowers_walk (p q : Int) (w : World) (hp : -9223372036854775808 ≤ p ∧ p ≤ 9223372036854775807) (hq : -9223372036854775808 ≤ q ∧ q ≤ 9223372036854775807) :
    Calls Tryd.prog 7 #[.int .i64 p, .int .i64 q] w fun e w' => e = .returned (.bool true) ∧ Below w.heap.size w w' := by
  have KP := Lib.hid (fun w1 => place_any p 300 w1 hp ⟨by omega, by omega⟩)
  have KQ := Lib.hid (fun w1 => place_any q 300 w1 hq ⟨by omega, by omega⟩)
  have hp1 := Int.emod_nonneg p (show (300 : Int) ≠ 0 by decide)
  have hp2 := Int.emod_lt_of_pos p (show (0 : Int) < 300 by decide)
  have hq1 := Int.emod_nonneg q (show (300 : Int) ≠ 0 by decide)
  have hq2 := Int.emod_lt_of_pos q (show (0 : Int) < 300 by decide)
  generalize p % 300 = a' at *
  generalize q % 300 = b' at *
  obtain ⟨a, rfl⟩ : ∃ k : Nat, a' = (k : Int) := ⟨a'.toNat, by omega⟩
  obtain ⟨b, rfl⟩ : ∃ k : Nat, b' = (k : Int) := ⟨b'.toNat, by omega⟩
  have ha : a < 300 := by omega
  have hb : b < 300 := by omega
  clear hp1 hp2 hq1 hq2 hp hq
  have h0 := Lib.hid (Ctx.begin w)
  have HP := Lib.hid (bits_two a)
  have HQ := Lib.hid (bits_two_less a)
  by_cases hab : a < b
  · have hdv : 2 ^ a / 2 ^ b = 0 := Nat.div_eq_of_lt (two_lt hab)
    have hmd : rmN (2 ^ a) (2 ^ b) = 2 ^ a := by rw [rmN, if_neg (two_ne b)]; exact Nat.mod_eq_of_lt (two_lt hab)
    have HD := Lib.hid hdv
    have HM := Lib.hid hmd
    clear hdv hmd
    go_enter Tryd.func7, Tryd.ntmps7
    go_wp2_with fail
    refine (KP.out _).mono ?_
    rintro e w' ⟨rfl, rfl⟩
    go_wp2_with fail
    refine (KQ.out _).mono ?_
    rintro e w' ⟨rfl, rfl⟩
    go_wp2_with fail
    refine (pow_c h0.out (b := 2) (by decide) _ a (cutP_nat (by omega))).mono ?_
    rintro e w1 ⟨x, rfl, h1⟩
    have H1 := Lib.hid h1; clear h1
    go_wp2_with fail
    refine (pow_c H1.out (b := 2) (by decide) _ b (cutP_nat (by omega))).mono ?_
    rintro e w2 ⟨y, rfl, h2⟩
    have H2 := Lib.hid h2; clear h2
    go_wp2_with fail
    refine (div_c H2.out 1 0 rfl rfl (by omega) (by omega)).mono ?_
    rintro e w3 ⟨v, v', rfl, h3⟩
    rw [HD.out, HM.out] at h3
    obtain ⟨ad, cap, rfl, _⟩ := h3.get 0 rfl
    rw [limbs_zero] at h3
    rw [limbs_zero]
    have H3 := Lib.hid h3; clear h3
    go_wp2_with fail
    refine (bits_c H3.out 3 rfl (by omega)).mono ?_
    rintro e w' ⟨rfl, rfl⟩
    rw [HP.out]
    go_wp2_with fail
    refine (mul_c H3.out 3 2 rfl rfl (by omega) (by omega)).mono ?_
    rintro e w4 ⟨v4, rfl, h4⟩
    have H4 := Lib.hid h4; clear h4
    go_wp2_with fail
    refine (pow_c H4.out (b := 2) (by decide) _ (a + b) (cutP_nat (by omega))).mono ?_
    rintro e w5 ⟨v5, rfl, h5⟩
    have H5 := Lib.hid h5; clear h5
    go_wp2_with fail
    refine (cmp_c H5.out 1 0 rfl rfl (by omega) (by omega)).mono ?_
    rintro e w6 ⟨rfl, h6⟩
    rw [← Nat.pow_add, cmpN_eq]
    have H6 := Lib.hid (h6.lit (x := 1) (by decide)); clear h6
    go_wp2_with fail
    refine (sub_c H6.out 6 0 rfl rfl (by omega) (by decide)).mono ?_
    rintro e w7 ⟨v7, rfl, h7⟩
    have H7 := Lib.hid h7; clear h7
    go_wp2_with fail
    refine (bits_c H7.out 0 rfl (by omega)).mono ?_
    rintro e w' ⟨rfl, rfl⟩
    rw [HQ.out]
    go_wp2_with fail
    refine (cmp_c H7.out 5 7 rfl rfl (by omega) (by omega)).mono ?_
    rintro e w8 ⟨rfl, h8⟩
    rw [cmpN_eq]
    go_wp2_with fail
    refine (awake_c h8).mono ?_
    rintro e w9 ⟨rfl, hb9⟩
    go_wp2
    go_ret
    exact ⟨rfl, hb9⟩
  · have hdv : 2 ^ a / 2 ^ b = 2 ^ (a - b) := two_div (by omega)
    have hmd : rmN (2 ^ a) (2 ^ b) = 0 := two_mod (by omega)
    have HD := Lib.hid hdv
    have HM := Lib.hid hmd
    have hsb : (a : Int) - (b : Int) = ((a - b : Nat) : Int) := by omega
    have HS := Lib.hid hsb
    have hle : a - b ≤ 300 := by omega
    clear hdv hmd hsb
    go_enter Tryd.func7, Tryd.ntmps7
    go_wp2_with fail
    refine (KP.out _).mono ?_
    rintro e w' ⟨rfl, rfl⟩
    go_wp2_with fail
    refine (KQ.out _).mono ?_
    rintro e w' ⟨rfl, rfl⟩
    go_wp2_with fail
    refine (pow_c h0.out (b := 2) (by decide) _ a (cutP_nat (by omega))).mono ?_
    rintro e w1 ⟨x, rfl, h1⟩
    have H1 := Lib.hid h1; clear h1
    go_wp2_with fail
    refine (pow_c H1.out (b := 2) (by decide) _ b (cutP_nat (by omega))).mono ?_
    rintro e w2 ⟨y, rfl, h2⟩
    have H2 := Lib.hid h2; clear h2
    go_wp2_with fail
    refine (div_c H2.out 1 0 rfl rfl (by omega) (by omega)).mono ?_
    rintro e w3 ⟨v, v', rfl, h3⟩
    rw [HD.out, HM.out] at h3
    obtain ⟨ad, cap, rfl, _⟩ := h3.get 1 rfl
    rw [limbs_zero] at h3
    rw [limbs_zero]
    have H3 := Lib.hid h3; clear h3
    go_wp2_with fail
    refine (bits_c H3.out 3 rfl (by omega)).mono ?_
    rintro e w' ⟨rfl, rfl⟩
    rw [HP.out]
    go_wp2_with fail
    refine (mul_c H3.out 3 2 rfl rfl (by omega) (by omega)).mono ?_
    rintro e w4 ⟨v4, rfl, h4⟩
    have H4 := Lib.hid h4; clear h4
    go_wp2_with fail
    refine (pow_c H4.out (b := 2) (by decide) _ (a + b) (cutP_nat (by omega))).mono ?_
    rintro e w5 ⟨v5, rfl, h5⟩
    have H5 := Lib.hid h5; clear h5
    go_wp2_with fail
    refine (cmp_c H5.out 1 0 rfl rfl (by omega) (by omega)).mono ?_
    rintro e w6 ⟨rfl, h6⟩
    rw [← Nat.pow_add, cmpN_eq]
    have H6 := Lib.hid (h6.lit (x := 1) (by decide)); clear h6
    go_wp2_with fail
    refine (sub_c H6.out 6 0 rfl rfl (by omega) (by decide)).mono ?_
    rintro e w7 ⟨v7, rfl, h7⟩
    have H7 := Lib.hid h7; clear h7
    go_wp2_with fail
    refine (bits_c H7.out 0 rfl (by omega)).mono ?_
    rintro e w' ⟨rfl, rfl⟩
    rw [HQ.out]
    go_wp2_with fail
    rw [HS.out]
    refine (pow_c H7.out (b := 2) (by decide) _ (a - b) (cutP_nat (by omega))).mono ?_
    rintro e w8 ⟨v8, rfl, h8⟩
    have H8 := Lib.hid h8; clear h8
    go_wp2_with fail
    refine (cmp_c H8.out 5 0 rfl rfl (by omega) (by omega)).mono ?_
    rintro e w9 ⟨rfl, h9⟩
    rw [cmpN_eq]
    go_wp2_with fail
    refine (awake_c h9).mono ?_
    rintro e w10 ⟨rfl, hb10⟩
    go_wp2
    go_ret
    exact ⟨rfl, hb10⟩
end Go.Proofs.YtolmmpdgbkbcmaaDoor
