/- The walk of the reference's Bits. -/
import Derived.Test.YtogapgjilbcbfaaGreatDoorRz
namespace Go.Proofs.YtogapgjilbcbfaaGreatDoor
open Go.RowKit
set_option linter.unusedVariables false
set_option linter.unusedSimpArgs false

theorem bits_is {N j : Nat} (h1 : 2 ^ j ≤ N) (h2 : N < 2 ^ (j + 1)) : bitsN N = j + 1 := by
  have h0 : N ≠ 0 := by have := Nat.pow_pos (show 0 < 2 by decide) (n := j); omega
  obtain ⟨t, e, b1, b2⟩ := bitsN_bounds h0
  rw [e]
  have : t = j := by
    rcases Nat.lt_trichotomy t j with h | h | h
    · have := Nat.pow_le_pow_right (show 0 < 2 by decide) (show t + 1 ≤ j by omega); omega
    · exact h
    · have := Nat.pow_le_pow_right (show 0 < 2 by decide) (show j + 1 ≤ t by omega); omega
  omega
theorem bit_low {N j : Nat} (h : N < 2 ^ (j + 1)) (hb : N / 2 ^ j % 2 = 0) : N < 2 ^ j := by
  have h1 : N / 2 ^ j < 2 := by
    rw [Nat.div_lt_iff_lt_mul (Nat.pow_pos (by decide))]; rw [Nat.pow_succ, Nat.mul_comm] at h; exact h
  have h2 : N / 2 ^ j = 0 := by
    generalize N / 2 ^ j = q at *
    omega
  rcases Nat.div_eq_zero_iff.1 h2 with h3 | h3
  · have := Nat.pow_pos (show 0 < 2 by decide) (n := j); omega
  · exact h3
theorem bit_high {N j : Nat} (hb : N / 2 ^ j % 2 = 1) : 2 ^ j ≤ N := by
  rcases Nat.lt_or_ge N (2 ^ j) with h | h
  · rw [Nat.div_eq_of_lt h] at hb; simp at hb
  · exact h
theorem bits_none {N : Nat} (h : N < 2 ^ 0) : bitsN N = 0 := by
  have : N = 0 := by simpa using h
  subst this; exact bitsN_z

theorem and_oneb (x R : Nat) (hx : x < 4294967296) : bits .and .u32 ((x : Int) / 2 ^ R) 1 = ((x / 2 ^ R % 2 : Nat) : Int) := by
  have e : ((x : Int) / 2 ^ R) = ((x / 2 ^ R : Nat) : Int) := by simp
  have h := u32_and_nat (x / 2 ^ R) 1 (Nat.lt_of_le_of_lt (Nat.div_le_self _ _) hx) (by omega)
  rw [e]
  rw [Nat.and_one_is_mod] at h
  exact h
def BtRel (N c : Nat) (w : World) (g : Nat) (n : Value) (wr : World) : Prop := ∃ j, j ≤ g ∧ j ≤ 32 * c ∧ n = .int .i64 ((j : Nat) : Int) ∧ N < 2 ^ j ∧ wr = w

set_option maxHeartbeats 4000000 in
set_option maxRecDepth 100000 in
theorem refBits_any (ad : Option Addr) (n cap : Nat) (xs : List Nat) (w : World) (hn : xs.length = n) (hcap : n ≤ cap) (hm : n ≤ 1000000) (ho : Okl xs) (hr : Rd w ad xs) :
    Calls Tryz.prog 34 #[.slice ad n cap] w fun e w' => e = .returned (.int .i64 ((bitsN (val xs) : Nat) : Int)) ∧ Below w.heap.size w w' := by
  have KN := Lib.hid (refNorm_any ad n cap xs w hn hcap (by omega) ho hr)
  have hll := limbs_len_le ho
  have hpw := limbs_lt_pow (val xs)
  rw [hn] at hll
  generalize val xs = N at *
  clear hn ho hr
  go_enter Tryz.func34, Tryz.ntmps34
  go_wp2_with fail
  refine KN.out.mono ?_
  rintro e w1 hg
  obtain ⟨v, rfl, hown, hb⟩ := hg
  obtain ⟨ad1, cap1, rfl, hc1, hr1, _⟩ := hown.view
  have HR1 := Lib.hid hr1; have HB := Lib.hid hb
  have hbit := Lib.hid (fun j => by have := bit_limb (limbs_ok N) j; rwa [val_limbs] at this : ∀ j, (limbs N).getD (j / 32) 0 / 2 ^ (j % 32) % 2 = N / 2 ^ j % 2)
  have hlx := Lib.hid (limbs_ok N)
  have hpw2 : N < 2 ^ (32 * (limbs N).length) := by
    have e : B32 ^ (limbs N).length = 2 ^ (32 * (limbs N).length) := by rw [Nat.pow_mul]; rfl
    rw [← e]; exact hpw
  have HP := Lib.hid hpw2
  clear hown hb hr1 hpw hpw2
  generalize hL : limbs N = L at *
  have HL := Lib.hid hL; clear hL
  generalize hc : L.length = c at *
  have HC := Lib.hid hc; clear hc
  go_wp2
  go_loopg [4] (32 * c) (fun g n wr => BtRel N c w1 g n wr)
  case atStart => exact ⟨32 * c, by omega, by omega, by go_num, HP.out, rfl⟩
  case round =>
    obtain ⟨j, hk, hj, rfl, hlt, rfl⟩ := hrel
    have HLT := Lib.hid hlt; clear hlt
    rcases j with _ | j
    · have h0 : ¬ (0 : Int) < ((0 : Nat) : Int) := by omega
      have HZ := Lib.hid (bits_none HLT.out)
      go_wp2
      go_ret
      exact ⟨by rw [HZ.out]; rfl, HB.out⟩
    · obtain ⟨g, rfl⟩ : ∃ g, gk = g + 1 := ⟨gk - 1, by omega⟩
      obtain ⟨b1, o1, hd1, _, cc⟩ := HR1.out (j / 32) (by rw [HC.out]; omega)
      subst hd1
      have hx : L.getD (j / 32) 0 < 4294967296 := hlx.out.getD _
      have hbj := hbit.out j
      have hq0 : (j : Int) / 32 = ((j / 32 : Nat) : Int) := by omega
      have hr0 : (j : Int) % 32 = ((j % 32 : Nat) : Int) := by omega
      have hqb : j / 32 < c := by omega
      have hrb : j % 32 < 32 := by omega
      rw [show ((j + 1 : Nat) : Int) = (j : Int) + 1 by omega]
      generalize L.getD (j / 32) 0 = x at *
      generalize j / 32 = Q at *
      generalize j % 32 = R at *
      have hand := and_oneb x R hx
      generalize hbt : x / 2 ^ R % 2 = bt at *
      have hb2 : bt = 0 ∨ bt = 1 := by rw [← hbt]; omega
      have HBJ := Lib.hid hbj
      clear hbj hbt
      rcases hb2 with rfl | rfl
      · have HLO := Lib.hid (bit_low HLT.out HBJ.out.symm)
        go_wp2
        go_roundg g
        case rel => exact ⟨j, by omega, by omega, rfl, HLO.out, rfl⟩
        case measure => omega
      · have HHI := Lib.hid (bits_is (bit_high HBJ.out.symm) HLT.out)
        go_wp2
        go_ret
        exact ⟨by rw [HHI.out]; rfl, HB.out⟩
end Go.Proofs.YtogapgjilbcbfaaGreatDoor
