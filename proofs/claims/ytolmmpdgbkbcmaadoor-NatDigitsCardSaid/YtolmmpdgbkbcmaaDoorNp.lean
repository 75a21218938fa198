/- The walk of Pow. -/
import Derived.Test.YtolmmpdgbkbcmaaDoorNo
namespace Go.Proofs.YtolmmpdgbkbcmaaDoor
open Go.RowKit
set_option linter.unusedVariables false

/-- n cut to from 0 to 1300. -/
def cutP (n : Int) : Nat := (min (max n 0) 1300).toNat
theorem cutP_le (n : Int) : cutP n ≤ 1300 := by unfold cutP; omega
theorem cutP_eq (n : Int) : min (max n 0) 1300 = (cutP n : Int) := by unfold cutP; omega
theorem cutP_nat {n : Nat} (h : n ≤ 1300) : cutP (n : Int) = n := by unfold cutP; omega

theorem limbs_one : limbs 1 = [1] := by decide
theorem pow_bound {b : Nat} (hb : b < B32) (e : Nat) : b ^ e < B32 ^ (e + 1) := by
  have h1 : b ^ e ≤ B32 ^ e := Nat.pow_le_pow_left (Nat.le_of_lt hb) e
  have h2 : B32 ^ e < B32 ^ (e + 1) := Nat.pow_lt_pow_right (by decide) (Nat.lt_succ_self e)
  exact Nat.lt_of_le_of_lt h1 h2

theorem and_one (m : Nat) (h : m ≤ 1300) : bits BinOp.and IntKind.i64 (m : Int) 1 = ((m % 2 : Nat) : Int) := by
  have := bits_mask .i64 62 (by decide) (fun n h0 h1 => IntWalk.i64_in n (by omega)) 1 (by decide) (m : Int) (by omega) (by omega)
  have e : (2 : Int) ^ 1 - 1 = 1 := by decide
  rw [e] at this
  rw [this]; omega
theorem shr_cast (N j : Nat) : (N : Int) / 2 ^ j = ((N / 2 ^ j : Nat) : Int) := by push_cast; rfl
theorem half_step (N j : Nat) : N / 2 ^ j = 2 * (N / 2 ^ (j + 1)) + N / 2 ^ j % 2 := by
  rw [Nat.pow_succ, ← Nat.div_div_eq_div_mul]; omega

def PowRel (G b N : Nat) (w : World) (pv i : Value) (wr : World) : Prop :=
  ∃ k : Nat, k ≤ 12 ∧ i = .int .i64 ((k : Int) - 1) ∧ Own G wr pv (limbs (b ^ (N / 2 ^ k))) ∧ Below G w wr

set_option maxHeartbeats 2000000 in
theorem pow_any (b : Nat) (n : Int) (w : World) (hb : b < B32) :
    Calls Tryd.prog 23 #[.int .u32 (b : Int), .int .i64 n] w (Gives (b ^ cutP n) w) := by
  have hce := cutP_eq n
  have hcl := cutP_le n
  generalize cutP n = N at *
  have HCE := Lib.hid hce; clear hce
  have hbl : blen N ≤ 11 := Lib.bitLen_le N 11 (by decide) (by omega)
  have hz : N / 2 ^ blen N = 0 := by
    by_cases h0 : N = 0
    · subst h0; exact Nat.zero_div _
    · exact Nat.div_eq_of_lt (bitLen_bounds N N (Nat.le_refl _) (by omega) h0).2.2
  have HZ := Lib.hid hz; clear hz
  have KL := Lib.hid (fun w => len_small N w (by omega))
  generalize blen N = t at *
  go_enter Tryd.func23, Tryd.ntmps23
  go_wp2_with fail
  rw [HCE.out]
  refine (KL.out _).mono ?_
  rintro e w' ⟨rfl, rfl⟩
  go_wp2_with fail
  go_loopw [5, 6] (fun p i wr => PowRel w.heap.size b N w p i wr) (fun _ i _ => (intOf i + 1).toNat)
  case atStart =>
    refine ⟨t, by omega, rfl, ?_, (Below.refl _ _).alloc (Nat.le_refl _) _⟩
    rw [HZ.out, Nat.pow_zero, limbs_one]
    refine ⟨Okl.cons (by decide) Okl.nil, .inr ⟨w.heap.size, 1, [], rfl, Nat.le_refl _, ?_, rfl, by unfold maxLen; omega⟩⟩
    exact heap_alloc_new w _
  case round =>
    obtain ⟨k, hk, rfl, hown, hbl2⟩ := hrel
    rcases k with _ | j
    · rw [show (((0 : Nat) : Int) - 1) = -1 from rfl]
      go_wp2
      go_ret
      exact ⟨_, rfl, by simpa using hown, hbl2⟩
    · rw [show (((j + 1 : Nat) : Int) - 1) = (j : Int) by omega]
      obtain ⟨ad, cap, rfl, hle, hrd, _⟩ := hown.view
      have hE : N / 2 ^ (j + 1) ≤ 1300 := Nat.le_trans (Nat.div_le_self _ _) hcl
      have hlen := limbs_length_le (pow_bound hb (N / 2 ^ (j + 1)))
      have K2 := mul_any ad _ cap _ ad _ cap _ wr rfl hle (by omega) (limbs_ok _) hrd rfl hle (by omega) (limbs_ok _) hrd
      rw [val_limbs, ← Nat.pow_add, ← Nat.two_mul] at K2
      have K2H := Lib.hid K2; clear K2 hrd hle
      go_wp2_with fail
      refine K2H.out.mono ?_
      rintro e w1 ⟨v1, rfl, hv1, hb1⟩
      have hst := half_step N j
      have hbit : Hid (bits BinOp.and IntKind.i64 ((N : Int) / 2 ^ j) 1 = ((N / 2 ^ j % 2 : Nat) : Int)) := by
        unfold Hid; rw [shr_cast]; exact and_one _ (Nat.le_trans (Nat.div_le_self _ _) hcl)
      have hm2 : N / 2 ^ j % 2 < 2 := Nat.mod_lt _ (by decide)
      have hE0 : N / 2 ^ j ≤ 1300 := Nat.le_trans (Nat.div_le_self _ _) hcl
      generalize hbt : N / 2 ^ j % 2 = bt at *
      generalize hM : N / 2 ^ j = M at *
      generalize hH : N / 2 ^ (j + 1) = H at *
      have HM := Lib.hid hM; clear hM hbt
      have HST := Lib.hid hst; clear hst hH
      have hsz : w.heap.size ≤ wr.heap.size := hbl2.size
      by_cases h1 : bt = 1
      · have hb1' : (bits BinOp.and IntKind.i64 ((N : Int) / 2 ^ j) 1 == 1) = true := by rw [hbit.out, h1]; rfl
        have K4 := timesPlus_any w.heap.size v1 (limbs (b ^ (2 * H))) b 0 w1 (hv1.mono hsz) (Nat.le_trans hsz hb1.size) (by have := limbs_length_le (pow_bound hb (2 * H)); have := HST.out; omega) hb (by decide)
        rw [val_limbs, Nat.add_zero, ← Nat.pow_succ] at K4
        have K4H := Lib.hid K4; clear K4
        go_wp2_with fail
        refine K4H.out.mono ?_
        rintro e w2 ⟨v2, rfl, hv2, hb2⟩
        have hfin : b ^ (2 * H + 1) = b ^ (N / 2 ^ j) := by rw [HM.out, HST.out, h1]
        have HF := Lib.hid hfin; clear hfin
        go_wp2
        go_roundw
        case rel => exact ⟨j, by omega, by go_num, by rw [← HF.out]; exact hv2, hbl2.trans ((hb1.mono hsz).trans hb2)⟩
        case measure => simp [intOf]
      · have h0 : bt = 0 := by omega
        have hb1' : (bits BinOp.and IntKind.i64 ((N : Int) / 2 ^ j) 1 == 1) = false := by rw [hbit.out, h0]; rfl
        have hfin : b ^ (2 * H) = b ^ (N / 2 ^ j) := by rw [HM.out, HST.out, h0, Nat.add_zero]
        have HF := Lib.hid hfin; clear hfin
        go_wp2
        go_roundw
        case rel => exact ⟨j, by omega, by go_num, by rw [← HF.out]; exact hv1.mono hsz, hbl2.trans (hb1.mono hsz)⟩
        case measure => simp [intOf]
end Go.Proofs.YtolmmpdgbkbcmaaDoor
