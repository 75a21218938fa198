/- The walk of the reference's Div. -/
import Derived.Test.YtokppjfaihkkcaaDoorRr
import Derived.Test.YtokppjfaihkkcaaDoorRb
namespace Go.Proofs.YtokppjfaihkkcaaDoor
open Go.RowKit
set_option linter.unusedVariables false
set_option linter.unusedSimpArgs false

/-- A limb turned: by so much the natural grows. -/
theorem val_set_add (xs : List Nat) (q y : Nat) (h : q < xs.length) : val (xs.set q (xs.getD q 0 + y)) = val xs + B32 ^ q * y := by
  have e1 := val_take_drop (xs.set q (xs.getD q 0 + y)) (q + 1) (by rw [List.length_set]; omega)
  have e2 := val_take_drop xs (q + 1) (by omega)
  rw [val_set_take _ _ _ h, List.drop_set_of_lt (by omega)] at e1
  rw [val_take_succ _ _ h] at e2
  rw [e1, e2, Nat.mul_add]; omega
theorem val_div_drop {xs : List Nat} (ho : Okl xs) (q : Nat) (h : q ≤ xs.length) : val xs / B32 ^ q = val (xs.drop q) := by
  have hl := val_lt (ho.take q)
  rw [List.length_take, Nat.min_eq_left h] at hl
  rw [val_take_drop xs q h, Nat.add_mul_div_left _ _ (Nat.pow_pos B32_pos), Nat.div_eq_of_lt hl, Nat.zero_add]
/-- The bits of a quotient that are still to come are none. -/
theorem quo_limb {Q : List Nat} (ho : Okl Q) {i K : Nat} (hq : i / 32 < Q.length) (h : val Q = K * 2 ^ (i + 1)) : Q.getD (i / 32) 0 % 2 ^ (i % 32 + 1) = 0 := by
  have hi : i = 32 * (i / 32) + i % 32 := by omega
  have hr : i % 32 < 32 := by omega
  generalize i / 32 = q at *
  generalize i % 32 = r at *
  subst hi
  have hB : B32 ^ q = 2 ^ (32 * q) := by rw [Nat.pow_mul]; rfl
  have hd := val_div_drop ho q (Nat.le_of_lt hq)
  have e : val Q = B32 ^ q * (K * 2 ^ (r + 1)) := by
    rw [h, hB, show 32 * q + r + 1 = 32 * q + (r + 1) by omega, Nat.pow_add, Nat.mul_left_comm]
  rw [e, Nat.mul_div_cancel_left _ (Nat.pow_pos B32_pos), val_drop_succ Q q hq] at hd
  have hbb : B32 = 2 ^ (r + 1) * 2 ^ (31 - r) := by
    rw [← Nat.pow_add, show r + 1 + (31 - r) = 32 by omega]; rfl
  have h3 : (Q.getD q 0 + B32 * val (Q.drop (q + 1))) % 2 ^ (r + 1) = 0 := by rw [← hd, Nat.mul_mod_left]
  generalize Q.getD q 0 = z at *
  generalize val (Q.drop (q + 1)) = V at *
  rw [hbb, Nat.mul_assoc, Nat.add_mul_mod_self_left] at h3
  exact h3
theorem limb_room {z r : Nat} (hr : r < 32) (hz : z < 4294967296) (h : z % 2 ^ (r + 1) = 0) : z + 2 ^ r < 4294967296 := by
  obtain ⟨t, ht⟩ : ∃ t, z = 2 ^ (r + 1) * t := ⟨_, (Nat.mul_div_cancel' (Nat.dvd_of_mod_eq_zero h)).symm⟩
  have hd : (4294967296 : Nat) = 2 ^ (r + 1) * 2 ^ (31 - r) := by rw [← Nat.pow_add, show r + 1 + (31 - r) = 32 by omega]
  rw [hd, ht] at hz
  have htl := Nat.lt_of_mul_lt_mul_left hz
  have h3 : 2 ^ (r + 1) * (t + 1) ≤ 2 ^ (r + 1) * 2 ^ (31 - r) := Nat.mul_le_mul_left _ htl
  rw [← hd, Nat.mul_add, ← ht] at h3
  have h4 : 2 ^ (r + 1) = 2 ^ r * 2 := Nat.pow_succ ..
  have h5 := Nat.pow_pos (show 0 < 2 by decide) (n := r)
  omega
theorem or_bit {z r : Nat} (hr : r < 32) (hz : z < 4294967296) (h : z % 2 ^ (r + 1) = 0) : bits .or .u32 (z : Int) ((2 ^ r : Nat) : Int) = ((z + 2 ^ r : Nat) : Int) := by
  have h1 : 2 ^ r < 2 ^ (r + 1) := Nat.pow_lt_pow_right (by decide) (by omega)
  have h2 : 2 ^ r < 4294967296 := Nat.lt_of_lt_of_le (Nat.pow_lt_pow_right (by decide) hr) (by decide)
  rw [u32_or_nat z (2 ^ r) hz h2, nat_join (r + 1) z (2 ^ r) h h1]
theorem own_put {B g : Nat} {w : World} {v : Value} {xs ys : List Nat} {r : List Value} (h : Own B w v xs) (hg : g < B) : Own B (put g ys r w) v xs := by
  obtain ⟨ho, h | ⟨g', cap, r', e, hg', hb, hc⟩⟩ := h
  · exact ⟨ho, .inl h⟩
  · exact ⟨ho, .inr ⟨g', cap, r', e, hg', hb.put_ne (by omega), hc⟩⟩
theorem refShift_at {B : Nat} {v : Value} {zs : List Nat} {W : World} (h : Own B W v zs) (hl : zs.length ≤ 1000000) :
    Calls Tryd.prog 44 #[v, .int .i64 1] W (Gives (2 * val zs) W) := by
  obtain ⟨ad, cap, rfl, hcp, hr, _⟩ := h.view
  have := refShift_any ad zs.length cap zs 1 W rfl hcp hl (by omega) h.1 hr
  rw [Nat.pow_one, Nat.mul_comm] at this
  exact this
theorem refNorm_at {B : Nat} {v : Value} {zs : List Nat} {W : World} (h : Own B W v zs) (hl : zs.length ≤ 1000000) :
    Calls Tryd.prog 69 #[v] W (Gives (val zs) W) := by
  obtain ⟨ad, cap, rfl, hcp, hr, _⟩ := h.view
  exact refNorm_any ad zs.length cap zs W rfl hcp (by omega) h.1 hr
/-- What holds behind the bits from j on. -/
def DvRel (G n bn N D : Nat) (w : World) (g : Nat) (rem i : Value) (wr : World) : Prop :=
  ∃ (j : Nat) (Q : List Nat), j ≤ g ∧ j ≤ bn ∧ i = .int .i64 ((j : Int) - 1) ∧ Own (G + 1) wr rem (limbs (N / 2 ^ j % D)) ∧ Blk wr G Q [] ∧ Q.length = n ∧ Okl Q ∧ val Q = N / 2 ^ j / D * 2 ^ j ∧ Below G w wr

theorem dv_yes {N D j : Nat} (hD : 0 < D) {Qv : Nat} (hq : Qv = N / 2 ^ (j + 1) / D * 2 ^ (j + 1)) (h : D ≤ 2 * (N / 2 ^ (j + 1) % D) + N / 2 ^ j % 2) :
    2 * (N / 2 ^ (j + 1) % D) + N / 2 ^ j % 2 - D = N / 2 ^ j % D ∧ Qv + 2 ^ j = N / 2 ^ j / D * 2 ^ j := by
  obtain ⟨_, b, c⟩ := div_bit (N := N) (i := j) hD
  rw [if_pos h] at b c
  refine ⟨c.symm, ?_⟩
  rw [b, hq]
  generalize N / 2 ^ (j + 1) / D = q
  rw [Nat.pow_succ]
  generalize 2 ^ j = P
  grind
theorem dv_no {N D j : Nat} (hD : 0 < D) {Qv : Nat} (hq : Qv = N / 2 ^ (j + 1) / D * 2 ^ (j + 1)) (h : ¬ D ≤ 2 * (N / 2 ^ (j + 1) % D) + N / 2 ^ j % 2) :
    2 * (N / 2 ^ (j + 1) % D) + N / 2 ^ j % 2 = N / 2 ^ j % D ∧ Qv = N / 2 ^ j / D * 2 ^ j := by
  obtain ⟨_, b, c⟩ := div_bit (N := N) (i := j) hD
  rw [if_neg h] at b c
  refine ⟨c.symm, ?_⟩
  rw [b, hq]
  generalize N / 2 ^ (j + 1) / D = q
  rw [Nat.pow_succ]
  generalize 2 ^ j = P
  grind
theorem limbs_small2 {M D n : Nat} (h : M < 2 * D) (hD : (limbs D).length ≤ n) : (limbs M).length ≤ n + 1 := by
  apply limbs_length_le
  have h1 := limbs_lt_pow D
  have h2 : B32 ^ (limbs D).length ≤ B32 ^ n := Nat.pow_le_pow_right B32_pos hD
  have := pow_two_le n
  omega

end Go.Proofs.YtokppjfaihkkcaaDoor
