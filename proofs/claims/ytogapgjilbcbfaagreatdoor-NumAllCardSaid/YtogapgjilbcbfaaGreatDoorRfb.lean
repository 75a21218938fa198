/- The reference's Add: its invariant (the walk is still to be written: loop over l, c, i in tmps 5, 6, 7; limb_any twice, wpl_append, then Norm). -/
import Derived.Test.YtogapgjilbcbfaaGreatDoorRfa
namespace Go.Proofs.YtogapgjilbcbfaaGreatDoor
open Go.RowKit
set_option linter.unusedVariables false
set_option linter.unusedSimpArgs false

theorem val_take_getD (xs : List Nat) (k : Nat) : val (xs.take (k + 1)) = val (xs.take k) + B32 ^ k * xs.getD k 0 := by
  by_cases h : k < xs.length
  · exact val_take_succ xs k h
  · rw [List.take_of_length_le (by omega), List.take_of_length_le (by omega), getD_out (by omega)]; simp

def RAInv (xs ys zs : List Nat) (k c : Nat) : Prop := zs.length = k ∧ Okl zs ∧ c ≤ 1 ∧ val zs + B32 ^ k * c = val (xs.take k) + val (ys.take k)
theorem RAInv.next {xs ys zs : List Nat} {k c : Nat} (h : RAInv xs ys zs k c) (hx : Okl xs) (hy : Okl ys) :
    RAInv xs ys (zs ++ [(c + xs.getD k 0 + ys.getD k 0) % 4294967296]) (k + 1) ((c + xs.getD k 0 + ys.getD k 0) / 4294967296) := by
  obtain ⟨h1, h2, h3, h4⟩ := h
  have b1 := hx.getD k
  have b2 := hy.getD k
  rw [B32_eq] at b1 b2
  refine ⟨by simp [h1], h2.append (Okl.cons (by rw [B32_eq]; omega) Okl.nil), by omega, ?_⟩
  rw [val_take_getD xs, val_take_getD ys, val_append, h1, Nat.pow_succ]
  generalize xs.getD k 0 = x at *
  generalize ys.getD k 0 = y at *
  have e : val [(c + x + y) % 4294967296] = (c + x + y) % 4294967296 := by simp [val]
  rw [e, Nat.mul_assoc, Nat.add_assoc, ← Nat.mul_add]
  have e2 : (c + x + y) % 4294967296 + B32 * ((c + x + y) / 4294967296) = c + x + y := by rw [B32_eq]; omega
  rw [e2, Nat.mul_add, Nat.mul_add]
  generalize B32 ^ k * x = p at *
  generalize B32 ^ k * y = q at *
  generalize B32 ^ k * c = r at *
  omega
theorem RAInv.start (xs ys : List Nat) : RAInv xs ys [] 0 0 := ⟨rfl, Okl.nil, by omega, by simp [val]⟩
theorem RAInv.done {xs ys zs : List Nat} {m c : Nat} (h : RAInv xs ys zs (m + 1) c) (hx : Okl xs) (hy : Okl ys) (h1 : xs.length ≤ m) (h2 : ys.length ≤ m) : val zs = val xs + val ys := by
  obtain ⟨a1, a2, a3, a4⟩ := h
  rw [List.take_of_length_le (by omega), List.take_of_length_le (by omega)] at a4
  have b1 := Nat.lt_of_lt_of_le (val_lt hx) (Nat.pow_le_pow_right (show 0 < B32 by decide) h1)
  have b2 := Nat.lt_of_lt_of_le (val_lt hy) (Nat.pow_le_pow_right (show 0 < B32 by decide) h2)
  rcases Nat.eq_zero_or_pos c with h0 | h0
  · subst h0; rw [Nat.mul_zero, Nat.add_zero] at a4; exact a4
  · obtain rfl : c = 1 := by omega
    rw [Nat.pow_succ] at a4
    generalize B32 ^ m = P at *
    have : P * 2 ≤ P * B32 := Nat.mul_le_mul_left _ (by decide)
    omega

def RARel (G m : Nat) (xs ys : List Nat) (w : World) (l c i : Value) (wr : World) : Prop :=
  ∃ (k cy : Nat) (zs : List Nat), k ≤ m + 1 ∧ i = .int .i64 (k : Int) ∧ c = .int .u64 (cy : Int) ∧ RAInv xs ys zs k cy ∧ Own G wr l zs ∧ Below G w wr

end Go.Proofs.YtogapgjilbcbfaaGreatDoor
