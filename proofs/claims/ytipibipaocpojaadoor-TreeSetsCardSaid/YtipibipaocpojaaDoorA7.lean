/- The walks of Div, zeros, tens, Pow. The walks of Trim, Pow. The walk of Pow. -/
import Derived.Test.YtipibipaocpojaaDoorNl
namespace Go.Proofs.YtipibipaocpojaaDoor
open Go.RowKit
set_option linter.unusedVariables false
set_option linter.unusedSimpArgs false

theorem limbs_top {N t : Nat} (h : (limbs N).length = t + 1) : (limbs N).getD t 0 ≠ 0 := by
  have hc := limbs_cutLen N
  rw [h] at hc
  exact cut_top _ _ _ hc
theorem limbs_len_mono {a b : Nat} (h : b ≤ a) : (limbs b).length ≤ (limbs a).length := by
  rcases Nat.lt_or_ge (limbs a).length (limbs b).length with h1 | h1
  · have := limbs_len_lt h1; omega
  · exact h1

/-- What Div leaves over: nothing, if the divisor is 0. -/
def rmN (a b : Nat) : Nat := if b = 0 then 0 else a % b
def QuoPost (a b : Nat) (w : World) (e : Ending) (w' : World) : Prop :=
  ∃ v1 v2, e = .returned (.tuple #[v1, v2]) ∧ Own w.heap.size w' v1 (limbs (a / b)) ∧ Own w.heap.size w' v2 (limbs (rmN a b)) ∧ Below w.heap.size w w'

theorem cmpN_neg {a b : Nat} : (cmpN a b < 0) ↔ a < b := by unfold cmpN; split <;> (try split) <;> omega

/-- A power of ten. -/
def tenN (n : Nat) : Nat := 10 ^ n
theorem tenN_zero : tenN 0 = 1 := rfl
theorem tenN_succ (n : Nat) : tenN (n + 1) = tenN n * 10 := Nat.pow_succ _ _
theorem tenN_pos (n : Nat) : 0 < tenN n := Nat.pow_pos (by decide)
theorem tenN_le {n m : Nat} (h : n ≤ m) : tenN n ≤ tenN m := Nat.pow_le_pow_right (by decide) h
theorem tenN_9 : tenN 9 = 1000000000 := by decide
theorem tenN_add (a b : Nat) : tenN (a + b) = tenN a * tenN b := Nat.pow_add _ _ _

def ZerosPost (v : Nat) (w : World) (e : Ending) (w' : World) : Prop :=
  ∃ z m, e = .returned (.int .i64 ((z : Nat) : Int)) ∧ v = m * tenN z ∧ m % 10 ≠ 0 ∧ z ≤ 8 ∧ w = w'

end Go.Proofs.YtipibipaocpojaaDoor
namespace Go.Proofs.YtipibipaocpojaaDoor
open Go.RowKit
set_option linter.unusedVariables false
set_option linter.unusedSimpArgs false

def TrimPost (a : Nat) (w : World) (e : Ending) (w' : World) : Prop :=
  ∃ v m k, e = .returned (.tuple #[v, .int .i64 ((k : Nat) : Int)]) ∧ Own w.heap.size w' v (limbs m) ∧ Below w.heap.size w w' ∧ a = m * tenN k ∧ (a = 0 → k = 0) ∧ (a ≠ 0 → m % 10 ≠ 0) ∧ k ≤ 400000000

theorem ten_bound {k N n : Nat} (h : tenN k ≤ N) (h2 : N < B32 ^ n) : k < 32 * n := by
  have h1 : 2 ^ k ≤ tenN k := Nat.pow_le_pow_left (by decide) k
  have e : B32 ^ n = 2 ^ (32 * n) := by rw [Nat.pow_mul]; rfl
  rw [e] at h2
  have h3 : 2 ^ k < 2 ^ (32 * n) := by omega
  exact (Nat.pow_lt_pow_iff_right (by decide)).1 h3

theorem trim_last {L m z : Nat} (h : L % 1000000000 = m * tenN z) (hm : m % 10 ≠ 0) (hz : z ≤ 8) : L = L / tenN z * tenN z ∧ (L / tenN z) % 10 ≠ 0 := by
  have e9 : (1000000000 : Nat) = tenN (9 - z) * tenN z := by rw [← tenN_add, Nat.sub_add_cancel (by omega), tenN_9]
  have hd := Nat.div_add_mod L 1000000000
  rw [h] at hd
  generalize L / 1000000000 = q at *
  have hL : L = (tenN (9 - z) * q + m) * tenN z := by
    rw [← hd]; conv => lhs; lhs; rw [e9]
    grind
  have hq : L / tenN z = tenN (9 - z) * q + m := by rw [hL]; exact Nat.mul_div_cancel _ (tenN_pos z)
  refine ⟨by rw [hq]; exact hL, ?_⟩
  rw [hq]
  have : tenN (9 - z) = 10 * tenN (8 - z) := by rw [show 9 - z = (8 - z) + 1 by omega, tenN_succ, Nat.mul_comm]
  rw [this, Nat.mul_assoc, Nat.mul_add_mod]
  exact hm

def TrimRel (G a n : Nat) (w : World) (L : Nat) (lv cnt : Value) (wr : World) : Prop :=
  ∃ c : Nat, L ≠ 0 ∧ cnt = .int .i64 c ∧ Own G wr lv (limbs L) ∧ a = L * tenN c ∧ Below G w wr

end Go.Proofs.YtipibipaocpojaaDoor
namespace Go.Proofs.YtipibipaocpojaaDoor
open Go.RowKit
set_option linter.unusedVariables false
set_option linter.unusedSimpArgs false

/-- n cut to from 0 to 1300. -/
def cutP (n : Int) : Nat := (min (max n 0) 1300).toNat
theorem cutP_le (n : Int) : cutP n ≤ 1300 := by unfold cutP; omega
theorem cutP_eq (n : Int) : min (max n 0) 1300 = (cutP n : Int) := by unfold cutP; omega
theorem cutP_nat {n : Nat} (h : n ≤ 1300) : cutP (n : Int) = n := by unfold cutP; omega

theorem limbs_one : limbs 1 = [1] := by decide
theorem pow_bound {b : Nat} (hb : b < B32) (e : Nat) : b ^ e < B32 ^ (e + 1) := by
  have h1 : b ^ e ≤ B32 ^ e := Nat.pow_le_pow_left (Nat.le_of_lt hb) e
  have h2 : B32 ^ e < B32 ^ (e + 1) := Nat.pow_lt_pow_right (by decide) (Nat.lt_succ_self e)
  exact Nat.lt_of_le_of_lt h1 h2

theorem and_one (m : Nat) (h : m ≤ 1300) : bits BinOp.and IntKind.i64 (m : Int) 1 = ((m % 2 : Nat) : Int) := by
  have := bits_mask .i64 62 (by decide) (fun n h0 h1 => IntWalk.i64_in n (by omega)) 1 (by decide) (m : Int) (by omega) (by omega)
  have e : (2 : Int) ^ 1 - 1 = 1 := by decide
  rw [e] at this
  rw [this]; omega
theorem shr_cast (N j : Nat) : (N : Int) / 2 ^ j = ((N / 2 ^ j : Nat) : Int) := by push_cast; rfl
theorem half_step (N j : Nat) : N / 2 ^ j = 2 * (N / 2 ^ (j + 1)) + N / 2 ^ j % 2 := by
  rw [Nat.pow_succ, ← Nat.div_div_eq_div_mul]; omega

def PowRel (G b N : Nat) (w : World) (pv i : Value) (wr : World) : Prop :=
  ∃ k : Nat, k ≤ 12 ∧ i = .int .i64 ((k : Int) - 1) ∧ Own G wr pv (limbs (b ^ (N / 2 ^ k))) ∧ Below G w wr

end Go.Proofs.YtipibipaocpojaaDoor
