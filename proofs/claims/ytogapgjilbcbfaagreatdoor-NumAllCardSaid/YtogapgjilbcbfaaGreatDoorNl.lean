/- The walk of divide. -/
import Derived.Test.YtogapgjilbcbfaaGreatDoorA6
import Derived.Deep.LoopGhost
namespace Go.Proofs.YtogapgjilbcbfaaGreatDoor
open Go.RowKit
set_option linter.unusedVariables false
set_option linter.unusedSimpArgs false

def DivPost (a b : Nat) (w : World) (e : Ending) (w' : World) : Prop :=
  ∃ v1 v2, e = .returned (.tuple #[v1, v2]) ∧ Own w.heap.size w' v1 (limbs (a / b)) ∧ Own w.heap.size w' v2 (limbs (a % b)) ∧ Below w.heap.size w w'

/-- What holds of the long division's memory with k places to come. -/
def DLRel (n j D V : Nat) (L : List Nat) (G1 G2 G3 : Nat) (w : World) (k : Nat) (i : Value) (wr : World) : Prop :=
  ∃ Z Q, k ≤ n - j ∧ i = .int .i64 ((k : Int) - 1) ∧ DvInv n (j + 1) k Z Q D V ∧ Blk wr G1 Z [] ∧ Rd wr (some ⟨G2, 0, none⟩) L ∧ Blk wr G3 Q [] ∧ Below G1 w wr

theorem Blk.put_ne {w : World} {g g' : Nat} {ys zs : List Nat} {r r' : List Value} (h : Blk w g ys r) (hne : g ≠ g') : Blk (put g' zs r' w) g ys r := by
  unfold Blk; rw [put_other _ _ _ _ _ hne]; exact h

/-- What holds inside, when too much was taken. -/
def DMRel (n j i D : Nat) (L Z Q : List Nat) (G1 G2 G3 : Nat) (w : World) (k : Nat) (wr : World) : Prop :=
  ∃ g Zc, g = wv Z i (j + 2) / D + k ∧ 0 < k ∧ g < B32 ∧ Win Z Zc i (j + 2) ∧ Okl Zc ∧ wv Zc i (j + 2) + g * D = wv Z i (j + 2) + B32 ^ (j + 2) ∧ Blk wr G1 Zc [] ∧ Rd wr (some ⟨G2, 0, none⟩) L ∧ Blk wr G3 (Q.set i g) [] ∧ Below G1 w wr

theorem win_val_lt {Z : List Nat} {i m : Nat} (ho : Okl Z) (h : i + m ≤ Z.length) : wv Z i m < B32 ^ m := by
  have h1 := val_lt ((ho.drop i).take m)
  rwa [List.length_take, List.length_drop, Nat.min_eq_left (by omega)] at h1

theorem pos_of_mul {a b : Nat} (h : 0 < a * b) : 0 < a := by
  rcases Nat.eq_zero_or_pos a with h0 | h0
  · subst h0; simp at h
  · exact h0
theorem dm_pos {g t k : Nat} (h : g = t + k) (h2 : t < g - 1) : 0 < k - 1 := by omega

theorem win_getD (Z : List Nat) (i m t : Nat) (h : t < m) : ((Z.drop i).take m).getD t 0 = Z.getD (i + t) 0 := by simp [List.getD, h]

end Go.Proofs.YtogapgjilbcbfaaGreatDoor
