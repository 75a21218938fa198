/- The walk of layer 3's mul; Place of great numbers; what IeeeHalves leans on. -/
import Derived.Test.YtokppjfaihkkcaaDoorFb
import Derived.Test.YtokppjfaihkkcaaDoorRq
import Derived.Test.YtokppjfaihkkcaaDoorPlc
namespace Go.Proofs.YtokppjfaihkkcaaDoor
open Go.RowKit Go.Sort
set_option linter.unusedVariables false
set_option linter.unusedSimpArgs false

/-- The product's outer loop, behind i rows. -/
structure RNOut (xs ys zs : List Nat) (i : Nat) : Prop where
  len : zs.length = xs.length + ys.length
  ok : Okl zs
  zero : ∀ j, i + ys.length ≤ j → zs.getD j 0 = 0
  eq : val (zs.take (i + ys.length)) = val (xs.take i) * val ys
/-- Its inner loop, behind k limbs of row i; Z is the list ahead of the row. -/
structure RNIn (xs ys Z zs : List Nat) (i k c : Nat) : Prop where
  len : zs.length = xs.length + ys.length
  ok : Okl zs
  same : ∀ j, i + k ≤ j → zs.getD j 0 = Z.getD j 0
  cb : c < B32
  eq : val (zs.take (i + k)) + B32 ^ (i + k) * c = val (Z.take (i + k)) + B32 ^ i * (xs.getD i 0 * val (ys.take k))

theorem RNOut.start (xs ys : List Nat) : RNOut xs ys (List.replicate (xs.length + ys.length) 0) 0 :=
  ⟨by simp, Okl.replicate _, fun j _ => by simp [List.getD, List.getElem?_replicate]; split <;> rfl, by rw [List.take_replicate, val_replicate]; simp [val]⟩
theorem RNIn.start {xs ys Z : List Nat} {i : Nat} (h : RNOut xs ys Z i) : RNIn xs ys Z Z i 0 0 :=
  ⟨h.len, h.ok, fun _ _ => rfl, B32_pos, by simp [val]⟩
theorem RNIn.next {xs ys Z zs : List Nat} {i k c : Nat} (h : RNIn xs ys Z zs i k c) (hx : Okl xs) (hy : Okl ys) (hi : i < xs.length) (hk : k ≤ ys.length) :
    RNIn xs ys Z (zs.set (i + k) ((c + zs.getD (i + k) 0 + xs.getD i 0 * ys.getD k 0) % B32)) i (k + 1) ((c + zs.getD (i + k) 0 + xs.getD i 0 * ys.getD k 0) / B32) := by
  have hz := h.same (i + k) (Nat.le_refl _)
  have b1 := hx.getD i
  have b2 := hy.getD k
  have b3 := h.ok.getD (i + k)
  have b4 := h.cb
  have heq := h.eq
  have hlen := h.len
  have hdm := Nat.mod_add_div (c + zs.getD (i + k) 0 + xs.getD i 0 * ys.getD k 0) B32
  have hq : (c + zs.getD (i + k) 0 + xs.getD i 0 * ys.getD k 0) / B32 < B32 := by
    rw [Nat.div_lt_iff_lt_mul B32_pos]
    have h1 : xs.getD i 0 * ys.getD k 0 ≤ (B32 - 1) * (B32 - 1) := Nat.mul_le_mul (by omega) (by omega)
    rw [B32_eq] at *
    omega
  refine ⟨by rw [List.length_set]; exact hlen, h.ok.set _ _ (Nat.mod_lt _ B32_pos), fun j hj => by rw [getD_set_other _ _ _ _ (by omega)]; exact h.same j (by omega), hq, ?_⟩
  rw [show i + (k + 1) = i + k + 1 by omega, val_set_take _ _ _ (by omega), val_take_getD Z, ← hz, val_take_getD ys, Nat.pow_succ]
  generalize zs.getD (i + k) 0 = z at *
  generalize xs.getD i 0 = x at *
  generalize ys.getD k 0 = y at *
  generalize (c + z + x * y) % B32 = s at *
  generalize (c + z + x * y) / B32 = q at *
  have hp : B32 ^ (i + k) = B32 ^ i * B32 ^ k := Nat.pow_add _ _ _
  generalize val (zs.take (i + k)) = V at *
  generalize val (Z.take (i + k)) = W at *
  generalize val (ys.take k) = Y at *
  generalize B32 ^ i = I at *
  generalize B32 ^ k = K at *
  generalize B32 = B at *
  rw [hp] at heq ⊢
  have h3 : I * K * (s + B * q) = I * K * (c + z + x * y) := by rw [hdm]
  grind
theorem RNIn.done {xs ys Z zs : List Nat} {i c : Nat} (h : RNIn xs ys Z zs i (ys.length + 1) c) (h0 : RNOut xs ys Z i) (hx : Okl xs) (hy : Okl ys) (hi : i < xs.length) : RNOut xs ys zs (i + 1) := by
  have heq := h.eq
  have e1 : val (Z.take (i + (ys.length + 1))) = val (Z.take (i + ys.length)) := by
    rw [show i + (ys.length + 1) = i + ys.length + 1 by omega, val_take_getD, h0.zero _ (Nat.le_refl _)]; simp
  rw [e1, h0.eq, List.take_of_length_le (show ys.length ≤ ys.length + 1 by omega)] at heq
  have e2 : val (xs.take i) * val ys + B32 ^ i * (xs.getD i 0 * val ys) = val (xs.take (i + 1)) * val ys := by
    rw [val_take_getD xs i]; grind
  rw [e2] at heq
  have h1 := val_lt (hx.take (i + 1))
  rw [List.length_take, Nat.min_eq_left (by omega)] at h1
  have h2 := val_lt hy
  have h3 : val (xs.take (i + 1)) * val ys < B32 ^ (i + (ys.length + 1)) := by
    rw [show i + (ys.length + 1) = (i + 1) + ys.length by omega, Nat.pow_add]
    exact Nat.mul_lt_mul'' h1 h2
  have hc : c = 0 := by
    rcases Nat.eq_zero_or_pos c with h4 | h4
    · exact h4
    · have := Nat.le_mul_of_pos_right (B32 ^ (i + (ys.length + 1))) h4
      omega
  rw [hc, Nat.mul_zero, Nat.add_zero] at heq
  refine ⟨h.len, h.ok, fun j hj => ?_, by rw [show i + 1 + ys.length = i + (ys.length + 1) by omega]; exact heq⟩
  rw [h.same j (by omega)]; exact h0.zero j (by omega)
theorem RNOut.done {xs ys zs : List Nat} (h : RNOut xs ys zs xs.length) : val zs = val xs * val ys := by
  have h1 := h.eq
  rw [List.take_of_length_le (Nat.le_refl xs.length), List.take_of_length_le (by rw [h.len]; exact Nat.le_refl _)] at h1
  exact h1

/-- Any number as one from 0 to n - 1. -/
theorem place_wide (v n : Int) (w : World) (hv : -9223372036854775808 ≤ v ∧ v ≤ 9223372036854775807) (hn : 0 < n ∧ n ≤ 4611686018427387904) :
    Calls Tryd.prog 25 #[.int .i64 v, .int .i64 n] w fun e w' => e = .returned (.int .i64 (v % n)) ∧ w' = w := by
  have h1 := Int.emod_nonneg v (show n ≠ 0 by omega)
  have h2 := Int.emod_lt_of_pos v hn.1
  have ht : v.tmod n = if 0 ≤ v ∨ v % n = 0 then v % n else v % n - n := by
    rw [Int.tmod_eq_emod]
    by_cases h0 : 0 ≤ v ∨ n ∣ v
    · rw [if_pos h0, if_pos (h0.imp id Int.emod_eq_zero_of_dvd)]; omega
    · rw [if_neg h0, if_neg (fun h => h0 (h.imp id Int.dvd_of_emod_eq_zero))]; omega
  have hne : n ≠ 0 := by omega
  have hnb : (n == 0) = false := by rw [beq_eq_false_iff_ne]; exact hne
  generalize v % n = r at *
  by_cases hv0 : 0 ≤ v ∨ r = 0
  · rw [if_pos hv0] at ht
    have hlt : ¬ (r < 0) := by omega
    clear hv0
    go_enter Tryd.func25, Tryd.ntmps25
    go_wp2_with fail
    go_ret
    exact ⟨rfl, rfl⟩
  · rw [if_neg hv0] at ht
    clear hv0
    go_enter Tryd.func25, Tryd.ntmps25
    go_wp2_with fail
    go_ret
    exact ⟨rfl, rfl⟩
end Go.Proofs.YtokppjfaihkkcaaDoor
