/- The long division, as naturals: its beginning, its guess. No walk. -/
import Derived.Test.YtolmmpdgbkbcmaaDoorDivm
namespace Go.Proofs.YtolmmpdgbkbcmaaDoor
open Go.RowKit
set_option linter.unusedVariables false

theorem pre_lt {lo P y T B : Nat} (h1 : lo < P) (h2 : (y + 1) * T ≤ B) (hT : 0 < T) : (lo + P * y) * T < P * B := by
  have h3 : (lo + P * y) * T < (P * (y + 1)) * T := Nat.mul_lt_mul_of_pos_right (by rw [Nat.mul_add]; omega) hT
  have h4 : P * ((y + 1) * T) ≤ P * B := Nat.mul_le_mul_left _ h2
  rw [Nat.mul_assoc] at h3
  omega
theorem pre_ge {lo P y T : Nat} : P * (y * T) ≤ (lo + P * y) * T := by
  rw [Nat.add_mul, Nat.mul_assoc]; omega
theorem top_ge {lo P d t D : Nat} (h1 : lo < P) (h2 : D = lo + P * d) (h3 : P * t ≤ D) : t ≤ d := by
  have h4 : P * t < P * (d + 1) := by rw [Nat.mul_add]; omega
  have := Nat.lt_of_mul_lt_mul_left h4
  omega
theorem up_mult {y T Q B : Nat} (hB : B = T * Q) (h : y * T < B) : (y + 1) * T ≤ B := by
  subst hB
  rw [Nat.mul_comm y T] at h
  have := Nat.lt_of_mul_lt_mul_left h
  rw [Nat.mul_comm]
  exact Nat.mul_le_mul_left _ this

theorem B32_mono {a b : Nat} (h : a ≤ b) : B32 ^ a ≤ B32 ^ b := Nat.pow_le_pow_right B32_pos h
theorem B32_pow_pos (a : Nat) : 0 < B32 ^ a := Nat.pow_pos B32_pos
theorem B32_succ (a : Nat) : B32 ^ (a + 1) = B32 ^ a * B32 := Nat.pow_succ _ _

theorem limbs_len_eq {D j : Nat} (h1 : B32 ^ j ≤ D) (h2 : D < B32 ^ (j + 1)) : (limbs D).length = j + 1 := by
  have a := limbs_length_le h2
  have b := limbs_lt_pow D
  rcases Nat.lt_or_ge (limbs D).length (j + 1) with h | h
  · have := B32_mono (show (limbs D).length ≤ j by omega)
    omega
  · omega

/-- The divisor, shifted. -/
structure DvPre (D j : Nat) : Prop where
  lt : D < B32 ^ (j + 1)
  len : (limbs D).length = j + 1
  top : B32 ≤ 2 * (limbs D).getD j 0
  pos : 0 < D

theorem div_pre {Y : List Nat} {j s y : Nat} (hl : Y.length = j + 1) (ho : Okl Y) (hy : Y.getD j 0 = y) (hs : s < 32) (h2 : B32 ≤ 2 * (y * 2 ^ s)) (h3 : y * 2 ^ s < B32) :
    DvPre (val Y * 2 ^ s) j ∧ B32 ^ j * (y * 2 ^ s) ≤ val Y * 2 ^ s := by
  have hT : 0 < 2 ^ s := Nat.pow_pos (by decide)
  have hv : val Y = val (Y.take j) + B32 ^ j * y := by
    have h := val_take_succ Y j (by omega)
    rw [List.take_of_length_le (by omega), hy] at h
    exact h
  have hlo : val (Y.take j) < B32 ^ j := by
    have h := val_lt (ho.take j)
    rwa [List.length_take, Nat.min_eq_left (by omega)] at h
  have hup := up_mult (B32_split hs) h3
  have hlt : val Y * 2 ^ s < B32 ^ (j + 1) := by rw [hv, B32_succ]; exact pre_lt hlo hup hT
  have hge : B32 ^ j * (y * 2 ^ s) ≤ val Y * 2 ^ s := by rw [hv]; exact pre_ge
  have hy1 : 1 ≤ y * 2 ^ s := by have := B32_pos; omega
  have hge1 : B32 ^ j ≤ val Y * 2 ^ s := by
    have : B32 ^ j * 1 ≤ B32 ^ j * (y * 2 ^ s) := Nat.mul_le_mul_left _ hy1
    rw [Nat.mul_one] at this
    exact Nat.le_trans this hge
  refine ⟨⟨hlt, limbs_len_eq hge1 hlt, ?_, Nat.lt_of_lt_of_le (B32_pow_pos j) hge1⟩, hge⟩
  have hlen := limbs_len_eq hge1 hlt
  have hvl := val_limbs (val Y * 2 ^ s)
  have hol := limbs_ok (val Y * 2 ^ s)
  generalize val Y * 2 ^ s = D at *
  generalize limbs D = L at *
  have hv2 : D = val (L.take j) + B32 ^ j * L.getD j 0 := by
    have h := val_take_succ L j (by omega)
    rw [List.take_of_length_le (by omega), hvl] at h
    exact h
  have hlo2 : val (L.take j) < B32 ^ j := by
    have h := val_lt (hol.take j)
    rwa [List.length_take, Nat.min_eq_left (by omega)] at h
  have := top_ge hlo2 hv2 hge
  omega

theorem drop_lt_num {a P v D X Pn T t : Nat} (h1 : a + P * v = X * T) (h2 : X < P * Pn) (hT : 0 < T) (h3 : Pn * t ≤ D) (h4 : T ≤ t) (hP : 0 < P) : v < D := by
  have h5 : P * v < P * (Pn * T) := by
    have h6 : X * T < P * Pn * T := Nat.mul_lt_mul_of_pos_right h2 hT
    rw [Nat.mul_assoc] at h6
    omega
  have h7 := Nat.lt_of_mul_lt_mul_left h5
  have h8 : Pn * T ≤ Pn * t := Nat.mul_le_mul_left _ h4
  omega

/-- The beginning of the long division. -/
theorem dv_start {X Z Q : List Nat} {n j s y D : Nat} (hX : X.length = n) (hoX : Okl X) (hjn : j + 1 ≤ n) (hZ : Z.length = n + 1) (hoZ : Okl Z) (hv : val Z = val X * 2 ^ s) (hy : y ≠ 0) (hD : B32 ^ j * (y * 2 ^ s) ≤ D) (hQ : Q = List.replicate (n - j) 0) :
    DvInv n (j + 1) (n - j) Z Q D (val X * 2 ^ s) := by
  subst hQ
  refine ⟨hZ, hoZ, by rw [List.length_replicate]; omega, Okl.replicate _, ?_, ?_⟩
  · have h1 := val_take_drop Z (n - j) (by omega)
    rw [hv] at h1
    have h2 := val_lt hoX
    rw [hX] at h2
    have e : B32 ^ n = B32 ^ (n - j) * B32 ^ j := by rw [← Nat.pow_add, Nat.sub_add_cancel (by omega)]
    rw [e] at h2
    have hT : 0 < 2 ^ s := Nat.pow_pos (by decide)
    refine drop_lt_num h1.symm h2 hT hD ?_ (B32_pow_pos _)
    exact Nat.le_mul_of_pos_left _ (by omega)
  · rw [List.drop_of_length_le (by rw [List.length_replicate]; exact Nat.le_refl _), hv]
    rw [show val [] = 0 from rfl, Nat.mul_zero, Nat.mul_zero, Nat.add_zero]

theorem wd_num {a P l h B : Nat} : a + P * l + P * B * h = (h * B + l) * P + a := by grind

theorem guess_win {Z L : List Nat} {i j n D V : Nat} {Q : List Nat} (hi : i + (j + 1) ≤ n) (hp : DvPre D j) (hL : limbs D = L) (h : DvInv n (j + 1) (i + 1) Z Q D V) :
    wv Z i (j + 2) / D ≤ gs (Z.getD (i + (j + 1)) 0) (Z.getD (i + j) 0) (L.getD j 0) ∧ gs (Z.getD (i + (j + 1)) 0) (Z.getD (i + j) 0) (L.getD j 0) ≤ wv Z i (j + 2) / D + 2 := by
  have hzl := h.zl
  have hlen := hp.len
  have htop := hp.top
  have hol := limbs_ok D
  have hvl := val_limbs D
  rw [hL] at hlen htop hol hvl
  have hDe : D = L.getD j 0 * B32 ^ j + val (L.take j) := by
    have h1 := val_take_succ L j (by omega)
    rw [List.take_of_length_le (by omega), hvl, Nat.mul_comm (B32 ^ j), Nat.add_comm] at h1
    exact h1
  have hD0 : val (L.take j) < B32 ^ j := by
    have h1 := val_lt (hol.take j)
    rwa [List.length_take, Nat.min_eq_left (by omega)] at h1
  have hW0 : wv Z i j < B32 ^ j := by
    have h1 := val_lt ((h.zo.drop i).take j)
    rwa [List.length_take, List.length_drop, Nat.min_eq_left (by omega)] at h1
  have hWe : wv Z i (j + 2) = wd (Z.getD (i + (j + 1)) 0) (Z.getD (i + j) 0) * B32 ^ j + wv Z i j := by
    rw [show j + 2 = j + 1 + 1 from rfl, wv_succ Z i (j + 1) (by omega), wv_succ Z i j (by omega), B32_succ, wd_eq]
    exact wd_num
  have hlt : wv Z i (j + 2) < B32 * D := by
    have h1 := win_lt h.zo (show i < Z.length by omega) h.lt
    rwa [win_val (m := j + 1) (by omega) h.lt hp.lt] at h1
  have hd0 : 0 < L.getD j 0 := by have := B32_pos; omega
  exact guess_ok (B32_pow_pos j) hW0 hD0 hd0 htop hDe hWe hlt

/-- The end of the long division. -/
theorem dv_end {n m a b T : Nat} {Z Q : List Nat} {V : Nat} (hT : 0 < T) (hb : 0 < b) (h : DvInv n m 0 Z Q (b * T) V) (hV : V = a * T) : val Q = a / b ∧ val Z / T = a % b ∧ val Z < b * T := by
  have he := h.eq
  have hl := h.lt
  simp only [List.drop_zero, Nat.pow_zero, Nat.one_mul] at he hl
  subst hV
  generalize val Q = q at *
  generalize val Z = z at *
  have hD : 0 < b * T := Nat.mul_pos hb hT
  have hz : z = (a - b * q) * T := by
    have e : b * T * q = (b * q) * T := by grind
    rw [e] at he
    rw [Nat.sub_mul]; omega
  have hq : b * q ≤ a := by
    have e : b * T * q = (b * q) * T := by grind
    rw [e] at he
    exact Nat.le_of_mul_le_mul_right (by omega : (b * q) * T ≤ a * T) hT
  have hr : a - b * q < b := by rw [hz] at hl; exact Nat.lt_of_mul_lt_mul_right hl
  have hdq : a / b = q := by
    rw [Nat.div_eq_of_lt_le (by rw [Nat.mul_comm]; exact hq) (by rw [Nat.succ_mul, Nat.mul_comm q b]; omega)]
  have hmr : a % b = a - b * q := by
    have := Nat.div_add_mod a b
    rw [hdq] at this
    omega
  refine ⟨hdq.symm, ?_, hl⟩
  rw [hz, hmr, Nat.mul_div_cancel _ hT]

theorem val_take_all {Z : List Nat} {m D : Nat} (hm : m ≤ Z.length) (hlt : val Z < D) (hD : D < B32 ^ m) : val (Z.take m) = val Z := by
  have h := val_take_drop Z m hm
  rcases Nat.eq_zero_or_pos (val (Z.drop m)) with h0 | h0
  · rw [h0, Nat.mul_zero, Nat.add_zero] at h; exact h.symm
  · have := Nat.mul_le_mul_left (B32 ^ m) h0
    omega
end Go.Proofs.YtolmmpdgbkbcmaaDoor
