/- Heads of greater numbers stand above, byte by byte. -/
import Derived.Test.YtmnaccojekojkaaH8
namespace Go.Proofs.Ytmnaccojekojkaa
open Go.RowKit Go.Lib
set_option linter.unusedVariables false
set_option linter.unusedSimpArgs false
theorem u8_lt {a b : Nat} (ha : a < 256) (hb : b < 256) : (UInt8.ofNat a < UInt8.ofNat b) ↔ a < b := by
  rw [UInt8.lt_iff_toNat_lt]; simp [UInt8.toNat_ofNat, Nat.mod_eq_of_lt ha, Nat.mod_eq_of_lt hb]
theorem u8_eq {a b : Nat} (ha : a < 256) (hb : b < 256) : (UInt8.ofNat a = UInt8.ofNat b) ↔ a = b := by
  rw [← UInt8.toNat_inj]; simp [UInt8.toNat_ofNat, Nat.mod_eq_of_lt ha, Nat.mod_eq_of_lt hb]
def ub (l : List Nat) : List UInt8 := l.map fun x => UInt8.ofNat x
theorem less_head {a b : Nat} (ha : a < 256) (hb : b < 256) (s t : List Nat) : Op.bytesLess (ub (a :: s)) (ub (b :: t)) = (decide (a < b) || (decide (a = b) && Op.bytesLess (ub s) (ub t))) := by
  show (decide (UInt8.ofNat a < UInt8.ofNat b) || ((UInt8.ofNat a == UInt8.ofNat b) && Op.bytesLess (ub s) (ub t))) = _
  congr 1
  · exact decide_eq_decide.2 (u8_lt ha hb)
  · congr 1
    rw [Bool.eq_iff_iff]; simp only [beq_iff_eq, decide_eq_true_eq]; exact u8_eq ha hb
theorem less_self (l : List UInt8) : Op.bytesLess l l = false := by
  induction l with
  | nil => rfl
  | cons a l ih => show (decide (a < a) || ((a == a) && Op.bytesLess l l)) = false; rw [ih]; simp
/-- So many bytes of a number, the highest first. -/
def be : Nat → Nat → List Nat
  | 0, _ => []
  | k + 1, n => n / 256 ^ k % 256 :: be k n
theorem be_len (k n : Nat) : (be k n).length = k := by induction k with | zero => rfl | succ k ih => simp [be, ih]
theorem be_lt (k n : Nat) : ∀ x ∈ be k n, x < 256 := by
  induction k with
  | zero => intro x h; cases h
  | succ k ih =>
    intro x h
    rcases List.mem_cons.1 h with rfl | h
    · exact Nat.mod_lt _ (by decide)
    · exact ih x h
theorem be_mod (k n : Nat) : ∀ j, k ≤ j → be k (n % 256 ^ j) = be k n := by
  induction k with
  | zero => intro j _; rfl
  | succ k ih =>
    intro j hj
    simp only [be]
    rw [ih j (by omega)]
    congr 1
    obtain ⟨i, rfl⟩ : ∃ i, j = k + 1 + i := ⟨j - (k + 1), by omega⟩
    have hp : 256 ^ (k + 1 + i) = 256 ^ k * (256 * 256 ^ i) := by rw [Nat.pow_add, Nat.pow_succ, Nat.mul_assoc]
    rw [hp, Nat.mod_mul_right_div_self, Nat.mod_mul_right_mod]
theorem be_less (k : Nat) : ∀ n n' : Nat, n < 256 ^ k → n' < 256 ^ k → Op.bytesLess (ub (be k n)) (ub (be k n')) = decide (n < n') := by
  induction k with
  | zero =>
    intro n n' h h'
    simp at h h'
    subst h h'
    rfl
  | succ k ih =>
    intro n n' h h'
    rw [Nat.pow_succ] at h h'
    have hp : 0 < 256 ^ k := Nat.pow_pos (by decide)
    have q1 : n / 256 ^ k < 256 := Nat.div_lt_of_lt_mul h
    have q2 : n' / 256 ^ k < 256 := Nat.div_lt_of_lt_mul h'
    simp only [be]
    rw [Nat.mod_eq_of_lt q1, Nat.mod_eq_of_lt q2, less_head q1 q2, ← be_mod k n k (Nat.le_refl _), ← be_mod k n' k (Nat.le_refl _), ih _ _ (Nat.mod_lt _ hp) (Nat.mod_lt _ hp)]
    have e1 := Nat.div_add_mod n (256 ^ k)
    have e2 := Nat.div_add_mod n' (256 ^ k)
    have r1 := Nat.mod_lt n hp
    have r2 := Nat.mod_lt n' hp
    generalize n / 256 ^ k = a at *
    generalize n' / 256 ^ k = b at *
    generalize n % 256 ^ k = r at *
    generalize n' % 256 ^ k = s at *
    generalize 256 ^ k = P at *
    subst e1 e2
    rcases Nat.lt_trichotomy a b with hab | hab | hab
    · have : P * a + r < P * b + s := by
        have : P * (a + 1) ≤ P * b := Nat.mul_le_mul_left _ hab
        rw [Nat.mul_succ] at this
        omega
      simp [hab, this]
    · subst hab
      simp
    · have : P * b + s < P * a + r := by
        have : P * (b + 1) ≤ P * a := Nat.mul_le_mul_left _ hab
        rw [Nat.mul_succ] at this
        omega
      have h1 : ¬ a < b := by omega
      have h2 : ¬ a = b := by omega
      have h3 : ¬ P * a + r < P * b + s := by omega
      simp [h1, h2, h3]
theorem tail_be (n : Nat) (hn : n < 18446744073709551616) : ∃ k, tailN n = be k n ∧ (k = 0 → n < 24) ∧ (k ≠ 0 → n < 256 ^ k) ∧ (k = 0 ∧ infoN n = n ∧ n < 24 ∨ k = 1 ∧ infoN n = 24 ∧ 24 ≤ n ∧ n < 256 ∨ k = 2 ∧ infoN n = 25 ∧ 256 ≤ n ∧ n < 65536 ∨ k = 4 ∧ infoN n = 26 ∧ 65536 ≤ n ∧ n < 4294967296 ∨ k = 8 ∧ infoN n = 27 ∧ 4294967296 ≤ n) := by
  unfold tailN infoN
  by_cases h0 : n < 24
  · exact ⟨0, by rw [if_pos h0]; rfl, fun _ => h0, fun h => absurd rfl h, .inl ⟨rfl, by rw [if_pos h0], h0⟩⟩
  rw [if_neg h0, if_neg h0]
  by_cases h1 : n < 256
  · exact ⟨1, by rw [if_pos h1]; simp [be]; omega, (fun h => by cases h), (fun _ => by omega), .inr (.inl ⟨rfl, by rw [if_pos h1], by omega, h1⟩)⟩
  rw [if_neg h1, if_neg h1]
  by_cases h2 : n < 65536
  · exact ⟨2, by rw [if_pos h2]; simp [be]; omega, (fun h => by cases h), (fun _ => by omega), .inr (.inr (.inl ⟨rfl, by rw [if_pos h2], by omega, h2⟩))⟩
  rw [if_neg h2, if_neg h2]
  by_cases h3 : n < 4294967296
  · exact ⟨4, by rw [if_pos h3]; simp [be]; omega, (fun h => by cases h), (fun _ => by omega), .inr (.inr (.inr (.inl ⟨rfl, by rw [if_pos h3], by omega, h3⟩)))⟩
  rw [if_neg h3, if_neg h3]
  exact ⟨8, by simp [be]; omega, (fun h => by cases h), (fun _ => by omega), .inr (.inr (.inr (.inr ⟨rfl, rfl, by omega⟩)))⟩
theorem tail_lt (n : Nat) (hn : n < 18446744073709551616) : ∀ x ∈ tailN n, x < 256 := by
  obtain ⟨k, e, _⟩ := tail_be n hn
  rw [e]; exact be_lt k n
theorem hd_lt (m n : Nat) (hm : m < 8) (hn : n < 18446744073709551616) : ∀ x ∈ hd m n, x < 256 := by
  intro x h
  rcases List.mem_cons.1 h with rfl | h
  · have := infoN_le n; omega
  · exact tail_lt n hn x h
theorem head_less (m m' x y : Nat) (hm : m < 8) (hm' : m' < 8) (hx : x < 18446744073709551616) (hy : y < 18446744073709551616) :
    Op.bytesLess (strB (hd m x)).toList (strB (hd m' y)).toList = (decide (m < m') || (decide (m = m') && decide (x < y))) := by
  rw [strB_list, strB_list]
  show Op.bytesLess (ub (hd m x)) (ub (hd m' y)) = _
  unfold hd
  have i1 := infoN_le x
  have i2 := infoN_le y
  rw [less_head (by omega) (by omega)]
  by_cases hmm : m = m'
  · subst hmm
    obtain ⟨k, e, _, hk, h⟩ := tail_be x hx
    obtain ⟨k', e', _, hk', h'⟩ := tail_be y hy
    rw [e, e']
    by_cases hkk : k = k'
    · subst hkk
      by_cases h0 : k = 0
      · subst h0
        have : Op.bytesLess (ub (be 0 x)) (ub (be 0 y)) = false := rfl
        rw [this]
        have a1 : infoN x = x := by omega
        have a2 : infoN y = y := by omega
        rw [a1, a2]
        by_cases hxy : x < y
        · simp [hxy]
        · simp [hxy]
      · rw [be_less k x y (hk h0) (hk' h0)]
        have : infoN x = infoN y := by omega
        rw [this]; simp
    · have hne : infoN x ≠ infoN y := by omega
      have : (infoN x < infoN y) ↔ (x < y) := by omega
      by_cases hxy : x < y
      · have := this.2 hxy
        simp [hxy, this]
      · have h1 : ¬ infoN x < infoN y := fun h => hxy (this.1 h)
        have h2 : ¬ (m * 32 + infoN x < m * 32 + infoN y) := by omega
        have h3 : ¬ (m * 32 + infoN x = m * 32 + infoN y) := by omega
        simp [hxy, h1, h3, hne]
  · by_cases hlt : m < m'
    · have : m * 32 + infoN x < m' * 32 + infoN y := by omega
      simp [hlt, this]
    · have h2 : ¬ (m * 32 + infoN x < m' * 32 + infoN y) := by omega
      have h3 : ¬ (m * 32 + infoN x = m' * 32 + infoN y) := by omega
      simp [hlt, hmm, h2, h3]
theorem head_same (m x y : Nat) (hm : m < 8) (hx : x < 18446744073709551616) (hy : y < 18446744073709551616) :
    ((strB (hd m x)).toList == (strB (hd m y)).toList) = ((x : Int) == (y : Int)) := by
  by_cases h : x = y
  · subst h; simp
  · have h1 := head_less m m x y hm hm hx hy
    have h2 := head_less m m y x hm hm hy hx
    have h3 : ((x : Int) == (y : Int)) = false := by rw [beq_eq_false_iff_ne]; omega
    rw [h3, beq_eq_false_iff_ne]
    intro e
    rw [e, less_self] at h1
    rw [e, less_self] at h2
    simp at h1 h2
    omega
end Go.Proofs.Ytmnaccojekojkaa
