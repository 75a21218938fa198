/- What is put is got: by itself. -/
import Derived.Test.YtmnaccojekojkaaH9
namespace Go.Proofs.Ytmnaccojekojkaa
open Go.RowKit Go.Lib
set_option linter.unusedVariables false
set_option linter.unusedSimpArgs false
theorem natB_from : ∀ (l : List Nat) (a : Nat), l.foldl (fun a x => a * 256 + x) a = a * 256 ^ l.length + natB l := by
  intro l
  induction l with
  | nil => intro a; simp [natB]
  | cons x l ih =>
    intro a
    unfold natB
    simp only [List.foldl_cons, List.length_cons]
    rw [ih, ih (0 * 256 + x), Nat.pow_succ, Nat.add_mul, Nat.zero_mul, Nat.zero_add, Nat.mul_assoc, Nat.mul_comm 256 (256 ^ l.length), Nat.add_assoc]
theorem natB_cons (a : Nat) (l : List Nat) : natB (a :: l) = a * 256 ^ l.length + natB l := by
  show (a :: l).foldl (fun a x => a * 256 + x) 0 = _
  rw [List.foldl_cons, natB_from]; simp
theorem natB_be (k n : Nat) : natB (be k n) = n % 256 ^ k := by
  induction k with
  | zero => simp [be, natB, Nat.mod_one]
  | succ k ih =>
    simp only [be]
    rw [natB_cons, be_len, ih, Nat.mod_pow_succ, Nat.add_comm, Nat.mul_comm]
/-- How many bytes a head has. -/
def wantN (x : Nat) : Nat := if x < 24 then 1 else if x < 256 then 2 else if x < 65536 then 3 else if x < 4294967296 then 5 else 9
theorem wantN_le (x : Nat) : 1 ≤ wantN x ∧ wantN x ≤ 9 := by unfold wantN; split <;> (try split) <;> (try split) <;> (try split) <;> omega
theorem hd_want (m x : Nat) (hx : x < 18446744073709551616) : ∃ k, tailN x = be k x ∧ (hd m x).length = k + 1 ∧ wantN x = k + 1 ∧ sizeN (infoN x) = some k ∧ x < 256 ^ k + 24 ∧ (k = 0 → infoN x = x ∧ x < 24) ∧ (k ≠ 0 → 24 ≤ infoN x ∧ x < 256 ^ k) := by
  obtain ⟨k, e, h1, h2, h3⟩ := tail_be x hx
  refine ⟨k, e, by unfold hd; rw [e, List.length_cons, be_len], ?_, ?_, ?_, ?_, ?_⟩
  · unfold wantN
    rcases h3 with ⟨rfl, a, b⟩ | ⟨rfl, a, b, c⟩ | ⟨rfl, a, b, c⟩ | ⟨rfl, a, b, c⟩ | ⟨rfl, a, b⟩
    · rw [if_pos b]
    · rw [if_neg (by omega), if_pos c]
    · rw [if_neg (by omega), if_neg (by omega), if_pos c]
    · rw [if_neg (by omega), if_neg (by omega), if_neg (by omega), if_pos c]
    · rw [if_neg (by omega), if_neg (by omega), if_neg (by omega), if_neg (by omega)]
  · rcases h3 with ⟨rfl, a, b⟩ | ⟨rfl, a, b, c⟩ | ⟨rfl, a, b, c⟩ | ⟨rfl, a, b, c⟩ | ⟨rfl, a, b⟩
    · unfold sizeN; rw [if_pos (.inl (by omega))]
    all_goals rw [a]; rfl
  · rcases Nat.eq_zero_or_pos k with h | h
    · subst h; have := h1 rfl; omega
    · have := h2 (by omega); omega
  · intro h; subst h; omega
  · intro h; exact ⟨by omega, h2 h⟩
theorem get_back (m x : Nat) (hm : m < 8) (hx : x < 18446744073709551616) : getN (1 :: hd m x) ((1 : Nat) : Int) = (m, infoN x, x, wantN x + 1, 0) := by
  obtain ⟨k, e, hl, hw, hs, h1, h2, h3⟩ := hd_want m x hx
  have hi := infoN_le x
  have hf : (1 :: hd m x).getD 1 0 = m * 32 + infoN x := rfl
  rw [getN_in _ 1 _ (by rw [List.length_cons, hl]; omega) hf]
  rw [show (m * 32 + infoN x) % 32 = infoN x by omega, hs]
  simp only [List.length_cons, hl]
  rw [if_neg (by omega), show (m * 32 + infoN x) / 32 = m by omega, hw]
  have hd2 : (1 :: hd m x).drop (1 + 1) = tailN x := rfl
  rw [hd2, e, List.take_of_length_le (by rw [be_len]; exact Nat.le_refl _), natB_be]
  congr 1; congr 1; congr 1
  · by_cases h0 : k = 0
    · have := h2 h0; rw [if_pos (by omega)]; exact this.1
    · have := h3 h0; rw [if_neg (by omega)]; exact Nat.mod_eq_of_lt this.2
  · congr 1; omega
theorem get_cut (m x : Nat) (hm : m < 8) (hx : x < 18446744073709551616) : getN ((1 :: hd m x).take (wantN x)) ((1 : Nat) : Int) = (0, 0, 0, 0, 2) := by
  obtain ⟨k, e, hl, hw, hs, h1, h2, h3⟩ := hd_want m x hx
  have hi := infoN_le x
  have hlen : ((1 :: hd m x).take (wantN x)).length = k + 1 := by rw [List.length_take, List.length_cons, hl, hw]; omega
  by_cases h0 : k = 0
  · subst h0
    unfold getN
    rw [hlen, if_neg (by omega), if_pos (by omega)]
  · have hf : ((1 :: hd m x).take (wantN x)).getD 1 0 = m * 32 + infoN x := by
      rw [hw]
      obtain ⟨j, rfl⟩ : ∃ j, k = j + 1 := ⟨k - 1, by omega⟩
      rfl
    rw [getN_in _ 1 _ (by rw [hlen]; omega) hf]
    rw [show (m * 32 + infoN x) % 32 = infoN x by omega, hs]
    simp only []
    rw [if_pos (by rw [hlen]; omega)]
theorem get_long (m x w S : Nat) (hm : m < 8) (hw : w < 4) (hS : S = 2 ^ w) : getN ((m * 32 + 24 + w) :: be S x) ((0 : Nat) : Int) = (m, 24 + w, x % 256 ^ S, 1 + S, 0) := by
  have hf : ((m * 32 + 24 + w) :: be S x).getD 0 0 = m * 32 + 24 + w := rfl
  rw [getN_in _ 0 _ (by simp) hf]
  rw [show (m * 32 + 24 + w) % 32 = 24 + w by omega, show sizeN (24 + w) = some S by unfold sizeN; rw [if_neg (by omega), if_pos (by omega), hS, Nat.add_sub_cancel_left]]
  simp only [List.length_cons, be_len]
  rw [if_neg (by omega), if_neg (by omega), show (m * 32 + 24 + w) / 32 = m by omega]
  have hd2 : ((m * 32 + 24 + w) :: be S x).drop (0 + 1) = be S x := rfl
  rw [hd2, List.take_of_length_le (by rw [be_len]; exact Nat.le_refl _), natB_be]
theorem shr_byte (x j : Nat) : (x : Int) / 2 ^ (8 * j) % 256 = ((x / 256 ^ j % 256 : Nat) : Int) := by
  rw [show (256 : Nat) ^ j = 2 ^ (8 * j) by rw [Nat.pow_mul]]
  rw [Int.natCast_emod, Int.natCast_ediv, Int.natCast_pow]; rfl
theorem and_nat (a b : Int) : ∃ x : Nat, x < 18446744073709551616 ∧ bits .and .u64 a b = (x : Int) := by
  obtain ⟨z, hz⟩ : ∃ z, bits .and .u64 a b = IntKind.u64.wrap z := ⟨_, rfl⟩
  rw [hz, IntKind.wrap_u64]
  exact ⟨(z % 18446744073709551616).toNat, by omega, by omega⟩
end Go.Proofs.Ytmnaccojekojkaa
