/- Naturals by limbs of 32 bits: plain lists, no program. -/
import Derived.Below
namespace Go.Proofs.YtolmmpdgbkbcmaaDoor
open Go.RowKit
set_option linter.unusedVariables false

/-- The base. -/
def B32 : Nat := 4294967296
theorem B32_eq : B32 = 4294967296 := rfl
theorem B32_pos : 0 < B32 := by decide

def val : List Nat → Nat
  | [] => 0
  | x :: xs => x + B32 * val xs

def Okl (xs : List Nat) : Prop := ∀ x ∈ xs, x < B32

theorem Okl.nil : Okl [] := by intro x h; cases h
theorem Okl.cons {x : Nat} {xs : List Nat} (h : x < B32) (hs : Okl xs) : Okl (x :: xs) := by
  intro y hy; rcases List.mem_cons.1 hy with rfl | hy
  · exact h
  · exact hs y hy
theorem Okl.head {x : Nat} {xs : List Nat} (h : Okl (x :: xs)) : x < B32 := h x (by simp)
theorem Okl.tail {x : Nat} {xs : List Nat} (h : Okl (x :: xs)) : Okl xs := fun y hy => h y (by simp [hy])
theorem Okl.take {xs : List Nat} (h : Okl xs) (n : Nat) : Okl (xs.take n) := fun y hy => h y (List.mem_of_mem_take hy)
theorem Okl.drop {xs : List Nat} (h : Okl xs) (n : Nat) : Okl (xs.drop n) := fun y hy => h y (List.mem_of_mem_drop hy)
theorem Okl.append {xs ys : List Nat} (h : Okl xs) (k : Okl ys) : Okl (xs ++ ys) := by
  intro y hy; rcases List.mem_append.1 hy with hy | hy
  · exact h y hy
  · exact k y hy
theorem Okl.set {xs : List Nat} (h : Okl xs) (i v : Nat) (hv : v < B32) : Okl (xs.set i v) := by
  intro y hy; rcases List.mem_or_eq_of_mem_set hy with hy | hy
  · exact h y hy
  · exact hy ▸ hv
theorem Okl.getD {xs : List Nat} (h : Okl xs) (i : Nat) : xs.getD i 0 < B32 := by
  by_cases hi : i < xs.length
  · simp only [List.getD, List.getElem?_eq_getElem hi, Option.getD_some]; exact h _ (List.getElem_mem hi)
  · simp only [List.getD, List.getElem?_eq_none (Nat.le_of_not_lt hi), Option.getD_none]; exact B32_pos
theorem Okl.replicate (n : Nat) : Okl (List.replicate n 0) := by
  intro y hy; rw [(List.mem_replicate.1 hy).2]; exact B32_pos

theorem val_append (xs ys : List Nat) : val (xs ++ ys) = val xs + B32 ^ xs.length * val ys := by
  induction xs with
  | nil => simp [val]
  | cons x xs ih => simp only [List.cons_append, val, ih, List.length_cons, Nat.pow_succ]; grind
theorem val_replicate (n : Nat) : val (List.replicate n 0) = 0 := by
  induction n with
  | zero => rfl
  | succ n ih => simp [List.replicate_succ, val, ih]
theorem val_lt {xs : List Nat} (h : Okl xs) : val xs < B32 ^ xs.length := by
  induction xs with
  | nil => simp [val]
  | cons x xs ih =>
    have h1 := h.head
    have h2 := ih h.tail
    simp only [val, List.length_cons, Nat.pow_succ]
    have : B32 * (val xs + 1) ≤ B32 * B32 ^ xs.length := Nat.mul_le_mul_left _ h2
    rw [Nat.mul_comm (B32 ^ xs.length)]
    rw [Nat.mul_add] at this; omega
theorem val_take_drop (xs : List Nat) (n : Nat) (h : n ≤ xs.length) : val xs = val (xs.take n) + B32 ^ n * val (xs.drop n) := by
  conv => lhs; rw [← List.take_append_drop n xs]
  rw [val_append, List.length_take, Nat.min_eq_left h]
theorem val_take_succ (xs : List Nat) (n : Nat) (h : n < xs.length) : val (xs.take (n + 1)) = val (xs.take n) + B32 ^ n * xs.getD n 0 := by
  rw [List.take_succ_eq_append_getElem h, val_append, List.length_take, Nat.min_eq_left (by omega)]
  simp [val, List.getD, h]
theorem val_set_take (xs : List Nat) (n v : Nat) (h : n < xs.length) : val ((xs.set n v).take (n + 1)) = val (xs.take n) + B32 ^ n * v := by
  rw [val_take_succ _ _ (by simpa using h), List.take_set_of_le (Nat.le_refl _)]
  simp [List.getD, h]

theorem two_le_B32 : 2 ≤ B32 := by decide
theorem pow_two_le (n : Nat) : 2 * B32 ^ n ≤ B32 ^ (n + 1) := by
  rw [Nat.pow_succ, Nat.mul_comm]; exact Nat.mul_le_mul_left _ two_le_B32
/-- A carry out of a number that is too small for it is none. -/
theorem no_carry {v x y P Q c : Nat} (h : v + Q * c = x + y) (hx : x < P) (hy : y < P) (hQ : 2 * P ≤ Q) : c = 0 ∧ v = x + y := by
  rcases Nat.eq_zero_or_pos c with h0 | h0
  · subst h0; exact ⟨rfl, by omega⟩
  · have h1 : Q * 1 ≤ Q * c := Nat.mul_le_mul_left Q h0
    omega

/-- The limbs of a natural: none 0 at the top. -/
def limbsF : Nat → Nat → List Nat
  | 0, _ => []
  | f + 1, N => if N = 0 then [] else N % B32 :: limbsF f (N / B32)
def limbs (N : Nat) : List Nat := limbsF N N

theorem limbsF_eq : ∀ (f g N : Nat), N ≤ f → N ≤ g → limbsF f N = limbsF g N := by
  intro f
  induction f with
  | zero => intro g N h _; obtain rfl : N = 0 := by omega
            cases g <;> simp [limbsF]
  | succ f ih =>
    intro g N h k
    cases g with
    | zero => obtain rfl : N = 0 := by omega
              simp [limbsF]
    | succ g =>
      simp only [limbsF]
      split
      · rfl
      · rename_i hN
        have : N / B32 < N := Nat.div_lt_self (by omega) (by decide)
        rw [ih g (N / B32) (by omega) (by omega)]
theorem limbs_zero : limbs 0 = [] := rfl
theorem limbs_pos {N : Nat} (h : N ≠ 0) : limbs N = N % B32 :: limbs (N / B32) := by
  unfold limbs
  obtain ⟨f, rfl⟩ : ∃ f, N = f + 1 := ⟨N - 1, by omega⟩
  conv => lhs; rw [limbsF, if_neg h]
  have : (f + 1) / B32 < f + 1 := Nat.div_lt_self (by omega) (by decide)
  rw [limbsF_eq f ((f + 1) / B32) _ (by omega) (Nat.le_refl _)]

theorem limbs_ind {P : Nat → Prop} (z : P 0) (s : ∀ N, N ≠ 0 → P (N / B32) → P N) : ∀ N, P N := by
  intro N
  induction N using Nat.strongRecOn with
  | _ N ih =>
    by_cases h : N = 0
    · subst h; exact z
    · exact s N h (ih _ (Nat.div_lt_self (by omega) (by decide)))

theorem limbs_ok (N : Nat) : Okl (limbs N) := by
  refine limbs_ind (P := fun N => Okl (limbs N)) ?_ ?_ N
  · exact Okl.nil
  · intro N h ih; rw [limbs_pos h]; exact Okl.cons (Nat.mod_lt _ B32_pos) ih
theorem val_limbs (N : Nat) : val (limbs N) = N := by
  refine limbs_ind (P := fun N => val (limbs N) = N) rfl ?_ N
  intro N h ih; rw [limbs_pos h, val, ih]; exact Nat.mod_add_div N B32
theorem limbs_nil_iff (N : Nat) : limbs N = [] ↔ N = 0 := by
  constructor
  · intro h; rw [← val_limbs N, h]; rfl
  · rintro rfl; rfl
theorem limbs_length_le {n N : Nat} (h : N < B32 ^ n) : (limbs N).length ≤ n := by
  induction n generalizing N with
  | zero => obtain rfl : N = 0 := by simp at h; exact h
            simp [limbs_zero]
  | succ n ih =>
    by_cases h0 : N = 0
    · subst h0; simp [limbs_zero]
    · rw [limbs_pos h0, List.length_cons]
      have : N / B32 < B32 ^ n := by rw [Nat.div_lt_iff_lt_mul B32_pos, ← Nat.pow_succ]; exact h
      have := ih this; omega
theorem limbs_lt_pow (N : Nat) : N < B32 ^ (limbs N).length := by
  have := val_lt (limbs_ok N); rwa [val_limbs] at this

/-- A list whose top is no 0 is the limbs of its natural. -/
theorem limbs_val {xs : List Nat} (h : Okl xs) (ht : ∀ n, xs.length = n + 1 → xs.getD n 0 ≠ 0) : limbs (val xs) = xs := by
  induction xs with
  | nil => rfl
  | cons x xs ih =>
    have hx : limbs (val xs) = xs := ih h.tail (fun n hn => by have := ht (n + 1) (by simp [hn]); simpa using this)
    have hne : val (x :: xs) ≠ 0 := by
      cases xs with
      | nil => have := ht 0 rfl; simp at this; simp [val]; omega
      | cons y ys =>
        intro h0
        simp only [val] at h0
        have h1 : B32 * (y + B32 * val ys) = 0 := by omega
        have h2 : val (y :: ys) = 0 := by
          simp only [val]; rcases Nat.mul_eq_zero.1 h1 with h | h
          · exact absurd h (by decide)
          · exact h
        rw [h2] at hx; cases hx
    rw [limbs_pos hne]
    have hm : val (x :: xs) % B32 = x := by simp only [val, Nat.add_mul_mod_self_left]; exact Nat.mod_eq_of_lt h.head
    have hd : val (x :: xs) / B32 = val xs := by simp only [val]; rw [Nat.add_mul_div_left _ _ B32_pos, Nat.div_eq_of_lt h.head, Nat.zero_add]
    rw [hm, hd, hx]

/-- How many limbs are left when the noughts at the top are cut. -/
def cutLen (xs : List Nat) : Nat → Nat
  | 0 => 0
  | n + 1 => if xs.getD n 0 = 0 then cutLen xs n else n + 1

theorem cutLen_le (xs : List Nat) : ∀ n, cutLen xs n ≤ n
  | 0 => Nat.le_refl _
  | n + 1 => by unfold cutLen; split; exact Nat.le_succ_of_le (cutLen_le xs n); exact Nat.le_refl _
theorem val_cut (xs : List Nat) : ∀ n, n ≤ xs.length → val (xs.take (cutLen xs n)) = val (xs.take n)
  | 0, _ => rfl
  | n + 1, h => by
    unfold cutLen; split
    · rename_i h0; rw [val_cut xs n (by omega), val_take_succ _ _ (by omega), h0]; simp
    · rfl
theorem cut_top (xs : List Nat) : ∀ n m, cutLen xs n = m + 1 → xs.getD m 0 ≠ 0
  | 0, m, h => by simp [cutLen] at h
  | n + 1, m, h => by
    unfold cutLen at h; split at h
    · exact cut_top xs n m h
    · rename_i h0; obtain rfl : n = m := by omega
      exact h0
theorem cut_limbs {xs : List Nat} (h : Okl xs) : xs.take (cutLen xs xs.length) = limbs (val xs) := by
  have hl := cutLen_le xs xs.length
  have e : val (xs.take (cutLen xs xs.length)) = val xs := by rw [val_cut _ _ (Nat.le_refl _), List.take_length]
  rw [← e]
  refine (limbs_val (h.take _) ?_).symm
  intro n hn
  rw [List.length_take, Nat.min_eq_left hl] at hn
  have := cut_top xs _ n hn
  simpa [List.getD, List.getElem?_take, hn] using this
theorem cutLen_eq {xs : List Nat} (h : Okl xs) : cutLen xs xs.length = (limbs (val xs)).length := by
  rw [← cut_limbs h, List.length_take, Nat.min_eq_left (cutLen_le _ _)]
theorem limbs_cutLen (N : Nat) : cutLen (limbs N) (limbs N).length = (limbs N).length := by
  rw [cutLen_eq (limbs_ok N), val_limbs]
end Go.Proofs.YtolmmpdgbkbcmaaDoor
