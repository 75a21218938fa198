/- Decimal digits, as plain lists: no walk. -/
import Derived.Test.YtolmmpdgbkbcmaaDoorOpsB
namespace Go.Proofs.YtolmmpdgbkbcmaaDoor
open Go.RowKit
set_option linter.unusedVariables false

/-- The value of digits, the lowest first. -/
def dval : List Nat → Nat
  | [] => 0
  | x :: xs => (x - 48) + 10 * dval xs
def Okd (xs : List Nat) : Prop := ∀ x ∈ xs, 48 ≤ x ∧ x ≤ 57
theorem Okd.nil : Okd [] := by intro x h; cases h
theorem Okd.b {xs : List Nat} (h : Okd xs) : Okb xs := fun x hx => by have := h x hx; omega
theorem Okd.snoc {xs : List Nat} {x : Nat} (h : Okd xs) (h1 : 48 ≤ x) (h2 : x ≤ 57) : Okd (xs ++ [x]) := by
  intro y hy; rcases List.mem_append.1 hy with hy | hy
  · exact h y hy
  · rw [List.mem_singleton] at hy; omega
theorem Okd.take {xs : List Nat} (h : Okd xs) (n : Nat) : Okd (xs.take n) := fun y hy => h y (List.mem_of_mem_take hy)
theorem Okd.tail {x : Nat} {xs : List Nat} (h : Okd (x :: xs)) : Okd xs := fun y hy => h y (by simp [hy])
theorem Okd.rev {xs : List Nat} (h : Okd xs) : Okd xs.reverse := fun y hy => h y (List.mem_reverse.1 hy)
theorem dval_snoc (xs : List Nat) (x : Nat) : dval (xs ++ [x]) = dval xs + tenN xs.length * (x - 48) := by
  induction xs with
  | nil => simp [dval, tenN]
  | cons y ys ih => simp only [List.cons_append, dval, ih, List.length_cons, tenN_succ]; grind

/-- The digits of a natural, the lowest first: none for 0. -/
def declF : Nat → Nat → List Nat
  | 0, _ => []
  | f + 1, N => if N = 0 then [] else (48 + N % 10) :: declF f (N / 10)
def decl (N : Nat) : List Nat := declF N N
theorem declF_eq : ∀ (f g N : Nat), N ≤ f → N ≤ g → declF f N = declF g N := by
  intro f
  induction f with
  | zero => intro g N h _; obtain rfl : N = 0 := by omega
            cases g <;> simp [declF]
  | succ f ih =>
    intro g N h k
    cases g with
    | zero => obtain rfl : N = 0 := by omega
              simp [declF]
    | succ g =>
      simp only [declF]
      split
      · rfl
      · rw [ih g (N / 10) (by omega) (by omega)]
theorem decl_zero : decl 0 = [] := rfl
theorem decl_pos {N : Nat} (h : N ≠ 0) : decl N = (48 + N % 10) :: decl (N / 10) := by
  unfold decl
  obtain ⟨f, rfl⟩ : ∃ f, N = f + 1 := ⟨N - 1, by omega⟩
  conv => lhs; rw [declF, if_neg h]
  rw [declF_eq f ((f + 1) / 10) _ (by omega) (Nat.le_refl _)]
theorem decl_ind {P : Nat → Prop} (z : P 0) (s : ∀ N, N ≠ 0 → P (N / 10) → P N) : ∀ N, P N := by
  intro N
  induction N using Nat.strongRecOn with
  | _ N ih =>
    by_cases h : N = 0
    · subst h; exact z
    · exact s N h (ih _ (by omega))
theorem decl_ok (N : Nat) : Okd (decl N) := by
  refine decl_ind (P := fun N => Okd (decl N)) Okd.nil ?_ N
  intro N h ih; rw [decl_pos h]
  intro y hy; rcases List.mem_cons.1 hy with rfl | hy
  · omega
  · exact ih y hy
theorem dval_decl (N : Nat) : dval (decl N) = N := by
  refine decl_ind (P := fun N => dval (decl N) = N) rfl ?_ N
  intro N h ih; rw [decl_pos h, dval, ih]; omega
/-- Digits whose highest is no nought are those of their value. -/
theorem decl_dval {xs : List Nat} (h : Okd xs) (ht : ∀ n, xs.length = n + 1 → xs.getD n 0 ≠ 48) : decl (dval xs) = xs := by
  induction xs with
  | nil => rfl
  | cons x xs ih =>
    have hx : decl (dval xs) = xs := ih h.tail (fun n hn => by have := ht (n + 1) (by simp [hn]); simpa using this)
    have h0 := h x (by simp)
    have hne : dval (x :: xs) ≠ 0 := by
      cases xs with
      | nil => have := ht 0 rfl; simp at this; simp [dval]; omega
      | cons y ys =>
        intro h1
        simp only [dval] at h1
        have h2 : dval (y :: ys) = 0 := by simp only [dval]; omega
        rw [h2] at hx; cases hx
    rw [decl_pos hne]
    have hm : dval (x :: xs) % 10 = x - 48 := by simp only [dval]; omega
    have hd : dval (x :: xs) / 10 = dval xs := by simp only [dval]; omega
    rw [hm, hd, hx, show 48 + (x - 48) = x by omega]
theorem dval_lt (xs : List Nat) (h : Okd xs) : dval xs < tenN xs.length := by
  induction xs with
  | nil => simp [dval, tenN]
  | cons x xs ih =>
    have := ih h.tail
    have h0 := h x (by simp)
    simp only [dval, List.length_cons, tenN_succ]; omega
theorem decl_len_le {n N : Nat} (h : N < tenN n) : (decl N).length ≤ n := by
  induction n generalizing N with
  | zero => obtain rfl : N = 0 := by simpa [tenN] using h
            simp [decl_zero]
  | succ n ih =>
    by_cases h0 : N = 0
    · subst h0; simp [decl_zero]
    · rw [decl_pos h0, List.length_cons]
      rw [tenN_succ] at h
      have := ih (N := N / 10) (by omega)
      omega
theorem decl_ne {N : Nat} (h : N ≠ 0) : decl N ≠ [] := by rw [decl_pos h]; simp

/-- The digits without the noughts at their end. -/
def trimLen (xs : List Nat) : Nat → Nat
  | 0 => 0
  | n + 1 => if xs.getD n 0 = 48 then trimLen xs n else n + 1
theorem trimLen_le (xs : List Nat) : ∀ n, trimLen xs n ≤ n
  | 0 => Nat.le_refl _
  | n + 1 => by unfold trimLen; split; exact Nat.le_succ_of_le (trimLen_le xs n); exact Nat.le_refl _
theorem dval_take_succ (xs : List Nat) (n : Nat) (h : n < xs.length) : dval (xs.take (n + 1)) = dval (xs.take n) + tenN n * (xs.getD n 0 - 48) := by
  rw [List.take_succ_eq_append_getElem h, dval_snoc, List.length_take, Nat.min_eq_left (by omega)]
  simp [List.getD, h]
theorem dval_trim (xs : List Nat) : ∀ n, n ≤ xs.length → dval (xs.take (trimLen xs n)) = dval (xs.take n)
  | 0, _ => rfl
  | n + 1, h => by
    unfold trimLen; split
    · rename_i h0; rw [dval_trim xs n (by omega), dval_take_succ _ _ (by omega), h0]; simp
    · rfl
theorem trim_top (xs : List Nat) : ∀ n m, trimLen xs n = m + 1 → xs.getD m 0 ≠ 48
  | 0, m, h => by simp [trimLen] at h
  | n + 1, m, h => by
    unfold trimLen at h; split at h
    · exact trim_top xs n m h
    · rename_i h0; obtain rfl : n = m := by omega
      exact h0
theorem trim_decl {xs : List Nat} (h : Okd xs) : xs.take (trimLen xs xs.length) = decl (dval xs) := by
  have hl := trimLen_le xs xs.length
  have e : dval (xs.take (trimLen xs xs.length)) = dval xs := by rw [dval_trim _ _ (Nat.le_refl _), List.take_length]
  rw [← e]
  refine (decl_dval (h.take _) ?_).symm
  intro n hn
  rw [List.length_take, Nat.min_eq_left hl] at hn
  have := trim_top xs _ n hn
  simpa [List.getD, List.getElem?_take, hn] using this

/-- The digits as they are told, the highest first. -/
def dec (N : Nat) : List Nat := if N = 0 then [48] else (decl N).reverse
/-- A text of bytes. -/
def txt (l : List Nat) : ByteArray := ⟨(l.map UInt8.ofNat).toArray⟩
theorem txt_size (l : List Nat) : (txt l).size = l.length := by simp [txt, ByteArray.size]
theorem dec_ok (N : Nat) : Okd (dec N) := by
  unfold dec; split
  · intro x hx; rw [List.mem_singleton] at hx; omega
  · exact (decl_ok N).rev
theorem dval_dec (N : Nat) : dval (dec N).reverse = N := by
  unfold dec; split
  · rename_i h; subst h; rfl
  · rw [List.reverse_reverse, dval_decl]
theorem dec_len_le {n N : Nat} (hn : 0 < n) (h : N < tenN n) : (dec N).length ≤ n := by
  unfold dec; split
  · simp; omega
  · rw [List.length_reverse]; exact decl_len_le h
theorem dec_pos (N : Nat) : 0 < (dec N).length := by
  unfold dec; split
  · simp
  · rename_i h; rw [List.length_reverse]; exact List.length_pos_iff.2 (decl_ne h)
end Go.Proofs.YtolmmpdgbkbcmaaDoor
