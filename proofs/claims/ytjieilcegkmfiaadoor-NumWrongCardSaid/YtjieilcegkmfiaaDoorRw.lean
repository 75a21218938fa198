/- Texts that are no number's: plain lists; no program. -/
import Derived.Test.YtjieilcegkmfiaaDoorC5
namespace Go.Proofs.YtjieilcegkmfiaaDoor
open Go.RowKit
set_option linter.unusedVariables false
set_option linter.unusedSimpArgs false

/-- The exponent's text, or none. -/
def expOk (e : List Nat) : Prop := e = [] ∨ ∃ sg x, e = 101 :: sg :: x ∧ (sg = 43 ∨ sg = 45) ∧ Okd x ∧ x ≠ []
structure Form (s w f e : List Nat) : Prop where
  eq : s = w ++ tailT f e
  ow : Okd w
  good : ¬ wholeBad w
  fo : Okd f
  eo : expOk e
theorem text_form {N : Nat} {e : Int} (h0 : N ≠ 0) : ∃ w f x, Form (numTxt false N e) w f x := by
  have hod := dec_ok N
  have hdp := dec_pos N
  have hdh := dec_head h0
  have ht : numTxt false N e = sizeTxt (dec N) e := by unfold numTxt; rw [if_neg h0]; rfl
  rw [ht]
  clear ht
  generalize dec N = d at *
  unfold sizeTxt
  by_cases hA : (d.length : Int) + e < -5 ∨ 21 < (d.length : Int) + e
  · rw [if_pos hA]
    refine ⟨d.take 1, d.drop 1, 101 :: (if (d.length : Int) + e - 1 < 0 then 45 else 43) :: dec ((d.length : Int) + e - 1).natAbs, ?_, hod.take 1, ?_, fun x hx => hod x (List.mem_of_mem_drop hx), .inr ⟨_, _, rfl, by split <;> simp, dec_ok _, fun h => by have := dec_pos ((d.length : Int) + e - 1).natAbs; rw [h] at this; simp at this⟩⟩
    · unfold expTxt tailT fracT
      by_cases h1 : 1 < d.length
      · have h2 : d.drop 1 ≠ [] := ne_of_len (by rw [List.length_drop]; omega)
        rw [if_pos h1, if_neg h2]; simp
      · have h2 : d.drop 1 = [] := List.drop_of_length_le (by omega)
        rw [if_neg h1, h2]; simp
    · rintro (h1 | ⟨h1, _⟩)
      · have := congrArg List.length h1; simp at this; rw [this] at hdp; simp at hdp
      · simp at h1; omega
  · rw [if_neg hA]
    by_cases hB : (d.length : Int) + e ≤ 0
    · rw [if_pos hB]
      have hz0 : List.replicate (-((d.length : Int) + e)).toNat 48 ++ d ≠ [] := ne_of_len (by rw [List.length_append]; omega)
      refine ⟨[48], List.replicate (-((d.length : Int) + e)).toNat 48 ++ d, [], ?_, ?_, ?_, (zeros_ok _).append hod, .inl rfl⟩
      · unfold tailT fracT; rw [if_neg hz0]; simp
      · intro x hx; simp at hx; omega
      · rintro (h1 | ⟨h1, _⟩) <;> simp at h1
    · rw [if_neg hB]
      by_cases hC : e < 0
      · rw [if_pos hC]
        obtain ⟨k, hk⟩ : ∃ k, ((d.length : Int) + e).toNat = k := ⟨_, rfl⟩
        rw [hk]
        have hkl : 0 < k ∧ k < d.length := by omega
        have hz0 : d.drop k ≠ [] := ne_of_len (by rw [List.length_drop]; omega)
        have hth : (d.take k).head? = d.head? := by rw [List.head?_take, if_neg (by omega)]
        refine ⟨d.take k, d.drop k, [], ?_, hod.take k, good_of_head (ne_of_len (by rw [List.length_take]; omega)) (by rw [hth]; exact hdh), fun x hx => hod x (List.mem_of_mem_drop hx), .inl rfl⟩
        unfold tailT fracT; rw [if_neg hz0]; simp
      · rw [if_neg hC]
        have hth : (d ++ List.replicate e.toNat 48).head? = d.head? := by
          cases d with
          | nil => simp at hdp
          | cons a b => rfl
        refine ⟨d ++ List.replicate e.toNat 48, [], [], by simp [tailT, fracT], hod.append (zeros_ok _), good_of_head (ne_of_len (by rw [List.length_append]; omega)) (by rw [hth]; exact hdh), Okd.nil, .inl rfl⟩
theorem zero_form {e : Int} : Form (numTxt false 0 e) [48] [] [] := ⟨rfl, by intro x hx; simp at hx; omega, by rintro (h1 | ⟨h1, _⟩) <;> simp at h1, Okd.nil, .inl rfl⟩

theorem bad_first {c : Nat} {s : List Nat} (h1 : c ≠ 45) (h2 : isd c = false) : readL (c :: s) = none := by
  have ht : takes (c :: s) 45 = false := by rw [takes_cons]; exact decide_eq_false h1
  refine readL_bad (.inl ?_)
  unfold rest; rw [ht]
  simp [digs, h2]
theorem bad_sign {c : Nat} {s : List Nat} (h2 : isd c = false) : readL (45 :: c :: s) = none := by
  refine readL_bad (.inl ?_)
  show digs (c :: s) = []
  simp [digs, h2]
theorem Form.ahead {s w f e : List Nat} (h : Form s w f e) (t : List Nat) : s ++ t = w ++ tailT f (e ++ t) := by rw [h.eq]; unfold tailT; simp
theorem expOk.head {e t : List Nat} (h : expOk e) (ht : ∃ c r, t = c :: r ∧ isd c = false) : ∃ c r, e ++ t = c :: r ∧ isd c = false := by
  rcases h with rfl | ⟨sg, x, rfl, _⟩
  · simpa using ht
  · exact ⟨101, _, rfl, rfl⟩
theorem bad_zero {s w f e : List Nat} (h : Form s w f e) : readL (48 :: s) = none := by
  have hw0 : w ≠ [] := fun h0 => h.good (.inl h0)
  have hw : Okd (48 :: w) := fun x hx => by
    rcases List.mem_cons.1 hx with rfl | h1
    · omega
    · exact h.ow x h1
  have ht : takes (48 :: s) 45 = false := rfl
  have he2 : e = [] ∨ ∃ c t, e = c :: t ∧ isd c = false := by
    rcases h.eo with h1 | ⟨sg, x, h1, _⟩
    · exact .inl h1
    · exact .inr ⟨101, _, h1, rfl⟩
  have hd := (digs_tail (t := tailT f e) hw (tail_head he2)).1
  refine readL_bad (.inr ?_)
  have hr : rest (48 :: s) 45 = (48 :: w) ++ tailT f e := by unfold rest; rw [ht, h.eq]; rfl
  rw [hr, hd]
  cases w with
  | nil => exact absurd rfl hw0
  | cons a b => exact ⟨by simp, rfl⟩
/-- The text with more behind it: how it is read up to the exponent. -/
theorem read_more {s w f e : List Nat} (h : Form s w f e) (c : Nat) (t : List Nat) (hc : isd c = false) (hne : c ≠ 46) :
    (expL (e ++ c :: t) = none → readL (s ++ c :: t) = none) ∧ (∀ d x l4, expL (e ++ c :: t) = some (d, x, l4) → l4 ≠ [] → readL (s ++ c :: t) = none) := by
  have he : e ++ c :: t = [] ∨ ∃ c' t', e ++ c :: t = c' :: t' ∧ isd c' = false ∧ c' ≠ 46 := by
    right
    rcases h.eo with rfl | ⟨sg, x, rfl, _⟩
    · exact ⟨c, t, rfl, hc, hne⟩
    · exact ⟨101, _, rfl, rfl, by decide⟩
  have hw0 : w ≠ [] := fun h0 => h.good (.inl h0)
  obtain ⟨s1, s2⟩ := sign_takes (neg := false) (t := tailT f (e ++ c :: t)) h.ow hw0
  have sg : signT false ++ (w ++ tailT f (e ++ c :: t)) = w ++ tailT f (e ++ c :: t) := rfl
  rw [sg] at s1 s2
  obtain ⟨d1, d2⟩ := digs_tail (t := tailT f (e ++ c :: t)) h.ow (tail_head (weak46 he))
  rw [h.ahead]
  constructor
  · intro hx
    exact readL_exp (by rw [s2, d1]; exact h.good) (by rw [s2, d2]; exact frac_tail h.fo he) hx
  · intro d x l4 hx h4
    exact readL_left (by rw [s2, d1]; exact h.good) (by rw [s2, d2]; exact frac_tail h.fo he) hx h4
theorem exp_more {sg : Nat} {x t : List Nat} {c : Nat} (hs : sg = 43 ∨ sg = 45) (hx : Okd x) (h0 : x ≠ []) (hc : isd c = false) : ∃ d, expL ((101 :: sg :: x) ++ c :: t) = some (d, x, c :: t) := by
  unfold expL
  have h1 : takes ((101 :: sg :: x) ++ c :: t) 101 = true ∨ takes ((101 :: sg :: x) ++ c :: t) 69 = true := .inl rfl
  rw [if_pos h1]
  have h2 : signL (((101 :: sg :: x) ++ c :: t).tail) = x ++ c :: t := by rcases hs with rfl | rfl <;> rfl
  rw [h2, (digs_stop hx hc t).1, (digs_stop hx hc t).2, if_neg h0]
  exact ⟨_, rfl⟩
theorem bad_behind {s w f e : List Nat} (h : Form s w f e) (c : Nat) (t : List Nat) (hc : isd c = false) (hne : c ≠ 46) (h0 : expL (c :: t) = none ∨ ∃ d x l4, expL (c :: t) = some (d, x, l4) ∧ l4 ≠ []) : readL (s ++ c :: t) = none := by
  obtain ⟨a, b⟩ := read_more h c t hc hne
  rcases h.eo with rfl | ⟨sg, x, rfl, hs, hx, hx0⟩
  · rw [List.nil_append] at a b
    rcases h0 with h0 | ⟨d, x, l4, h1, h2⟩
    · exact a h0
    · exact b d x l4 h1 h2
  · obtain ⟨d, hd⟩ := exp_more (t := t) hs hx hx0 hc
    exact b d x _ hd (by simp)
theorem bad_point {s w f e : List Nat} (h : Form s w f e) : readL (s ++ [46]) = none := by
  have hw0 : w ≠ [] := fun h0 => h.good (.inl h0)
  rcases h.eo with rfl | ⟨sg, x, rfl, hs, hx, hx0⟩
  · have e1 : s ++ [46] = w ++ tailT f [46] := by rw [h.ahead]; rfl
    obtain ⟨s1, s2⟩ := sign_takes (neg := false) (t := tailT f [46]) h.ow hw0
    have sg : signT false ++ (w ++ tailT f [46]) = w ++ tailT f [46] := rfl
    rw [sg] at s1 s2
    obtain ⟨d1, d2⟩ := digs_tail (t := tailT f [46]) h.ow (tail_head (.inr ⟨46, [], rfl, rfl⟩))
    rw [e1]
    by_cases hf : f = []
    · subst hf
      refine readL_frac (by rw [s2, d1]; exact h.good) ?_
      rw [s2, d2]; rfl
    · have hfr : fracL (tailT f [46]) = some (f, [46]) := by
        unfold tailT fracT
        rw [if_neg hf]
        unfold fracL
        have h46 : takes (46 :: f ++ [46]) 46 = true := rfl
        rw [if_pos h46]
        have htl : (46 :: f ++ [46]).tail = f ++ 46 :: [] := rfl
        rw [htl, (digs_stop h.fo (c := 46) rfl []).1, (digs_stop h.fo (c := 46) rfl []).2, if_neg hf]
      exact readL_left (d := false) (x := []) (l4 := [46]) (by rw [s2, d1]; exact h.good) (by rw [s2, d2]; exact hfr) rfl (by simp)
  · have e1 : s ++ [46] = w ++ tailT f ((101 :: sg :: x) ++ [46]) := h.ahead [46]
    obtain ⟨s1, s2⟩ := sign_takes (neg := false) (t := tailT f ((101 :: sg :: x) ++ [46])) h.ow hw0
    have sgn : signT false ++ (w ++ tailT f ((101 :: sg :: x) ++ [46])) = w ++ tailT f ((101 :: sg :: x) ++ [46]) := rfl
    rw [sgn] at s1 s2
    obtain ⟨d1, d2⟩ := digs_tail (t := tailT f ((101 :: sg :: x) ++ [46])) h.ow (tail_head (.inr ⟨101, _, rfl, rfl⟩))
    obtain ⟨d, hd⟩ := exp_more (t := []) hs hx hx0 (c := 46) rfl
    rw [e1]
    exact readL_left (by rw [s2, d1]; exact h.good) (by rw [s2, d2]; exact frac_tail h.fo (.inr ⟨101, _, rfl, rfl, by decide⟩)) hd (by simp)

/-- The eight wrong texts. -/
def wrongT (s : List Nat) : Nat → List Nat
  | 0 => [43] ++ s
  | 1 => [45, 45] ++ s
  | 2 => [48] ++ s
  | 3 => s ++ [101]
  | 4 => s ++ [101, 43]
  | 5 => s ++ [120]
  | 6 => [32] ++ s
  | _ => s ++ [46]
theorem wrong_read {s w f e : List Nat} (h : Form s w f e) (k : Nat) : readL (wrongT s k) = none := by
  match k with
  | 0 => exact bad_first (by decide) rfl
  | 1 => exact bad_sign rfl
  | 2 => exact bad_zero h
  | 3 => exact bad_behind h 101 [] rfl (by decide) (.inl rfl)
  | 4 => exact bad_behind h 101 [43] rfl (by decide) (.inl rfl)
  | 5 => exact bad_behind h 120 [] rfl (by decide) (.inr ⟨false, [], [120], rfl, by simp⟩)
  | 6 => exact bad_first (by decide) rfl
  | k + 7 => exact bad_point h
end Go.Proofs.YtjieilcegkmfiaaDoor
