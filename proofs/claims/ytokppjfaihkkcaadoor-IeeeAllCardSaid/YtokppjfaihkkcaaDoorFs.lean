/- What the laws of layer 3 share: Exact, of any bits; the sign's bit; places of three widths. -/
import Derived.Test.YtokppjfaihkkcaaDoorFw
import Derived.Test.YtokppjfaihkkcaaDoorPlc
import Derived.Laws.Bits64b
namespace Go.Proofs.YtokppjfaihkkcaaDoor
open Go.RowKit Go.Sort
set_option linter.unusedVariables false
set_option linter.unusedSimpArgs false

theorem kindF_cases (e f x : Nat) : kindF e f x = 1 ∨ kindF e f x = 2 ∨ kindF e f x = 3 ∨ kindF e f x = 4 := by
  unfold kindF
  repeat' split
  all_goals omega
theorem kindW_cases (width : Int) (x : Nat) : kindW width x = 0 ∨ kindW width x = 1 ∨ kindW width x = 2 ∨ kindW width x = 3 ∨ kindW width x = 4 := by
  unfold kindW
  split
  · rename_i e f _; have := kindF_cases e f x; omega
  · exact .inl rfl
def okW (width : Int) (x : Nat) : Bool := decide (kindW width x = 1 ∨ kindW width x = 2)
theorem exact_all {w0 w : World} {l : List Ent} (h : Ctx w0 w l) (width : Int) (x : Nat) (hx : x < 18446744073709551616) :
    Calls Tryd.prog 12 #[.int .i64 width, .int .u64 (x : Int)] w (MadePost w0 l 2000 (exNegW width x) (exMW width x) (exEW width x) (okW width x)) := by
  by_cases hk : kindW width x = 1
  · unfold kindW at hk
    split at hk
    · rename_i e f hlo
      have hk1 : kindF e f x = 1 := by omega
      have e1 : exNegW width x = fNeg e f x := by unfold exNegW; rw [hlo]; simp [hk1]
      have e2 : exMW width x = exM e f x := by unfold exMW; rw [hlo]; simp [hk1]
      have e3 : exEW width x = exE e f x := by unfold exEW; rw [hlo]; simp [hk1]
      have e4 : okW width x = true := by unfold okW kindW; rw [hlo]; simp [hk1]
      rw [e1, e2, e3, e4]
      exact exact_yes h width x hx (layOf_lay hlo) hlo hk1
    · cases hk
  · have e0 : exNegW width x = false ∧ exMW width x = 0 ∧ exEW width x = 0 := by
      unfold kindW at hk
      cases hlo : layOf width with
      | none => simp [exNegW, exMW, exEW, hlo]
      | some p =>
        obtain ⟨e, f⟩ := p
        rw [hlo] at hk
        have hk1 : ¬ kindF e f x = 1 := fun h1 => hk (by simp only []; rw [h1]; rfl)
        simp [exNegW, exMW, exEW, hlo, hk1]
    have e4 : okW width x = (kindW width x == 2) := by
      unfold okW
      by_cases h2 : kindW width x = 2
      · rw [h2]; rfl
      · rw [decide_eq_false (by omega)]; exact (beq_eq_false_iff_ne.2 h2).symm
    rw [e0.1, e0.2.1, e0.2.2, e4]
    exact exact_no h width x (kindW width x) _ rfl (beq_eq_false_iff_ne.2 hk) (fun W => kind_any width x hx W)

theorem parts_mod (e f x : Nat) : fEx e f x = x % 2 ^ (e + f) / 2 ^ f ∧ fFr f x = x % 2 ^ (e + f) % 2 ^ f := by
  unfold fEx fFr
  rw [Nat.add_comm e f, Nat.pow_add]
  exact ⟨(Nat.mod_mul_right_div_self ..).symm, (Nat.mod_mul_right_mod ..).symm⟩
/-- Bits that differ by the sign alone. -/
structure Alike (e f x y : Nat) : Prop where
  ex : fEx e f x = fEx e f y
  fr : fFr f x = fFr f y
theorem Alike.kind {e f x y : Nat} (h : Alike e f x y) : kindF e f x = kindF e f y := by unfold kindF; rw [h.ex, h.fr]
theorem Alike.size {e f x y : Nat} (h : Alike e f x y) : sizeF e f x = sizeF e f y := by unfold sizeF; rw [h.ex, h.fr]
theorem Alike.twos {e f x y : Nat} (h : Alike e f x y) : twosF e f x = twosF e f y := by unfold twosF; rw [h.ex]
theorem Alike.em {e f x y : Nat} (h : Alike e f x y) : exM e f x = exM e f y := by unfold exM exN; rw [h.size, h.twos]
theorem Alike.ee {e f x y : Nat} (h : Alike e f x y) : exE e f x = exE e f y := by unfold exE exN; rw [h.size, h.twos]
theorem alike_mod {e f x y : Nat} (h : x % 2 ^ (e + f) = y % 2 ^ (e + f)) : Alike e f x y :=
  ⟨by rw [(parts_mod e f x).1, (parts_mod e f y).1, h], by rw [(parts_mod e f x).2, (parts_mod e f y).2, h]⟩
theorem flip_sign (e f x : Nat) : Alike e f (x ^^^ 2 ^ (e + f)) x ∧ fNeg e f (x ^^^ 2 ^ (e + f)) = !fNeg e f x := by
  constructor
  · refine alike_mod ?_
    rw [Nat.xor_mod_two_pow, Nat.mod_self, Nat.xor_zero]
  · unfold fNeg
    have h : (x ^^^ 2 ^ (e + f)) / 2 ^ (e + f) % 2 = (x / 2 ^ (e + f) % 2 + 1) % 2 := by
      have h1 : (x ^^^ 2 ^ (e + f)) / 2 ^ (e + f) = x / 2 ^ (e + f) ^^^ 1 := by
        rw [Nat.xor_div_two_pow, Nat.div_self (twop_pos _)]
      rw [h1]
      generalize x / 2 ^ (e + f) = q
      have h2 : (q ^^^ 1) % 2 = (q % 2) ^^^ 1 := by
        have := Nat.xor_mod_two_pow (a := q) (b := 1) (n := 1)
        simpa using this
      rw [h2]
      rcases Nat.mod_two_eq_zero_or_one q with h3 | h3
      · rw [h3]; rfl
      · rw [h3]; rfl
    rw [h]
    rcases Nat.mod_two_eq_zero_or_one (x / 2 ^ (e + f)) with h3 | h3 <;> rw [h3] <;> decide
end Go.Proofs.YtokppjfaihkkcaaDoor
