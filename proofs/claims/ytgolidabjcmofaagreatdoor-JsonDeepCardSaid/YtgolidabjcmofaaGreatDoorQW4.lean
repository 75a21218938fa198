/- Texts of the claim. -/
import Derived.Test.YtgolidabjcmofaaGreatDoorQW3
namespace Go.Proofs.YtgolidabjcmofaaGreatDoor
open Go.RowKit Go.Shelf Go.Lib
set_option linter.unusedVariables false
set_option linter.unusedSimpArgs false
def loopL {σ : Type} (P : σ → List UInt8 → Nat → (σ × List UInt8 × Nat) ⊕ Int) (c : UInt8) (d : Nat) : Nat → Nat → σ → List UInt8 → Nat → (σ × List UInt8 × Nat) ⊕ Int
  | 0, _, _, _, _ => .inr 2
  | f + 1, many, s, l, n =>
    if nextL l = c then .inl (s, (skipL l).tail, n)
    else if 0 < many ∧ nextL l ≠ 44 then .inr 2
    else if many < 300 ∧ d ≤ 64 ∧ n < 2000 then
      match P s (if 0 < many then (skipL l).tail else skipL l) (n + 1) with
      | .inr x => .inr x
      | .inl r => loopL P c d f (many + 1) r.1 r.2.1 r.2.2
    else .inr 4
theorem loopL_end {σ : Type} {P : σ → List UInt8 → Nat → (σ × List UInt8 × Nat) ⊕ Int} {c : UInt8} {d f many n : Nat} {s : σ} {l : List UInt8} (h : nextL l = c) : loopL P c d (f + 1) many s l n = .inl (s, (skipL l).tail, n) := by
  rw [loopL, if_pos h]
theorem loopL_comma {σ : Type} {P : σ → List UInt8 → Nat → (σ × List UInt8 × Nat) ⊕ Int} {c : UInt8} {d f many n : Nat} {s : σ} {l : List UInt8} (h : nextL l ≠ c) (h2 : 0 < many ∧ nextL l ≠ 44) : loopL P c d (f + 1) many s l n = .inr 2 := by
  rw [loopL, if_neg h, if_pos h2]
theorem loopL_limit {σ : Type} {P : σ → List UInt8 → Nat → (σ × List UInt8 × Nat) ⊕ Int} {c : UInt8} {d f many n : Nat} {s : σ} {l : List UInt8} (h : nextL l ≠ c) (h2 : ¬ (0 < many ∧ nextL l ≠ 44)) (h3 : ¬ (many < 300 ∧ d ≤ 64 ∧ n < 2000)) : loopL P c d (f + 1) many s l n = .inr 4 := by
  rw [loopL, if_neg h, if_neg h2, if_neg h3]
theorem loopL_bad {σ : Type} {P : σ → List UInt8 → Nat → (σ × List UInt8 × Nat) ⊕ Int} {c : UInt8} {d f many n : Nat} {s : σ} {l : List UInt8} {x : Int} (h : nextL l ≠ c) (h2 : ¬ (0 < many ∧ nextL l ≠ 44)) (h3 : many < 300 ∧ d ≤ 64 ∧ n < 2000) (h4 : P s (if 0 < many then (skipL l).tail else skipL l) (n + 1) = .inr x) : loopL P c d (f + 1) many s l n = .inr x := by
  rw [loopL, if_neg h, if_neg h2, if_pos h3, h4]
theorem loopL_on {σ : Type} {P : σ → List UInt8 → Nat → (σ × List UInt8 × Nat) ⊕ Int} {c : UInt8} {d f many n : Nat} {s : σ} {l : List UInt8} {r : σ × List UInt8 × Nat} (h : nextL l ≠ c) (h2 : ¬ (0 < many ∧ nextL l ≠ 44)) (h3 : many < 300 ∧ d ≤ 64 ∧ n < 2000) (h4 : P s (if 0 < many then (skipL l).tail else skipL l) (n + 1) = .inl r) : loopL P c d (f + 1) many s l n = loopL P c d f (many + 1) r.1 r.2.1 r.2.2 := by
  rw [loopL, if_neg h, if_neg h2, if_pos h3, h4]
theorem left_le (b : Prop) [Decidable b] (l : List UInt8) : (if b then (skipL l).tail else skipL l).length ≤ l.length := by
  have := skipL_len l
  split
  · rw [List.length_tail]; omega
  · exact this
def PartJ {σ : Type} (g d : Nat) (I : σ → World → Prop) (J : World → Prop) (r : (σ × List UInt8 × Nat) ⊕ Int) (e : Ending) (w' : World) : Prop :=
  match r with
  | .inl (s, l, n) => e = .returned (.tuple #[]) ∧ I s w' ∧ RdJ g l d n w'
  | .inr x => e = .panicked [{ v := .iface 31 (.int .i64 x), recovered := false }] ∧ J w'
end Go.Proofs.YtgolidabjcmofaaGreatDoor
