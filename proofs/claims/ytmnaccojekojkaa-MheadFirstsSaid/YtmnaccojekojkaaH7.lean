/- Chapter 9's own Put. -/
import Derived.Test.YtmnaccojekojkaaH6
namespace Go.Proofs.Ytmnaccojekojkaa
open Go.RowKit Go.Lib
set_option linter.unusedVariables false
set_option linter.unusedSimpArgs false
/-- Bytes that are answered, as they are read. -/
def ViewL (l : List Nat) (w : World) (e : Ending) (w' : World) : Prop := ∃ ad cap, e = .returned (.slice ad l.length cap) ∧ l.length ≤ cap ∧ RdV w' ad (bv l) ∧ Below w.heap.size w w'
theorem PutL.viewL {l : List Nat} {w w' : World} {e : Ending} (h : PutL l w e w') : ViewL l w e w' := by
  obtain ⟨ad, cap, h1, h2, h3, h4, _⟩ := h.view
  exact ⟨ad, cap, h1, h2, h3, h4⟩
theorem view_new (w : World) (news : List Value) (l : List Nat) (k : Nat) (hk : l.length = k) (hy : news = bv l) : ViewL l w (.returned (.slice (some ⟨w.heap.size, 0, none⟩) k k)) (w.alloc (.cells news.toArray 5)) := by
  subst hk
  exact ⟨_, _, rfl, Nat.le_refl _, by rw [← hy]; exact rd_new _ _ _, (Below.refl _ _).alloc (Nat.le_refl _) _⟩
theorem i64_and7 (x : Int) : bits .and .i64 x 7 = x % 8 := by
  have h7 : (BitVec.ofInt 64 7).toNat = 2 ^ 3 - 1 := by decide
  have hx : (BitVec.ofInt 64 x).toNat % 8 = (x % 8).toNat := by
    rw [BitVec.toNat_ofInt]
    omega
  show IntKind.i64.wrap (((BitVec.ofInt 64 x &&& BitVec.ofInt 64 7).toNat : Nat) : Int) = x % 8
  rw [BitVec.toNat_and, h7, Nat.and_two_pow_sub_one_eq_mod]
  rw [show (2 : Nat) ^ 3 = 8 from rfl, hx, IntKind.wrap_i64]
  omega
theorem u8_or (m i : Nat) (hm : m < 8) (hi : i < 32) : bits .or .u8 ((m : Int) * 32) (i : Int) = ((m * 32 + i : Nat) : Int) := by
  rw [bits_join .u8 8 (by decide) wraps_u8 5 ((m : Int) * 32) (i : Int) (by omega) (by omega) (by omega) (by omega) (by omega) (by omega)]
  omega
end Go.Proofs.Ytmnaccojekojkaa
