/- Get of heads, walked. -/
import Derived.Test.YtmnaccojekojkaaH5
namespace Go.Proofs.Ytmnaccojekojkaa
open Go.RowKit Go.Lib
set_option linter.unusedVariables false
set_option linter.unusedSimpArgs false

/-- What Get leaves. -/
def GetR (l : List Nat) (k : Int) (w : World) (e : Ending) (w' : World) : Prop := e = .returned (tup (getN l k)) ∧ Below w.heap.size w w'
theorem getN_in (l : List Nat) (k f : Nat) (hk : k < l.length) (hf : l.getD k 0 = f) : getN l (k : Int) = match sizeN (f % 32) with
    | none => (0, 0, 0, 0, 2)
    | some s => if l.length - k - 1 < s then (0, 0, 0, 0, 2)
      else (f / 32, f % 32, if f % 32 < 24 then f % 32 else natB ((l.drop (k + 1)).take s), k + 1 + s, 0) := by
  unfold getN
  rw [if_neg (by omega), if_neg (by omega)]
  simp only [Int.toNat_natCast, hf]
  rfl
theorem sizeN_le {i s : Nat} (hs : sizeN i = some s) : s ≤ 8 := by
  unfold sizeN at hs
  split at hs
  · cases hs; omega
  · split at hs
    · next h2 =>
      cases hs
      exact Nat.le_trans (Nat.pow_le_pow_right (n := 2) (by decide) (show i - 24 ≤ 3 by omega)) (by decide)
    · cases hs
end Go.Proofs.Ytmnaccojekojkaa
