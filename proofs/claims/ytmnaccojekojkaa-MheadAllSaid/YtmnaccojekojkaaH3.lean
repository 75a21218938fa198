/- Put of heads, walked. -/
import Derived.Test.YtmnaccojekojkaaH2
namespace Go.Proofs.Ytmnaccojekojkaa
open Go.RowKit Go.Lib
set_option linter.unusedVariables false
set_option linter.unusedSimpArgs false
/-- Bytes behind what is owned. -/
theorem wpl_put (W : World) (news : List Value) {ops : Array Oper} {rest : List Oper} {o : Oper} {a : Act} {Q : Exit → Act → World → Prop}
    (hg : o.guard = none) (s x : Operand) (hop : o.op = .call { callee := .builtin .append, args := #[s, x], argTypes := #[22, 22] })
    (w0 : World) (v : Value) (n : Nat) (xs : List Nat) (hs : a.eval s = v) (hown : W.ownsRow w0.heap.size 5 1 v n (bv xs)) (hb : Below w0.heap.size w0 W) (k : Nat) (hx : a.eval x = .slice (some ⟨W.heap.size, 0, none⟩) k k) (hk : news.length = k)
    (ys : List Nat) (hy : news = bv ys) (zs : List Nat) (hz : xs ++ ys = zs) (hn : n + k ≤ 1000000000)
    (h : ∀ v' w', w'.ownsRow w0.heap.size 5 1 v' (n + k) (bv zs) → Below w0.heap.size w0 w' → wpList Try.prog ops Q rest (a.put o.dst v') w') :
    wpList Try.prog ops Q (o :: rest) a (W.alloc (.cells news.toArray 5)) := by
  have hbs := hb.size
  refine wpl_appV Try.underlying22 info_u8 rfl (by decide) (by decide) _ hg s x hop w0.heap.size v n (bv xs) hs (hown.alloc _) _ k k news hx (by omega) (rd_new _ _ _) (by rw [hy]; exact bv_one _) (fun h => by cases h) hn (by simp; omega) ?_
  intro v' w' h1 h2
  refine h v' w' (by rw [← hz, bv_app, ← hy]; exact h1) ((hb.alloc hbs _).grown h2 (by simp; omega) (fun g hg => (hown.lt g hg).1))
theorem head_or (Mi : Int) (i : Nat) (hi : i < 32) : bits .or .u8 (Mi % 256 * 32 % 256) (i : Int) = (((Mi % 8).toNat * 32 + i : Nat) : Int) := by
  rw [bits_join .u8 8 (by decide) wraps_u8 5 (Mi % 256 * 32 % 256) (i : Int) (by omega) (by omega) (by omega) (by omega) (by omega) (by omega)]
  omega
/-- What Put leaves. -/
def PutL (l : List Nat) (w : World) (e : Ending) (w' : World) : Prop := ∃ v, e = .returned v ∧ w'.ownsRow w.heap.size 5 1 v l.length (bv l) ∧ Below w.heap.size w w'
theorem hd_0 (m n : Nat) (h : n < 24) : hd m n = [m * 32 + n] := by unfold hd infoN tailN; rw [if_pos h, if_pos h]
theorem hd_1 (m n : Nat) (h0 : 24 ≤ n) (h : n < 256) : hd m n = [m * 32 + 24, n] := by
  unfold hd infoN tailN; rw [if_neg (show ¬ n < 24 by omega), if_neg (show ¬ n < 24 by omega), if_pos h, if_pos h]
theorem hd_2 (m n : Nat) (h0 : 256 ≤ n) (h : n < 65536) : hd m n = [m * 32 + 25, n / 256, n % 256] := by
  unfold hd infoN tailN; rw [if_neg (show ¬ n < 24 by omega), if_neg (show ¬ n < 24 by omega), if_neg (show ¬ n < 256 by omega), if_neg (show ¬ n < 256 by omega), if_pos h, if_pos h]
theorem hd_4 (m n : Nat) (h0 : 65536 ≤ n) (h : n < 4294967296) : hd m n = [m * 32 + 26, n / 16777216, n / 65536 % 256, n / 256 % 256, n % 256] := by
  unfold hd infoN tailN; rw [if_neg (show ¬ n < 24 by omega), if_neg (show ¬ n < 24 by omega), if_neg (show ¬ n < 256 by omega), if_neg (show ¬ n < 256 by omega), if_neg (show ¬ n < 65536 by omega), if_neg (show ¬ n < 65536 by omega), if_pos h, if_pos h]
theorem hd_8 (m n : Nat) (h0 : 4294967296 ≤ n) : hd m n = [m * 32 + 27, n / 72057594037927936, n / 281474976710656 % 256, n / 1099511627776 % 256, n / 4294967296 % 256, n / 16777216 % 256, n / 65536 % 256, n / 256 % 256, n % 256] := by
  unfold hd infoN tailN; rw [if_neg (show ¬ n < 24 by omega), if_neg (show ¬ n < 24 by omega), if_neg (show ¬ n < 256 by omega), if_neg (show ¬ n < 256 by omega), if_neg (show ¬ n < 65536 by omega), if_neg (show ¬ n < 65536 by omega), if_neg (show ¬ n < 4294967296 by omega), if_neg (show ¬ n < 4294967296 by omega)]

end Go.Proofs.Ytmnaccojekojkaa
