/- append of bytes, as a law of the walk. -/
import Derived.Test.YtolmmpdgbkbcmaaDoorWorldB
namespace Go.Proofs.YtolmmpdgbkbcmaaDoor
open Go.RowKit
set_option linter.unusedVariables false

theorem info_u8 : (Tryd.prog.info? 5).map (fun i => (i.zero, i.size, i.bytes)) = some (some (.int .u8 0), 1, 1) := by kernel_rfl
theorem Ownb.row {B : Nat} {w : World} {v : Value} {xs : List Nat} (h : Ownb B w v xs) : w.ownsRow B 5 1 v xs.length (xs.map bv) := by
  obtain ⟨_, ⟨rfl, rfl⟩ | ⟨g, cap, r, rfl, hg, hb, hc, hm⟩⟩ := h
  · exact ⟨by simp, .inl ⟨rfl, rfl⟩⟩
  · refine ⟨by simp, .inr ⟨g, cap, _, rfl, hg, hb, by omega, hm, by simp; omega, ?_⟩⟩
    simp
theorem ownb_of_row {B : Nat} {w : World} {v : Value} {n : Nat} {xs : List Nat} (h : w.ownsRow B 5 1 v n (xs.map bv)) (ho : Okb xs) : Ownb B w v xs := by
  obtain ⟨hl, ⟨rfl, rfl⟩ | ⟨g, cap, cur, rfl, hg, hb, hc, hm, hs, ht⟩⟩ := h
  · have : xs = [] := List.eq_nil_of_length_eq_zero (by simpa using hl)
    subst this
    exact Ownb.nil _ _
  · simp only [List.length_map, Nat.mul_one] at hl
    subst hl
    refine ⟨ho, .inr ⟨g, cap, cur.toList.drop xs.length, rfl, hg, ?_, ?_, hm⟩⟩
    · unfold Bkb; rw [hb]
      have : cur = (xs.map bv ++ cur.toList.drop xs.length).toArray := by
        rw [← ht, Nat.mul_one, List.take_append_drop]
      rw [← this]
    · have : cur.toList.length = cap := by simpa using hs
      rw [List.length_drop, this]; omega
theorem Ownb.blockGe {B : Nat} {w : World} {v : Value} {xs : List Nat} (h : Ownb B w v xs) : ∀ k, v.ownBlock = some k → B ≤ k := by
  obtain ⟨_, ⟨rfl, rfl⟩ | ⟨g, cap, r, rfl, hg, _⟩⟩ := h
  · intro k e; cases e
  · intro k e; cases e; exact hg

theorem wpl_appendb {w : World} {ops : Array Oper} {rest : List Oper} {o : Oper} {a : Act} {Q : Exit → Act → World → Prop} (hgd : o.guard = none) (s x : Operand)
    (ho : o.op = .call { callee := .builtin .append, args := #[s, x], argTypes := #[60, 60] }) (B : Nat) (v : Value) (xs : List Nat) (hs : a.eval s = v) (hown : Ownb B w v xs)
    (ad : Addr) (c : Nat) (y : Nat) (hx : a.eval x = .slice (some ad) 1 c) (hy : y < 256) (hc : w.cell? ad = some (.int .u8 (y : Int))) (hl : xs.length ≤ 1000000000) (hB : B ≤ w.heap.size)
    (h : ∀ v' w', Ownb B w' v' (xs ++ [y]) → Below B w w' → w.grownBy w' v.ownBlock → wpList Tryd.prog ops Q rest (a.put o.dst v') w') : wpList Tryd.prog ops Q (o :: rest) a w := by
  obtain ⟨i0, hi, hz0, hz1, hz2⟩ := info_parts info_u8
  refine wpList_append_own w hgd s x 60 ho B 5 i0 (.int .u8 0) 1 1 Tryd.underlying60 hi hz0 hz1 hz2 rfl (by decide) v xs.length (xs.map bv) hs hown.row ad 1 c [bv y] hx rfl ?_ ?_ (by unfold maxLen; omega) (by omega) hB ?_
  · intro j u hj
    rcases j with _ | j
    · simp only [List.getElem?_cons_zero, Option.some.injEq] at hj
      subst hj; simpa [Addr.add, bv] using hc
    · simp at hj
  · intro u hu; simp only [List.mem_singleton] at hu; subst hu; rfl
  · intro v' w' hown' hgr _
    refine h v' w' ?_ ((Below.refl _ _).grown hgr hB hown.blockGe) hgr
    have e : xs.map bv ++ [bv y] = (xs ++ [y]).map bv := by simp
    rw [e] at hown'
    exact ownb_of_row hown' (hown.1.append (Okb.one hy))
end Go.Proofs.YtolmmpdgbkbcmaaDoor
