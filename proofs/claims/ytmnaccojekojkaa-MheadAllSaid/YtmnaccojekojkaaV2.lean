/- Lists of one-cell values that the call owns: append of one, a copy; how they are read. -/
import Derived.Test.YtmnaccojekojkaaV1
import Derived.Laws.AppendOwnNone
namespace Go.Proofs.Ytmnaccojekojkaa
open Go.RowKit
set_option linter.unusedVariables false
set_option linter.unusedSimpArgs false

/-- What is owned can be read. -/
theorem own_view {w : World} {B : Nat} {e : TypeId} {v : Value} {n : Nat} {vs : List Value} (h : w.ownsRow B e 1 v n vs) :
    ∃ ad cap, v = .slice ad n cap ∧ n ≤ cap ∧ RdV w ad vs ∧ vs.length = n ∧ ∀ a, ad = some a → B ≤ a.block ∧ a.block < w.heap.size := by
  have hl : vs.length = n := by have := h.1; omega
  rcases h.2 with ⟨rfl, h0⟩ | ⟨g, cap, cur, rfl, hB, hg, hc, hm, hs, ht⟩
  · subst h0
    have : vs = [] := List.eq_nil_of_length_eq_zero hl
    subst this
    exact ⟨none, 0, rfl, Nat.le_refl _, RdV.nil _ _, rfl, fun a h => by cases h⟩
  · have hlt : g < w.heap.size := (Array.getElem?_eq_some_iff.1 hg).1
    refine ⟨_, cap, rfl, hc, ?_, hl, fun a h => by cases h; exact ⟨hB, hlt⟩⟩
    intro i hi
    refine ⟨g, 0, rfl, hlt, ?_⟩
    have hv : vs[i]? = some vs[i] := List.getElem?_eq_getElem hi
    have := World.ownsRow.cells h (g := g) rfl i vs[i] hv
    have hadd : (⟨g, 0, none⟩ : Addr).add i = ⟨g, 0 + i, none⟩ := by unfold Addr.add; split <;> simp_all
    rw [hadd] at this
    rw [this, hv]
theorem own_on {w w' : World} {B : Nat} {e : TypeId} {v : Value} {n : Nat} {xs : List Value} (h : w.ownsRow B e 1 v n xs) (hb : Below w.heap.size w w') : w'.ownsRow B e 1 v n xs := by
  refine ⟨h.1, ?_⟩
  rcases h.2 with h2 | ⟨g, cap, cur, rfl, hB, hg, rest⟩
  · exact .inl h2
  · refine .inr ⟨g, cap, cur, rfl, hB, ?_, rest⟩
    rw [hb.block g (Array.getElem?_eq_some_iff.1 hg).1]; exact hg
theorem run_append_none {P : Program} {w : World} (t ty e : TypeId) (i : TypeInfo) (ht : P.underlying t = some (.slice e)) (hi : P.info? e = some i) (c : Nat) :
    (Builtin.append_ #[t, t] ty #[.slice none 0 0, .slice none 0 c]).run P w = .ok (.slice none 0 0) w := by
  simp [Builtin.append_, run_underlying ht, sizeOf, typeInfo, hi, Builtin.lenOf, Builtin.firstCells]

section
variable {t e : TypeId} {z : Value} {bytes : Nat}
/-- One more at the end of a list that the call owns. -/
theorem wpl_app1 (ht : Try.prog.underlying t = some (.slice e)) (hi : (Try.prog.info? e).map (fun i => (i.zero, i.size, i.bytes)) = some (some z, 1, bytes)) (hz1 : z.cells = #[z]) (hby : bytes ≤ 1000) (w : World) {ops : Array Oper} {rest : List Oper} {o : Oper} {a : Act} {Q : Exit → Act → World → Prop}
    (hg : o.guard = none) (s x : Operand) (hop : o.op = .call { callee := .builtin .append, args := #[s, x], argTypes := #[t, t] })
    (B : Nat) (v : Value) (n : Nat) (xs : List Value) (hs : a.eval s = v) (hown : w.ownsRow B e 1 v n xs) (g : Nat) (y : Value) (hy : y.oneCell' = true) (hx : a.eval x = .slice (some ⟨g, 0, none⟩) 1 1) (hc : w.cell? ⟨g, 0, none⟩ = some y)
    (hn : n ≤ 1000000000) (hB : B ≤ w.heap.size)
    (h : ∀ v' w', w'.ownsRow B e 1 v' (n + 1) (xs ++ [y]) → w.grownBy w' v.ownBlock → wpList Try.prog ops Q rest (a.put o.dst v') w') :
    wpList Try.prog ops Q (o :: rest) a w := by
  obtain ⟨i0, hi, hz0, hzs, hz2⟩ := info_parts hi
  refine wpList_append_own w hg s x t hop B e i0 z 1 bytes ht hi hz0 hzs hz2 (by rw [hz1]; rfl) (by decide) v n xs hs hown ⟨g, 0, none⟩ 1 1 [y] hx rfl ?_ ?_ (by unfold maxLen; omega) (by
    have : (n + 1) * bytes ≤ (n + 1) * 1000 := Nat.mul_le_mul_left _ hby
    omega) hB (fun v' w' h1 h2 _ => h v' w' h1 h2)
  · intro j u hj
    match j, hj with
    | 0, hj => simp at hj; subst hj; simpa [Addr.add] using hc
  · intro u hu; simp at hu; subst hu; exact hy
/-- A copy of a list. -/
theorem wpl_clone1 (ht : Try.prog.underlying t = some (.slice e)) (hi : (Try.prog.info? e).map (fun i => (i.zero, i.size, i.bytes)) = some (some z, 1, bytes)) (hz1 : z.cells = #[z]) (hby : bytes ≤ 1000) (w : World) {ops : Array Oper} {rest : List Oper} {o : Oper} {a : Act} {Q : Exit → Act → World → Prop}
    (hg : o.guard = none) (s x : Operand) (hop : o.op = .call { callee := .builtin .append, args := #[s, x], argTypes := #[t, t] })
    (ad : Option Addr) (n cap : Nat) (vs : List Value) (h1c : ∀ v ∈ vs, v.oneCell' = true) (hs : a.eval s = .slice none 0 0) (hx : a.eval x = .slice ad n cap) (hl : vs.length = n) (hr : RdV w ad vs) (hn : n ≤ 1000000000)
    (h : ∀ v' w', w'.ownsRow w.heap.size e 1 v' n vs → Below w.heap.size w w' → wpList Try.prog ops Q rest (a.put o.dst v') w') :
    wpList Try.prog ops Q (o :: rest) a w := by
  obtain ⟨i0, hi, hz0, hzs, hz2⟩ := info_parts hi
  subst hl
  cases ad with
  | none =>
    have h0 : vs = [] := by
      rcases Nat.eq_zero_or_pos vs.length with h0 | h0
      · exact List.eq_nil_of_length_eq_zero h0
      · obtain ⟨_, _, e, _⟩ := hr 0 h0
        cases e
    subst h0
    refine wpList_plain hg fun K hK => ?_
    have hrun := run_append_none (P := Try.prog) (w := w) t o.type e i0 ht hi cap
    simp only [List.length_nil] at hx
    unfold Oper.wp
    simp [execOp, hop, resolve, invoke, builtin, hs, hx, hrun, Result.andThen]
    exact hK _ _ (h _ _ (World.ownsRow_nil _ _ _ _) (Below.refl _ _))
  | some ad =>
    refine wpList_append_own w hg s x t hop w.heap.size e i0 z 1 bytes ht hi hz0 hzs hz2 (by rw [hz1]; rfl) (by decide) _ 0 [] hs (World.ownsRow_nil _ _ _ _) ad vs.length cap vs hx (by simp) ?_ ?_ (by unfold maxLen; omega) (by
      have : (0 + vs.length) * bytes ≤ (0 + vs.length) * 1000 := Nat.mul_le_mul_left _ hby
      omega) (Nat.le_refl _) (fun v' w' h1 h2 _ => h v' w' (by simpa using h1) ((Below.refl _ _).grown h2 (Nat.le_refl _) (fun k hk => by cases hk)))
    · intro j u hj
      have hjl : j < vs.length := (List.getElem?_eq_some_iff.1 hj).1
      obtain ⟨b, o', e, _, hc⟩ := hr j hjl
      cases e
      have hadd : (⟨b, o', none⟩ : Addr).add j = ⟨b, o' + j, none⟩ := by unfold Addr.add; split <;> simp_all
      rw [hadd, hc, hj]
    · intro u hu
      exact h1c u hu
end
theorem info_string : (Try.prog.info? 9).map (fun i => (i.zero, i.size, i.bytes)) = some (some (.string ByteArray.empty), 1, 16) := by kernel_rfl
theorem sv_one (l : List ByteArray) : ∀ v ∈ sv l, v.oneCell' = true := by
  intro v hv; simp only [sv, List.mem_map] at hv; obtain ⟨s, _, rfl⟩ := hv; rfl
/-- What a copy of a list leaves. -/
def ClonePost (e : TypeId) (vs : List Value) (w : World) (r : Ending) (w' : World) : Prop :=
  ∃ v, r = .returned v ∧ w'.ownsRow w.heap.size e 1 v vs.length vs ∧ Below w.heap.size w w'
end Go.Proofs.Ytmnaccojekojkaa
