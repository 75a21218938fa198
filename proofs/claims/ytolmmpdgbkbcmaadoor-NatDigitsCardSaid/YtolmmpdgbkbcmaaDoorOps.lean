/- make and copy of limbs, as laws of the walk. -/
import Derived.Test.YtolmmpdgbkbcmaaDoorWorld
import Derived.Laws.CopyOwn
namespace Go.Proofs.YtolmmpdgbkbcmaaDoor
open Go.RowKit
set_option linter.unusedVariables false

theorem info_u32 : (Tryd.prog.info? 23).map (fun i => (i.zero, i.size, i.bytes)) = some (some (.int .u32 0), 1, 4) := by kernel_rfl
theorem lv_zero : lv 0 = .int .u32 0 := rfl

theorem made_zero (n : Nat) : (madeCells (Value.cells (.int .u32 0)) n).toList = (List.replicate n 0).map lv ++ [] := by
  simp only [madeCells, List.append_nil]
  apply List.ext_getElem
  · simp
  · intro i h1 h2; simp [Value.cells, lv, Nat.mod_one]

theorem wpl_make (w : World) {ops : Array Oper} {rest : List Oper} {o : Oper} {a : Act} {Q : Exit → Act → World → Prop}
    (hg : o.guard = none) (l c : Operand) (hop : o.op = Op.makeSlice 22 l c) (kl kc : IntKind) (L C : Int) (n : Nat)
    (hl : a.eval l = .int kl L) (hc : a.eval c = .int kc C) (hL : L = (n : Int)) (hC : C = (n : Int)) (hn : n ≤ 1000000000000)
    (hK : ∀ w', Blk w' w.heap.size (List.replicate n 0) [] → Below w.heap.size w w' → wpList Tryd.prog ops Q rest (a.put o.dst (.slice (some ⟨w.heap.size, 0, none⟩) n n)) w') :
    wpList Tryd.prog ops Q (o :: rest) a w := by
  obtain ⟨i0, hi, hz0, hz1, hz2⟩ := info_parts info_u32
  refine wpList_make_full w hg l c 22 hop w.heap.size 23 i0 (.int .u32 0) 1 Tryd.underlying22 hi hz0 hz1 kl kc L C n hl hc hL hC (by rw [hz2]; omega) (by unfold maxLen; omega) (Nat.le_refl _) ?_
  intro w' ho hgr
  refine hK w' ?_ ((Below.refl _ _).grown hgr (Nat.le_refl _) (fun k h => by cases h))
  obtain ⟨hl', h | ⟨g, cap, cur, e, _, hh, _, _, hs, ht⟩⟩ := ho
  · exact absurd h.1 (by simp)
  · simp only [Value.slice.injEq, Option.some.injEq, Addr.mk.injEq] at e
    obtain ⟨⟨rfl, _⟩, _, rfl⟩ := e
    unfold Blk
    rw [hh, ← made_zero]
    have : cur.toList = (madeCells (Value.cells (.int .u32 0)) n).toList := by
      have h2 := ht
      rw [List.take_of_length_le (by simp [hs])] at h2
      simpa using h2
    rw [← this]

theorem wpl_copy {w : World} {ops : Array Oper} {rest : List Oper} {o : Oper} {a : Act} {Q : Exit → Act → World → Prop} (hgd : o.guard = none) (d s : Operand)
    (ho : o.op = .call { callee := .builtin .copy, args := #[d, s], argTypes := #[22, 22] }) (g n cap : Nat) (ad : Option Addr) (m cap' : Nat)
    (hd : a.eval d = .slice (some ⟨g, 0, none⟩) n cap) (hs : a.eval s = .slice ad m cap') (ys xs : List Nat) (r : List Value) (hb : Blk w g ys r) (hy : ys.length = n) (hx : xs.length = m) (hmn : m ≤ n) (hr : Rd w ad xs)
    (h : wpList Tryd.prog ops Q rest (a.put o.dst (goInt m)) (put g (xs ++ ys.drop m) r w)) : wpList Tryd.prog ops Q (o :: rest) a w := by
  have hsz : (Tryd.prog.info? 23).map (·.size) = some 1 := by kernel_rfl
  by_cases h0 : m = 0
  · subst h0
    obtain rfl : xs = [] := List.eq_nil_of_length_eq_zero hx
    refine wpList_copy_nothing hgd d s _ _ ho 23 Tryd.underlying22 hsz _ _ _ _ _ _ hd hs (by simp) ?_
    rw [List.nil_append, List.drop_zero, put_same hb] at h
    exact h
  · obtain ⟨b, o', e, _, _⟩ := hr 0 (by omega)
    subst e
    refine wpList_copy_own hgd d s _ _ ho 23 Tryd.underlying22 hsz g 0 n cap ⟨b, o', none⟩ m cap' hd hs _ _ hb (xs.map lv) (by rw [List.length_map, hx]; exact (Nat.min_eq_left hmn).symm) ?_ (by simp; omega) ?_ ?_
    · intro j v hj
      have hjl : j < xs.length := by
        rcases Nat.lt_or_ge j xs.length with h1 | h1
        · exact h1
        · rw [List.getElem?_eq_none (by simpa using h1)] at hj; cases hj
      have hc := hr.at j hjl
      have e : (Addr.add ⟨b, o', none⟩ j) = ⟨b, o' + j, none⟩ := by unfold Addr.add; split <;> simp_all
      rw [e, hc]
      rw [List.getElem?_map, List.getElem?_eq_getElem hjl] at hj
      simp only [Option.map_some, Option.some.injEq] at hj
      rw [← hj]; simp [lv, List.getD, hjl]
    · intro v hv
      obtain ⟨x, _, rfl⟩ := List.mem_map.1 hv
      rfl
    · have e : w.setRow g ((List.map lv ys ++ r).toArray.toList.take 0 ++ (xs.map lv ++ (List.map lv ys ++ r).toArray.toList.drop (0 + (xs.map lv).length))).toArray = put g (xs ++ ys.drop m) r w := by
        have hlt := hb.lt
        unfold Blk at hb
        have e2 : (w.setRow g ((List.map lv ys ++ r).toArray.toList.take 0 ++ (xs.map lv ++ (List.map lv ys ++ r).toArray.toList.drop (0 + (xs.map lv).length))).toArray).heap = (put g (xs ++ ys.drop m) r w).heap := by
          apply Array.ext_getElem?
          intro k
          by_cases hk : k = g
          · subst hk
            rw [setRow_heap _ _ _ _ _ _ hb]
            simp only [put]
            rw [Array.getElem?_setIfInBounds_self_of_lt hlt]
            simp only [List.take_zero, List.nil_append, List.length_map, Nat.zero_add, hx, List.map_append, List.map_drop, List.append_assoc]
            rw [List.drop_append_of_le_length (by simp; omega)]
          · rw [setRow_other _ _ _ _ hk, put_other _ _ _ _ _ hk]
        unfold World.setRow at e2 ⊢
        unfold put at e2 ⊢
        simp only at e2
        rw [e2]
      rw [e]
      rw [List.length_map, hx]
      exact h

theorem Own.row {B : Nat} {w : World} {v : Value} {xs : List Nat} (h : Own B w v xs) : w.ownsRow B 23 1 v xs.length (xs.map lv) := by
  obtain ⟨_, ⟨rfl, rfl⟩ | ⟨g, cap, r, rfl, hg, hb, hc, hm⟩⟩ := h
  · exact ⟨by simp, .inl ⟨rfl, rfl⟩⟩
  · refine ⟨by simp, .inr ⟨g, cap, _, rfl, hg, hb, by omega, hm, by simp; omega, ?_⟩⟩
    simp
theorem own_of_row {B : Nat} {w : World} {v : Value} {n : Nat} {xs : List Nat} (h : w.ownsRow B 23 1 v n (xs.map lv)) (ho : Okl xs) : Own B w v xs := by
  obtain ⟨hl, ⟨rfl, rfl⟩ | ⟨g, cap, cur, rfl, hg, hb, hc, hm, hs, ht⟩⟩ := h
  · have : xs = [] := List.eq_nil_of_length_eq_zero (by simpa using hl)
    subst this
    exact Own.nil _ _
  · simp only [List.length_map, Nat.mul_one] at hl
    subst hl
    refine ⟨ho, .inr ⟨g, cap, cur.toList.drop xs.length, rfl, hg, ?_, ?_, hm⟩⟩
    · unfold Blk; rw [hb]
      have : cur = (xs.map lv ++ cur.toList.drop xs.length).toArray := by
        rw [← ht, Nat.mul_one, List.take_append_drop]
      rw [← this]
    · have : cur.toList.length = cap := by simpa using hs
      rw [List.length_drop, this]; omega
theorem Own.blockGe {B : Nat} {w : World} {v : Value} {xs : List Nat} (h : Own B w v xs) : ∀ k, v.ownBlock = some k → B ≤ k := by
  obtain ⟨_, ⟨rfl, rfl⟩ | ⟨g, cap, r, rfl, hg, _⟩⟩ := h
  · intro k e; cases e
  · intro k e; cases e; exact hg

theorem wpl_append {w : World} {ops : Array Oper} {rest : List Oper} {o : Oper} {a : Act} {Q : Exit → Act → World → Prop} (hgd : o.guard = none) (s x : Operand)
    (ho : o.op = .call { callee := .builtin .append, args := #[s, x], argTypes := #[22, 22] }) (B : Nat) (v : Value) (xs : List Nat) (hs : a.eval s = v) (hown : Own B w v xs)
    (ad : Addr) (c : Nat) (y : Nat) (hx : a.eval x = .slice (some ad) 1 c) (hy : y < B32) (hc : w.cell? ad = some (.int .u32 (y : Int))) (hl : xs.length ≤ 1000000000) (hB : B ≤ w.heap.size)
    (h : ∀ v' w', Own B w' v' (xs ++ [y]) → Below B w w' → w.grownBy w' v.ownBlock → wpList Tryd.prog ops Q rest (a.put o.dst v') w') : wpList Tryd.prog ops Q (o :: rest) a w := by
  obtain ⟨i0, hi, hz0, hz1, hz2⟩ := info_parts info_u32
  refine wpList_append_own w hgd s x 22 ho B 23 i0 (.int .u32 0) 1 4 Tryd.underlying22 hi hz0 hz1 hz2 rfl (by decide) v xs.length (xs.map lv) hs hown.row ad 1 c [lv y] hx rfl ?_ ?_ (by unfold maxLen; omega) (by omega) hB ?_
  · intro j u hj
    rcases j with _ | j
    · simp only [List.getElem?_cons_zero, Option.some.injEq] at hj
      subst hj; simpa [Addr.add, lv] using hc
    · simp at hj
  · intro u hu; simp only [List.mem_singleton] at hu; subst hu; rfl
  · intro v' w' hown' hgr _
    refine h v' w' ?_ ((Below.refl _ _).grown hgr hB hown.blockGe) hgr
    have e : xs.map lv ++ [lv y] = (xs ++ [y]).map lv := by simp
    rw [e] at hown'
    exact own_of_row hown' (hown.1.append (Okl.cons hy Okl.nil))
end Go.Proofs.YtolmmpdgbkbcmaaDoor
