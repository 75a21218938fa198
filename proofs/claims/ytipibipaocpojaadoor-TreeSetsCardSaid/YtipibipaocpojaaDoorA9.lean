/- The walks of bytes TrimRight at one byte, and of slices Reverse at bytes. The walk of Digits. The walks of short, Parse. -/
import Derived.Test.YtipibipaocpojaaDoorA8
namespace Go.Proofs.YtipibipaocpojaaDoor
open Go.RowKit
set_option linter.unusedVariables false
set_option linter.unusedSimpArgs false

/-- Half way through a reversal: k from either end are exchanged. -/
def Half (xs ys : List Nat) (k : Nat) : Prop := ys.length = xs.length ∧ ∀ t, t < xs.length → ys.getD t 0 = if t < k ∨ xs.length - k ≤ t then xs.getD (xs.length - 1 - t) 0 else xs.getD t 0
theorem Half.zero (xs : List Nat) : Half xs xs 0 := ⟨rfl, fun t ht => by rw [if_neg (by omega)]⟩
theorem getD_set (l : List Nat) (i t v : Nat) (h : i < l.length) : (l.set i v).getD t 0 = if i = t then v else l.getD t 0 := by
  by_cases hit : i = t
  · subst hit; simp [List.getD, h]
  · simp [List.getD, hit]
theorem Half.step {xs ys : List Nat} {k : Nat} (h : Half xs ys k) (hk : k < xs.length - 1 - k) :
    Half xs ((ys.set k (ys.getD (xs.length - 1 - k) 0)).set (xs.length - 1 - k) (ys.getD k 0)) (k + 1) := by
  obtain ⟨hl, h2⟩ := h
  have hk1 : ys.getD k 0 = xs.getD k 0 := by rw [h2 k (by omega), if_neg (by omega)]
  have hk2 : ys.getD (xs.length - 1 - k) 0 = xs.getD (xs.length - 1 - k) 0 := by rw [h2 _ (by omega), if_neg (by omega)]
  refine ⟨by simp [hl], fun t ht => ?_⟩
  rw [getD_set _ _ _ _ (by rw [List.length_set]; omega), getD_set _ _ _ _ (by omega), hk1, hk2]
  by_cases h3 : xs.length - 1 - k = t
  · subst h3
    rw [if_pos rfl, if_pos (by omega), show xs.length - 1 - (xs.length - 1 - k) = k by omega]
  · rw [if_neg h3]
    by_cases h4 : k = t
    · subst h4; rw [if_pos rfl, if_pos (by omega)]
    · rw [if_neg h4, h2 t ht]
      by_cases h5 : t < k ∨ xs.length - k ≤ t
      · rw [if_pos h5, if_pos (by omega)]
      · rw [if_neg h5, if_neg (by omega)]
theorem Half.done {xs ys : List Nat} {k : Nat} (h : Half xs ys k) (hk : xs.length ≤ 2 * k + 1) : ys = xs.reverse := by
  obtain ⟨hl, h2⟩ := h
  apply List.ext_getElem (by simp [hl])
  intro i h1 h3
  have h4 := h2 i (by omega)
  have h5 : ys[i] = ys.getD i 0 := by simp [List.getD, h1]
  rw [h5, h4, List.getElem_reverse]
  by_cases h6 : i < k ∨ xs.length - k ≤ i
  · rw [if_pos h6]; simp [List.getD, show xs.length - 1 - i < xs.length by omega]
  · rw [if_neg h6]
    have h7 : xs.length - 1 - i = i := by omega
    simp only [h7]
    simp [List.getD, show i < xs.length by omega]

def RevRel (g n : Nat) (xs : List Nat) (r : List Value) (w : World) (i j : Value) (wr : World) : Prop :=
  ∃ k q ys, i = .int .i64 ((k : Nat) : Int) ∧ j = .int .i64 ((n : Int) - 1 - (k : Int)) ∧ 2 * k ≤ n ∧ Okb ys ∧ Half xs ys k ∧ wr = (putb g ys r w).drewN q

end Go.Proofs.YtipibipaocpojaaDoor
namespace Go.Proofs.YtipibipaocpojaaDoor
open Go.RowKit
set_option linter.unusedVariables false
set_option linter.unusedSimpArgs false

theorem Own.kept {B : Nat} {w w' : World} {v : Value} {xs : List Nat} (h : Own B w v xs) (hk : ∀ k, v.ownBlock = some k → w'.heap[k]? = w.heap[k]?) : Own B w' v xs := by
  obtain ⟨ho, h | ⟨g, cap, r, e, hg, hb, hc⟩⟩ := h
  · exact ⟨ho, .inl h⟩
  · exact ⟨ho, .inr ⟨g, cap, r, e, hg, by unfold Blk; rw [hk g (by rw [e]; rfl)]; exact hb, hc⟩⟩
theorem Ownb.kept {B : Nat} {w w' : World} {v : Value} {xs : List Nat} (h : Ownb B w v xs) (hk : ∀ k, v.ownBlock = some k → w'.heap[k]? = w.heap[k]?) : Ownb B w' v xs := by
  obtain ⟨ho, h | ⟨g, cap, r, e, hg, hb, hc⟩⟩ := h
  · exact ⟨ho, .inl h⟩
  · exact ⟨ho, .inr ⟨g, cap, r, e, hg, by unfold Bkb; rw [hk g (by rw [e]; rfl)]; exact hb, hc⟩⟩
theorem Own.blockLt {B : Nat} {w : World} {v : Value} {xs : List Nat} (h : Own B w v xs) : ∀ k, v.ownBlock = some k → k < w.heap.size := by
  obtain ⟨_, ⟨rfl, rfl⟩ | ⟨g, cap, r, rfl, hg, hb, _⟩⟩ := h
  · intro k e; cases e
  · intro k e; cases e; exact hb.lt
theorem Ownb.blockLt {B : Nat} {w : World} {v : Value} {xs : List Nat} (h : Ownb B w v xs) : ∀ k, v.ownBlock = some k → k < w.heap.size := by
  obtain ⟨_, ⟨rfl, rfl⟩ | ⟨g, cap, r, rfl, hg, hb, _⟩⟩ := h
  · intro k e; cases e
  · intro k e; cases e; exact hb.lt
/-- Limbs and bytes lie in two blocks. -/
theorem own_apart {B B' : Nat} {w : World} {v v' : Value} {xs ys : List Nat} (h : Own B w v xs) (h' : Ownb B' w v' ys) (k : Nat) (e : v.ownBlock = some k) : some k ≠ v'.ownBlock := by
  intro e'
  obtain ⟨_, ⟨rfl, _⟩ | ⟨g, cap, r, rfl, _, hb, _⟩⟩ := h
  · cases e
  obtain ⟨_, ⟨rfl, _⟩ | ⟨g', cap', r', rfl, _, hb', _⟩⟩ := h'
  · cases e'
  cases e; cases e'
  unfold Blk at hb; unfold Bkb at hb'
  rw [hb] at hb'
  simp at hb'

def DGIn (G n Q N : Nat) (lv : Value) (w : World) (ov rm i : Value) (wr : World) : Prop :=
  ∃ (j r : Nat) (o : List Nat), j ≤ 9 ∧ i = .int .i64 j ∧ rm = .int .u32 r ∧ r < tenN (9 - j) ∧ Ownb G wr ov o ∧ Okd o ∧ N = (Q * tenN (9 - j) + r) * tenN o.length + dval o ∧ o.length ≤ 32 * n + j ∧ Own G wr lv (limbs Q) ∧ Below G w wr

theorem dg_num {Q N r P V T : Nat} (h : N = (Q * (T * 10) + r) * P + V) : N = (Q * T + r / 10) * (P * 10) + (V + P * (r % 10)) := by
  have := Nat.div_add_mod r 10
  rw [h]
  conv => lhs; rw [← this]
  grind

def DGRel (G n N : Nat) (w : World) (L : Nat) (lv ov : Value) (wr : World) : Prop :=
  ∃ o : List Nat, Own G wr lv (limbs L) ∧ Ownb G wr ov o ∧ Okd o ∧ N = L * tenN o.length + dval o ∧ Below G w wr ∧ o.length ≤ 32 * n + 9

end Go.Proofs.YtipibipaocpojaaDoor
namespace Go.Proofs.YtipibipaocpojaaDoor
open Go.RowKit
set_option linter.unusedVariables false
set_option linter.unusedSimpArgs false

/-- The bytes of a text as numbers. -/
def nums (s : ByteArray) : List Nat := s.data.toList.map UInt8.toNat
theorem nums_len (s : ByteArray) : (nums s).length = s.size := by
  unfold nums; rw [List.length_map]; rfl
theorem nums_at (s : ByteArray) (k : Nat) (h : k < s.size) : (nums s).getD k 0 = s[k].toNat := by
  have h1 : k < s.data.toList.length := h
  unfold nums
  simp only [List.getD, List.getElem?_map, List.getElem?_eq_getElem h1, Option.map_some, Option.getD_some]
  rfl
/-- The natural that digits tell, the highest first. -/
def hval (l : List Nat) : Nat := dval l.reverse
theorem hval_nil : hval [] = 0 := rfl
theorem hval_snoc (l : List Nat) (x : Nat) : hval (l ++ [x]) = 10 * hval l + (x - 48) := by
  unfold hval; rw [List.reverse_append]; simp only [List.reverse_cons, List.reverse_nil, List.nil_append, List.cons_append, dval]; omega
theorem hval_one (x : Nat) : hval [x] = x - 48 := by have := hval_snoc [] x; simpa [hval_nil] using this
theorem hval_append (l m : List Nat) : hval (l ++ m) = hval l * tenN m.length + hval m := by
  induction m generalizing l with
  | nil => simp [tenN, hval_nil]
  | cons x m ih =>
    have e1 : l ++ x :: m = (l ++ [x]) ++ m := by simp
    have e2 : x :: m = [x] ++ m := rfl
    rw [e1, ih, e2, ih [x], hval_snoc, hval_one, List.length_append, List.length_singleton, Nat.add_comm 1, tenN_succ]
    grind
theorem hval_lt {l : List Nat} (h : Okd l) : hval l < tenN l.length := by
  have := dval_lt l.reverse h.rev
  rwa [List.length_reverse] at this
theorem take_snoc' (l : List Nat) (k : Nat) (h : k < l.length) : l.take (k + 1) = l.take k ++ [l.getD k 0] := by
  rw [List.take_succ_eq_append_getElem h]; simp [List.getD, h]

def ShortPost (l : List Nat) (w : World) (e : Ending) (w' : World) : Prop :=
  ((Okd l ∧ e = .returned (.tuple #[.int .u32 ((hval l : Nat) : Int), .bool true])) ∨ (¬ Okd l ∧ e = .returned (.tuple #[.int .u32 0, .bool false]))) ∧ w = w'

theorem nums_take (t : ByteArray) (n : Nat) : nums (t.extract 0 n) = (nums t).take n := by
  unfold nums; simp [ByteArray.data_extract, List.map_take]
theorem nums_drop (t : ByteArray) (n : Nat) : nums (t.extract n t.size) = (nums t).drop n := by
  have e : (nums t).drop n = ((nums t).drop n).take (t.size - n) := by
    rw [List.take_of_length_le]; rw [List.length_drop, nums_len]; exact Nat.le_refl _
  rw [e]
  unfold nums; simp [ByteArray.data_extract, List.map_take, List.map_drop]

/-- What Parse tells of a text's bytes. -/
def ParsePost (l : List Nat) (w : World) (e : Ending) (w' : World) : Prop :=
  ((0 < l.length ∧ l.length ≤ 2000 ∧ Okd l ∧ ∃ v, e = .returned (.tuple #[v, .bool true]) ∧ Own w.heap.size w' v (limbs (hval l))) ∨
   (¬ (0 < l.length ∧ l.length ≤ 2000 ∧ Okd l) ∧ e = .returned (.tuple #[.slice none 0 0, .bool false]))) ∧ Below w.heap.size w w'

def PRel (G : Nat) (s : ByteArray) (w : World) (k : Nat) (sv lvv : Value) (wr : World) : Prop :=
  ∃ (t : ByteArray) (done : List Nat), k = t.size ∧ sv = .string t ∧ nums s = done ++ nums t ∧ Okd done ∧ Own G wr lvv (limbs (hval done)) ∧ Below G w wr

end Go.Proofs.YtipibipaocpojaaDoor
