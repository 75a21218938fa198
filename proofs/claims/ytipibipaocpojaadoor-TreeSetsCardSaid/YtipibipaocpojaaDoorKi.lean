/- Names that rise, with one more among them. -/
import Derived.Test.YtipibipaocpojaaDoorKh
namespace Go.Proofs.YtipibipaocpojaaDoor
open Go.RowKit Go.Shelf
set_option linter.unusedVariables false
set_option linter.unusedSimpArgs false

theorem ltS_irr (a : ByteArray) : ltS a a = false := bytesLess_irr _
theorem ltS_tr {a b c : ByteArray} (h : ltS a b = true) (h2 : ltS b c = true) : ltS a c = true := bytesLess_tr _ _ _ h h2
theorem ltS_tot (a b : ByteArray) : ltS a b = true ∨ a = b ∨ ltS b a = true := by
  rcases bytesLess_tot a.toList b.toList with h | h | h
  · exact .inl h
  · refine .inr (.inl ?_)
    rw [Lib.toList_data, Lib.toList_data] at h
    exact ByteArray.ext (Array.toList_inj.1 h)
  · exact .inr (.inr h)
theorem ltS_ne {a b : ByteArray} (h : ltS a b = true) : a ≠ b := by
  intro e; subst e; rw [ltS_irr] at h; cases h
/-- Each name above those ahead of it. -/
def Ris (l : List ByteArray) : Prop := ∀ i j, i < j → j < l.length → ltS (l.getD i ByteArray.empty) (l.getD j ByteArray.empty) = true
theorem ris_of {l : List ByteArray} (h : risesB l = true) : Ris l := by
  intro i j hij
  induction j with
  | zero => omega
  | succ j ih =>
    intro hj
    have h1 := risesB_iff.1 h (j + 1) hj
    unfold nameAt at h1
    simp at h1
    have h2 := h1.2
    by_cases e : i = j
    · subst e; simpa [List.getD] using h2
    · exact ltS_tr (ih (by omega) (by omega)) (by simpa [List.getD] using h2)
/-- A place among names: those ahead are below, those behind are above. -/
structure Spl (N : List ByteArray) (s : ByteArray) (p q : Nat) : Prop where
  pq : p ≤ q
  qp : q ≤ p + 1
  ql : q ≤ N.length
  lo : ∀ j, j < p → ltS (N.getD j ByteArray.empty) s = true
  hi : ∀ j, q ≤ j → j < N.length → ltS s (N.getD j ByteArray.empty) = true
  mid : q = p + 1 → N.getD p ByteArray.empty = s
theorem spl_some {N : List ByteArray} {s : ByteArray} {i : Nat} (hr : Ris N) (h : ixL N s = some i) : Spl N s i (i + 1) := by
  rcases ixL_cases N s with ⟨h1, _⟩ | ⟨k, h1, h2, h3, h4⟩
  · rw [h] at h1; cases h1
  · rw [h] at h1; cases h1
    exact ⟨by omega, Nat.le_refl _, h2, fun j hj => by rw [← h3]; exact hr j i hj h2, fun j hj hl => by rw [← h3]; exact hr i j hj hl, fun _ => h3⟩
theorem plL_spec (N : List ByteArray) (s : ByteArray) : (∀ j, j < plL N s → ltS s (N.getD j ByteArray.empty) = false) ∧ (plL N s < N.length → ltS s (N.getD (plL N s) ByteArray.empty) = true) := by
  induction N with
  | nil => exact ⟨fun j hj => by simp [plL] at hj, fun h => by simp at h⟩
  | cons x l ih =>
    unfold plL
    cases hx : ltS s x
    · rw [if_neg (by decide)]
      refine ⟨fun j hj => ?_, fun h => ?_⟩
      · cases j with
        | zero => simpa using hx
        | succ j => have := ih.1 j (by omega); simpa using this
      · have := ih.2 (by simpa using h); simpa using this
    · rw [if_pos rfl]
      exact ⟨fun j hj => by omega, fun _ => by simpa using hx⟩
theorem spl_none {N : List ByteArray} {s : ByteArray} (hr : Ris N) (h : ixL N s = none) : Spl N s (plL N s) (plL N s) := by
  rcases ixL_cases N s with ⟨_, h2⟩ | ⟨k, h1, _⟩
  · have hp := plL_spec N s
    have hl := plL_le N s
    refine ⟨Nat.le_refl _, by omega, hl, fun j hj => ?_, fun j hj hjl => ?_, fun h => by omega⟩
    · rcases ltS_tot (N.getD j ByteArray.empty) s with h3 | h3 | h3
      · exact h3
      · exact absurd h3 (h2 j (by omega))
      · rw [hp.1 j hj] at h3; cases h3
    · have h3 := hp.2 (by omega)
      by_cases e : plL N s = j
      · rw [← e]; exact h3
      · exact ltS_tr h3 (hr _ _ (by omega) hjl)
  · rw [h] at h1; cases h1

/-- One in place of what stands from one place to ahead of another. -/
def put1 {α : Type} (l : List α) (p q : Nat) (x : α) : List α := l.take p ++ [x] ++ l.drop q
theorem put1_len {α : Type} (l : List α) (p q : Nat) (x : α) (h : p ≤ q) (hq : q ≤ l.length) : (put1 l p q x).length + q = l.length + 1 + p := by
  unfold put1; simp; omega
theorem put1_lt {α : Type} (l : List α) (p q : Nat) (x d : α) {i : Nat} (hp : p ≤ l.length) (h : i < p) : (put1 l p q x).getD i d = l.getD i d := by
  unfold put1
  simp only [List.getD, List.append_assoc]
  rw [List.getElem?_append_left (by simp; omega), List.getElem?_take, if_pos h]
theorem put1_at {α : Type} (l : List α) (p q : Nat) (x d : α) (hp : p ≤ l.length) : (put1 l p q x).getD p d = x := by
  unfold put1
  simp only [List.getD, List.append_assoc]
  rw [List.getElem?_append_right (by simp; omega)]
  simp [Nat.min_eq_left hp]
theorem put1_gt {α : Type} (l : List α) (p q : Nat) (x d : α) {i : Nat} (hp : p ≤ l.length) (h : p < i) : (put1 l p q x).getD i d = l.getD (i - p - 1 + q) d := by
  unfold put1
  simp only [List.getD, List.append_assoc]
  rw [List.getElem?_append_right (by simp; omega), List.length_take, Nat.min_eq_left hp, List.getElem?_append_right (by simp; omega), List.getElem?_drop]
  simp
  congr 1
  rw [Nat.add_comm]
theorem put1_take {α : Type} (l : List α) (p q : Nat) (x : α) (hp : p ≤ l.length) : (put1 l p q x).take p = l.take p := by
  unfold put1
  rw [List.append_assoc, List.take_append_of_le_length (by simp; omega), List.take_take, Nat.min_self]
theorem put1_drop {α : Type} (l : List α) (p q : Nat) (x : α) (hp : p ≤ l.length) : (put1 l p q x).drop (p + 1) = l.drop q := by
  unfold put1
  rw [List.drop_append]
  simp [Nat.min_eq_left hp]
theorem spl_ris {N : List ByteArray} {s : ByteArray} {p q : Nat} (hr : Ris N) (h : Spl N s p q) : Ris (put1 N p q s) := by
  intro i j hij hj
  have hl := put1_len N p q s h.pq h.ql
  have h1 := h.pq; have h2 := h.qp; have h3 := h.ql
  have hp : p ≤ N.length := by omega
  rcases Nat.lt_trichotomy i p with hi | rfl | hi
  · rw [put1_lt _ _ _ _ _ hp hi]
    rcases Nat.lt_trichotomy j p with hj2 | rfl | hj2
    · rw [put1_lt _ _ _ _ _ hp hj2]; exact hr _ _ hij (by omega)
    · rw [put1_at _ _ _ _ _ hp]; exact h.lo _ hi
    · rw [put1_gt _ _ _ _ _ hp hj2]; exact hr _ _ (by omega) (by omega)
  · rw [put1_at _ _ _ _ _ hp, put1_gt _ _ _ _ _ hp hij]; exact h.hi _ (by omega) (by omega)
  · rw [put1_gt _ _ _ _ _ hp hi, put1_gt _ _ _ _ _ hp (by omega)]; exact hr _ _ (by omega) (by omega)
theorem spl_ix {N : List ByteArray} {s : ByteArray} {p q : Nat} (h : Spl N s p q) : ixL (put1 N p q s) s = some p := by
  have hl := put1_len N p q s h.pq h.ql
  have h1 := h.pq; have h2 := h.qp; have h3 := h.ql
  have hp : p ≤ N.length := by omega
  refine ixL_some (by omega) (put1_at _ _ _ _ _ hp) fun j hj => ?_
  rw [put1_lt _ _ _ _ _ hp hj]
  exact ltS_ne (h.lo j hj)
/-- Where another name stands then, and that what belongs to it stands there too. -/
theorem spl_other {α : Type} {N : List ByteArray} {V : List α} {s : ByteArray} {p q : Nat} (hr : Ris N) (h : Spl N s p q) (hv : V.length = N.length) (x d : α) {i : Nat} (hi : i < N.length) (hne : N.getD i ByteArray.empty ≠ s) :
    ∃ k, ixL (put1 N p q s) (N.getD i ByteArray.empty) = some k ∧ k < (put1 V p q x).length ∧ (put1 V p q x).getD k d = V.getD i d := by
  have hl := put1_len N p q s h.pq h.ql
  have hlv := put1_len V p q x h.pq (by rw [hv]; exact h.ql)
  have h1 := h.pq; have h2 := h.qp; have h3 := h.ql
  have hp : p ≤ N.length := by omega
  have hris := spl_ris hr h
  have hno : ∀ k, k < (put1 N p q s).length → (put1 N p q s).getD k ByteArray.empty = N.getD i ByteArray.empty → ixL (put1 N p q s) (N.getD i ByteArray.empty) = some k := fun k hk he =>
    ixL_some hk he fun j hj => by rw [← he]; exact ltS_ne (hris j k hj hk)
  by_cases hip : i < p
  · exact ⟨i, hno i (by omega) (put1_lt _ _ _ _ _ hp hip), by omega, put1_lt _ _ _ _ _ (by omega) hip⟩
  · have hiq : q ≤ i := by
      by_cases e : q = p + 1
      · by_cases e2 : i = p
        · subst e2; exact absurd (h.mid e) hne
        · omega
      · omega
    have hgt : p < i - q + p + 1 := by omega
    have he : i - q + p + 1 - p - 1 + q = i := by omega
    refine ⟨i - q + p + 1, hno _ (by omega) ?_, by omega, ?_⟩
    · rw [put1_gt _ _ _ _ _ hp hgt, he]
    · rw [put1_gt _ _ _ _ _ (by omega) hgt, he]
end Go.Proofs.YtipibipaocpojaaDoor
