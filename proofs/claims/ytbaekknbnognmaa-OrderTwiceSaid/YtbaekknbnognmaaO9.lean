/- Beginnings of one text, turned about: plain lists, no program. -/
import Derived.Test.YtbaekknbnognmaaO6
namespace Go.Proofs.Ytbaekknbnognmaa
set_option linter.unusedVariables false
set_option linter.unusedSimpArgs false

theorem less_take : ∀ (l : List UInt8) (a b : Nat), a < b → b ≤ l.length → Op.bytesLess (l.take a) (l.take b) = true
  | [], a, b, h, k => by simp at k; omega
  | x :: l, 0, b, h, k => by
    obtain ⟨b, rfl⟩ : ∃ c, b = c + 1 := ⟨b - 1, by omega⟩
    rfl
  | x :: l, a + 1, b, h, k => by
    obtain ⟨b, rfl⟩ : ∃ c, b = c + 1 := ⟨b - 1, by omega⟩
    rw [List.take_succ_cons, List.take_succ_cons, bytesLess_cons]
    exact .inr ⟨rfl, less_take l a b (by omega) (by simp at k; omega)⟩
theorem take_inj {l : List UInt8} {a b : Nat} (ha : a ≤ l.length) (hb : b ≤ l.length) (h : l.take a = l.take b) : a = b := by
  have := congrArg List.length h
  rw [List.length_take, List.length_take] at this; omega
/-- A rising row of k numbers below k. -/
theorem rising_id {g : Nat → Nat} {k : Nat} (h1 : ∀ i, i + 1 < k → g i < g (i + 1)) (h2 : ∀ i, i < k → g i < k) : ∀ i, i < k → g i = i := by
  have lo : ∀ i, i < k → i ≤ g i := by
    intro i
    induction i with
    | zero => intro _; exact Nat.zero_le _
    | succ i ih => intro hi; have := ih (by omega); have := h1 i hi; omega
  have hi : ∀ d i, i + d + 1 = k → g i ≤ i := by
    intro d
    induction d with
    | zero => intro i hi; have := h2 i (by omega); omega
    | succ d ih => intro i hi; have := ih (i + 1) (by omega); have := h1 i (by omega); omega
  intro i hk
  have := lo i hk
  have := hi (k - 1 - i) i (by omega)
  omega
/-- The beginnings of a text, turned about. -/
def turned (abc : List UInt8) (k c : Nat) (i : Nat) : List UInt8 := abc.take ((i + c) % k + 1)
theorem turned_inj {abc : List UInt8} {k c : Nat} (hk : k ≤ abc.length) (hc : c < k) {i j : Nat} (hi : i < k) (hj : j < k) (h : turned abc k c i = turned abc k c j) : i = j := by
  have m1 := Nat.mod_lt (i + c) (show 0 < k by omega)
  have m2 := Nat.mod_lt (j + c) (show 0 < k by omega)
  have := take_inj (l := abc) (by omega) (by omega) h
  have e : (i + c) % k = (j + c) % k := by omega
  have e1 : i + c < k ∨ k ≤ i + c := by omega
  have e2 : j + c < k ∨ k ≤ j + c := by omega
  rcases e1 with e1 | e1 <;> rcases e2 with e2 | e2
  · rw [Nat.mod_eq_of_lt e1, Nat.mod_eq_of_lt e2] at e; omega
  · rw [Nat.mod_eq_of_lt e1, Nat.mod_eq_sub_mod e2, Nat.mod_eq_of_lt (by omega)] at e; omega
  · rw [Nat.mod_eq_of_lt e2, Nat.mod_eq_sub_mod e1, Nat.mod_eq_of_lt (by omega)] at e; omega
  · rw [Nat.mod_eq_sub_mod e1, Nat.mod_eq_sub_mod e2, Nat.mod_eq_of_lt (by omega), Nat.mod_eq_of_lt (by omega)] at e; omega
/-- They are sorted by their lengths. -/
theorem turned_sort {abc : List UInt8} {k c : Nat} (key : Nat → List UInt8) (hkey : ∀ i, i < k → key i = turned abc k c i) (hk : k ≤ abc.length) (hc : c < k) (i : Nat) (hi : i < k) :
    (srt Op.bytesLess key 0 k).getD i 0 = (i + k - c) % k := by
  have hlt := fun i hi => srt_lt Op.bytesLess key k i hi
  have hnx := fun i hi => srt_next sto_bytes key k i hi
  have hnd := fun i j hi hj => srt_nodup Op.bytesLess key k i j hi hj
  generalize srt Op.bytesLess key 0 k = S at *
  have hm : ∀ i, (i + c) % k < k := fun i => Nat.mod_lt _ (by omega)
  have hid := rising_id (g := fun i => (S.getD i 0 + c) % k) (k := k) (fun i hi => by
    have h1 := (hnx i hi).1
    have a1 := hlt i (by omega)
    have a2 := hlt (i + 1) hi
    rw [hkey _ a1, hkey _ a2] at h1
    unfold turned at h1
    have b1 := hm (S.getD i 0); have b2 := hm (S.getD (i + 1) 0)
    rcases Nat.lt_trichotomy ((S.getD i 0 + c) % k) ((S.getD (i + 1) 0 + c) % k) with h | h | h
    · exact h
    · exfalso
      have : S.getD i 0 = S.getD (i + 1) 0 := turned_inj hk hc a1 a2 (by unfold turned; rw [h])
      have := hnd i (i + 1) (by omega) hi this; omega
    · exfalso
      have := less_take abc ((S.getD (i + 1) 0 + c) % k + 1) ((S.getD i 0 + c) % k + 1) (by omega) (by omega)
      rw [this] at h1; cases h1) (fun i hi => hm _) i hi
  replace hid : (S.getD i 0 + c) % k = i := hid
  have a1 := hlt i hi
  generalize S.getD i 0 = s at *
  have e1 : s + c < k ∨ k ≤ s + c := by omega
  have e2 : i + k - c < k ∨ k ≤ i + k - c := by omega
  rcases e1 with e1 | e1
  · rw [Nat.mod_eq_of_lt e1] at hid
    rw [Nat.mod_eq_sub_mod (by omega), Nat.mod_eq_of_lt (by omega)]; omega
  · rw [Nat.mod_eq_sub_mod e1, Nat.mod_eq_of_lt (by omega)] at hid
    rw [Nat.mod_eq_of_lt (by omega)]; omega
/-- No key stands twice. -/
theorem turned_once {abc : List UInt8} {k c : Nat} {key : Nat → List UInt8} (hkey : ∀ i, i < k → key i = turned abc k c i) (hk : k ≤ abc.length) (hc : c < k) {lo : Nat} {f : Bool} (h : Twc key k lo f) : f = false ∧ lo = 0 := by
  cases f
  · exact ⟨rfl, (h.1 rfl).1⟩
  · obtain ⟨h1, ⟨i, h2, h3⟩, _⟩ := h.2 rfl
    rw [hkey i (by omega), hkey lo h1] at h3
    have := turned_inj hk hc (by omega) h1 h3; omega
/-- One of them once more. -/
theorem turned_twice {abc : List UInt8} {k c x : Nat} {key : Nat → List UInt8} (hkey : ∀ i, i < k → key i = turned abc k c i) (hx : x < k) (hkx : key k = key x) (hk : k ≤ abc.length) (hc : c < k) {lo : Nat} {f : Bool} (h : Twc key (k + 1) lo f) : f = true ∧ lo = k := by
  cases f
  · exact absurd hkx.symm ((h.1 rfl).2 k (by omega) x hx)
  · obtain ⟨h1, ⟨i, h2, h3⟩, h4⟩ := h.2 rfl
    refine ⟨rfl, ?_⟩
    rcases Nat.lt_or_ge lo k with e | e
    · rw [hkey i (by omega), hkey lo e] at h3
      have := turned_inj hk hc (by omega) e h3; omega
    · omega
end Go.Proofs.Ytbaekknbnognmaa
