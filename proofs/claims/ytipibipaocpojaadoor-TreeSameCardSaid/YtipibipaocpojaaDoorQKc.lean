/- The walks of slices.Index on texts, tree's placeFor, members. -/
import Derived.Test.YtipibipaocpojaaDoorQi
namespace Go.Proofs.YtipibipaocpojaaDoor
open Go.RowKit Go.Shelf
set_option linter.unusedVariables false
set_option linter.unusedSimpArgs false

/-- Texts, compared. -/
def eqS (a b : ByteArray) : Bool := a.toList == b.toList
theorem eqS_iff {a b : ByteArray} : eqS a b = true ↔ a = b := by
  unfold eqS
  rw [beq_iff_eq]
  refine ⟨fun h => ?_, fun h => by rw [h]⟩
  rw [Lib.toList_data, Lib.toList_data] at h
  exact ByteArray.ext (Array.toList_inj.1 h)
theorem eqS_refl (a : ByteArray) : eqS a a = true := eqS_iff.2 rfl
theorem eqS_no {a b : ByteArray} : eqS a b = false ↔ a ≠ b := by rw [← Bool.not_eq_true, eqS_iff]
/-- Where a text stands first. -/
def ixL : List ByteArray → ByteArray → Option Nat
  | [], _ => none
  | x :: l, s => if eqS x s then some 0 else (ixL l s).map (· + 1)
def ixZ (l : List ByteArray) (s : ByteArray) : Int := match ixL l s with | none => -1 | some i => i
theorem ixL_some {l : List ByteArray} {s : ByteArray} {i : Nat} (hi : i < l.length) (he : l.getD i ByteArray.empty = s) (hb : ∀ j, j < i → l.getD j ByteArray.empty ≠ s) : ixL l s = some i := by
  induction l generalizing i with
  | nil => simp at hi
  | cons x l ih =>
    cases i with
    | zero => simp at he; subst he; unfold ixL; rw [eqS_refl, if_pos rfl]
    | succ i =>
      have h0 := hb 0 (by omega)
      simp at h0
      unfold ixL
      rw [eqS_no.2 h0, if_neg (by decide), ih (i := i) (by simpa using hi) (by simpa using he) (fun j hj => by have := hb (j + 1) (by omega); simpa using this)]
      rfl
theorem ixL_none {l : List ByteArray} {s : ByteArray} (hb : ∀ j, j < l.length → l.getD j ByteArray.empty ≠ s) : ixL l s = none := by
  induction l with
  | nil => rfl
  | cons x l ih =>
    have h0 := hb 0 (by simp)
    simp at h0
    unfold ixL
    rw [eqS_no.2 h0, if_neg (by decide), ih (fun j hj => by have := hb (j + 1) (by simpa using hj); simpa using this)]
    rfl
theorem ixL_cases (l : List ByteArray) (s : ByteArray) : (ixL l s = none ∧ ∀ j, j < l.length → l.getD j ByteArray.empty ≠ s) ∨ ∃ i, ixL l s = some i ∧ i < l.length ∧ l.getD i ByteArray.empty = s ∧ ∀ j, j < i → l.getD j ByteArray.empty ≠ s := by
  induction l with
  | nil => left; exact ⟨rfl, fun j hj => by simp at hj⟩
  | cons x l ih =>
    by_cases hx : x = s
    · right; subst hx; exact ⟨0, by unfold ixL; rw [eqS_refl, if_pos rfl], by simp, by simp, fun j hj => by omega⟩
    · rcases ih with ⟨h1, h2⟩ | ⟨i, h1, h2, h3, h4⟩
      · left
        refine ⟨by unfold ixL; rw [eqS_no.2 hx, if_neg (by decide), h1]; rfl, fun j hj => ?_⟩
        cases j with
        | zero => simpa using hx
        | succ j => have := h2 j (by simpa using hj); simpa using this
      · right
        refine ⟨i + 1, by unfold ixL; rw [eqS_no.2 hx, if_neg (by decide), h1]; rfl, by simpa using h2, by simpa using h3, fun j hj => ?_⟩
        cases j with
        | zero => simpa using hx
        | succ j => have := h4 j (by omega); simpa using this
/-- A whole number, in the world as it was. -/
def IntSame (i : Int) (w : World) (e : Ending) (w' : World) : Prop := e = .returned (.int .i64 i) ∧ w' = w
def IX (l : List ByteArray) (s : ByteArray) (w : World) (k : Nat) (i : Value) (wr : World) : Prop :=
  ∃ j : Nat, j ≤ l.length ∧ l.length - j ≤ k ∧ i = .int .i64 (j : Int) ∧ (∀ q, q < j → l.getD q ByteArray.empty ≠ s) ∧ wr = w

set_option maxHeartbeats 2000000 in
theorem index_any (ad : Option Addr) (n cap : Nat) (l : List ByteArray) (s : ByteArray) (w : World) (hl : l.length = n) (hcap : n ≤ cap) (hm : n ≤ 1000000000000000) (hr : RdV w ad (sv l)) :
    Calls Tryd.prog 24 #[.slice ad n cap, .string s] w (IntSame (ixZ l s) w) := by
  have HL := Lib.hid hl
  have HR := Lib.hid hr
  clear hl hr
  have HST := Lib.hid (show IX l s w n (.int .i64 0) w from ⟨0, Nat.zero_le _, by rw [HL.out]; omega, rfl, fun q h => by omega, rfl⟩)
  go_enter Tryd.func24, Tryd.ntmps24
  go_wp2
  go_loopg [8] n (fun k i wr => IX l s w k i wr)
  case atStart => exact HST.out
  case round =>
    obtain ⟨j, hj, hk, rfl, hpre, rfl⟩ := hrel
    rw [HL.out] at hj hk
    have HP := Lib.hid hpre
    clear hpre
    by_cases hlt : j < n
    · obtain ⟨k, rfl⟩ : ∃ k, gk = k + 1 := ⟨gk - 1, by omega⟩
      have hjz : (j : Int) < (n : Int) := by omega
      have hjl : j < l.length := by rw [HL.out]; exact hlt
      obtain ⟨b, o, rfl, hbl, hc⟩ := HR.out j (by rw [sv_len]; exact hjl)
      rw [sv_get _ _ hjl] at hc
      by_cases he : l.getD j ByteArray.empty = s
      · have HF := Lib.hid (show ixZ l s = (j : Int) by unfold ixZ; rw [ixL_some hjl he HP.out])
        have he2 : eqS s (l.getD j ByteArray.empty) = true := by rw [he, eqS_refl]
        unfold eqS at he2
        generalize l.getD j ByteArray.empty = x at *
        clear he
        go_wp2
        go_ret
        exact ⟨by rw [HF.out]; rfl, rfl⟩
      · have HN := Lib.hid (show IX l s wr k (.int .i64 ((j : Int) + 1)) wr from
          ⟨j + 1, by rw [HL.out]; omega, by rw [HL.out]; omega, rfl, fun q hq => by
            by_cases e : q = j
            · subst e; exact he
            · exact HP.out q (by omega), rfl⟩)
        have he2 : eqS s (l.getD j ByteArray.empty) = false := eqS_no.2 (fun h => he h.symm)
        unfold eqS at he2
        generalize l.getD j ByteArray.empty = x at *
        clear he
        go_wp2
        go_roundg k
        case rel => exact HN.out
        case measure => omega
    · have hjz : ¬ (j : Int) < (n : Int) := by omega
      have HF := Lib.hid (show ixZ l s = -1 by unfold ixZ; rw [ixL_none (fun q hq => HP.out q (by rw [HL.out] at hq; omega))])
      go_wp2
      go_ret
      exact ⟨by rw [HF.out]; rfl, rfl⟩

/-- Where a new name stands: ahead of the first one that is above it. -/
def plL : List ByteArray → ByteArray → Nat
  | [], _ => 0
  | x :: l, s => if ltS s x then 0 else plL l s + 1
theorem plL_le (l : List ByteArray) (s : ByteArray) : plL l s ≤ l.length := by
  induction l with
  | nil => exact Nat.le_refl _
  | cons x l ih => unfold plL; split <;> simp <;> omega
theorem plL_at {l : List ByteArray} {s : ByteArray} {i : Nat} (hi : i < l.length) (he : ltS s (l.getD i ByteArray.empty) = true) (hb : ∀ j, j < i → ltS s (l.getD j ByteArray.empty) = false) : plL l s = i := by
  induction l generalizing i with
  | nil => simp at hi
  | cons x l ih =>
    unfold plL
    cases i with
    | zero => simp at he; rw [he, if_pos rfl]
    | succ i =>
      have h0 := hb 0 (by omega)
      simp at h0
      rw [h0, if_neg (by decide), ih (i := i) (by simpa using hi) (by simpa using he) (fun j hj => by have := hb (j + 1) (by omega); simpa using this)]
theorem plL_end {l : List ByteArray} {s : ByteArray} (hb : ∀ j, j < l.length → ltS s (l.getD j ByteArray.empty) = false) : plL l s = l.length := by
  induction l with
  | nil => rfl
  | cons x l ih =>
    have h0 := hb 0 (by simp)
    simp at h0
    unfold plL
    rw [h0, if_neg (by decide), ih (fun j hj => by have := hb (j + 1) (by simpa using hj); simpa using this)]
    rfl
def PL (l : List ByteArray) (s : ByteArray) (w : World) (k : Nat) (i : Value) (wr : World) : Prop :=
  ∃ j : Nat, j ≤ l.length ∧ l.length - j ≤ k ∧ i = .int .i64 (j : Int) ∧ (∀ q, q < j → ltS s (l.getD q ByteArray.empty) = false) ∧ wr = w

set_option maxHeartbeats 2000000 in
theorem placeFor_any (ad : Option Addr) (n cap : Nat) (l : List ByteArray) (s : ByteArray) (w : World) (hl : l.length = n) (hcap : n ≤ cap) (hm : n ≤ 1000000000000000) (hr : RdV w ad (sv l)) :
    Calls Tryd.prog 25 #[.slice ad n cap, .string s] w (IntSame (plL l s : Int) w) := by
  have HL := Lib.hid hl
  have HR := Lib.hid hr
  clear hl hr
  have HST := Lib.hid (show PL l s w n (.int .i64 0) w from ⟨0, Nat.zero_le _, by rw [HL.out]; omega, rfl, fun q h => by omega, rfl⟩)
  go_enter Tryd.func25, Tryd.ntmps25
  go_wp2
  go_loopg [9] n (fun k i wr => PL l s w k i wr)
  case atStart => exact HST.out
  case round =>
    obtain ⟨j, hj, hk, rfl, hpre, rfl⟩ := hrel
    rw [HL.out] at hj hk
    have HP := Lib.hid hpre
    clear hpre
    by_cases hlt : j < n
    · obtain ⟨k, rfl⟩ : ∃ k, gk = k + 1 := ⟨gk - 1, by omega⟩
      have hjz : (j : Int) < (n : Int) := by omega
      have hjl : j < l.length := by rw [HL.out]; exact hlt
      obtain ⟨b, o, rfl, hbl, hc⟩ := HR.out j (by rw [sv_len]; exact hjl)
      rw [sv_get _ _ hjl] at hc
      cases he : ltS s (l.getD j ByteArray.empty)
      · have HN := Lib.hid (show PL l s wr k (.int .i64 ((j : Int) + 1)) wr from
          ⟨j + 1, by rw [HL.out]; omega, by rw [HL.out]; omega, rfl, fun q hq => by
            by_cases e : q = j
            · subst e; exact he
            · exact HP.out q (by omega), rfl⟩)
        rcases ltS_no he with e1 | ⟨e1, e2⟩
        all_goals
          generalize l.getD j ByteArray.empty = x at *
          clear he
          go_wp2
          go_roundg k
          case rel => exact HN.out
          case measure => omega
      · have HF := Lib.hid (plL_at hjl he HP.out)
        obtain ⟨e1, e2⟩ := ltS_yes he
        clear he
        generalize l.getD j ByteArray.empty = x at *
        go_wp2
        go_ret
        exact ⟨by rw [HF.out]; rfl, rfl⟩
    · have hjz : ¬ (j : Int) < (n : Int) := by omega
      have HF := Lib.hid (plL_end (fun q hq => HP.out q (by rw [HL.out] at hq; omega)))
      rw [HL.out] at HF
      go_wp2
      go_ret
      exact ⟨by rw [HF.out]; rfl, rfl⟩

set_option maxHeartbeats 2000000 in
/-- An object's names and values. -/
theorem members_any (c : Cel) (w : World) (hk : c.kn ≤ 1000000000000000) (hv : c.vn ≤ 1000000000000000) (hkc : c.kn ≤ c.kc) (hvc : c.vn ≤ c.vc) :
    Calls Tryd.prog 23 #[c.val] w (fun e w' => e = .returned (.tuple (if c.k = 7 then #[.slice c.ka (min c.kn c.vn) c.kc, .slice c.va (min c.kn c.vn) c.vc] else #[.slice none 0 0, .slice none 0 0])) ∧ Below w.heap.size w w') := by
  obtain ⟨k, b, neg, ma, mn, mc, e, s, ka, kn, kc, va, vn, vc⟩ := c
  unfold Cel.val
  simp only at hk hv hkc hvc ⊢
  have HB := Lib.hid ((Below.refl w.heap.size w).alloc (Nat.le_refl _) (.cells #[.int .i64 k, .bool b, .bool neg, .slice ma mn mc, .int .i64 e, .string s, .slice ka kn kc, .slice va vn vc] 28))
  obtain ⟨m, hm⟩ : ∃ m, min kn vn = m := ⟨_, rfl⟩
  have hmz : min (kn : Int) (vn : Int) = (m : Int) := by omega
  have hm1 : (m : Int) ≤ (kc : Int) := by omega
  have hm2 : (m : Int) ≤ (vc : Int) := by omega
  have hm3 : (m : Int) ≤ (kn : Int) := by omega
  have hm4 : (m : Int) ≤ (vn : Int) := by omega
  have hm5 : (0 : Int) ≤ (m : Int) := by omega
  rw [hm]
  clear hm
  by_cases h : k = 7
  · subst h
    rw [if_pos rfl]
    go_enter Tryd.func23, Tryd.ntmps23
    go_wp2
    go_region
    go_wp2
    go_ret2
    exact ⟨rfl, HB.out.drew⟩
  · rw [if_neg h]
    have hb : (k != 7) = true := by rw [bne_iff_ne]; exact h
    clear h
    go_enter Tryd.func23, Tryd.ntmps23
    go_wp2
    go_ret2
    exact ⟨rfl, HB.out⟩
end Go.Proofs.YtipibipaocpojaaDoor
