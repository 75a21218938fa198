/- Chapter 4's own Rune: any text, any place. -/
import Derived.Test.YtnoclbeamcmhhaaDoorU8
namespace Go.Proofs.YtnoclbeamcmhhaaDoor
open Go.RowKit Go.Shelf Go.Lib
set_option linter.unusedVariables false
set_option linter.unusedSimpArgs false

/-- The code point by its bytes' numbers. -/
def runeN (m b0 b1 b2 b3 : Nat) : Int × Nat := if decodeN m b0 b1 b2 b3 = (65533, 1) then (-1, 1) else (((decodeN m b0 b1 b2 b3).1 : Int), (decodeN m b0 b1 b2 b3).2)
theorem runeL_N (l : List UInt8) : runeL l = runeN l.length (bt l 0) (bt l 1) (bt l 2) (bt l 3) := rfl
theorem rN_bad {m b0 b1 b2 b3 : Nat} (h : decodeN m b0 b1 b2 b3 = (65533, 1)) : runeN m b0 b1 b2 b3 = (-1, 1) := by unfold runeN; rw [if_pos h]
theorem rN_ok {m b0 b1 b2 b3 c k : Nat} (h : decodeN m b0 b1 b2 b3 = (c, k)) (hk : k ≠ 1 ∨ c < 128) : runeN m b0 b1 b2 b3 = ((c : Int), k) := by
  unfold runeN; rw [h, if_neg]
  intro e
  have e1 := congrArg Prod.fst e
  have e2 := congrArg Prod.snd e
  simp at e1 e2; omega
theorem rN_one {m b0 b1 b2 b3 : Nat} (h : b0 < 128) : runeN m b0 b1 b2 b3 = ((b0 : Int), 1) := by
  refine rN_ok ?_ (.inr h); unfold decodeN; rw [if_pos h]
theorem rN_none {m b0 b1 b2 b3 : Nat} (h : (128 ≤ b0 ∧ b0 < 194) ∨ 245 ≤ b0) (hb : b0 < 256) : runeN m b0 b1 b2 b3 = (-1, 1) := by
  refine rN_bad ?_
  unfold decodeN
  repeat' split
  all_goals first | rfl | (exfalso; omega)
theorem rN_d0 {m b0 b1 b2 b3 : Nat} (h : 194 ≤ b0 ∧ b0 < 224) (c1 : ¬ (1 < m ∧ b1 / 64 = 2)) : runeN m b0 b1 b2 b3 = (-1, 1) := by
  refine rN_bad ?_
  unfold decodeN
  rw [if_neg (by omega), if_neg (by rintro ⟨_, h⟩; exact c1 h), if_neg (by omega), if_neg (by omega)]
theorem rN_d1 {m b0 b1 b2 b3 : Nat} (h : 194 ≤ b0 ∧ b0 < 224) (c1 : 1 < m ∧ b1 / 64 = 2) : runeN m b0 b1 b2 b3 = (((b0 % 32 * 64 + b1 % 64 : Nat) : Int), 2) := by
  refine rN_ok ?_ (.inl (by omega))
  unfold decodeN
  rw [if_neg (by omega), if_pos ⟨by omega, c1⟩, if_pos (by omega)]
theorem rN_e0 {m b0 b1 b2 b3 : Nat} (h : 224 ≤ b0 ∧ b0 < 240) (c : ¬ ((1 < m ∧ b1 / 64 = 2) ∧ (2 < m ∧ b2 / 64 = 2))) : runeN m b0 b1 b2 b3 = (-1, 1) := by
  refine rN_bad ?_
  unfold decodeN
  rw [if_neg (by omega), if_neg (by omega), if_neg (by rintro ⟨_, h⟩; exact c h), if_neg (by omega)]
theorem rN_e2 {m b0 b1 b2 b3 : Nat} (h : 224 ≤ b0 ∧ b0 < 240) (c1 : 1 < m ∧ b1 / 64 = 2) (c2 : 2 < m ∧ b2 / 64 = 2) :
    (runeN m b0 b1 b2 b3).1 = r3 (b0 % 16 * 4096 + b1 % 64 * 64 + b2 % 64) ∧ ((runeN m b0 b1 b2 b3).2 : Int) = m3 (b0 % 16 * 4096 + b1 % 64 * 64 + b2 % 64) := by
  by_cases hc : 2048 ≤ b0 % 16 * 4096 + b1 % 64 * 64 + b2 % 64 ∧ (b0 % 16 * 4096 + b1 % 64 * 64 + b2 % 64 < 55296 ∨ 57343 < b0 % 16 * 4096 + b1 % 64 * 64 + b2 % 64)
  · have e : decodeN m b0 b1 b2 b3 = (b0 % 16 * 4096 + b1 % 64 * 64 + b2 % 64, 3) := by
      unfold decodeN
      rw [if_neg (by omega), if_neg (by omega), if_pos ⟨by omega, c1, c2⟩, if_pos (by omega)]
    rw [rN_ok e (.inl (by omega))]
    exact ⟨r3_yes rfl hc, m3_yes hc⟩
  · have e : decodeN m b0 b1 b2 b3 = (65533, 1) := by
      unfold decodeN
      rw [if_neg (by omega), if_neg (by omega), if_pos ⟨by omega, c1, c2⟩, if_neg (by omega)]
    rw [rN_bad e]
    exact ⟨r3_no hc, m3_no hc⟩
theorem rN_f0 {m b0 b1 b2 b3 : Nat} (h : 240 ≤ b0 ∧ b0 < 245) (c : ¬ ((1 < m ∧ b1 / 64 = 2) ∧ (2 < m ∧ b2 / 64 = 2) ∧ (3 < m ∧ b3 / 64 = 2))) : runeN m b0 b1 b2 b3 = (-1, 1) := by
  refine rN_bad ?_
  unfold decodeN
  rw [if_neg (by omega), if_neg (by omega), if_neg (by omega), if_neg (by rintro ⟨_, h⟩; exact c h)]
theorem rN_f3 {m b0 b1 b2 b3 : Nat} (h : 240 ≤ b0 ∧ b0 < 245) (c1 : 1 < m ∧ b1 / 64 = 2) (c2 : 2 < m ∧ b2 / 64 = 2) (c3 : 3 < m ∧ b3 / 64 = 2) :
    (runeN m b0 b1 b2 b3).1 = r4 (b0 % 8 * 262144 + b1 % 64 * 4096 + b2 % 64 * 64 + b3 % 64) ∧ ((runeN m b0 b1 b2 b3).2 : Int) = m4 (b0 % 8 * 262144 + b1 % 64 * 4096 + b2 % 64 * 64 + b3 % 64) := by
  by_cases hc : 65536 ≤ b0 % 8 * 262144 + b1 % 64 * 4096 + b2 % 64 * 64 + b3 % 64 ∧ b0 % 8 * 262144 + b1 % 64 * 4096 + b2 % 64 * 64 + b3 % 64 ≤ 1114111
  · have e : decodeN m b0 b1 b2 b3 = (b0 % 8 * 262144 + b1 % 64 * 4096 + b2 % 64 * 64 + b3 % 64, 4) := by
      unfold decodeN
      rw [if_neg (by omega), if_neg (by omega), if_neg (by omega), if_pos ⟨by omega, c1, c2, c3⟩, if_pos (by omega)]
    rw [rN_ok e (.inl (by omega))]
    exact ⟨r4_yes rfl hc, m4_yes hc⟩
  · have e : decodeN m b0 b1 b2 b3 = (65533, 1) := by
      unfold decodeN
      rw [if_neg (by omega), if_neg (by omega), if_neg (by omega), if_pos ⟨by omega, c1, c2, c3⟩, if_neg (by omega)]
    rw [rN_bad e]
    exact ⟨r4_no hc, m4_no hc⟩

theorem RunePost.below {r m : Int} {w : World} {e : Ending} {w' : World} (h : RunePost r m w e w') : e = .returned (.tuple #[.int .i32 r, .int .i64 m]) ∧ Below w.heap.size w w' := by
  obtain ⟨he, q, rfl⟩ := h
  exact ⟨he, (Below.refl _ _).trans ⟨rfl, rfl, rfl, Nat.le_refl _, fun _ _ => rfl⟩⟩
/-- A place beyond the text. -/
theorem refRune_out (s : ByteArray) (k : Int) (w : World) (hs : s.size ≤ 1000000) (hk : -9223372036854775808 ≤ k ∧ k ≤ 9223372036854775807) (h : k < 0 ∨ (s.size : Int) ≤ k) :
    Calls Tryd.prog 48 #[.string s, .int .i64 k] w (RunePost (-1) 0 w) := by
  by_cases h0 : k < 0
  · have h1 : decide (k < 0) = true := decide_eq_true h0
    go_enter Tryd.func48, Tryd.ntmps48
    go_wp2
    go_ret2
    exact ⟨rfl, 0, rfl⟩
  · have h1 : decide (k < 0) = false := decide_eq_false h0
    have h2 : (s.size : Int) ≤ k := by omega
    go_enter Tryd.func48, Tryd.ntmps48
    go_wp2
    go_ret2
    exact ⟨rfl, 0, rfl⟩
theorem cont_yes {s : ByteArray} {k : Nat} (h : k < s.size ∧ bt s.data.toList k / 64 = 2) : contB s k = true := decide_eq_true h
theorem cont_no {s : ByteArray} {k : Nat} (h : ¬ (k < s.size ∧ bt s.data.toList k / 64 = 2)) : contB s k = false := decide_eq_false h

theorem refRune_in (s : ByteArray) (n : Nat) (w : World) (hs : s.size ≤ 1000000) (hn : n < s.size) :
    Calls Tryd.prog 48 #[.string s, .int .i64 n] w (RunePost (runeL (tailL s n)).1 ((runeL (tailL s n)).2 : Int) w) := by
  have e0 : bt (tailL s n) 0 = (s[n]'hn).toNat := by unfold tailL; rw [bt_drop, Nat.add_zero]; exact bt_get8 s n hn
  have ek : ∀ k, bt (tailL s n) k = bt s.data.toList (n + k) := fun k => by unfold tailL; rw [bt_drop]
  have hl := tailL_length s n
  rw [runeL_N, e0, ek 1, ek 2, ek 3, hl]
  have hx := (s[n]'hn).toNat_lt
  have hc : ∀ k, (k < s.size - n ∧ bt s.data.toList (n + k) / 64 = 2) ↔ (n + k < s.size ∧ bt s.data.toList (n + k) / 64 = 2) := fun k => by constructor <;> rintro ⟨h1, h2⟩ <;> exact ⟨by omega, h2⟩
  have b0 := (s[n]'hn).toNat
  by_cases r0 : (s[n]'hn).toNat < 128
  · rw [rN_one r0]
    exact refRune_one s n w hs hn _ rfl ⟨by omega, r0⟩
  · by_cases r1 : (s[n]'hn).toNat < 194
    · rw [rN_none (.inl ⟨by omega, r1⟩) hx]
      exact refRune_c s n w hs hn _ rfl ⟨by omega, r1⟩
    · by_cases r2 : (s[n]'hn).toNat < 224
      · by_cases c1 : n + 1 < s.size ∧ bt s.data.toList (n + 1) / 64 = 2
        · rw [rN_d1 ⟨by omega, r2⟩ ((hc 1).2 c1), bt_get8 s (n + 1) c1.1]
          exact refRune_d1 s n w hs hn _ _ rfl ⟨by omega, r2⟩ (cont_yes c1) c1.1 rfl
        · rw [rN_d0 ⟨by omega, r2⟩ (fun h => c1 ((hc 1).1 h))]
          exact refRune_d0 s n w hs hn _ rfl ⟨by omega, r2⟩ (cont_no c1)
      · by_cases r3 : (s[n]'hn).toNat < 240
        · by_cases c1 : n + 1 < s.size ∧ bt s.data.toList (n + 1) / 64 = 2
          · by_cases c2 : n + 2 < s.size ∧ bt s.data.toList (n + 2) / 64 = 2
            · obtain ⟨p1, p2⟩ := rN_e2 (b3 := bt s.data.toList (n + 3)) (show 224 ≤ (s[n]'hn).toNat ∧ (s[n]'hn).toNat < 240 from ⟨by omega, r3⟩) ((hc 1).2 c1) ((hc 2).2 c2)
              rw [p1, p2, bt_get8 s (n + 1) c1.1, bt_get8 s (n + 2) c2.1]
              exact refRune_e2 s n w hs hn _ _ _ rfl ⟨by omega, r3⟩ (cont_yes c1) (cont_yes c2) c1.1 rfl c2.1 rfl
            · rw [rN_e0 ⟨by omega, r3⟩ (fun h => c2 ((hc 2).1 h.2))]
              exact refRune_e1 s n w hs hn _ rfl ⟨by omega, r3⟩ (cont_yes c1) (cont_no c2)
          · rw [rN_e0 ⟨by omega, r3⟩ (fun h => c1 ((hc 1).1 h.1))]
            exact refRune_e0 s n w hs hn _ rfl ⟨by omega, r3⟩ (cont_no c1)
        · by_cases r4 : (s[n]'hn).toNat < 245
          · by_cases c1 : n + 1 < s.size ∧ bt s.data.toList (n + 1) / 64 = 2
            · by_cases c2 : n + 2 < s.size ∧ bt s.data.toList (n + 2) / 64 = 2
              · by_cases c3 : n + 3 < s.size ∧ bt s.data.toList (n + 3) / 64 = 2
                · obtain ⟨p1, p2⟩ := rN_f3 (show 240 ≤ (s[n]'hn).toNat ∧ (s[n]'hn).toNat < 245 from ⟨by omega, r4⟩) ((hc 1).2 c1) ((hc 2).2 c2) ((hc 3).2 c3)
                  rw [p1, p2, bt_get8 s (n + 1) c1.1, bt_get8 s (n + 2) c2.1, bt_get8 s (n + 3) c3.1]
                  exact refRune_f3 s n w hs hn _ _ _ _ rfl ⟨by omega, r4⟩ (cont_yes c1) (cont_yes c2) (cont_yes c3) c1.1 rfl c2.1 rfl c3.1 rfl
                · rw [rN_f0 ⟨by omega, r4⟩ (fun h => c3 ((hc 3).1 h.2.2))]
                  exact refRune_f2 s n w hs hn _ rfl ⟨by omega, r4⟩ (cont_yes c1) (cont_yes c2) (cont_no c3)
              · rw [rN_f0 ⟨by omega, r4⟩ (fun h => c2 ((hc 2).1 h.2.1))]
                exact refRune_f1 s n w hs hn _ rfl ⟨by omega, r4⟩ (cont_yes c1) (cont_no c2)
            · rw [rN_f0 ⟨by omega, r4⟩ (fun h => c1 ((hc 1).1 h.1))]
              exact refRune_f0 s n w hs hn _ rfl ⟨by omega, r4⟩ (cont_no c1)
          · rw [rN_none (.inr (by omega)) hx]
            exact refRune_z s n w hs hn _ rfl ⟨by omega, by omega⟩
theorem refRune_any (s : ByteArray) (k : Int) (w : World) (hs : s.size ≤ 1000000) (hk : -9223372036854775808 ≤ k ∧ k ≤ 9223372036854775807) :
    Calls Tryd.prog 48 #[.string s, .int .i64 k] w (RunePost (runeAt s k).1 (runeAt s k).2 w) := by
  by_cases h : k < 0 ∨ (s.size : Int) ≤ k
  · have e : runeAt s k = (-1, 0) := by unfold runeAt; rw [if_pos h]
    rw [e]; exact refRune_out s k w hs hk h
  · obtain ⟨n, rfl⟩ : ∃ n : Nat, k = n := ⟨k.toNat, by omega⟩
    have hn : n < s.size := by omega
    rw [runeAt_tail hn]
    exact refRune_in s n w hs hn
end Go.Proofs.YtnoclbeamcmhhaaDoor
