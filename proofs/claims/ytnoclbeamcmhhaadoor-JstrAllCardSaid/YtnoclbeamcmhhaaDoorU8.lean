/- The walks of chapter 4's own answers: cont, Rune. -/
import Derived.Test.YtnoclbeamcmhhaaDoorU6
import Derived.Laws.BitsLemmas
import Derived.Laws.Strings3
import Derived.Lib.IndexBytes
import Derived.Deep.DeepFit
import Derived.Deep.QuietTactic
import Derived.BigQuiet
import Derived.IntWalk
namespace Go.Proofs.YtnoclbeamcmhhaaDoor
open Go.RowKit Go.Shelf Go.Lib
set_option linter.unusedVariables false
set_option linter.unusedSimpArgs false

theorem bt_get8 (s : ByteArray) (k : Nat) (h : k < s.size) : bt s.data.toList k = (s[k]'h).toNat := by
  unfold bt; rw [← get!_list]; rw [Utf8W.get!_of_lt s k h]
set_option maxRecDepth 100000 in
theorem and192a : ∀ x : Fin 256, bits .and .u8 ((x.val : Nat) : Int) 192 = ((x.val / 64 * 64 : Nat) : Int) := by decide
/-- Whether a byte that goes on stands at a place. -/
def contB (s : ByteArray) (k : Nat) : Bool := decide (k < s.size ∧ bt s.data.toList k / 64 = 2)

set_option maxHeartbeats 400000 in
theorem cont_any (s : ByteArray) (k : Nat) (w : World) (hs : s.size ≤ maxLen) (hk : k ≤ maxLen) :
    Calls Tryd.prog 72 #[.string s, .int .i64 k] w fun e w' => e = .returned (.bool (contB s k)) ∧ w = w' := by
  unfold maxLen at hs hk
  by_cases h0 : k < s.size
  · have h0z : (k : Int) < (s.size : Int) := by omega
    have hx := and192a ⟨(s[k]'h0).toNat, (s[k]'h0).toNat_lt⟩
    simp only at hx
    have hc : contB s k = decide ((s[k]'h0).toNat / 64 = 2) := by
      unfold contB; rw [← bt_get8 s k h0]; simp [h0]
    have HC := Lib.hid hc
    clear hc
    generalize hX : (s[k]'h0) = x at *
    by_cases h2 : x.toNat / 64 = 2
    · rw [h2] at hx
      have hC := Lib.hid (show contB s k = true by rw [HC.out]; exact decide_eq_true h2)
      clear HC h2
      go_enter Tryd.func72, Tryd.ntmps72
      go_wp2
      go_ret
      exact ⟨by rw [hC.out]; rfl, rfl⟩
    · have hC := Lib.hid (show contB s k = false by rw [HC.out]; exact decide_eq_false h2)
      have hne : ((x.toNat / 64 * 64 : Nat) : Int) ≠ 128 := by omega
      generalize x.toNat / 64 * 64 = y at *
      have hneb : (((y : Nat) : Int) == 128) = false := by simpa using hne
      clear HC h2 hne
      go_enter Tryd.func72, Tryd.ntmps72
      go_wp2
      go_ret
      exact ⟨by rw [hC.out]; rfl, rfl⟩
  · have h0z : ¬ (k : Int) < (s.size : Int) := by omega
    have hC := Lib.hid (show contB s k = false from decide_eq_false (by omega))
    go_enter Tryd.func72, Tryd.ntmps72
    go_wp2
    go_ret
    exact ⟨by rw [hC.out]; rfl, rfl⟩

set_option maxRecDepth 100000 in
theorem and31 : ∀ x : Fin 256, bits .and .i32 ((x.val : Nat) : Int) 31 = ((x.val : Nat) : Int) % 32 := by decide
set_option maxRecDepth 100000 in
theorem and15 : ∀ x : Fin 256, bits .and .i32 ((x.val : Nat) : Int) 15 = ((x.val : Nat) : Int) % 16 := by decide
set_option maxRecDepth 100000 in
theorem and7i : ∀ x : Fin 256, bits .and .i32 ((x.val : Nat) : Int) 7 = ((x.val : Nat) : Int) % 8 := by decide
def RunePost (r m : Int) (w : World) (e : Ending) (w' : World) : Prop := e = .returned (.tuple #[.int .i32 r, .int .i64 m]) ∧ ∃ q, w' = w.drewN q


set_option maxHeartbeats 1000000 in
set_option maxRecDepth 100000 in
theorem refRune_one (s : ByteArray) (n : Nat) (w : World) (hs : s.size ≤ 1000000) (hn : n < s.size) (x0 : UInt8) (h0 : s[n]'hn = x0) (hx : 0 ≤ x0.toNat ∧ x0.toNat < 128) :
    Calls Tryd.prog 48 #[.string s, .int .i64 n] w (RunePost ((x0.toNat : Nat) : Int) 1 w) := by
  have a1 : ¬ ((s.size : Int) ≤ (n : Int)) := by omega
  have a6 : decide ((n : Int) < 0) = false := decide_eq_false (by omega)
  have l0 := x0.toNat_lt
  have e0 : decide ((x0.toNat : Int) < 128) = true := decide_eq_true (by omega)
  have e1 : decide ((194 : Int) ≤ (x0.toNat : Int)) = false := decide_eq_false (by omega)
  have e2 : decide ((x0.toNat : Int) < 224) = true := decide_eq_true (by omega)
  have e3 : decide ((224 : Int) ≤ (x0.toNat : Int)) = false := decide_eq_false (by omega)
  have e4 : decide ((x0.toNat : Int) < 240) = true := decide_eq_true (by omega)
  have e5 : decide ((240 : Int) ≤ (x0.toNat : Int)) = false := decide_eq_false (by omega)
  have e6 : decide ((x0.toNat : Int) < 245) = true := decide_eq_true (by omega)
  go_enter Tryd.func48, Tryd.ntmps48
  go_wp2
  go_ret2
  exact ⟨rfl, 0, rfl⟩

set_option maxHeartbeats 1000000 in
set_option maxRecDepth 100000 in
theorem refRune_c (s : ByteArray) (n : Nat) (w : World) (hs : s.size ≤ 1000000) (hn : n < s.size) (x0 : UInt8) (h0 : s[n]'hn = x0) (hx : 128 ≤ x0.toNat ∧ x0.toNat < 194) :
    Calls Tryd.prog 48 #[.string s, .int .i64 n] w (RunePost (-1) 1 w) := by
  have a1 : ¬ ((s.size : Int) ≤ (n : Int)) := by omega
  have a6 : decide ((n : Int) < 0) = false := decide_eq_false (by omega)
  have l0 := x0.toNat_lt
  have e0 : decide ((x0.toNat : Int) < 128) = false := decide_eq_false (by omega)
  have e1 : decide ((194 : Int) ≤ (x0.toNat : Int)) = false := decide_eq_false (by omega)
  have e2 : decide ((x0.toNat : Int) < 224) = true := decide_eq_true (by omega)
  have e3 : decide ((224 : Int) ≤ (x0.toNat : Int)) = false := decide_eq_false (by omega)
  have e4 : decide ((x0.toNat : Int) < 240) = true := decide_eq_true (by omega)
  have e5 : decide ((240 : Int) ≤ (x0.toNat : Int)) = false := decide_eq_false (by omega)
  have e6 : decide ((x0.toNat : Int) < 245) = true := decide_eq_true (by omega)
  go_enter Tryd.func48, Tryd.ntmps48
  go_wp2
  go_ret2
  exact ⟨rfl, 0, rfl⟩

set_option maxHeartbeats 1000000 in
set_option maxRecDepth 100000 in
theorem refRune_z (s : ByteArray) (n : Nat) (w : World) (hs : s.size ≤ 1000000) (hn : n < s.size) (x0 : UInt8) (h0 : s[n]'hn = x0) (hx : 245 ≤ x0.toNat ∧ x0.toNat < 256) :
    Calls Tryd.prog 48 #[.string s, .int .i64 n] w (RunePost (-1) 1 w) := by
  have a1 : ¬ ((s.size : Int) ≤ (n : Int)) := by omega
  have a6 : decide ((n : Int) < 0) = false := decide_eq_false (by omega)
  have l0 := x0.toNat_lt
  have e0 : decide ((x0.toNat : Int) < 128) = false := decide_eq_false (by omega)
  have e1 : decide ((194 : Int) ≤ (x0.toNat : Int)) = true := decide_eq_true (by omega)
  have e2 : decide ((x0.toNat : Int) < 224) = false := decide_eq_false (by omega)
  have e3 : decide ((224 : Int) ≤ (x0.toNat : Int)) = true := decide_eq_true (by omega)
  have e4 : decide ((x0.toNat : Int) < 240) = false := decide_eq_false (by omega)
  have e5 : decide ((240 : Int) ≤ (x0.toNat : Int)) = true := decide_eq_true (by omega)
  have e6 : decide ((x0.toNat : Int) < 245) = false := decide_eq_false (by omega)
  go_enter Tryd.func48, Tryd.ntmps48
  go_wp2
  go_ret2
  exact ⟨rfl, 0, rfl⟩

set_option maxHeartbeats 1000000 in
set_option maxRecDepth 100000 in
theorem refRune_d0 (s : ByteArray) (n : Nat) (w : World) (hs : s.size ≤ 1000000) (hn : n < s.size) (x0 : UInt8) (h0 : s[n]'hn = x0) (hx : 194 ≤ x0.toNat ∧ x0.toNat < 224) (c1 : contB s (n + 1) = false) :
    Calls Tryd.prog 48 #[.string s, .int .i64 n] w (RunePost (-1) 1 w) := by
  have a1 : ¬ ((s.size : Int) ≤ (n : Int)) := by omega
  have a6 : decide ((n : Int) < 0) = false := decide_eq_false (by omega)
  have l0 := x0.toNat_lt
  have K1 := Lib.hid (fun W => cont_any s (n + 1) W (by unfold maxLen; omega) (by unfold maxLen; omega))
  rw [c1] at K1
  clear c1
  have e0 : decide ((x0.toNat : Int) < 128) = false := decide_eq_false (by omega)
  have e1 : decide ((194 : Int) ≤ (x0.toNat : Int)) = true := decide_eq_true (by omega)
  have e2 : decide ((x0.toNat : Int) < 224) = true := decide_eq_true (by omega)
  have e3 : decide ((224 : Int) ≤ (x0.toNat : Int)) = false := decide_eq_false (by omega)
  have e4 : decide ((x0.toNat : Int) < 240) = true := decide_eq_true (by omega)
  have e5 : decide ((240 : Int) ≤ (x0.toNat : Int)) = false := decide_eq_false (by omega)
  have e6 : decide ((x0.toNat : Int) < 245) = true := decide_eq_true (by omega)
  go_enter Tryd.func48, Tryd.ntmps48
  go_wp2_with fail
  refine (K1.out _).mono ?_
  rintro r w' ⟨rfl, rfl⟩
  go_wp2
  go_ret2
  exact ⟨rfl, 0, rfl⟩

set_option maxHeartbeats 1000000 in
set_option maxRecDepth 100000 in
theorem refRune_e0 (s : ByteArray) (n : Nat) (w : World) (hs : s.size ≤ 1000000) (hn : n < s.size) (x0 : UInt8) (h0 : s[n]'hn = x0) (hx : 224 ≤ x0.toNat ∧ x0.toNat < 240) (c1 : contB s (n + 1) = false) :
    Calls Tryd.prog 48 #[.string s, .int .i64 n] w (RunePost (-1) 1 w) := by
  have a1 : ¬ ((s.size : Int) ≤ (n : Int)) := by omega
  have a6 : decide ((n : Int) < 0) = false := decide_eq_false (by omega)
  have l0 := x0.toNat_lt
  have K1 := Lib.hid (fun W => cont_any s (n + 1) W (by unfold maxLen; omega) (by unfold maxLen; omega))
  rw [c1] at K1
  clear c1
  have e0 : decide ((x0.toNat : Int) < 128) = false := decide_eq_false (by omega)
  have e1 : decide ((194 : Int) ≤ (x0.toNat : Int)) = true := decide_eq_true (by omega)
  have e2 : decide ((x0.toNat : Int) < 224) = false := decide_eq_false (by omega)
  have e3 : decide ((224 : Int) ≤ (x0.toNat : Int)) = true := decide_eq_true (by omega)
  have e4 : decide ((x0.toNat : Int) < 240) = true := decide_eq_true (by omega)
  have e5 : decide ((240 : Int) ≤ (x0.toNat : Int)) = false := decide_eq_false (by omega)
  have e6 : decide ((x0.toNat : Int) < 245) = true := decide_eq_true (by omega)
  go_enter Tryd.func48, Tryd.ntmps48
  go_wp2_with fail
  refine (K1.out _).mono ?_
  rintro r w' ⟨rfl, rfl⟩
  go_wp2
  go_ret2
  exact ⟨rfl, 0, rfl⟩

set_option maxHeartbeats 1000000 in
set_option maxRecDepth 100000 in
theorem refRune_e1 (s : ByteArray) (n : Nat) (w : World) (hs : s.size ≤ 1000000) (hn : n < s.size) (x0 : UInt8) (h0 : s[n]'hn = x0) (hx : 224 ≤ x0.toNat ∧ x0.toNat < 240) (c1 : contB s (n + 1) = true) (c2 : contB s (n + 2) = false) :
    Calls Tryd.prog 48 #[.string s, .int .i64 n] w (RunePost (-1) 1 w) := by
  have a1 : ¬ ((s.size : Int) ≤ (n : Int)) := by omega
  have a6 : decide ((n : Int) < 0) = false := decide_eq_false (by omega)
  have l0 := x0.toNat_lt
  have K1 := Lib.hid (fun W => cont_any s (n + 1) W (by unfold maxLen; omega) (by unfold maxLen; omega))
  rw [c1] at K1
  have K2 := Lib.hid (fun W => cont_any s (n + 2) W (by unfold maxLen; omega) (by unfold maxLen; omega))
  rw [c2] at K2
  clear c1 c2
  have e0 : decide ((x0.toNat : Int) < 128) = false := decide_eq_false (by omega)
  have e1 : decide ((194 : Int) ≤ (x0.toNat : Int)) = true := decide_eq_true (by omega)
  have e2 : decide ((x0.toNat : Int) < 224) = false := decide_eq_false (by omega)
  have e3 : decide ((224 : Int) ≤ (x0.toNat : Int)) = true := decide_eq_true (by omega)
  have e4 : decide ((x0.toNat : Int) < 240) = true := decide_eq_true (by omega)
  have e5 : decide ((240 : Int) ≤ (x0.toNat : Int)) = false := decide_eq_false (by omega)
  have e6 : decide ((x0.toNat : Int) < 245) = true := decide_eq_true (by omega)
  go_enter Tryd.func48, Tryd.ntmps48
  go_wp2_with fail
  refine (K1.out _).mono ?_
  rintro r w' ⟨rfl, rfl⟩
  go_wp2_with fail
  refine (K2.out _).mono ?_
  rintro r w' ⟨rfl, rfl⟩
  go_wp2
  go_ret2
  exact ⟨rfl, 0, rfl⟩

set_option maxHeartbeats 1000000 in
set_option maxRecDepth 100000 in
theorem refRune_f0 (s : ByteArray) (n : Nat) (w : World) (hs : s.size ≤ 1000000) (hn : n < s.size) (x0 : UInt8) (h0 : s[n]'hn = x0) (hx : 240 ≤ x0.toNat ∧ x0.toNat < 245) (c1 : contB s (n + 1) = false) :
    Calls Tryd.prog 48 #[.string s, .int .i64 n] w (RunePost (-1) 1 w) := by
  have a1 : ¬ ((s.size : Int) ≤ (n : Int)) := by omega
  have a6 : decide ((n : Int) < 0) = false := decide_eq_false (by omega)
  have l0 := x0.toNat_lt
  have K1 := Lib.hid (fun W => cont_any s (n + 1) W (by unfold maxLen; omega) (by unfold maxLen; omega))
  rw [c1] at K1
  clear c1
  have e0 : decide ((x0.toNat : Int) < 128) = false := decide_eq_false (by omega)
  have e1 : decide ((194 : Int) ≤ (x0.toNat : Int)) = true := decide_eq_true (by omega)
  have e2 : decide ((x0.toNat : Int) < 224) = false := decide_eq_false (by omega)
  have e3 : decide ((224 : Int) ≤ (x0.toNat : Int)) = true := decide_eq_true (by omega)
  have e4 : decide ((x0.toNat : Int) < 240) = false := decide_eq_false (by omega)
  have e5 : decide ((240 : Int) ≤ (x0.toNat : Int)) = true := decide_eq_true (by omega)
  have e6 : decide ((x0.toNat : Int) < 245) = true := decide_eq_true (by omega)
  go_enter Tryd.func48, Tryd.ntmps48
  go_wp2_with fail
  refine (K1.out _).mono ?_
  rintro r w' ⟨rfl, rfl⟩
  go_wp2
  go_ret2
  exact ⟨rfl, 0, rfl⟩

set_option maxHeartbeats 1000000 in
set_option maxRecDepth 100000 in
theorem refRune_f1 (s : ByteArray) (n : Nat) (w : World) (hs : s.size ≤ 1000000) (hn : n < s.size) (x0 : UInt8) (h0 : s[n]'hn = x0) (hx : 240 ≤ x0.toNat ∧ x0.toNat < 245) (c1 : contB s (n + 1) = true) (c2 : contB s (n + 2) = false) :
    Calls Tryd.prog 48 #[.string s, .int .i64 n] w (RunePost (-1) 1 w) := by
  have a1 : ¬ ((s.size : Int) ≤ (n : Int)) := by omega
  have a6 : decide ((n : Int) < 0) = false := decide_eq_false (by omega)
  have l0 := x0.toNat_lt
  have K1 := Lib.hid (fun W => cont_any s (n + 1) W (by unfold maxLen; omega) (by unfold maxLen; omega))
  rw [c1] at K1
  have K2 := Lib.hid (fun W => cont_any s (n + 2) W (by unfold maxLen; omega) (by unfold maxLen; omega))
  rw [c2] at K2
  clear c1 c2
  have e0 : decide ((x0.toNat : Int) < 128) = false := decide_eq_false (by omega)
  have e1 : decide ((194 : Int) ≤ (x0.toNat : Int)) = true := decide_eq_true (by omega)
  have e2 : decide ((x0.toNat : Int) < 224) = false := decide_eq_false (by omega)
  have e3 : decide ((224 : Int) ≤ (x0.toNat : Int)) = true := decide_eq_true (by omega)
  have e4 : decide ((x0.toNat : Int) < 240) = false := decide_eq_false (by omega)
  have e5 : decide ((240 : Int) ≤ (x0.toNat : Int)) = true := decide_eq_true (by omega)
  have e6 : decide ((x0.toNat : Int) < 245) = true := decide_eq_true (by omega)
  go_enter Tryd.func48, Tryd.ntmps48
  go_wp2_with fail
  refine (K1.out _).mono ?_
  rintro r w' ⟨rfl, rfl⟩
  go_wp2_with fail
  refine (K2.out _).mono ?_
  rintro r w' ⟨rfl, rfl⟩
  go_wp2
  go_ret2
  exact ⟨rfl, 0, rfl⟩

set_option maxHeartbeats 1000000 in
set_option maxRecDepth 100000 in
theorem refRune_f2 (s : ByteArray) (n : Nat) (w : World) (hs : s.size ≤ 1000000) (hn : n < s.size) (x0 : UInt8) (h0 : s[n]'hn = x0) (hx : 240 ≤ x0.toNat ∧ x0.toNat < 245) (c1 : contB s (n + 1) = true) (c2 : contB s (n + 2) = true) (c3 : contB s (n + 3) = false) :
    Calls Tryd.prog 48 #[.string s, .int .i64 n] w (RunePost (-1) 1 w) := by
  have a1 : ¬ ((s.size : Int) ≤ (n : Int)) := by omega
  have a6 : decide ((n : Int) < 0) = false := decide_eq_false (by omega)
  have l0 := x0.toNat_lt
  have K1 := Lib.hid (fun W => cont_any s (n + 1) W (by unfold maxLen; omega) (by unfold maxLen; omega))
  rw [c1] at K1
  have K2 := Lib.hid (fun W => cont_any s (n + 2) W (by unfold maxLen; omega) (by unfold maxLen; omega))
  rw [c2] at K2
  have K3 := Lib.hid (fun W => cont_any s (n + 3) W (by unfold maxLen; omega) (by unfold maxLen; omega))
  rw [c3] at K3
  clear c1 c2 c3
  have e0 : decide ((x0.toNat : Int) < 128) = false := decide_eq_false (by omega)
  have e1 : decide ((194 : Int) ≤ (x0.toNat : Int)) = true := decide_eq_true (by omega)
  have e2 : decide ((x0.toNat : Int) < 224) = false := decide_eq_false (by omega)
  have e3 : decide ((224 : Int) ≤ (x0.toNat : Int)) = true := decide_eq_true (by omega)
  have e4 : decide ((x0.toNat : Int) < 240) = false := decide_eq_false (by omega)
  have e5 : decide ((240 : Int) ≤ (x0.toNat : Int)) = true := decide_eq_true (by omega)
  have e6 : decide ((x0.toNat : Int) < 245) = true := decide_eq_true (by omega)
  go_enter Tryd.func48, Tryd.ntmps48
  go_wp2_with fail
  refine (K1.out _).mono ?_
  rintro r w' ⟨rfl, rfl⟩
  go_wp2_with fail
  refine (K2.out _).mono ?_
  rintro r w' ⟨rfl, rfl⟩
  go_wp2_with fail
  refine (K3.out _).mono ?_
  rintro r w' ⟨rfl, rfl⟩
  go_wp2
  go_ret2
  exact ⟨rfl, 0, rfl⟩

set_option maxHeartbeats 1000000 in
set_option maxRecDepth 100000 in
theorem refRune_d1 (s : ByteArray) (n : Nat) (w : World) (hs : s.size ≤ 1000000) (hn : n < s.size) (x0 x1 : UInt8) (h0 : s[n]'hn = x0) (hx : 194 ≤ x0.toNat ∧ x0.toNat < 224) (c1 : contB s (n + 1) = true) (hn1 : n + 1 < s.size) (h1 : s[n+1]'hn1 = x1) :
    Calls Tryd.prog 48 #[.string s, .int .i64 n] w (RunePost ((x0.toNat % 32 * 64 + x1.toNat % 64 : Nat) : Int) 2 w) := by
  have a1 : ¬ ((s.size : Int) ≤ (n : Int)) := by omega
  have a6 : decide ((n : Int) < 0) = false := decide_eq_false (by omega)
  have l0 := x0.toNat_lt
  have K1 := Lib.hid (fun W => cont_any s (n + 1) W (by unfold maxLen; omega) (by unfold maxLen; omega))
  rw [c1] at K1
  clear c1
  have e0 : decide ((x0.toNat : Int) < 128) = false := decide_eq_false (by omega)
  have e1 : decide ((194 : Int) ≤ (x0.toNat : Int)) = true := decide_eq_true (by omega)
  have e2 : decide ((x0.toNat : Int) < 224) = true := decide_eq_true (by omega)
  have e3 : decide ((224 : Int) ≤ (x0.toNat : Int)) = false := decide_eq_false (by omega)
  have e4 : decide ((x0.toNat : Int) < 240) = true := decide_eq_true (by omega)
  have e5 : decide ((240 : Int) ≤ (x0.toNat : Int)) = false := decide_eq_false (by omega)
  have e6 : decide ((x0.toNat : Int) < 245) = true := decide_eq_true (by omega)
  have l1 := x1.toNat_lt
  have z1 : (n : Int) + 1 < (s.size : Int) := by omega
  have t1 : ((n : Int) + 1).toNat = n + 1 := by omega
  have m0 := and31 ⟨x0.toNat, l0⟩
  simp only at m0
  go_enter Tryd.func48, Tryd.ntmps48
  go_wp2_with fail
  refine (K1.out _).mono ?_
  rintro r w' ⟨rfl, rfl⟩
  go_wp2
  go_ret2
  exact ⟨rfl, 0, rfl⟩

theorem ret_two {a b c d : Int} (h1 : a = c) (h2 : b = d) : Ending.returned (.tuple #[.int .i32 a, .int .i64 b]) = .returned (.tuple #[.int .i32 c, .int .i64 d]) := by rw [h1, h2]
/-- Of three bytes, of four. -/
def r3 (c : Nat) : Int := if 2048 ≤ c ∧ (c < 55296 ∨ 57343 < c) then c else -1
def m3 (c : Nat) : Int := if 2048 ≤ c ∧ (c < 55296 ∨ 57343 < c) then 3 else 1
def r4 (c : Nat) : Int := if 65536 ≤ c ∧ c ≤ 1114111 then c else -1
def m4 (c : Nat) : Int := if 65536 ≤ c ∧ c ≤ 1114111 then 4 else 1
theorem r3_yes {c : Nat} {z : Int} (hz : z = c) (h : 2048 ≤ c ∧ (c < 55296 ∨ 57343 < c)) : z = r3 c := by unfold r3; rw [if_pos h, hz]
theorem r3_no {c : Nat} (h : ¬ (2048 ≤ c ∧ (c < 55296 ∨ 57343 < c))) : -1 = r3 c := by unfold r3; rw [if_neg h]
theorem m3_yes {c : Nat} (h : 2048 ≤ c ∧ (c < 55296 ∨ 57343 < c)) : 3 = m3 c := by unfold m3; rw [if_pos h]
theorem m3_no {c : Nat} (h : ¬ (2048 ≤ c ∧ (c < 55296 ∨ 57343 < c))) : 1 = m3 c := by unfold m3; rw [if_neg h]
theorem r4_yes {c : Nat} {z : Int} (hz : z = c) (h : 65536 ≤ c ∧ c ≤ 1114111) : z = r4 c := by unfold r4; rw [if_pos h, hz]
theorem r4_no {c : Nat} (h : ¬ (65536 ≤ c ∧ c ≤ 1114111)) : -1 = r4 c := by unfold r4; rw [if_neg h]
theorem m4_yes {c : Nat} (h : 65536 ≤ c ∧ c ≤ 1114111) : 4 = m4 c := by unfold m4; rw [if_pos h]
theorem m4_no {c : Nat} (h : ¬ (65536 ≤ c ∧ c ≤ 1114111)) : 1 = m4 c := by unfold m4; rw [if_neg h]

set_option maxHeartbeats 2000000 in
set_option maxRecDepth 100000 in
theorem refRune_e2 (s : ByteArray) (n : Nat) (w : World) (hs : s.size ≤ 1000000) (hn : n < s.size) (x0 x1 x2 : UInt8) (h0 : s[n]'hn = x0) (hx : 224 ≤ x0.toNat ∧ x0.toNat < 240) (c1 : contB s (n + 1) = true) (c2 : contB s (n + 2) = true) (hn1 : n + 1 < s.size) (h1 : s[n+1]'hn1 = x1) (hn2 : n + 2 < s.size) (h2 : s[n+2]'hn2 = x2) :
    Calls Tryd.prog 48 #[.string s, .int .i64 n] w (RunePost (r3 (x0.toNat % 16 * 4096 + x1.toNat % 64 * 64 + x2.toNat % 64)) (m3 (x0.toNat % 16 * 4096 + x1.toNat % 64 * 64 + x2.toNat % 64)) w) := by
  have a1 : ¬ ((s.size : Int) ≤ (n : Int)) := by omega
  have a6 : decide ((n : Int) < 0) = false := decide_eq_false (by omega)
  have l0 := x0.toNat_lt
  have l1 := x1.toNat_lt
  have z1 : (n : Int) + 1 < (s.size : Int) := by omega
  have t1 : ((n : Int) + 1).toNat = n + 1 := by omega
  have w1 : IntKind.i64.wrap ((n : Int) + 1) = (n : Int) + 1 := IntWalk.i64_in _ (by omega)
  have p1 : 0 ≤ (n : Int) + 1 := by omega
  have K1 := Lib.hid (fun W => cont_any s (n + 1) W (by unfold maxLen; omega) (by unfold maxLen; omega))
  rw [c1] at K1
  have l2 := x2.toNat_lt
  have z2 : (n : Int) + 2 < (s.size : Int) := by omega
  have t2 : ((n : Int) + 2).toNat = n + 2 := by omega
  have w2 : IntKind.i64.wrap ((n : Int) + 2) = (n : Int) + 2 := IntWalk.i64_in _ (by omega)
  have p2 : 0 ≤ (n : Int) + 2 := by omega
  have K2 := Lib.hid (fun W => cont_any s (n + 2) W (by unfold maxLen; omega) (by unfold maxLen; omega))
  rw [c2] at K2
  have e0 : decide ((x0.toNat : Int) < 128) = false := decide_eq_false (by omega)
  have e1 : decide ((194 : Int) ≤ (x0.toNat : Int)) = true := decide_eq_true (by omega)
  have e2 : decide ((x0.toNat : Int) < 224) = false := decide_eq_false (by omega)
  have e3 : decide ((224 : Int) ≤ (x0.toNat : Int)) = true := decide_eq_true (by omega)
  have e4 : decide ((x0.toNat : Int) < 240) = true := decide_eq_true (by omega)
  have e5 : decide ((240 : Int) ≤ (x0.toNat : Int)) = false := decide_eq_false (by omega)
  have e6 : decide ((x0.toNat : Int) < 245) = true := decide_eq_true (by omega)
  have m0 := and15 ⟨x0.toNat, l0⟩
  simp only at m0
  clear c1 c2
  go_enter Tryd.func48, Tryd.ntmps48
  go_wp2_with fail
  refine (K1.out _).mono ?_
  rintro r w' ⟨rfl, rfl⟩
  go_wp2_with fail
  refine (K2.out _).mono ?_
  rintro r w' ⟨rfl, rfl⟩
  go_wp2_with fail
  go_quiet (fail)
  go_wp2_with fail
  all_goals
    go_ret2
    first
      | exact ⟨ret_two (r3_yes (by omega) (by omega)) (m3_yes (by omega)), _, rfl⟩
      | exact ⟨ret_two (r3_no (by omega)) (m3_no (by omega)), _, rfl⟩

set_option maxHeartbeats 2000000 in
set_option maxRecDepth 100000 in
theorem refRune_f3 (s : ByteArray) (n : Nat) (w : World) (hs : s.size ≤ 1000000) (hn : n < s.size) (x0 x1 x2 x3 : UInt8) (h0 : s[n]'hn = x0) (hx : 240 ≤ x0.toNat ∧ x0.toNat < 245) (c1 : contB s (n + 1) = true) (c2 : contB s (n + 2) = true) (c3 : contB s (n + 3) = true) (hn1 : n + 1 < s.size) (h1 : s[n+1]'hn1 = x1) (hn2 : n + 2 < s.size) (h2 : s[n+2]'hn2 = x2) (hn3 : n + 3 < s.size) (h3 : s[n+3]'hn3 = x3) :
    Calls Tryd.prog 48 #[.string s, .int .i64 n] w (RunePost (r4 (x0.toNat % 8 * 262144 + x1.toNat % 64 * 4096 + x2.toNat % 64 * 64 + x3.toNat % 64)) (m4 (x0.toNat % 8 * 262144 + x1.toNat % 64 * 4096 + x2.toNat % 64 * 64 + x3.toNat % 64)) w) := by
  have a1 : ¬ ((s.size : Int) ≤ (n : Int)) := by omega
  have a6 : decide ((n : Int) < 0) = false := decide_eq_false (by omega)
  have l0 := x0.toNat_lt
  have l1 := x1.toNat_lt
  have z1 : (n : Int) + 1 < (s.size : Int) := by omega
  have t1 : ((n : Int) + 1).toNat = n + 1 := by omega
  have w1 : IntKind.i64.wrap ((n : Int) + 1) = (n : Int) + 1 := IntWalk.i64_in _ (by omega)
  have p1 : 0 ≤ (n : Int) + 1 := by omega
  have K1 := Lib.hid (fun W => cont_any s (n + 1) W (by unfold maxLen; omega) (by unfold maxLen; omega))
  rw [c1] at K1
  have l2 := x2.toNat_lt
  have z2 : (n : Int) + 2 < (s.size : Int) := by omega
  have t2 : ((n : Int) + 2).toNat = n + 2 := by omega
  have w2 : IntKind.i64.wrap ((n : Int) + 2) = (n : Int) + 2 := IntWalk.i64_in _ (by omega)
  have p2 : 0 ≤ (n : Int) + 2 := by omega
  have K2 := Lib.hid (fun W => cont_any s (n + 2) W (by unfold maxLen; omega) (by unfold maxLen; omega))
  rw [c2] at K2
  have l3 := x3.toNat_lt
  have z3 : (n : Int) + 3 < (s.size : Int) := by omega
  have t3 : ((n : Int) + 3).toNat = n + 3 := by omega
  have w3 : IntKind.i64.wrap ((n : Int) + 3) = (n : Int) + 3 := IntWalk.i64_in _ (by omega)
  have p3 : 0 ≤ (n : Int) + 3 := by omega
  have K3 := Lib.hid (fun W => cont_any s (n + 3) W (by unfold maxLen; omega) (by unfold maxLen; omega))
  rw [c3] at K3
  have e0 : decide ((x0.toNat : Int) < 128) = false := decide_eq_false (by omega)
  have e1 : decide ((194 : Int) ≤ (x0.toNat : Int)) = true := decide_eq_true (by omega)
  have e2 : decide ((x0.toNat : Int) < 224) = false := decide_eq_false (by omega)
  have e3 : decide ((224 : Int) ≤ (x0.toNat : Int)) = true := decide_eq_true (by omega)
  have e4 : decide ((x0.toNat : Int) < 240) = false := decide_eq_false (by omega)
  have e5 : decide ((240 : Int) ≤ (x0.toNat : Int)) = true := decide_eq_true (by omega)
  have e6 : decide ((x0.toNat : Int) < 245) = true := decide_eq_true (by omega)
  have m0 := and7i ⟨x0.toNat, l0⟩
  simp only at m0
  clear c1 c2 c3
  go_enter Tryd.func48, Tryd.ntmps48
  go_wp2_with fail
  refine (K1.out _).mono ?_
  rintro r w' ⟨rfl, rfl⟩
  go_wp2_with fail
  refine (K2.out _).mono ?_
  rintro r w' ⟨rfl, rfl⟩
  go_wp2_with fail
  refine (K3.out _).mono ?_
  rintro r w' ⟨rfl, rfl⟩
  go_wp2_with fail
  go_quiet (fail)
  go_wp2_with fail
  all_goals
    go_ret2
    first
      | exact ⟨ret_two (r4_yes (by omega) (by omega)) (m4_yes (by omega)), _, rfl⟩
      | exact ⟨ret_two (r4_no (by omega)) (m4_no (by omega)), _, rfl⟩
end Go.Proofs.YtnoclbeamcmhhaaDoor
