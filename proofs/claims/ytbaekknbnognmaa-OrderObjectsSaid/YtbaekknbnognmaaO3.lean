/- The walks of package order: Less, lessCBOR, the function that compares two places. -/
import Derived.Test.YtbaekknbnognmaaO2
import Derived.Test.YtbaekknbnognmaaV1
namespace Go.Proofs.Ytbaekknbnognmaa
open Go.RowKit
set_option linter.unusedVariables false
set_option linter.unusedSimpArgs false

theorem less_any (a b : ByteArray) (w : World) :
    Calls Try.prog 21 #[.string a, .string b] w fun e w' => e = .returned (.bool (Op.bytesLess a.toList b.toList)) ∧ w = w' := by
  generalize hl : Op.bytesLess a.toList b.toList = r
  go_enter Try.func21, Try.ntmps21
  go_wp2
  go_ret
  exact ⟨rfl, rfl⟩
theorem toList_len (a : ByteArray) : a.toList.length = a.size := by
  rw [ByteArray.toList_eq]; simp
theorem lessCBOR_any (a b : ByteArray) (w : World) (ha : a.size ≤ 1000000000) (hb : b.size ≤ 1000000000) :
    Calls Try.prog 33 #[.string a, .string b] w fun e w' => e = .returned (.bool (shortL a.toList b.toList)) ∧ w = w' := by
  have hs : shortL a.toList b.toList = (decide (a.size < b.size) || (decide (a.size = b.size) && Op.bytesLess a.toList b.toList)) := by
    unfold shortL; rw [toList_len, toList_len]
  rw [hs]
  clear hs
  have K := Lib.hid (less_any a b)
  generalize Op.bytesLess a.toList b.toList = r at *
  by_cases he : a.size = b.size
  · have h1 : ((a.size : Int) != (b.size : Int)) = false := by simp [he]
    have h2 : (decide (a.size < b.size) || (decide (a.size = b.size) && r)) = r := by simp [he]
    rw [h2]
    clear h2 he
    go_enter Try.func33, Try.ntmps33
    go_wp2_with fail
    refine (K.out _).mono ?_
    rintro x w' ⟨rfl, rfl⟩
    go_wp2
    go_ret
    exact ⟨rfl, rfl⟩
  · have h1 : ((a.size : Int) != (b.size : Int)) = true := by simp; omega
    have h2 : (decide (a.size < b.size) || (decide (a.size = b.size) && r)) = decide (a.size < b.size) := by simp [he]
    rw [h2]
    clear h2 he
    go_enter Try.func33, Try.ntmps33
    go_wp2
    go_ret
    exact ⟨by simp, rfl⟩

/-- The function that compares two places, made over a list of texts and an order of them. -/
theorem cmp_less (i j n cap : Nat) (ad : Option Addr) (l : List ByteArray) (pa pl : Nat) (w : World) (hi : i < l.length) (hj : j < l.length) (hn : l.length = n) (hcap : n ≤ cap) (hm : n ≤ 1000000000) (hr : RdV w ad (sv l))
    (ha : w.cell? ⟨pa, 0, none⟩ = some (.func (.func 21) #[] #[])) (hl : w.cell? ⟨pl, 0, none⟩ = some (.slice ad n cap)) :
    Calls Try.prog 39 #[.int .i64 (i : Int), .int .i64 (j : Int), .pointer (some ⟨pa, 0, none⟩), .pointer (some ⟨pl, 0, none⟩)] w fun e w' => e = .returned (.bool (Op.bytesLess (l.getD i ByteArray.empty).toList (l.getD j ByteArray.empty).toList)) ∧ ∃ q, w' = w.drewN q := by
  obtain ⟨b, o, rfl, _, ci⟩ := hr i (by rw [sv_len]; exact hi)
  have cj := hr.at j (by rw [sv_len]; exact hj)
  rw [sv_get l i hi] at ci
  rw [sv_get l j hj] at cj
  have K := Lib.hid (less_any (l.getD i ByteArray.empty) (l.getD j ByteArray.empty))
  clear hr
  have HN := Lib.hid hn; clear hn
  generalize l.getD i ByteArray.empty = x at *
  generalize l.getD j ByteArray.empty = y at *
  have hi1 : (0 : Int) ≤ (i : Int) := by omega
  have hi2 : (i : Int) < (n : Int) := by have := HN.out; omega
  have hj1 : (0 : Int) ≤ (j : Int) := by omega
  have hj2 : (j : Int) < (n : Int) := by have := HN.out; omega
  go_enter Try.func39, Try.ntmps39
  go_wp2
  go_quiet ((go_at_call 21; exact Calls.quiet_of_same ((K.out _).mono fun _ _ h => ⟨h.1, h.2.symm⟩)))
  go_wp2
  go_ret
  exact ⟨rfl, _, rfl⟩
/-- Likewise, by CBOR's order. -/
theorem cmp_short (i j n cap : Nat) (ad : Option Addr) (l : List ByteArray) (pa pl : Nat) (w : World) (hi : i < l.length) (hj : j < l.length) (hn : l.length = n) (hcap : n ≤ cap) (hm : n ≤ 1000000000) (hz : ∀ s ∈ l, s.size ≤ 1000000000) (hr : RdV w ad (sv l))
    (ha : w.cell? ⟨pa, 0, none⟩ = some (.func (.func 33) #[] #[])) (hl : w.cell? ⟨pl, 0, none⟩ = some (.slice ad n cap)) :
    Calls Try.prog 39 #[.int .i64 (i : Int), .int .i64 (j : Int), .pointer (some ⟨pa, 0, none⟩), .pointer (some ⟨pl, 0, none⟩)] w fun e w' => e = .returned (.bool (shortL (l.getD i ByteArray.empty).toList (l.getD j ByteArray.empty).toList)) ∧ ∃ q, w' = w.drewN q := by
  obtain ⟨b, o, rfl, _, ci⟩ := hr i (by rw [sv_len]; exact hi)
  have cj := hr.at j (by rw [sv_len]; exact hj)
  rw [sv_get l i hi] at ci
  rw [sv_get l j hj] at cj
  have K := Lib.hid (fun W => lessCBOR_any (l.getD i ByteArray.empty) (l.getD j ByteArray.empty) W (hz _ (by simp [List.getD, hi])) (hz _ (by simp [List.getD, hj])))
  clear hz
  clear hr
  have HN := Lib.hid hn; clear hn
  generalize l.getD i ByteArray.empty = x at *
  generalize l.getD j ByteArray.empty = y at *
  have hi1 : (0 : Int) ≤ (i : Int) := by omega
  have hi2 : (i : Int) < (n : Int) := by have := HN.out; omega
  have hj1 : (0 : Int) ≤ (j : Int) := by omega
  have hj2 : (j : Int) < (n : Int) := by have := HN.out; omega
  go_enter Try.func39, Try.ntmps39
  go_wp2
  go_quiet ((go_at_call 33; exact Calls.quiet_of_same ((K.out _).mono fun _ _ h => ⟨h.1, h.2.symm⟩)))
  go_wp2
  go_ret
  exact ⟨rfl, _, rfl⟩
/-- What the comparing function answers in each later world. -/
def CmpOk (lt : List UInt8 → List UInt8 → Bool) (key : Nat → List UInt8) (n pa pl B0 : Nat) (w0 : World) : Prop :=
  ∀ W, Below B0 w0 W → ∀ i j : Nat, i < n → j < n → Calls Try.prog 39 #[.int .i64 (i : Int), .int .i64 (j : Int), .pointer (some ⟨pa, 0, none⟩), .pointer (some ⟨pl, 0, none⟩)] W fun e w' => e = .returned (.bool (lt (key i) (key j))) ∧ ∃ q, w' = W.drewN q
/-- The comparing function as a value. -/
def cmpF (pa pl : Nat) : Value := .func (.func 39) #[] #[.pointer (some ⟨pa, 0, none⟩), .pointer (some ⟨pl, 0, none⟩)]
end Go.Proofs.Ytbaekknbnognmaa
