/- For the law NumAll: any number as one that may be, by the program's orZero and by the reference's Is; the reference's Make, of any exponent. -/
import Derived.Test.YtogapgjilbcbfaaGreatDoorC8
import Derived.Test.YtogapgjilbcbfaaGreatDoorRs
import Derived.Test.YtogapgjilbcbfaaGreatDoorRn
namespace Go.Proofs.YtogapgjilbcbfaaGreatDoor
open Go.RowKit Go.Sort
set_option linter.unusedVariables false
set_option linter.unusedSimpArgs false

set_option maxHeartbeats 2000000 in
theorem is_yes (neg : Bool) (ad : Option Addr) (n cap : Nat) (xs : List Nat) (e : Int) (w : World) (hn : xs.length = n) (hcap : n ≤ cap) (hm : n ≤ 100000000) (ho : Okl xs) (hr : Rd w ad xs) (h : chkB neg xs e = true) :
    Calls Tryz.prog 31 #[.agg #[.bool neg, .slice ad n cap, .int .i64 e]] w (NumBelow neg (.slice ad n cap) e w) := by
  have hbl : Below w.heap.size w ((w.alloc (.cells #[.bool neg, .slice ad n cap, .int .i64 e] 24)).alloc (.cells #[.bool false, .slice none 0 0, .int .i64 0] 24)) := ((Below.refl _ _).alloc (Nat.le_refl _) _).alloc (by simp) _
  have HB := Lib.hid hbl
  have K := Lib.hid (refCheck_any neg ad n cap xs e _ hn hcap hm ho (hr.below hbl))
  clear hbl
  have H := Lib.hid h; clear h
  have HN := Lib.hid hn; clear hn
  go_enter Tryz.func31, Tryz.ntmps31
  go_wp2_with fail
  refine K.out.mono ?_
  rintro r w' ⟨rfl, hb⟩
  rw [H.out]
  obtain ⟨hc, hf⟩ := bcell hb
  have hz : w.heap.size + 1 < w'.heap.size := by have := hb.size; simp at this; omega
  have HB2 := Lib.hid hb; clear hb
  go_wp2
  have HB3 := HB.out.trans (HB2.out.mono (by simp; omega))
  exact bodyPost_ret (v := .agg #[.bool neg, .slice ad n cap, .int .i64 e]) (by simp [results, Tryz.results31, go_sem, hc, hf, hz]) rfl ⟨rfl, ((HB3.setCell (by simp) _).setCell (by simp) _).setCell (by simp) _⟩
set_option maxHeartbeats 2000000 in
theorem is_no (neg : Bool) (ad : Option Addr) (n cap : Nat) (xs : List Nat) (e : Int) (w : World) (hn : xs.length = n) (hcap : n ≤ cap) (hm : n ≤ 100000000) (ho : Okl xs) (hr : Rd w ad xs) (h : chkB neg xs e = false) :
    Calls Tryz.prog 31 #[.agg #[.bool neg, .slice ad n cap, .int .i64 e]] w (NumBelow false (.slice none 0 0) 0 w) := by
  have hbl : Below w.heap.size w ((w.alloc (.cells #[.bool neg, .slice ad n cap, .int .i64 e] 24)).alloc (.cells #[.bool false, .slice none 0 0, .int .i64 0] 24)) := ((Below.refl _ _).alloc (Nat.le_refl _) _).alloc (by simp) _
  have HB := Lib.hid hbl
  have K := Lib.hid (refCheck_any neg ad n cap xs e _ hn hcap hm ho (hr.below hbl))
  clear hbl
  have H := Lib.hid h; clear h
  have HN := Lib.hid hn; clear hn
  go_enter Tryz.func31, Tryz.ntmps31
  go_wp2_with fail
  refine K.out.mono ?_
  rintro r w' ⟨rfl, hb⟩
  rw [H.out]
  obtain ⟨hc, hf⟩ := bcell hb
  have hz : w.heap.size + 1 < w'.heap.size := by have := hb.size; simp at this; omega
  have HB2 := Lib.hid hb; clear hb
  go_wp2
  have HB3 := HB.out.trans (HB2.out.mono (by simp; omega))
  exact bodyPost_ret (v := .agg #[.bool false, .slice none 0 0, .int .i64 0]) (by simp [results, Tryz.results31, go_sem, hc, hf, hz]) rfl ⟨rfl, ((HB3.setCell (by simp) _).setCell (by simp) _).setCell (by simp) _⟩
/-- Any number as one that may be. -/
theorem num_or {w : World} (neg : Bool) (ad : Option Addr) (n cap : Nat) (xs : List Nat) (e : Int) (hn : xs.length = n) (hcap : n ≤ cap) (hm : n ≤ 100000000) (ho : Okl xs) (hr : Rd w ad xs) :
    ∃ (ng2 : Bool) (ad2 : Option Addr) (n2 cap2 : Nat) (ys : List Nat) (e2 : Int), NumOk w ng2 ad2 n2 cap2 ys e2 ∧ n2 ≤ n ∧
      (∀ W, Below w.heap.size w W → Calls Tryz.prog 27 #[.agg #[.bool neg, .slice ad n cap, .int .i64 e]] W (NumBelow ng2 (.slice ad2 n2 cap2) e2 W)) ∧
      (∀ W, Below w.heap.size w W → Calls Tryz.prog 31 #[.agg #[.bool neg, .slice ad n cap, .int .i64 e]] W (NumBelow ng2 (.slice ad2 n2 cap2) e2 W)) := by
  by_cases hc : chkB neg xs e = true
  · exact ⟨neg, ad, n, cap, xs, e, ⟨hn, hcap, ho, hr, hc⟩, Nat.le_refl _, fun W hb => orZero_yes neg ad n cap xs e W hn hcap (by omega) ho (hr.below hb) hc, fun W hb => is_yes neg ad n cap xs e W hn hcap hm ho (hr.below hb) hc⟩
  · have hc' : chkB neg xs e = false := by simpa using hc
    exact ⟨false, none, 0, 0, [], 0, ⟨rfl, Nat.le_refl _, Okl.nil, Rd.nil _ _, by decide⟩, Nat.zero_le _, fun W hb => orZero_no neg ad n cap xs e W hn hcap (by omega) ho (hr.below hb) hc', fun W hb => is_no neg ad n cap xs e W hn hcap hm ho (hr.below hb) hc'⟩
end Go.Proofs.YtogapgjilbcbfaaGreatDoor
