/- For the law NumAll: what each function answers of any numbers, in the words of the numbers that they stand for. -/
import Derived.Test.YtogapgjilbcbfaaGreatDoorXf
import Derived.Test.YtogapgjilbcbfaaGreatDoorXg
import Derived.Test.YtogapgjilbcbfaaGreatDoorNk2
namespace Go.Proofs.YtogapgjilbcbfaaGreatDoor
open Go.RowKit Go.Sort
set_option linter.unusedVariables false
set_option linter.unusedSimpArgs false

/-- A number that lies somewhere, whether it may be or not. -/
structure NumAt (w : World) (ad : Option Addr) (n cap : Nat) (xs : List Nat) : Prop where
  len : xs.length = n
  cap : n ≤ cap
  big : n ≤ 100000000
  ok : Okl xs
  rd : Rd w ad xs
theorem NumAt.below {w w' : World} {ad : Option Addr} {n cap : Nat} {xs : List Nat} (h : NumAt w ad n cap xs) (hb : Below w.heap.size w w') : NumAt w' ad n cap xs := ⟨h.len, h.cap, h.big, h.ok, h.rd.below hb⟩
def nN (neg : Bool) (xs : List Nat) (e : Int) : Bool := chkB neg xs e && neg
def nX (neg : Bool) (xs : List Nat) (e : Int) : List Nat := if chkB neg xs e = true then xs else []
def nE (neg : Bool) (xs : List Nat) (e : Int) : Int := if chkB neg xs e = true then e else 0
/-- Any number as one that may be. -/
theorem num_or2 {w : World} {neg : Bool} {ad : Option Addr} {n cap : Nat} {xs : List Nat} {e : Int} (h : NumAt w ad n cap xs) :
    ∃ (ad2 : Option Addr) (n2 cap2 : Nat), NumOk w (nN neg xs e) ad2 n2 cap2 (nX neg xs e) (nE neg xs e) ∧
      (∀ W, Below w.heap.size w W → Calls Tryz.prog 27 #[.agg #[.bool neg, .slice ad n cap, .int .i64 e]] W (NumBelow (nN neg xs e) (.slice ad2 n2 cap2) (nE neg xs e) W)) ∧
      (∀ W, Below w.heap.size w W → Calls Tryz.prog 31 #[.agg #[.bool neg, .slice ad n cap, .int .i64 e]] W (NumBelow (nN neg xs e) (.slice ad2 n2 cap2) (nE neg xs e) W)) := by
  obtain ⟨hn, hcap, hm, ho, hr⟩ := h
  by_cases hc : chkB neg xs e = true
  · rw [show nN neg xs e = neg from by unfold nN; rw [hc]; rfl, show nX neg xs e = xs from by unfold nX; rw [if_pos hc], show nE neg xs e = e from by unfold nE; rw [if_pos hc]]
    exact ⟨ad, n, cap, ⟨hn, hcap, ho, hr, hc⟩, fun W hb => orZero_yes neg ad n cap xs e W hn hcap (by omega) ho (hr.below hb) hc, fun W hb => is_yes neg ad n cap xs e W hn hcap hm ho (hr.below hb) hc⟩
  · have hc' : chkB neg xs e = false := by simpa using hc
    rw [show nN neg xs e = false from by unfold nN; rw [hc']; rfl, show nX neg xs e = [] from by unfold nX; rw [if_neg hc], show nE neg xs e = 0 from by unfold nE; rw [if_neg hc]]
    exact ⟨none, 0, 0, ⟨rfl, Nat.le_refl _, Okl.nil, Rd.nil _ _, by decide⟩, fun W hb => orZero_no neg ad n cap xs e W hn hcap (by omega) ho (hr.below hb) hc', fun W hb => is_no neg ad n cap xs e W hn hcap hm ho (hr.below hb) hc'⟩
section
variable {w : World} {na nb : Bool} {ad ad' : Option Addr} {n cap n' cap' : Nat} {xs ys : List Nat} {e f : Int}
theorem int_at (h : NumAt w ad n cap xs) : Calls Tryz.prog 10 #[.agg #[.bool na, .slice ad n cap, .int .i64 e]] w (IntP (nN na xs e) (val (nX na xs e)) (nE na xs e) w) := by
  obtain ⟨_, _, _, hk, k1, _⟩ := num_or2 (neg := na) (e := e) h
  exact int_core _ _ _ _ _ _ _ _ _ w hk k1 ⟨_, _, _, rfl⟩
theorem rint_at (h : NumAt w ad n cap xs) : Calls Tryz.prog 11 #[.agg #[.bool na, .slice ad n cap, .int .i64 e]] w (IntP (nN na xs e) (val (nX na xs e)) (nE na xs e) w) := by
  obtain ⟨_, _, _, hk, _, k2⟩ := num_or2 (neg := na) (e := e) h
  exact rint_core _ _ _ _ _ _ _ _ _ w hk k2 ⟨_, _, _, rfl⟩
theorem text_at (h : NumAt w ad n cap xs) (ht : TB w) : Calls Tryz.prog 20 #[.agg #[.bool na, .slice ad n cap, .int .i64 e]] w (TxtBelow (numTxt (nN na xs e) (val (nX na xs e)) (nE na xs e)) w) := by
  obtain ⟨_, _, _, hk, k1, _⟩ := num_or2 (neg := na) (e := e) h
  exact numText_core _ _ _ _ _ _ _ w hk ht _ _ _ rfl k1
theorem rtext_at (h : NumAt w ad n cap xs) : Calls Tryz.prog 21 #[.agg #[.bool na, .slice ad n cap, .int .i64 e]] w (TxtBelow (numTxt (nN na xs e) (val (nX na xs e)) (nE na xs e)) w) := by
  obtain ⟨_, _, _, hk, _, k2⟩ := num_or2 (neg := na) (e := e) h
  exact rtext_core _ _ _ _ _ _ _ _ _ w hk k2 ⟨_, _, _, rfl⟩
theorem check_at (h : NumAt w ad n cap xs) : Calls Tryz.prog 14 #[.agg #[.bool na, .slice ad n cap, .int .i64 e]] w (BoolBelow (chkB na xs e) w) := check_any na ad n cap xs e w h.len h.cap (by have := h.big; omega) h.ok h.rd
theorem rcheck_at (h : NumAt w ad n cap xs) : Calls Tryz.prog 15 #[.agg #[.bool na, .slice ad n cap, .int .i64 e]] w (BoolBelow (chkB na xs e) w) := refCheck_any na ad n cap xs e w h.len h.cap h.big h.ok h.rd
theorem cmp_at (h : NumAt w ad n cap xs) (k : NumAt w ad' n' cap' ys) : Calls Tryz.prog 16 #[.agg #[.bool na, .slice ad n cap, .int .i64 e], .agg #[.bool nb, .slice ad' n' cap', .int .i64 f]] w (IntBelow (cmpZ (valZ (nN na xs e) (val (nX na xs e)) (nE na xs e)) (valZ (nN nb ys f) (val (nX nb ys f)) (nE nb ys f))) w) := by
  obtain ⟨_, _, _, hk, k1, _⟩ := num_or2 (neg := na) (e := e) h
  obtain ⟨_, _, _, hl, l1, _⟩ := num_or2 (neg := nb) (e := f) k
  exact numCmp_core _ _ _ _ rfl rfl _ _ _ _ _ _ _ _ _ _ _ _ w hk hl _ false _ _ _ _ _ rfl rfl k1 l1
theorem rcmp_at (h : NumAt w ad n cap xs) (k : NumAt w ad' n' cap' ys) : Calls Tryz.prog 17 #[.agg #[.bool na, .slice ad n cap, .int .i64 e], .agg #[.bool nb, .slice ad' n' cap', .int .i64 f]] w (IntBelow (cmpZ (valZ (nN na xs e) (val (nX na xs e)) (nE na xs e)) (valZ (nN nb ys f) (val (nX nb ys f)) (nE nb ys f))) w) := by
  obtain ⟨_, _, _, hk, _, k2⟩ := num_or2 (neg := na) (e := e) h
  obtain ⟨_, _, _, hl, _, l2⟩ := num_or2 (neg := nb) (e := f) k
  exact rcmp_core _ _ _ _ _ _ _ _ _ _ _ _ _ _ _ _ _ _ w hk hl _ _ _ rfl _ _ _ rfl k2 l2
theorem same_at (h : NumAt w ad n cap xs) (k : NumAt w ad' n' cap' ys) : Calls Tryz.prog 18 #[.agg #[.bool na, .slice ad n cap, .int .i64 e], .agg #[.bool nb, .slice ad' n' cap', .int .i64 f]] w (BoolBelow (decide ((nN na xs e = nN nb ys f ∧ nE na xs e = nE nb ys f) ∧ nX na xs e = nX nb ys f)) w) := by
  obtain ⟨_, _, _, hk, k1, _⟩ := num_or2 (neg := na) (e := e) h
  obtain ⟨_, _, _, hl, l1, _⟩ := num_or2 (neg := nb) (e := f) k
  exact numSame_core _ _ _ _ rfl rfl _ _ _ _ _ _ _ _ _ _ _ _ w hk hl _ _ _ _ _ _ rfl rfl k1 l1
theorem rsame_at (h : NumAt w ad n cap xs) (k : NumAt w ad' n' cap' ys) : Calls Tryz.prog 19 #[.agg #[.bool na, .slice ad n cap, .int .i64 e], .agg #[.bool nb, .slice ad' n' cap', .int .i64 f]] w (BoolBelow (decide ((nN na xs e = nN nb ys f ∧ nE na xs e = nE nb ys f) ∧ nX na xs e = nX nb ys f)) w) := by
  obtain ⟨_, _, _, hk, _, k2⟩ := num_or2 (neg := na) (e := e) h
  obtain ⟨_, _, _, hl, _, l2⟩ := num_or2 (neg := nb) (e := f) k
  exact rsame_core _ _ _ _ _ _ _ _ _ _ _ _ _ _ _ _ _ _ w hk hl _ _ _ rfl _ _ _ rfl k2 l2
end
/-- What a copy answers. -/
def CopyPost (ng : Bool) (E : Int) (n : Nat) (xs : List Nat) (w : World) (r : Ending) (w' : World) : Prop :=
  ∃ a c, r = .returned (.agg #[.bool ng, .slice a n c, .int .i64 E]) ∧ n ≤ c ∧ Own w.heap.size w' (.slice a n c) xs ∧ Below w.heap.size w w'
end Go.Proofs.YtogapgjilbcbfaaGreatDoor
