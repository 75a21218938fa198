/- The walk of the law JstrAll. -/
import Derived.Test.YtnoclbeamcmhhaaDoorJl
namespace Go.Proofs.YtnoclbeamcmhhaaDoor
open Go.RowKit Go.Shelf Go.Lib
set_option linter.unusedVariables false
set_option linter.unusedSimpArgs false

theorem UqPost.open {r : Option (List UInt8 × Nat)} {w : World} : ∃ (t : ByteArray) (m : Nat) (e : Int), ∀ e' w', UqPost r w e' w' → e' = .returned (.tuple #[.string t, .int .i64 (m : Int), .int .i64 e]) ∧ Below w.heap.size w w' := by
  cases r with
  | none => exact ⟨⟨#[]⟩, 0, 2, fun _ _ h => h⟩
  | some p => exact ⟨⟨p.1.toArray⟩, p.2, 0, fun _ _ h => h⟩
/-- The three answers that Unquote gives, whatever the world. -/
def ansT (r : Option (List UInt8 × Nat)) : ByteArray := match r with | some p => ⟨p.1.toArray⟩ | none => ⟨#[]⟩
def ansN (r : Option (List UInt8 × Nat)) : Int := match r with | some p => ((p.2 : Nat) : Int) | none => 0
def ansE (r : Option (List UInt8 × Nat)) : Int := match r with | some _ => 0 | none => 2
theorem UqPost.ans {r : Option (List UInt8 × Nat)} {w w' : World} {e : Ending} (h : UqPost r w e w') : e = .returned (.tuple #[.string (ansT r), .int .i64 (ansN r), .int .i64 (ansE r)]) ∧ Below w.heap.size w w' := by
  cases r with
  | none => exact h
  | some p => exact h

set_option maxHeartbeats 4000000 in
set_option maxRecDepth 100000 in
theorem jstrAll_walk (s : ByteArray) (k : Int) (w : World) (hs : s.size ≤ maxLen) (hk : -9223372036854775808 ≤ k ∧ k ≤ 9223372036854775807) (hT : UT w) :
    Calls Tryd.prog 7 #[.string s, .int .i64 k] w (BoolBelow true w) := by
  unfold maxLen at hs
  have HA := Lib.hid (fun W (h : Below w.heap.size w W) => awake7_any W (hT.below h))
  by_cases h1 : s.size ≤ 1000
  · have c1 : ¬ (1000 : Int) < (s.size : Int) := by omega
    have KU := Lib.hid ((unquote_any s k w (by omega) hk hT).mono fun _ _ h => h.ans)
    have KR := Lib.hid (fun W => (refUnquote_any s k W (by omega) hk).mono fun _ _ h => h.ans)
    have KQ := Lib.hid (fun W (h : Below w.heap.size w W) => quote_any s W (by omega) (hT.below h))
    have KP := Lib.hid (fun W => refQuote_any s W (by omega))
    unfold QuotePost at KQ KP
    generalize (⟨(quoteL s.data.toList).toArray⟩ : ByteArray) = Q at *
    generalize ansT (unqAt s k) = t at *
    generalize ansN (unqAt s k) = n at *
    generalize ansE (unqAt s k) = e at *
    clear hT
    go_enter Tryd.func7, Tryd.ntmps7
    go_wp2_with fail
    refine KU.out.mono ?_
    rintro x w1 ⟨rfl, hb1⟩
    have B1 := Lib.hid hb1; clear hb1
    go_wp2_with fail
    refine (KR.out w1).mono ?_
    rintro x w2 ⟨rfl, hb2⟩
    have B2 := Lib.hid (below_on B1.out hb2); clear hb2
    go_wp2_with fail
    refine (KQ.out w2 B2.out).mono ?_
    rintro x w3 ⟨rfl, hb3⟩
    have B3 := Lib.hid (below_on B2.out hb3); clear hb3
    go_wp2_with fail
    refine (KP.out w3).mono ?_
    rintro x w4 ⟨rfl, hb4⟩
    have B4 := Lib.hid (below_on B3.out hb4); clear hb4
    go_wp2_with fail
    refine (HA.out _ B4.out).mono ?_
    rintro x w5 ⟨rfl, hb5⟩
    have B5 := Lib.hid (below_on B4.out hb5); clear hb5
    go_wp2
    go_ret
    exact BoolBelow.mk rfl B5.out
  · have c1 : (1000 : Int) < (s.size : Int) := by omega
    clear hT
    go_enter Tryd.func7, Tryd.ntmps7
    go_wp2_with fail
    refine (HA.out _ (Below.refl _ _)).mono ?_
    rintro x w3 ⟨rfl, hb3⟩
    have B3 := Lib.hid hb3; clear hb3
    go_wp2
    go_ret
    exact BoolBelow.mk rfl B3.out
end Go.Proofs.YtnoclbeamcmhhaaDoor
