/- The walks of layer 7's laws: awake. -/
import Derived.Test.YtnoclbeamcmhhaaDoorJd
import Derived.Test.YtnoclbeamcmhhaaDoorU7
import Derived.Test.YtnoclbeamcmhhaaDoorPlz
namespace Go.Proofs.YtnoclbeamcmhhaaDoor
open Go.RowKit Go.Shelf Go.Lib
set_option linter.unusedVariables false
set_option linter.unusedSimpArgs false

theorem unquote_some (s : ByteArray) (k : Int) (w : World) (hs : s.size ≤ 1000000) (hk : -9223372036854775808 ≤ k ∧ k ≤ 9223372036854775807) (hT : UT w) {t : ByteArray} {m : Nat} (h : unqAt s k = some (t.data.toList, m)) :
    Calls Tryd.prog 24 #[.string s, .int .i64 k] w fun e w' => e = .returned (.tuple #[.string t, .int .i64 ((m : Nat) : Int), .int .i64 0]) ∧ Below w.heap.size w w' := by
  have := unquote_any s k w hs hk hT
  rw [h] at this
  exact this
theorem unquote_none (s : ByteArray) (k : Int) (w : World) (hs : s.size ≤ 1000000) (hk : -9223372036854775808 ≤ k ∧ k ≤ 9223372036854775807) (hT : UT w) (h : unqAt s k = none) :
    Calls Tryd.prog 24 #[.string s, .int .i64 k] w fun e w' => e = .returned (.tuple #[.string ⟨#[]⟩, .int .i64 0, .int .i64 2]) ∧ Below w.heap.size w w' := by
  have := unquote_any s k w hs hk hT
  rw [h] at this
  exact this
theorem awake7_u : unqAt ⟨#[34, 92, 117, 48, 48, 101, 57, 34, 120]⟩ 0 = some ([195, 169], 8) := by decide +kernel
theorem awake7_q : quoteL (⟨#[97, 10, 98]⟩ : ByteArray).data.toList = [34, 97, 92, 110, 98, 34] := by decide +kernel

set_option maxHeartbeats 1000000 in
set_option maxRecDepth 10000 in
theorem awake7_any (w : World) (hT : UT w) : Calls Tryd.prog 23 #[] w (BoolBelow true w) := by
  have KU := Lib.hid (unquote_any ⟨#[34, 92, 117, 48, 48, 101, 57, 34, 120]⟩ 0 w (by decide) (by decide) hT)
  rw [awake7_u] at KU
  unfold UqPost at KU
  have KQ := Lib.hid (fun W (h : Below w.heap.size w W) => quote_any ⟨#[97, 10, 98]⟩ W (by decide) (hT.below h))
  unfold QuotePost at KQ
  rw [awake7_q] at KQ
  clear hT
  go_enter Tryd.func23, Tryd.ntmps23
  go_wp2_with fail
  refine KU.out.mono ?_
  rintro r w1 ⟨rfl, hb1⟩
  have B1 := Lib.hid hb1; clear hb1
  go_wp2_with fail
  refine (KQ.out _ B1.out).mono ?_
  rintro r w2 ⟨rfl, hb2⟩
  have B2 := Lib.hid (below_on B1.out hb2); clear hb2
  go_wp2
  go_ret
  exact BoolBelow.mk rfl B2.out
end Go.Proofs.YtnoclbeamcmhhaaDoor
