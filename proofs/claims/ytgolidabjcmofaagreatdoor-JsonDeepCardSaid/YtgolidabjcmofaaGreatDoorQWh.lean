/- Texts of the claim. -/
import Derived.Test.YtgolidabjcmofaaGreatDoorQWg
namespace Go.Proofs.YtgolidabjcmofaaGreatDoor
open Go.RowKit Go.Shelf Go.Lib Go.Sort
set_option linter.unusedVariables false
set_option linter.unusedSimpArgs false
theorem value_all (w0 : World) (g : Nat) (hg0 : w0.heap.size ≤ g) (hU0 : UT w0) : ∀ f d, d + f = 67 → 0 < d → d ≤ 64 → ValC w0 g d (valueL f d) := by
  intro f
  induction f with
  | zero => intro d h1 _ h2; omega
  | succ f ih =>
    intro d h1 h0 h2 W l n hl hn hr hb
    have hbo : ∀ W', Oth g W W' → Below w0.heap.size w0 W' := fun W' ho => hb.trans (ho.below hg0 hb.size)
    have hV : d + 1 ≤ 64 → ValC w0 g (d + 1) (valueL f (d + 1)) := fun hd => ih (d + 1) (by omega) (by omega) hd
    unfold valueL
    refine value_anyj g d n _ _ l W hl hr (fun W' s hst => hU0.below (hbo W' hst.oth)) (fun W' s hr2 hst _ hs => number_anyj g d n s W' (by omega) hr2) ?_ ?_
    · intro W' s hr2 hst hx hs
      exact array_anyj w0 g d hg0 (by omega) _ (valueL_eats f (d + 1)) hV s n W' (by omega) hn hx hr2 (hbo W' hst.oth)
    · intro W' s hr2 hst hx hs
      exact object_anyj w0 g d hg0 (by omega) hU0 _ (valueL_eats f (d + 1)) hV s n W' (by omega) hn hx hr2 (hbo W' hst.oth)
theorem decode_anyj (l : List UInt8) (w : World) (hl : l.length ≤ 1000000) (hU : UT w) : Calls Tryz.prog 11 #[.string ⟨l.toArray⟩] w (DecPost (decodeL l) w) := by
  unfold decodeL
  split
  · rename_i h; exact decode_long l w hl h
  · rename_i h
    exact decode_short l w (by omega) (valueL 66 1 l 1) (fun W hr hb => value_all w (w.heap.size + 1 + 1) (by omega) hU 66 1 rfl (by omega) (by omega) W l 1 hl (by omega) hr hb)
end Go.Proofs.YtgolidabjcmofaaGreatDoor
