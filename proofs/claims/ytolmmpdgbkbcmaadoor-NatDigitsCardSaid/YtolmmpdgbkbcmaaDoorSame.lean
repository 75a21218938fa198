/- SameLimbs at two lists that are the same. -/
import Derived.Test.YtolmmpdgbkbcmaaDoorOpsC
namespace Go.Proofs.YtolmmpdgbkbcmaaDoor
open Go.RowKit
set_option linter.unusedVariables false

def SameRel (n : Nat) (w : World) (i : Value) (wr : World) : Prop := ∃ (k q : Nat), k ≤ n ∧ i = .int .i64 (k : Int) ∧ wr = w.drewN q

set_option maxHeartbeats 2000000 in
theorem same_any (ad : Option Addr) (n cap : Nat) (xs : List Nat) (ad' : Option Addr) (cap' : Nat) (w : World) (hn : xs.length = n) (hcap : n ≤ cap) (hcap' : n ≤ cap') (hm : n ≤ 1000000000) (hr : Rd w ad xs) (hr' : Rd w ad' xs) :
    Calls Tryd.prog 11 #[.slice ad n cap, .slice ad' n cap'] w fun e w' => e = .returned (.bool true) ∧ ∃ q, w' = w.drewN q := by
  have HN := Lib.hid hn; clear hn
  go_enter Tryd.func11, Tryd.ntmps11
  go_wp2_with fail
  go_loopw [5] (fun i wr => SameRel n w i wr) (fun i _ => n - (intOf i).toNat)
  case atStart => exact ⟨0, 0, Nat.zero_le _, rfl, rfl⟩
  case round =>
    obtain ⟨k, q, hk, rfl, rfl⟩ := hrel
    by_cases hkn : k < n
    · obtain ⟨g1, o1, rfl, _, hc1⟩ := hr k (by rw [HN.out]; exact hkn)
      obtain ⟨g2, o2, rfl, _, hc2⟩ := hr' k (by rw [HN.out]; exact hkn)
      generalize xs.getD k 0 = x at *
      have hkn' : (k : Int) < (n : Int) := by omega
      go_wp2
      go_quiet (fail)
      go_wp2
      go_roundw
      case rel => exact ⟨k + 1, _, hkn, by go_num, rfl⟩
      case measure => simp [intOf]; omega
    · have hkn' : ¬ ((k : Int) < (n : Int)) := by omega
      go_wp2
      go_ret
      exact ⟨rfl, q, rfl⟩
end Go.Proofs.YtolmmpdgbkbcmaaDoor
