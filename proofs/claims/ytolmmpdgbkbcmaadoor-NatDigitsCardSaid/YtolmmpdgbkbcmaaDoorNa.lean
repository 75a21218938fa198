/- The walks of nat's small functions: cut, sign. -/
import Derived.Test.YtolmmpdgbkbcmaaDoorWorld
namespace Go.Proofs.YtolmmpdgbkbcmaaDoor
open Go.RowKit
set_option linter.unusedVariables false

set_option maxHeartbeats 400000 in
theorem cut_any (ad : Option Addr) (n cap : Nat) (xs : List Nat) (w : World) (hn : xs.length = n) (hcap : n ≤ cap) (hm : n ≤ 1000000000000) (hr : Rd w ad xs) :
    Calls Tryd.prog 36 #[.slice ad n cap] w fun e w' => e = .returned (.slice ad (cutLen xs n) cap) ∧ w = w' := by
  go_enter Tryd.func36, Tryd.ntmps36
  go_wp2
  go_loop [3] (fun i => ∃ k : Nat, k ≤ n ∧ i = .int .i64 k ∧ cutLen xs k = cutLen xs n) (fun i => (intOf i).toNat)
  case atStart => exact ⟨n, Nat.le_refl _, rfl, rfl⟩
  case round =>
    obtain ⟨k, hk, rfl, he⟩ := hrel
    have HE := Lib.hid he; clear he
    rcases k with _ | k
    · have h0 : cutLen xs n = 0 := by rw [← HE.out]; rfl
      have H0 := Lib.hid h0; clear h0
      go_wp2
      go_ret
      rw [H0.out]; exact ⟨rfl, rfl⟩
    · obtain ⟨b, o, hadd, _, hc⟩ := hr k (by omega)
      subst hadd
      generalize hx : xs.getD k 0 = x at *
      have HX := Lib.hid hx; clear hx
      by_cases hz : x = 0
      · go_wp2
        go_round
        case rel => exact ⟨k, by omega, rfl, by rw [← HE.out]; simp only [cutLen]; rw [if_pos (by rw [HX.out]; exact hz)]⟩
        case measure => simp [intOf]
      · have h0 : cutLen xs n = k + 1 := by rw [← HE.out]; simp only [cutLen]; rw [if_neg (by rw [HX.out]; exact hz)]
        have H0 := Lib.hid h0; clear h0
        go_wp2
        go_ret
        rw [H0.out]; exact ⟨rfl, rfl⟩

/-- What sign answers. -/
def sgn (b : Bool) : Int := if b then -1 else 1

theorem sign_any (b : Bool) (w : World) :
    Calls Tryd.prog 45 #[.bool b] w fun e w' => e = .returned (.int .i64 (sgn b)) ∧ w = w' := by
  cases b
  all_goals
    go_enter Tryd.func45, Tryd.ntmps45
    go_wp2
    go_ret
    exact ⟨rfl, rfl⟩
end Go.Proofs.YtolmmpdgbkbcmaaDoor
