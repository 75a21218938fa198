/- Chapter 7's own four, escape. -/
import Derived.Test.YtnoclbeamcmhhaaDoorJi
namespace Go.Proofs.YtnoclbeamcmhhaaDoor
open Go.RowKit Go.Shelf Go.Lib
set_option linter.unusedVariables false
set_option linter.unusedSimpArgs false

/-- Four digits of sixteen; below 0: none. -/
def fv (r : Option Nat) : Int := match r with | some r => ((r : Nat) : Int) | none => -1
/-- What holds from round to round of four. -/
def FR (s : ByteArray) (n : Nat) (k : Nat) (v i : Value) (w wr : World) : Prop :=
  ∃ j x : Nat, j ≤ 4 ∧ 4 - j ≤ k ∧ i = .int .i64 ((n + j : Nat) : Int) ∧ v = .int .i32 (x : Int) ∧ x < 16 ^ j ∧ hexF (4 - j) x (tailL s (n + j)) = fourL (tailL s n) ∧ wr = w
set_option maxHeartbeats 1000000 in
theorem four_any (s : ByteArray) (n : Nat) (w : World) (hs : s.size ≤ 1000000) (hn : n ≤ 2000000) :
    Calls Tryd.prog 71 #[.string s, .int .i64 (n : Int)] w fun e w' => e = .returned (.int .i32 (fv (fourL (tailL s n)))) ∧ w' = w := by
  have HST := Lib.hid (show FR s n 4 (.int .i32 0) (.int .i64 (n : Int)) w w from ⟨0, 0, by omega, by omega, rfl, rfl, by decide, rfl, rfl⟩)
  go_enter Tryd.func71, Tryd.ntmps71
  go_wp2
  go_loopg [5, 6] 4 (fun k v i wr => FR s n k v i w wr)
  case atStart => exact HST.out
  case round =>
    obtain ⟨j, x, hj, hk, rfl, rfl, hx, he, rfl⟩ := hrel
    have HE := Lib.hid he; have HX := Lib.hid hx
    clear he
    by_cases h4 : j < 4
    · obtain ⟨k, rfl⟩ : ∃ k, gk = k + 1 := ⟨gk - 1, by omega⟩
      have hxb : x < 4096 := by
        have : 16 ^ j ≤ 16 ^ 3 := Nat.pow_le_pow_right (by decide) (by omega)
        omega
      clear hx
      have hlt4 : ((n + j : Nat) : Int) < (n : Int) + 4 := by omega
      by_cases hl : n + j < s.size
      · have HT := Lib.hid (tail_cons hl)
        have hlz : ¬ (s.size : Int) ≤ ((n + j : Nat) : Int) := by omega
        have hlz2 : ((n + j : Nat) : Int) < (s.size : Int) := by omega
        generalize hM : n + j = m at *
        have HM := Lib.hid hM; clear hM
        generalize hc : s[m] = c at *
        have hcl := c.toNat_lt
        cases hd : hexN c.toNat with
        | none =>
          have HN := Lib.hid (show fourL (tailL s n) = none by
            rw [← HE.out, HT.out, show 4 - j = (3 - j) + 1 by omega]; simp only [hexF, hd])
          have hno : ¬ (48 ≤ c.toNat ∧ c.toNat ≤ 57) ∧ ¬ (97 ≤ c.toNat ∧ c.toNat ≤ 102) ∧ ¬ (65 ≤ c.toNat ∧ c.toNat ≤ 70) := by
            unfold hexN at hd
            refine ⟨?_, ?_, ?_⟩
            · intro h; rw [if_pos h] at hd; cases hd
            · intro h; rw [if_neg (by omega), if_pos h] at hd; cases hd
            · intro h; rw [if_neg (by omega), if_neg (by omega), if_pos h] at hd; cases hd
          have hq : (c.toNat < 48) ∨ (58 ≤ c.toNat ∧ c.toNat < 65) ∨ (71 ≤ c.toNat ∧ c.toNat < 97) ∨ 103 ≤ c.toNat := by omega
          clear hd hno
          rcases hq with h | h | h | h
          · have b1 : decide ((48 : Int) ≤ (c.toNat : Int)) = false := decide_eq_false (by omega)
            have b2 : decide ((97 : Int) ≤ (c.toNat : Int)) = false := decide_eq_false (by omega)
            have b3 : decide ((65 : Int) ≤ (c.toNat : Int)) = false := decide_eq_false (by omega)
            clear h
            go_wp2
            go_ret
            exact ⟨by rw [HN.out]; rfl, rfl⟩
          · have b1 : decide ((48 : Int) ≤ (c.toNat : Int)) = true := decide_eq_true (by omega)
            have b1' : decide ((c.toNat : Int) ≤ 57) = false := decide_eq_false (by omega)
            have b2 : decide ((97 : Int) ≤ (c.toNat : Int)) = false := decide_eq_false (by omega)
            have b3 : decide ((65 : Int) ≤ (c.toNat : Int)) = false := decide_eq_false (by omega)
            clear h
            go_wp2
            go_ret
            exact ⟨by rw [HN.out]; rfl, rfl⟩
          · have b1 : decide ((48 : Int) ≤ (c.toNat : Int)) = true := decide_eq_true (by omega)
            have b1' : decide ((c.toNat : Int) ≤ 57) = false := decide_eq_false (by omega)
            have b2 : decide ((97 : Int) ≤ (c.toNat : Int)) = false := decide_eq_false (by omega)
            have b3 : decide ((65 : Int) ≤ (c.toNat : Int)) = true := decide_eq_true (by omega)
            have b3' : decide ((c.toNat : Int) ≤ 70) = false := decide_eq_false (by omega)
            clear h
            go_wp2
            go_ret
            exact ⟨by rw [HN.out]; rfl, rfl⟩
          · have b1 : decide ((48 : Int) ≤ (c.toNat : Int)) = true := decide_eq_true (by omega)
            have b1' : decide ((c.toNat : Int) ≤ 57) = false := decide_eq_false (by omega)
            have b2 : decide ((97 : Int) ≤ (c.toNat : Int)) = true := decide_eq_true (by omega)
            have b2' : decide ((c.toNat : Int) ≤ 102) = false := decide_eq_false (by omega)
            have b3 : decide ((65 : Int) ≤ (c.toNat : Int)) = true := decide_eq_true (by omega)
            have b3' : decide ((c.toNat : Int) ≤ 70) = false := decide_eq_false (by omega)
            clear h
            go_wp2
            go_ret
            exact ⟨by rw [HN.out]; rfl, rfl⟩
        | some d =>
          have hdl := hexN_lt hd
          have HN := Lib.hid (show hexF (4 - (j + 1)) (x * 16 + d) (tailL s (n + (j + 1))) = fourL (tailL s n) by
            rw [← HE.out, HT.out, show 4 - j = (4 - (j + 1)) + 1 by omega, show n + (j + 1) = m + 1 by have := HM.out; omega]; simp only [hexF, hd])
          have HP := Lib.hid (show x * 16 + d < 16 ^ (j + 1) by have := HX.out; rw [Nat.pow_succ]; omega)
          have HV := Lib.hid (fun (y : Int) (h : y = ((x * 16 + d : Nat) : Int)) => (by exact ⟨j + 1, x * 16 + d, by omega, by omega, by have := HM.out; refine congrArg (Value.int IntKind.i64) ?_; omega, by rw [h], HP.out, HN.out, rfl⟩ : FR s n k (.int .i32 y) (.int .i64 ((m : Int) + 1)) wr wr))
          unfold hexN at hd
          split at hd
          · rename_i h1
            simp only [Option.some.injEq] at hd
            have b1 : decide ((48 : Int) ≤ (c.toNat : Int)) = true := decide_eq_true (by omega)
            have b1' : decide ((c.toNat : Int) ≤ 57) = true := decide_eq_true (by omega)
            have l1 : (48 : Int) ≤ (c.toNat : Int) := by omega
            have l2 : (c.toNat : Int) ≤ 57 := by omega
            have HF := Lib.hid (HV.out (16 * (x : Int) + ((c.toNat : Int) - 48)) (by omega))
            clear hd h1 HV
            go_wp2
            go_roundg k
            case rel => exact HF.out
            case measure => omega
          · rename_i h1
            split at hd
            · rename_i h2
              simp only [Option.some.injEq] at hd
              have b1 : decide ((48 : Int) ≤ (c.toNat : Int)) = true := decide_eq_true (by omega)
              have b1' : decide ((c.toNat : Int) ≤ 57) = false := decide_eq_false (by omega)
              have b2 : decide ((97 : Int) ≤ (c.toNat : Int)) = true := decide_eq_true (by omega)
              have b2' : decide ((c.toNat : Int) ≤ 102) = true := decide_eq_true (by omega)
              have l1 : (97 : Int) ≤ (c.toNat : Int) := by omega
              have l2 : (c.toNat : Int) ≤ 102 := by omega
              have HF := Lib.hid (HV.out (16 * (x : Int) + ((c.toNat : Int) - 97) + 10) (by omega))
              clear hd h1 h2 HV
              go_wp2
              go_roundg k
              case rel => exact HF.out
              case measure => omega
            · rename_i h2
              split at hd
              · rename_i h3
                simp only [Option.some.injEq] at hd
                have b1 : decide ((48 : Int) ≤ (c.toNat : Int)) = true := decide_eq_true (by omega)
                have b1' : decide ((c.toNat : Int) ≤ 57) = false := decide_eq_false (by omega)
                have b2 : decide ((97 : Int) ≤ (c.toNat : Int)) = false := decide_eq_false (by omega)
                have b3 : decide ((65 : Int) ≤ (c.toNat : Int)) = true := decide_eq_true (by omega)
                have b3' : decide ((c.toNat : Int) ≤ 70) = true := decide_eq_true (by omega)
                have l1 : (65 : Int) ≤ (c.toNat : Int) := by omega
                have l2 : (c.toNat : Int) ≤ 70 := by omega
                have HF := Lib.hid (HV.out (16 * (x : Int) + ((c.toNat : Int) - 65) + 10) (by omega))
                clear hd h1 h2 h3 HV
                go_wp2
                go_roundg k
                case rel => exact HF.out
                case measure => omega
              · cases hd
      · have HN := Lib.hid (show fourL (tailL s n) = none by
          rw [← HE.out, tailL_end (by omega), show 4 - j = (3 - j) + 1 by omega]; rfl)
        have hlz : (s.size : Int) ≤ ((n + j : Nat) : Int) := by omega
        generalize n + j = m at *
        go_wp2
        go_ret
        exact ⟨by rw [HN.out]; rfl, rfl⟩
    · obtain rfl : j = 4 := by omega
      have HN := Lib.hid (show fourL (tailL s n) = some x by rw [← HE.out]; rfl)
      have hlt4 : ¬ ((n + 4 : Nat) : Int) < (n : Int) + 4 := by omega
      clear hx
      go_wp2
      go_ret
      exact ⟨by rw [HN.out]; rfl, rfl⟩
end Go.Proofs.YtnoclbeamcmhhaaDoor
