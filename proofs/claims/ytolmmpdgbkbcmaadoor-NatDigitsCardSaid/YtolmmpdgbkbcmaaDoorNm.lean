/- The walks of Div, zeros, tens, Pow. -/
import Derived.Test.YtolmmpdgbkbcmaaDoorNl
namespace Go.Proofs.YtolmmpdgbkbcmaaDoor
open Go.RowKit
set_option linter.unusedVariables false

theorem limbs_top {N t : Nat} (h : (limbs N).length = t + 1) : (limbs N).getD t 0 ≠ 0 := by
  have hc := limbs_cutLen N
  rw [h] at hc
  exact cut_top _ _ _ hc
theorem limbs_len_mono {a b : Nat} (h : b ≤ a) : (limbs b).length ≤ (limbs a).length := by
  rcases Nat.lt_or_ge (limbs a).length (limbs b).length with h1 | h1
  · have := limbs_len_lt h1; omega
  · exact h1

/-- What Div leaves over: nothing, if the divisor is 0. -/
def rmN (a b : Nat) : Nat := if b = 0 then 0 else a % b
def QuoPost (a b : Nat) (w : World) (e : Ending) (w' : World) : Prop :=
  ∃ v1 v2, e = .returned (.tuple #[v1, v2]) ∧ Own w.heap.size w' v1 (limbs (a / b)) ∧ Own w.heap.size w' v2 (limbs (rmN a b)) ∧ Below w.heap.size w w'

theorem cmpN_neg {a b : Nat} : (cmpN a b < 0) ↔ a < b := by unfold cmpN; split <;> (try split) <;> omega

set_option maxHeartbeats 2000000 in
theorem div_any (ad : Option Addr) (n cap : Nat) (xs : List Nat) (ad' : Option Addr) (n' cap' : Nat) (ys : List Nat) (w : World) (hn : xs.length = n) (hcap : n ≤ cap) (hm : n ≤ 10000000) (ho : Okl xs) (hr : Rd w ad xs)
    (hn' : ys.length = n') (hcap' : n' ≤ cap') (hm' : n' ≤ 10000000) (ho' : Okl ys) (hr' : Rd w ad' ys) :
    Calls Tryd.prog 13 #[.slice ad n cap, .slice ad' n' cap'] w (QuoPost (val xs) (val ys) w) := by
  have K1 := Lib.hid (cut_nat ad n cap xs w hn hcap (by omega) ho hr)
  have K2 := Lib.hid (cut_nat ad' n' cap' ys w hn' hcap' (by omega) ho' hr')
  have hrX := rd_limbs ho hr
  have hrY := rd_limbs ho' hr'
  have hlX := limbs_len_le ho
  have hlY := limbs_len_le ho'
  rw [hn] at hlX
  rw [hn'] at hlY
  generalize val xs = a at *
  generalize val ys = b at *
  have hoX := limbs_ok a
  have hoY := limbs_ok b
  have hvX := val_limbs a
  have hvY := val_limbs b
  have HNil := Lib.hid (limbs_nil_iff b)
  have HTop := Lib.hid (fun t => @limbs_top b t)
  have HMono := Lib.hid (@limbs_len_mono a b)
  generalize limbs a = X at *
  generalize limbs b = Y at *
  generalize hc : X.length = c at *
  generalize hc' : Y.length = c' at *
  clear hn hn' ho ho' hr hr'
  have C1 := Lib.hid hc; clear hc
  have C2 := Lib.hid hc'; clear hc'
  have V1 := Lib.hid hvX; clear hvX
  have V2 := Lib.hid hvY; clear hvY
  by_cases h0 : c' = 0
  · subst h0
    have hb0 : b = 0 := HNil.out.1 (List.eq_nil_of_length_eq_zero C2.out)
    have hq : a / b = 0 := by rw [hb0, Nat.div_zero]
    have hr : rmN a b = 0 := by unfold rmN; rw [if_pos hb0]
    have HQ := Lib.hid hq
    have HR := Lib.hid hr
    clear hq hr hb0
    go_enter Tryd.func13, Tryd.ntmps13
    go_wp2_with fail
    refine K1.out.mono ?_
    rintro e w' ⟨rfl, rfl⟩
    go_wp2_with fail
    refine K2.out.mono ?_
    rintro e w' ⟨rfl, rfl⟩
    go_wp2
    go_ret2
    exact ⟨_, _, rfl, by rw [HQ.out]; exact Own.nil _ _, by rw [HR.out]; exact Own.nil _ _, Below.refl _ _⟩
  · have hb0 : 0 < b := by
      rcases Nat.eq_zero_or_pos b with h1 | h1
      · have := HNil.out.2 h1; rw [this] at C2; exact absurd C2.out.symm h0
      · exact h1
    have hcne : ((c' : Int) == 0) = false := by rw [beq_eq_false_iff_ne]; omega
    have KC := cmp_any ad c cap X ad' c' cap' Y w C1.out (by omega) (by omega) hoX hrX C2.out (by omega) (by omega) hoY hrY
    rw [V1.out, V2.out] at KC
    have KCH := Lib.hid KC; clear KC
    by_cases hlt : a < b
    · have KN := fun q => norm_any ad c cap X (w.drewN q) C1.out (by omega) (by omega) hoX (hrX.drewN q)
      rw [V1.out] at KN
      have KNH := Lib.hid KN; clear KN
      have HQ := Lib.hid (Nat.div_eq_of_lt hlt)
      have HR := Lib.hid (show rmN a b = a by unfold rmN; rw [if_neg (by omega), Nat.mod_eq_of_lt hlt])
      have hcn := cmpN_neg.2 hlt
      clear hlt
      go_enter Tryd.func13, Tryd.ntmps13
      go_wp2_with fail
      refine K1.out.mono ?_
      rintro e w' ⟨rfl, rfl⟩
      go_wp2_with fail
      refine K2.out.mono ?_
      rintro e w' ⟨rfl, rfl⟩
      go_wp2_with fail
      refine KCH.out.mono ?_
      rintro e w' ⟨rfl, q, rfl⟩
      generalize cmpN a b = m at *
      go_wp2_with fail
      refine (KNH.out q).mono ?_
      rintro e w' ⟨v, rfl, hv, hbl⟩
      go_wp2
      go_ret2
      exact ⟨_, v, rfl, by rw [HQ.out]; exact Own.nil _ _, by rw [HR.out]; exact hv, (below_drewN' (Below.refl _ _) q).trans hbl⟩
    · have hcn : ¬ cmpN a b < 0 := fun h => hlt (cmpN_neg.1 h)
      have KD := fun q => divide_any ad c cap X ad' c' cap' Y (w.drewN q) C1.out (by omega) (by omega) hoX (hrX.drewN q) C2.out (by omega) (by omega) (by have := HMono.out (by omega); omega) hoY (hrY.drewN q) (HTop.out (c' - 1) (by omega))
      rw [V1.out, V2.out] at KD
      have KDH := Lib.hid KD; clear KD
      have HR := Lib.hid (show rmN a b = a % b by unfold rmN; rw [if_neg (by omega)])
      clear hlt
      go_enter Tryd.func13, Tryd.ntmps13
      go_wp2_with fail
      refine K1.out.mono ?_
      rintro e w' ⟨rfl, rfl⟩
      go_wp2_with fail
      refine K2.out.mono ?_
      rintro e w' ⟨rfl, rfl⟩
      go_wp2_with fail
      refine KCH.out.mono ?_
      rintro e w' ⟨rfl, q, rfl⟩
      generalize cmpN a b = m at *
      go_wp2_with fail
      refine (KDH.out q).mono ?_
      rintro e w' ⟨v1, v2, rfl, hv1, hv2, hbl⟩
      go_wp2
      go_ret2
      exact ⟨v1, v2, rfl, hv1, by rw [HR.out]; exact hv2, (below_drewN' (Below.refl _ _) q).trans hbl⟩

/-! zeros, tens -/
/-- A power of ten. -/
def tenN (n : Nat) : Nat := 10 ^ n
theorem tenN_zero : tenN 0 = 1 := rfl
theorem tenN_succ (n : Nat) : tenN (n + 1) = tenN n * 10 := Nat.pow_succ _ _
theorem tenN_pos (n : Nat) : 0 < tenN n := Nat.pow_pos (by decide)
theorem tenN_le {n m : Nat} (h : n ≤ m) : tenN n ≤ tenN m := Nat.pow_le_pow_right (by decide) h
theorem tenN_9 : tenN 9 = 1000000000 := by decide
theorem tenN_add (a b : Nat) : tenN (a + b) = tenN a * tenN b := Nat.pow_add _ _ _

set_option maxHeartbeats 1000000 in
theorem tens_any (n : Nat) (w : World) (hn : n ≤ 9) :
    Calls Tryd.prog 41 #[.int .i64 (n : Int)] w fun e w' => e = .returned (.int .u32 ((tenN n : Nat) : Int)) ∧ w = w' := by
  go_enter Tryd.func41, Tryd.ntmps41
  go_wp2
  go_loop [3, 5] (fun p i => ∃ (k : Nat), k ≤ n ∧ i = .int .i64 k ∧ p = .int .u32 (tenN k)) (fun _ i => n - (intOf i).toNat)
  case atStart => exact ⟨0, by omega, rfl, rfl⟩
  case round =>
    obtain ⟨k, hk, rfl, rfl⟩ := hrel
    by_cases hlt : k < n
    · have hb : tenN k * 10 ≤ 1000000000 := by rw [← tenN_succ, ← tenN_9]; exact tenN_le (by omega)
      have HX := Lib.hid (tenN_succ k)
      go_wp2
      go_round
      case rel => exact ⟨k + 1, by omega, by go_num, by rw [HX.out]; go_num⟩
      case measure => simp [intOf]; omega
    · obtain rfl : k = n := by omega
      go_wp2
      go_ret
      exact ⟨rfl, rfl⟩

def ZerosPost (v : Nat) (w : World) (e : Ending) (w' : World) : Prop :=
  ∃ z m, e = .returned (.int .i64 ((z : Nat) : Int)) ∧ v = m * tenN z ∧ m % 10 ≠ 0 ∧ z ≤ 8 ∧ w = w'

set_option maxHeartbeats 1000000 in
theorem zeros_any (v : Nat) (w : World) (h0 : v ≠ 0) (hv : v < 1000000000) :
    Calls Tryd.prog 40 #[.int .u32 (v : Int)] w (ZerosPost v w) := by
  go_enter Tryd.func40, Tryd.ntmps40
  go_wp2
  go_loop [0, 3] (fun p i => ∃ (k x : Nat), i = .int .i64 k ∧ p = .int .u32 x ∧ v = x * tenN k ∧ x ≠ 0 ∧ x ≤ v ∧ k ≤ 8) (fun p _ => (intOf p).toNat)
  case atStart => exact ⟨0, v, rfl, rfl, by rw [tenN_zero, Nat.mul_one], h0, Nat.le_refl _, by omega⟩
  case round =>
    obtain ⟨k, x, rfl, rfl, hx, hx0, hxv, hk8⟩ := hrel
    have HX := Lib.hid hx; clear hx
    by_cases hm : x % 10 = 0
    · have hmb : (((x : Int) % 10) == 0) = true := by rw [beq_iff_eq]; omega
      have hx' : v = x / 10 * tenN (k + 1) := by
        have e := Nat.div_add_mod x 10
        rw [hm, Nat.add_zero] at e
        rw [HX.out]
        conv => lhs; rw [← e]
        rw [tenN_succ, Nat.mul_comm (tenN k), ← Nat.mul_assoc, Nat.mul_comm (x / 10) 10]
      have hk9 : k + 1 ≤ 8 := by
        rcases Nat.lt_or_ge k 8 with h1 | h1
        · exact h1
        · exfalso
          have h2 : tenN 9 ≤ tenN (k + 1) := tenN_le (by omega)
          have h3 : 1 * tenN (k + 1) ≤ x / 10 * tenN (k + 1) := Nat.mul_le_mul_right _ (by omega)
          rw [tenN_9] at h2
          omega
      have H2 := Lib.hid hx'; clear hx'
      go_wp2
      go_round
      case rel => exact ⟨k + 1, x / 10, by go_num, by go_num, H2.out, by omega, by omega, hk9⟩
      case measure => simp [intOf]; omega
    · have hmb : (((x : Int) % 10) == 0) = false := by rw [beq_eq_false_iff_ne]; omega
      go_wp2
      go_ret
      exact ⟨k, x, rfl, HX.out, hm, hk8, rfl⟩
end Go.Proofs.YtolmmpdgbkbcmaaDoor
