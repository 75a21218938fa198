/- The walk of the law NatDivides. -/
import Derived.Test.YtolmmpdgbkbcmaaDoorAw
namespace Go.Proofs.YtolmmpdgbkbcmaaDoor
open Go.RowKit
set_option linter.unusedVariables false

theorem bitsN_ne {N : Nat} (h : N ≠ 0) : bitsN N ≠ 0 := by
  have hl : (limbs N).length ≠ 0 := fun h0 => h ((limbs_nil_iff N).1 (List.eq_nil_of_length_eq_zero h0))
  obtain ⟨t, ht⟩ : ∃ t, (limbs N).length = t + 1 := ⟨(limbs N).length - 1, by omega⟩
  have hx := (limbs_ok N).getD t
  rw [bitsN_top ht]
  have h1 := limbs_top ht
  rw [B32_eq] at hx
  have := (bitLen_bounds _ _ (Nat.le_refl _) (by omega) h1).1
  unfold blen; omega
theorem bitsN_z : bitsN 0 = 0 := bitsN_zero limbs_zero

/-- A contract's world, told on: from a later world back to the first. -/
theorem below_on {w w1 w2 : World} (h : Below w.heap.size w w1) (h2 : Below w1.heap.size w1 w2) : Below w.heap.size w w2 := h.trans (h2.mono h.size)

set_option maxHeartbeats 4000000 in
theorem natDivides_walk (ad : Option Addr) (n cap : Nat) (xs : List Nat) (ad' : Option Addr) (n' cap' : Nat) (ys : List Nat) (w : World) (hn : xs.length = n) (hcap : n ≤ cap) (ho : Okl xs) (hr : Rd w ad xs)
    (hn' : ys.length = n') (hcap' : n' ≤ cap') (ho' : Okl ys) (hr' : Rd w ad' ys) :
    Calls Tryd.prog 4 #[.slice ad n cap, .slice ad' n' cap'] w fun e w' => e = .returned (.bool true) ∧ Below w.heap.size w w' := by
  have HN := Lib.hid hn
  have HN' := Lib.hid hn'
  clear hn hn'
  by_cases hf : n ≤ 25 ∧ n' ≤ 25
  · obtain ⟨hf1, hf2⟩ := hf
    have K1 := Lib.hid (div_any ad n cap xs ad' n' cap' ys w HN.out hcap (by omega) ho hr HN'.out hcap' (by omega) ho' hr')
    have KF := Lib.hid (few_yes ad ad' n cap n' cap' w hf1 hf2)
    have hlA := limbs_len_le ho
    have hlB := limbs_len_le ho'
    rw [HN.out] at hlA
    rw [HN'.out] at hlB
    have KB := Lib.hid (fun w1 (h : Below w.heap.size w w1) => bits_any ad' n' cap' ys w1 HN'.out hcap' (by omega) ho' (hr'.below h))
    generalize ha : val xs = a at *
    generalize hb : val ys = b at *
    have HA := Lib.hid ha
    have HB := Lib.hid hb
    clear ha hb
    by_cases hb0 : b = 0
    · subst hb0
      rw [bitsN_z] at KB
      go_enter Tryd.func4, Tryd.ntmps4
      go_wp2_with fail
      refine KF.out.mono ?_
      rintro e w' ⟨rfl, rfl⟩
      go_wp2_with fail
      refine K1.out.mono ?_
      rintro e w1 ⟨v1, v2, rfl, h1, h2, hb1⟩
      rw [Nat.div_zero, limbs_zero] at h1
      rw [show rmN a 0 = 0 from if_pos rfl, limbs_zero] at h2
      obtain ⟨a1, c1, rfl, _, _, _⟩ := h1.view
      obtain ⟨a2, c2, rfl, _, _, _⟩ := h2.view
      go_wp2_with fail
      refine (KB.out w1 hb1).mono ?_
      rintro e w' ⟨rfl, rfl⟩
      go_wp2_with fail
      refine (awake_any _).mono ?_
      rintro e w2 ⟨rfl, hb2⟩
      go_wp2
      go_ret
      exact ⟨rfl, below_on hb1 hb2⟩
    · have hbn := bitsN_ne hb0
      have hbt : ((bitsN b : Int) == 0) = false := by rw [beq_eq_false_iff_ne]; omega
      generalize bitsN b = nb at *
      go_enter Tryd.func4, Tryd.ntmps4
      go_wp2_with fail
      refine KF.out.mono ?_
      rintro e w' ⟨rfl, rfl⟩
      go_wp2_with fail
      refine K1.out.mono ?_
      rintro e w1 ⟨v1, v2, rfl, h1, h2, hb1⟩
      have hq : a / b ≤ a := Nat.div_le_self _ _
      have hlq := limbs_len_mono hq
      have hrm : rmN a b = a % b := if_neg hb0
      rw [hrm] at h2
      have hrl : a % b < b := Nat.mod_lt _ (by omega)
      have hlr := limbs_len_mono (Nat.le_of_lt hrl)
      have hdm := Nat.div_add_mod a b
      have HDM := Lib.hid hdm
      clear hdm hrm
      obtain ⟨a1, c1, rfl, hc1, hr1, _⟩ := h1.view
      obtain ⟨a2, c2, rfl, hc2, hr2, _⟩ := h2.view
      go_wp2_with fail
      refine (KB.out w1 hb1).mono ?_
      rintro e w' ⟨rfl, rfl⟩
      go_wp2_with fail
      refine (mul_any a1 _ c1 (limbs (a / b)) ad' n' cap' ys _ rfl hc1 (by omega) (limbs_ok _) hr1 HN'.out hcap' (by omega) ho' (hr'.below hb1)).mono ?_
      rw [val_limbs, HB.out]
      rintro e w2 ⟨v3, rfl, h3, hb2⟩
      have hml : a / b * b ≤ a := Nat.div_mul_le_self _ _
      have hlm := limbs_len_mono hml
      obtain ⟨a3, c3, rfl, hc3, hr3, _⟩ := h3.view
      have hr2' := hr2.below hb2
      have hb12 := below_on hb1 hb2
      go_wp2_with fail
      refine (add_any a3 _ c3 (limbs (a / b * b)) a2 _ c2 (limbs (a % b)) _ rfl hc3 (by omega) (limbs_ok _) hr3 rfl hc2 (by omega) (limbs_ok _) hr2').mono ?_
      rw [val_limbs, val_limbs]
      rw [show a / b * b + a % b = a by rw [Nat.mul_comm]; exact HDM.out]
      rintro e w3 ⟨v4, rfl, h4, hb3⟩
      obtain ⟨a4, c4, rfl, hc4, hr4, _⟩ := h4.view
      have hb13 := below_on hb12 hb3
      have hr2'' := hr2'.below hb3
      go_wp2_with fail
      refine (cmp_any a4 _ c4 (limbs a) ad n cap xs _ rfl hc4 (by omega) (limbs_ok _) hr4 HN.out hcap (by omega) ho (hr.below hb13)).mono ?_
      rw [val_limbs, HA.out]
      rintro e w' ⟨rfl, q1, rfl⟩
      rw [cmpN_eq]
      go_wp2_with fail
      refine (cmp_any a2 _ c2 (limbs (a % b)) ad' n' cap' ys _ rfl hc2 (by omega) (limbs_ok _) (hr2''.drewN q1) HN'.out hcap' (by omega) ho' ((hr'.below hb13).drewN q1)).mono ?_
      rw [val_limbs, HB.out]
      rintro e w' ⟨rfl, q2, rfl⟩
      rw [cmpN_lt hrl]
      go_wp2_with fail
      refine (awake_any _).mono ?_
      rintro e w4 ⟨rfl, hb4⟩
      go_wp2
      go_ret
      exact ⟨rfl, below_on (below_drewN' hb13 (q1 + q2)) hb4⟩
  · have KF := Lib.hid (few_no ad ad' n cap n' cap' w hf)
    clear hf
    go_enter Tryd.func4, Tryd.ntmps4
    go_wp2_with fail
    refine KF.out.mono ?_
    rintro e w' ⟨rfl, rfl⟩
    go_wp2_with fail
    refine (awake_any _).mono ?_
    rintro e w2 ⟨rfl, hb2⟩
    go_wp2
    go_ret
    exact ⟨rfl, hb2⟩
end Go.Proofs.YtolmmpdgbkbcmaaDoor
