/- The walk of the law NatSums. -/
import Derived.Test.YtolmmpdgbkbcmaaDoorCtx
namespace Go.Proofs.YtolmmpdgbkbcmaaDoor
open Go.RowKit
set_option linter.unusedVariables false

theorem cutP_neg : cutP (-1) = 0 := by decide
theorem ints_eq0 (w : World) : ((0 : Int) == 0) = true := rfl

set_option maxHeartbeats 4000000 in
theorem natSums_walk (ad : Option Addr) (n cap : Nat) (xs : List Nat) (ad' : Option Addr) (n' cap' : Nat) (ys : List Nat) (ad'' : Option Addr) (n'' cap'' : Nat) (zs : List Nat) (b : Nat) (k0 : Int) (w : World)
    (hn : xs.length = n) (hcap : n ≤ cap) (ho : Okl xs) (hr : Rd w ad xs) (hn' : ys.length = n') (hcap' : n' ≤ cap') (ho' : Okl ys) (hr' : Rd w ad' ys) (hn'' : zs.length = n'') (hcap'' : n'' ≤ cap'') (ho'' : Okl zs) (hr'' : Rd w ad'' zs)
    (hb : b < B32) (hk0 : -9223372036854775808 ≤ k0 ∧ k0 ≤ 9223372036854775807) :
    Calls Tryd.prog 5 #[.slice ad n cap, .slice ad' n' cap', .slice ad'' n'' cap'', .int .u32 (b : Int), .int .i64 k0] w fun e w' => e = .returned (.bool true) ∧ Below w.heap.size w w' := by
  have HB := Lib.hid hb
  have HK := Lib.hid hk0
  clear hb hk0
  by_cases hf : n ≤ 25 ∧ n' ≤ 25
  · obtain ⟨hf1, hf2⟩ := hf
    have KF := Lib.hid (few_yes ad ad' n cap n' cap' w hf1 hf2)
    by_cases hf3 : n'' ≤ 25
    · have h0 := Lib.hid (((((Ctx.begin w).push (ent_arg hn'' hcap'' ho'' hr'' hf3 rfl)).push (ent_arg hn' hcap' ho' hr' hf2 rfl)).push (ent_arg hn hcap ho hr hf1 rfl)))
      clear hn hcap ho hr hn' hcap' ho' hr' hn'' hcap'' ho'' hr''
      generalize ha : val xs = a at *
      generalize hb' : val ys = b' at *
      generalize hc : val zs = c at *
      clear ha hb' hc
      have KP := Lib.hid (fun w1 => place_any k0 30 w1 HK.out ⟨by omega, by omega⟩)
      have hp1 := Int.emod_nonneg k0 (show (30 : Int) ≠ 0 by decide)
      have hp2 := Int.emod_lt_of_pos k0 (show (0 : Int) < 30 by decide)
      generalize k0 % 30 = p at *
      obtain ⟨k, rfl⟩ : ∃ k : Nat, p = (k : Int) := ⟨p.toNat, by omega⟩
      have hkk : k < 30 := by omega
      clear hp1 hp2
      go_enter Tryd.func5, Tryd.ntmps5
      go_wp2_with fail
      refine KF.out.mono ?_
      rintro e w' ⟨rfl, rfl⟩
      go_wp2_with fail
      refine (add_c h0.out 0 1 rfl rfl (by decide) (by decide)).mono ?_
      rintro e w1 ⟨s, rfl, h1⟩
      have H1 := Lib.hid h1; clear h1
      go_wp2_with fail
      refine (KP.out _).mono ?_
      rintro e w' ⟨rfl, rfl⟩
      go_wp2_with fail
      refine (sub_c H1.out 0 2 rfl rfl (by decide) (by decide)).mono ?_
      rintro e w2 ⟨v2, rfl, h2⟩
      rw [Nat.add_sub_cancel] at h2
      have H2 := Lib.hid h2; clear h2
      go_wp2_with fail
      refine (cmp_c H2.out 0 2 rfl rfl (by decide) (by decide)).mono ?_
      rintro e w3 ⟨rfl, h3⟩
      rw [cmpN_eq]
      have H3 := Lib.hid h3; clear h3
      go_wp2_with fail
      refine (mul_c H3.out 4 1 rfl rfl (by decide) (by decide)).mono ?_
      rintro e w4 ⟨v4, rfl, h4⟩
      have H4 := Lib.hid h4; clear h4
      go_wp2_with fail
      refine (mul_c H4.out 5 3 rfl rfl (by decide) (by decide)).mono ?_
      rintro e w5 ⟨v5, rfl, h5⟩
      have H5 := Lib.hid h5; clear h5
      go_wp2_with fail
      refine (mul_c H5.out 5 6 rfl rfl (by decide) (by decide)).mono ?_
      rintro e w6 ⟨v6, rfl, h6⟩
      have H6 := Lib.hid h6; clear h6
      go_wp2_with fail
      refine (add_c H6.out 1 0 rfl rfl (by decide) (by decide)).mono ?_
      rintro e w7 ⟨v7, rfl, h7⟩
      have H7 := Lib.hid h7; clear h7
      go_wp2_with fail
      refine (cmp_c H7.out 3 0 rfl rfl (by decide) (by decide)).mono ?_
      rintro e w8 ⟨rfl, h8⟩
      rw [show c * (a + b') = c * a + b' * c by rw [Nat.mul_add, Nat.mul_comm b' c], cmpN_eq]
      have H8 := Lib.hid ((Ctx.begin w).step h8.below); clear h8
      go_wp2_with fail
      refine (pow_c H8.out HB.out _ (k + 1) (cutP_nat (by omega))).mono ?_
      rintro e w9 ⟨v9, rfl, h9⟩
      have H9 := Lib.hid h9; clear h9
      go_wp2_with fail
      refine (pow_c H9.out HB.out _ k (cutP_nat (by omega))).mono ?_
      rintro e w10 ⟨v10, rfl, h10⟩
      have H10 := Lib.hid (h10.lit HB.out); clear h10
      go_wp2_with fail
      refine (mul_c H10.out 1 0 rfl rfl (by omega) (by decide)).mono ?_
      rintro e w11 ⟨v11, rfl, h11⟩
      have H11 := Lib.hid h11; clear h11
      go_wp2_with fail
      refine (cmp_c H11.out 3 0 rfl rfl (by omega) (by omega)).mono ?_
      rintro e w12 ⟨rfl, h12⟩
      rw [← Nat.pow_succ, cmpN_eq]
      have H12 := Lib.hid ((Ctx.begin w).step h12.below); clear h12
      go_wp2_with fail
      refine (pow_c H12.out HB.out _ 0 cutP_neg).mono ?_
      rintro e w13 ⟨v13, rfl, h13⟩
      rw [Nat.pow_zero] at h13
      have H13 := Lib.hid (h13.lit (x := 1) (by decide)); clear h13
      go_wp2_with fail
      refine (cmp_c H13.out 1 0 rfl rfl (by omega) (by omega)).mono ?_
      rintro e w14 ⟨rfl, h14⟩
      rw [cmpN_eq]
      go_wp2_with fail
      refine (awake_c h14).mono ?_
      rintro e w15 ⟨rfl, hb15⟩
      go_wp2
      go_ret
      exact ⟨rfl, hb15⟩
    · go_enter Tryd.func5, Tryd.ntmps5
      go_wp2_with fail
      refine KF.out.mono ?_
      rintro e w' ⟨rfl, rfl⟩
      go_wp2_with fail
      refine (awake_any _).mono ?_
      rintro e w2 ⟨rfl, hb2⟩
      go_wp2
      go_ret
      exact ⟨rfl, hb2⟩
  · have KF := Lib.hid (few_no ad ad' n cap n' cap' w hf)
    clear hf
    go_enter Tryd.func5, Tryd.ntmps5
    go_wp2_with fail
    refine KF.out.mono ?_
    rintro e w' ⟨rfl, rfl⟩
    go_wp2_with fail
    refine (awake_any _).mono ?_
    rintro e w2 ⟨rfl, hb2⟩
    go_wp2
    go_ret
    exact ⟨rfl, hb2⟩
end Go.Proofs.YtolmmpdgbkbcmaaDoor
