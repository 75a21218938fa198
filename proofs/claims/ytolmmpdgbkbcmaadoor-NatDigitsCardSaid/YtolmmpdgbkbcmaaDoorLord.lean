/- The walk of the law NatOrders. -/
import Derived.Test.YtolmmpdgbkbcmaaDoorOpsD
namespace Go.Proofs.YtolmmpdgbkbcmaaDoor
open Go.RowKit
set_option linter.unusedVariables false

theorem val_zeros (k : Nat) : val (List.replicate k 0) = 0 := by
  induction k with
  | zero => rfl
  | succ k ih => rw [List.replicate_succ]; simp [val, ih]
theorem val_behind (xs : List Nat) (k : Nat) : val (xs ++ List.replicate k 0) = val xs := by rw [val_append, val_zeros]; simp
theorem cmpN_swap (a b : Nat) : cmpN b a = - cmpN a b := by
  rcases Nat.lt_trichotomy a b with h | h | h
  · rw [cmpN_gt h, cmpN_lt h]; rfl
  · subst h; rw [cmpN_eq]; rfl
  · rw [cmpN_lt h, cmpN_gt h]
theorem cmpN_plus (a b c : Nat) : cmpN (a + c) (c + b) = cmpN a b := by
  rcases Nat.lt_trichotomy a b with h | h | h
  · rw [cmpN_lt h, cmpN_lt (by omega)]
  · subst h; rw [Nat.add_comm c a, cmpN_eq, cmpN_eq]
  · rw [cmpN_gt h, cmpN_gt (by omega)]
theorem cmpN_bd (a b : Nat) : -1 ≤ cmpN a b ∧ cmpN a b ≤ 1 := by unfold cmpN; split <;> (try split) <;> omega
theorem cmpN_pos {a b : Nat} : (0 < cmpN a b) ↔ b < a := by unfold cmpN; split <;> (try split) <;> omega

section
variable {w0 w : World} {l : List Ent} {v1 v2 : Value} {L1 L2 N1 N2 : Nat} {xs ys : List Nat}
theorem same_c (h : Ctx w0 w l) (i j : Nat) (hi : l[i]? = some ⟨v1, L1, N1, xs⟩) (hj : l[j]? = some ⟨v2, L2, N2, xs⟩) (h1 : L1 ≤ 100000000) :
    Calls Tryd.prog 11 #[v1, v2] w fun e w' => e = .returned (.bool true) ∧ Ctx w0 w' l := by
  obtain ⟨ad, cap, rfl, a2, a3, a4, a5, a6⟩ := h.get i hi
  obtain ⟨ad', cap', rfl, b2, b3, b4, b5, b6⟩ := h.get j hj
  refine (same_any ad _ cap xs ad' cap' w rfl a2 b2 (by omega) a5 b5).mono ?_
  rintro e w' ⟨rfl, q, rfl⟩
  exact ⟨rfl, h.drewN q⟩
end

theorem ent_any {B : Nat} {w : World} {v : Value} {xs : List Nat} {N L : Nat} (h : Own B w v xs) (hL : xs.length ≤ L) (hN : val xs = N) : Ent.Ok w ⟨v, L, N, xs⟩ := by
  have ho := h.1
  obtain ⟨ad, cap, rfl, h1, h2, _⟩ := h.view
  exact ⟨ad, cap, rfl, h1, hL, ho, h2, hN⟩

set_option maxHeartbeats 4000000 in
theorem natOrders_walk (ad : Option Addr) (n cap : Nat) (xs : List Nat) (ad' : Option Addr) (n' cap' : Nat) (ys : List Nat) (ad'' : Option Addr) (n'' cap'' : Nat) (zs : List Nat) (k0 : Int) (w : World)
    (hn : xs.length = n) (hcap : n ≤ cap) (ho : Okl xs) (hr : Rd w ad xs) (hn' : ys.length = n') (hcap' : n' ≤ cap') (ho' : Okl ys) (hr' : Rd w ad' ys) (hn'' : zs.length = n'') (hcap'' : n'' ≤ cap'') (ho'' : Okl zs) (hr'' : Rd w ad'' zs)
    (hk0 : -9223372036854775808 ≤ k0 ∧ k0 ≤ 9223372036854775807) :
    Calls Tryd.prog 8 #[.slice ad n cap, .slice ad' n' cap', .slice ad'' n'' cap'', .int .i64 k0] w fun e w' => e = .returned (.bool true) ∧ Below w.heap.size w w' := by
  have HK := Lib.hid hk0
  clear hk0
  by_cases hf : n ≤ 25 ∧ n' ≤ 25
  · obtain ⟨hf1, hf2⟩ := hf
    have KF := Lib.hid (few_yes ad ad' n cap n' cap' w hf1 hf2)
    by_cases hf3 : n'' ≤ 25
    · have h0 := Lib.hid (((((Ctx.begin w).push (ent_arg hn'' hcap'' ho'' hr'' hf3 rfl)).push (ent_arg hn' hcap' ho' hr' hf2 rfl)).push (ent_arg hn hcap ho hr hf1 rfl)))
      have KL := Lib.hid (fun w1 (hb : Below w.heap.size w w1) => limbs_any ad n cap xs w1 hn (by omega) ho (hr.below hb))
      have HV := Lib.hid (val_behind xs)
      have HO := Lib.hid ho
      have HX := Lib.hid (show xs.length ≤ 25 by omega)
      clear hn hcap ho hr hn' hcap' ho' hr' hn'' hcap'' ho'' hr''
      generalize ha : val xs = a at *
      generalize hb' : val ys = b at *
      generalize hc : val zs = c at *
      clear ha hb' hc
      have hkb := cmpN_bd a b
      have HC1 := Lib.hid (cmpN_swap a b)
      have HC2 := Lib.hid (cmpN_plus a b c)
      have hkp := @cmpN_pos a b
      generalize hke : cmpN a b = k at *
      have HKE := Lib.hid hke; clear hke
      have HKP := Lib.hid hkp; clear hkp
      have KP := Lib.hid (fun w1 => place_any k0 5 w1 HK.out ⟨by omega, by omega⟩)
      have hp1 := Int.emod_nonneg k0 (show (5 : Int) ≠ 0 by decide)
      have hp2 := Int.emod_lt_of_pos k0 (show (0 : Int) < 5 by decide)
      generalize k0 % 5 = p at *
      obtain ⟨m, rfl⟩ : ∃ m : Nat, p = (m : Int) := ⟨p.toNat, by omega⟩
      have hmm : m < 5 := by omega
      clear hp1 hp2
      go_enter Tryd.func8, Tryd.ntmps8
      go_wp2_with fail
      refine KF.out.mono ?_
      rintro e w' ⟨rfl, rfl⟩
      go_wp2_with fail
      refine (cmp_c h0.out 0 1 rfl rfl (by decide) (by decide)).mono ?_
      rintro e w1 ⟨rfl, h1⟩
      rw [HKE.out]
      have H1 := Lib.hid h1; clear h1
      go_wp2_with fail
      refine (KL.out _ H1.out.below).mono ?_
      rintro e w2 ⟨v2, rfl, hv2, hb2⟩
      have HV2 := Lib.hid hv2; clear hv2
      go_wp2_with fail
      refine (KP.out _).mono ?_
      rintro e w' ⟨rfl, rfl⟩
      go_wp2_with first
        | (at_builtin; refine wpl_append_zeros rfl _ _ rfl w1.heap.size _ xs rfl HV2.out m rfl (by omega) (by have := HX.out; omega) hb2.size ?_; intro v4 w4 hv4 hb4)
        | fail
      have h4 : Ctx w w4 _ := (H1.out.step (hb2.trans hb4)).push (ent_any hv4 (L := 30) (by have := HX.out; simp; omega) (HV.out m))
      have H4 := Lib.hid h4; clear h4 hv4 hb4 hb2 HV2
      refine (cmp_c H4.out 2 1 rfl rfl (by decide) (by decide)).mono ?_
      rintro e w5 ⟨rfl, h5⟩
      have H5 := Lib.hid h5; clear h5
      rw [HC1.out]
      go_wp2_with fail
      refine (add_c H5.out 1 3 rfl rfl (by decide) (by decide)).mono ?_
      rintro e w6 ⟨v6, rfl, h6⟩
      have H6 := Lib.hid h6; clear h6
      go_wp2_with fail
      refine (add_c H6.out 4 3 rfl rfl (by decide) (by decide)).mono ?_
      rintro e w7 ⟨v7, rfl, h7⟩
      have H7 := Lib.hid h7; clear h7
      go_wp2_with fail
      refine (cmp_c H7.out 1 0 rfl rfl (by decide) (by decide)).mono ?_
      rintro e w8 ⟨rfl, h8⟩
      have H8 := Lib.hid h8; clear h8
      rw [HC2.out]
      go_wp2_with fail
      refine (cmp_c H8.out 2 3 rfl rfl (by decide) (by decide)).mono ?_
      rintro e w9 ⟨rfl, h9⟩
      have H9 := Lib.hid h9; clear h9
      rw [cmpN_eq]
      go_wp2_with fail
      refine (norm_c H9.out 2 rfl (by decide)).mono ?_
      rintro e w10 ⟨v10, rfl, h10⟩
      have H10 := Lib.hid h10; clear h10
      go_wp2_with fail
      refine (norm_c H10.out 4 rfl (by decide)).mono ?_
      rintro e w11 ⟨v11, rfl, h11⟩
      have H11 := Lib.hid h11; clear h11
      go_wp2_with fail
      refine (same_c H11.out 1 0 rfl rfl (by decide)).mono ?_
      rintro e w12 ⟨rfl, h12⟩
      have H12 := Lib.hid h12; clear h12
      go_wp2_with fail
      refine (bits_c H12.out 4 rfl (by decide)).mono ?_
      rintro e w' ⟨rfl, rfl⟩
      go_wp2_with fail
      refine (bits_c H12.out 5 rfl (by decide)).mono ?_
      rintro e w' ⟨rfl, rfl⟩
      go_wp2_with fail
      refine (digits_c H12.out 4 rfl (by decide)).mono ?_
      rintro e w13 ⟨rfl, h13⟩
      have H13 := Lib.hid h13; clear h13
      go_wp2_with fail
      refine (digits_c H13.out 5 rfl (by decide)).mono ?_
      rintro e w14 ⟨rfl, h14⟩
      have H14 := Lib.hid h14; clear h14
      generalize txt (dec a) = T at *
      by_cases hkp : 0 < k
      · go_wp2_with fail
        refine (awake_c H14.out).mono ?_
        rintro e w15 ⟨rfl, hb15⟩
        go_wp2
        go_ret
        exact ⟨rfl, hb15⟩
      · have hle : a - b = 0 := by
          have := HKE.out
          have h1 : ¬ (b < a) := fun h => hkp (HKP.out.2 h)
          omega
        have HLE := Lib.hid hle; clear hle
        go_wp2_with fail
        refine (sub_c H14.out 5 6 rfl rfl (by decide) (by decide)).mono ?_
        rintro e w15 ⟨v15, rfl, h15⟩
        rw [HLE.out] at h15
        obtain ⟨ad15, cap15, rfl, _⟩ := h15.get 0 rfl
        rw [limbs_zero] at h15
        rw [limbs_zero]
        have H15 := Lib.hid h15; clear h15
        go_wp2_with fail
        refine (awake_c H15.out).mono ?_
        rintro e w16 ⟨rfl, hb16⟩
        go_wp2
        go_ret
        exact ⟨rfl, hb16⟩
    · go_enter Tryd.func8, Tryd.ntmps8
      go_wp2_with fail
      refine KF.out.mono ?_
      rintro e w' ⟨rfl, rfl⟩
      go_wp2_with fail
      refine (awake_any _).mono ?_
      rintro e w2 ⟨rfl, hb2⟩
      go_wp2
      go_ret
      exact ⟨rfl, hb2⟩
  · have KF := Lib.hid (few_no ad ad' n cap n' cap' w hf)
    clear hf
    go_enter Tryd.func8, Tryd.ntmps8
    go_wp2_with fail
    refine KF.out.mono ?_
    rintro e w' ⟨rfl, rfl⟩
    go_wp2_with fail
    refine (awake_any _).mono ?_
    rintro e w2 ⟨rfl, hb2⟩
    go_wp2
    go_ret
    exact ⟨rfl, hb2⟩
end Go.Proofs.YtolmmpdgbkbcmaaDoor
