/- The walk of the reference's Div. -/
import Derived.Test.YteaeecnpggoioaaDoorRr
import Derived.Test.YteaeecnpggoioaaDoorRb
namespace Go.Proofs.YteaeecnpggoioaaDoor
open Go.RowKit
set_option linter.unusedVariables false
set_option linter.unusedSimpArgs false

/-- A limb turned: by so much the natural grows. -/
theorem val_set_add (xs : List Nat) (q y : Nat) (h : q < xs.length) : val (xs.set q (xs.getD q 0 + y)) = val xs + B32 ^ q * y := by
  have e1 := val_take_drop (xs.set q (xs.getD q 0 + y)) (q + 1) (by rw [List.length_set]; omega)
  have e2 := val_take_drop xs (q + 1) (by omega)
  rw [val_set_take _ _ _ h, List.drop_set_of_lt (by omega)] at e1
  rw [val_take_succ _ _ h] at e2
  rw [e1, e2, Nat.mul_add]; omega
theorem val_div_drop {xs : List Nat} (ho : Okl xs) (q : Nat) (h : q ≤ xs.length) : val xs / B32 ^ q = val (xs.drop q) := by
  have hl := val_lt (ho.take q)
  rw [List.length_take, Nat.min_eq_left h] at hl
  rw [val_take_drop xs q h, Nat.add_mul_div_left _ _ (Nat.pow_pos B32_pos), Nat.div_eq_of_lt hl, Nat.zero_add]
/-- The bits of a quotient that are still to come are none. -/
theorem quo_limb {Q : List Nat} (ho : Okl Q) {i K : Nat} (hq : i / 32 < Q.length) (h : val Q = K * 2 ^ (i + 1)) : Q.getD (i / 32) 0 % 2 ^ (i % 32 + 1) = 0 := by
  have hi : i = 32 * (i / 32) + i % 32 := by omega
  have hr : i % 32 < 32 := by omega
  generalize i / 32 = q at *
  generalize i % 32 = r at *
  subst hi
  have hB : B32 ^ q = 2 ^ (32 * q) := by rw [Nat.pow_mul]; rfl
  have hd := val_div_drop ho q (Nat.le_of_lt hq)
  have e : val Q = B32 ^ q * (K * 2 ^ (r + 1)) := by
    rw [h, hB, show 32 * q + r + 1 = 32 * q + (r + 1) by omega, Nat.pow_add, Nat.mul_left_comm]
  rw [e, Nat.mul_div_cancel_left _ (Nat.pow_pos B32_pos), val_drop_succ Q q hq] at hd
  have hbb : B32 = 2 ^ (r + 1) * 2 ^ (31 - r) := by
    rw [← Nat.pow_add, show r + 1 + (31 - r) = 32 by omega]; rfl
  have h3 : (Q.getD q 0 + B32 * val (Q.drop (q + 1))) % 2 ^ (r + 1) = 0 := by rw [← hd, Nat.mul_mod_left]
  generalize Q.getD q 0 = z at *
  generalize val (Q.drop (q + 1)) = V at *
  rw [hbb, Nat.mul_assoc, Nat.add_mul_mod_self_left] at h3
  exact h3
theorem limb_room {z r : Nat} (hr : r < 32) (hz : z < 4294967296) (h : z % 2 ^ (r + 1) = 0) : z + 2 ^ r < 4294967296 := by
  obtain ⟨t, ht⟩ : ∃ t, z = 2 ^ (r + 1) * t := ⟨_, (Nat.mul_div_cancel' (Nat.dvd_of_mod_eq_zero h)).symm⟩
  have hd : (4294967296 : Nat) = 2 ^ (r + 1) * 2 ^ (31 - r) := by rw [← Nat.pow_add, show r + 1 + (31 - r) = 32 by omega]
  rw [hd, ht] at hz
  have htl := Nat.lt_of_mul_lt_mul_left hz
  have h3 : 2 ^ (r + 1) * (t + 1) ≤ 2 ^ (r + 1) * 2 ^ (31 - r) := Nat.mul_le_mul_left _ htl
  rw [← hd, Nat.mul_add, ← ht] at h3
  have h4 : 2 ^ (r + 1) = 2 ^ r * 2 := Nat.pow_succ ..
  have h5 := Nat.pow_pos (show 0 < 2 by decide) (n := r)
  omega
theorem or_bit {z r : Nat} (hr : r < 32) (hz : z < 4294967296) (h : z % 2 ^ (r + 1) = 0) : bits .or .u32 (z : Int) ((2 ^ r : Nat) : Int) = ((z + 2 ^ r : Nat) : Int) := by
  have h1 : 2 ^ r < 2 ^ (r + 1) := Nat.pow_lt_pow_right (by decide) (by omega)
  have h2 : 2 ^ r < 4294967296 := Nat.lt_of_lt_of_le (Nat.pow_lt_pow_right (by decide) hr) (by decide)
  rw [u32_or_nat z (2 ^ r) hz h2, nat_join (r + 1) z (2 ^ r) h h1]
theorem own_put {B g : Nat} {w : World} {v : Value} {xs ys : List Nat} {r : List Value} (h : Own B w v xs) (hg : g < B) : Own B (put g ys r w) v xs := by
  obtain ⟨ho, h | ⟨g', cap, r', e, hg', hb, hc⟩⟩ := h
  · exact ⟨ho, .inl h⟩
  · exact ⟨ho, .inr ⟨g', cap, r', e, hg', hb.put_ne (by omega), hc⟩⟩
theorem refShift_at {B : Nat} {v : Value} {zs : List Nat} {W : World} (h : Own B W v zs) (hl : zs.length ≤ 1000000) :
    Calls Tryd.prog 58 #[v, .int .i64 1] W (Gives (2 * val zs) W) := by
  obtain ⟨ad, cap, rfl, hcp, hr, _⟩ := h.view
  have := refShift_any ad zs.length cap zs 1 W rfl hcp hl (by omega) h.1 hr
  rw [Nat.pow_one, Nat.mul_comm] at this
  exact this
theorem refCmp_at {B : Nat} {v : Value} {zs : List Nat} {W : World} (h : Own B W v zs) (hl : zs.length ≤ 1000000) (ad' : Option Addr) (n' cap' : Nat) (ys : List Nat) (hn' : ys.length = n') (hcap' : n' ≤ cap') (hm' : n' ≤ 1000000) (ho' : Okl ys) (hr' : Rd W ad' ys) :
    Calls Tryd.prog 19 #[v, .slice ad' n' cap'] W fun e w' => e = .returned (.int .i64 (cmpN (val zs) (val ys))) ∧ Below W.heap.size W w' := by
  obtain ⟨ad, cap, rfl, hcp, hr, _⟩ := h.view
  refine (refCmp_any ad zs.length cap zs ad' n' cap' ys W rfl hcp (by omega) h.1 hr hn' hcap' (by omega) ho' hr').mono ?_
  rintro e w' ⟨rfl, q, rfl⟩
  exact ⟨rfl, below_drewN' (Below.refl _ _) q⟩
theorem refSub_at {B : Nat} {v : Value} {zs : List Nat} {W : World} (h : Own B W v zs) (hl : zs.length ≤ 1000000) (ad' : Option Addr) (n' cap' : Nat) (ys : List Nat) (hn' : ys.length = n') (hcap' : n' ≤ cap') (hm' : n' ≤ 1000000) (ho' : Okl ys) (hr' : Rd W ad' ys) :
    Calls Tryd.prog 29 #[v, .slice ad' n' cap'] W (Gives (val zs - val ys) W) := by
  obtain ⟨ad, cap, rfl, hcp, hr, _⟩ := h.view
  exact refSub_any ad zs.length cap zs ad' n' cap' ys W rfl hcp hl h.1 hr hn' hcap' hm' ho' hr'

theorem refNorm_at {B : Nat} {v : Value} {zs : List Nat} {W : World} (h : Own B W v zs) (hl : zs.length ≤ 1000000) :
    Calls Tryd.prog 25 #[v] W (Gives (val zs) W) := by
  obtain ⟨ad, cap, rfl, hcp, hr, _⟩ := h.view
  exact refNorm_any ad zs.length cap zs W rfl hcp (by omega) h.1 hr
/-- What holds behind the bits from j on. -/
def DvRel (G n bn N D : Nat) (w : World) (g : Nat) (rem i : Value) (wr : World) : Prop :=
  ∃ (j : Nat) (Q : List Nat), j ≤ g ∧ j ≤ bn ∧ i = .int .i64 ((j : Int) - 1) ∧ Own (G + 1) wr rem (limbs (N / 2 ^ j % D)) ∧ Blk wr G Q [] ∧ Q.length = n ∧ Okl Q ∧ val Q = N / 2 ^ j / D * 2 ^ j ∧ Below G w wr

theorem dv_yes {N D j : Nat} (hD : 0 < D) {Qv : Nat} (hq : Qv = N / 2 ^ (j + 1) / D * 2 ^ (j + 1)) (h : D ≤ 2 * (N / 2 ^ (j + 1) % D) + N / 2 ^ j % 2) :
    2 * (N / 2 ^ (j + 1) % D) + N / 2 ^ j % 2 - D = N / 2 ^ j % D ∧ Qv + 2 ^ j = N / 2 ^ j / D * 2 ^ j := by
  obtain ⟨_, b, c⟩ := div_bit (N := N) (i := j) hD
  rw [if_pos h] at b c
  refine ⟨c.symm, ?_⟩
  rw [b, hq]
  generalize N / 2 ^ (j + 1) / D = q
  rw [Nat.pow_succ]
  generalize 2 ^ j = P
  grind
theorem dv_no {N D j : Nat} (hD : 0 < D) {Qv : Nat} (hq : Qv = N / 2 ^ (j + 1) / D * 2 ^ (j + 1)) (h : ¬ D ≤ 2 * (N / 2 ^ (j + 1) % D) + N / 2 ^ j % 2) :
    2 * (N / 2 ^ (j + 1) % D) + N / 2 ^ j % 2 = N / 2 ^ j % D ∧ Qv = N / 2 ^ j / D * 2 ^ j := by
  obtain ⟨_, b, c⟩ := div_bit (N := N) (i := j) hD
  rw [if_neg h] at b c
  refine ⟨c.symm, ?_⟩
  rw [b, hq]
  generalize N / 2 ^ (j + 1) / D = q
  rw [Nat.pow_succ]
  generalize 2 ^ j = P
  grind
theorem limbs_small2 {M D n : Nat} (h : M < 2 * D) (hD : (limbs D).length ≤ n) : (limbs M).length ≤ n + 1 := by
  apply limbs_length_le
  have h1 := limbs_lt_pow D
  have h2 : B32 ^ (limbs D).length ≤ B32 ^ n := Nat.pow_le_pow_right B32_pos hD
  have := pow_two_le n
  omega

set_option maxHeartbeats 8000000 in
set_option maxRecDepth 100000 in
theorem refDiv_any (ad : Option Addr) (n cap : Nat) (xs : List Nat) (ad' : Option Addr) (n' cap' : Nat) (ys : List Nat) (w : World) (hn : xs.length = n) (hcap : n ≤ cap) (hm : n ≤ 100000) (ho : Okl xs) (hr : Rd w ad xs)
    (hn' : ys.length = n') (hcap' : n' ≤ cap') (hm' : n' ≤ 100000) (ho' : Okl ys) (hr' : Rd w ad' ys) :
    Calls Tryd.prog 13 #[.slice ad n cap, .slice ad' n' cap'] w (QuoPost (val xs) (val ys) w) := by
  have KN := Lib.hid (refNorm_any ad' n' cap' ys w hn' hcap' (by omega) ho' hr')
  have KB := Lib.hid (fun W (h : Below w.heap.size w W) => refBits_any ad n cap xs W hn hcap (by omega) ho (hr.below h))
  have hNl := val_lt ho
  rw [hn] at hNl
  have hDl := limbs_len_le ho'
  rw [hn'] at hDl
  have HRX := Lib.hid (fun W (h : Below w.heap.size w W) => hr.below h)
  have HRY := Lib.hid (fun W (h : Below w.heap.size w W) => hr'.below h)
  have HOX := Lib.hid ho; have HOY := Lib.hid ho'; have HNX := Lib.hid hn; have HNY := Lib.hid hn'
  have HBIT := Lib.hid (bit_limb ho)
  clear hn hn' ho ho' hr hr'
  have HVY := Lib.hid (rfl : val ys = val ys)
  generalize hN : val xs = N at *
  have HN := Lib.hid hN; clear hN
  generalize hD : val ys = D at HVY KN ⊢ hDl
  have HD := Lib.hid hD; clear hD HVY
  by_cases h0 : D = 0
  · subst h0
    go_enter Tryd.func13, Tryd.ntmps13
    go_wp2_with fail
    refine KN.out.mono ?_
    rintro e w1 hg
    obtain ⟨v, rfl, ho, hb⟩ := hg
    rw [limbs_zero] at ho
    obtain ⟨ad1, cap1, rfl, _, _, _⟩ := ho.view
    have HB := Lib.hid hb; clear hb ho
    go_wp2
    go_ret2
    exact ⟨_, _, rfl, by rw [Nat.div_zero, limbs_zero]; exact Own.nil _ _, by unfold rmN; rw [if_pos rfl, limbs_zero]; exact Own.nil _ _, HB.out⟩
  · have hDp : 0 < D := by omega
    have hlen : (limbs D).length ≠ 0 := fun h => h0 ((limbs_nil_iff D).1 (List.eq_nil_of_length_eq_zero h))
    go_enter Tryd.func13, Tryd.ntmps13
    go_wp2_with fail
    refine KN.out.mono ?_
    rintro e w1 hg
    obtain ⟨v, rfl, ho, hb⟩ := hg
    obtain ⟨ad1, cap1, rfl, _, _, _⟩ := ho.view
    have HB1 := Lib.hid hb; clear hb ho
    have hlz : (((limbs D).length : Int) == 0) = false := by rw [beq_eq_false_iff_ne]; omega
    have HDL := Lib.hid hDl
    generalize (limbs D).length = dl at hlz hlen hDl ⊢
    go_wp2_with (at_make; refine wpl_make _ rfl _ _ rfl _ _ _ _ n rfl rfl rfl rfl (by omega) ?_; intro w2 hB2 hb2)
    have HB2 := Lib.hid (below_on HB1.out hb2)
    have HQ := Lib.hid hB2
    have HG := Lib.hid (show w.heap.size ≤ w1.heap.size from HB1.out.size)
    clear hb2 hlz hlen hDl
    go_wp2_with fail
    refine (KB.out w2 HB2.out).mono ?_
    rintro e w3 ⟨rfl, hb3⟩
    have HQ3 := Lib.hid (hB2.below hb3 hB2.lt)
    have HB3 := Lib.hid (below_on HB2.out hb3)
    have hG3 := Nat.lt_of_lt_of_le hB2.lt hb3.size
    clear hb3 hB2
    generalize hGG : w1.heap.size = G at *
    have HGG := Lib.hid hGG; clear hGG
    have hbn : bitsN N ≤ 32 * n := by
      by_cases h : N = 0
      · rw [h, bitsN_z]; omega
      · obtain ⟨t, e1, e2, e3⟩ := bitsN_bounds h
        have e : B32 ^ n = 2 ^ (32 * n) := by rw [Nat.pow_mul]; rfl
        rw [e] at hNl
        rw [e1]
        rcases Nat.lt_or_ge t (32 * n) with h4 | h4
        · omega
        · have := Nat.pow_le_pow_right (show 0 < 2 by decide) h4; omega
    have hNz : N / 2 ^ bitsN N = 0 := by
      by_cases h : N = 0
      · rw [h]; simp
      · obtain ⟨t, e1, e2, e3⟩ := bitsN_bounds h
        rw [e1]; exact Nat.div_eq_of_lt e3
    have HST := Lib.hid (show DvRel G n (bitsN N) N D w3 (bitsN N) (.slice none 0 0) (.int .i64 ((bitsN N : Int) - 1)) w3 from
      ⟨bitsN N, List.replicate n 0, Nat.le_refl _, Nat.le_refl _, rfl, by rw [hNz, Nat.zero_mod, limbs_zero]; exact Own.nil _ _, HQ3.out, List.length_replicate, Okl.replicate _, by rw [val_replicate, hNz, Nat.zero_div, Nat.zero_mul], Below.refl _ _⟩)
    clear hNz hNl
    generalize bitsN N = bn at *
    go_wp2
    go_loopg [7, 8] bn (fun g rem i wr => DvRel G n bn N D w3 g rem i wr)
    case atStart => exact HST.out
    case round =>
      obtain ⟨j, Q, hk, hj, rfl, hown, hbk, hql, hqo, hqv, hbl⟩ := hrel
      have hblw : Below w.heap.size w wr := HB3.out.trans (hbl.mono HG.out)
      have HBW := Lib.hid hblw
      have HOWN := Lib.hid hown; have HBK := Lib.hid hbk; have HBL := Lib.hid hbl; have HQL := Lib.hid hql; have HQO := Lib.hid hqo; have HQV := Lib.hid hqv
      clear hown hbk hbl hql hqo hqv hblw
      rcases j with _ | j
      · have hz : ¬ (0 : Int) ≤ ((0 : Nat) : Int) - 1 := by omega
        rw [show (((0 : Nat) : Int) - 1) = -1 from rfl]
        have hv := HQV.out
        rw [Nat.pow_zero, Nat.div_one, Nat.mul_one] at hv
        have ho2 := HOWN.out
        rw [Nat.pow_zero, Nat.div_one] at ho2
        have hownq := HBK.out.own (B := w.heap.size) HG.out HQO.out Q.length Q.length (Nat.le_refl _) (by simp) (by rw [HQL.out]; unfold maxLen; omega)
        rw [List.take_length] at hownq
        have KF := Lib.hid (refNorm_at hownq (by rw [HQL.out]; omega))
        rw [hv, HQL.out] at KF
        have HO2 := Lib.hid ho2
        clear hv ho2 hownq
        go_wp2_with fail
        refine KF.out.mono ?_
        rintro e w' hg
        obtain ⟨v, rfl, h1, h2⟩ := hg
        have HF := Lib.hid (show QuoPost N D w (.returned (.tuple #[v, u7])) w' from
          ⟨v, u7, rfl, h1.mono HBW.out.size, by unfold rmN; rw [if_neg h0]; exact (HO2.out.below h2).mono (Nat.le_succ_of_le HG.out), below_on HBW.out h2⟩)
        clear h1 h2
        go_wp2
        go_ret2
        exact HF.out
      · obtain ⟨g, rfl⟩ : ∃ g, gk = g + 1 := ⟨gk - 1, by omega⟩
        rw [show (((j + 1 : Nat) : Int) - 1) = (j : Int) by omega]
        have hrlt : N / 2 ^ (j + 1) % D < D := Nat.mod_lt _ hDp
        have hll := limbs_small2 (M := N / 2 ^ (j + 1) % D) (by omega) HDL.out
        have KS := Lib.hid (refShift_at HOWN.out (by omega))
        rw [val_limbs] at KS
        go_wp2_with fail
        refine KS.out.mono ?_
        rintro e w4 hg
        obtain ⟨v4, rfl, h1, h2⟩ := hg
        have HB4 := Lib.hid h2
        have H4 := Lib.hid (h1.mono (show G + 1 ≤ wr.heap.size from HBK.out.lt))
        have hx := HOX.out.getD (j / 32)
        obtain ⟨b1, o1, hd1, _, cc⟩ := HRX.out w4 (below_on HBW.out h2) (j / 32) (by rw [HNX.out]; omega)
        clear h1 h2
        subst hd1
        have hbit := HBIT.out j
        have hq0 : (j : Int) / 32 = ((j / 32 : Nat) : Int) := by omega
        have hr0 : (j : Int) % 32 = ((j % 32 : Nat) : Int) := by omega
        have hqb : j / 32 < n := by omega
        have hand := and_oneb (xs.getD (j / 32) 0) (j % 32) (by rw [B32_eq] at hx; exact hx)
        rw [hbit] at hand
        have hbt : N / 2 ^ j % 2 = 0 ∨ N / 2 ^ j % 2 = 1 := by omega
        obtain ⟨M, hMM⟩ : ∃ M, M = 2 * (N / 2 ^ (j + 1) % D) + N / 2 ^ j % 2 := ⟨_, rfl⟩
        have hM := Lib.hid (show (limbs M).length ≤ n' + 1 from limbs_small2 (D := D) (by omega) HDL.out)
        have HMM := Lib.hid hMM
        have hql := HQL.out
        have hzl : Q.getD (j / 32) 0 < 4294967296 := HQO.out.getD _
        have hqz := quo_limb HQO.out (by rw [hql]; exact hqb) HQV.out
        have hrr : j % 32 < 32 := Nat.mod_lt _ (by decide)
        have hroom := limb_room hrr hzl hqz
        have hor := or_bit hrr hzl hqz
        have hva := val_set_add Q (j / 32) (2 ^ (j % 32)) (by rw [hql]; exact hqb)
        rw [two_split j] at hva
        have hsh : IntKind.u32.wrap (2 ^ (j % 32) : Int) = ((2 ^ (j % 32) : Nat) : Int) := by
          have h2 : 2 ^ (j % 32) < 4294967296 := Nat.lt_of_lt_of_le (Nat.pow_lt_pow_right (by decide) hrr) (by decide)
          have e : (2 ^ (j % 32) : Int) = ((2 ^ (j % 32) : Nat) : Int) := by simp
          rw [e, show IntKind.u32.wrap ((2 ^ (j % 32) : Nat) : Int) = ((2 ^ (j % 32) : Nat) : Int) % 4294967296 by simp [IntKind.wrap, IntKind.bits, IntKind.signed]]
          omega
        have HROOM := Lib.hid hroom; have HOR := Lib.hid hor; have HVA := Lib.hid hva; have HSH := Lib.hid hsh
        clear hbit hx hql hzl hqz hroom hor hva hsh
        generalize xs.getD (j / 32) 0 = x at *
        generalize j / 32 = q at *
        generalize j % 32 = r at *
        rcases hbt with hb0 | hb1
        · rw [hb0] at hand
          have H5e : M = 2 * (N / 2 ^ (j + 1) % D) := by omega
          have HB5 := HB4
          have H5 := H4
          rw [← H5e] at H5
          clear H5e hMM hb0 hrlt
          obtain ⟨v5, hv5⟩ : ∃ v5, v5 = v4 := ⟨_, rfl⟩
          obtain ⟨w5, hw5⟩ : ∃ w5, w5 = w4 := ⟨_, rfl⟩
          subst hv5 hw5
          go_upto_region 11 with fail
          have HW5 := Lib.hid (below_on HBW.out HB5.out)
          have KC := Lib.hid (refCmp_at H5.out (by have := hM.out; omega) ad' n' cap' ys HNY.out hcap' (by omega) HOY.out (HRY.out w5 HW5.out))
          rw [val_limbs, HD.out] at KC
          by_cases hge : D ≤ M
          · have hc0 : decide (0 ≤ cmpN M D) = true := by
              rcases Nat.lt_or_ge D M with h | h
              · rw [cmpN_gt h]; decide
              · rw [show M = D by omega, cmpN_eq]; decide
            have hstep := dv_yes hDp HQV.out (by rw [← HMM.out]; exact hge)
            rw [← HMM.out] at hstep
            have HS1 := Lib.hid hstep.1; have HS2 := Lib.hid hstep.2
            clear hstep hge
            generalize cmpN M D = cv at *
            go_wp2_with fail
            refine KC.out.mono ?_
            rintro e w6 ⟨rfl, h6⟩
            have HB6 := Lib.hid (below_on HB5.out h6)
            have H6 := Lib.hid (H5.out.below h6)
            clear h6
            have KS2 := Lib.hid (refSub_at H6.out (by have := hM.out; omega) ad' n' cap' ys HNY.out hcap' (by omega) HOY.out (HRY.out w6 (below_on HBW.out HB6.out)))
            rw [val_limbs, HD.out, HS1.out] at KS2
            go_wp2_with fail
            refine KS2.out.mono ?_
            rintro e w7 hg
            obtain ⟨v7, rfl, h71, h72⟩ := hg
            have HB7 := Lib.hid (below_on HB6.out h72)
            have H7 := Lib.hid (h71.mono (show G + 1 ≤ w6.heap.size from Nat.le_trans HBK.out.lt HB6.out.size))
            clear h71 h72
            have hbk7 := HBK.out.below HB7.out HBK.out.lt
            have hql := HQL.out
            have hcq := hbk7.cell q (by rw [hql]; exact hqb)
            have hfq := hbk7.free q
            have hor := HOR.out
            have hsh := HSH.out
            have hva := HVA.out
            rw [HS2.out] at hva
            have HNEW := Lib.hid (show DvRel G n bn N D w3 g v7 (.int .i64 ((j : Int) - 1)) (w7.setCell ⟨G, q, none⟩ (.int .u32 ((Q.getD q 0 + 2 ^ r : Nat) : Int))) from by
              rw [set_blk hbk7 _ _ (by rw [hql]; exact hqb)]
              exact ⟨j, _, by omega, by omega, rfl, own_put H7.out (by omega), put_blk _ _ hbk7.lt, by rw [List.length_set]; exact hql, HQO.out.set _ _ (by rw [B32_eq]; exact HROOM.out), hva, put_below (HBL.out.trans (HB7.out.mono (Nat.le_of_lt HBK.out.lt))) (Nat.le_refl _) _ _⟩)
            clear hva hbk7 hql
            generalize Q.getD q 0 = z at *
            go_wp2
            go_roundg g
            case rel => rw [show ((2 : Int) ^ r) = ((2 ^ r : Nat) : Int) by simp, HOR.out]; exact HNEW.out
            case measure => omega
          · have hc0 : decide (0 ≤ cmpN M D) = false := by
              rw [cmpN_lt (by omega)]; decide
            have hstep := dv_no hDp HQV.out (by rw [← HMM.out]; exact hge)
            rw [← HMM.out] at hstep
            have HNEW := Lib.hid (fun W (h6 : Below w5.heap.size w5 W) => (⟨j, Q, by omega, by omega, rfl, hstep.1 ▸ H5.out.below h6, HBK.out.below (below_on HB5.out h6) HBK.out.lt, HQL.out, HQO.out, hstep.2, HBL.out.trans ((below_on HB5.out h6).mono (Nat.le_of_lt HBK.out.lt))⟩ : DvRel G n bn N D w3 g v5 (.int .i64 ((j : Int) - 1)) W))
            clear hstep hge
            generalize cmpN M D = cv at *
            go_wp2_with fail
            refine KC.out.mono ?_
            rintro e w6 ⟨rfl, h6⟩
            have HN6 := Lib.hid (HNEW.out w6 h6)
            clear h6
            go_wp2
            go_roundg g
            case rel => exact HN6.out
            case measure => omega
        · rw [hb1] at hand
          have H5e : 2 * (N / 2 ^ (j + 1) % D) + 1 = M := by omega
          have KA := Lib.hid (refAdd_at (x := 1) (g := w4.heap.size) (H4.out.below ((Below.refl _ w4).alloc (Nat.le_refl _) (.cells #[.int .u32 1] 23))) (by
            have := limbs_small2 (M := 2 * (N / 2 ^ (j + 1) % D)) (D := D) (by omega) HDL.out; omega) (by decide) (by simp))
          rw [val_limbs, H5e] at KA
          clear H5e hMM hb1 hrlt
          go_wp2_with fail
          refine KA.out.mono ?_
          rintro e w5 hg
          obtain ⟨v5, rfl, h51, h52⟩ := hg
          have hb5 := below_on HB4.out (below_on ((Below.refl _ w4).alloc (Nat.le_refl _) (.cells #[.int .u32 1] 23)) h52)
          have HB5 := Lib.hid hb5
          have H5 := Lib.hid (h51.mono (show G + 1 ≤ (w4.alloc (.cells #[.int .u32 1] 23)).heap.size from Nat.le_trans HBK.out.lt (Nat.le_trans HB4.out.size (by simp))))
          clear h51 h52 hb5
          have HW5 := Lib.hid (below_on HBW.out HB5.out)
          have KC := Lib.hid (refCmp_at H5.out (by have := hM.out; omega) ad' n' cap' ys HNY.out hcap' (by omega) HOY.out (HRY.out w5 HW5.out))
          rw [val_limbs, HD.out] at KC
          by_cases hge : D ≤ M
          · have hc0 : decide (0 ≤ cmpN M D) = true := by
              rcases Nat.lt_or_ge D M with h | h
              · rw [cmpN_gt h]; decide
              · rw [show M = D by omega, cmpN_eq]; decide
            have hstep := dv_yes hDp HQV.out (by rw [← HMM.out]; exact hge)
            rw [← HMM.out] at hstep
            have HS1 := Lib.hid hstep.1; have HS2 := Lib.hid hstep.2
            clear hstep hge
            generalize cmpN M D = cv at *
            go_wp2_with fail
            refine KC.out.mono ?_
            rintro e w6 ⟨rfl, h6⟩
            have HB6 := Lib.hid (below_on HB5.out h6)
            have H6 := Lib.hid (H5.out.below h6)
            clear h6
            have KS2 := Lib.hid (refSub_at H6.out (by have := hM.out; omega) ad' n' cap' ys HNY.out hcap' (by omega) HOY.out (HRY.out w6 (below_on HBW.out HB6.out)))
            rw [val_limbs, HD.out, HS1.out] at KS2
            go_wp2_with fail
            refine KS2.out.mono ?_
            rintro e w7 hg
            obtain ⟨v7, rfl, h71, h72⟩ := hg
            have HB7 := Lib.hid (below_on HB6.out h72)
            have H7 := Lib.hid (h71.mono (show G + 1 ≤ w6.heap.size from Nat.le_trans HBK.out.lt HB6.out.size))
            clear h71 h72
            have hbk7 := HBK.out.below HB7.out HBK.out.lt
            have hql := HQL.out
            have hcq := hbk7.cell q (by rw [hql]; exact hqb)
            have hfq := hbk7.free q
            have hor := HOR.out
            have hsh := HSH.out
            have hva := HVA.out
            rw [HS2.out] at hva
            have HNEW := Lib.hid (show DvRel G n bn N D w3 g v7 (.int .i64 ((j : Int) - 1)) (w7.setCell ⟨G, q, none⟩ (.int .u32 ((Q.getD q 0 + 2 ^ r : Nat) : Int))) from by
              rw [set_blk hbk7 _ _ (by rw [hql]; exact hqb)]
              exact ⟨j, _, by omega, by omega, rfl, own_put H7.out (by omega), put_blk _ _ hbk7.lt, by rw [List.length_set]; exact hql, HQO.out.set _ _ (by rw [B32_eq]; exact HROOM.out), hva, put_below (HBL.out.trans (HB7.out.mono (Nat.le_of_lt HBK.out.lt))) (Nat.le_refl _) _ _⟩)
            clear hva hbk7 hql
            generalize Q.getD q 0 = z at *
            go_wp2
            go_roundg g
            case rel => rw [show ((2 : Int) ^ r) = ((2 ^ r : Nat) : Int) by simp, HOR.out]; exact HNEW.out
            case measure => omega
          · have hc0 : decide (0 ≤ cmpN M D) = false := by
              rw [cmpN_lt (by omega)]; decide
            have hstep := dv_no hDp HQV.out (by rw [← HMM.out]; exact hge)
            rw [← HMM.out] at hstep
            have HNEW := Lib.hid (fun W (h6 : Below w5.heap.size w5 W) => (⟨j, Q, by omega, by omega, rfl, hstep.1 ▸ H5.out.below h6, HBK.out.below (below_on HB5.out h6) HBK.out.lt, HQL.out, HQO.out, hstep.2, HBL.out.trans ((below_on HB5.out h6).mono (Nat.le_of_lt HBK.out.lt))⟩ : DvRel G n bn N D w3 g v5 (.int .i64 ((j : Int) - 1)) W))
            clear hstep hge
            generalize cmpN M D = cv at *
            go_wp2_with fail
            refine KC.out.mono ?_
            rintro e w6 ⟨rfl, h6⟩
            have HN6 := Lib.hid (HNEW.out w6 h6)
            clear h6
            go_wp2
            go_roundg g
            case rel => exact HN6.out
            case measure => omega
end Go.Proofs.YteaeecnpggoioaaDoor
