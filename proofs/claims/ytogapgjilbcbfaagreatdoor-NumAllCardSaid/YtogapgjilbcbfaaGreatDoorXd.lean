/- For the law NumAll: the reference's Int. -/
import Derived.Test.YtogapgjilbcbfaaGreatDoorXc
namespace Go.Proofs.YtogapgjilbcbfaaGreatDoor
open Go.RowKit Go.Sort
set_option linter.unusedVariables false
set_option linter.unusedSimpArgs false

theorem bits_far {ng : Bool} {xs : List Nat} {e : Int} {t : Nat} (hc : chkB ng xs e = true) (ho : Okl xs) (he : e ≠ 0) (ht : 150 < t) : ¬ bitsN (val xs * tenN t) ≤ 400 := by
  intro h
  have hN : val xs ≠ 0 := fun h0 => by
    have hx := chkB_limbs ho hc
    rw [h0, limbs_zero] at hx
    rw [← hx] at hc
    exact he (chkB_zero hc).2
  have h1 : val xs * tenN t < 2 ^ bitsN (val xs * tenN t) := by
    obtain ⟨b, hb1, _, hb2⟩ := bitsN_bounds (Nat.mul_ne_zero hN (tenN_ne t))
    rw [hb1]; exact hb2
  obtain ⟨K, hK⟩ : ∃ K : Nat, K = 200 := ⟨_, rfl⟩
  have h2 : 2 ^ bitsN (val xs * tenN t) ≤ 2 ^ (K + K) := Nat.pow_le_pow_right (by decide) (by omega)
  have h3 : tenN 151 ≤ tenN t := tenN_le (by omega)
  have h4 : 2 ^ 200 * 2 ^ 200 ≤ tenN 151 := by unfold tenN; decide +kernel
  rw [Nat.pow_add, hK] at h2
  have h5 : tenN t ≤ val xs * tenN t := Nat.le_mul_of_pos_left _ (Nat.pos_of_ne_zero hN)
  omega

set_option maxHeartbeats 8000000 in
set_option maxRecDepth 100000 in
theorem rint_core (pa : Bool) (ta : Value) (xa : Int) (ng : Bool) (ad : Option Addr) (n cap : Nat) (xs : List Nat) (e : Int) (w : World) (ha : NumOk w ng ad n cap xs e)
    (KA : ∀ W, Below w.heap.size w W → Calls Tryz.prog 31 #[.agg #[.bool pa, ta, .int .i64 xa]] W (NumBelow ng (.slice ad n cap) e W)) (hta : ∃ a b c, ta = .slice a b c) :
    Calls Tryz.prog 11 #[.agg #[.bool pa, ta, .int .i64 xa]] w (IntP ng (val xs) e w) := by
  obtain ⟨a0, b0, c0, rfl⟩ := hta
  have hbl := below_box w #[.bool pa, .slice a0 b0 c0, .int .i64 xa] 24
  have HB := Lib.hid hbl
  have KAH := Lib.hid (KA _ hbl)
  have hlo := ha.lo
  have h90 := ha.n90
  have hxs : limbs (val xs) = xs := chkB_limbs ha.ok ha.chk
  have hxl : (limbs (val xs)).length ≤ 90 := by rw [hxs, ha.len]; exact h90
  have HA := Lib.hid ha
  clear hbl KA ha
  go_enter Tryz.func11, Tryz.ntmps11
  go_wp2_with fail
  refine KAH.out.mono ?_
  rintro r w1 ⟨rfl, hb1⟩
  have hbx := below_box w1 #[.bool ng, .slice ad n cap, .int .i64 e] 24
  have HBZ := Lib.hid (below_on (below_on HB.out hb1) hbx)
  have hwz : w.heap.size ≤ w1.heap.size := (below_on HB.out hb1).size
  clear hb1 hbx
  go_upto_region 2 with fail
  obtain ⟨zs, z0, z1, z2⟩ := bx_new w1 ng (.slice ad n cap) e
  generalize hG : w1.heap.size = G at *
  clear hG
  generalize w1.alloc (.cells #[.bool ng, .slice ad n cap, .int .i64 e] 24) = W0 at *
  by_cases he : e < 0
  · have HE := Lib.hid (show ¬ (0 ≤ e ∧ bitsN (val xs * tenN e.toNat) ≤ 400) from fun h => by omega)
    go_wp2_with fail
    go_ret3
    exact ⟨HBZ.out, by rw [if_neg HE.out]; rfl⟩
  · obtain ⟨t, rfl⟩ : ∃ t : Nat, e = (t : Int) := ⟨e.toNat, by omega⟩
    have ht : t ≤ 1200 := by omega
    by_cases h150 : 150 < t
    · have h150z : (150 : Int) < (t : Int) := by omega
      have het : ¬ ((t : Int) < 0) := he
      have HE := Lib.hid (show ¬ ((0 : Int) ≤ (t : Int) ∧ bitsN (val xs * tenN (t : Int).toNat) ≤ 400) from fun h => by
        rw [Int.toNat_natCast] at h
        exact bits_far HA.out.chk HA.out.ok (by omega) h150 h.2)
      clear he
      go_wp2_with fail
      go_ret3
      exact ⟨HBZ.out, by rw [if_neg HE.out]; rfl⟩
    have h150z : ¬ (150 : Int) < (t : Int) := by omega
    have KP := Lib.hid (fun (W : World) => (show Calls Tryz.prog 33 #[.int .u32 10, .int .i64 (t : Int)] W (Gives (tenN t) W) from by
      have K := refPow_any 10 (t : Int) W (by decide) (by omega)
      rw [cutP_nat (n := t) (by omega)] at K; exact K))
    have KM := Lib.hid (fun (W : World) (v2 : Value) (B : Nat) (hB : Below w.heap.size w W) (h : Own B W v2 (limbs (tenN t))) => (show Calls Tryz.prog 32 #[.slice ad n cap, v2] W (Gives (val xs * tenN t) W) from by
      obtain ⟨ad3, cap3, rfl, q1, q2, _⟩ := h.view
      have hl := ten_len t ht
      have K := refMul_any ad n cap xs ad3 (limbs (tenN t)).length cap3 (limbs (tenN t)) W HA.out.len HA.out.cap (by omega) HA.out.ok (HA.out.rd.below hB) rfl q1 (by omega) (limbs_ok _) q2
      rw [val_limbs] at K
      exact K))
    have KB := Lib.hid (fun (W : World) (v : Value) (B : Nat) (h : Own B W v (limbs (val xs * tenN t))) => (show Calls Tryz.prog 34 #[v] W (fun r w' => r = .returned (.int .i64 (bitsN (val xs * tenN t) : Int)) ∧ Below W.heap.size W w') from by
      obtain ⟨ad3, cap3, rfl, q1, q2, _⟩ := h.view
      have hl := prod_len hxl ht
      have K := refBits_any ad3 _ cap3 _ W rfl q1 (by omega) (limbs_ok _) q2
      rwa [val_limbs] at K))
    have HIF : Hid (IntP ng (val xs) (t : Int) w = fun r w' => Below w.heap.size w w' ∧ if (0 : Int) ≤ (t : Int) ∧ bitsN (val xs * tenN t) ≤ 400 then ∃ v, r = .returned (.tuple #[.bool ng, v, .bool true]) ∧ Own w.heap.size w' v (limbs (val xs * tenN t)) else r = .returned (.tuple #[.bool false, .slice none 0 0, .bool false])) := rfl
    have het : ¬ ((t : Int) < 0) := he
    clear he hxl hxs
    generalize val xs * tenN t = PK at *
    go_upto_region 4 with fail
    go_region_held_law (fun w' => w'.cell? ⟨G, 1, none⟩ = some (.slice ad n cap) ∧ w'.cell? ⟨G, 2, none⟩ = some (.int .i64 (t : Int))) (first | exact ⟨x1, x2⟩ | go_keep) (first | (refine step_callX rfl 33 _ Tryz.func33 (by kernel_rfl) (by kernel_rfl) _ _ rfl #[.int .u32 10, .int .i64 (t : Int)] (by simp [Act.eval, Act.put]) (KP.out _) ?_; rintro r w2 ⟨v2, rfl, ho2, hb2⟩; have hB2 := below_on (below_drew HBZ.out) hb2; have x0 := (hb2.cell (p := ⟨G, 0, none⟩) zs).trans z0; have x1 := (hb2.cell (p := ⟨G, 1, none⟩) zs).trans z1; have x2 := (hb2.cell (p := ⟨G, 2, none⟩) zs).trans z2; have xs2 := Nat.lt_of_lt_of_le zs hb2.size; refine ⟨_, rfl, ?_⟩) | (refine step_callX rfl 32 _ Tryz.func32 (by kernel_rfl) (by kernel_rfl) _ _ rfl #[.slice ad n cap, v2] (by simp [Act.eval, Act.put]) (KM.out _ v2 _ hB2 ho2) ?_; rintro r w3 ⟨v3, rfl, ho3, hb3⟩; have hB3 := below_on hB2 hb3; have y0 := (hb3.cell (p := ⟨G, 0, none⟩) xs2).trans x0; have x1 := (hb3.cell (p := ⟨G, 1, none⟩) xs2).trans x1; have x2 := (hb3.cell (p := ⟨G, 2, none⟩) xs2).trans x2; refine ⟨_, rfl, ?_⟩))
    all_goals
      have KB2 := Lib.hid (KB.out _ _ _ ho3)
      have y0s := Nat.lt_of_lt_of_le xs2 hb3.size
      have HO3 := Lib.hid (ho3.mono (Nat.le_trans hwz (Nat.le_of_lt xs2)))
      have HB3 := Lib.hid hB3
      clear ho3 hB3 hb3 hB2 hb2 ho2
      go_wp2_with fail
      refine KB2.out.mono ?_
      rintro r w4 ⟨rfl, hb4⟩
      have v0 := (hb4.cell (p := ⟨G, 0, none⟩) y0s).trans y0
      replace HO3 := Lib.hid (HO3.out.below hb4)
      replace HB3 := Lib.hid (below_on HB3.out hb4)
      clear hb4
      by_cases hbt : bitsN PK ≤ 400
      · have hbz : ¬ (400 : Int) < (bitsN PK : Int) := by omega
        have HIF2 := Lib.hid (show (0 : Int) ≤ (t : Int) ∧ bitsN PK ≤ 400 from ⟨by omega, hbt⟩)
        clear hbt
        generalize bitsN PK = bk at *
        go_wp2_with fail
        go_ret3
        rw [HIF.out]
        exact ⟨HB3.out, by rw [if_pos HIF2.out]; exact ⟨_, rfl, HO3.out⟩⟩
      · have hbz : (400 : Int) < (bitsN PK : Int) := by omega
        have HIF2 := Lib.hid (show ¬ ((0 : Int) ≤ (t : Int) ∧ bitsN PK ≤ 400) from fun h => hbt h.2)
        clear hbt
        generalize bitsN PK = bk at *
        go_wp2_with fail
        go_ret3
        rw [HIF.out]
        exact ⟨HB3.out, by rw [if_neg HIF2.out]; rfl⟩
end Go.Proofs.YtogapgjilbcbfaaGreatDoor
