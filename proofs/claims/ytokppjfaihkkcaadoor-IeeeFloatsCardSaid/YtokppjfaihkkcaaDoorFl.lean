/- The walk of the law IeeeFloats. -/
import Derived.Test.YtokppjfaihkkcaaDoorFr
import Derived.Test.YtokppjfaihkkcaaDoorFi
import Derived.Deep.DeepCutAuto
namespace Go.Proofs.YtokppjfaihkkcaaDoor
open Go.RowKit Go.Sort
set_option linter.unusedVariables false
set_option linter.unusedSimpArgs false

theorem float_bd {b : Nat} (h : (Lit.float .f64 b).wf = true) : b < 18446744073709551616 := by
  have h2 : FloatKind.f64.format.width = 64 := by decide
  simp only [Lit.wf, decide_eq_true_eq] at h
  exact h
theorem make_room {k e : Nat} (hk : k < 1125899906842624) (he : e ≤ 20) (h0 : k ≠ 0) : (limbs (trimM (k * 5 ^ e))).length ≤ 90 ∧ trimK (k * 5 ^ e) ≤ 100 := by
  have h5 : 5 ^ e ≤ 5 ^ 20 := Nat.pow_le_pow_right (by decide) he
  have hN : k * 5 ^ e < 2 ^ 128 := Nat.lt_of_lt_of_le (Nat.mul_lt_mul_of_lt_of_le hk h5 (by decide)) (by decide)
  have hne : k * 5 ^ e ≠ 0 := Nat.mul_ne_zero h0 (by have := five_pos e; omega)
  obtain ⟨a, b⟩ := trim_spec hne
  generalize k * 5 ^ e = N at *
  have hm0 : 1 ≤ trimM N := by
    rcases Nat.eq_zero_or_pos (trimM N) with h | h
    · rw [h] at b; exact absurd rfl b
    · exact h
  constructor
  · have h1 : trimM N ≤ N := by
      have := Nat.le_mul_of_pos_right (trimM N) (Nat.pos_of_ne_zero (tenN_ne (trimK N)))
      omega
    have : (limbs (trimM N)).length ≤ 4 := limbs_length_le (Nat.lt_of_le_of_lt h1 (Nat.lt_of_lt_of_le hN (by rw [B32_eq]; decide)))
    omega
  · rcases Nat.lt_or_ge 100 (trimK N) with h | h
    · exfalso
      have h1 : tenN 100 ≤ tenN (trimK N) := Nat.pow_le_pow_right (by decide) (by omega)
      have h2 : tenN (trimK N) ≤ N := by
        have := Nat.le_mul_of_pos_left (tenN (trimK N)) hm0
        omega
      have h3 : (2 : Nat) ^ 128 ≤ tenN 100 := by unfold tenN; decide +kernel
      omega
    · exact h
theorem float_make {k e : Nat} (hk : k < 1125899906842624) (he : e < 30) : ∃ M E, FloatIs (ldW k e) M E ∧ (e ≤ 20 → ∀ (W : World) (l : List Ent) (v : Value) (xs : List Nat), Ctx W W (⟨v, 4, k * 5 ^ e, xs⟩ :: l) →
    Calls Tryd.prog 27 #[.bool false, v, .int .i64 (-(e : Int))] W (MadePost W (⟨v, 4, k * 5 ^ e, xs⟩ :: l) 4 false M E true)) := by
  by_cases h0 : k = 0
  · subst h0
    refine ⟨0, 0, by unfold ldW; rw [if_pos rfl]; exact float_zero, fun _ W l v xs h => ?_⟩
    rw [Nat.zero_mul] at h ⊢
    exact refMake_zero h 0 rfl (by decide) false _
  · refine ⟨_, _, ldW_is h0 hk he, fun h20 W l v xs h => ?_⟩
    have hne : k * 5 ^ e ≠ 0 := Nat.mul_ne_zero h0 (by have := five_pos e; omega)
    obtain ⟨r1, r2⟩ := make_room hk h20 h0
    obtain ⟨a, b⟩ := trim_spec hne
    exact refMake_yes h 0 rfl (by decide) false _ _ _ a b r1 _ (by omega) (by omega) (by omega)

def p5 (j : Nat) : Nat := 5 ^ j % 18446744073709551616
theorem p5_one : p5 1 = 5 := by decide
theorem p5_lt (j : Nat) : p5 j < 18446744073709551616 := Nat.mod_lt _ (by decide)
theorem p5_step (j : Nat) : p5 j * 5 % 18446744073709551616 = p5 (j + 1) := by unfold p5; rw [Nat.pow_succ, Nat.mod_mul_mod]
theorem p5_small {j : Nat} (h : j ≤ 20) : p5 j = 5 ^ j := by
  unfold p5
  exact Nat.mod_eq_of_lt (Nat.lt_of_le_of_lt (Nat.pow_le_pow_right (by decide) h) (by decide))
theorem p5_wrap (j : Nat) : IntKind.u64.wrap ((p5 j : Int) * 5) = (p5 (j + 1) : Int) := by
  have h := p5_step j
  generalize p5 (j + 1) = b at *
  generalize p5 j = a at *
  rw [show IntKind.u64.wrap ((a : Int) * 5) = ((a : Int) * 5) % 18446744073709551616 by simp [IntKind.wrap, IntKind.bits, IntKind.signed]]
  omega
def P5 (e : Nat) (w : World) (p i : Value) (wr : World) : Prop := ∃ j : Nat, 1 ≤ j ∧ (j ≤ e ∨ j = 1) ∧ i = .int .i64 (j : Int) ∧ p = .int .u64 (p5 j : Int) ∧ wr = w

set_option maxHeartbeats 16000000 in
set_option maxRecDepth 100000 in
theorem ieeeFloats_walk (b : Nat) (v n : Int) (w : World) (hb : b < 18446744073709551616) (hv : -9223372036854775808 ≤ v ∧ v ≤ 9223372036854775807) (hn : -9223372036854775808 ≤ n ∧ n ≤ 9223372036854775807) (hD : DB w) :
    Calls Tryd.prog 5 #[.float .f64 b, .int .i64 v, .int .i64 n] w (BoolBelow true w) := by
  have KA := Lib.hid (fun W (h : Below w.heap.size w W) => awake3_any W (hD.below h))
  have K1 := Lib.hid (float_any (Ctx.begin w) b hb)
  have K2 := Lib.hid (fun W l (h : Ctx W W l) => exact_all h 64 b hb)
  have KN := Lib.hid (fun W => isNaN_any b W)
  have KI := Lib.hid (fun W => isInf_any b hb W)
  have HOK := Lib.hid (show okW 64 b = !(nanB b || infB b) from ok_none b)
  have hr := fun W => run_bits b W
  have KP := Lib.hid (fun W => place_wide v 1125899906842624 W hv (by omega))
  have KQ := Lib.hid (fun W => place_wide n 30 W hn (by omega))
  have hp1 := Int.emod_nonneg v (show (1125899906842624 : Int) ≠ 0 by decide)
  have hp2 := Int.emod_lt_of_pos v (show (0 : Int) < 1125899906842624 by decide)
  have hq1 := Int.emod_nonneg n (show (30 : Int) ≠ 0 by decide)
  have hq2 := Int.emod_lt_of_pos n (show (0 : Int) < 30 by decide)
  generalize v % 1125899906842624 = vk at *
  generalize n % 30 = ve at *
  obtain ⟨k, rfl⟩ : ∃ k : Nat, vk = (k : Int) := ⟨vk.toNat, by omega⟩
  obtain ⟨e, rfl⟩ : ∃ e : Nat, ve = (e : Int) := ⟨ve.toNat, by omega⟩
  have hk : k < 1125899906842624 := by omega
  have he : e < 30 := by omega
  obtain ⟨M, E, hF, hMK⟩ := float_make hk he
  have KL := Lib.hid (fun W => ldexp_all k e hk he W)
  have KF := Lib.hid (fun W l (h : Ctx W W l) => (show Calls Tryd.prog 21 #[.float .f64 (ldW k e)] W (MadePost W l 2000 false M E true) from by
    have h1 := float_any h (ldW k e) (by have := ldW_lt (e := e) hk; omega)
    rwa [hF.neg, hF.mag, hF.exp, hF.ok] at h1))
  have HMK := Lib.hid hMK
  clear hF hMK hD hv hn hp1 hp2 hq1 hq2
  generalize exNegW 64 b = ng at *
  generalize exMW 64 b = M0 at *
  generalize exEW 64 b = E0 at *
  generalize okW 64 b = ok at *
  generalize nanB b = nb at *
  generalize infB b = ib at *
  go_enter Tryd.func5, Tryd.ntmps5
  go_wp2_with fail
  refine K1.out.mono ?_
  rintro r w1 ⟨v1, rfl, h1⟩
  obtain ⟨ad1, cap1, rfl, _⟩ := h1.get 0 rfl
  have hb1 := below_box w1 #[.bool ng, .slice ad1 (limbs M0).length cap1, .int .i64 E0] 25
  have H1 := Lib.hid (h1.step hb1)
  have B1 := Lib.hid (bx_new w1 ng (.slice ad1 (limbs M0).length cap1) E0)
  clear h1 hb1
  have K2' := Lib.hid (K2.out _ _ H1.out.again)
  generalize hxs : limbs M0 = xs0 at *
  generalize hnn : xs0.length = n0 at *
  have HN0 := Lib.hid hnn; have HX0 := Lib.hid hxs
  clear hnn hxs
  go_wp2_with fail
  refine K2'.out.mono ?_
  rintro r w2 ⟨v2, rfl, h2⟩
  rw [HX0.out] at h2
  obtain ⟨ad2, cap2, hv2, _⟩ := h2.get 0 rfl
  rw [HN0.out] at hv2; subst hv2
  have hb2 := below_box w2 #[.bool ng, .slice ad2 n0 cap2, .int .i64 E0] 25
  have hb12 := below_on h2.below hb2
  have H2 := Lib.hid ((h2.on H1.out).step hb2)
  have B2 := Lib.hid (B1.out.step hb12)
  have C2 := Lib.hid (bx_new w2 ng (.slice ad2 n0 cap2) E0)
  clear h2 hb2 hb12 B1 K2' K1
  go_upto_region 3 with fail
  generalize w2.alloc (.cells #[.bool ng, .slice ad2 n0 cap2, .int .i64 E0] 25) = w3 at *
  go_cut [11] (fun s wx => s = .bool (nb || ib) ∧ wx = w3)
  case first =>
    cases nb
    · go_wp2_with fail
      refine (KN.out _).mono ?_
      rintro r w' ⟨rfl, rfl⟩
      go_wp2_with fail
      refine (KI.out _).mono ?_
      rintro r w' ⟨rfl, rfl⟩
      go_wp2_with fail
      go_meet
      exact ⟨rfl, rfl⟩
    · go_wp2_with fail
      refine (KN.out _).mono ?_
      rintro r w' ⟨rfl, rfl⟩
      go_wp2_with fail
      go_meet
      exact ⟨rfl, rfl⟩
  case rest =>
    obtain ⟨rfl, hwx⟩ := hcut
    subst hwx
    have hok := HOK.out
    generalize (nb || ib) = none at *
    have hne1 : (ok != ok) = false := by cases ok <;> rfl
    have hne2 : (ok == none) = false := by rw [hok]; cases none <;> rfl
    clear hok KN KI HOK
    obtain ⟨x1, x2, x3, x4⟩ := B2.out
    obtain ⟨y1, y2, y3, y4⟩ := C2.out
    obtain ⟨_, _, hg1, g1, g2, g3, g4, g5⟩ := H2.out.get 1 rfl
    rw [HN0.out] at hg1
    simp only [Value.slice.injEq] at hg1
    obtain ⟨rfl, hnn, rfl⟩ := hg1; clear hnn
    obtain ⟨_, _, hg2, j1, j2, j3, j4, j5⟩ := H2.out.get 0 rfl
    rw [HN0.out] at hg2
    simp only [Value.slice.injEq] at hg2
    obtain ⟨rfl, hnn, rfl⟩ := hg2; clear hnn
    have KS := Lib.hid (sameNum_any ng ad1 n0 cap1 xs0 E0 ad2 cap2 _ HN0.out (by rw [← HN0.out]; exact g1) (by rw [← HN0.out]; exact j1) (by rw [← HN0.out]; omega) g4 j4)
    clear g1 g2 g3 g4 g5 j1 j2 j3 j4 j5
    go_wp2_with fail
    refine KS.out.mono ?_
    rintro r w4 ⟨rfl, hb4⟩
    have HB4 := Lib.hid (below_on H2.out.below hb4)
    clear hb4 x1 x2 x3 x4 y1 y2 y3 y4 B2 C2 H2 KS
    go_wp2_with fail
    refine (KP.out _).mono ?_
    rintro r w' ⟨rfl, rfl⟩
    go_wp2_with fail
    refine (KQ.out _).mono ?_
    rintro r w' ⟨rfl, rfl⟩
    go_wp2_with fail
    refine (KL.out _).mono ?_
    rintro r w' ⟨rfl, rfl⟩
    go_wp2_with fail
    refine (KF.out _ [] (Ctx.begin _)).mono ?_
    rintro r w5 ⟨v5, rfl, h5⟩
    obtain ⟨ad5, cap5, rfl, _⟩ := h5.get 0 rfl
    generalize hm5 : limbs M = xs5 at *
    generalize hn5 : xs5.length = n5 at *
    have HN5 := Lib.hid hn5; have HX5 := Lib.hid hm5
    clear hn5 hm5
    have hb5 := below_box w5 #[.bool false, .slice ad5 n5 cap5, .int .i64 E] 25
    have H5 := Lib.hid (h5.step hb5)
    have B5 := Lib.hid (bx_new w5 false (.slice ad5 n5 cap5) E)
    have HB5 := Lib.hid (below_on HB4.out (h5.step hb5).below)
    clear h5 hb5 HB4 KF KL KP KQ
    go_wp2_with fail
    generalize w5.alloc (.cells #[.bool false, .slice ad5 n5 cap5, .int .i64 E] 25) = w6 at *
    go_loopw [17, 18] (fun p i wr => P5 e w6 p i wr) (fun _ i _ => e - (intOf i).toNat)
    case atStart => exact ⟨1, Nat.le_refl _, .inr rfl, rfl, by rw [p5_one]; rfl, rfl⟩
    case round =>
      obtain ⟨j, hj1, hj2, rfl, rfl, hwr⟩ := hrel
      subst hwr
      by_cases hje : j < e
      · have hjz : (j : Int) < (e : Int) := by omega
        have hw := p5_wrap j
        have hpl := p5_lt j
        generalize hpn : p5 (j + 1) = pn at *
        have HPN := Lib.hid hpn; clear hpn
        generalize p5 j = pj at *
        clear hpl
        go_wp2_with fail
        go_roundw
        case rel => exact ⟨j + 1, by omega, .inl (by omega), by go_num, by rw [HPN.out], rfl⟩
        case measure => simp [intOf]; omega
      · have hjz : ¬ (j : Int) < (e : Int) := by omega
        have hje2 : j = e ∨ (e = 0 ∧ j = 1) := by omega
        by_cases h20 : 20 < e
        · have h20z : (20 : Int) < (e : Int) := by omega
          have KA1 := Lib.hid (KA.out _ HB5.out)
          generalize p5 j = pj at *
          go_wp2_with fail
          refine KA1.out.mono ?_
          rintro r w7 ⟨rfl, hb7⟩
          have hf := Lib.hid (below_on HB5.out hb7); clear hb7
          go_wp2
          go_ret
          exact BoolBelow.mk rfl hf.out
        · have h20z : ¬ (20 : Int) < (e : Int) := by omega
          have hp5 : e ≠ 0 → p5 j = 5 ^ e := fun h => by rw [show j = e by omega]; exact p5_small (by omega)
          have HP5 := Lib.hid hp5; clear hp5
          generalize p5 j = pj at *
          go_upto_if 80 with fail
          have hf5 : (5 : Nat) ^ e < 18446744073709551616 := Nat.lt_of_le_of_lt (Nat.pow_le_pow_right (by decide) (show e ≤ 20 by omega)) (by decide)
          have HMU := Lib.hid (fun W => mul64_any k (5 ^ e) (by omega) hf5 W)
          have HZ := Lib.hid (fun (h : e = 0) => (show (5 : Nat) ^ e = 1 by rw [h]))
          have HMK2 := Lib.hid (HMK.out (by omega))
          clear hf5
          generalize (5 : Nat) ^ e = f5 at *
          go_cut [17] (fun s wx => s = .int .u64 (f5 : Int) ∧ wx = wr)
          case first =>
            by_cases he0 : e = 0
            · have hez : ((e : Int) == 0) = true := by rw [he0]; rfl
              have HE0 := Lib.hid he0; clear he0
              go_wp2_with fail
              go_meet
              exact ⟨by rw [HZ.out HE0.out]; rfl, rfl⟩
            · have hez : ((e : Int) == 0) = false := by rw [beq_eq_false_iff_ne]; omega
              have hpp := HP5.out he0
              go_wp2_with fail
              go_meet
              exact ⟨by first | rfl | rw [hpp], rfl⟩
          case rest =>
            obtain ⟨rfl, hwx⟩ := hcut
            subst hwx
            go_wp2_with fail
            refine (HMU.out _).mono ?_
            rintro r w7 ⟨v7, xs7, rfl, hl7, hv7, ho7, hb7⟩
            have H7 := Lib.hid ((H5.out.step hb7).push (ent_any (L := 4) ho7 (by omega) hv7))
            have B7 := Lib.hid (B5.out.step hb7)
            have HB7 := Lib.hid (below_on HB5.out hb7)
            have K8 := Lib.hid (HMK2.out _ _ _ _ H7.out.again)
            clear hl7 hv7 ho7 hb7 H5 B5 HB5 HMU HMK2 HMK
            go_wp2_with fail
            refine K8.out.mono ?_
            rintro r w8 ⟨v8, rfl, h8⟩
            rw [HX5.out] at h8
            obtain ⟨ad8, cap8, hv8, b1, b2, b3, b4, _⟩ := h8.get 0 rfl
            rw [HN5.out] at hv8; subst hv8
            obtain ⟨_, _, hg1, g1, g2, g3, g4, _⟩ := h8.get 2 rfl
            rw [HN5.out] at hg1
            simp only [Value.slice.injEq] at hg1
            obtain ⟨rfl, hnn, rfl⟩ := hg1; clear hnn
            have hbx := below_box w8 #[.bool false, .slice ad8 n5 cap8, .int .i64 E] 25
            have KS := Lib.hid (sameNum_any false ad5 n5 cap5 xs5 E ad8 cap8 _ HN5.out (by rw [← HN5.out]; exact g1) (by rw [← HN5.out]; exact b1) (by rw [← HN5.out]; omega) (g4.below hbx) (b4.below hbx))
            have hb78 := below_on h8.below hbx
            have B8 := Lib.hid (B7.out.step hb78)
            have C8 := Lib.hid (bx_new w8 false (.slice ad8 n5 cap8) E)
            have HB8 := Lib.hid (below_on HB7.out hb78)
            clear h8 b1 b2 b3 b4 g1 g2 g3 g4 hbx hb78 B7 HB7 H7 K8
            obtain ⟨x1, x2, x3, x4⟩ := B8.out
            obtain ⟨y1, y2, y3, y4⟩ := C8.out
            go_wp2_with fail
            refine KS.out.mono ?_
            rintro r w9 ⟨rfl, hb9⟩
            have HB9 := Lib.hid (below_on HB8.out hb9)
            have KA9 := Lib.hid (KA.out _ HB9.out)
            clear hb9 x1 x2 x3 x4 y1 y2 y3 y4 B8 C8 KS HB8
            go_wp2_with fail
            refine KA9.out.mono ?_
            rintro r w10 ⟨rfl, hb10⟩
            have hf := Lib.hid (below_on HB9.out hb10); clear hb10
            go_wp2
            go_ret
            exact BoolBelow.mk rfl hf.out
end Go.Proofs.YtokppjfaihkkcaaDoor
