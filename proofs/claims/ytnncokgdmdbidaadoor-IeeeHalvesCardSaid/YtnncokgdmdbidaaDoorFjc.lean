/- The walk of the law IeeeHalves (width 64). -/
import Derived.Test.YtnncokgdmdbidaaDoorFjb
namespace Go.Proofs.YtnncokgdmdbidaaDoor
open Go.RowKit Go.Sort
set_option linter.unusedVariables false
set_option linter.unusedSimpArgs false

set_option maxHeartbeats 16000000 in
set_option maxRecDepth 100000 in
theorem halves_64 (v k u : Int) (neg : Bool) (w : World) (hv : -9223372036854775808 ≤ v ∧ v ≤ 9223372036854775807) (hk : -9223372036854775808 ≤ k ∧ k ≤ 9223372036854775807) (hu : -9223372036854775808 ≤ u ∧ u ≤ 9223372036854775807) (hD : DB w) (hp : u % 3 = 2) :
    Calls Tryd.prog 10 #[.int .i64 v, .int .i64 k, .int .i64 u, .bool neg] w (BoolBelow true w) := by
  have KP := fun W => place_any u 3 W hu (by omega)
  rw [hp] at KP
  have KPH := Lib.hid KP; clear KP hp hu
  obtain ⟨mv, hmv⟩ : ∃ mv : Nat, v % 576460752303423488 = (mv : Int) := ⟨(v % 576460752303423488).toNat, by omega⟩
  obtain ⟨x, hxe⟩ : ∃ x : Nat, k % 12 = (x : Int) := ⟨(k % 12).toNat, by omega⟩
  have hmb : mv < 576460752303423488 := by omega
  have hxb : x ≤ 11 := by omega
  have KV := fun W => place_wide v 576460752303423488 W hv (by omega)
  have KX := fun W => place_any k 12 W hk (by omega)
  rw [hmv] at KV
  rw [hxe] at KX
  have KVH := Lib.hid KV; have KXH := Lib.hid KX
  clear KV KX hmv hxe hv hk
  obtain ⟨m, hm⟩ : ∃ m : Nat, m = 2 * mv + 1 := ⟨_, rfl⟩
  have hmo : m % 2 = 1 := by omega
  have hm60 : m < 1152921504606846976 := by omega
  have hmi : 2 * (mv : Int) + 1 = (m : Int) := by omega
  have hlo : layOf 64 = some (11, 52) := rfl
  have hM2 := odd_five (k := x) hmo
  have hM10 := odd_ten hM2
  have hfv := five_bd hxb
  have hto := half_to (ng := neg) hlo hmo (show m < 18446744073709551616 by omega) hxb
  have hst := fun d (h : toF 64 neg (m * 5 ^ x) (-(x : Int)) = some d) => sign_top hlo hM10 h
  have hse := fun d (h : toF 64 neg (m * 5 ^ x) (-(x : Int)) = some d) => sh_exact (v := 64) (by omega) hM10 h
  have hfp : 0 < 5 ^ x := five_pos x
  have KM := fun W => mul64_any m (5 ^ x) (by omega) (by omega) W
  have hNl : (limbs (m * 5 ^ x)).length ≤ 4 := by
    refine limbs_length_le ?_
    have h1 : m * 5 ^ x ≤ 1152921504606846976 * 48828125 := Nat.mul_le_mul (by omega) hfv
    have h2 : B32 ^ 4 = 340282366920938463463374607431768211456 := by decide
    rw [h2]; omega
  have hchk : chkB neg (limbs (m * 5 ^ x)) (-(x : Int)) = true := chkB_mk hM10 (by omega) (by omega) (by omega)
  have HCK := Lib.hid hchk
  have KMH := Lib.hid KM
  have HTO := Lib.hid hto; have HST := Lib.hid hst; have HSE := Lib.hid hse
  have HM10 := Lib.hid hM10; have HNL := Lib.hid hNl
  have KA := Lib.hid (fun W (h : Below w.heap.size w W) => awake3_any W (hD.below h))
  have HD := Lib.hid (fun W (h : Below w.heap.size w W) => hD.below h)
  have HM := Lib.hid hm; have HMI := Lib.hid hmi
  have HML := Lib.hid (len_le64 (show m < 18446744073709551616 by omega))
  have hw1 : IntKind.i64.wrap (2 * (mv : Int)) = 2 * (mv : Int) := IntWalk.i64_in _ (by omega)
  have hw2 : IntKind.i64.wrap (2 * (mv : Int) + 1) = (m : Int) := by rw [hmi]; exact IntWalk.i64_in _ (by omega)
  have hneg : IntKind.i64.wrap (-(x : Int)) = -(x : Int) := IntWalk.i64_in _ (by omega)
  clear hD hlo hM2 hM10 hto hst hse KM hm hmi hmo hNl hchk
  go_enter Tryd.func10, Tryd.ntmps10
  go_wp2_with fail
  refine (KPH.out _).mono ?_
  rintro r w1 ⟨rfl, rfl⟩
  go_wp2_with fail
  rw [at3_2]
  go_wp2_with fail
  refine (KPH.out _).mono ?_
  rintro r w2 ⟨rfl, rfl⟩
  go_wp2_with fail
  rw [at3_2]
  go_wp2_with fail
  refine (KVH.out _).mono ?_
  rintro r w3 ⟨rfl, rfl⟩
  go_wp2_with fail
  refine (KXH.out _).mono ?_
  rintro r w4 ⟨rfl, rfl⟩
  go_wp2_with fail
  go_loopw [13, 14] (fun p i wr => PWRel x w4 p i wr) (fun _ i _ => x - (intOf i).toNat)
  case atStart => exact ⟨0, by omega, rfl, rfl, rfl⟩
  case round =>
    obtain ⟨j, hj, rfl, rfl, rfl⟩ := hrel
    have hfj := five_bd (show j ≤ 11 by omega)
    have HNX := Lib.hid (show 5 ^ (j + 1) = 5 ^ j * 5 from Nat.pow_succ ..)
    by_cases hjx : j < x
    · generalize 5 ^ j = P at *
      have hjxi : (j : Int) < (x : Int) := by omega
      go_wp2
      go_roundw
      case rel => exact ⟨j + 1, by omega, by go_num, by rw [HNX.out]; go_num, rfl⟩
      case measure => simp [intOf]; omega
    · obtain rfl : j = x := by omega
      have hjxi : ¬ (j : Int) < (j : Int) := by omega
      clear HNX hfj
      generalize hFF : 5 ^ j = FF at *
      clear hFF
      generalize hNN : m * FF = N at *
      clear hNN
      go_wp2_with fail
      refine (KMH.out _).mono ?_
      rintro r w5 ⟨v5, x5, rfl, hx5, hv5, ho5, hb5⟩
      have h5 : Ctx wr w5 _ := ((Ctx.begin wr).step hb5).push (ent_any ho5 (L := 4) (by omega) hv5)
      have KK := Lib.hid (refMake_yes h5.again 0 rfl (by decide) neg (-(j : Int)) N 0 (by simp [tenN]) HM10.out (by have := HNL.out; omega) (-(j : Int)) (by omega) (by omega) (by omega))
      have H5 := Lib.hid h5
      clear h5 hx5 hv5 ho5 hb5 KMH hfv hfp
      go_wp2_with fail
      refine KK.out.mono ?_
      rintro r w6 ⟨v6, rfl, h6⟩
      obtain ⟨ad6, cap6, hv6, hz6⟩ := h6.get 0 rfl
      clear hz6
      subst hv6
      generalize hn : (limbs N).length = n at *
      have hb6 := below_box w6 #[.bool neg, .slice ad6 n cap6, .int .i64 (-(j : Int))] 40
      have B6 := Lib.hid (bx_new w6 neg (.slice ad6 n cap6) (-(j : Int)))
      have H6 := Lib.hid ((h6.on H5.out).step hb6)
      have HN := Lib.hid hn
      clear h6 hb6 hn H5 KK
      go_wp2_with fail
      generalize w6.alloc (.cells #[.bool neg, .slice ad6 n cap6, .int .i64 (-(j : Int))] 40) = W at *
      go_loopw [17, 18] (fun b x wr' => BTRel m W b x wr') (fun _ x _ => (intOf x).toNat)
      case atStart => exact ⟨m, 0, Nat.le_refl _, rfl, rfl, by simp, by omega, rfl⟩
      case round =>
        obtain ⟨y, c, hy, rfl, rfl, hcy, hc64, rfl⟩ := hrel
        by_cases hy0 : 0 < y
        · have hyi : (0 : Int) < (y : Int) := by omega
          have hl := len_half (show y ≠ 0 by omega) (by omega)
          have hlm := HML.out
          have HCY := Lib.hid hcy; have HL := Lib.hid hl; have HLM := Lib.hid hlm
          clear hcy hl hlm B6 H6
          have hyd : (y : Int).fdiv (2 ^ min (Int.toNat 1) IntKind.i64.bits) = ((y / 2 : Nat) : Int) := by
            rw [show (2 : Int) ^ min (Int.toNat 1) IntKind.i64.bits = 2 from rfl, Int.fdiv_eq_ediv_of_nonneg _ (by omega)]; rfl
          go_wp2
          go_roundw
          case rel => exact ⟨y / 2, c + 1, by omega, by go_num, by go_num, by have h1 := HCY.out; have h2 := HL.out; omega, by have h1 := HCY.out; have h2 := HL.out; have h3 := HLM.out; omega, rfl⟩
          case measure => simp [intOf]; omega
        · obtain rfl : y = 0 := by omega
          have hcm : lenB m = c := by rw [show lenB 0 = 0 from rfl] at hcy; omega
          have HTD := HTO.out
          rw [hcm] at HTD
          clear hcy hcm hy0 hy HTO HML HMI HM
          obtain ⟨c1, c2, c3, c4⟩ := B6.out
          have KT := to_num H6.out.again (HD.out _ H6.out.below) 64 0 rfl (by omega) neg (-(j : Int)) HCK.out
          cases htf : toF 64 neg N (-(j : Int)) with
          | none =>
            rw [htf] at KT
            unfold ToPost toA at KT
            have KTH := Lib.hid KT
            clear KT
            rw [htf] at HTD
            have hno := of_decide_eq_false HTD.symm
            clear HTD htf
            have HNO := Lib.hid hno
            clear hno
            have HK := fun W => kind_any 64 0 (by decide) W
            rw [show kindW 64 0 = 2 from rfl] at HK
            have HKH := Lib.hid HK
            clear HK
            go_wp2_with fail
            refine KTH.out.mono ?_
            rintro r w7 ⟨rfl, h7⟩
            have H7 := Lib.hid (h7.on H6.out)
            clear h7 B6 H6 KTH c1 c2 c3 c4
            have K0 := Lib.hid (exact_no H7.out.again 64 0 2 true rfl rfl HKH.out)
            rw [show ((0 : Nat) : Int) = 0 from rfl] at K0
            clear HKH
            by_cases hc1 : c ≤ 53
            · have HC2 := Lib.hid (show ¬ ((c : Int) - (j : Int) ≤ 1024) from fun h => HNO.out ⟨hc1, h⟩)
              have hc1i : (c : Int) ≤ 53 := by omega
              clear HNO hc1
              have hwc : IntKind.i64.wrap ((c : Int) - (j : Int)) = (c : Int) - (j : Int) := IntWalk.i64_in _ (by omega)
              go_wp2_with fail
              refine (KPH.out _).mono ?_
              rintro r w8 ⟨rfl, rfl⟩
              go_wp2_with fail
              have hc2 : decide ((c : Int) - (j : Int) ≤ 1024) = false := decide_eq_false (by have := HC2.out; omega)
              clear HC2
              rw [at3_2]
              go_wp2_with fail
              refine K0.out.mono ?_
              rintro r w9 ⟨v9, rfl, h9⟩
              obtain ⟨ad9, cap9, hv9, hz9⟩ := h9.get 0 rfl
              clear hz9
              rw [show (limbs 0).length = 0 by rw [limbs_zero]; rfl] at hv9
              subst hv9
              have hb9 := below_box w9 #[.bool false, .slice ad9 0 cap9, .int .i64 0] 40
              have H9 := Lib.hid ((h9.on H7.out).step hb9)
              clear h9 hb9 K0
              go_wp2_with fail
              refine (KA.out _ H9.out.below).mono ?_
              rintro r w10 ⟨rfl, hb10⟩
              have H10 := Lib.hid (below_on H9.out.below hb10)
              clear hb10
              go_wp2
              go_ret
              exact BoolBelow.mk rfl H10.out
            · have hc1i : ¬ (c : Int) ≤ 53 := by omega
              clear HNO hc1
              go_wp2_with fail
              refine K0.out.mono ?_
              rintro r w9 ⟨v9, rfl, h9⟩
              obtain ⟨ad9, cap9, hv9, hz9⟩ := h9.get 0 rfl
              clear hz9
              rw [show (limbs 0).length = 0 by rw [limbs_zero]; rfl] at hv9
              subst hv9
              have hb9 := below_box w9 #[.bool false, .slice ad9 0 cap9, .int .i64 0] 40
              have H9 := Lib.hid ((h9.on H7.out).step hb9)
              clear h9 hb9 K0
              go_wp2_with fail
              refine (KA.out _ H9.out.below).mono ?_
              rintro r w10 ⟨rfl, hb10⟩
              have H10 := Lib.hid (below_on H9.out.below hb10)
              clear hb10
              go_wp2
              go_ret
              exact BoolBelow.mk rfl H10.out
          | some d =>
            rw [htf] at KT
            unfold ToPost toA at KT
            have KTH := Lib.hid KT
            clear KT
            rw [htf] at HTD
            have hyes := of_decide_eq_true HTD.symm
            have hc1i : (c : Int) ≤ 53 := by have := hyes.1; omega
            have hc2 : (c : Int) - (j : Int) ≤ 1024 := hyes.2
            clear HTD hyes
            have hwc : IntKind.i64.wrap ((c : Int) - (j : Int)) = (c : Int) - (j : Int) := IntWalk.i64_in _ (by omega)
            obtain ⟨s1, s2, s3, s4, s5⟩ := HSE.out d htf
            have hst := HST.out d htf
            have KX := fun W l (h : Ctx W W l) => exact_all h 64 d s1
            rw [s2, s3, s4, s5] at KX
            have KXH := Lib.hid KX
            have hbit : (((d : Int) / 9223372036854775808) == 1) = neg := by
              rw [show (2 : Nat) ^ (11 + 52) = 9223372036854775808 from rfl] at hst
              rw [show (d : Int) / 9223372036854775808 = ((d / 9223372036854775808 : Nat) : Int) from rfl]
              cases neg
              · have h1 : d / 9223372036854775808 ≠ 1 := fun h => by have := hst.1 h; cases this
                generalize d / 9223372036854775808 = q at *
                simp; omega
              · rw [hst.2 rfl]; rfl
            have HBT := Lib.hid hbit
            clear s1 s2 s3 s4 s5 hst KX htf hbit HSE HST
            go_wp2_with fail
            refine KTH.out.mono ?_
            rintro r w7 ⟨rfl, h7⟩
            have B7 := Lib.hid (B6.out.step h7.below)
            have H7 := Lib.hid (h7.on H6.out)
            clear h7 B6 H6 KTH c1 c2 c3 c4
            go_wp2_with fail
            refine (KPH.out _).mono ?_
            rintro r w8 ⟨rfl, rfl⟩
            go_wp2_with fail
            rw [at3_2]
            go_wp2_with fail
            refine (KXH.out _ _ H7.out.again).mono ?_
            rintro r w9 ⟨v9, rfl, h9⟩
            obtain ⟨ad9, cap9, hv9, hz9⟩ := h9.get 0 rfl
            clear hz9
            subst hv9
            (try rw [HN.out] at h9)
            rw [HN.out]
            have hb9 := below_box w9 #[.bool neg, .slice ad9 n cap9, .int .i64 (-(j : Int))] 40
            have B9 := Lib.hid ((B7.out.step h9.below).step hb9)
            have C9 := Lib.hid (bx_new w9 neg (.slice ad9 n cap9) (-(j : Int)))
            have H9 := Lib.hid ((h9.on H7.out).step hb9)
            clear h9 hb9 B7 H7
            obtain ⟨adx, capx, hvx, x2, x3, x4, x5, x6⟩ := H9.out.get 1 rfl
            obtain ⟨ady, capy, hvy, y2, y3, y4, y5, y6⟩ := H9.out.get 0 rfl
            simp only [Value.slice.injEq] at hvx hvy
            obtain ⟨rfl, hnx, rfl⟩ := hvx
            obtain ⟨rfl, hny, rfl⟩ := hvy
            have KN := Lib.hid (sameNum_any neg ad9 n cap9 (limbs N) (-(j : Int)) ad6 cap6 _ HN.out (by omega) (by omega) (by omega) y5 x5)
            obtain ⟨c1, c2, c3, c4⟩ := B9.out
            obtain ⟨d1, d2, d3, d4⟩ := C9.out
            clear hnx hny x2 x3 x4 x5 x6 y2 y3 y4 y5 y6
            go_wp2_with fail
            refine KN.out.mono ?_
            rintro r w10 ⟨rfl, hb10⟩
            have H10 := Lib.hid (below_on H9.out.below hb10)
            clear hb10 c1 c2 c3 c4 d1 d2 d3 d4 B9 C9 KN
            have hbit := HBT.out
            have hnn : (neg == neg) = true := by simp
            go_wp2_with fail
            refine (KA.out _ H10.out).mono ?_
            rintro r w11 ⟨rfl, hb11⟩
            have H11 := Lib.hid (below_on H10.out hb11)
            clear hb11
            go_wp2
            go_ret
            exact BoolBelow.mk rfl H11.out
end Go.Proofs.YtnncokgdmdbidaaDoor
