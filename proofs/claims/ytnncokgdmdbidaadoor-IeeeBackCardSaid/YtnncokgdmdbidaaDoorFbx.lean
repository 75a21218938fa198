/- The walk of the law IeeeBack (width 16). -/
import Derived.Test.YtnncokgdmdbidaaDoorFb
import Derived.Test.YtnncokgdmdbidaaDoorFsi
namespace Go.Proofs.YtnncokgdmdbidaaDoor
open Go.RowKit Go.Sort
set_option linter.unusedVariables false
set_option linter.unusedSimpArgs false

def BKRel (w : World) (l : List Ent) (G G6 : Nat) (ng : Bool) (v v6 : Value) (E : Int) (i : Value) (wr : World) : Prop :=
  ∃ k : Nat, k ≤ 3 ∧ i = .int .i64 (k : Int) ∧ Ctx w wr l ∧ Bx wr G ng v E ∧ Bx wr G6 ng v6 E

set_option maxHeartbeats 16000000 in
set_option maxRecDepth 100000 in
theorem back_16 (v : Int) (x : Nat) (w : World) (hv : -9223372036854775808 ≤ v ∧ v ≤ 9223372036854775807) (hx : x < 18446744073709551616) (hD : DB w) (hp : v % 3 = 0) :
    Calls Tryd.prog 6 #[.int .i64 v, .int .u64 (x : Int)] w (BoolBelow true w) := by
  have KP := place_any v 3 w hv (by omega)
  rw [hp] at KP
  have KPH := Lib.hid KP; clear KP hp
  obtain ⟨y, hy⟩ : ∃ y, y = x % 2 ^ 16 := ⟨_, rfl⟩
  have hyl : y < 2 ^ (5 + 10 + 1) := by rw [hy]; exact Nat.mod_lt _ (by decide)
  have hy64 : y < 18446744073709551616 := Nat.lt_of_lt_of_le hyl (by decide)
  have hand : bits BinOp.and IntKind.u64 (x : Int) 65535 = (y : Int) := by rw [hy]; exact mask_and x 16 hx (by omega)
  have hlo : layOf 16 = some (5, 10) := rfl
  have hl : Lay 5 10 := layOf_lay hlo
  have HK := fun W => kind_any 16 y hy64 W
  rw [show kindW 16 y = (kindF 5 10 y : Int) from rfl] at HK
  have KA := Lib.hid (fun W (h : Below w.heap.size w W) => awake3_any W (hD.below h))
  have HD := Lib.hid (fun W (h : Below w.heap.size w W) => hD.below h)
  clear hD
  
  by_cases hk1 : kindF 5 10 y = 1
  · have K1 := Lib.hid (fun W l (h : Ctx W W l) => exact_yes h 16 y hy64 hl hlo hk1)
    have hM := exM_ten hk1
    have HLEN := Lib.hid (ex_bounds hl hk1).2.2.1
    have hto := back_to hlo hyl hk1
    have hne : toF 16 (fNeg 5 10 y) (exM 5 10 y) (exE 5 10 y) ≠ none := by rw [hto]; simp
    have hchk := chk_ex hl hk1 (fNeg 5 10 y)
    obtain ⟨sv, sd, hsh, hsv, hsle, hst⟩ := sh_back (wd := 16) (by omega) hne
    obtain ⟨s1, s2, s3, s4, s5⟩ := sh_exact hsv hM hst
    have KX := fun W l (h : Ctx W W l) => exact_all h sv sd s1
    rw [s2, s3, s4, s5] at KX
    have KXH := Lib.hid KX
    have HMO : Hid ((16 : Int) ≤ 16 → toF 16 (fNeg 5 10 y) (exM 5 10 y) (exE 5 10 y) ≠ none) := fun h => hne
    have HM3 : Hid ((16 : Int) ≤ 32 → toF 32 (fNeg 5 10 y) (exM 5 10 y) (exE 5 10 y) ≠ none) := fun h => toF_mono hlo (show layOf 32 = some (8, 23) from rfl) (by decide) hM hne
    have HM6 : Hid (toF 64 (fNeg 5 10 y) (exM 5 10 y) (exE 5 10 y) ≠ none) := toF_mono hlo (show layOf 64 = some (11, 52) from rfl) (by decide) hM hne
    have HSH := Lib.hid hsh
    have HTO := Lib.hid hto
    have HC := Lib.hid hchk
    rw [hk1] at HK
    have HKH := Lib.hid HK
    have hM0 : exM 5 10 y ≠ 0 := by omega
    have hsb : 16 ≤ sv ∧ sv ≤ 64 := by omega
    clear hy hyl KX s1 s2 s3 s4 s5 hsh hto hne hchk hst hM HK hk1 hl hlo hsv
    generalize fNeg 5 10 y = ng at *
    generalize exM 5 10 y = M at *
    generalize exE 5 10 y = E at *
    go_enter Tryd.func6, Tryd.ntmps6
    go_wp2_with fail
    refine KPH.out.mono ?_
    rintro r w1 ⟨rfl, rfl⟩
    go_wp2_with fail
    rw [at3_0]
    go_wp2_with fail
    refine (K1.out _ _ (Ctx.begin _)).mono ?_
    rintro r w2 ⟨v1, rfl, h1⟩
    obtain ⟨ad1, cap1, hv1, _⟩ := h1.get 0 rfl
    subst hv1
    have h1n := h1.narrow (L' := 90) HLEN.out
    generalize hn : (limbs M).length = n at *
    have hb1 := below_box w2 #[.bool ng, .slice ad1 n cap1, .int .i64 E] 40
    have B1 := Lib.hid (bx_new w2 ng (.slice ad1 n cap1) E)
    have H1 := Lib.hid (h1n.step hb1)
    have HN := Lib.hid hn
    clear h1 h1n hb1 hn HLEN
    go_wp2_with fail
    refine (HKH.out _).mono ?_
    rintro r w3 ⟨rfl, hb3⟩
    have B3 := Lib.hid (B1.out.step hb3)
    have H3 := Lib.hid (H1.out.step hb3)
    clear hb3 B1 H1
    obtain ⟨c1, c2, c3, c4⟩ := B3.out
    have KT := to_num H3.out.again (HD.out _ H3.out.below) 16 0 rfl (by omega) ng E HC.out
    rw [HTO.out] at KT
    have KTH := Lib.hid KT
    clear KT
    go_wp2_with fail
    refine KTH.out.mono ?_
    rintro r w4 ⟨rfl, h4⟩
    unfold toA
    have B4 := Lib.hid (B3.out.step h4.below)
    have H4 := Lib.hid (h4.on H3.out)
    clear h4 B3 H3 KTH c1 c2 c3 c4
    obtain ⟨c1, c2, c3, c4⟩ := B4.out
    have KS := shortest_num H4.out.again (HD.out _ H4.out.below) 0 rfl (by omega) ng E HC.out
    rw [HSH.out] at KS
    have KSH := Lib.hid KS
    clear KS
    go_wp2_with fail
    refine KSH.out.mono ?_
    rintro r w5 ⟨rfl, h5⟩
    have B5 := Lib.hid (B4.out.step h5.below)
    have H5 := Lib.hid (h5.on H4.out)
    clear h5 B4 H4 KSH c1 c2 c3 c4
    obtain ⟨c1, c2, c3, c4⟩ := B5.out
    go_wp2_with fail
    refine (KXH.out _ _ H5.out.again).mono ?_
    rintro r w6 ⟨v6, rfl, h6⟩
    obtain ⟨ad6, cap6, hv6, _⟩ := h6.get 0 rfl
    subst hv6
    (try rw [HN.out] at h6)
    rw [HN.out]
    have hb6 := below_box w6 #[.bool ng, .slice ad6 n cap6, .int .i64 E] 40
    have B6 := Lib.hid ((B5.out.step h6.below).step hb6)
    have C6 := Lib.hid (bx_new w6 ng (.slice ad6 n cap6) E)
    have H6 := Lib.hid ((h6.on H5.out).step hb6)
    clear h6 hb6 B5 H5 c1 c2 c3 c4
    obtain ⟨c1, c2, c3, c4⟩ := B6.out
    go_wp2_with fail
    generalize w6.alloc (.cells #[.bool ng, .slice ad6 n cap6, .int .i64 E] 40) = W at *
    clear c1 c2 c3 c4
    go_loopw [94, 18, 19, 20] (fun i a b c wr => BKRel w1 (⟨.slice ad6 n cap6, 2000, M, limbs M⟩ :: ⟨.slice ad1 n cap1, 90, M, limbs M⟩ :: []) w2.heap.size w6.heap.size ng (.slice ad1 n cap1) (.slice ad6 n cap6) E i wr) (fun i _ _ _ _ => 3 - (intOf i).toNat)
    case atStart => exact ⟨0, by omega, rfl, H6.out, B6.out, C6.out⟩
    case round =>
      clear B6 C6 H6
      obtain ⟨k, hk, rfl, hctx, hB, hC⟩ := hrel
      have HX := Lib.hid hctx
      have HBX := Lib.hid hB
      have HCX := Lib.hid hC
      clear hctx hB hC
      obtain ⟨c1, c2, c3, c4⟩ := HBX.out
      have hk4 : k = 0 ∨ k = 1 ∨ k = 2 ∨ k = 3 := by omega
      rcases hk4 with rfl | rfl | rfl | rfl
      · have KT2 := to_num HX.out.again (HD.out _ HX.out.below) 16 1 rfl (by omega) ng E HC.out
        cases htf : toF 16 ng M E with
        | none => exact absurd htf (HMO.out (by decide))
        | some z =>
          rw [htf] at KT2
          unfold ToPost toA at KT2
          have KT3 := Lib.hid KT2
          clear KT2
          go_wp2_with fail
          rw [at3_0]
          go_wp2_with fail
          refine KT3.out.mono ?_
          rintro r w8 ⟨rfl, h8⟩
          have H8 := Lib.hid (h8.on HX.out)
          have B8 := Lib.hid (HBX.out.step h8.below)
          have C8 := Lib.hid (HCX.out.step h8.below)
          clear h8
          go_wp2
          go_roundw
          case rel => exact ⟨1, by omega, rfl, H8.out, B8.out, C8.out⟩
          case measure => simp [intOf]
      · have KT2 := to_num HX.out.again (HD.out _ HX.out.below) 32 1 rfl (by omega) ng E HC.out
        cases htf : toF 32 ng M E with
        | none => exact absurd htf (HM3.out (by decide))
        | some z =>
          rw [htf] at KT2
          unfold ToPost toA at KT2
          have KT3 := Lib.hid KT2
          clear KT2
          go_wp2_with fail
          rw [at3_1]
          go_wp2_with fail
          refine KT3.out.mono ?_
          rintro r w8 ⟨rfl, h8⟩
          have H8 := Lib.hid (h8.on HX.out)
          have B8 := Lib.hid (HBX.out.step h8.below)
          have C8 := Lib.hid (HCX.out.step h8.below)
          clear h8
          go_wp2
          go_roundw
          case rel => exact ⟨2, by omega, rfl, H8.out, B8.out, C8.out⟩
          case measure => simp [intOf]
      · have KT2 := to_num HX.out.again (HD.out _ HX.out.below) 64 1 rfl (by omega) ng E HC.out
        cases htf : toF 64 ng M E with
        | none => exact absurd htf (HM6.out)
        | some z =>
          rw [htf] at KT2
          unfold ToPost toA at KT2
          have KT3 := Lib.hid KT2
          clear KT2
          go_wp2_with fail
          rw [at3_2]
          go_wp2_with fail
          refine KT3.out.mono ?_
          rintro r w8 ⟨rfl, h8⟩
          have H8 := Lib.hid (h8.on HX.out)
          have B8 := Lib.hid (HBX.out.step h8.below)
          have C8 := Lib.hid (HCX.out.step h8.below)
          clear h8
          go_wp2
          go_roundw
          case rel => exact ⟨3, by omega, rfl, H8.out, B8.out, C8.out⟩
          case measure => simp [intOf]
      · have HL := Lib.hid (limbs_ok M)
        obtain ⟨adx, capx, hvx, x2, x3, x4, x5, x6⟩ := HX.out.get 1 rfl
        obtain ⟨ady, capy, hvy, y2, y3, y4, y5, y6⟩ := HX.out.get 0 rfl
        simp only [Value.slice.injEq] at hvx hvy
        obtain ⟨rfl, hnx, rfl⟩ := hvx
        obtain ⟨rfl, hny, rfl⟩ := hvy
        have KN := Lib.hid (sameNum_any ng ad6 n cap6 (limbs M) E ad1 cap1 wr HN.out (by omega) (by omega) (by omega) y5 x5)
        obtain ⟨d1, d2, d3, d4⟩ := HCX.out
        clear hnx hny x2 x3 x4 x5 x6 y2 y3 y4 y5 y6
        have hyy : ((y : Int) == (y : Int)) = true := by simp
        go_wp2_with fail
        refine KN.out.mono ?_
        rintro r w8 ⟨rfl, hb8⟩
        have H8 := Lib.hid (HX.out.step hb8)
        clear hb8
        go_wp2_with fail
        refine (KA.out _ H8.out.below).mono ?_
        rintro r w9 ⟨rfl, hb9⟩
        have H9 := Lib.hid (below_on H8.out.below hb9)
        clear hb9
        go_wp2
        go_ret
        exact BoolBelow.mk rfl H9.out
  · have hkc := kindF_cases 5 10 y
    by_cases hk2 : kindF 5 10 y = 2
    · rw [hk2] at HK
      have HKH := Lib.hid HK
      have K1 := Lib.hid (fun W l (h : Ctx W W l) => exact_no h 16 y 2 true rfl rfl HK)
      have hto : toF 16 false 0 0 = some 0 := by unfold toF; rw [hlo]; rfl
      have HTO := Lib.hid hto
      clear hy hyl hk1 hk2 hkc HK hto hl hlo
      go_enter Tryd.func6, Tryd.ntmps6
      go_wp2_with fail
      refine KPH.out.mono ?_
      rintro r w1 ⟨rfl, rfl⟩
      go_wp2_with fail
      rw [at3_0]
      go_wp2_with fail
      refine (K1.out _ _ (Ctx.begin _)).mono ?_
      rintro r w2 ⟨v1, rfl, h1⟩
      obtain ⟨ad1, cap1, hv1, hz1⟩ := h1.get 0 rfl
      clear hz1
      rw [show (limbs 0).length = 0 by rw [limbs_zero]; rfl] at hv1
      subst hv1
      have B1 := Lib.hid (bx_new w2 false (.slice ad1 0 cap1) 0)
      have h1n := h1.narrow (L' := 90) (by rw [limbs_zero]; decide)
      have H1 := Lib.hid (h1n.step (below_box w2 #[.bool false, .slice ad1 0 cap1, .int .i64 0] 40))
      clear h1 h1n
      go_wp2_with fail
      refine (HKH.out _).mono ?_
      rintro r w3 ⟨rfl, hb3⟩
      have B3 := Lib.hid (B1.out.step hb3)
      have H3 := Lib.hid (H1.out.step hb3)
      clear hb3 B1 H1
      obtain ⟨c1, c2, c3, c4⟩ := B3.out
      have KT := to_num H3.out.again (HD.out _ H3.out.below) 16 0 rfl (by omega) false 0 (by rw [limbs_zero]; rfl)
      rw [HTO.out] at KT
      have KTH := Lib.hid KT
      clear KT
      go_wp2_with fail
      refine KTH.out.mono ?_
      rintro r w4 ⟨rfl, h4⟩
      unfold toA
      have B4 := Lib.hid (B3.out.step h4.below)
      have H4 := Lib.hid (h4.on H3.out)
      clear h4 B3 H3 KTH c1 c2 c3 c4
      obtain ⟨c1, c2, c3, c4⟩ := B4.out
      go_wp2_with fail
      refine (KA.out _ H4.out.below).mono ?_
      rintro r w9 ⟨rfl, hb9⟩
      have H9 := Lib.hid (below_on H4.out.below hb9)
      clear hb9
      go_wp2
      go_ret
      exact BoolBelow.mk rfl H9.out
    · have hk34 : (2 : Int) < (kindF 5 10 y : Int) := by omega
      have K1 := Lib.hid (fun W l (h : Ctx W W l) => exact_no h 16 y (kindF 5 10 y : Int) false (beq_eq_false_iff_ne.2 (by omega)) (beq_eq_false_iff_ne.2 (by omega)) HK)
      have HKH := Lib.hid HK
      clear hy hyl hk1 hk2 hkc HK hl hlo
      generalize kindF 5 10 y = k at *
      go_enter Tryd.func6, Tryd.ntmps6
      go_wp2_with fail
      refine KPH.out.mono ?_
      rintro r w1 ⟨rfl, rfl⟩
      go_wp2_with fail
      rw [at3_0]
      go_wp2_with fail
      refine (K1.out _ _ (Ctx.begin _)).mono ?_
      rintro r w2 ⟨v1, rfl, h1⟩
      obtain ⟨ad1, cap1, hv1, hz1⟩ := h1.get 0 rfl
      clear hz1
      rw [show (limbs 0).length = 0 by rw [limbs_zero]; rfl] at hv1
      subst hv1
      have B1 := Lib.hid (bx_new w2 false (.slice ad1 0 cap1) 0)
      have H1 := Lib.hid (h1.step (below_box w2 #[.bool false, .slice ad1 0 cap1, .int .i64 0] 40))
      clear h1
      go_wp2_with fail
      refine (HKH.out _).mono ?_
      rintro r w3 ⟨rfl, hb3⟩
      have B3 := Lib.hid (B1.out.step hb3)
      have H3 := Lib.hid (H1.out.step hb3)
      clear hb3 B1 H1
      obtain ⟨c1, c2, c3, c4⟩ := B3.out
      go_wp2_with fail
      refine (KA.out _ H3.out.below).mono ?_
      rintro r w9 ⟨rfl, hb9⟩
      have H9 := Lib.hid (below_on H3.out.below hb9)
      clear hb9
      go_wp2
      go_ret
      exact BoolBelow.mk rfl H9.out
end Go.Proofs.YtnncokgdmdbidaaDoor
