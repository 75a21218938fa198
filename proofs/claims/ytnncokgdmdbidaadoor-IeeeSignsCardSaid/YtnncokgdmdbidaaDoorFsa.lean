/- The walk of the law IeeeSigns. -/
import Derived.Test.YtnncokgdmdbidaaDoorFsi
namespace Go.Proofs.YtnncokgdmdbidaaDoor
open Go.RowKit Go.Sort
set_option linter.unusedVariables false
set_option linter.unusedSimpArgs false


set_option maxHeartbeats 16000000 in
set_option maxRecDepth 100000 in
theorem signs_16 (v : Int) (x : Nat) (w : World) (hv : -9223372036854775808 ≤ v ∧ v ≤ 9223372036854775807) (hx : x < 18446744073709551616) (hD : DB w) (hp : v % 3 = 0) :
    Calls Tryd.prog 11 #[.int .i64 v, .int .u64 (x : Int)] w (BoolBelow true w) := by
  have KP := place_any v 3 w hv (by omega)
  rw [hp] at KP
  have KPH := Lib.hid KP; clear KP hp
  obtain ⟨hal, hng⟩ := flip_sign 5 10 x
  have hxk := xor_lt (k := 5 + 10) hx (by decide)
  have hxor : bits BinOp.xor IntKind.u64 (x : Int) 32768 = ((x ^^^ 2 ^ (5 + 10) : Nat) : Int) := bits_xor_u64_nat x 32768 hx (by decide)
  have hlo : layOf 16 = some (5, 10) := rfl
  have hk : ∀ y, kindW 16 y = (kindF 5 10 y : Int) := fun y => rfl
  have K1 := Lib.hid (fun W l (h : Ctx W W l) => exact_all h 16 x hx)
  have K2 := fun W l (h : Ctx W W l) => exact_all h 16 (x ^^^ 2 ^ (5 + 10)) hxk
  have hM : exMW 16 (x ^^^ 2 ^ (5 + 10)) = exMW 16 x := by unfold exMW; rw [hlo]; simp only []; rw [hal.kind, hal.em]
  have hE : exEW 16 (x ^^^ 2 ^ (5 + 10)) = exEW 16 x := by unfold exEW; rw [hlo]; simp only []; rw [hal.kind, hal.ee]
  have hO : okW 16 (x ^^^ 2 ^ (5 + 10)) = okW 16 x := by unfold okW; rw [hk, hk, hal.kind]
  have hN : exNegW 16 (x ^^^ 2 ^ (5 + 10)) = (decide (kindF 5 10 x = 1) && !fNeg 5 10 x) := by unfold exNegW; rw [hlo]; simp only []; rw [hal.kind, hng]
  have hN1 : exNegW 16 x = (decide (kindF 5 10 x = 1) && fNeg 5 10 x) := by unfold exNegW; rw [hlo]
  have HK := Lib.hid (fun W => kind_any 16 x hx W)
  have hK2 := fun W => kind_any 16 (x ^^^ 2 ^ (5 + 10)) hxk W
  rw [show kindW 16 (x ^^^ 2 ^ (5 + 10)) = kindW 16 x by rw [hk, hk, hal.kind]] at hK2
  have HK2 := Lib.hid hK2
  have HK3 := Lib.hid (fun W => kind_any 17 x hx W)
  rw [show kindW 17 x = 0 from rfl] at HK3
  have K3 := Lib.hid (fun W l (h : Ctx W W l) => exact_no h 17 x 0 false rfl rfl (fun W => by have := kind_any 17 x hx W; rwa [show kindW 17 x = 0 from rfl] at this))
  have KA := Lib.hid (fun W (h : Below w.heap.size w W) => awake3_any W (hD.below h))
  have hbranch : (kindW 16 x = 1 ∧ (exNegW 16 x != exNegW 16 (x ^^^ 2 ^ (5 + 10))) = true) ∨ ((kindW 16 x == 1) = false ∧ exNegW 16 x = false ∧ exNegW 16 (x ^^^ 2 ^ (5 + 10)) = false) := by
    rw [hN, hN1, hk]
    by_cases h1 : kindF 5 10 x = 1
    · left; rw [h1]; refine ⟨rfl, ?_⟩; cases fNeg 5 10 x <;> rfl
    · right; rw [decide_eq_false h1]; exact ⟨beq_eq_false_iff_ne.2 (by omega), rfl, rfl⟩
  rw [hM, hE, hO] at K2
  have K2H := Lib.hid K2
  have HBR := Lib.hid hbranch
  clear hM hE hO hN hN1 K2 hK2 hal hng hlo hk hD hbranch
  have hx'i : (0 : Int) ≤ ((x ^^^ 2 ^ (5 + 10) : Nat) : Int) := by omega
  generalize x ^^^ 2 ^ (5 + 10) = x' at *
  generalize exMW 16 x = M at *
  generalize exEW 16 x = E at *
  generalize okW 16 x = ok at *
  generalize exNegW 16 x = na at *
  generalize exNegW 16 x' = nb at *
  generalize kindW 16 x = k at *
  have hok : (ok == ok) = true := by cases ok <;> rfl
  have hE1 : (E == E) = true := by simp
  have hk1 : (k == k) = true := by simp
  go_enter Tryd.func11, Tryd.ntmps11
  go_wp2_with fail
  refine KPH.out.mono ?_
  rintro r w1 ⟨rfl, rfl⟩
  go_wp2_with fail
  rw [at3_0]
  go_wp2_with fail
  refine (K1.out _ _ (Ctx.begin _)).mono ?_
  rintro r w2 ⟨v1, rfl, h1⟩
  obtain ⟨ad1, cap1, hv1, _⟩ := h1.get 0 rfl
  subst hv1
  have hb1 := below_box w2 #[.bool na, .slice ad1 (limbs M).length cap1, .int .i64 E] 40
  have B1 := Lib.hid (bx_new w2 na (.slice ad1 (limbs M).length cap1) E)
  have H1 := Lib.hid (h1.step hb1)
  clear h1 hb1
  go_wp2_with fail
  refine (K2H.out _ _ H1.out.again).mono ?_
  rintro r w3 ⟨v2, rfl, h2⟩
  obtain ⟨ad2, cap2, hv2, _⟩ := h2.get 0 rfl
  subst hv2
  have B2 := Lib.hid (B1.out.step h2.below)
  have H2 := Lib.hid (h2.on H1.out)
  clear h2 B1 H1
  have C3 := Lib.hid (bx_new w3 nb (.slice ad2 (limbs M).length cap2) E)
  have B3 := Lib.hid (B2.out.step (below_box w3 #[.bool nb, .slice ad2 (limbs M).length cap2, .int .i64 E] 40))
  have H3 := Lib.hid (H2.out.step (below_box w3 #[.bool nb, .slice ad2 (limbs M).length cap2, .int .i64 E] 40))
  clear B2 H2
  go_wp2_with fail
  refine (HK.out _).mono ?_
  rintro r w4 ⟨rfl, hb4⟩
  have C4 := Lib.hid (C3.out.step hb4)
  have B4 := Lib.hid (B3.out.step hb4)
  have H4 := Lib.hid (H3.out.step hb4)
  clear hb4 C3 B3 H3
  go_wp2_with fail
  refine (K3.out _ _ H4.out.again).mono ?_
  rintro r w5 ⟨v5, rfl, h5⟩
  obtain ⟨ad5, cap5, hv5, _⟩ := h5.get 0 rfl
  subst hv5
  have C5 := Lib.hid ((C4.out.step h5.below).step (below_box w5 #[.bool false, .slice ad5 (limbs 0).length cap5, .int .i64 0] 40))
  have B5 := Lib.hid ((B4.out.step h5.below).step (below_box w5 #[.bool false, .slice ad5 (limbs 0).length cap5, .int .i64 0] 40))
  have H5 := Lib.hid ((h5.on H4.out).step (below_box w5 #[.bool false, .slice ad5 (limbs 0).length cap5, .int .i64 0] 40))
  clear h5 C4 B4 H4
  go_wp2_with fail
  refine (HK2.out _).mono ?_
  rintro r w6 ⟨rfl, hb6⟩
  have C6 := Lib.hid (C5.out.step hb6)
  have B6 := Lib.hid (B5.out.step hb6)
  have H6 := Lib.hid (H5.out.step hb6)
  clear hb6 C5 B5 H5
  obtain ⟨c1, c2, c3, c4⟩ := C6.out
  obtain ⟨b1, b2, b3, b4⟩ := B6.out
  have hcx := H6.out
  have KSM := Lib.hid (same_c hcx.again 2 1 rfl rfl (by omega))
  clear hcx
  generalize (limbs M).length = n at *
  go_wp2_with fail
  refine KSM.out.mono ?_
  rintro r w7 ⟨rfl, h7⟩
  have C7 := C6.out.step h7.below
  have B7 := B6.out.step h7.below
  have H7 := Lib.hid (h7.on H6.out)
  clear c1 c2 c3 c4 b1 b2 b3 b4 h7 C6 B6 H6
  obtain ⟨c1, c2, c3, c4⟩ := C7
  obtain ⟨b1, b2, b3, b4⟩ := B7
  have hbr := HBR.out
  clear HBR KSM K1 K2H HK HK2 K3 KPH
  rcases hbr with ⟨rfl, hne⟩ | ⟨hk0, rfl, rfl⟩
  · have hnn : nb = !na := by cases na <;> cases nb <;> first | rfl | (exact absurd hne (by decide))
    subst hnn
    clear hne
    cases na
    ·
      go_wp2_with fail
      all_goals
        refine (HK3.out _).mono ?_
        rintro r w8 ⟨rfl, hb8⟩
        have H8 := Lib.hid (H7.out.step hb8)
        clear hb8 HK3 c1 c2 c3 c4 b1 b2 b3 b4
        go_wp2_with fail
        refine (KA.out _ H8.out.below).mono ?_
        rintro r w9 ⟨rfl, hb9⟩
        have H9 := Lib.hid (below_on H8.out.below hb9)
        clear hb9
        go_wp2
        go_ret
        exact BoolBelow.mk rfl H9.out
    ·
      go_wp2_with fail
      all_goals
        refine (HK3.out _).mono ?_
        rintro r w8 ⟨rfl, hb8⟩
        have H8 := Lib.hid (H7.out.step hb8)
        clear hb8 HK3 c1 c2 c3 c4 b1 b2 b3 b4
        go_wp2_with fail
        refine (KA.out _ H8.out.below).mono ?_
        rintro r w9 ⟨rfl, hb9⟩
        have H9 := Lib.hid (below_on H8.out.below hb9)
        clear hb9
        go_wp2
        go_ret
        exact BoolBelow.mk rfl H9.out
  · have hkn : ¬ k = 1 := by simpa using hk0
    go_wp2_with fail
    all_goals
      refine (HK3.out _).mono ?_
      rintro r w8 ⟨rfl, hb8⟩
      have H8 := Lib.hid (H7.out.step hb8)
      clear hb8 HK3 c1 c2 c3 c4 b1 b2 b3 b4
      go_wp2_with fail
      refine (KA.out _ H8.out.below).mono ?_
      rintro r w9 ⟨rfl, hb9⟩
      have H9 := Lib.hid (below_on H8.out.below hb9)
      clear hb9
      go_wp2
      go_ret
      exact BoolBelow.mk rfl H9.out

end Go.Proofs.YtnncokgdmdbidaaDoor
