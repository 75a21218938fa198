/- The walk of layer 3's awake. -/
import Derived.Test.YtokppjfaihkkcaaDoorF5
import Derived.Test.YtokppjfaihkkcaaDoorF9
import Derived.Test.YtokppjfaihkkcaaDoorRn
namespace Go.Proofs.YtokppjfaihkkcaaDoor
open Go.RowKit Go.Sort
set_option linter.unusedVariables false
set_option linter.unusedSimpArgs false

theorem ex_one : kindF 5 10 15360 = 1 ∧ fNeg 5 10 15360 = false ∧ exM 5 10 15360 = 1 ∧ exE 5 10 15360 = 0 := by
  have h : exN 5 10 15360 = 1 * tenN 10 := by decide +kernel
  obtain ⟨a, b⟩ := trim_unique h (by decide)
  refine ⟨by decide +kernel, by decide +kernel, a, ?_⟩
  unfold exE
  rw [b]
  decide +kernel
theorem no_tenth (width : Int) (ng : Bool) : toF width ng 1 (-1) = none ∨ layOf width = none := by
  cases h : layOf width with
  | none => exact .inr rfl
  | some p =>
    left
    unfold toF
    rw [h]
    have : ∀ e f, toN e f 1 (-1) = none := fun e f => by
      unfold toN
      rw [show fives 1 (-1) = none by decide +kernel]
    simp only [this]
    rfl
theorem sh_tenth : shA false 1 (-1) = .tuple #[.int .i64 0, .int .u64 0, .bool false] := by
  unfold shA
  rcases no_tenth 16 false with h | h
  · rcases no_tenth 32 false with h2 | h2
    · rcases no_tenth 64 false with h3 | h3
      · rw [h, h2, h3]
      · cases h3
    · cases h2
  · cases h

set_option maxHeartbeats 8000000 in
theorem awake3_any (w : World) (hD : DB w) : Calls Tryd.prog 11 #[] w (BoolBelow true w) := by
  obtain ⟨x1, x2, x3, x4⟩ := ex_one
  have K1 := exact_yes (Ctx.begin w) 16 15360 (by decide) (e := 5) (f := 10) (.inl ⟨rfl, rfl⟩) rfl x1
  rw [x2, x3, x4] at K1
  have KE := Lib.hid K1; clear K1 x1 x2 x3 x4
  have HD := Lib.hid hD; clear hD
  have KK := Lib.hid (fun W => kind_any 64 9223372036854775808 (by decide) W)
  rw [show kindW 64 9223372036854775808 = 2 by decide +kernel] at KK
  go_enter Tryd.func11, Tryd.ntmps11
  go_wp2_with fail
  refine KE.out.mono ?_
  rintro r w1 ⟨v1, rfl, h1⟩
  rw [limbs_small (by decide) (by decide)] at h1
  obtain ⟨ad1, cap1, hv1, _⟩ := h1.get 0 rfl
  subst hv1
  have hb := below_box w1 #[.bool false, .slice ad1 [1].length cap1, .int .i64 0] 25
  have B1 := bx_new w1 false (.slice ad1 [1].length cap1) 0
  have h2 := (h1.step hb).lits2 (N := 1) (xs := [1]) (Okl.cons (by decide) Okl.nil) rfl 1 rfl #[.int .u32 1] rfl
  have B2 := B1.step (below_box _ #[.int .u32 1] 54)
  have KM := Lib.hid (refMake_yes h2.again 0 rfl (by decide) false (-1) 1 0 rfl (by decide) (by rw [limbs_small (by decide) (by decide)]; decide) (-1) rfl (by decide) (by decide))
  have HB2 := Lib.hid B2
  have H2 := Lib.hid h2
  clear h1 hb B1 h2 B2 KE
  go_wp2_with fail
  refine KM.out.mono ?_
  rintro r w2 ⟨v2, rfl, h3⟩
  obtain ⟨ad2, cap2, hv2, _⟩ := h3.get 0 rfl
  subst hv2
  have B3 := HB2.out.step h3.below
  have h4 := h3.on H2.out
  have hb4 := below_box w2 #[.bool false, .slice ad2 (limbs 1).length cap2, .int .i64 (-1)] 25
  have B4 := B3.step hb4
  have C4 := bx_new w2 false (.slice ad2 (limbs 1).length cap2) (-1)
  have h5 := h4.step hb4
  have hD5 := HD.out.below h5.below
  have hc : chkB false (limbs 1) (-1) = true := by rw [limbs_small (by decide) (by decide)]; decide +kernel
  have KS := shortest_num h5.again hD5 0 rfl (by omega) false (-1) hc
  rw [sh_tenth] at KS
  have KSH := Lib.hid KS
  have H5 := Lib.hid h5
  have HB4 := Lib.hid B4
  obtain ⟨c40, c41, c42, c43⟩ := C4
  clear h3 h4 h5 hb4 B3 B4 KS hD5 KM HB2 H2
  go_wp2_with fail
  refine KSH.out.mono ?_
  rintro r w3 ⟨rfl, h6⟩
  have B6 := HB4.out.step h6.below
  have h7 := h6.on H5.out
  have hr := (h7.get 2 rfl)
  obtain ⟨ad7, cap7, hv7, _, _, _, hrd, _⟩ := hr
  simp only [Value.slice.injEq] at hv7
  obtain ⟨rfl, _, rfl⟩ := hv7
  obtain ⟨b, o, hadd, _, hc0⟩ := hrd 0 (by simp)
  subst hadd
  rw [Nat.add_zero] at hc0
  replace hc0 : w3.cell? ⟨b, o, none⟩ = some (.int .u32 1) := hc0
  obtain ⟨d0, d1, d2, d3⟩ := B6
  have HF := Lib.hid h7
  clear h6 h7 hrd c40 c41 c42 c43
  go_wp2_with fail
  refine (KK.out _).mono ?_
  rintro r w4 ⟨rfl, hb7⟩
  have HFF := Lib.hid (below_on HF.out.below hb7)
  clear hb7
  go_wp2
  go_ret
  exact BoolBelow.mk rfl HFF.out
end Go.Proofs.YtokppjfaihkkcaaDoor
