/- The walk of the law IeeeAll. -/
import Derived.Test.YtokppjfaihkkcaaDoorGg
namespace Go.Proofs.YtokppjfaihkkcaaDoor
open Go.RowKit Go.Sort
set_option linter.unusedVariables false
set_option linter.unusedSimpArgs false

theorem toA_form (o : Option Nat) : ∃ (y : Nat) (b : Bool), toA o = .tuple #[.int .u64 (y : Int), .bool b] := by
  cases o with
  | none => exact ⟨0, false, rfl⟩
  | some y => exact ⟨y, true, rfl⟩
theorem shT_form (T : Int → Option Nat) : ∃ (a : Int) (y : Nat) (b : Bool), shT T = .tuple #[.int .i64 a, .int .u64 (y : Int), .bool b] := by
  unfold shT
  split
  · exact ⟨_, _, _, rfl⟩
  · split
    · exact ⟨_, _, _, rfl⟩
    · split
      · exact ⟨_, _, _, rfl⟩
      · exact ⟨0, 0, false, rfl⟩

set_option maxHeartbeats 16000000 in
set_option maxRecDepth 100000 in
theorem ieeeAll_walk (width : Int) (b : Nat) (ng : Bool) (ad : Option Addr) (n cap : Nat) (xs : List Nat) (E : Int) (w : World) (hwd : -9223372036854775808 ≤ width ∧ width ≤ 9223372036854775807) (hb : b < 18446744073709551616)
    (hn : xs.length = n) (hcap : n ≤ cap) (ho : Okl xs) (hr : Rd w ad xs) (hE : -9223372036854775808 ≤ E ∧ E ≤ 9223372036854775807) (hD : DB w) :
    Calls Tryd.prog 4 #[.int .i64 width, .int .u64 (b : Int), .agg #[.bool ng, .slice ad n cap, .int .i64 E]] w (BoolBelow true w) := by
  have hbx := below_box w #[.bool ng, .slice ad n cap, .int .i64 E] 25
  have KA := Lib.hid (fun W (h : Below w.heap.size w W) => awake3_any W (hD.below h))
  have HD := Lib.hid (fun W (h : Below w.heap.size w W) => hD.below h)
  have B1 := Lib.hid (bx_new w ng (.slice ad n cap) E)
  have HBX := Lib.hid hbx
  by_cases h95 : 95 < n
  · have h95z : (95 : Int) < (n : Int) := by omega
    obtain ⟨x1, x2, x3, x4⟩ := B1.out
    have KA1 := Lib.hid (KA.out _ hbx)
    clear hbx hn hr hD
    go_enter Tryd.func4, Tryd.ntmps4
    go_wp2_with fail
    refine KA1.out.mono ?_
    rintro r w1 ⟨rfl, hb1⟩
    have hf := Lib.hid (below_on HBX.out hb1); clear hb1
    go_wp2
    go_ret
    exact BoolBelow.mk rfl hf.out
  · have h95z : ¬ (95 : Int) < (n : Int) := by omega
    have hctx := ((Ctx.begin w).push (ent_arg hn hcap ho hr (L := 95) (by omega) rfl)).step hbx
    have H1 := Lib.hid hctx
    have HN := Lib.hid hn
    have KX := Lib.hid (fun W l (h : Ctx W W l) => exact_all h width b hb)
    have KY := Lib.hid (fun W l (h : Ctx W W l) => rexact_all h width b hb)
    have KK := Lib.hid (fun W => kind_any width b hb W)
    have KR := Lib.hid (fun W => rkind_any width b hb W)
    clear hbx hn hr hD hctx hcap ho
    obtain ⟨y1, o1, hTA⟩ := toA_form (toC width ng xs (val xs) E)
    obtain ⟨s1, s2, s3, hSH⟩ := shT_form (fun width => toC width ng xs (val xs) E)
    generalize exNegW width b = xg at *
    generalize hxm : limbs (exMW width b) = xm at *
    generalize hxl : xm.length = xl at *
    have HXM := Lib.hid hxm; have HXL := Lib.hid hxl
    clear hxm hxl
    generalize exEW width b = xE at *
    generalize okW width b = ok at *
    generalize kindW width b = kd at *
    obtain ⟨x1, x2, x3, x4⟩ := B1.out
    go_enter Tryd.func4, Tryd.ntmps4
    go_wp2_with fail
    refine (KX.out _ _ H1.out.again).mono ?_
    rintro r w2 ⟨v2, rfl, h2⟩
    rw [HXM.out] at h2
    obtain ⟨ad2, cap2, hv2, _⟩ := h2.get 0 rfl
    rw [HXL.out] at hv2; subst hv2
    have hb2 := below_box w2 #[.bool xg, .slice ad2 xl cap2, .int .i64 xE] 25
    have H2 := Lib.hid ((h2.on H1.out).step hb2)
    have B2 := Lib.hid ((B1.out.step h2.below).step hb2)
    have C2 := Lib.hid (bx_new w2 xg (.slice ad2 xl cap2) xE)
    clear h2 hb2 H1 B1 x1 x2 x3 x4 KX
    go_wp2_with fail
    refine (KY.out _ _ H2.out.again).mono ?_
    rintro r w3 ⟨v3, rfl, h3⟩
    rw [HXM.out] at h3
    obtain ⟨ad3, cap3, hv3, _⟩ := h3.get 0 rfl
    rw [HXL.out] at hv3; subst hv3
    have hb3 := below_box w3 #[.bool xg, .slice ad3 xl cap3, .int .i64 xE] 25
    have H3 := Lib.hid ((h3.on H2.out).step hb3)
    have B3 := Lib.hid ((B2.out.step h3.below).step hb3)
    have C3 := Lib.hid ((C2.out.step h3.below).step hb3)
    have D3 := Lib.hid (bx_new w3 xg (.slice ad3 xl cap3) xE)
    clear h3 hb3 H2 B2 C2 KY
    obtain ⟨x1, x2, x3, x4⟩ := B3.out
    obtain ⟨_, _, hv, q2, q3, q4, q5, q6⟩ := H3.out.get 2 rfl
    simp only [Value.slice.injEq] at hv
    obtain ⟨rfl, hnn, rfl⟩ := hv; clear hnn
    rw [HN.out] at q2 q3
    have KN := Lib.hid (rnum_any H3.out.again ng ad n cap xs E HN.out q2 (by omega) q4 q5)
    clear q2 q3 q4 q5 q6
    go_wp2_with fail
    refine KN.out.mono ?_
    rintro r w4 ⟨v4, rfl, h4⟩
    obtain ⟨ad4, cap4, hv4, _⟩ := h4.get 0 rfl
    rw [HN.out] at hv4; subst hv4
    have H4 := Lib.hid (h4.on H3.out)
    have B4 := Lib.hid (B3.out.step h4.below)
    have C4 := Lib.hid (C3.out.step h4.below)
    have D4 := Lib.hid (D3.out.step h4.below)
    clear h4 H3 B3 C3 D3 KN x1 x2 x3 x4
    have KT := to_all H4.out.again (HD.out _ H4.out.below) width 0 rfl (by omega) ng E
    unfold ToPost at KT
    rw [hTA] at KT
    have KTH := Lib.hid KT; clear KT
    go_wp2_with fail
    refine KTH.out.mono ?_
    rintro r w5 ⟨rfl, h5⟩
    have H5 := Lib.hid (h5.on H4.out)
    have B5 := Lib.hid (B4.out.step h5.below)
    have C5 := Lib.hid (C4.out.step h5.below)
    have D5 := Lib.hid (D4.out.step h5.below)
    clear h5 H4 B4 C4 D4 KTH
    obtain ⟨x1, x2, x3, x4⟩ := B5.out
    have KT := rto_all H5.out.again width 3 rfl (by omega) ng E
    unfold ToPost at KT
    rw [hTA] at KT
    have KTH := Lib.hid KT; clear KT
    go_wp2_with fail
    refine KTH.out.mono ?_
    rintro r w6 ⟨rfl, h6⟩
    have H6 := Lib.hid (h6.on H5.out)
    have B6 := Lib.hid (B5.out.step h6.below)
    have C6 := Lib.hid (C5.out.step h6.below)
    have D6 := Lib.hid (D5.out.step h6.below)
    clear h6 H5 B5 C5 D5 KTH x1 x2 x3 x4
    obtain ⟨x1, x2, x3, x4⟩ := B6.out
    obtain ⟨_, _, hv, q2, q3, q4, q5, q6⟩ := H6.out.get 3 rfl
    simp only [Value.slice.injEq] at hv
    obtain ⟨rfl, hnn, rfl⟩ := hv; clear hnn
    rw [HN.out] at q2 q3
    have KN := Lib.hid (rnum_any H6.out.again ng ad n cap xs E HN.out q2 (by omega) q4 q5)
    clear q2 q3 q4 q5 q6
    go_wp2_with fail
    refine KN.out.mono ?_
    rintro r w7 ⟨v7, rfl, h7⟩
    obtain ⟨ad7, cap7, hv7, _⟩ := h7.get 0 rfl
    rw [HN.out] at hv7; subst hv7
    have H7 := Lib.hid (h7.on H6.out)
    have B7 := Lib.hid (B6.out.step h7.below)
    have C7 := Lib.hid (C6.out.step h7.below)
    have D7 := Lib.hid (D6.out.step h7.below)
    clear h7 H6 B6 C6 D6 KN x1 x2 x3 x4
    have KT := shortest_all H7.out.again (HD.out _ H7.out.below) 0 rfl (by omega) ng E
    rw [hSH] at KT
    have KTH := Lib.hid KT; clear KT
    go_wp2_with fail
    refine KTH.out.mono ?_
    rintro r w8 ⟨rfl, h8⟩
    have H8 := Lib.hid (h8.on H7.out)
    have B8 := Lib.hid (B7.out.step h8.below)
    have C8 := Lib.hid (C7.out.step h8.below)
    have D8 := Lib.hid (D7.out.step h8.below)
    clear h8 H7 B7 C7 D7 KTH
    obtain ⟨x1, x2, x3, x4⟩ := B8.out
    have KT := rshortest_all H8.out.again 4 rfl (by omega) ng E
    rw [hSH] at KT
    have KTH := Lib.hid KT; clear KT
    go_wp2_with fail
    refine KTH.out.mono ?_
    rintro r w9 ⟨rfl, h9⟩
    have H9 := Lib.hid (h9.on H8.out)
    have C9 := Lib.hid (C8.out.step h9.below)
    have D9 := Lib.hid (D8.out.step h9.below)
    clear h9 H8 B8 C8 D8 KTH x1 x2 x3 x4 hTA hSH
    obtain ⟨_, _, hv, q2, q3, q4, q5, q6⟩ := H9.out.get 3 rfl
    rw [HXL.out] at hv
    simp only [Value.slice.injEq] at hv
    obtain ⟨rfl, hnn, rfl⟩ := hv; clear hnn
    obtain ⟨_, _, hv, p2, p3, p4, p5, p6⟩ := H9.out.get 2 rfl
    rw [HXL.out] at hv
    simp only [Value.slice.injEq] at hv
    obtain ⟨rfl, hnn, rfl⟩ := hv; clear hnn
    have KS := Lib.hid (sameNum_any xg ad2 xl cap2 xm xE ad3 cap3 w9 HXL.out (by rw [← HXL.out]; exact q2) (by rw [← HXL.out]; exact p2) (by rw [← HXL.out]; omega) q5 p5)
    clear q2 q3 q4 q5 q6 p2 p3 p4 p5 p6
    obtain ⟨c1, c2, c3, c4⟩ := C9.out
    obtain ⟨d1, d2, d3, d4⟩ := D9.out
    have hkk : (kd == kd) = true := by simp
    go_wp2_with fail
    refine KS.out.mono ?_
    rintro r w10 ⟨rfl, hb10⟩
    have H10 := Lib.hid (below_on H9.out.below hb10)
    clear hb10 c1 c2 c3 c4 d1 d2 d3 d4 KS H9 C9 D9
    go_wp2_with fail
    refine (KK.out _).mono ?_
    rintro r w11 ⟨rfl, hb11⟩
    have H11 := Lib.hid (below_on H10.out hb11)
    clear hb11 H10
    go_wp2_with fail
    refine (KR.out _).mono ?_
    rintro r w12 ⟨rfl, rfl⟩
    have KA2 := Lib.hid (KA.out _ H11.out)
    go_wp2_with fail
    refine KA2.out.mono ?_
    rintro r w13 ⟨rfl, hb13⟩
    have hf := Lib.hid (below_on H11.out hb13); clear hb13
    go_wp2
    go_ret
    exact BoolBelow.mk rfl hf.out
end Go.Proofs.YtokppjfaihkkcaaDoor
