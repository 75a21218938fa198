/- The walk of the law CheadOrder. -/
import Derived.Test.YtokgodobmcbdoaaH9
import Derived.Test.YtokgodobmcbdoaaPlv
import Derived.Test.YtokgodobmcbdoaaRc
namespace Go.Proofs.Ytokgodobmcbdoaa
open Go.RowKit Go.Lib
set_option linter.unusedVariables false
set_option linter.unusedSimpArgs false
theorem shr_u64 (v p x : Nat) (hx : v / 2 ^ p = x) : (v : Int) / 2 ^ p = (x : Int) := by
  subst hx; push_cast; rfl
def OrdCut (m x y : Nat) (w : World) (p q : Value) (W : World) : Prop := p = .string (strB (hd m x)) ∧ q = .string (strB (hd m y)) ∧ Below w.heap.size w W
set_option maxHeartbeats 4000000 in
set_option maxRecDepth 100000 in
theorem cheadOrder_walk (j0 : Int) (v0 w0 : Nat) (a0 b0 : Int) (w : World) (hj0 : -9223372036854775808 ≤ j0 ∧ j0 ≤ 9223372036854775807) (hv0 : v0 < 18446744073709551616) (hw0 : w0 < 18446744073709551616) (ha0 : -9223372036854775808 ≤ a0 ∧ a0 ≤ 9223372036854775807) (hb0 : -9223372036854775808 ≤ b0 ∧ b0 ≤ 9223372036854775807) :
    Calls Try.prog 5 #[.int .i64 j0, .int .u64 v0, .int .u64 w0, .int .i64 a0, .int .i64 b0] w (BoolBelow true w) := by
  have K1 := Lib.hid (fun W => place_any j0 8 W hj0 ⟨by decide, by decide⟩)
  obtain ⟨m, hm⟩ : ∃ m : Nat, j0 % 8 = (m : Int) := ⟨(j0 % 8).toNat, by omega⟩
  have hm8 : m < 8 := by omega
  rw [hm] at K1
  have K2 := Lib.hid (fun W => place_any a0 64 W ha0 ⟨by decide, by decide⟩)
  obtain ⟨p, hp⟩ : ∃ p : Nat, a0 % 64 = (p : Int) := ⟨(a0 % 64).toNat, by omega⟩
  have hp64 : p < 64 := by omega
  rw [hp] at K2
  have K3 := Lib.hid (fun W => place_any b0 64 W hb0 ⟨by decide, by decide⟩)
  obtain ⟨q, hq⟩ : ∃ q : Nat, b0 % 64 = (q : Int) := ⟨(b0 % 64).toNat, by omega⟩
  have hq64 : q < 64 := by omega
  rw [hq] at K3
  clear hm hp hq hj0 ha0 hb0
  obtain ⟨x, hx⟩ : ∃ x, v0 / 2 ^ p = x := ⟨_, rfl⟩
  obtain ⟨y, hy⟩ : ∃ y, w0 / 2 ^ q = y := ⟨_, rfl⟩
  have hxl : x < 18446744073709551616 := by rw [← hx]; exact Nat.lt_of_le_of_lt (Nat.div_le_self _ _) hv0
  have hyl : y < 18446744073709551616 := by rw [← hy]; exact Nat.lt_of_le_of_lt (Nat.div_le_self _ _) hw0
  have X := Lib.hid (shr_u64 v0 p x hx)
  have Y := Lib.hid (shr_u64 w0 q y hy)
  clear hx hy hv0 hw0
  have P1 := Lib.hid (fun W => (put_any none [] 0 0 x (m : Int) W rfl (by decide) (by decide) (RdV.nil _ _) hxl).mono fun _ _ h => h.viewL)
  have P2 := Lib.hid (fun W => (put_any none [] 0 0 y (m : Int) W rfl (by decide) (by decide) (RdV.nil _ _) hyl).mono fun _ _ h => h.viewL)
  have P3 := Lib.hid (fun W => (put_any none [] 0 0 x ((m : Int) + 1) W rfl (by decide) (by decide) (RdV.nil _ _) hxl).mono fun _ _ h => h.viewL)
  have em : ((m : Int) % 8).toNat = m := by omega
  simp only [List.nil_append, em] at P1 P2 P3
  unfold ViewL at P1 P2 P3
  clear em
  go_enter Try.func5, Try.ntmps5
  go_wp2_with fail
  refine (K1.out _).mono ?_
  rintro r w1 ⟨rfl, rfl⟩
  go_wp2_with fail
  refine (K2.out _).mono ?_
  rintro r w1 ⟨rfl, rfl⟩
  go_wp2_with fail
  refine (K3.out _).mono ?_
  rintro r w1 ⟨rfl, rfl⟩
  go_upto_region 3 with fail
  rw [X.out, Y.out]
  go_cut [14, 15] from 29 to 36 (fun p q W => OrdCut m x y w1 p q W)
  case first =>
    rename_i J K hJ hK
    have HJ := Lib.hid hJ
    refine rc_first J hK ?_
    clear hJ hK
    refine rl_start (S := fun _ _ => True) (by kernel_rfl) trivial (fun hC hS => ?_)
    have hB : Below w1.heap.size w1 w1.drew := below_drew (Below.refl _ _)
    refine rl_pure 0 _ (.int .i64 (m : Int)) (some 29) rfl (by kernel_rfl) (by kernel_rfl) (by kernel_rfl) (by kernel_rfl) (fun _ _ _ h => h) (fun _ _ => Iff.rfl) (by kernel_rfl) (fun w => by kernel_rfl) hC hS (fun hC hS => ?_)
    refine rl_pure 1 _ (.int .u64 (x : Int)) (some 30) rfl (by kernel_rfl) (by kernel_rfl) (by kernel_rfl) (by kernel_rfl) (fun _ _ _ h => h) (fun _ _ => Iff.rfl) (by kernel_rfl) (fun w => by kernel_rfl) hC hS (fun hC hS => ?_)
    refine rl_pure 4 _ (.int .i64 (m : Int)) (some 33) rfl (by kernel_rfl) (by kernel_rfl) (by kernel_rfl) (by kernel_rfl) (fun _ _ _ h => h) (fun _ _ => Iff.rfl) (by kernel_rfl) (fun w => by kernel_rfl) hC hS (fun hC hS => ?_)
    refine rl_pure 5 _ (.int .u64 (y : Int)) (some 34) rfl (by kernel_rfl) (by kernel_rfl) (by kernel_rfl) (by kernel_rfl) (fun _ _ _ h => h) (fun _ _ => Iff.rfl) (by kernel_rfl) (fun w => by kernel_rfl) hC hS (fun hC hS => ?_)
    refine rl_all [2] (by kernel_rfl) (by simp) hC (rl_one _ ?_)
    refine rc_call 2 _ 7 _ _ _ _ #[.slice none 0 0, .int .i64 (m : Int), .int .u64 (x : Int)] (some 31) rfl (by kernel_rfl) (by kernel_rfl) rfl (by kernel_rfl) Try.func7 (by kernel_rfl) (by kernel_rfl) (by kernel_rfl) (P1.out _) ?_
    rintro r' W1 ⟨ad1, cap1, rfl, hc1, hr1, hb1⟩
    replace hB := below_on hB hb1
    refine ⟨_, rfl, ?_⟩
    refine ⟨trivial, fun hC => ?_⟩
    refine rl_all [3, 6] (by kernel_rfl) (by simp) hC (rl_two _ _ ?_ ?_)
    · skip
      refine rl_val 3 _ (.string (strB (hd m x))) W1 (some 32) rfl (by kernel_rfl) (by kernel_rfl) (rc_conv W1 _ _ 22 9 (.tmp 31) (.slice ad1 (hd m x).length cap1) _ rfl (by kernel_rfl) (conv_bv W1 ad1 _ cap1 (hd m x) rfl hr1)) ?_
      refine ⟨trivial, fun hC => ?_⟩
      refine rl_all [6] (by kernel_rfl) (by simp) hC (rl_one _ ?_)
      refine rc_call 6 _ 7 _ _ _ _ #[.slice none 0 0, .int .i64 (m : Int), .int .u64 (y : Int)] (some 35) rfl (by kernel_rfl) (by kernel_rfl) rfl (by kernel_rfl) Try.func7 (by kernel_rfl) (by kernel_rfl) (by kernel_rfl) (P2.out _) ?_
      rintro r' W3 ⟨ad2, cap2, rfl, hc2, hr2, hb3⟩
      replace hr1 := hr1.on hb3
      replace hB := below_on hB hb3
      refine ⟨_, rfl, ?_⟩
      refine ⟨trivial, fun hC => ?_⟩
      refine rl_pure 8 _ (.string (strB (hd m x))) (some 14) rfl (by kernel_rfl) (by kernel_rfl) (by kernel_rfl) (by kernel_rfl) (fun _ _ _ h => h) (fun _ _ => Iff.rfl) (by kernel_rfl) (fun w => by kernel_rfl) hC hS (fun hC hS => ?_)
      refine rl_all [7] (by kernel_rfl) (by simp) hC (rl_one _ ?_)
      refine rl_val 7 _ (.string (strB (hd m y))) W3 (some 36) rfl (by kernel_rfl) (by kernel_rfl) (rc_conv W3 _ _ 22 9 (.tmp 35) (.slice ad2 (hd m y).length cap2) _ rfl (by kernel_rfl) (conv_bv W3 ad2 _ cap2 (hd m y) rfl hr2)) ?_
      refine ⟨trivial, fun hC => ?_⟩
      refine rl_pure 9 _ (.string (strB (hd m y))) (some 15) rfl (by kernel_rfl) (by kernel_rfl) (by kernel_rfl) (by kernel_rfl) (fun _ _ _ h => h) (fun _ _ => Iff.rfl) (by kernel_rfl) (fun w => by kernel_rfl) hC hS (fun hC hS => ?_)
      refine rl_done (by kernel_rfl) ?_ _
      refine HJ.out _ _ ?_
      clear HJ
      simp only [Act.put, List.setIfInBounds_toArray, List.set_cons_zero, List.set_cons_succ]
      (repeat apply Exists.intro)
      exact ⟨⟨rfl, rfl, hB⟩, rfl⟩
    · skip
      refine rc_call 6 _ 7 _ _ _ _ #[.slice none 0 0, .int .i64 (m : Int), .int .u64 (y : Int)] (some 35) rfl (by kernel_rfl) (by kernel_rfl) rfl (by kernel_rfl) Try.func7 (by kernel_rfl) (by kernel_rfl) (by kernel_rfl) (P2.out _) ?_
      rintro r' W5 ⟨ad2, cap2, rfl, hc2, hr2, hb5⟩
      replace hr1 := hr1.on hb5
      replace hB := below_on hB hb5
      refine ⟨_, rfl, ?_⟩
      refine ⟨trivial, fun hC => ?_⟩
      refine rl_all [3, 7] (by kernel_rfl) (by simp) hC (rl_two _ _ ?_ ?_)
      · skip
        refine rl_val 3 _ (.string (strB (hd m x))) W5 (some 32) rfl (by kernel_rfl) (by kernel_rfl) (rc_conv W5 _ _ 22 9 (.tmp 31) (.slice ad1 (hd m x).length cap1) _ rfl (by kernel_rfl) (conv_bv W5 ad1 _ cap1 (hd m x) rfl hr1)) ?_
        refine ⟨trivial, fun hC => ?_⟩
        refine rl_pure 8 _ (.string (strB (hd m x))) (some 14) rfl (by kernel_rfl) (by kernel_rfl) (by kernel_rfl) (by kernel_rfl) (fun _ _ _ h => h) (fun _ _ => Iff.rfl) (by kernel_rfl) (fun w => by kernel_rfl) hC hS (fun hC hS => ?_)
        refine rl_all [7] (by kernel_rfl) (by simp) hC (rl_one _ ?_)
        refine rl_val 7 _ (.string (strB (hd m y))) W5 (some 36) rfl (by kernel_rfl) (by kernel_rfl) (rc_conv W5 _ _ 22 9 (.tmp 35) (.slice ad2 (hd m y).length cap2) _ rfl (by kernel_rfl) (conv_bv W5 ad2 _ cap2 (hd m y) rfl hr2)) ?_
        refine ⟨trivial, fun hC => ?_⟩
        refine rl_pure 9 _ (.string (strB (hd m y))) (some 15) rfl (by kernel_rfl) (by kernel_rfl) (by kernel_rfl) (by kernel_rfl) (fun _ _ _ h => h) (fun _ _ => Iff.rfl) (by kernel_rfl) (fun w => by kernel_rfl) hC hS (fun hC hS => ?_)
        refine rl_done (by kernel_rfl) ?_ _
        refine HJ.out _ _ ?_
        clear HJ
        simp only [Act.put, List.setIfInBounds_toArray, List.set_cons_zero, List.set_cons_succ]
        (repeat apply Exists.intro)
        exact ⟨⟨rfl, rfl, hB⟩, rfl⟩
      · skip
        refine rl_val 7 _ (.string (strB (hd m y))) W5 (some 36) rfl (by kernel_rfl) (by kernel_rfl) (rc_conv W5 _ _ 22 9 (.tmp 35) (.slice ad2 (hd m y).length cap2) _ rfl (by kernel_rfl) (conv_bv W5 ad2 _ cap2 (hd m y) rfl hr2)) ?_
        refine ⟨trivial, fun hC => ?_⟩
        refine rl_all [3] (by kernel_rfl) (by simp) hC (rl_one _ ?_)
        refine rl_val 3 _ (.string (strB (hd m x))) W5 (some 32) rfl (by kernel_rfl) (by kernel_rfl) (rc_conv W5 _ _ 22 9 (.tmp 31) (.slice ad1 (hd m x).length cap1) _ rfl (by kernel_rfl) (conv_bv W5 ad1 _ cap1 (hd m x) rfl hr1)) ?_
        refine ⟨trivial, fun hC => ?_⟩
        refine rl_pure 8 _ (.string (strB (hd m x))) (some 14) rfl (by kernel_rfl) (by kernel_rfl) (by kernel_rfl) (by kernel_rfl) (fun _ _ _ h => h) (fun _ _ => Iff.rfl) (by kernel_rfl) (fun w => by kernel_rfl) hC hS (fun hC hS => ?_)
        refine rl_pure 9 _ (.string (strB (hd m y))) (some 15) rfl (by kernel_rfl) (by kernel_rfl) (by kernel_rfl) (by kernel_rfl) (fun _ _ _ h => h) (fun _ _ => Iff.rfl) (by kernel_rfl) (fun w => by kernel_rfl) hC hS (fun hC hS => ?_)
        refine rl_done (by kernel_rfl) ?_ _
        refine HJ.out _ _ ?_
        clear HJ
        simp only [Act.put, List.setIfInBounds_toArray, List.set_cons_zero, List.set_cons_succ]
        (repeat apply Exists.intro)
        exact ⟨⟨rfl, rfl, hB⟩, rfl⟩
  case rest =>
    obtain ⟨rfl, rfl, hB⟩ := hcut
    have HB := Lib.hid hB
    clear hB
    go_wp2_with fail
    refine (P3.out _).mono ?_
    rintro r w3 ⟨ad, cap, rfl, hc, hr, hb⟩
    have cv := conv_bv w3 ad _ cap _ rfl hr
    have HB3 := Lib.hid (below_on HB.out hb)
    clear hc hr hb HB
    have f1 := head_less m m x y hm8 hm8 hxl hyl
    have f2 := head_same m x y hm8 hxl hyl
    have f3 : m ≠ 7 → Op.bytesLess (strB (hd m x)).toList (strB (hd ((m + 1) % 8) x)).toList = true := fun h => by
      rw [head_less m ((m + 1) % 8) x x hm8 (by omega) hxl hxl]
      have : m < (m + 1) % 8 := by omega
      simp [this]
    rw [show (decide (m < m) || (decide (m = m) && decide (x < y))) = decide (x < y) by simp] at f1
    rw [show ((m : Int) + 1) % 8 = (((m + 1) % 8 : Nat) : Int) by omega, Int.toNat_natCast] at cv ⊢
    generalize strB (hd m x) = A at *
    generalize strB (hd m y) = B at *
    generalize strB (hd ((m + 1) % 8) x) = C at *
    have AW := Lib.hid (fun W (h : Below w1.heap.size w1 W) => (awake_any W).mono fun _ _ hp => BoolBelow.mk (w := w1) hp.1 (below_on h hp.2))
    by_cases h7 : m = 7
    · have h7i : (m : Int) = 7 := by omega
      clear f3 h7
      go_wp2_with fail
      refine (AW.out _ HB3.out).mono ?_
      rintro r w4 ⟨rfl, hb4⟩
      have HB4 := Lib.hid hb4
      clear hb4
      go_wp2_with fail
      go_ret
      exact BoolBelow.mk rfl HB4.out
    · have h7i : ¬ (m : Int) = 7 := by omega
      have f4 := f3 h7
      clear f3 h7
      go_wp2_with fail
      refine (AW.out _ HB3.out).mono ?_
      rintro r w4 ⟨rfl, hb4⟩
      have HB4 := Lib.hid hb4
      clear hb4
      go_wp2_with fail
      go_ret
      exact BoolBelow.mk rfl HB4.out
end Go.Proofs.Ytokgodobmcbdoaa
