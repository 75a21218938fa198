/- The document's example of mhead; the walk of the law MheadBack. -/
import Derived.Test.YtmnaccojekojkaaE5
import Derived.Test.YtmnaccojekojkaaPlv
import Derived.Test.YtmnaccojekojkaaRc
import Derived.Deep.CutBlock
namespace Go.Proofs.Ytmnaccojekojkaa
open Go.RowKit Go.Lib
set_option linter.unusedVariables false
set_option linter.unusedSimpArgs false
set_option maxHeartbeats 1000000 in
set_option maxRecDepth 100000 in
theorem awakeM_any (w : World) : Calls Try.prog 6 #[] w (BoolBelow true w) := by
  have K1 := Lib.hid (mput_any none [] 0 0 40 w rfl (by decide) (by decide) (RdV.nil _ _) (by decide) 7)
  have e : [] ++ mput 7 40 = [217, 40] := by decide
  rw [e] at K1
  unfold ViewM at K1
  go_enter Try.func6, Try.ntmps6
  go_wp2_with fail
  refine K1.out.mono ?_
  rintro x w1 ⟨ad, cap, rfl, hc, hr, hb⟩
  have HB := Lib.hid hb
  have hcv := conv_bv w1 ad 2 cap [217, 40] rfl hr
  clear hb hr e hc
  have hs : (strB [217, 40]).toList == [217, 40] := by rw [strB_list]; rfl
  go_wp2
  go_ret
  exact BoolBelow.mk rfl HB.out
/-- The kinds that are put. -/
def kk (m : Nat) : Nat := [1, 2, 3, 4, 5, 6, 7, 8, 9, 10, 12].getD m 0
theorem kk_ok : ∀ m, m < 11 → 1 ≤ kk m ∧ kk m ≤ 12 ∧ kk m ≠ 11 := by decide
theorem idxK0 (w : World) : Sem.run Try.prog (Instr.index 31 (.agg #[.int .i64 1, .int .i64 2, .int .i64 3, .int .i64 4, .int .i64 5, .int .i64 6, .int .i64 7, .int .i64 8, .int .i64 9, .int .i64 10, .int .i64 12]) (.int .i64 0)) w = Result.ok (.int .i64 1) w := by kernel_rfl
theorem idxK1 (w : World) : Sem.run Try.prog (Instr.index 31 (.agg #[.int .i64 1, .int .i64 2, .int .i64 3, .int .i64 4, .int .i64 5, .int .i64 6, .int .i64 7, .int .i64 8, .int .i64 9, .int .i64 10, .int .i64 12]) (.int .i64 1)) w = Result.ok (.int .i64 2) w := by kernel_rfl
theorem idxK2 (w : World) : Sem.run Try.prog (Instr.index 31 (.agg #[.int .i64 1, .int .i64 2, .int .i64 3, .int .i64 4, .int .i64 5, .int .i64 6, .int .i64 7, .int .i64 8, .int .i64 9, .int .i64 10, .int .i64 12]) (.int .i64 2)) w = Result.ok (.int .i64 3) w := by kernel_rfl
theorem idxK3 (w : World) : Sem.run Try.prog (Instr.index 31 (.agg #[.int .i64 1, .int .i64 2, .int .i64 3, .int .i64 4, .int .i64 5, .int .i64 6, .int .i64 7, .int .i64 8, .int .i64 9, .int .i64 10, .int .i64 12]) (.int .i64 3)) w = Result.ok (.int .i64 4) w := by kernel_rfl
theorem idxK4 (w : World) : Sem.run Try.prog (Instr.index 31 (.agg #[.int .i64 1, .int .i64 2, .int .i64 3, .int .i64 4, .int .i64 5, .int .i64 6, .int .i64 7, .int .i64 8, .int .i64 9, .int .i64 10, .int .i64 12]) (.int .i64 4)) w = Result.ok (.int .i64 5) w := by kernel_rfl
theorem idxK5 (w : World) : Sem.run Try.prog (Instr.index 31 (.agg #[.int .i64 1, .int .i64 2, .int .i64 3, .int .i64 4, .int .i64 5, .int .i64 6, .int .i64 7, .int .i64 8, .int .i64 9, .int .i64 10, .int .i64 12]) (.int .i64 5)) w = Result.ok (.int .i64 6) w := by kernel_rfl
theorem idxK6 (w : World) : Sem.run Try.prog (Instr.index 31 (.agg #[.int .i64 1, .int .i64 2, .int .i64 3, .int .i64 4, .int .i64 5, .int .i64 6, .int .i64 7, .int .i64 8, .int .i64 9, .int .i64 10, .int .i64 12]) (.int .i64 6)) w = Result.ok (.int .i64 7) w := by kernel_rfl
theorem idxK7 (w : World) : Sem.run Try.prog (Instr.index 31 (.agg #[.int .i64 1, .int .i64 2, .int .i64 3, .int .i64 4, .int .i64 5, .int .i64 6, .int .i64 7, .int .i64 8, .int .i64 9, .int .i64 10, .int .i64 12]) (.int .i64 7)) w = Result.ok (.int .i64 8) w := by kernel_rfl
theorem idxK8 (w : World) : Sem.run Try.prog (Instr.index 31 (.agg #[.int .i64 1, .int .i64 2, .int .i64 3, .int .i64 4, .int .i64 5, .int .i64 6, .int .i64 7, .int .i64 8, .int .i64 9, .int .i64 10, .int .i64 12]) (.int .i64 8)) w = Result.ok (.int .i64 9) w := by kernel_rfl
theorem idxK9 (w : World) : Sem.run Try.prog (Instr.index 31 (.agg #[.int .i64 1, .int .i64 2, .int .i64 3, .int .i64 4, .int .i64 5, .int .i64 6, .int .i64 7, .int .i64 8, .int .i64 9, .int .i64 10, .int .i64 12]) (.int .i64 9)) w = Result.ok (.int .i64 10) w := by kernel_rfl
theorem idxK10 (w : World) : Sem.run Try.prog (Instr.index 31 (.agg #[.int .i64 1, .int .i64 2, .int .i64 3, .int .i64 4, .int .i64 5, .int .i64 6, .int .i64 7, .int .i64 8, .int .i64 9, .int .i64 10, .int .i64 12]) (.int .i64 10)) w = Result.ok (.int .i64 12) w := by kernel_rfl
theorem idx_kk (m : Nat) (hm : m < 11) (w : World) : Sem.run Try.prog (Instr.index 31 (.agg #[.int .i64 1, .int .i64 2, .int .i64 3, .int .i64 4, .int .i64 5, .int .i64 6, .int .i64 7, .int .i64 8, .int .i64 9, .int .i64 10, .int .i64 12]) (.int .i64 (m : Int))) w = Result.ok (.int .i64 ((kk m : Nat) : Int)) w := by
  have h : m = 0 ∨ m = 1 ∨ m = 2 ∨ m = 3 ∨ m = 4 ∨ m = 5 ∨ m = 6 ∨ m = 7 ∨ m = 8 ∨ m = 9 ∨ m = 10 := by omega
  rcases h with rfl | rfl | rfl | rfl | rfl | rfl | rfl | rfl | rfl | rfl | rfl
  · exact idxK0 w
  · exact idxK1 w
  · exact idxK2 w
  · exact idxK3 w
  · exact idxK4 w
  · exact idxK5 w
  · exact idxK6 w
  · exact idxK7 w
  · exact idxK8 w
  · exact idxK9 w
  · exact idxK10 w
structure BackX (w : World) (p : Value) (W : World) : Prop where
  ex : ∃ x : Nat, x < 18446744073709551616 ∧ p = .int .u64 (x : Int) ∧ W = w
theorem BackX.of {w : World} (x : Nat) (hx : x < 18446744073709551616) : BackX w (.int .u64 (x : Int)) w := ⟨⟨x, hx, rfl, rfl⟩⟩
structure BackK (k : Nat) (w : World) (p : Value) (W : World) : Prop where
  ex : ∃ x : Nat, okX k x ∧ p = .int .u64 (x : Int) ∧ W = w
theorem BackK.of {w : World} {k : Nat} {v : Int} (x : Nat) (hx : okX k x) (hv : v = (x : Int)) : BackK k w (.int .u64 v) w := ⟨⟨x, hx, by rw [hv], rfl⟩⟩
theorem and_63 (x : Nat) (hx : x < 18446744073709551616) : bits .and .u64 (x : Int) 9223372036854775807 = ((x % 9223372036854775808 : Nat) : Int) := by
  have h7 : (BitVec.ofInt 64 9223372036854775807).toNat = 2 ^ 63 - 1 := by decide
  have hx : (BitVec.ofInt 64 (x : Int)).toNat = x := by rw [BitVec.toNat_ofInt]; omega
  show IntKind.u64.wrap (((BitVec.ofInt 64 (x : Int) &&& BitVec.ofInt 64 9223372036854775807).toNat : Nat) : Int) = _
  rw [BitVec.toNat_and, h7, Nat.and_two_pow_sub_one_eq_mod, hx, show (2 : Nat) ^ 63 = 9223372036854775808 from rfl, IntKind.wrap_u64]
  omega
set_option maxHeartbeats 4000000 in
set_option maxRecDepth 100000 in
theorem mheadBack_walk (j0 : Int) (v0 : Nat) (n0 : Int) (w : World) (hj0 : -9223372036854775808 ≤ j0 ∧ j0 ≤ 9223372036854775807) (hv0 : v0 < 18446744073709551616) (hn0 : -9223372036854775808 ≤ n0 ∧ n0 ≤ 9223372036854775807) :
    Calls Try.prog 4 #[.int .i64 j0, .int .u64 v0, .int .i64 n0] w (BoolBelow true w) := by
  have K1 := Lib.hid (fun W => place_any j0 11 W hj0 ⟨by decide, by decide⟩)
  obtain ⟨m, hm⟩ : ∃ m : Nat, j0 % 11 = (m : Int) := ⟨(j0 % 11).toNat, by omega⟩
  have hm11 : m < 11 := by omega
  rw [hm] at K1
  have K2 := Lib.hid (fun W => place_any n0 65 W hn0 ⟨by decide, by decide⟩)
  obtain ⟨b, hbb⟩ : ∃ b : Nat, n0 % 65 = (b : Int) := ⟨(n0 % 65).toNat, by omega⟩
  have hb65 : b < 65 := by omega
  rw [hbb] at K2
  have HI := Lib.hid (idx_kk m hm11)
  have hk := kk_ok m hm11
  generalize kk m = k at *
  have HV := Lib.hid hv0
  clear hm hbb hj0 hn0 hv0 hm11
  go_enter Try.func4, Try.ntmps4
  go_wp2_with fail
  refine (K1.out _).mono ?_
  rintro r w1 ⟨rfl, rfl⟩
  go_wp2_with fail
  rw [HI.out]
  go_wp2_with fail
  refine (K2.out _).mono ?_
  rintro r w2 ⟨rfl, rfl⟩
  go_upto_if 27 with fail
  go_cut [9] from 28 to 33 (fun p W => BackX w2 p W)
  case first =>
    by_cases h : b < 64
    · have hki : (b : Int) < 64 := by omega
      go_wp2_with fail
      obtain ⟨x, hx, e⟩ := and_nat (v0 : Int) (IntKind.u64.wrap (IntKind.u64.wrap (2 ^ b) - 1))
      rw [e]
      go_meet
      exact BackX.of x hx
    · have hki : ¬ (b : Int) < 64 := by omega
      go_wp2_with fail
      go_meet
      exact BackX.of v0 HV.out
  case rest =>
    obtain ⟨⟨x, hx, rfl, hw⟩⟩ := hcut
    subst hw
    have HX := Lib.hid hx
    clear hb65 K1 K2 HI hx
    go_upto_block 0 with fail
    go_cut [9] from 34 to 51 (fun p W => BackK k wc p W)
    case first =>
      have h := HX.out
      have E32 := Lib.hid (and_32 x HX.out)
      have E63 := Lib.hid (and_63 x HX.out)
      have EX := Lib.hid (xor_max (x % 9223372036854775808) (by omega))
      have hc : k = 1 ∨ k = 2 ∨ k = 3 ∨ k = 4 ∨ k = 5 ∨ k = 6 ∨ k = 7 ∨ k = 8 ∨ k = 9 ∨ k = 10 ∨ k = 12 := by omega
      clear h hk
      rcases hc with rfl | rfl | rfl | rfl | rfl | rfl | rfl | rfl | rfl | rfl | rfl
      · go_wp2_with fail
        go_meet
        exact BackK.of 0 (by unfold okX; refine ⟨fun h => ?_, fun h => ?_, fun h => ?_, ?_⟩ <;> omega) rfl
      · go_wp2_with fail
        go_meet
        exact BackK.of 0 (by unfold okX; refine ⟨fun h => ?_, fun h => ?_, fun h => ?_, ?_⟩ <;> omega) rfl
      · go_wp2_with fail
        go_meet
        exact BackK.of 0 (by unfold okX; refine ⟨fun h => ?_, fun h => ?_, fun h => ?_, ?_⟩ <;> omega) rfl
      · go_wp2_with fail
        go_meet
        exact BackK.of x (by have := HX.out; unfold okX; refine ⟨fun h => ?_, fun h => ?_, fun h => ?_, ?_⟩ <;> omega) rfl
      · go_wp2_with fail
        go_meet
        exact BackK.of (18446744073709551615 - x % 9223372036854775808) (by have := HX.out; unfold okX; refine ⟨fun h => ?_, fun h => ?_, fun h => ?_, ?_⟩ <;> omega) (by rw [E63.out, EX.out]; omega)
      · go_wp2_with fail
        go_meet
        exact BackK.of x (by have := HX.out; unfold okX; refine ⟨fun h => ?_, fun h => ?_, fun h => ?_, ?_⟩ <;> omega) rfl
      · go_wp2_with fail
        go_meet
        exact BackK.of (x % 4294967296) (by unfold okX; refine ⟨fun h => ?_, fun h => ?_, fun h => ?_, ?_⟩ <;> omega) E32.out
      · go_wp2_with fail
        go_meet
        exact BackK.of (x % 4294967296) (by unfold okX; refine ⟨fun h => ?_, fun h => ?_, fun h => ?_, ?_⟩ <;> omega) E32.out
      · go_wp2_with fail
        go_meet
        exact BackK.of (x % 4294967296) (by unfold okX; refine ⟨fun h => ?_, fun h => ?_, fun h => ?_, ?_⟩ <;> omega) E32.out
      · go_wp2_with fail
        go_meet
        exact BackK.of (x % 4294967296) (by unfold okX; refine ⟨fun h => ?_, fun h => ?_, fun h => ?_, ?_⟩ <;> omega) E32.out
      · go_wp2_with fail
        go_meet
        exact BackK.of (x % 4294967296) (by unfold okX; refine ⟨fun h => ?_, fun h => ?_, fun h => ?_, ?_⟩ <;> omega) E32.out
    case rest =>
      obtain ⟨⟨y, hok, rfl, hw⟩⟩ := hcut
      subst hw
      have hy : y < 18446744073709551616 := hok.2.2.2
      have hL := mlay_lays k y hk hok
      generalize hfS : mlay k y = fS at hL
      obtain ⟨f, S⟩ := fS
      simp only [] at hL
      have hS8 : S ≤ 8 := by have := sizeB_le f; have := hL.sz; omega
      have hB : [7, 7] ++ mput (k : Int) y = 7 :: 7 :: f :: be S y := by
        unfold mput
        rw [if_neg (by omega), Int.toNat_natCast, hfS]; rfl
      have hlen : (7 :: 7 :: f :: be S y).length = 2 + S + 1 := by simp [be_len]; omega
      have HLB := Lib.hid hlen
      have HBT := Lib.hid (show ∀ z ∈ 7 :: 7 :: f :: be S y, z < 256 from fun z hz => by
        rcases List.mem_cons.1 hz with rfl | hz
        · decide
        rcases List.mem_cons.1 hz with rfl | hz
        · decide
        rcases List.mem_cons.1 hz with rfl | hz
        · exact hL.lt
        · exact be_lt S y z hz)
      have KP := Lib.hid (fun W => mput_any (some ⟨W.heap.size, 0, none⟩) [7, 7] 2 2 y (W.alloc (.cells #[.int .u8 7, .int .u8 7] 5)) rfl (by decide) (by decide) (rd_new W _ [.int .u8 7, .int .u8 7]) hy (k : Int))
      rw [hB] at KP
      unfold ViewM at KP
      rw [hlen] at KP
      have KE := Lib.hid (fun W => mput_any none [] 0 0 v0 W rfl (by decide) (by decide) (RdV.nil _ _) HV.out 11)
      rw [show [] ++ mput 11 v0 = [] by simp [mput]] at KE
      unfold ViewM at KE
      simp only [List.length_nil] at KE
      have KG1 := Lib.hid (fun ad cap W (hc : 2 + S + 1 ≤ cap) (hr : RdV W ad (bv (7 :: 7 :: f :: be S y))) => getM_any ad (2 + S + 1) cap (7 :: 7 :: f :: be S y) ((2 : Nat) : Int) W HLB.out (by omega) hc HBT.out hr (by decide))
      have KG2 := Lib.hid (fun ad cap W (hc : 2 + S + 1 ≤ cap) (hr : RdV W ad (bv (7 :: 7 :: f :: be S y))) => getM_any ad (2 + S) cap ((7 :: 7 :: f :: be S y).take (2 + S)) ((2 : Nat) : Int) W (by rw [List.length_take, HLB.out]; omega) (by omega) (by omega) (fun z hz => HBT.out z (List.mem_of_mem_take hz)) (by rw [← bv_take]; exact hr.take _) (by decide))
      unfold GetM at KG1 KG2
      rw [getM_back k y f S hL (by omega), show 3 + S = 2 + S + 1 by omega] at KG1
      rw [getM_cut k y f S hL (by omega)] at KG2
      simp only [tup4] at KG1 KG2
      have AW := Lib.hid (fun W (h : Below wc.heap.size wc W) => (awakeM_any W).mono fun _ _ hp => BoolBelow.mk (w := wc) hp.1 (below_on h hp.2))
      clear hB hlen hL hfS hok hy
      obtain ⟨wn, hwn⟩ : ∃ wn, 2 + S = wn := ⟨_, rfl⟩
      rw [hwn] at KP KG1 KG2 HLB
      have hw10 : 2 ≤ wn ∧ wn ≤ 10 := by omega
      clear hwn hS8 HX hk HV
      have g1 : ¬ ((wn + 1 : Nat) : Int) < 3 := by omega
      have g2 : ¬ (11 : Int) < ((wn + 1 : Nat) : Int) := by omega
      go_wp2_with fail
      refine (KP.out _).mono ?_
      rintro r w3 ⟨ad3, cap3, rfl, hc3, hr3, hb3⟩
      have HB3 := Lib.hid (show Below wc.heap.size wc w3 from ((Below.refl _ _).alloc (Nat.le_refl _) _).trans (hb3.mono (by simp)))
      have HR3 := Lib.hid hr3
      clear hb3 hr3
      go_wp2_with fail
      refine (KG1.out _ _ _ hc3 HR3.out).mono ?_
      rintro r w4 ⟨rfl, hb4⟩
      have HB4 := Lib.hid (below_on HB3.out hb4)
      have HR4 := Lib.hid (HR3.out.on hb4)
      clear hb4
      have hcw : wn ≤ cap3 := by omega
      go_wp2_with fail
      refine (KG2.out _ _ _ hc3 HR4.out).mono ?_
      rintro r w5 ⟨rfl, hb5⟩
      have HB5 := Lib.hid (below_on HB4.out hb5)
      clear hb5 HR3 HR4 hcw hc3
      go_wp2_with fail
      refine (KE.out _).mono ?_
      rintro r w6 ⟨ad6, cap6, rfl, hc6, hr6, hb6⟩
      have HB6 := Lib.hid (below_on HB5.out hb6)
      clear hb6 hr6 hc6
      go_wp2_with fail
      refine (AW.out _ HB6.out).mono ?_
      rintro r w7 ⟨rfl, hb7⟩
      have HB7 := Lib.hid hb7
      clear hb7
      go_wp2_with fail
      go_ret
      exact BoolBelow.mk rfl HB7.out
end Go.Proofs.Ytmnaccojekojkaa
