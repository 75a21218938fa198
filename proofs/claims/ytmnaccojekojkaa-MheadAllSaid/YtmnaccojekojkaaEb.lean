/- The walk of the law MheadAll. -/
import Derived.Test.YtmnaccojekojkaaE9
import Derived.Test.YtmnaccojekojkaaE6
import Derived.Test.YtmnaccojekojkaaPlv
import Derived.Test.YtmnaccojekojkaaRc
namespace Go.Proofs.Ytmnaccojekojkaa
open Go.RowKit Go.Lib
set_option linter.unusedVariables false
set_option linter.unusedSimpArgs false
theorem strB_app (l k : List Nat) : strB l ++ strB k = strB (l ++ k) := by
  apply ByteArray.ext
  simp [strB, ByteArray.data_append]
theorem strB_size (l : List Nat) : (strB l).size = l.length := by simp [strB, ByteArray.size]
theorem le8_ite {c : Prop} [Decidable c] {x y : Nat × Nat} (hx : x.2 ≤ 8) (hy : y.2 ≤ 8) : (if c then x else y).2 ≤ 8 := by split <;> assumption
theorem mput_len (k : Int) (n : Nat) : (mput k n).length ≤ 9 := by
  unfold mput
  split
  · simp
  next hk =>
  rw [List.length_cons, be_len]
  have hp : ∀ s, s ≤ 3 → 2 ^ s ≤ 8 := fun s hs => Nat.le_trans (Nat.pow_le_pow_right (n := 2) (by decide) hs) (by decide)
  have : (mlay k.toNat n).2 ≤ 8 := by
    unfold mlay
    repeat' (apply le8_ite)
    all_goals first | (show 0 ≤ 8; omega) | (show 4 ≤ 8; omega) | (show 8 ≤ 8; omega) | (show 2 ^ _ ≤ 8; refine hp _ ?_; first | exact stepN_le _ | (have := stepN_le (n % 4294967296); omega))
  omega
def AllCut (w : World) (p : Value) (W : World) : Prop := p = .bool false ∧ Below w.heap.size w W
set_option maxHeartbeats 4000000 in
set_option maxRecDepth 100000 in
theorem mheadAll_main (ad : Option Addr) (n cap : Nat) (l : List Nat) (j0 : Int) (v0 : Nat) (k0 : Int) (w : World) (hl : l.length = n) (hc : n ≤ cap) (hb : ∀ r ∈ l, r < 256) (hr : RdV w ad (bv l)) (h0 : ad = none → cap = 0) (hn : n ≤ 500) (hj0 : -9223372036854775808 ≤ j0 ∧ j0 ≤ 9223372036854775807) (hv0 : v0 < 18446744073709551616) (hk0 : -9223372036854775808 ≤ k0 ∧ k0 ≤ 9223372036854775807) :
    Calls Try.prog 3 #[.slice ad n cap, .int .i64 j0, .int .u64 v0, .int .i64 k0] w (BoolBelow true w) := by
  have hz : ¬ (500 : Int) < (n : Int) := by omega
  have HR := Lib.hid hr
  have HN := Lib.hid hl
  have HBT := Lib.hid hb
  have HM := Lib.hid hn
  have HCC := Lib.hid hc
  clear hr hl hb h0 hn hc
  go_enter Try.func3, Try.ntmps3
  go_wp2_with (at_builtin; refine wpl_clone1 Try.underlying22 info_u8 rfl (by decide) _ rfl _ _ rfl ad n cap (bv l) (bv_one l) rfl rfl (by rw [bv_len]; exact HN.out) HR.out (by have := HM.out; omega) ?_)
  intro v1 w1 ho1 hb1
  have HO1 := Lib.hid ho1; have HB1 := Lib.hid hb1
  clear ho1 hb1
  go_wp2_with (at_builtin; refine wpl_put w1 [.int .u8 99] rfl _ _ rfl w v1 n l rfl HO1.out HB1.out 1 rfl rfl [99] rfl (l ++ [99]) rfl (by have := HM.out; omega) ?_)
  intro v2 w2 ho2 hb2
  obtain ⟨adc, gc, rfl, hgc, hrc, hlc, _⟩ := own_view ho2
  obtain ⟨g, o, rfl, hg⟩ := hrc.shape (by rw [bv_len]; simp)
  obtain rfl : o = 0 := by
    rcases ho2.2 with ⟨e, _⟩ | ⟨g', cap', cur, e, _⟩ <;> cases e; rfl
  have HB2 := Lib.hid hb2
  have HRC := Lib.hid hrc
  have HGC := Lib.hid hgc
  have hgc2 : n ≤ gc := by omega
  clear ho2 hb2 hrc hlc HO1 HB1 hgc
  obtain ⟨H, hH⟩ : ∃ H, mput j0 v0 = H := ⟨_, rfl⟩
  have hHl : H.length ≤ 9 := by rw [← hH]; exact mput_len _ _
  have HRL := Lib.hid (fun W (h : Below w2.heap.size w2 W) => HR.out.on (below_on HB2.out h))
  have HRW := Lib.hid (fun W (h : Below w2.heap.size w2 W) => show RdV W (some ⟨g, 0, none⟩) (bv l) from by
    have h1 := (HRC.out.on h).take n
    rw [bv_take, List.take_left' HN.out] at h1
    exact h1)
  have PP := Lib.hid (fun W (h : Below w2.heap.size w2 W) => mput_any (some ⟨g, 0, none⟩) l n gc v0 W HN.out (by have := HM.out; omega) hgc2 (HRW.out W h) hv0 j0)
  have PR := Lib.hid (fun W => refMput_any v0 W hv0 j0)
  rw [hH] at PP PR
  unfold ViewM at PP PR
  have HSZ := Lib.hid (show (strB l).size + (strB H).size ≤ 1000000 by rw [strB_size, strB_size, HN.out]; have := HM.out; omega)
  have HAP := Lib.hid (strB_app l H)
  have KG := Lib.hid (fun W (h : Below w2.heap.size w2 W) => getM_any (some ⟨g, 0, none⟩) n gc l k0 W HN.out (by have := HM.out; omega) hgc2 HBT.out (HRW.out W h) hk0)
  have KR := Lib.hid (fun W (h : Below w2.heap.size w2 W) => refM_any ad n cap l k0 W HN.out (by have := HM.out; omega) HCC.out HBT.out (HRL.out W h) hk0)
  have H99 := Lib.hid (fun W (h : Below w2.heap.size w2 W) => show W.cell? ⟨g, n, none⟩ = some (.int .u8 99) from by
    have h1 := (HRC.out.on h).at n (by rw [bv_len]; simp [HN.out])
    rw [Nat.zero_add] at h1
    rw [h1, bv_get _ _ (by simp [HN.out])]
    simp [List.getD, ← HN.out])
  have AW := Lib.hid (fun W (h : Below w.heap.size w W) => (awakeM_any W).mono fun _ _ hp => BoolBelow.mk (w := w) hp.1 (below_on h hp.2))
  unfold GetM at KG KR
  generalize getM l k0 = G at KG KR
  obtain ⟨g1, g2, g3, g4⟩ := G
  simp only [tup4] at KG KR
  clear hH hHl hv0 hj0 hk0
  go_upto_region 4 with fail
  go_cut [41] from 29 to 40 (fun p W => AllCut w2 p W)
  case first =>
    rename_i J K hJ hK
    have HJ := Lib.hid hJ
    refine rc_first J hK ?_
    clear hJ hK
    refine rl_start (S := fun _ W => Below w2.heap.size w2 W) (by kernel_rfl) (below_drew (Below.refl _ _)) (fun hC hS => ?_)
    have hB : Below w2.heap.size w2 w2.drew := below_drew (Below.refl _ _)
    refine rl_pure 0 _ (.slice (some ⟨g, 0, none⟩) n gc) (some 29) rfl (by kernel_rfl) (by kernel_rfl) (by kernel_rfl) (by kernel_rfl) (fun _ _ _ h => h) (fun _ _ => Iff.rfl) (by kernel_rfl) (fun w => by kernel_rfl) hC hS (fun hC hS => ?_)
    refine rl_pure 1 _ (.int .i64 j0) (some 30) rfl (by kernel_rfl) (by kernel_rfl) (by kernel_rfl) (by kernel_rfl) (fun _ _ _ h => h) (fun _ _ => Iff.rfl) (by kernel_rfl) (fun w => by kernel_rfl) hC hS (fun hC hS => ?_)
    refine rl_pure 2 _ (.int .u64 (v0 : Int)) (some 31) rfl (by kernel_rfl) (by kernel_rfl) (by kernel_rfl) (by kernel_rfl) (fun _ _ _ h => h) (fun _ _ => Iff.rfl) (by kernel_rfl) (fun w => by kernel_rfl) hC hS (fun hC hS => ?_)
    refine rl_pure 5 _ (.slice ad n cap) (some 34) rfl (by kernel_rfl) (by kernel_rfl) (by kernel_rfl) (by kernel_rfl) (fun _ _ _ h => h) (fun _ _ => Iff.rfl) (by kernel_rfl) (fun w => by kernel_rfl) hC hS (fun hC hS => ?_)
    refine rl_pure 7 _ (.int .i64 j0) (some 36) rfl (by kernel_rfl) (by kernel_rfl) (by kernel_rfl) (by kernel_rfl) (fun _ _ _ h => h) (fun _ _ => Iff.rfl) (by kernel_rfl) (fun w => by kernel_rfl) hC hS (fun hC hS => ?_)
    refine rl_pure 8 _ (.int .u64 (v0 : Int)) (some 37) rfl (by kernel_rfl) (by kernel_rfl) (by kernel_rfl) (by kernel_rfl) (fun _ _ _ h => h) (fun _ _ => Iff.rfl) (by kernel_rfl) (fun w => by kernel_rfl) hC hS (fun hC hS => ?_)
    refine rc_take 6 _ 22 9 (.tmp 34) (.slice ad n cap) (.string (strB l)) (some 35) rfl (by kernel_rfl) (by kernel_rfl) (by kernel_rfl) (by kernel_rfl) (fun _ _ _ h => h) (fun _ _ => Iff.rfl) (by kernel_rfl) rfl (by kernel_rfl) (fun L W hC h1 hS => conv_bv W ad n cap l HN.out (HRL.out W hS)) hC hS (fun hC hS => ?_)
    refine rl_all [3] (by kernel_rfl) (by simp) hC (rl_one _ ?_)
    refine rc_call 3 _ 7 _ _ _ _ #[.slice (some ⟨g, 0, none⟩) n gc, .int .i64 j0, .int .u64 (v0 : Int)] (some 32) rfl (by kernel_rfl) (by kernel_rfl) rfl (by kernel_rfl) Try.func7 (by kernel_rfl) (by kernel_rfl) (by kernel_rfl) (PP.out w2.drew hB) ?_
    rintro r' W1 ⟨ad1, cap1, rfl, hc1, hr1, hb1⟩
    replace hB := below_on hB hb1
    refine ⟨_, rfl, ?_⟩
    refine rl_and (hB) (fun hS hC => ?_)
    refine rl_all [4, 9] (by kernel_rfl) (by simp) hC (rl_two _ _ ?_ ?_)
    · skip
      refine rl_val 4 _ (.string (strB (l ++ H))) W1 (some 33) rfl (by kernel_rfl) (by kernel_rfl) (rc_conv W1 _ _ 22 9 (.tmp 32) (.slice ad1 (l ++ H).length cap1) _ rfl (by kernel_rfl) (conv_bv W1 ad1 _ cap1 (l ++ H) rfl hr1)) ?_
      refine rl_and (hB) (fun hS hC => ?_)
      refine rl_all [9] (by kernel_rfl) (by simp) hC (rl_one _ ?_)
      refine rc_call 9 _ 8 _ _ _ _ #[.int .i64 j0, .int .u64 (v0 : Int)] (some 38) rfl (by kernel_rfl) (by kernel_rfl) rfl (by kernel_rfl) Try.func8 (by kernel_rfl) (by kernel_rfl) (by kernel_rfl) (PR.out W1) ?_
      rintro r' W3 ⟨ad2, cap2, rfl, hc2, hr2, hb3⟩
      replace hr1 := hr1.on hb3
      replace hB := below_on hB hb3
      refine ⟨_, rfl, ?_⟩
      refine rl_and (hB) (fun hS hC => ?_)
      refine rl_all [10] (by kernel_rfl) (by simp) hC (rl_one _ ?_)
      refine rl_val 10 _ (.string (strB (H))) W3 (some 39) rfl (by kernel_rfl) (by kernel_rfl) (rc_conv W3 _ _ 22 9 (.tmp 38) (.slice ad2 (H).length cap2) _ rfl (by kernel_rfl) (conv_bv W3 ad2 _ cap2 (H) rfl hr2)) ?_
      refine rl_and (hB) (fun hS hC => ?_)
      refine rl_pure 11 _ (.string (strB l ++ strB H)) (some 40) rfl (by kernel_rfl) (by kernel_rfl) (by kernel_rfl) (by kernel_rfl) (fun _ _ _ h => h) (fun _ _ => Iff.rfl) (by kernel_rfl) (fun w => rc_addS w _ _ _ _ _ _ _ _ rfl (by kernel_rfl) (by kernel_rfl) HSZ.out) hC hS (fun hC hS => ?_)
      refine rl_pure 12 _ (.bool false) (some 41) rfl (by kernel_rfl) (by kernel_rfl) (by kernel_rfl) (by kernel_rfl) (fun _ _ _ h => h) (fun _ _ => Iff.rfl) (by kernel_rfl) (fun w => rc_neqS w _ _ _ _ _ _ (strB (l ++ H)) rfl (by kernel_rfl) (by rw [HAP.out]; kernel_rfl)) hC hS (fun hC hS => ?_)
      refine rl_done (by kernel_rfl) ?_ _
      refine HJ.out _ _ ?_
      clear HJ
      simp only [Act.put, List.setIfInBounds_toArray, List.set_cons_zero, List.set_cons_succ]
      (repeat apply Exists.intro)
      exact ⟨⟨rfl, hB⟩, rfl⟩
    · skip
      refine rc_call 9 _ 8 _ _ _ _ #[.int .i64 j0, .int .u64 (v0 : Int)] (some 38) rfl (by kernel_rfl) (by kernel_rfl) rfl (by kernel_rfl) Try.func8 (by kernel_rfl) (by kernel_rfl) (by kernel_rfl) (PR.out W1) ?_
      rintro r' W5 ⟨ad2, cap2, rfl, hc2, hr2, hb5⟩
      replace hr1 := hr1.on hb5
      replace hB := below_on hB hb5
      refine ⟨_, rfl, ?_⟩
      refine rl_and (hB) (fun hS hC => ?_)
      refine rl_all [4, 10] (by kernel_rfl) (by simp) hC (rl_two _ _ ?_ ?_)
      · skip
        refine rl_val 4 _ (.string (strB (l ++ H))) W5 (some 33) rfl (by kernel_rfl) (by kernel_rfl) (rc_conv W5 _ _ 22 9 (.tmp 32) (.slice ad1 (l ++ H).length cap1) _ rfl (by kernel_rfl) (conv_bv W5 ad1 _ cap1 (l ++ H) rfl hr1)) ?_
        refine rl_and (hB) (fun hS hC => ?_)
        refine rl_all [10] (by kernel_rfl) (by simp) hC (rl_one _ ?_)
        refine rl_val 10 _ (.string (strB (H))) W5 (some 39) rfl (by kernel_rfl) (by kernel_rfl) (rc_conv W5 _ _ 22 9 (.tmp 38) (.slice ad2 (H).length cap2) _ rfl (by kernel_rfl) (conv_bv W5 ad2 _ cap2 (H) rfl hr2)) ?_
        refine rl_and (hB) (fun hS hC => ?_)
        refine rl_pure 11 _ (.string (strB l ++ strB H)) (some 40) rfl (by kernel_rfl) (by kernel_rfl) (by kernel_rfl) (by kernel_rfl) (fun _ _ _ h => h) (fun _ _ => Iff.rfl) (by kernel_rfl) (fun w => rc_addS w _ _ _ _ _ _ _ _ rfl (by kernel_rfl) (by kernel_rfl) HSZ.out) hC hS (fun hC hS => ?_)
        refine rl_pure 12 _ (.bool false) (some 41) rfl (by kernel_rfl) (by kernel_rfl) (by kernel_rfl) (by kernel_rfl) (fun _ _ _ h => h) (fun _ _ => Iff.rfl) (by kernel_rfl) (fun w => rc_neqS w _ _ _ _ _ _ (strB (l ++ H)) rfl (by kernel_rfl) (by rw [HAP.out]; kernel_rfl)) hC hS (fun hC hS => ?_)
        refine rl_done (by kernel_rfl) ?_ _
        refine HJ.out _ _ ?_
        clear HJ
        simp only [Act.put, List.setIfInBounds_toArray, List.set_cons_zero, List.set_cons_succ]
        (repeat apply Exists.intro)
        exact ⟨⟨rfl, hB⟩, rfl⟩
      · skip
        refine rl_val 10 _ (.string (strB (H))) W5 (some 39) rfl (by kernel_rfl) (by kernel_rfl) (rc_conv W5 _ _ 22 9 (.tmp 38) (.slice ad2 (H).length cap2) _ rfl (by kernel_rfl) (conv_bv W5 ad2 _ cap2 (H) rfl hr2)) ?_
        refine rl_and (hB) (fun hS hC => ?_)
        refine rl_pure 11 _ (.string (strB l ++ strB H)) (some 40) rfl (by kernel_rfl) (by kernel_rfl) (by kernel_rfl) (by kernel_rfl) (fun _ _ _ h => h) (fun _ _ => Iff.rfl) (by kernel_rfl) (fun w => rc_addS w _ _ _ _ _ _ _ _ rfl (by kernel_rfl) (by kernel_rfl) HSZ.out) hC hS (fun hC hS => ?_)
        refine rl_all [4] (by kernel_rfl) (by simp) hC (rl_one _ ?_)
        refine rl_val 4 _ (.string (strB (l ++ H))) W5 (some 33) rfl (by kernel_rfl) (by kernel_rfl) (rc_conv W5 _ _ 22 9 (.tmp 32) (.slice ad1 (l ++ H).length cap1) _ rfl (by kernel_rfl) (conv_bv W5 ad1 _ cap1 (l ++ H) rfl hr1)) ?_
        refine rl_and (hB) (fun hS hC => ?_)
        refine rl_pure 12 _ (.bool false) (some 41) rfl (by kernel_rfl) (by kernel_rfl) (by kernel_rfl) (by kernel_rfl) (fun _ _ _ h => h) (fun _ _ => Iff.rfl) (by kernel_rfl) (fun w => rc_neqS w _ _ _ _ _ _ (strB (l ++ H)) rfl (by kernel_rfl) (by rw [HAP.out]; kernel_rfl)) hC hS (fun hC hS => ?_)
        refine rl_done (by kernel_rfl) ?_ _
        refine HJ.out _ _ ?_
        clear HJ
        simp only [Act.put, List.setIfInBounds_toArray, List.set_cons_zero, List.set_cons_succ]
        (repeat apply Exists.intro)
        exact ⟨⟨rfl, hB⟩, rfl⟩
  case rest =>
    obtain ⟨rfl, hB⟩ := hcut
    have HB := Lib.hid hB
    clear hB
    go_wp2_with fail
    refine (KG.out _ HB.out).mono ?_
    rintro r w4 ⟨rfl, hb4⟩
    have HB4 := Lib.hid (below_on HB.out hb4)
    clear hb4
    go_wp2_with fail
    refine (KR.out _ HB4.out).mono ?_
    rintro r w5 ⟨rfl, hb5⟩
    have HB5 := Lib.hid (below_on HB4.out hb5)
    have HB6 := Lib.hid (below_on HB2.out HB5.out)
    have c99 := H99.out _ HB5.out
    have hq : n + 1 ≤ gc := HGC.out
    have hm5 : n ≤ 500 := HM.out
    clear hb5
    go_wp2_with fail
    refine (AW.out _ HB6.out).mono ?_
    rintro r w7 ⟨rfl, hb7⟩
    have HB7 := Lib.hid hb7
    clear hb7
    go_wp2_with fail
    go_ret
    exact BoolBelow.mk rfl HB7.out
set_option maxHeartbeats 4000000 in
set_option maxRecDepth 100000 in
theorem mheadAll_walk (ad : Option Addr) (n cap : Nat) (l : List Nat) (j0 : Int) (v0 : Nat) (k0 : Int) (w : World) (hl : l.length = n) (hc : n ≤ cap) (hb : ∀ r ∈ l, r < 256) (hr : RdV w ad (bv l)) (h0 : ad = none → cap = 0) (hj0 : -9223372036854775808 ≤ j0 ∧ j0 ≤ 9223372036854775807) (hv0 : v0 < 18446744073709551616) (hk0 : -9223372036854775808 ≤ k0 ∧ k0 ≤ 9223372036854775807) :
    Calls Try.prog 3 #[.slice ad n cap, .int .i64 j0, .int .u64 v0, .int .i64 k0] w (BoolBelow true w) := by
  by_cases hn : n ≤ 500
  · exact mheadAll_main ad n cap l j0 v0 k0 w hl hc hb hr h0 hn hj0 hv0 hk0
  · have hz : (500 : Int) < (n : Int) := by omega
    have AW := Lib.hid (awakeM_any w)
    clear hl hc hb hr h0 hn
    go_enter Try.func3, Try.ntmps3
    go_wp2_with fail
    refine AW.out.mono ?_
    rintro r w7 ⟨rfl, hb7⟩
    have HB7 := Lib.hid hb7
    clear hb7
    go_wp2_with fail
    go_ret
    exact BoolBelow.mk rfl HB7.out
end Go.Proofs.Ytmnaccojekojkaa
