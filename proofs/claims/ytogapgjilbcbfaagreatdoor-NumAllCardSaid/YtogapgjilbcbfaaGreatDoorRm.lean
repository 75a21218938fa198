/- The walks of the reference's Trim, of layer 2's reference Make. -/
import Derived.Test.YtogapgjilbcbfaaGreatDoorRs
import Derived.Test.YtogapgjilbcbfaaGreatDoorC8
namespace Go.Proofs.YtogapgjilbcbfaaGreatDoor
open Go.RowKit
set_option linter.unusedVariables false
set_option linter.unusedSimpArgs false

def RTPost (a : Nat) (w : World) (e : Ending) (w' : World) : Prop :=
  ∃ v m k, e = .returned (.tuple #[v, .int .i64 ((k : Nat) : Int)]) ∧ Own w.heap.size w' v (limbs m) ∧ Below w.heap.size w w' ∧ a = m * tenN k ∧ (a = 0 → k = 0) ∧ (a ≠ 0 → m % 10 ≠ 0) ∧ k ≤ 400000000
def RTRel (G N : Nat) (w : World) (M : Nat) (lv n : Value) (wr : World) : Prop :=
  ∃ k : Nat, n = .int .i64 (k : Int) ∧ Own G wr lv (limbs M) ∧ N = M * tenN k ∧ (N = 0 → k = 0) ∧ M ≤ N ∧ k ≤ 400000000 ∧ Below G w wr
theorem rt_step {N M k n : Nat} (h : N = M * tenN k) (h0 : M ≠ 0) (hm : M % 10 = 0) (hN : N < B32 ^ n) (hn : n ≤ 10000000) : N = M / 10 * tenN (k + 1) ∧ (N = 0 → k + 1 = 0) ∧ k + 1 ≤ 400000000 := by
  have e := Nat.div_add_mod M 10
  rw [hm, Nat.add_zero] at e
  have hN0 : N ≠ 0 := by rw [h]; exact Nat.mul_ne_zero h0 (tenN_ne _)
  have e1 : N = M / 10 * tenN (k + 1) := by
    rw [h]; conv => lhs; rw [← e]
    rw [tenN_succ]
    generalize tenN k = T; generalize M / 10 = q; grind
  have h1 : M / 10 ≠ 0 := by omega
  have h2 : tenN (k + 1) ≤ N := by rw [e1]; exact Nat.le_mul_of_pos_left _ (by omega)
  have := ten_bound h2 hN
  exact ⟨e1, fun h0 => absurd h0 hN0, by omega⟩

set_option maxHeartbeats 4000000 in
set_option maxRecDepth 100000 in
theorem refTrim_any (ad : Option Addr) (n cap : Nat) (xs : List Nat) (w : World) (hn : xs.length = n) (hcap : n ≤ cap) (hm : n ≤ 10000000) (ho : Okl xs) (hr : Rd w ad xs) :
    Calls Tryz.prog 26 #[.slice ad n cap] w (RTPost (val xs) w) := by
  have KN := Lib.hid (refNorm_any ad n cap xs w hn hcap (by omega) ho hr)
  have hlen := limbs_len_le ho
  rw [hn] at hlen
  have hlt := val_lt ho
  rw [hn] at hlt
  generalize val xs = N at *
  clear ho hr hn
  generalize hG : w.heap.size = G at *
  have HLT := Lib.hid hlt; clear hlt
  go_enter Tryz.func26, Tryz.ntmps26
  go_wp2_with fail
  refine KN.out.mono ?_
  rintro e w' ⟨v, rfl, hv, hbl⟩
  rw [hG] at hv hbl
  have HV := Lib.hid hv; have HB := Lib.hid hbl; clear hv hbl
  go_wp2_with fail
  go_loopg [4, 5] N (fun M lv nv wr => RTRel G N w M lv nv wr)
  case atStart => exact ⟨0, rfl, HV.out, by rw [tenN_zero, Nat.mul_one], fun _ => rfl, Nat.le_refl _, by omega, HB.out⟩
  case round =>
    clear HV HB
    obtain ⟨k, rfl, hown, hT, hk0, hle, hk4, hbl⟩ := hrel
    obtain ⟨ad2, cap2, hve, hc2, hrd, hadd⟩ := hown.view
    have hll : (limbs gk).length ≤ n := Nat.le_trans (limbs_len_mono hle) hlen
    by_cases hM : gk = 0
    · subst hM
      rw [limbs_zero] at hve
      subst hve
      have F := Lib.hid (show RTPost N w (.returned (.tuple #[.slice ad2 0 cap2, .int .i64 ((k : Nat) : Int)])) wr from ⟨_, 0, k, rfl, by rw [hG]; exact hown, by rw [hG]; exact hbl, hT, hk0, fun h => absurd (by rw [hT, Nat.zero_mul]) h, hk4⟩)
      clear hown hrd hadd hT hbl hc2 hll hk0
      go_wp2
      go_ret2
      exact F.out
    · have hpos : (0 : Int) < ((limbs gk).length : Int) := by
        have : (limbs gk).length ≠ 0 := fun h => hM ((limbs_nil_iff gk).1 (List.eq_nil_of_length_eq_zero h))
        omega
      have K := refSmall_any ad2 (limbs gk).length cap2 (limbs gk) 10 wr rfl hc2 (by omega) (limbs_ok gk) hrd (by decide) (by decide)
      rw [val_limbs] at K
      have KS := Lib.hid K; clear K
      have hGs : G ≤ wr.heap.size := Nat.le_trans (by rw [← hG]; exact Nat.le_refl _) hbl.size
      have HT := Lib.hid hT; have HB := Lib.hid hbl; have HO := Lib.hid hown; have HK0 := Lib.hid hk0; have HVE := Lib.hid hve
      subst hve
      clear hown hrd hadd hT hbl hc2 hk0
      go_wp2_with fail
      refine KS.out.mono ?_
      rintro r w1 ⟨v1, rfl, hv1, hb1⟩
      have hv2 := hv1.mono hGs
      have hbl2 := HB.out.trans (hb1.mono hGs)
      have ho2 := HO.out.below hb1
      have h10 : gk % 10 < 10 := Nat.mod_lt _ (by decide)
      have HV2 := Lib.hid hv2; have HB2 := Lib.hid hbl2; have HO2 := Lib.hid ho2
      clear hv1 hb1 hv2 hbl2 KS ho2
      by_cases h0 : gk % 10 = 0
      · have HS := Lib.hid (rt_step HT.out hM h0 HLT.out hm)
        have hqm : gk / 10 < gk := by omega
        have HQN := Lib.hid (show gk / 10 ≤ N by omega)
        have hb : ((((gk % 10 : Nat) : Int)) != 0) = false := by rw [h0]; rfl
        have hi : ((gk % 10 : Nat) : Int) = 0 := by omega
        generalize gk % 10 = r at *
        subst h0
        generalize gk / 10 = q at *
        go_wp2
        go_roundg q
        case measure => exact hqm
        case rel => exact ⟨k + 1, by go_num, HV2.out, HS.out.1, HS.out.2.1, HQN.out, HS.out.2.2, HB2.out⟩
      · have F := Lib.hid (show RTPost N w (.returned (.tuple #[.slice ad2 (limbs gk).length cap2, .int .i64 ((k : Nat) : Int)])) w1 from ⟨_, gk, k, rfl, by rw [hG]; exact HO2.out, by rw [hG]; exact HB2.out, HT.out, HK0.out, fun _ => h0, hk4⟩)
        have hi : ¬ ((gk % 10 : Nat) : Int) = 0 := by omega
        generalize gk % 10 = r at *
        go_wp2
        go_ret2
        exact F.out
end Go.Proofs.YtogapgjilbcbfaaGreatDoor
