/- The walk of the reference's Digits. -/
import Derived.Test.YtogapgjilbcbfaaGreatDoorRs
import Derived.Test.YtogapgjilbcbfaaGreatDoorC5
namespace Go.Proofs.YtogapgjilbcbfaaGreatDoor
open Go.RowKit
set_option linter.unusedVariables false
set_option linter.unusedSimpArgs false

def RDRel (G N : Nat) (w : World) (M : Nat) (s lv : Value) (wr : World) : Prop :=
  ∃ T : List Nat, s = .string (txt T) ∧ Own G wr lv (limbs M) ∧ M ≤ N ∧ (decl M).reverse ++ T = (decl N).reverse ∧ Below G w wr

theorem decl_len90 {N : Nat} (h : (dec N).length ≤ 900) : (decl N).length ≤ 900 := by
  by_cases h0 : N = 0
  · subst h0; rw [decl_zero]; simp
  · unfold dec at h; rw [if_neg h0, List.length_reverse] at h; exact h
theorem txt_some {l : List Nat} (h : l ≠ []) : (txt l).toList.isEmpty = false := by
  cases l with
  | nil => exact absurd rfl h
  | cons a b => rw [ByteArray.toList_eq]; simp [txt]
theorem txt_none : (txt []).toList.isEmpty = true := by rw [ByteArray.toList_eq]; simp [txt]
theorem dig_cut {r : Nat} (h : r < 10) : (⟨#[48, 49, 50, 51, 52, 53, 54, 55, 56, 57]⟩ : ByteArray).extract r (r + 1) = txt [48 + r] := by
  have h1 : r = 0 ∨ r = 1 ∨ r = 2 ∨ r = 3 ∨ r = 4 ∨ r = 5 ∨ r = 6 ∨ r = 7 ∨ r = 8 ∨ r = 9 := by omega
  rcases h1 with rfl | rfl | rfl | rfl | rfl | rfl | rfl | rfl | rfl | rfl <;> (apply ByteArray.ext; decide)

set_option maxHeartbeats 4000000 in
set_option maxRecDepth 100000 in
theorem refDigits_any (ad : Option Addr) (n cap : Nat) (xs : List Nat) (w : World) (hn : xs.length = n) (hcap : n ≤ cap) (hm : n ≤ 90) (ho : Okl xs) (hr : Rd w ad xs) :
    Calls Tryz.prog 45 #[.slice ad n cap] w (TxtBelow (dec (val xs)) w) := by
  have KN := Lib.hid (refNorm_any ad n cap xs w hn hcap (by omega) ho hr)
  have hlen := limbs_len_le ho
  rw [hn] at hlen
  have hdl := dec_len90 ho (by omega)
  generalize val xs = N at *
  clear ho hr hn
  generalize hG : w.heap.size = G at *
  have HDL := Lib.hid hdl; clear hdl
  go_enter Tryz.func45, Tryz.ntmps45
  go_wp2_with fail
  refine KN.out.mono ?_
  rintro e w' ⟨v, rfl, hv, hbl⟩
  rw [hG] at hv hbl
  have HV := Lib.hid hv; have HB := Lib.hid hbl; clear hv hbl
  go_wp2_with fail
  go_loopg [3, 4] N (fun M s lv wr => RDRel G N w M s lv wr)
  case atStart => exact ⟨[], rfl, HV.out, Nat.le_refl _, by simp, HB.out⟩
  case round =>
    clear HV HB
    obtain ⟨T, rfl, hown, hle, hT, hbl⟩ := hrel
    obtain ⟨ad2, cap2, hve, hc2, hrd, hadd⟩ := hown.view
    have hll : (limbs gk).length ≤ n := Nat.le_trans (limbs_len_mono hle) hlen
    by_cases hM : gk = 0
    · subst hM
      rw [limbs_zero] at hve
      subst hve
      have hT2 : T = (decl N).reverse := by simpa [decl_zero] using hT
      have HT2 := Lib.hid hT2
      have HB := Lib.hid hbl
      clear hown hrd hadd hT hbl hT2 hc2 hll
      by_cases hN : N = 0
      · subst hN
        have hT0 : T = [] := by rw [HT2.out, decl_zero]; rfl
        subst hT0
        have he := txt_none
        go_wp2
        go_ret
        exact ⟨rfl, by rw [hG]; exact HB.out⟩
      · have hT0 : T ≠ [] := by rw [HT2.out, decl_pos hN]; simp
        have he := txt_some hT0
        have hd : txt (dec N) = txt T := by rw [HT2.out]; unfold dec; rw [if_neg hN]
        have HD := Lib.hid hd
        clear hd hT0
        go_wp2
        go_ret
        exact ⟨by rw [HD.out]; rfl, by rw [hG]; exact HB.out⟩
    · have hpos : (0 : Int) < ((limbs gk).length : Int) := by
        have : (limbs gk).length ≠ 0 := fun h => hM ((limbs_nil_iff gk).1 (List.eq_nil_of_length_eq_zero h))
        omega
      have K := refSmall_any ad2 (limbs gk).length cap2 (limbs gk) 10 wr rfl hc2 (by omega) (limbs_ok gk) hrd (by decide) (by decide)
      rw [val_limbs] at K
      have KS := Lib.hid K; clear K
      have hGs : G ≤ wr.heap.size := Nat.le_trans (by rw [← hG]; exact Nat.le_refl _) hbl.size
      have HT := Lib.hid hT; have HB := Lib.hid hbl
      subst hve
      clear hown hrd hadd hT hbl hc2
      go_wp2_with fail
      refine KS.out.mono ?_
      rintro r w1 ⟨v1, rfl, hv1, hb1⟩
      have hv2 := hv1.mono hGs
      have hbl2 := HB.out.trans (hb1.mono hGs)
      have h10 : gk % 10 < 10 := Nat.mod_lt _ (by decide)
      have HV2 := Lib.hid hv2; have HB2 := Lib.hid hbl2
      clear hv1 hb1 hv2 hbl2 KS
      have HST : Hid ((decl (gk / 10)).reverse ++ ((48 + gk % 10) :: T) = (decl N).reverse) := by
        have h := HT.out
        rw [decl_pos hM] at h
        exact Lib.hid (by simpa using h)
      have hqm : gk / 10 < gk := by omega
      have HQN := Lib.hid (show gk / 10 ≤ N by omega)
      have hTs : (txt T).size ≤ 900 := by
        have h := congrArg List.length HT.out
        rw [List.length_append, List.length_reverse, List.length_reverse] at h
        have := decl_len90 HDL.out
        rw [txt_size]; omega
      generalize gk % 10 = r at *
      generalize gk / 10 = q at *
      have hcut := dig_cut h10
      have hs1 : (txt [48 + r]).size ≤ 1 := by rw [txt_size]; exact Nat.le_refl _
      go_wp2
      go_roundg q
      case measure => exact hqm
      case rel => exact ⟨(48 + r) :: T, by rw [txt_append]; rfl, HV2.out, HQN.out, HST.out, HB2.out⟩
end Go.Proofs.YtogapgjilbcbfaaGreatDoor
