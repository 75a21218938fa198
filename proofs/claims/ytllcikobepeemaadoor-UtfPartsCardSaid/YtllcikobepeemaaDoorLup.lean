/- The walk of the law UtfParts. -/
import Derived.Test.YtllcikobepeemaaDoorU7
import Derived.Test.YtllcikobepeemaaDoorPlz
import Derived.Lib.QuietBelow
namespace Go.Proofs.YtllcikobepeemaaDoor
open Go.RowKit Go.Shelf Go.Sort
set_option linter.unusedVariables false
set_option linter.unusedSimpArgs false

theorem app_list2 (a b : ByteArray) : (a ++ b).data.toList = a.data.toList ++ b.data.toList := by simp [ByteArray.toList_data_append]
theorem size_list (s : ByteArray) : s.data.toList.length = s.size := by simp
theorem extract_take (s : ByteArray) (k : Nat) : (s.extract 0 k).data.toList = s.data.toList.take k := by
  rw [ByteArray.data_extract, Array.toList_extract, List.extract_eq_take_drop]; simp
theorem bt_get (s : ByteArray) (k : Nat) (h : k < s.size) : bt s.data.toList k = (s[k]'h).toNat := by
  unfold bt; rw [← get!_list]; rw [Utf8W.get!_of_lt s k h]
set_option maxRecDepth 100000 in
theorem and192 : ∀ x : Fin 256, bits .and .u8 ((x.val : Nat) : Int) 192 = ((x.val / 64 * 64 : Nat) : Int) := by decide
/-- An answer of Runes, as far as its length. -/
def LenPost (n : Nat) (w : World) (e : Ending) (w' : World) : Prop := ∃ ad cap, e = .returned (.slice ad n cap) ∧ Below w.heap.size w w'
theorem RunesPost.len {l : List Int} {w : World} {e : Ending} {w' : World} (h : RunesPost l w e w') : LenPost l.length w e w' := by
  obtain ⟨v, rfl, ho, hb⟩ := h
  obtain ⟨ad, cap, rfl, _, _⟩ := own_rk ho
  exact ⟨ad, cap, rfl, hb⟩

set_option maxHeartbeats 4000000 in
set_option maxRecDepth 1000000 in
theorem utfParts_main (a b : ByteArray) (k0 : Int) (w : World) (ha : a.size ≤ 300) (hb : b.size ≤ 300) (hva : validL a.data.toList = true) (hvb : validL b.data.toList = true) (hk0 : -9223372036854775808 ≤ k0 ∧ k0 ≤ 9223372036854775807) (hT : UT w) :
    Calls Tryd.prog 5 #[.string a, .string b, .int .i64 k0] w (BoolBelow true w) := by
  have KA := Lib.hid (fun W (h : Below w.heap.size w W) => valid_any a W (by unfold maxLen; omega) (hT.below h))
  rw [hva] at KA
  have KB := Lib.hid (fun W (h : Below w.heap.size w W) => valid_any b W (by unfold maxLen; omega) (hT.below h))
  rw [hvb] at KB
  have HA := Lib.hid (fun W (h : Below w.heap.size w W) => awake_any W (hT.below h))
  have hz : (a ++ b).size = a.size + b.size := ByteArray.size_append ..
  obtain ⟨hv, hr⟩ := valid_append hva hvb
  have RA := Lib.hid (fun W (h : Below w.heap.size w W) => (runes_any a W (by omega) (hT.below h)).mono fun _ _ h => h.len)
  have RB := Lib.hid (fun W (h : Below w.heap.size w W) => (runes_any b W (by omega) (hT.below h)).mono fun _ _ h => h.len)
  have RS := Lib.hid (fun W (h : Below w.heap.size w W) => (runes_any (a ++ b) W (by omega) (hT.below h)).mono fun _ _ h => h.len)
  rw [app_list2, hr, List.length_append] at RS
  have na := runesL_le a.data.toList
  have nb := runesL_le b.data.toList
  rw [size_list] at na nb
  have HNA := Lib.hid (show (runesL a.data.toList).length ≤ 300 by omega)
  have HNB := Lib.hid (show (runesL b.data.toList).length ≤ 300 by omega)
  generalize (runesL a.data.toList).length = NA at *
  generalize (runesL b.data.toList).length = NB at *
  have KS := Lib.hid (fun W (h : Below w.heap.size w W) => valid_any (a ++ b) W (by unfold maxLen; omega) (hT.below h))
  rw [app_list2, hv] at KS
  rw [← app_list2] at hv
  have hlen : (a ++ b).size ≤ 600 := by omega
  clear hva hvb hr
  have HZ := Lib.hid hz; clear hz
  have KP := Lib.hid (fun W => place_any k0 ((a ++ b).size + 1) W hk0 ⟨by omega, by omega⟩)
  have hp1 := Int.emod_nonneg k0 (show (((a ++ b).size : Int) + 1) ≠ 0 by omega)
  have hp2 := Int.emod_lt_of_pos k0 (show (0 : Int) < ((a ++ b).size : Int) + 1 by omega)
  generalize k0 % (((a ++ b).size : Int) + 1) = r at *
  obtain ⟨k, rfl⟩ : ∃ k : Nat, r = k := ⟨r.toNat, by omega⟩
  have hk : k ≤ (a ++ b).size := by omega
  obtain ⟨hc1, hc2⟩ := cut_valid hv (by rw [size_list]; exact hk)
  rw [← extract_take] at hc1
  rw [← extract_list] at hc2
  have KX := Lib.hid (fun W (h : Below w.heap.size w W) => valid_any ((a ++ b).extract 0 k) W (by unfold maxLen; rw [ByteArray.size_extract]; omega) (hT.below h))
  have KY := Lib.hid (fun W (h : Below w.heap.size w W) => valid_any ((a ++ b).extract k (a ++ b).size) W (by unfold maxLen; rw [ByteArray.size_extract]; omega) (hT.below h))
  rw [hc1] at KX
  rw [hc2] at KY
  clear hc1 hc2 hv hk0 hp1 hp2
  have HT := Lib.hid hT; clear hT
  have hed : edgeL (a ++ b).data.toList k = decide (k = (a ++ b).size ∨ bt (a ++ b).data.toList k / 64 ≠ 2) := by unfold edgeL; rw [size_list]
  have HED := Lib.hid hed; clear hed
  generalize edgeL (a ++ b).data.toList k = E at *
  generalize hS : a ++ b = S at *
  have ha' : ¬ (300 : Int) < (a.size : Int) := by omega
  have hb' : ¬ (300 : Int) < (b.size : Int) := by omega
  go_enter Tryd.func5, Tryd.ntmps5
  go_wp2_with fail
  refine (KA.out _ (Below.refl _ _)).mono ?_
  rintro x w1 ⟨rfl, h1⟩
  have B1 := Lib.hid h1; clear h1
  go_wp2_with fail
  refine (KB.out _ B1.out).mono ?_
  rintro x w2 ⟨rfl, h2⟩
  have B2 := Lib.hid (below_on B1.out h2); clear h2
  clear ha' hb'
  clear na nb
  go_wp2_with fail
  refine (KP.out _).mono ?_
  rintro x w' ⟨rfl, rfl⟩
  clear hS
  have cX : ∀ d os, Calls Tryd.prog 14 #[.string (S.extract 0 k)] (grow (redrawn w' d) os) fun r w'' => r = .returned (.bool E) ∧ ∃ p : Regrown, w'' = grow (redrawn w' p.d) p.os := fun d os => Calls.regrown_of (KX.out _ (below_on B2.out (below_regrown w' d os)))
  have cY : ∀ d os, Calls Tryd.prog 14 #[.string (S.extract k S.size)] (grow (redrawn w' d) os) fun r w'' => r = .returned (.bool E) ∧ ∃ p : Regrown, w'' = grow (redrawn w' p.d) p.os := fun d os => Calls.regrown_of (KY.out _ (below_on B2.out (below_regrown w' d os)))
  have hkz : (k : Int) ≤ (S.size : Int) := by omega
  go_wp2_with fail
  refine wp_region_quiet_below (by kernel_rfl) (by kernel_rfl) ?_
  repeat (quiet_step (first | with_reducible exact cX _ _ | with_reducible exact cY _ _))
  refine wpQuiet_nil ?_
  intro _ hw'
  obtain ⟨⟨dq, osq⟩, hw''⟩ := hw'
  subst hw''
  have B3 := Lib.hid (below_on B2.out (below_regrown w' dq osq))
  change (Exit.then _ _) Exit.normal _ (grow (redrawn w' dq) osq)
  generalize grow (redrawn w' dq) osq = w3 at *
  clear cX cY KX KY
  have hNA := HNA.out; have hNB := HNB.out
  by_cases hks : k = S.size
  · have hE : E = true := by rw [HED.out]; exact decide_eq_true (.inl hks)
    subst hE hks
    clear hk hkz
    go_wp2_with fail
    refine (KS.out _ B3.out).mono ?_
    rintro x w4 ⟨rfl, h4⟩
    have B4 := Lib.hid (below_on B3.out h4); clear h4
    go_wp2_with fail
    refine (RS.out _ B4.out).mono ?_
    rintro x w5 ⟨ad5, cap5, rfl, h5⟩
    have B5 := Lib.hid (below_on B4.out h5); clear h5
    go_wp2_with fail
    refine (RA.out _ B5.out).mono ?_
    rintro x w6 ⟨ad6, cap6, rfl, h6⟩
    have B6 := Lib.hid (below_on B5.out h6); clear h6
    go_wp2_with fail
    refine (RB.out _ B6.out).mono ?_
    rintro x w7 ⟨ad7, cap7, rfl, h7⟩
    have B7 := Lib.hid (below_on B6.out h7); clear h7
    go_wp2_with fail
    refine (HA.out _ B7.out).mono ?_
    rintro x w8 ⟨rfl, h8⟩
    have B8 := Lib.hid (below_on B7.out h8); clear h8
    go_wp2
    go_ret
    exact BoolBelow.mk rfl B8.out
  · have hlt : k < S.size := by omega
    have hks2 : ((k : Int) == (S.size : Int)) = false := by rw [beq_eq_false_iff_ne]; omega
    have hb := bt_get S k hlt
    have hx := and192 ⟨(S[k]'hlt).toNat, (S[k]'hlt).toNat_lt⟩
    simp only at hx
    have hE := HED.out
    rw [hb] at hE
    generalize hX : (S[k]'hlt) = x at *
    have hltz : (k : Int) < (S.size : Int) := by omega
    clear hb hk hkz
    by_cases h2 : x.toNat / 64 = 2
    · rw [h2] at hx
      have hE' : E = false := by rw [hE]; exact decide_eq_false (by rintro (h | h); exact hks h; exact h h2)
      subst hE'
      clear hE h2 hks
      go_wp2_with fail
      refine (KS.out _ B3.out).mono ?_
      rintro x w4 ⟨rfl, h4⟩
      have B4 := Lib.hid (below_on B3.out h4); clear h4
      go_wp2_with fail
      refine (RS.out _ B4.out).mono ?_
      rintro x w5 ⟨ad5, cap5, rfl, h5⟩
      have B5 := Lib.hid (below_on B4.out h5); clear h5
      go_wp2_with fail
      refine (RA.out _ B5.out).mono ?_
      rintro x w6 ⟨ad6, cap6, rfl, h6⟩
      have B6 := Lib.hid (below_on B5.out h6); clear h6
      go_wp2_with fail
      refine (RB.out _ B6.out).mono ?_
      rintro x w7 ⟨ad7, cap7, rfl, h7⟩
      have B7 := Lib.hid (below_on B6.out h7); clear h7
      go_wp2_with fail
      refine (HA.out _ B7.out).mono ?_
      rintro x w8 ⟨rfl, h8⟩
      have B8 := Lib.hid (below_on B7.out h8); clear h8
      go_wp2
      go_ret
      exact BoolBelow.mk rfl B8.out
    · have hE' : E = true := by rw [hE]; exact decide_eq_true (.inr h2)
      subst hE'
      have hne : ((x.toNat / 64 * 64 : Nat) : Int) ≠ 128 := by omega
      generalize (x.toNat / 64 * 64) = y at *
      have hneb : (((y : Nat) : Int) != 128) = true := by simpa using hne
      clear hE h2 hks hne
      go_wp2_with fail
      refine (KS.out _ B3.out).mono ?_
      rintro x w4 ⟨rfl, h4⟩
      have B4 := Lib.hid (below_on B3.out h4); clear h4
      go_wp2_with fail
      refine (RS.out _ B4.out).mono ?_
      rintro x w5 ⟨ad5, cap5, rfl, h5⟩
      have B5 := Lib.hid (below_on B4.out h5); clear h5
      go_wp2_with fail
      refine (RA.out _ B5.out).mono ?_
      rintro x w6 ⟨ad6, cap6, rfl, h6⟩
      have B6 := Lib.hid (below_on B5.out h6); clear h6
      go_wp2_with fail
      refine (RB.out _ B6.out).mono ?_
      rintro x w7 ⟨ad7, cap7, rfl, h7⟩
      have B7 := Lib.hid (below_on B6.out h7); clear h7
      go_wp2_with fail
      refine (HA.out _ B7.out).mono ?_
      rintro x w8 ⟨rfl, h8⟩
      have B8 := Lib.hid (below_on B7.out h8); clear h8
      go_wp2
      go_ret
      exact BoolBelow.mk rfl B8.out

set_option maxHeartbeats 4000000 in
set_option maxRecDepth 1000000 in
theorem utfParts_walk (a b : ByteArray) (k0 : Int) (w : World) (ha : a.size ≤ maxLen) (hb : b.size ≤ maxLen) (hk0 : -9223372036854775808 ≤ k0 ∧ k0 ≤ 9223372036854775807) (hT : UT w) :
    Calls Tryd.prog 5 #[.string a, .string b, .int .i64 k0] w (BoolBelow true w) := by
  have HA := Lib.hid (fun W (h : Below w.heap.size w W) => awake_any W (hT.below h))
  by_cases h1 : 300 < a.size
  · have h1' : (300 : Int) < (a.size : Int) := by omega
    unfold maxLen at ha hb
    clear hT
    go_enter Tryd.func5, Tryd.ntmps5
    go_wp2_with fail
    refine (HA.out _ (Below.refl _ _)).mono ?_
    rintro x w1 ⟨rfl, h1⟩
    have B1 := Lib.hid h1; clear h1
    go_wp2
    go_ret
    exact BoolBelow.mk rfl B1.out
  · have h1' : ¬ (300 : Int) < (a.size : Int) := by omega
    by_cases h2 : 300 < b.size
    · have h2' : (300 : Int) < (b.size : Int) := by omega
      unfold maxLen at ha hb
      clear hT
      go_enter Tryd.func5, Tryd.ntmps5
      go_wp2_with fail
      refine (HA.out _ (Below.refl _ _)).mono ?_
      rintro x w1 ⟨rfl, h1⟩
      have B1 := Lib.hid h1; clear h1
      go_wp2
      go_ret
      exact BoolBelow.mk rfl B1.out
    · have h2' : ¬ (300 : Int) < (b.size : Int) := by omega
      have KA := Lib.hid (fun W (h : Below w.heap.size w W) => valid_any a W ha (hT.below h))
      have KB := Lib.hid (fun W (h : Below w.heap.size w W) => valid_any b W hb (hT.below h))
      unfold maxLen at ha hb
      cases hva : validL a.data.toList
      · rw [hva] at KA
        clear hT hva
        go_enter Tryd.func5, Tryd.ntmps5
        go_wp2_with fail
        refine (KA.out _ (Below.refl _ _)).mono ?_
        rintro x w1 ⟨rfl, h1⟩
        have B1 := Lib.hid h1; clear h1
        go_wp2_with fail
        refine (HA.out _ B1.out).mono ?_
        rintro x w2 ⟨rfl, h1⟩
        have B2 := Lib.hid (below_on B1.out h1); clear h1
        go_wp2
        go_ret
        exact BoolBelow.mk rfl B2.out
      · cases hvb : validL b.data.toList
        · rw [hva] at KA
          rw [hvb] at KB
          clear hT hva hvb
          go_enter Tryd.func5, Tryd.ntmps5
          go_wp2_with fail
          refine (KA.out _ (Below.refl _ _)).mono ?_
          rintro x w1 ⟨rfl, h1⟩
          have B1 := Lib.hid h1; clear h1
          go_wp2_with fail
          refine (KB.out _ B1.out).mono ?_
          rintro x w2 ⟨rfl, h1⟩
          have B2 := Lib.hid (below_on B1.out h1); clear h1
          go_wp2_with fail
          refine (HA.out _ B2.out).mono ?_
          rintro x w3 ⟨rfl, h1⟩
          have B3 := Lib.hid (below_on B2.out h1); clear h1
          go_wp2
          go_ret
          exact BoolBelow.mk rfl B3.out
        · exact utfParts_main a b k0 w (by omega) (by omega) hva hvb hk0 hT
end Go.Proofs.YtllcikobepeemaaDoor
