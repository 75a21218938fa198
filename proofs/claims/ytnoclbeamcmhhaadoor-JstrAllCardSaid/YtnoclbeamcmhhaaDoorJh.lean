/- The walk of the law JstrRunes. -/
import Derived.Test.YtnoclbeamcmhhaaDoorJg
namespace Go.Proofs.YtnoclbeamcmhhaaDoor
open Go.RowKit Go.Shelf Go.Lib
set_option linter.unusedVariables false
set_option linter.unusedSimpArgs false

theorem hex_any (c : Nat) (great : Bool) (w : World) (hc : c ≤ 1114111) :
    Calls Tryd.prog 29 #[.int .i32 (c : Int), .bool great] w fun e w' => e = .returned (.string ⟨(hexL great c).toArray⟩) ∧ w = w' := by
  cases great
  · exact hex_false c w hc
  · exact hex_true c w hc
theorem unqAt_quotes (S : ByteArray) (r : Option (List UInt8 × Nat)) (h : unqL (S.data.toList ++ [34]) = r) : unqAt ((⟨#[34]⟩ : ByteArray) ++ S ++ ⟨#[34]⟩) 0 = r.map fun p => (p.1, 1 + p.2) := by
  have e : ((⟨#[34]⟩ : ByteArray) ++ S ++ ⟨#[34]⟩).data.toList = 34 :: (S.data.toList ++ [34]) := by
    simp [ByteArray.toList_data_append]
  have ht : tailL ((⟨#[34]⟩ : ByteArray) ++ S ++ ⟨#[34]⟩) ((0 : Int).toNat + 1) = S.data.toList ++ [34] := by
    unfold tailL; rw [e]; rfl
  unfold unqAt
  rw [if_pos ⟨by omega, by rw [e]; rfl⟩, ht, h]
  rfl
theorem and1023i (x : Int) (h₀ : 0 ≤ x) (h₁ : x < 2147483648) : bits .and .i32 x 1023 = x % 1024 := bits_mask .i32 31 (by decide) wraps_i32 10 (by decide) x h₀ h₁
theorem putS_list {r : Int} (h : okR r = true) : (putS r).data.toList = enc r := by rw [putS_ok h]
theorem hexL_size (g : Bool) (c : Nat) : (⟨(hexL g c).toArray⟩ : ByteArray).size = 6 := by rw [arr_size]; rfl

set_option maxHeartbeats 4000000 in
set_option maxRecDepth 100000 in
theorem jstrRunes_walk (r : Int) (great : Bool) (w : World) (hr : -2147483648 ≤ r ∧ r ≤ 2147483647) (hT : UT w) :
    Calls Tryd.prog 9 #[.int .i32 r, .bool great] w (BoolBelow true w) := by
  have HA := Lib.hid (fun W (h : Below w.heap.size w W) => awake7_any W (hT.below h))
  have KP := Lib.hid (fun W => place_any r 1114112 W (by omega) (by decide))
  have hp1 := Int.emod_nonneg r (show (1114112 : Int) ≠ 0 by decide)
  have hp2 := Int.emod_lt_of_pos r (show (0 : Int) < 1114112 by decide)
  generalize r % 1114112 = x at *
  obtain ⟨c, rfl⟩ : ∃ c : Nat, x = c := ⟨x.toNat, by omega⟩
  have hc : c ≤ 1114111 := by omega
  have KH := Lib.hid (fun W => hex_any c great W hc)
  have HUT := Lib.hid (fun W (h : Below w.heap.size w W) => hT.below h)
  clear hp1 hp2 hT
  by_cases h3 : c < 65536
  · have d1 : decide ((65536 : Int) ≤ (c : Int)) = false := decide_eq_false (by omega)
    by_cases hs : 55296 ≤ c ∧ c ≤ 57343
    · have d2 : decide ((55296 : Int) ≤ (c : Int)) = true := decide_eq_true (by omega)
      have d3 : decide ((c : Int) ≤ 57343) = true := decide_eq_true (by omega)
      have hq := unqAt_quotes ⟨(hexL great c).toArray⟩ _ (unqL_half great hs)
      have hsz := hexL_size great c
      generalize (⟨(hexL great c).toArray⟩ : ByteArray) = S at *
      have KU := Lib.hid (fun W (h : Below w.heap.size w W) => unquote_none ((⟨#[34]⟩ : ByteArray) ++ S ++ ⟨#[34]⟩) 0 W (by rw [ByteArray.size_append, ByteArray.size_append, hsz]; decide) (by decide) (HUT.out W h) hq)
      clear hq hs h3
      go_enter Tryd.func9, Tryd.ntmps9
      go_wp2_with fail
      refine (KP.out _).mono ?_
      rintro x w1 ⟨rfl, rfl⟩
      go_wp2_with fail
      refine (KH.out _).mono ?_
      rintro x w2 ⟨rfl, rfl⟩
      go_wp2_with fail
      refine (KU.out _ (Below.refl _ _)).mono ?_
      rintro x w3 ⟨rfl, hb3⟩
      have B3 := Lib.hid hb3; clear hb3
      go_wp2_with fail
      refine (HA.out _ B3.out).mono ?_
      rintro x w4 ⟨rfl, hb4⟩
      have B4 := Lib.hid (below_on B3.out hb4); clear hb4
      go_wp2
      go_ret
      exact BoolBelow.mk rfl B4.out
    · have hok : okR (c : Int) = true := okR_iff.2 (by omega)
      have hq := unqAt_quotes ⟨(hexL great c).toArray⟩ _ (unqL_hex great h3 (by omega))
      rw [← putS_list hok] at hq
      have hsz := hexL_size great c
      generalize (⟨(hexL great c).toArray⟩ : ByteArray) = S at *
      have KU := Lib.hid (fun W (h : Below w.heap.size w W) => unquote_some ((⟨#[34]⟩ : ByteArray) ++ S ++ ⟨#[34]⟩) 0 W (by rw [ByteArray.size_append, ByteArray.size_append, hsz]; decide) (by decide) (HUT.out W h) hq)
      have KR := Lib.hid (fun W => refPut_any (c : Int) W (by omega))
      unfold PutPost at KR
      generalize putS (c : Int) = P at *
      clear hq h3 hok
      by_cases h2 : c < 55296
      · have d2 : decide ((55296 : Int) ≤ (c : Int)) = false := decide_eq_false (by omega)
        clear hs
        go_enter Tryd.func9, Tryd.ntmps9
        go_wp2_with fail
        refine (KP.out _).mono ?_
        rintro x w1 ⟨rfl, rfl⟩
        go_wp2_with fail
        refine (KH.out _).mono ?_
        rintro x w2 ⟨rfl, rfl⟩
        go_wp2_with fail
        refine (KU.out _ (Below.refl _ _)).mono ?_
        rintro x w3 ⟨rfl, hb3⟩
        have B3 := Lib.hid hb3; clear hb3
        go_wp2_with fail
        refine (KR.out _).mono ?_
        rintro x w4 ⟨rfl, hb4⟩
        have B4 := Lib.hid (below_on B3.out hb4); clear hb4
        go_wp2_with fail
        refine (HA.out _ B4.out).mono ?_
        rintro x w5 ⟨rfl, hb5⟩
        have B5 := Lib.hid (below_on B4.out hb5); clear hb5
        go_wp2
        go_ret
        exact BoolBelow.mk rfl B5.out
      · have d2 : decide ((55296 : Int) ≤ (c : Int)) = true := decide_eq_true (by omega)
        have d3 : decide ((c : Int) ≤ 57343) = false := decide_eq_false (by omega)
        clear hs
        go_enter Tryd.func9, Tryd.ntmps9
        go_wp2_with fail
        refine (KP.out _).mono ?_
        rintro x w1 ⟨rfl, rfl⟩
        go_wp2_with fail
        refine (KH.out _).mono ?_
        rintro x w2 ⟨rfl, rfl⟩
        go_wp2_with fail
        refine (KU.out _ (Below.refl _ _)).mono ?_
        rintro x w3 ⟨rfl, hb3⟩
        have B3 := Lib.hid hb3; clear hb3
        go_wp2_with fail
        refine (KR.out _).mono ?_
        rintro x w4 ⟨rfl, hb4⟩
        have B4 := Lib.hid (below_on B3.out hb4); clear hb4
        go_wp2_with fail
        refine (HA.out _ B4.out).mono ?_
        rintro x w5 ⟨rfl, hb5⟩
        have B5 := Lib.hid (below_on B4.out hb5); clear hb5
        go_wp2
        go_ret
        exact BoolBelow.mk rfl B5.out
  · have d1 : decide ((65536 : Int) ≤ (c : Int)) = true := decide_eq_true (by omega)
    have d2 : decide ((55296 : Int) ≤ (c : Int)) = true := decide_eq_true (by omega)
    have d3 : decide ((c : Int) ≤ 57343) = false := decide_eq_false (by omega)
    have hok : okR (c : Int) = true := okR_iff.2 (by omega)
    have hpair := unqL_pair great (c := c) (by omega)
    have K1 := Lib.hid (fun W => hex_any (55296 + (c - 65536) / 1024) great W (by omega))
    have K2 := Lib.hid (fun W => hex_any (56320 + (c - 65536) % 1024) great W (by omega))
    have z1 := hexL_size great (55296 + (c - 65536) / 1024)
    have z2 := hexL_size great (56320 + (c - 65536) % 1024)
    have hq := unqAt_quotes ((⟨(hexL great (55296 + (c - 65536) / 1024)).toArray⟩ : ByteArray) ++ ⟨(hexL great (56320 + (c - 65536) % 1024)).toArray⟩) (some (enc (c : Int), 13)) (by rw [ByteArray.toList_data_append]; exact hpair)
    rw [← putS_list hok] at hq
    have e1 : ((55296 + (c - 65536) / 1024 : Nat) : Int) = 55296 + ((c : Int) - 65536) / 1024 := by omega
    have e2 : ((56320 + (c - 65536) % 1024 : Nat) : Int) = 56320 + ((c : Int) - 65536) % 1024 := by omega
    have hbits := and1023i ((c : Int) - 65536) (by omega) (by omega)
    rw [e1] at K1
    rw [e2] at K2
    generalize (⟨(hexL great (55296 + (c - 65536) / 1024)).toArray⟩ : ByteArray) = S1 at *
    generalize (⟨(hexL great (56320 + (c - 65536) % 1024)).toArray⟩ : ByteArray) = S2 at *
    have KU := Lib.hid (fun W (h : Below w.heap.size w W) => unquote_some ((⟨#[34]⟩ : ByteArray) ++ (S1 ++ S2) ++ ⟨#[34]⟩) 0 W (by rw [ByteArray.size_append, ByteArray.size_append, ByteArray.size_append, z1, z2]; decide) (by decide) (HUT.out W h) hq)
    have KR := Lib.hid (fun W => refPut_any (c : Int) W (by omega))
    have hz : (S1 ++ S2).size = 12 := by rw [ByteArray.size_append, z1, z2]
    unfold PutPost at KR
    generalize putS (c : Int) = P at *
    have hlo : (65536 : Int) ≤ (c : Int) := by omega
    have hm1 : 0 ≤ ((c : Int) - 65536) / 1024 ∧ ((c : Int) - 65536) / 1024 < 1024 := by omega
    have hm2 : 0 ≤ ((c : Int) - 65536) % 1024 ∧ ((c : Int) - 65536) % 1024 < 1024 := by omega
    obtain ⟨hm1a, hm1b⟩ := hm1
    obtain ⟨hm2a, hm2b⟩ := hm2
    have hst : (S1 ++ S2).size ≤ 1000000 := by omega
    clear hq hok hpair h3 e1 e2
    go_enter Tryd.func9, Tryd.ntmps9
    go_wp2_with fail
    refine (KP.out _).mono ?_
    rintro x w1 ⟨rfl, rfl⟩
    go_wp2_with fail
    refine (KH.out _).mono ?_
    rintro x w2 ⟨rfl, rfl⟩
    go_wp2_with fail
    refine (K1.out _).mono ?_
    rintro x w3 ⟨rfl, rfl⟩
    go_wp2_with fail
    refine (K2.out _).mono ?_
    rintro x w4 ⟨rfl, rfl⟩
    go_wp2_with fail
    refine (KU.out _ (Below.refl _ _)).mono ?_
    rintro x w5 ⟨rfl, hb5⟩
    have B5 := Lib.hid hb5; clear hb5
    go_wp2_with fail
    refine (KR.out _).mono ?_
    rintro x w6 ⟨rfl, hb6⟩
    have B6 := Lib.hid (below_on B5.out hb6); clear hb6
    go_wp2_with fail
    refine (HA.out _ B6.out).mono ?_
    rintro x w7 ⟨rfl, hb7⟩
    have B7 := Lib.hid (below_on B6.out hb7); clear hb7
    go_wp2
    go_ret
    exact BoolBelow.mk rfl B7.out
end Go.Proofs.YtnoclbeamcmhhaaDoor
