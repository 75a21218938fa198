/- The walk of the law UtfRunes. -/
import Derived.Test.YtllcikobepeemaaDoorU7
import Derived.Test.YtllcikobepeemaaDoorPlz
namespace Go.Proofs.YtllcikobepeemaaDoor
open Go.RowKit Go.Shelf
set_option linter.unusedVariables false
set_option linter.unusedSimpArgs false

/-- How many bytes, as the law counts them, with i edges looked at. -/
def kz (p i : Nat) : Nat := 1 + (if 1 ≤ i ∧ 128 ≤ p then 1 else 0) + (if 2 ≤ i ∧ 2048 ≤ p then 1 else 0) + (if 3 ≤ i ∧ 65536 ≤ p then 1 else 0)
theorem kz_enc (p : Nat) : kz p 3 = (enc (p : Int)).length := by
  rw [enc_length, Int.toNat_natCast]
  unfold kz encN
  repeat' split
  all_goals first | rfl | (exfalso; omega) | simp
theorem kz_le (p i : Nat) : kz p i ≤ 4 := by unfold kz; repeat' split
                                             all_goals omega
theorem kz0 (p : Nat) : kz p 1 = kz p 0 + (if 128 ≤ p then 1 else 0) := by simp [kz]
theorem kz1 (p : Nat) : kz p 2 = kz p 1 + (if 2048 ≤ p then 1 else 0) := by simp [kz]
theorem kz2 (p : Nat) : kz p 3 = kz p 2 + (if 65536 ≤ p then 1 else 0) := by simp [kz]
theorem int_eq {k : IntKind} {a b : Int} (h : a = b) : Value.int k a = Value.int k b := by rw [h]
theorem putS_size {r : Int} (h : okR r = true) : (putS r).size = (enc r).length := by
  unfold putS; rw [h]; simp [ByteArray.size]
theorem putS_list {r : Int} (h : okR r = true) : (putS r).data.toList = enc r := by unfold putS; rw [h]; simp
theorem app_list (a b : ByteArray) : (a ++ b).data.toList = a.data.toList ++ b.data.toList := by simp [ByteArray.toList_data_append]
theorem runes_at {r : Int} (h : okR r = true) (head : ByteArray) : runeAt (head ++ putS r) head.size = (r, ((putS r).size : Int)) := by
  have hz : (head ++ putS r).size = head.size + (putS r).size := ByteArray.size_append ..
  have hp := enc_pos r
  have hs := putS_size h
  rw [runeAt_tail (by omega)]
  have e : tailL (head ++ putS r) head.size = enc r ++ [] := by
    unfold tailL
    rw [app_list, putS_list h, List.append_nil]
    exact List.drop_left' rfl
  rw [e, runeL_enc h, hs]
theorem runes_cut {r : Int} (h : okR r = true) (h1 : 1 < (putS r).size) : runeAt ((putS r).extract 0 ((putS r).size - 1)) 0 = (-1, 1) := by
  have hs := putS_size h
  have hz : ((putS r).extract 0 ((putS r).size - 1)).size = (putS r).size - 1 := by rw [ByteArray.size_extract]; omega
  have := runeAt_tail (s := (putS r).extract 0 ((putS r).size - 1)) (k := 0) (by omega)
  rw [show ((0 : Nat) : Int) = 0 from rfl] at this
  rw [this]
  have e : tailL ((putS r).extract 0 ((putS r).size - 1)) 0 = (enc r).take ((putS r).size - 1) := by
    rw [tailL_zero, ByteArray.data_extract, Array.toList_extract, List.extract_eq_take_drop, putS_list h]
    simp
  rw [e, runeL_cut h (by omega) (by omega)]; rfl
theorem runes_none : runeAt (⟨#[]⟩ : ByteArray) 0 = (-1, 0) := by decide +kernel
theorem runes_valid {r : Int} (h : okR r = true) : validL (putS r).data.toList = true := by
  rw [putS_list h]
  have := valid_join (rs := [r]) (by simp [okAll, h])
  simpa [joinL] using this
theorem extract_none (s : ByteArray) (h : s.size = 1) : s.extract 0 0 = ⟨#[]⟩ := by
  apply ByteArray.ext; simp

set_option maxHeartbeats 4000000 in
set_option maxRecDepth 1000000 in
theorem utfRunes_walk (k0 : Int) (head : ByteArray) (w : World) (hk0 : -9223372036854775808 ≤ k0 ∧ k0 ≤ 9223372036854775807) (hh : head.size ≤ maxLen) (hT : UT w) :
    Calls Tryd.prog 6 #[.int .i64 k0, .string head] w (BoolBelow true w) := by
  have KP := Lib.hid (fun W => place_any k0 1114112 W hk0 ⟨by omega, by omega⟩)
  have hp1 := Int.emod_nonneg k0 (show (1114112 : Int) ≠ 0 by decide)
  have hp2 := Int.emod_lt_of_pos k0 (show (0 : Int) < 1114112 by decide)
  generalize k0 % 1114112 = r at *
  obtain ⟨p, rfl⟩ : ∃ p : Nat, r = p := ⟨r.toNat, by omega⟩
  have hp3 : p < 1114112 := by omega
  have KU := Lib.hid (fun W => put_any (p : Int) W)
  have HA := Lib.hid (fun W (h : Below w.heap.size w W) => awake_any W (hT.below h))
  clear hk0 hp1 hp2
  unfold maxLen at hh
  by_cases hs : 55296 ≤ p ∧ p ≤ 57343
  · have hno : okR (p : Int) = false := by
      cases h : okR (p : Int)
      · rfl
      · rw [okR_iff] at h; omega
    have he : putS (p : Int) = ⟨#[]⟩ := by unfold putS; rw [hno]; rfl
    rw [he] at KU
    obtain ⟨hs1, hs2⟩ := hs
    have hi1 : (55296 : Int) ≤ (p : Int) := by omega
    have hi2 : (p : Int) ≤ 57343 := by omega
    have K := Lib.hid (HA.out w (Below.refl _ _))
    clear hno he hT
    go_enter Tryd.func6, Tryd.ntmps6
    go_wp2_with fail
    refine (KP.out _).mono ?_
    rintro x w' ⟨rfl, rfl⟩
    go_wp2_with fail
    refine (KU.out _).mono ?_
    rintro x w2 ⟨rfl, rfl⟩
    go_wp2_with fail
    refine K.out.mono ?_
    rintro x w3 ⟨rfl, hb⟩
    have HB := Lib.hid hb; clear hb
    go_wp2
    go_ret
    exact BoolBelow.mk rfl HB.out
  · have hok : okR (p : Int) = true := by rw [okR_iff]; omega
    have hs' : ¬ ((55296 : Int) ≤ (p : Int) ∧ (p : Int) ≤ 57343) := by omega
    have henc : Utf8.encode (p : Int) = putS (p : Int) := by rw [encode_enc hok]; unfold putS; rw [hok]; rfl
    have hkz : kz p 3 = (putS (p : Int)).size := by rw [kz_enc, putS_size hok]
    have hsz1 : 1 ≤ (putS (p : Int)).size := by rw [putS_size hok]; exact enc_pos _
    have hsz4 : (putS (p : Int)).size ≤ 4 := by rw [putS_size hok]; exact enc_le _
    have HR1 := Lib.hid (runes_at hok head)
    have HR2 := Lib.hid (runes_cut hok)
    have HV := Lib.hid (runes_valid hok)
    have HENC := Lib.hid henc
    clear hok henc hs
    generalize putS (p : Int) = S at *
    have HKZ := Lib.hid hkz; clear hkz
    have KV := Lib.hid (fun W (h : Below w.heap.size w W) => valid_any S W (by unfold maxLen; omega) (hT.below h))
    rw [HV.out] at KV
    have HT := Lib.hid hT; clear hT
    have hd : decide ((55296 : Int) ≤ (p : Int)) = false ∨ (decide ((55296 : Int) ≤ (p : Int)) = true ∧ decide ((p : Int) ≤ 57343) = false) := by
      by_cases h : 55296 ≤ (p : Int)
      · exact .inr ⟨decide_eq_true h, decide_eq_false (by omega)⟩
      · exact .inl (decide_eq_false h)
    have hbx := Lib.hid ((Below.refl w.heap.size w).alloc (Nat.le_refl _) (.cells #[.int .i32 128, .int .i32 2048, .int .i32 65536] 21))
    clear hs'
    rcases hd with h1 | ⟨h1, h2⟩
    all_goals
      go_enter Tryd.func6, Tryd.ntmps6
      go_wp2_with fail
      refine (KP.out _).mono ?_
      rintro x w' ⟨rfl, rfl⟩
      go_wp2_with fail
      refine (KU.out _).mono ?_
      rintro x w2 ⟨rfl, rfl⟩
      go_wp2
      clear h1
    all_goals
      go_loop [7, 32] (fun z i => ∃ j : Nat, j ≤ 3 ∧ i = .int .i64 j ∧ z = .int .i64 (kz p j)) (fun _ i => (3 - intOf i).toNat)
      case atStart => exact ⟨0, by omega, rfl, rfl⟩
      case round =>
        obtain ⟨j, hj, rfl, rfl⟩ := hrel
        have hj' : j = 0 ∨ j = 1 ∨ j = 2 ∨ j = 3 := by omega
        rcases hj' with rfl | rfl | rfl | rfl
        · have hst := Lib.hid (kz0 p)
          have hzl := kz_le p 0
          generalize kz p 0 = z at *
          by_cases he : 128 ≤ p
          · have HE := Lib.hid he
            have he1 : decide ((128 : Int) ≤ (p : Int)) = true := decide_eq_true (by omega)
            clear he
            go_wp2
            go_round
            case rel => exact ⟨1, by omega, rfl, int_eq (by rw [hst.out, if_pos HE.out]; rfl)⟩
            case measure => simp [intOf]
          · have HE := Lib.hid he
            have he1 : decide ((128 : Int) ≤ (p : Int)) = false := decide_eq_false (by omega)
            clear he
            go_wp2
            go_round
            case rel => exact ⟨1, by omega, rfl, int_eq (by rw [hst.out, if_neg HE.out]; rfl)⟩
            case measure => simp [intOf]
        · have hst := Lib.hid (kz1 p)
          have hzl := kz_le p 1
          generalize kz p 1 = z at *
          by_cases he : 2048 ≤ p
          · have HE := Lib.hid he
            have he1 : decide ((2048 : Int) ≤ (p : Int)) = true := decide_eq_true (by omega)
            clear he
            go_wp2
            go_round
            case rel => exact ⟨2, by omega, rfl, int_eq (by rw [hst.out, if_pos HE.out]; rfl)⟩
            case measure => simp [intOf]
          · have HE := Lib.hid he
            have he1 : decide ((2048 : Int) ≤ (p : Int)) = false := decide_eq_false (by omega)
            clear he
            go_wp2
            go_round
            case rel => exact ⟨2, by omega, rfl, int_eq (by rw [hst.out, if_neg HE.out]; rfl)⟩
            case measure => simp [intOf]
        · have hst := Lib.hid (kz2 p)
          have hzl := kz_le p 2
          generalize kz p 2 = z at *
          by_cases he : 65536 ≤ p
          · have HE := Lib.hid he
            have he1 : decide ((65536 : Int) ≤ (p : Int)) = true := decide_eq_true (by omega)
            clear he
            go_wp2
            go_round
            case rel => exact ⟨3, by omega, rfl, int_eq (by rw [hst.out, if_pos HE.out]; rfl)⟩
            case measure => simp [intOf]
          · have HE := Lib.hid he
            have he1 : decide ((65536 : Int) ≤ (p : Int)) = false := decide_eq_false (by omega)
            clear he
            go_wp2
            go_round
            case rel => exact ⟨3, by omega, rfl, int_eq (by rw [hst.out, if_neg HE.out]; rfl)⟩
            case measure => simp [intOf]
        · rw [HKZ.out]
          have henc := HENC.out
          by_cases hl : (50 : Int) < (head.size : Int)
          · have hl1 : decide ((50 : Int) < (head.size : Int)) = true := decide_eq_true hl
            have hl2 : ¬ (head.size : Int) ≤ 50 := by omega
            go_wp2_with fail
            clear henc
            refine (HA.out _ hbx.out).mono ?_
            rintro x w3 ⟨rfl, hb⟩
            have HB := Lib.hid (below_on hbx.out hb); clear hb
            go_wp2
            go_ret
            exact BoolBelow.mk rfl HB.out
          · have hl1 : decide ((50 : Int) < (head.size : Int)) = false := decide_eq_false hl
            have hl2 : (head.size : Int) ≤ 50 := by omega
            have KR := Lib.hid (uRune_any (head ++ S) head.size (w'.alloc (.cells #[.int .i32 128, .int .i32 2048, .int .i32 65536] 21)) (by unfold maxLen; rw [ByteArray.size_append]; omega) (by omega) (HT.out.below hbx.out))
            rw [HR1.out] at KR
            have hk : (S.size = 1 ∧ runeAt (S.extract 0 (S.size - 1)) 0 = (-1, 0)) ∨ (1 < S.size ∧ runeAt (S.extract 0 (S.size - 1)) 0 = (-1, 1)) := by
              by_cases hk : S.size = 1
              · exact .inl ⟨hk, by rw [hk, extract_none S hk]; exact runes_none⟩
              · exact .inr ⟨by omega, HR2.out (by omega)⟩
            rcases hk with ⟨hk, hx⟩ | ⟨hk, hx⟩
            · have K2 := Lib.hid (fun W (h : Below w'.heap.size w' W) => uRune_any (S.extract 0 (S.size - 1)) 0 W (by unfold maxLen; rw [ByteArray.size_extract]; omega) (by decide) (HT.out.below h))
              rw [hx] at K2
              have HK := Lib.hid hk
              clear hk hx
              go_wp2_with fail
              clear henc
              refine KR.out.mono ?_
              rintro x w3 ⟨rfl, hb⟩
              have B3 := Lib.hid (below_on hbx.out hb); clear hb
              go_wp2_with fail
              refine (K2.out _ B3.out).mono ?_
              rintro x w4 ⟨rfl, hb⟩
              have B4 := Lib.hid (below_on B3.out hb); clear hb
              have hk1 : ((S.size : Int) == 1) = true := by rw [HK.out]; rfl
              go_wp2_with fail
              refine (KV.out _ B4.out).mono ?_
              rintro x w5 ⟨rfl, hb⟩
              have B5 := Lib.hid (below_on B4.out hb); clear hb
              go_wp2_with fail
              refine (HA.out _ B5.out).mono ?_
              rintro x w6 ⟨rfl, hb⟩
              have B6 := Lib.hid (below_on B5.out hb); clear hb
              go_wp2
              go_ret
              exact BoolBelow.mk rfl B6.out
            · have K2 := Lib.hid (fun W (h : Below w'.heap.size w' W) => uRune_any (S.extract 0 (S.size - 1)) 0 W (by unfold maxLen; rw [ByteArray.size_extract]; omega) (by decide) (HT.out.below h))
              rw [hx] at K2
              have HK := Lib.hid hk
              clear hk hx
              go_wp2_with fail
              clear henc
              refine KR.out.mono ?_
              rintro x w3 ⟨rfl, hb⟩
              have B3 := Lib.hid (below_on hbx.out hb); clear hb
              go_wp2_with fail
              refine (K2.out _ B3.out).mono ?_
              rintro x w4 ⟨rfl, hb⟩
              have B4 := Lib.hid (below_on B3.out hb); clear hb
              have hk1 : ((S.size : Int) == 1) = false := by have := HK.out; rw [beq_eq_false_iff_ne]; omega
              have hk2 : decide (1 < S.size) = true := decide_eq_true HK.out
              have hk3 : decide ((1 : Int) < (S.size : Int)) = true := decide_eq_true (by have := HK.out; omega)
              go_wp2_with fail
              refine (KV.out _ B4.out).mono ?_
              rintro x w5 ⟨rfl, hb⟩
              have B5 := Lib.hid (below_on B4.out hb); clear hb
              go_wp2_with fail
              refine (HA.out _ B5.out).mono ?_
              rintro x w6 ⟨rfl, hb⟩
              have B6 := Lib.hid (below_on B5.out hb); clear hb
              go_wp2
              go_ret
              exact BoolBelow.mk rfl B6.out
end Go.Proofs.YtllcikobepeemaaDoor
