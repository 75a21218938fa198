/- Texts of the claim. -/
import Derived.Test.YtgolidabjcmofaaGreatDoorQc
import Derived.Lib.AppendIntMem
import Derived.Deep.LoopGhost
import Derived.Deep.DeepCutAuto
import Derived.Deep.RegionHeld3
import Derived.Deep.DrawnRows
import Derived.Defers
import Derived.Recover
import Derived.RegionTactic
namespace Go.Proofs.YtgolidabjcmofaaGreatDoor
open Go.RowKit Go.Sort
set_option linter.unusedVariables false
set_option linter.unusedSimpArgs false
def TB (w : World) : Prop := Lib.TabIs Tryz.prog w "internal/strconv.uint64pow10" .u64 Lib.pow10Tab
theorem TB.below {w w' : World} (h : TB w) (hb : Below w.heap.size w w') : TB w' := Lib.tabBelow_of_tabIs h w' hb
def TxtBelow (l : List Nat) (w : World) (e : Ending) (w' : World) : Prop := e = .returned (.string (txt l)) ∧ Below w.heap.size w w'
theorem rets {a b : ByteArray} (h : a = b) : Ending.returned (.string a) = .returned (.string b) := by rw [h]
theorem itoa_any (k : Nat) (hk : k ≤ 9223372036854775807) (w : World) (h : TB w) : Calls Tryz.prog 178 #[.int .i64 (k : Int)] w (TxtBelow (dec k) w) :=
  (Tryz.strconv_Itoa (k : Int) (by omega) (by omega) w h).mono fun e w' ⟨h1, n, os, h2⟩ => ⟨by rw [h1, itoa_txt], by rw [h2]; exact Lib.below_grow _ _ (Nat.le_refl _) _ _⟩
theorem repeat_any (k : Nat) (hk : k ≤ 100000) (w : World) : Calls Tryz.prog 143 #[.string (txt [48]), .int .i64 (k : Int)] w (TxtBelow (List.replicate k 48) w) :=
  (Tryz.strings_Repeat (txt [48]) k w (by omega) (by rw [txt_size]; simp; omega)).mono fun e w' ⟨h1, h2⟩ => ⟨by rw [h1, repeat_txt], h2⟩
set_option maxHeartbeats 2000000 in
theorem exponentText_any (d : List Nat) (x : Int) (w : World) (h0 : 0 < d.length) (hd : d.length ≤ 100000) (hx : -1000000 ≤ x ∧ x ≤ 1000000) (ht : TB w) :
    Calls Tryz.prog 142 #[.string (txt d), .int .i64 x] w (TxtBelow (expTxt d x) w) := by
  have hs : (txt d).size = d.length := txt_size d
  have hlen := (dec_len_le (n := 7) (N := x.natAbs) (by omega) (by have : tenN 7 = 10000000 := by decide
                                                                   omega))
  have KI := Lib.hid (fun (k : Nat) (hk : (k : Int) = x ∨ (k : Int) = -x) => itoa_any k (by omega) w ht)
  have HT1 := Lib.hid (txt_take d 1 (by omega))
  have HT2 := Lib.hid (txt_drop d 1)
  have hc1 : ((1 : Int) ≤ (d.length : Int)) := by omega
  have HSZ := Lib.hid hs
  have HT3 : Hid (∀ (a b c : List Nat), txt a ++ (txt b ++ txt c) = txt (a ++ (b ++ c))) := fun a b c => by rw [txt_append, txt_append]
  rw [hs] at HT2
  rcases Int.lt_or_le x 0 with hneg | hneg
  · obtain ⟨k, hk⟩ : ∃ k : Nat, (k : Int) = -x := ⟨(-x).toNat, by omega⟩
    have hK := Lib.hid (KI.out k (.inr hk))
    have hka : x.natAbs = k := by omega
    rw [hka] at hlen
    have HKA := Lib.hid hka; clear hka
    have hsk : (txt (dec k)).size = (dec k).length := txt_size _
    by_cases h1 : 1 < d.length
    · have HE : Hid (expTxt d x = d.take 1 ++ ([46] ++ d.drop 1) ++ [101, 45] ++ dec k) := by
        show _ = _
        unfold expTxt; rw [if_pos h1, if_pos hneg, HKA.out]; simp
      have HKK := Lib.hid hk; clear hk
      have h1' : (1 : Int) < (d.length : Int) := by omega
      go_enter Tryz.func142, Tryz.ntmps142
      go_wp2_with fail
      rw [← HKK.out]
      refine hK.out.mono ?_
      rintro r w' ⟨rfl, hb⟩
      have HB := Lib.hid hb; clear hb
      have hse : ((txt d).extract 0 1).size ≤ d.length := by simp [ByteArray.size_extract]; omega
      have hse2 : ((txt d).extract 1 d.length).size ≤ d.length := by simp [ByteArray.size_extract]; omega
      go_wp2
      go_ret
      refine ⟨rets ?_, HB.out⟩
      rw [HT1.out, HT2.out, HE.out, ← txt_append, ← txt_append, ← txt_append, ← txt_append]
      rfl
    · have HE : Hid (expTxt d x = d.take 1 ++ [101, 45] ++ dec k) := by
        show _ = _
        unfold expTxt; rw [if_neg h1, if_pos hneg, HKA.out]; simp
      have HKK := Lib.hid hk; clear hk
      have h1' : ¬ (1 : Int) < (d.length : Int) := by omega
      go_enter Tryz.func142, Tryz.ntmps142
      go_wp2_with fail
      rw [← HKK.out]
      refine hK.out.mono ?_
      rintro r w' ⟨rfl, hb⟩
      have HB := Lib.hid hb; clear hb
      have hse : ((txt d).extract 0 1).size ≤ d.length := by simp [ByteArray.size_extract]; omega
      go_wp2
      go_ret
      refine ⟨rets ?_, HB.out⟩
      rw [HT1.out, HE.out, ← txt_append, ← txt_append]
      rfl
  · obtain ⟨k, hk⟩ : ∃ k : Nat, (k : Int) = x := ⟨x.toNat, by omega⟩
    have hK := Lib.hid (KI.out k (.inl hk))
    have hka : x.natAbs = k := by omega
    rw [hka] at hlen
    have HKA := Lib.hid hka; clear hka
    have hneg' : ¬ x < 0 := by omega
    have hsk : (txt (dec k)).size = (dec k).length := txt_size _
    by_cases h1 : 1 < d.length
    · have HE : Hid (expTxt d x = d.take 1 ++ ([46] ++ d.drop 1) ++ [101, 43] ++ dec k) := by
        show _ = _
        unfold expTxt; rw [if_pos h1, if_neg hneg', HKA.out]; simp
      subst hk
      have h1' : (1 : Int) < (d.length : Int) := by omega
      go_enter Tryz.func142, Tryz.ntmps142
      go_wp2_with fail
      refine hK.out.mono ?_
      rintro r w' ⟨rfl, hb⟩
      have HB := Lib.hid hb; clear hb
      have hse : ((txt d).extract 0 1).size ≤ d.length := by simp [ByteArray.size_extract]; omega
      have hse2 : ((txt d).extract 1 d.length).size ≤ d.length := by simp [ByteArray.size_extract]; omega
      go_wp2
      go_ret
      refine ⟨rets ?_, HB.out⟩
      rw [HT1.out, HT2.out, HE.out, ← txt_append, ← txt_append, ← txt_append, ← txt_append]
      rfl
    · have HE : Hid (expTxt d x = d.take 1 ++ [101, 43] ++ dec k) := by
        show _ = _
        unfold expTxt; rw [if_neg h1, if_neg hneg', HKA.out]; simp
      subst hk
      have h1' : ¬ (1 : Int) < (d.length : Int) := by omega
      go_enter Tryz.func142, Tryz.ntmps142
      go_wp2_with fail
      refine hK.out.mono ?_
      rintro r w' ⟨rfl, hb⟩
      have HB := Lib.hid hb; clear hb
      have hse : ((txt d).extract 0 1).size ≤ d.length := by simp [ByteArray.size_extract]; omega
      go_wp2
      go_ret
      refine ⟨rets ?_, HB.out⟩
      rw [HT1.out, HE.out, ← txt_append, ← txt_append]
      rfl
end Go.Proofs.YtgolidabjcmofaaGreatDoor
namespace Go.Proofs.YtgolidabjcmofaaGreatDoor
open Go.RowKit Go.Sort
set_option linter.unusedVariables false
set_option linter.unusedSimpArgs false
set_option maxHeartbeats 2000000 in
theorem sizeText_any (d : List Nat) (e : Int) (w : World) (h0 : 0 < d.length) (hd : d.length ≤ 2000) (he : -1200 ≤ e ∧ e ≤ 1200) (ht : TB w) :
    Calls Tryz.prog 98 #[.string (txt d), .int .i64 e] w (TxtBelow (sizeTxt d e) w) := by
  have hs : (txt d).size = d.length := txt_size d
  by_cases hA : (d.length : Int) + e < -5 ∨ 21 < (d.length : Int) + e
  · have K := Lib.hid (exponentText_any d ((d.length : Int) + e - 1) w h0 (by omega) (by omega) ht)
    have HE : Hid (sizeTxt d e = expTxt d ((d.length : Int) + e - 1)) := by
      show _ = _
      unfold sizeTxt; rw [if_pos hA]
    by_cases h1 : (d.length : Int) + e < -5
    · clear hA
      go_enter Tryz.func98, Tryz.ntmps98
      go_wp2_with fail
      refine K.out.mono ?_
      rintro r w' ⟨rfl, hb⟩
      have HB := Lib.hid hb; clear hb
      go_wp2
      go_ret
      exact ⟨by rw [HE.out]; rfl, HB.out⟩
    · have h2 : 21 < (d.length : Int) + e := by omega
      clear hA
      go_enter Tryz.func98, Tryz.ntmps98
      go_wp2_with fail
      refine K.out.mono ?_
      rintro r w' ⟨rfl, hb⟩
      have HB := Lib.hid hb; clear hb
      go_wp2
      go_ret
      exact ⟨by rw [HE.out]; rfl, HB.out⟩
  · have h1 : ¬ (d.length : Int) + e < -5 := by omega
    have h2 : ¬ 21 < (d.length : Int) + e := by omega
    by_cases hB : (d.length : Int) + e ≤ 0
    · obtain ⟨k, hk⟩ : ∃ k : Nat, (k : Int) = -((d.length : Int) + e) := ⟨(-((d.length : Int) + e)).toNat, by omega⟩
      have hkt : (-((d.length : Int) + e)).toNat = k := by omega
      have hkb : k ≤ 5 := by omega
      have K := Lib.hid (repeat_any k (by omega) w)
      have HE : Hid (sizeTxt d e = [48, 46] ++ List.replicate k 48 ++ d) := by
        show _ = _
        unfold sizeTxt; rw [if_neg hA, if_pos hB, hkt]
      have HK := Lib.hid hk; clear hk hkt hA
      have hsr : (txt (List.replicate k 48)).size = k := by rw [txt_size, List.length_replicate]
      go_enter Tryz.func98, Tryz.ntmps98
      go_wp2_with fail
      rw [← HK.out]
      refine K.out.mono ?_
      rintro r w' ⟨rfl, hb⟩
      have HB := Lib.hid hb; clear hb
      go_wp2
      go_ret
      refine ⟨rets ?_, HB.out⟩
      rw [HE.out, ← txt_append, ← txt_append]
      rfl
    · by_cases hC : e < 0
      · obtain ⟨k, hk⟩ : ∃ k : Nat, (k : Int) = (d.length : Int) + e := ⟨((d.length : Int) + e).toNat, by omega⟩
        have hkt : ((d.length : Int) + e).toNat = k := by omega
        have HE : Hid (sizeTxt d e = d.take k ++ [46] ++ d.drop k) := by
          show _ = _
          unfold sizeTxt; rw [if_neg hA, if_neg hB, if_pos hC, hkt]
        have HT1 := Lib.hid (txt_take d k (by omega))
        have HT2 := Lib.hid (txt_drop d k)
        rw [hs] at HT2
        have hk1 : (0 : Int) ≤ (d.length : Int) + e := by omega
        have hk2 : (d.length : Int) + e ≤ (d.length : Int) := by omega
        have HK := Lib.hid hk
        have hse : ((txt d).extract 0 k).size ≤ d.length := by simp [ByteArray.size_extract]; omega
        have hse2 : ((txt d).extract k d.length).size ≤ d.length := by simp [ByteArray.size_extract]; omega
        have HKT := Lib.hid hkt
        clear hk hA hkt
        go_enter Tryz.func98, Tryz.ntmps98
        go_wp2_with fail
        go_quiet (fail)
        go_wp2
        go_ret
        refine ⟨rets ?_, below_drewN' (Below.refl _ _) _⟩
        rw [HE.out, ← txt_append, ← txt_append, ← HT1.out, ← HT2.out]
        rw [HKT.out]
        rfl
      · obtain ⟨k, hk⟩ : ∃ k : Nat, (k : Int) = e := ⟨e.toNat, by omega⟩
        have hkt : e.toNat = k := by omega
        have K := Lib.hid (repeat_any k (by omega) w)
        have HE : Hid (sizeTxt d e = d ++ List.replicate k 48) := by
          show _ = _
          unfold sizeTxt; rw [if_neg hA, if_neg hB, if_neg hC, hkt]
        clear hkt hA
        subst hk
        have hsr : (txt (List.replicate k 48)).size = k := by rw [txt_size, List.length_replicate]
        go_enter Tryz.func98, Tryz.ntmps98
        go_wp2_with fail
        refine K.out.mono ?_
        rintro r w' ⟨rfl, hb⟩
        have HB := Lib.hid hb; clear hb
        go_wp2
        go_ret
        refine ⟨rets ?_, HB.out⟩
        rw [HE.out, ← txt_append]
set_option maxHeartbeats 4000000 in
/-- Text, at a number that is taken as it is or as 0. -/
theorem numText_core (A0 : Array Value) (na : Bool) (ad : Option Addr) (n cap : Nat) (xs : List Nat) (e : Int) (w : World)
    (ha : NumOk w na ad n cap xs e) (ht : TB w) (pa : Bool) (ta : Value) (xa : Int) (eA : A0 = #[.bool pa, ta, .int .i64 xa])
    (KA : ∀ W, Below w.heap.size w W → Calls Tryz.prog 97 #[.agg A0] W (NumBelow na (.slice ad n cap) e W)) :
    Calls Tryz.prog 61 #[.agg A0] w (TxtBelow (numTxt na (val xs) e) w) := by
  subst eA
  have hbl : Below w.heap.size w (w.alloc (.cells #[.bool pa, ta, .int .i64 xa] 24)) := (Below.refl _ _).alloc (Nat.le_refl _) _
  have HB := Lib.hid hbl
  have KA := Lib.hid (KA _ hbl)
  clear hbl
  have KD := Lib.hid (fun W (h : Below w.heap.size w W) => digits_any ad n cap xs W ha.len ha.cap (by have := ha.n90; omega) ha.ok (ha.rd.below h))
  have hdl := dec_len90 ha.ok (by have := ha.n90; have := ha.len; omega)
  have hdp := dec_pos (val xs)
  have KS := Lib.hid (fun W (h : Below w.heap.size w W) => sizeText_any (dec (val xs)) e W hdp (by omega) ha.lo (ht.below h))
  have hnv : (n = 0 ∧ val xs = 0) ∨ (n ≠ 0 ∧ val xs ≠ 0) := by
    by_cases h : n = 0
    · left
      have : xs = [] := List.eq_nil_of_length_eq_zero (by rw [ha.len]; exact h)
      subst this; exact ⟨h, rfl⟩
    · right
      refine ⟨h, fun h0 => ?_⟩
      have hx : xs ≠ [] := fun h1 => h (by rw [← ha.len, h1]; rfl)
      have := (chkB_some hx ha.chk).2.2.2.2
      rw [h0] at this; exact this rfl
  have hsl : (txt (dec (val xs))).size = (dec (val xs)).length := txt_size _
  have hlo := ha.lo
  have hsz : (sizeTxt (dec (val xs)) e).length ≤ 5000 := sizeTxt_len (by omega) hlo
  clear ha ht
  generalize val xs = N at *
  go_enter Tryz.func61, Tryz.ntmps61
  go_wp2_with fail
  refine KA.out.mono ?_
  rintro r w1 ⟨rfl, hb1⟩
  obtain ⟨hc1, hf1⟩ := bcell hb1
  have hz1 : w.heap.size < w1.heap.size := by have h := hb1.size; simp at h; omega
  have HB1 := Lib.hid hb1; clear hb1
  have hbw := ((below_on HB.out HB1.out).setCell (p := ⟨w.heap.size, 0, none⟩) (Nat.le_refl _) (.bool na)).setCell (p := ⟨w.heap.size, 1, none⟩) (Nat.le_refl _) (.slice ad n cap)
  have hbw2 := Lib.hid (hbw.setCell (p := ⟨w.heap.size, 2, none⟩) (Nat.le_refl _) (.int .i64 e)); clear hbw
  rcases hnv with ⟨rfl, rfl⟩ | ⟨hn0, hN0⟩
  · have HE : Hid (numTxt na 0 e = [48]) := rfl
    go_wp2_with fail
    go_ret
    exact ⟨by rw [HE.out]; rfl, hbw2.out⟩
  · have hnb : ((n : Int) == 0) = false := by rw [beq_eq_false_iff_ne]; omega
    have e0 : w1.cell? ⟨w.heap.size, 0, none⟩ = some (.bool pa) := by rw [hc1 _ _ (by simp)]; simp
    have e1 : w1.cell? ⟨w.heap.size, 1, none⟩ = some ta := by rw [hc1 _ _ (by simp)]; simp
    have e2 : w1.cell? ⟨w.heap.size, 2, none⟩ = some (.int .i64 xa) := by rw [hc1 _ _ (by simp)]; simp
    cases na
    · have HE : Hid (numTxt false N e = sizeTxt (dec N) e) := by
        show _ = _
        unfold numTxt; rw [if_neg hN0]; rfl
      have c1 : (((w1.setCell ⟨w.heap.size, 0, none⟩ (.bool false)).setCell ⟨w.heap.size, 1, none⟩ (.slice ad n cap)).setCell ⟨w.heap.size, 2, none⟩ (.int .i64 e)).cell? ⟨w.heap.size, 1, none⟩ = some (.slice ad n cap) := by simp [go_sem, e0, e1, e2]
      have c2 : (((w1.setCell ⟨w.heap.size, 0, none⟩ (.bool false)).setCell ⟨w.heap.size, 1, none⟩ (.slice ad n cap)).setCell ⟨w.heap.size, 2, none⟩ (.int .i64 e)).cell? ⟨w.heap.size, 2, none⟩ = some (.int .i64 e) := by simp [go_sem, e0, e1, e2]
      have C1 := Lib.hid c1
      have C2 := Lib.hid c2
      clear c1 c2
      go_wp2_with fail
      generalize (((w1.setCell ⟨w.heap.size, 0, none⟩ (.bool false)).setCell ⟨w.heap.size, 1, none⟩ (.slice ad n cap)).setCell ⟨w.heap.size, 2, none⟩ (.int .i64 e)) = W at *
      have cD : ∀ d os, Calls Tryz.prog 99 #[.slice ad n cap] (grow (redrawn W d) os) fun e w'' => e = .returned (.string (txt (dec N))) ∧ ∃ p : Regrown, w'' = grow (redrawn W p.d) p.os :=
        fun d os => Calls.regrown_of (KD.out _ (below_on hbw2.out (below_regrown W d os)))
      have cS : ∀ d os, Calls Tryz.prog 98 #[.string (txt (dec N)), .int .i64 e] (grow (redrawn W d) os) fun r w'' => r = .returned (.string (txt (sizeTxt (dec N) e))) ∧ ∃ p : Regrown, w'' = grow (redrawn W p.d) p.os :=
        fun d os => Calls.regrown_of (KS.out _ (below_on hbw2.out (below_regrown W d os)))
      have k1 := cell_regrown C1.out
      have k2 := cell_regrown C2.out
      have n1 : ¬ 9223372036854775807 < 1 + (txt (sizeTxt (dec N) e)).size := by rw [txt_size]; omega
      refine wp_region_quiet_below (by kernel_rfl) (by kernel_rfl) ?_
      repeat (quiet_step (first | with_reducible exact cD _ _ | with_reducible exact cS _ _))
      refine wpQuiet_nil ?_
      intro _ hw'
      obtain ⟨⟨dq, osq⟩, hw''⟩ := hw'
      subst hw''
      go_wp2
      go_ret
      refine ⟨rets ?_, below_on hbw2.out (below_regrown W dq osq)⟩
      rw [HE.out]
    · have HE : Hid (numTxt true N e = [45] ++ sizeTxt (dec N) e) := by
        show _ = _
        unfold numTxt; rw [if_neg hN0]; rfl
      have c1 : (((w1.setCell ⟨w.heap.size, 0, none⟩ (.bool true)).setCell ⟨w.heap.size, 1, none⟩ (.slice ad n cap)).setCell ⟨w.heap.size, 2, none⟩ (.int .i64 e)).cell? ⟨w.heap.size, 1, none⟩ = some (.slice ad n cap) := by simp [go_sem, e0, e1, e2]
      have c2 : (((w1.setCell ⟨w.heap.size, 0, none⟩ (.bool true)).setCell ⟨w.heap.size, 1, none⟩ (.slice ad n cap)).setCell ⟨w.heap.size, 2, none⟩ (.int .i64 e)).cell? ⟨w.heap.size, 2, none⟩ = some (.int .i64 e) := by simp [go_sem, e0, e1, e2]
      have C1 := Lib.hid c1
      have C2 := Lib.hid c2
      clear c1 c2
      go_wp2_with fail
      generalize (((w1.setCell ⟨w.heap.size, 0, none⟩ (.bool true)).setCell ⟨w.heap.size, 1, none⟩ (.slice ad n cap)).setCell ⟨w.heap.size, 2, none⟩ (.int .i64 e)) = W at *
      have cD : ∀ d os, Calls Tryz.prog 99 #[.slice ad n cap] (grow (redrawn W d) os) fun e w'' => e = .returned (.string (txt (dec N))) ∧ ∃ p : Regrown, w'' = grow (redrawn W p.d) p.os :=
        fun d os => Calls.regrown_of (KD.out _ (below_on hbw2.out (below_regrown W d os)))
      have cS : ∀ d os, Calls Tryz.prog 98 #[.string (txt (dec N)), .int .i64 e] (grow (redrawn W d) os) fun r w'' => r = .returned (.string (txt (sizeTxt (dec N) e))) ∧ ∃ p : Regrown, w'' = grow (redrawn W p.d) p.os :=
        fun d os => Calls.regrown_of (KS.out _ (below_on hbw2.out (below_regrown W d os)))
      have k1 := cell_regrown C1.out
      have k2 := cell_regrown C2.out
      have n1 : ¬ 9223372036854775807 < 1 + (txt (sizeTxt (dec N) e)).size := by rw [txt_size]; omega
      refine wp_region_quiet_below (by kernel_rfl) (by kernel_rfl) ?_
      repeat (quiet_step (first | with_reducible exact cD _ _ | with_reducible exact cS _ _))
      refine wpQuiet_nil ?_
      intro _ hw'
      obtain ⟨⟨dq, osq⟩, hw''⟩ := hw'
      subst hw''
      go_wp2
      go_ret
      refine ⟨rets ?_, below_on hbw2.out (below_regrown W dq osq)⟩
      rw [HE.out]
      rw [← txt_append]
      rfl
end Go.Proofs.YtgolidabjcmofaaGreatDoor
namespace Go.Proofs.YtgolidabjcmofaaGreatDoor
open Go.RowKit Go.Sort
set_option linter.unusedVariables false
set_option linter.unusedSimpArgs false
theorem setCell_self {w : World} {g j : Nat} {v : Value} (h : w.cell? ⟨g, j, none⟩ = some v) : w.setCell ⟨g, j, none⟩ v = w := by
  have e : (w.setCell ⟨g, j, none⟩ v).heap = w.heap := by
    apply Array.ext_getElem?
    intro k
    simp only [World.setCell, Array.getElem?_modify]
    by_cases hk : g = k
    · subst hk
      rw [if_pos rfl]
      unfold World.cell? at h
      cases hh : w.heap[g]? with
      | none => rfl
      | some o =>
        cases o with
        | cells c t f =>
          simp only [hh] at h
          have h2 : c[j]? = some v := by simpa using h
          obtain ⟨h3, h4⟩ := Array.getElem?_eq_some_iff.1 h2
          have h5 : c.setIfInBounds j v = c := by
            apply Array.ext_getElem?
            intro i
            rw [Array.getElem?_setIfInBounds]
            split
            · rename_i hij; subst hij; first | exact h2.symm | (rw [if_pos h3]; exact h2.symm)
            · rfl
          simp [h5]
        | _ => rfl
    · rw [if_neg hk]
  show ({ w with heap := (w.setCell ⟨g, j, none⟩ v).heap } : World) = w
  rw [e]
theorem txt_nil : txt [] = ({ data := #[] } : ByteArray) := rfl
theorem txt_at (l : List Nat) (ho : Okb l) (k : Nat) (h : k < (txt l).size) : (txt l)[k].toNat = l.getD k 0 := by
  have hk : k < l.length := by rw [txt_size] at h; exact h
  have hb := ho l[k] (List.getElem_mem hk)
  have e : (txt l)[k] = UInt8.ofNat l[k] := by simp [txt, ByteArray.getElem_eq_getElem_data]
  rw [e]
  simp [List.getD, hk]
  omega
theorem txt_toList (l : List Nat) : (txt l).toList = l.map UInt8.ofNat := by simp [ByteArray.toList_eq, txt]
theorem txt_cons_ne (x : Nat) (l : List Nat) : ¬ (txt (x :: l)).toList = [] := by rw [txt_toList]; simp
theorem txt_cons_emp (x : Nat) (l : List Nat) : (txt (x :: l)).toList.isEmpty = false := by rw [txt_toList]; rfl
def TakeGives (g : Nat) (l : List Nat) (c : Nat) (w : World) (e : Ending) (w' : World) : Prop := e = .returned (.bool (takes l c)) ∧ w' = w.setCell ⟨g, 0, none⟩ (.string (txt (rest l c)))
set_option maxHeartbeats 2000000 in
theorem take_any (g : Nat) (l : List Nat) (c : Nat) (w : World) (ho : Okb l) (hl : l.length ≤ 100000) (hc : c < 256) (hcell : w.cell? ⟨g, 0, none⟩ = some (.string (txt l))) (hfz : w.frozen? ⟨g, 0, none⟩ = false) :
    Calls Tryz.prog 156 #[.pointer (some ⟨g, 0, none⟩), .int .u8 (c : Int)] w (TakeGives g l c w) := by
  cases l with
  | nil =>
    have hs := Lib.hid (setCell_self hcell)
    have HR : Hid (rest [] c = []) := rfl
    have HT : Hid (takes [] c = false) := rfl
    rw [txt_nil] at hcell
    go_enter Tryz.func156, Tryz.ntmps156
    go_wp2
    go_ret
    exact ⟨by rw [HT.out]; rfl, by rw [HR.out]; exact hs.out.symm⟩
  | cons x l' =>
    have hx := ho x (by simp)
    have hsz : (txt (x :: l')).size = l'.length + 1 := by rw [txt_size]; rfl
    have h0 : 0 < (txt (x :: l')).size := by rw [hsz]; omega
    have hat : (txt (x :: l'))[0].toNat = x := by rw [txt_at _ ho 0 h0]; rfl
    have hne := txt_cons_ne x l'
    have hemp := txt_cons_emp x l'
    have hdrop : (txt (x :: l')).extract 1 (txt (x :: l')).size = txt l' := txt_drop (x :: l') 1
    have hself := Lib.hid (setCell_self hcell)
    have hll : l'.length ≤ 100000 := by simp at hl; omega
    have HTK := Lib.hid (takes_cons x l' c)
    generalize hs : txt (x :: l') = s at *
    have HD := Lib.hid hdrop; clear hdrop
    by_cases hxc : x = c
    · have HR : Hid (rest (x :: l') c = l') := by
        show _ = _
        unfold rest; rw [HTK.out, decide_eq_true hxc]; rfl
      have HT : Hid (takes (x :: l') c = true) := by rw [HTK.out]; exact decide_eq_true hxc
      have HA := Lib.hid hat
      subst hxc
      go_enter Tryz.func156, Tryz.ntmps156
      go_wp2
      go_ret
      rw [hsz] at HD
      exact ⟨by rw [HT.out]; rfl, by rw [HR.out, HD.out]⟩
    · have HR : Hid (rest (x :: l') c = x :: l') := by
        show _ = _
        unfold rest; rw [HTK.out, decide_eq_false hxc]; rfl
      have HT : Hid (takes (x :: l') c = false) := by rw [HTK.out]; exact decide_eq_false hxc
      have hne2 : ((x : Int) != (c : Int)) = true := by rw [bne_iff_ne]; omega
      have hne3 : ((x : Int) == (c : Int)) = false := by rw [beq_eq_false_iff_ne]; omega
      have hss := Lib.hid hs; clear hs
      go_enter Tryz.func156, Tryz.ntmps156
      go_wp2
      go_ret
      exact ⟨by rw [HT.out]; rfl, by rw [HR.out, hss.out]; exact hself.out.symm⟩
def Throws (n : Int) (w : World) (e : Ending) (w' : World) : Prop := e = .panicked [{ v := .iface 31 (.int .i64 n), recovered := false }] ∧ w' = w
def DigsGives (g : Nat) (l : List Nat) (w : World) (e : Ending) (w' : World) : Prop := e = .returned (.string (txt (digs l))) ∧ w' = w.setCell ⟨g, 0, none⟩ (.string (txt (undigs l)))
theorem digs_at {l : List Nat} {k : Nat} (h : k < (digs l).length) : 48 ≤ l.getD k 0 ∧ l.getD k 0 ≤ 57 ∧ k < l.length := by
  have h1 := digs_len l
  have h2 := digs_ok l (digs l)[k] (List.getElem_mem h)
  have e : (digs l)[k] = l[k]'(by omega) := by
    have := (List.takeWhile_prefix isd (l := l))
    exact this.getElem h
  rw [e] at h2
  have e2 : l.getD k 0 = l[k]'(by omega) := by simp [List.getD, show k < l.length by omega]
  rw [e2]
  exact ⟨h2.1, h2.2, by omega⟩
theorem digs_end {l : List Nat} (h : (digs l).length < l.length) : ¬ (48 ≤ l.getD (digs l).length 0 ∧ l.getD (digs l).length 0 ≤ 57) := by
  induction l with
  | nil => simp at h
  | cons x l ih =>
    unfold digs at h ⊢
    rw [List.takeWhile_cons] at h ⊢
    by_cases hx : isd x = true
    · rw [if_pos hx] at h ⊢
      simp only [List.length_cons] at h ⊢
      have := ih (by unfold digs; omega)
      simpa [digs] using this
    · rw [if_neg hx]
      simpa [isd] using hx
theorem digs_split (l : List Nat) : l.take (digs l).length = digs l ∧ l.drop (digs l).length = undigs l := by
  have e : digs l ++ undigs l = l := List.takeWhile_append_dropWhile
  generalize digs l = a at *
  generalize undigs l = b at *
  subst e
  exact ⟨List.take_left, List.drop_left⟩
theorem digs_nil {l : List Nat} (h : (digs l).length = 0) : digs l = [] := List.eq_nil_of_length_eq_zero h
def DigsPost (g : Nat) (l : List Nat) (w : World) (e : Ending) (w' : World) : Prop := (digs l = [] ∧ Throws 2 w e w') ∨ (digs l ≠ [] ∧ DigsGives g l w e w')
def DLoop (D : Nat) (w : World) (k : Nat) (i : Value) (wr : World) : Prop := k ≤ D ∧ i = .int .i64 ((D - k : Nat) : Int) ∧ wr = w
theorem ten_cases {x : Nat} (h1 : 48 ≤ x) (h2 : x ≤ 57) : x = 48 ∨ x = 49 ∨ x = 50 ∨ x = 51 ∨ x = 52 ∨ x = 53 ∨ x = 54 ∨ x = 55 ∨ x = 56 ∨ x = 57 := by omega
set_option maxHeartbeats 8000000 in
theorem digits_any2 (g : Nat) (l : List Nat) (w : World) (ho : Okb l) (hl : l.length ≤ 100000) (hcell : w.cell? ⟨g, 0, none⟩ = some (.string (txt l))) (hfz : w.frozen? ⟨g, 0, none⟩ = false) :
    Calls Tryz.prog 157 #[.pointer (some ⟨g, 0, none⟩)] w (DigsPost g l w) := by
  have hsz : (txt l).size = l.length := txt_size l
  have hDl := digs_len l
  have HEND := Lib.hid (@digs_end l)
  have HAT := Lib.hid (txt_at l ho)
  have HDA := Lib.hid (fun k => @digs_at l k)
  have HT1 := Lib.hid ((txt_take l (digs l).length hDl).trans (congrArg txt (digs_split l).1))
  have HT2 := Lib.hid ((txt_drop l (digs l).length).trans (congrArg txt (digs_split l).2))
  have HND := Lib.hid (@digs_nil l)
  have HN2 : Hid (digs l = [] → (digs l).length = 0) := fun h => by rw [h]; rfl
  rw [hsz] at HT2
  have HOB := Lib.hid ho; clear ho
  generalize hD : (digs l).length = D at *
  generalize hL : l.length = n at *
  have HDD := Lib.hid hD; clear hD
  have HLL := Lib.hid hL; clear hL
  have HSZ := Lib.hid hsz
  go_enter Tryz.func157, Tryz.ntmps157
  go_wp2
  go_step3
  go_wp2
  go_step3
  go_wp2
  go_loopg [3] D (fun k i wr => DLoop D w k i wr)
  case atStart => exact ⟨Nat.le_refl _, by rw [Nat.sub_self]; rfl, rfl⟩
  case round =>
    obtain ⟨hk, rfl, rfl⟩ := hrel
    rcases gk with _ | m
    · rw [Nat.sub_zero]
      by_cases hend : D < n
      · have hlt : (D : Int) < (n : Int) := by omega
        have h0 : D < (txt l).size := by rw [hsz]; exact hend
        have hx := HAT.out D h0
        have hb := HOB.out.getD D
        have hn := HEND.out hend
        generalize hs : txt l = s at *
        generalize l.getD D 0 = x at *
        have h48 : ((x : Int) == 48) = false := by rw [beq_eq_false_iff_ne]; omega
        have h49 : ((x : Int) == 49) = false := by rw [beq_eq_false_iff_ne]; omega
        have h50 : ((x : Int) == 50) = false := by rw [beq_eq_false_iff_ne]; omega
        have h51 : ((x : Int) == 51) = false := by rw [beq_eq_false_iff_ne]; omega
        have h52 : ((x : Int) == 52) = false := by rw [beq_eq_false_iff_ne]; omega
        have h53 : ((x : Int) == 53) = false := by rw [beq_eq_false_iff_ne]; omega
        have h54 : ((x : Int) == 54) = false := by rw [beq_eq_false_iff_ne]; omega
        have h55 : ((x : Int) == 55) = false := by rw [beq_eq_false_iff_ne]; omega
        have h56 : ((x : Int) == 56) = false := by rw [beq_eq_false_iff_ne]; omega
        have h57 : ((x : Int) == 57) = false := by rw [beq_eq_false_iff_ne]; omega
        clear hn
        have HSS := Lib.hid hs; clear hs
        by_cases hD0 : D = 0
        · have HD0 := Lib.hid (HND.out hD0)
          subst hD0
          go_wp2
          exact ⟨rfl, .inl ⟨HD0.out, rfl, rfl⟩⟩
        · have HD0 := Lib.hid (fun h => hD0 (HN2.out h))
          have hDb : ((D : Int) == 0) = false := by rw [beq_eq_false_iff_ne]; omega
          go_wp2
          try rw [Exit.noGoto_ret]
          go_ret
          exact .inr ⟨HD0.out, rets (by rw [← HT1.out]; try rfl), by rw [← HT2.out]; first | done | rfl | simp⟩
      · have hlt : ¬ ((D : Int) < (n : Int)) := by omega
        obtain rfl : D = n := by omega
        generalize hs : txt l = s at *
        have HSS := Lib.hid hs; clear hs
        by_cases hD0 : D = 0
        · have HD0 := Lib.hid (HND.out hD0)
          subst hD0
          go_wp2
          exact ⟨rfl, .inl ⟨HD0.out, rfl, rfl⟩⟩
        · have HD0 := Lib.hid (fun h => hD0 (HN2.out h))
          have hDb : ((D : Int) == 0) = false := by rw [beq_eq_false_iff_ne]; omega
          go_wp2
          try rw [Exit.noGoto_ret]
          go_ret
          exact .inr ⟨HD0.out, rets (by rw [← HT1.out]; try rfl), by rw [← HT2.out]; first | done | rfl | simp⟩
    · have hlt : ((D - (m + 1) : Nat) : Int) < (n : Int) := by omega
      obtain ⟨d1, d2, d3⟩ := HDA.out (D - (m + 1)) (by omega)
      have h0 : D - (m + 1) < (txt l).size := by rw [hsz]; omega
      have hx := HAT.out (D - (m + 1)) h0
      have hnx : ((D - (m + 1) : Nat) : Int) + 1 = ((D - m : Nat) : Int) := by omega
      have HNX := Lib.hid hnx; clear hnx
      have hbig : D - (m + 1) ≤ 100000 := by omega
      have HM : Hid (m ≤ D) := by show m ≤ D; omega
      generalize D - (m + 1) = q at *
      generalize hs : txt l = s at *
      have HSS := Lib.hid hs; clear hs
      generalize l.getD q 0 = x at *
      have hcs := ten_cases d1 d2
      clear d1 d2
      rcases hcs with rfl | rfl | rfl | rfl | rfl | rfl | rfl | rfl | rfl | rfl
      all_goals
        go_wp2
        go_roundg m
        case measure => omega
        case rel => exact ⟨HM.out, by rw [← HNX.out], rfl⟩
end Go.Proofs.YtgolidabjcmofaaGreatDoor
namespace Go.Proofs.YtgolidabjcmofaaGreatDoor
open Go.RowKit Go.Sort
set_option linter.unusedVariables false
set_option linter.unusedSimpArgs false
def PtV (p : Pt) : Value := .agg #[.bool p.neg, .string (txt p.whole), .string (txt p.frac), .bool p.down, .string (txt p.exp)]
def ReadPost (l : List Nat) (w : World) (e : Ending) (w' : World) : Prop :=
  (readL l = none ∧ e = .panicked [{ v := .iface 31 (.int .i64 2), recovered := false }] ∧ Below w.heap.size w w') ∨ (∃ p, readL l = some p ∧ e = .returned (PtV p) ∧ Below w.heap.size w w')
theorem okb_rest {l : List Nat} (h : Okb l) (c : Nat) : Okb (rest l c) := by
  unfold rest; split
  · exact fun x hx => h x (List.mem_of_mem_tail hx)
  · exact h
theorem okb_undigs {l : List Nat} (h : Okb l) : Okb (undigs l) := fun x hx => h x ((List.dropWhile_sublist isd).subset hx)
theorem third_cell (w : World) (o1 o2 : Obj) (c : Array Value) (t : TypeId) (i : Nat) : (((w.alloc o1).alloc o2).alloc (.cells c t)).cell? ⟨w.heap.size + 1 + 1, i, none⟩ = c[i]? := by
  have := World.cell?_alloc_new ((w.alloc o1).alloc o2) c t i
  simpa using this
theorem third_free (w : World) (o1 o2 : Obj) (c : Array Value) (t : TypeId) (i : Nat) : (((w.alloc o1).alloc o2).alloc (.cells c t)).frozen? ⟨w.heap.size + 1 + 1, i, none⟩ = false := by
  have h : (((w.alloc o1).alloc o2).alloc (.cells c t)).heap[w.heap.size + 1 + 1]? = some (.cells c t) := by
    have := heap_alloc_new ((w.alloc o1).alloc o2) (.cells c t)
    simpa using this
  unfold World.frozen?
  simp only [h]
  simp
theorem below_read (w : World) (a b c : Array Value) : Below w.heap.size w (((w.alloc (.cells a 138)).alloc (.cells b 138)).alloc (.cells c 172)) :=
  (((Below.refl _ _).alloc (Nat.le_refl _) _).alloc (by simp) _).alloc (by simp <;> omega) _
theorem readL_bad {l : List Nat} (h : wholeBad (digs (rest l 45))) : readL l = none := by unfold readL; rw [if_pos h]
theorem readL_frac {l : List Nat} (h : ¬ wholeBad (digs (rest l 45))) (h2 : fracL (undigs (rest l 45)) = none) : readL l = none := by unfold readL; rw [if_neg h, h2]
theorem readL_exp {l : List Nat} {f l3 : List Nat} (h : ¬ wholeBad (digs (rest l 45))) (h2 : fracL (undigs (rest l 45)) = some (f, l3)) (h3 : expL l3 = none) : readL l = none := by unfold readL; rw [if_neg h, h2]; simp only; rw [h3]
theorem readL_left {l : List Nat} {f l3 : List Nat} {d : Bool} {x l4 : List Nat} (h : ¬ wholeBad (digs (rest l 45))) (h2 : fracL (undigs (rest l 45)) = some (f, l3)) (h3 : expL l3 = some (d, x, l4)) (h4 : l4 ≠ []) : readL l = none := by
  unfold readL; rw [if_neg h, h2]; simp only; rw [h3]; simp only; rw [if_neg h4]
theorem readL_ok {l : List Nat} {f l3 : List Nat} {d : Bool} {x : List Nat} (h : ¬ wholeBad (digs (rest l 45))) (h2 : fracL (undigs (rest l 45)) = some (f, l3)) (h3 : expL l3 = some (d, x, [])) : readL l = some ⟨takes l 45, digs (rest l 45), f, d, x⟩ := by
  unfold readL; rw [if_neg h, h2]; simp only; rw [h3]; simp
def FracCut (w : World) (ng : Bool) (D l2 : List Nat) (wx : World) : Prop :=
  ∃ f l3, fracL l2 = some (f, l3) ∧ Okb l3 ∧ l3.length ≤ l2.length ∧ Okd f ∧ f.length ≤ l2.length ∧
    wx = (((w.alloc (.cells #[.bool false, .string { data := #[] }, .string { data := #[] }, .bool false, .string { data := #[] }] 138)).alloc (.cells #[.bool ng, .string (txt D), .string (txt f), .bool false, .string { data := #[] }] 138)).alloc (.cells #[.string (txt l3)] 172))
def hasE (l : List Nat) : Bool := takes l 101 || takes l 69
def ECut (w : World) (ng : Bool) (D f l3 : List Nat) (s : Value) (wx : World) : Prop :=
  s = .bool (hasE l3) ∧
    wx = (((w.alloc (.cells #[.bool false, .string { data := #[] }, .string { data := #[] }, .bool false, .string { data := #[] }] 138)).alloc (.cells #[.bool ng, .string (txt D), .string (txt f), .bool false, .string { data := #[] }] 138)).alloc (.cells #[.string (txt (if hasE l3 = true then l3.tail else l3))] 172))
def ExpCut (w : World) (ng : Bool) (D f l3 : List Nat) (wx : World) : Prop :=
  ∃ d x l4, expL l3 = some (d, x, l4) ∧ Okb l4 ∧ l4.length ≤ l3.length ∧ Okd x ∧ x.length ≤ l3.length ∧
    wx = (((w.alloc (.cells #[.bool false, .string { data := #[] }, .string { data := #[] }, .bool false, .string { data := #[] }] 138)).alloc (.cells #[.bool ng, .string (txt D), .string (txt f), .bool d, .string (txt x)] 138)).alloc (.cells #[.string (txt l4)] 172))
theorem hasE_iff (l : List Nat) : (takes l 101 = true ∨ takes l 69 = true) ↔ hasE l = true := by unfold hasE; simp
theorem expL_yes {l : List Nat} (h : hasE l = true) : expL l = if digs (signL l.tail) = [] then none else some (takes l.tail 45, digs (signL l.tail), undigs (signL l.tail)) := by unfold expL; rw [if_pos ((hasE_iff l).2 h)]
theorem expL_no {l : List Nat} (h : hasE l = false) : expL l = some (false, [], l) := by unfold expL; rw [if_neg (fun h1 => by rw [(hasE_iff l).1 h1] at h; cases h)]
theorem okb_sign {l : List Nat} (h : Okb l) : Okb (signL l) := by
  unfold signL; split
  · exact fun x hx => h x (List.mem_of_mem_tail hx)
  · exact okb_rest h _
theorem sign_len (l : List Nat) : (signL l).length ≤ l.length := by
  unfold signL; split
  · simp
  · exact rest_len _ _
set_option maxHeartbeats 16000000 in
theorem read_any (l : List Nat) (w : World) (ho : Okb l) (hl : l.length ≤ 2000) :
    Calls Tryz.prog 118 #[.string (txt l)] w (ReadPost l w) := by
  have ho1 := okb_rest ho 45
  have ho2 := okb_undigs ho1
  have hl1 := rest_len l 45
  have hl2 := undigs_len (rest l 45)
  have hld := digs_len (rest l 45)
  have hod := digs_ok (rest l 45)
  have R1 := Lib.hid (fun h => @readL_bad l h)
  have R2 := Lib.hid (fun h h2 => @readL_frac l h h2)
  have R3 := Lib.hid (fun f l3 h h2 h3 => @readL_exp l f l3 h h2 h3)
  have R4 := Lib.hid (fun f l3 d x l4 h h2 h3 h4 => @readL_left l f l3 d x l4 h h2 h3 h4)
  have R5 := Lib.hid (fun f l3 d x h h2 h3 => @readL_ok l f l3 d x h h2 h3)
  go_enter Tryz.func118, Tryz.ntmps118
  go_wp2_with fail
  refine (take_any (w.heap.size + 1 + 1) l 45 _ ho (by omega) (by omega) (third_cell _ _ _ _ _ _) (third_free _ _ _ _ _ _)).mono ?_
  rintro r w' ⟨rfl, rfl⟩
  go_wp2_with fail
  refine (digits_any2 (w.heap.size + 1 + 1) (rest l 45) _ ho1 (by omega) (third_cell _ _ _ _ _ _) (third_free _ _ _ _ _ _)).mono ?_
  generalize takes l 45 = ng at *
  generalize rest l 45 = l1 at *
  rintro r w' (⟨h0, rfl, rfl⟩ | ⟨h0, rfl, rfl⟩)
  · go_wp2
    exact ⟨rfl, .inl ⟨R1.out (.inl h0), rfl, below_read _ _ _ _⟩⟩
  · have hsd : (txt (digs l1)).size = (digs l1).length := txt_size _
    have hdp : 0 < (digs l1).length := by
      rcases Nat.eq_zero_or_pos (digs l1).length with h | h
      · exact absurd (List.eq_nil_of_length_eq_zero h) h0
      · exact h
    have H0 := Lib.hid h0; clear h0
    have hat := txt_at (digs l1) hod.b 0 (by rw [hsd]; exact hdp)
    have hpd : 0 < (txt (digs l1)).size := by rw [hsd]; exact hdp
    have hhd : (digs l1).head? = some ((digs l1).getD 0 0) := by
      cases hdd : digs l1 with
      | nil => rw [hdd] at hdp; simp at hdp
      | cons a b => rfl
    have hb0 : (digs l1).getD 0 0 < 256 := hod.b.getD 0
    generalize hD : digs l1 = D at *
    generalize undigs l1 = l2 at *
    generalize D.getD 0 0 = d0 at *
    have HH := Lib.hid hhd; clear hhd
    by_cases hbad : 1 < D.length ∧ d0 = 48
    · obtain ⟨hb1, hb2⟩ := hbad
      have HBAD := Lib.hid (R1.out (.inr ⟨hb1, by rw [HH.out, hb2]⟩))
      have hb1' : (1 : Int) < (D.length : Int) := by omega
      subst hb2
      go_wp2
      exact ⟨rfl, .inl ⟨HBAD.out, rfl, below_read _ _ _ _⟩⟩
    · have hgood : ¬ wholeBad D := by
        rintro (h | ⟨h1, h2⟩)
        · exact H0.out h
        · rw [HH.out] at h2; exact hbad ⟨h1, Option.some.inj h2⟩
      have HG := Lib.hid hgood; clear hgood
      go_upto_region 5 with fail
      go_cut [20] (fun s wx => s = .bool false ∧ wx = (((w.alloc (.cells #[.bool false, .string { data := #[] }, .string { data := #[] }, .bool false, .string { data := #[] }] 138)).alloc (.cells #[.bool ng, .string (txt D), .string { data := #[] }, .bool false, .string { data := #[] }] 138)).alloc (.cells #[.string (txt l2)] 172)))
      case first =>
        by_cases hlen : 1 < D.length
        · have hlen' : (1 : Int) < (D.length : Int) := by omega
          have hd48 : ((d0 : Int) == 48) = false := by rw [beq_eq_false_iff_ne]; omega
          go_wp2_with fail
          go_meet
          exact ⟨rfl, rfl⟩
        · have hlen' : ¬ (1 : Int) < (D.length : Int) := by omega
          go_wp2_with fail
          go_meet
          exact ⟨rfl, rfl⟩
      case rest =>
        obtain ⟨rfl, rfl⟩ := hcut
        clear hbad hat hb0 HH hpd
        have KT2 := Lib.hid (fun W h1 h2 => take_any (w.heap.size + 1 + 1) l2 46 W ho2 (by omega) (by omega) h1 h2)
        go_upto_if 22 with (first | (go_at_call 156; refine (KT2.out _ (third_cell _ _ _ _ _ _) (third_free _ _ _ _ _ _)).mono ?_; rintro r w' ⟨rfl, rfl⟩))
        go_cut [] (fun wx => FracCut w ng D l2 wx)
        case first =>
          by_cases hp : takes l2 46 = true
          · obtain ⟨l2', rfl⟩ := takes_true hp
            have hrs : rest (46 :: l2') 46 = l2' := by unfold rest; rw [hp]; rfl
            have ho3 : Okb l2' := fun x hx => ho2 x (by simp [hx])
            have hlt : l2'.length ≤ 2000 := by simp at hl2; omega
            rw [hrs, hp]
            have KD := Lib.hid (fun W h1 h2 => digits_any2 (w.heap.size + 1 + 1) l2' W ho3 (by omega) h1 h2)
            have HF : Hid (fracL (46 :: l2') = if digs l2' = [] then none else some (digs l2', undigs l2')) := by show _ = _; unfold fracL; rw [if_pos hp]; rfl
            go_wp2_with fail
            refine (KD.out _ (third_cell _ _ _ _ _ _) (third_free _ _ _ _ _ _)).mono ?_
            rintro r w' (⟨h0, rfl, rfl⟩ | ⟨h0, rfl, rfl⟩)
            · go_wp2
              exact ⟨rfl, .inl ⟨R2.out HG.out (by rw [HF.out, if_pos h0]), rfl, below_read _ _ _ _⟩⟩
            · have HFF := Lib.hid (HF.out.trans (if_neg h0))
              clear h0
              go_wp2
              go_meet
              exact ⟨digs l2', undigs l2', HFF.out, okb_undigs ho3, by have := undigs_len l2'; simp; omega, digs_ok _, by have := digs_len l2'; simp; omega, rfl⟩
          · have hp' : takes l2 46 = false := by simpa using hp
            have hrs : rest l2 46 = l2 := by unfold rest; rw [if_neg hp]
            have HF : Hid (fracL l2 = some ([], l2)) := by show _ = _; unfold fracL; rw [if_neg hp]
            rw [hrs, hp']
            go_wp2
            go_meet
            exact ⟨[], l2, HF.out, ho2, Nat.le_refl _, Okd.nil, by simp, rfl⟩
        case rest =>
          obtain ⟨f, l3, hfr, ho3, hl3, hof, hlf, rfl⟩ := hcut
          have hfl : f.length ≤ 2000 := by omega
          have hl3b : l3.length ≤ 2000 := by omega
          have HFR := Lib.hid hfr; clear hfr KT2
          have KE1 := Lib.hid (fun W h1 h2 => take_any (w.heap.size + 1 + 1) l3 101 W ho3 (by omega) (by omega) h1 h2)
          have KE2 := Lib.hid (fun W h1 h2 => take_any (w.heap.size + 1 + 1) l3 69 W ho3 (by omega) (by omega) h1 h2)
          go_upto_region 9 with fail
          go_cut [28] (fun s wx => ECut w ng D f l3 s wx)
          case first =>
            by_cases hp : takes l3 101 = true
            · have hrs : rest l3 101 = l3.tail := by unfold rest; rw [if_pos hp]
              have HH1 : Hid (hasE l3 = true) := by show _ = _; unfold hasE; rw [hp]; rfl
              go_wp2_with fail
              refine (KE1.out _ (third_cell _ _ _ _ _ _) (third_free _ _ _ _ _ _)).mono ?_
              rintro r w' ⟨rfl, rfl⟩
              rw [hrs, hp]
              go_wp2_with fail
              go_meet
              exact ⟨by rw [HH1.out], by rw [HH1.out]; rfl⟩
            · have hp' : takes l3 101 = false := by simpa using hp
              have hrs : rest l3 101 = l3 := by unfold rest; rw [if_neg hp]
              have HH1 : Hid (hasE l3 = takes l3 69) := by show _ = _; unfold hasE; rw [hp']; rfl
              have HH2 : Hid (rest l3 69 = if takes l3 69 = true then l3.tail else l3) := rfl
              go_wp2_with fail
              refine (KE1.out _ (third_cell _ _ _ _ _ _) (third_free _ _ _ _ _ _)).mono ?_
              rintro r w' ⟨rfl, rfl⟩
              rw [hrs, hp']
              go_wp2_with fail
              refine (KE2.out _ (third_cell _ _ _ _ _ _) (third_free _ _ _ _ _ _)).mono ?_
              rintro r w' ⟨rfl, rfl⟩
              go_wp2_with fail
              go_meet
              exact ⟨by rw [HH1.out], by rw [HH1.out, HH2.out]; try rfl⟩
          case rest =>
            obtain ⟨rfl, rfl⟩ := hcut
            clear KE1 KE2
            go_upto_if 28 with fail
            go_cut [] (fun wx => ExpCut w ng D f l3 wx)
            case first =>
              by_cases hE : hasE l3 = true
              · have HX : Hid (expL l3 = if digs (signL l3.tail) = [] then none else some (takes l3.tail 45, digs (signL l3.tail), undigs (signL l3.tail))) := expL_yes hE
                rw [hE, if_pos rfl]
                have hot : Okb l3.tail := fun x hx => ho3 x (List.mem_of_mem_tail hx)
                have htl : l3.tail.length ≤ l3.length := by simp
                generalize l3.tail = t at *
                have KM := Lib.hid (fun W h1 h2 => take_any (w.heap.size + 1 + 1) t 45 W hot (by omega) (by omega) h1 h2)
                have KP := Lib.hid (fun W h1 h2 => take_any (w.heap.size + 1 + 1) t 43 W hot (by omega) (by omega) h1 h2)
                have hos : Okb (signL t) := okb_sign hot
                have hsl : (signL t).length ≤ t.length := sign_len t
                have KD := Lib.hid (fun W h1 h2 => digits_any2 (w.heap.size + 1 + 1) (signL t) W hos (by omega) h1 h2)
                by_cases hm : takes t 45 = true
                · have HSG : Hid (signL t = rest t 45) := by show _ = _; unfold signL rest; rw [if_pos hm, if_pos hm]
                  go_wp2_with fail
                  refine (KM.out _ (third_cell _ _ _ _ _ _) (third_free _ _ _ _ _ _)).mono ?_
                  rintro r w' ⟨rfl, rfl⟩
                  rw [hm, ← HSG.out]
                  rw [hm] at HX
                  generalize signL t = sg at *
                  go_wp2_with fail
                  refine (KD.out _ (third_cell _ _ _ _ _ _) (third_free _ _ _ _ _ _)).mono ?_
                  rintro r w' (⟨h0, rfl, rfl⟩ | ⟨h0, rfl, rfl⟩)
                  · go_wp2
                    exact ⟨rfl, .inl ⟨R3.out f l3 HG.out HFR.out (by rw [HX.out, if_pos h0]), rfl, below_read _ _ _ _⟩⟩
                  · have HXX := Lib.hid (HX.out.trans (if_neg h0))
                    clear h0
                    go_wp2
                    go_meet
                    exact ⟨true, digs sg, undigs sg, HXX.out, okb_undigs hos, by have := undigs_len sg; omega, digs_ok _, by have := digs_len sg; omega, rfl⟩
                · have hm' : takes t 45 = false := by simpa using hm
                  have hrs : rest t 45 = t := by unfold rest; rw [if_neg hm]
                  have HSG : Hid (signL t = rest t 43) := by show _ = _; unfold signL; rw [if_neg hm]
                  go_wp2_with fail
                  refine (KM.out _ (third_cell _ _ _ _ _ _) (third_free _ _ _ _ _ _)).mono ?_
                  rintro r w' ⟨rfl, rfl⟩
                  rw [hm', hrs]
                  rw [hm'] at HX
                  go_wp2_with fail
                  refine (KP.out _ (third_cell _ _ _ _ _ _) (third_free _ _ _ _ _ _)).mono ?_
                  rintro r w' ⟨rfl, rfl⟩
                  rw [← HSG.out]
                  generalize signL t = sg at *
                  go_wp2_with fail
                  refine (KD.out _ (third_cell _ _ _ _ _ _) (third_free _ _ _ _ _ _)).mono ?_
                  rintro r w' (⟨h0, rfl, rfl⟩ | ⟨h0, rfl, rfl⟩)
                  · go_wp2
                    exact ⟨rfl, .inl ⟨R3.out f l3 HG.out HFR.out (by rw [HX.out, if_pos h0]), rfl, below_read _ _ _ _⟩⟩
                  · have HXX := Lib.hid (HX.out.trans (if_neg h0))
                    clear h0
                    go_wp2
                    go_meet
                    exact ⟨false, digs sg, undigs sg, HXX.out, okb_undigs hos, by have := undigs_len sg; omega, digs_ok _, by have := digs_len sg; omega, rfl⟩
              · have hE' : hasE l3 = false := by simpa using hE
                have HX : Hid (expL l3 = some (false, [], l3)) := expL_no hE'
                rw [hE', if_neg (by decide)]
                go_wp2
                go_meet
                exact ⟨false, [], l3, HX.out, ho3, Nat.le_refl _, Okd.nil, by simp, rfl⟩
            case rest =>
              obtain ⟨d, x, l4, hex, ho4, hl4, hox, hlx, rfl⟩ := hcut
              have HEX := Lib.hid hex; clear hex
              cases l4 with
              | nil =>
                have HOK := Lib.hid (R5.out f l3 d x HG.out HFR.out HEX.out)
                rw [txt_nil]
                go_wp2
                exact bodyPost_ret (v := .agg #[.bool ng, .string (txt D), .string (txt f), .bool d, .string (txt x)]) (by simp [results, Tryz.results118, go_sem, World.cell?_alloc_lt]) rfl (.inr ⟨_, HOK.out, rfl, below_read _ _ _ _⟩)
              | cons y l5 =>
                have HBAD := Lib.hid (R4.out f l3 d x (y :: l5) HG.out HFR.out HEX.out (by simp))
                have hne := txt_cons_ne y l5
                have hemp := txt_cons_emp y l5
                generalize txt (y :: l5) = s4 at *
                go_wp2
                exact ⟨rfl, .inl ⟨HBAD.out, rfl, below_read _ _ _ _⟩⟩
end Go.Proofs.YtgolidabjcmofaaGreatDoor
namespace Go.Proofs.YtgolidabjcmofaaGreatDoor
open Go.RowKit Go.Sort
set_option linter.unusedVariables false
set_option linter.unusedSimpArgs false
theorem trim_txt {x : List Nat} (h : Okd x) : (⟨(Lib.trimLeftB (txt x).data.toList 48).toArray⟩ : ByteArray) = txt (x.dropWhile (· == 48)) := by
  rw [txt_list]
  unfold Lib.trimLeftB
  have e : ∀ l : List Nat, Okd l → (l.map UInt8.ofNat).dropWhile (· == 48) = (l.dropWhile (· == 48)).map UInt8.ofNat := by
    intro l
    induction l with
    | nil => intro _; rfl
    | cons a l ih =>
      intro ho
      have ha := ho a (by simp)
      rw [List.map_cons, List.dropWhile_cons, List.dropWhile_cons]
      by_cases h48 : a = 48
      · subst h48
        simpa using ih ho.tail
      · have h1 : (UInt8.ofNat a == 48) = false := by
          rw [beq_eq_false_iff_ne]
          intro h2
          have := congrArg UInt8.toNat h2
          rw [UInt8.toNat_ofNat'] at this
          have h3 : (48 : UInt8).toNat = 48 := rfl
          omega
        have h2 : (a == 48) = false := by rw [beq_eq_false_iff_ne]; exact h48
        rw [h1, h2]; simp
  rw [e x h]; rfl
theorem okd_drop {x : List Nat} (h : Okd x) : Okd (x.dropWhile (· == 48)) := fun a ha => h a ((List.dropWhile_sublist _).subset ha)
theorem take_snoc2 (l : List Nat) (k : Nat) (h : k < l.length) : hval (l.take (k + 1)) = 10 * hval (l.take k) + (l.getD k 0 - 48) := by rw [take_snoc' l k h, hval_snoc]
def boxP (w : World) (p : Pt) : World := w.alloc (.cells #[.bool p.neg, .string (txt p.whole), .string (txt p.frac), .bool p.down, .string (txt p.exp)] 138)
def TensPost (p : Pt) (w : World) (e : Ending) (w' : World) : Prop := e = .returned (.int .i64 (expV p)) ∧ w' = boxP w p
set_option maxHeartbeats 4000000 in
theorem ptens_any (p : Pt) (w : World) (hx : Okd p.exp) (h6 : (expN p).length ≤ 6) :
    Calls Tryz.prog 160 #[.agg #[.bool p.neg, .string (txt p.whole), .string (txt p.frac), .bool p.down, .string (txt p.exp)]] w (TensPost p w) := by
  have HT := Lib.hid (trim_txt hx)
  have hod : Okd (expN p) := okd_drop hx
  have HN : Hid (p.exp.dropWhile (· == 48) = expN p) := rfl
  have HV : Hid (expV p = if p.down = true then -(hval (expN p) : Int) else (hval (expN p) : Int)) := rfl
  have HP : Hid (boxP w p = w.alloc (.cells #[.bool p.neg, .string (txt p.whole), .string (txt p.frac), .bool p.down, .string (txt p.exp)] 138)) := rfl
  unfold TensPost
  generalize hbx : boxP w p = WB at *
  generalize hT : expN p = T at *
  generalize hE : expV p = E at *
  clear hx hT hE
  have hsz : (txt T).size = T.length := txt_size T
  have HAT := Lib.hid (txt_at T hod.b)
  have HWB := Lib.hid hbx; clear hbx
  go_enter Tryz.func160, Tryz.ntmps160
  go_wp2_with fail
  refine (Tryz.strings_TrimLeft_one (txt p.exp) 48 (by decide) _).mono ?_
  rintro r w' ⟨rfl, rfl⟩
  rw [HT.out, HN.out]
  rw [← HP.out]
  go_wp2_with fail
  go_loop [4, 15] (fun v i => ∃ (k x : Nat), k ≤ T.length ∧ i = .int .i64 (k : Int) ∧ v = .int .i64 (x : Int) ∧ x = hval (T.take k)) (fun _ i => T.length - (intOf i).toNat)
  case atStart => exact ⟨0, 0, Nat.zero_le _, rfl, rfl, rfl⟩
  case round =>
    obtain ⟨k, x, hk, rfl, rfl, hxv⟩ := hrel
    have HX := Lib.hid hxv; clear hxv
    by_cases hlt : k < T.length
    · have hlt' : (k : Int) < (T.length : Int) := by omega
      have hxb : x < 1000000 := by
        have h1 := hval_lt (hod.take k)
        rw [← HX.out, List.length_take, Nat.min_eq_left hk] at h1
        have h2 := tenN_le (show k ≤ 6 by omega)
        have h3 : tenN 6 = 1000000 := by decide
        omega
      have h0 : k < (txt T).size := by rw [hsz]; exact hlt
      have hat := HAT.out k h0
      have hok : 48 ≤ T.getD k 0 ∧ T.getD k 0 ≤ 57 := by
        have := hod T[k] (List.getElem_mem hlt)
        simpa [List.getD, hlt] using this
      have HS := Lib.hid (take_snoc2 T k hlt)
      generalize T.getD k 0 = y at *
      generalize txt T = s at *
      obtain ⟨hy1, hy2⟩ := hok
      go_wp2
      go_round
      case rel => exact ⟨k + 1, 10 * x + (y - 48), by omega, by go_num, by first | go_num | (congr 1; omega), by rw [HS.out, HX.out]⟩
      case measure => simp [intOf]; omega
    · obtain rfl : k = T.length := by omega
      have hlt' : ¬ ((T.length : Int) < (T.length : Int)) := by omega
      have hxv := HX.out
      rw [List.take_length] at hxv
      have hxb : x < 1000000 := by
        have h1 := hval_lt hod
        rw [← hxv] at h1
        have h2 := tenN_le (show T.length ≤ 6 by omega)
        have h3 : tenN 6 = 1000000 := by decide
        omega
      have HXV := Lib.hid hxv; clear hxv
      have hcell : WB.cell? ⟨w.heap.size, 3, none⟩ = some (.bool p.down) := by rw [HP.out]; simp
      cases hdn : p.down
      · rw [hdn] at hcell
        have HE : Hid (E = (x : Int)) := by show _ = _; rw [HV.out, hdn, HXV.out]; rfl
        generalize p.neg = b1 at *
        go_wp2
        go_ret
        exact ⟨by rw [HE.out]; rfl, by first | rfl | exact HWB.out | exact HP.out | exact HP.out.symm⟩
      · rw [hdn] at hcell
        have HE : Hid (E = -(x : Int)) := by show _ = _; rw [HV.out, hdn, HXV.out]; rfl
        go_wp2
        go_ret
        exact ⟨by rw [HE.out]; rfl, by first | rfl | exact HWB.out | exact HP.out | exact HP.out.symm⟩
def TensFail (p : Pt) (w : World) (e : Ending) (w' : World) : Prop := e = .panicked [{ v := .iface 31 (.int .i64 4), recovered := false }] ∧ w' = boxP w p
set_option maxHeartbeats 4000000 in
theorem ptens_wide (p : Pt) (w : World) (hx : Okd p.exp) (hl : p.exp.length ≤ 100000) (h6 : 6 < (expN p).length) :
    Calls Tryz.prog 160 #[.agg #[.bool p.neg, .string (txt p.whole), .string (txt p.frac), .bool p.down, .string (txt p.exp)]] w (TensFail p w) := by
  have HT := Lib.hid (trim_txt hx)
  have HN : Hid (p.exp.dropWhile (· == 48) = expN p) := rfl
  have HP : Hid (boxP w p = w.alloc (.cells #[.bool p.neg, .string (txt p.whole), .string (txt p.frac), .bool p.down, .string (txt p.exp)] 138)) := rfl
  unfold TensFail
  have hle : (expN p).length ≤ 100000 := Nat.le_trans (List.dropWhile_sublist _).length_le hl
  generalize boxP w p = WB at *
  generalize expN p = T at *
  have hsz : (txt T).size = T.length := txt_size T
  have h6' : (6 : Int) < (T.length : Int) := by omega
  clear hx
  go_enter Tryz.func160, Tryz.ntmps160
  go_wp2_with fail
  refine (Tryz.strings_TrimLeft_one (txt p.exp) 48 (by decide) _).mono ?_
  rintro r w' ⟨rfl, rfl⟩
  rw [HT.out, HN.out]
  rw [← HP.out]
  go_wp2
  exact ⟨rfl, rfl, rfl⟩
end Go.Proofs.YtgolidabjcmofaaGreatDoor
namespace Go.Proofs.YtgolidabjcmofaaGreatDoor
open Go.RowKit Go.Sort
set_option linter.unusedVariables false
set_option linter.unusedSimpArgs false
attribute [local go_sem ↓] Go.wp_at_zero Go.wp_at_succ
structure PtOk (p : Pt) : Prop where
  w : Okd p.whole
  w0 : 0 < p.whole.length
  f : Okd p.frac
  x : Okd p.exp
  len : p.whole.length + p.frac.length ≤ 2000
  xlen : p.exp.length ≤ 2000
theorem by_any {G : Prop} (h : G) : wpAny Tryz.prog .any #[] (fun _ _ _ => True) 0 #[] { tmps := #[], defers := [] } default → G := fun _ => h
theorem boxP_below (w : World) (p : Pt) : Below w.heap.size w (boxP w p) := (Below.refl _ _).alloc (Nat.le_refl _) _
def NumGives (w0 : World) (l : List Ent) (L : Nat) (neg : Bool) (m : Nat) (e : Int) (r : Ending) (w' : World) : Prop :=
  ∃ v, r = .returned (.agg #[.bool neg, v, .int .i64 e]) ∧ Ctx w0 w' (⟨v, L, m, limbs m⟩ :: l)
def NumThrows (w0 : World) (l : List Ent) (r : Ending) (w' : World) : Prop := r = .panicked [{ v := .iface 31 (.int .i64 4), recovered := false }] ∧ Ctx w0 w' l
set_option maxHeartbeats 8000000 in
theorem number_zero {w0 w : World} {l : List Ent} (h : Ctx w0 w l) (p : Pt) (hp : PtOk p) (h0 : hval (p.whole ++ p.frac) = 0) :
    Calls Tryz.prog 119 #[.agg #[.bool p.neg, .string (txt p.whole), .string (txt p.frac), .bool p.down, .string (txt p.exp)]] w (NumGives w0 l 2000 false 0 0) := by
  have hb1 : Below w.heap.size w ((w.alloc (.cells #[.bool p.neg, .string (txt p.whole), .string (txt p.frac), .bool p.down, .string (txt p.exp)] 138)).alloc (.cells #[.bool false, .slice none 0 0, .int .i64 0] 24)) := ((Below.refl _ _).alloc (Nat.le_refl _) _).alloc (by simp) _
  have h1 := h.step hb1
  have hW := Lib.hid h.below.size
  have hlw : (p.whole ++ p.frac).length ≤ 2000 := by rw [List.length_append]; exact hp.len
  have K := Lib.hid (parse_c h1.again (hp.w.append hp.f) (by rw [List.length_append]; have := hp.w0; omega) 2000 hlw (Nat.le_refl _) 0 h0)
  have H1 := Lib.hid h1.below
  have hs1 : (txt p.whole).size ≤ 2000 := by rw [txt_size]; have := hp.len; omega
  have hs2 : (txt p.frac).size ≤ 2000 := by rw [txt_size]; have := hp.len; omega
  clear h h1 hb1 h0 hp hlw
  go_enter Tryz.func119, Tryz.ntmps119
  go_wp2_with fail
  rw [txt_append]
  refine K.out.mono ?_
  rintro r w1 ⟨v, rfl, h2⟩
  obtain ⟨ad, cap, rfl, _⟩ := h2.get 0 rfl
  rw [show (limbs 0).length = 0 by rw [limbs_zero]; rfl] at *
  obtain ⟨hc, hf⟩ := bcell h2.below
  have hz : w.heap.size + 1 < w1.heap.size := by have := h2.below.size; simp at this; omega
  have H2 := Lib.hid h2; clear h2
  go_wp2
  have H3 := Ctx.back H1.out H2.out
  refine bodyPost_ret (v := .agg #[.bool false, .slice none 0 0, .int .i64 0]) (by simp [results, Tryz.results119, go_sem, hc, hz]) rfl ⟨_, rfl, ?_⟩
  have H4 := H3.box3 (g := w.heap.size + 1) (Nat.le_succ_of_le hW.out) (b := false) (a := none) (n := 0) (c := 0) (x := 0) (by simp [hc]) (by simp [hc]) (by simp [hc]) (.bool false) (.slice none 0 0) (.int .i64 0)
  exact (H4.drop1).push (ent_nil _ _)
set_option maxHeartbeats 8000000 in
theorem number_wide {w0 w : World} {l : List Ent} (h : Ctx w0 w l) (p : Pt) (hp : PtOk p) (h0 : hval (p.whole ++ p.frac) ≠ 0) (h6 : 6 < (expN p).length) :
    Calls Tryz.prog 119 #[.agg #[.bool p.neg, .string (txt p.whole), .string (txt p.frac), .bool p.down, .string (txt p.exp)]] w (NumThrows w0 l) := by
  have hb1 : Below w.heap.size w ((w.alloc (.cells #[.bool p.neg, .string (txt p.whole), .string (txt p.frac), .bool p.down, .string (txt p.exp)] 138)).alloc (.cells #[.bool false, .slice none 0 0, .int .i64 0] 24)) := ((Below.refl _ _).alloc (Nat.le_refl _) _).alloc (by simp) _
  have h1 := h.step hb1
  have hW := Lib.hid h.below.size
  have hlw : (p.whole ++ p.frac).length ≤ 2000 := by rw [List.length_append]; exact hp.len
  have K := Lib.hid (parse_c h1.again (hp.w.append hp.f) (by rw [List.length_append]; have := hp.w0; omega) 2000 hlw (Nat.le_refl _) _ rfl)
  have H1 := Lib.hid h1.below
  have hs1 : (txt p.whole).size ≤ 2000 := by rw [txt_size]; have := hp.len; omega
  have hs2 : (txt p.frac).size ≤ 2000 := by rw [txt_size]; have := hp.len; omega
  have hs3 : (txt p.frac).size = p.frac.length := txt_size _
  have KT := Lib.hid (fun W => ptens_wide p W hp.x (Nat.le_trans hp.xlen (by decide)) h6)
  clear h h1 hb1 hp hlw h6
  go_enter Tryz.func119, Tryz.ntmps119
  go_wp2_with fail
  rw [txt_append]
  refine K.out.mono ?_
  rintro r w1 ⟨v, rfl, h2⟩
  generalize hval (p.whole ++ p.frac) = N at *
  have hlb : (((limbs N).length : Int) == 0) = false := by
    rw [beq_eq_false_iff_ne]
    intro h3
    exact h0 ((limbs_nil_iff N).1 (List.eq_nil_of_length_eq_zero (by omega)))
  obtain ⟨ad, cap, rfl, _⟩ := h2.get 0 rfl
  generalize (limbs N).length = n at *
  obtain ⟨hc, hf⟩ := bcell h2.below
  have hz : w.heap.size + 1 < w1.heap.size := by have := h2.below.size; simp at this; omega
  have c0 : w1.cell? ⟨w.heap.size, 0, none⟩ = some (.bool p.neg) := by rw [hc _ _ (by simp <;> omega)]; simp [World.cell?_alloc_lt]
  have c1 : w1.cell? ⟨w.heap.size, 1, none⟩ = some (.string (txt p.whole)) := by rw [hc _ _ (by simp <;> omega)]; simp [World.cell?_alloc_lt]
  have c2 : w1.cell? ⟨w.heap.size, 2, none⟩ = some (.string (txt p.frac)) := by rw [hc _ _ (by simp <;> omega)]; simp [World.cell?_alloc_lt]
  have c3 : w1.cell? ⟨w.heap.size, 3, none⟩ = some (.bool p.down) := by rw [hc _ _ (by simp <;> omega)]; simp [World.cell?_alloc_lt]
  have c4 : w1.cell? ⟨w.heap.size, 4, none⟩ = some (.string (txt p.exp)) := by rw [hc _ _ (by simp <;> omega)]; simp [World.cell?_alloc_lt]
  have hy : w.heap.size < w1.heap.size := by omega
  have hne : ¬ w.heap.size = w1.heap.size := by omega
  have H3 := Lib.hid ((Ctx.back H1.out h2).drop1)
  have hcc := Lib.hid hc
  have hff := Lib.hid hf
  clear h2 hc hf
  go_upto_region 4 with fail
  go_region_with (first | (go_at_call 160; refine (KT.out _).mono ?_; rintro r w' ⟨rfl, rfl⟩; refine by_any (by first | exact ⟨rfl, rfl, (H3.out.step (below_drew (Below.refl _ _))).step (boxP_below _ _)⟩ | exact ⟨rfl, rfl, (H3.out.step (below_drew ((Below.refl _ _).alloc (Nat.le_refl _) _))).step (boxP_below _ _)⟩) ?_))
  all_goals trivial
end Go.Proofs.YtgolidabjcmofaaGreatDoor
namespace Go.Proofs.YtgolidabjcmofaaGreatDoor
open Go.RowKit Go.Sort
set_option linter.unusedVariables false
set_option linter.unusedSimpArgs false
attribute [local go_sem ↓] Go.wp_at_zero Go.wp_at_succ
def NumCut (w0 : World) (l : List Ent) (B : Nat) (neg : Bool) (m : Nat) (e : Int) (ok : Bool) (s5 s6 : Value) (wx : World) : Prop :=
  ∃ g v, s5 = .pointer (some ⟨g, 0, none⟩) ∧ s6 = .bool ok ∧ (wx.cell? ⟨g, 0, none⟩ = some (.bool neg) ∧ wx.cell? ⟨g, 1, none⟩ = some v ∧ wx.cell? ⟨g, 2, none⟩ = some (.int .i64 e)) ∧
    Ctx w0 wx (⟨v, 2000, m, limbs m⟩ :: l) ∧ (wx.cell? ⟨B, 0, none⟩ = some (.bool false) ∧ wx.cell? ⟨B, 1, none⟩ = some (.slice none 0 0) ∧ wx.cell? ⟨B, 2, none⟩ = some (.int .i64 0)) ∧ (∀ j, wx.frozen? ⟨B, j, none⟩ = false)
theorem boxA {w1 w5 : World} {o : Obj} (h : Below (((w1.alloc (.cells #[.bool false, .slice none 0 0, .int .i64 0] 24)).alloc o).drew).heap.size (((w1.alloc (.cells #[.bool false, .slice none 0 0, .int .i64 0] 24)).alloc o).drew) w5) :
    w5.cell? ⟨w1.heap.size, 0, none⟩ = some (.bool false) ∧ w5.cell? ⟨w1.heap.size, 1, none⟩ = some (.slice none 0 0) ∧ w5.cell? ⟨w1.heap.size, 2, none⟩ = some (.int .i64 0) ∧ ∀ j, w5.frozen? ⟨w1.heap.size, j, none⟩ = false := by
  obtain ⟨h1, h2⟩ := bcell h
  refine ⟨?_, ?_, ?_, fun j => ?_⟩
  · rw [h1 _ _ (by simp <;> omega)]; simp [World.cell?_alloc_lt]
  · rw [h1 _ _ (by simp <;> omega)]; simp [World.cell?_alloc_lt]
  · rw [h1 _ _ (by simp <;> omega)]; simp [World.cell?_alloc_lt]
  · rw [h2 _ _ (by simp <;> omega)]; simp [go_sem]
theorem boxB {w1 w5 : World} {o : Obj} (h : Below (((w1.alloc o).alloc (.cells #[.bool false, .slice none 0 0, .int .i64 0] 24)).drew).heap.size (((w1.alloc o).alloc (.cells #[.bool false, .slice none 0 0, .int .i64 0] 24)).drew) w5) :
    w5.cell? ⟨w1.heap.size + 1, 0, none⟩ = some (.bool false) ∧ w5.cell? ⟨w1.heap.size + 1, 1, none⟩ = some (.slice none 0 0) ∧ w5.cell? ⟨w1.heap.size + 1, 2, none⟩ = some (.int .i64 0) ∧ ∀ j, w5.frozen? ⟨w1.heap.size + 1, j, none⟩ = false := by
  obtain ⟨h1, h2⟩ := bcell h
  refine ⟨?_, ?_, ?_, fun j => ?_⟩
  · rw [h1 _ _ (by simp)]; simp
  · rw [h1 _ _ (by simp)]; simp
  · rw [h1 _ _ (by simp)]; simp
  · rw [h2 _ _ (by simp)]; simp [go_sem]
theorem Ctx.pick {w0 W w5 : World} {l : List Ent} {a b : Ent} (hb : Below w0.heap.size w0 w5) (h5 : Ctx W w5 (a :: b :: l)) : Ctx w0 w5 (a :: l) :=
  ⟨hb, fun x hx => h5.all x (by rcases List.mem_cons.1 hx with h | h <;> simp [h])⟩
theorem cutC {w0 w5 : World} {l : List Ent} {B : Nat} {neg : Bool} {m : Nat} {e : Int} {ok : Bool} {v : Value} (h : Ctx w0 w5 (⟨v, 2000, m, limbs m⟩ :: l)) (b0 : w5.cell? ⟨B, 0, none⟩ = some (.bool false)) (b1 : w5.cell? ⟨B, 1, none⟩ = some (.slice none 0 0)) (b2 : w5.cell? ⟨B, 2, none⟩ = some (.int .i64 0)) (bf : ∀ j, w5.frozen? ⟨B, j, none⟩ = false) (hB : B < w5.heap.size) :
    NumCut w0 l B neg m e ok (.pointer (some ⟨w5.heap.size, 0, none⟩)) (.bool ok) (w5.alloc (.cells #[.bool neg, v, .int .i64 e] 24)) := by
  have hb : Below w5.heap.size w5 (w5.alloc (.cells #[.bool neg, v, .int .i64 e] 24)) := (Below.refl _ _).alloc (Nat.le_refl _) _
  exact ⟨w5.heap.size, v, rfl, rfl, ⟨by simp, by simp, by simp⟩, h.step hb, ⟨(hb.cell (p := ⟨B, 0, none⟩) hB).trans b0, (hb.cell (p := ⟨B, 1, none⟩) hB).trans b1, (hb.cell (p := ⟨B, 2, none⟩) hB).trans b2⟩, fun j => (hb.frozen (p := ⟨B, j, none⟩) hB).trans (bf j)⟩
theorem cutS {w0 w5 : World} {l : List Ent} {B g : Nat} {neg : Bool} {m : Nat} {e : Int} {ok : Bool} {v : Value} (h : Ctx w0 w5 (⟨v, 2000, m, limbs m⟩ :: l)) (hg : w0.heap.size ≤ g) (hne : g ≠ B) (r0 : w5.cell? ⟨g, 0, none⟩ = some (.bool false)) (r1 : w5.cell? ⟨g, 1, none⟩ = some (.slice none 0 0)) (r2 : w5.cell? ⟨g, 2, none⟩ = some (.int .i64 0))
    (b0 : w5.cell? ⟨B, 0, none⟩ = some (.bool false)) (b1 : w5.cell? ⟨B, 1, none⟩ = some (.slice none 0 0)) (b2 : w5.cell? ⟨B, 2, none⟩ = some (.int .i64 0)) (bf : ∀ j, w5.frozen? ⟨B, j, none⟩ = false) :
    NumCut w0 l B neg m e ok (.pointer (some ⟨g, 0, none⟩)) (.bool ok) (((w5.setCell ⟨g, 0, none⟩ (.bool neg)).setCell ⟨g, 1, none⟩ v).setCell ⟨g, 2, none⟩ (.int .i64 e)) := by
  have ho : ∀ j, (((w5.setCell ⟨g, 0, none⟩ (.bool neg)).setCell ⟨g, 1, none⟩ v).setCell ⟨g, 2, none⟩ (.int .i64 e)).cell? ⟨B, j, none⟩ = w5.cell? ⟨B, j, none⟩ := fun j => by
    rw [World.cell?_setCell_other (h := by simp [hne]), World.cell?_setCell_other (h := by simp [hne]), World.cell?_setCell_other (h := by simp [hne])]
  have d1 : (w5.setCell ⟨g, 0, none⟩ (.bool neg)).cell? ⟨g, 1, none⟩ = some (.slice none 0 0) := by rw [World.cell?_setCell_other (h := by simp)]; exact r1
  have d2 : ((w5.setCell ⟨g, 0, none⟩ (.bool neg)).setCell ⟨g, 1, none⟩ v).cell? ⟨g, 2, none⟩ = some (.int .i64 0) := by rw [World.cell?_setCell_other (h := by simp), World.cell?_setCell_other (h := by simp)]; exact r2
  refine ⟨g, v, rfl, rfl, ⟨?_, ?_, ?_⟩, h.box3 hg r0 r1 r2 _ _ _, ⟨(ho 0).trans b0, (ho 1).trans b1, (ho 2).trans b2⟩, fun j => ?_⟩
  · rw [World.cell?_setCell_other (h := by simp), World.cell?_setCell_other (h := by simp)]; exact World.cell?_setCell_same _ _ _ r0
  · rw [World.cell?_setCell_other (h := by simp)]; exact World.cell?_setCell_same _ _ _ d1
  · exact World.cell?_setCell_same _ _ _ d2
  · simp only [World.frozen?_setCell]; exact bf j
def MakeAt (l : List Ent) (v : Value) (neg : Bool) (x : Int) (neg' : Bool) (m : Nat) (e : Int) (ok : Bool) : Prop :=
  ∀ (w0 w : World), Ctx w0 w l → Calls Tryz.prog 159 #[.bool neg, v, .int .i64 x] w (MadePost w0 l 2000 neg' m e ok)
set_option maxHeartbeats 8000000 in
theorem number_core {w0 w : World} {l : List Ent} (h : Ctx w0 w l) (p : Pt) (hp : PtOk p) (h0 : hval (p.whole ++ p.frac) ≠ 0) (h6 : (expN p).length ≤ 6) (hlo : -1000000 ≤ expV p ∧ expV p ≤ 1000000)
    (neg : Bool) (m : Nat) (e : Int) (ok : Bool) (hM : ∀ v, MakeAt (⟨v, 2000, hval (p.whole ++ p.frac), limbs (hval (p.whole ++ p.frac))⟩ :: l) v p.neg (expV p - (p.frac.length : Int)) neg m e ok)
    (Q : Ending → World → Prop) (hQ : ∀ v w', ok = true → Ctx w0 w' (⟨v, 2000, m, limbs m⟩ :: l) → Q (.returned (.agg #[.bool neg, v, .int .i64 e])) w')
    (hQ2 : ∀ w', ok = false → Ctx w0 w' l → Q (.panicked [{ v := .iface 31 (.int .i64 4), recovered := false }]) w') :
    Calls Tryz.prog 119 #[.agg #[.bool p.neg, .string (txt p.whole), .string (txt p.frac), .bool p.down, .string (txt p.exp)]] w Q := by
  have hb1 : Below w.heap.size w ((w.alloc (.cells #[.bool p.neg, .string (txt p.whole), .string (txt p.frac), .bool p.down, .string (txt p.exp)] 138)).alloc (.cells #[.bool false, .slice none 0 0, .int .i64 0] 24)) := ((Below.refl _ _).alloc (Nat.le_refl _) _).alloc (by simp) _
  have h1 := h.step hb1
  have hW := Lib.hid h.below.size
  have hlw : (p.whole ++ p.frac).length ≤ 2000 := by rw [List.length_append]; exact hp.len
  have K := Lib.hid (parse_c h1.again (hp.w.append hp.f) (by rw [List.length_append]; have := hp.w0; omega) 2000 hlw (Nat.le_refl _) _ rfl)
  have H1 := Lib.hid h1.below
  have hs1 : (txt p.whole).size ≤ 2000 := by rw [txt_size]; have := hp.len; omega
  have hs2 : (txt p.frac).size ≤ 2000 := by rw [txt_size]; have := hp.len; omega
  have hs3 : (txt p.frac).size = p.frac.length := txt_size _
  have hfl : p.frac.length ≤ 2000 := by have := hp.len; omega
  have KT0 : ∀ W, Calls Tryz.prog 160 #[.agg #[.bool p.neg, .string (txt p.whole), .string (txt p.frac), .bool p.down, .string (txt p.exp)]] W fun e w' => e = .returned (.int .i64 (expV p)) ∧ w' = W.alloc (.cells #[.bool p.neg, .string (txt p.whole), .string (txt p.frac), .bool p.down, .string (txt p.exp)] 138) := fun W => ptens_any p W hp.x h6
  have KT := Lib.hid KT0
  have HM := Lib.hid hM
  have HQ := Lib.hid hQ
  have HQ2 := Lib.hid hQ2
  clear h h1 hb1 hp hlw h6 hM hQ hQ2 KT0
  go_enter Tryz.func119, Tryz.ntmps119
  go_wp2_with fail
  rw [txt_append]
  refine K.out.mono ?_
  rintro r w1 ⟨v, rfl, h2⟩
  have KM := Lib.hid (HM.out v); clear HM
  generalize hval (p.whole ++ p.frac) = N at *
  have hlb : (((limbs N).length : Int) == 0) = false := by
    rw [beq_eq_false_iff_ne]
    intro h3
    exact h0 ((limbs_nil_iff N).1 (List.eq_nil_of_length_eq_zero (by omega)))
  have H3 := Lib.hid (Ctx.back H1.out h2)
  obtain ⟨ad, cap, rfl, _⟩ := h2.get 0 rfl
  generalize (limbs N).length = n at *
  obtain ⟨hc, hf⟩ := bcell h2.below
  have hz : w.heap.size + 1 < w1.heap.size := by have := h2.below.size; simp at this; omega
  have c0 : w1.cell? ⟨w.heap.size, 0, none⟩ = some (.bool p.neg) := by rw [hc _ _ (by simp <;> omega)]; simp [World.cell?_alloc_lt]
  have c1 : w1.cell? ⟨w.heap.size, 1, none⟩ = some (.string (txt p.whole)) := by rw [hc _ _ (by simp <;> omega)]; simp [World.cell?_alloc_lt]
  have c2 : w1.cell? ⟨w.heap.size, 2, none⟩ = some (.string (txt p.frac)) := by rw [hc _ _ (by simp <;> omega)]; simp [World.cell?_alloc_lt]
  have c3 : w1.cell? ⟨w.heap.size, 3, none⟩ = some (.bool p.down) := by rw [hc _ _ (by simp <;> omega)]; simp [World.cell?_alloc_lt]
  have c4 : w1.cell? ⟨w.heap.size, 4, none⟩ = some (.string (txt p.exp)) := by rw [hc _ _ (by simp <;> omega)]; simp [World.cell?_alloc_lt]
  have b0 : w1.cell? ⟨w.heap.size + 1, 0, none⟩ = some (.bool false) := by rw [hc _ _ (by simp <;> omega)]; simp
  have b1 : w1.cell? ⟨w.heap.size + 1, 1, none⟩ = some (.slice none 0 0) := by rw [hc _ _ (by simp <;> omega)]; simp
  have b2 : w1.cell? ⟨w.heap.size + 1, 2, none⟩ = some (.int .i64 0) := by rw [hc _ _ (by simp <;> omega)]; simp
  have bf : ∀ j, w1.frozen? ⟨w.heap.size + 1, j, none⟩ = false := fun j => by rw [hf _ _ (by simp <;> omega)]; simp [go_sem]
  have hy : w.heap.size < w1.heap.size := by omega
  have B0 := Lib.hid b0
  have B1 := Lib.hid b1
  have B2 := Lib.hid b2
  have BF := Lib.hid bf
  clear h2 hc hf b0 b1 b2 bf
  have n0 := World.new_ne w1 _ c0
  have hne1 : ¬ w.heap.size = w1.heap.size := by omega
  have hne2 : ¬ w.heap.size = w1.heap.size + 1 := by omega
  have hne3 : ¬ w1.heap.size = w.heap.size := by omega
  have hne4 : ¬ w1.heap.size + 1 = w.heap.size := by omega
  have hwr : IntKind.i64.wrap (expV p - (p.frac.length : Int)) = expV p - (p.frac.length : Int) := IntWalk.i64_in _ (by omega)
  go_upto_region 4 with fail
  go_cut [5, 6] (fun s5 s6 wx => NumCut w0 l (w.heap.size + 1) neg m e ok s5 s6 wx)
  case first =>
    go_region_held3 (fun w' => w'.cell? ⟨w.heap.size, 0, none⟩ = some (.bool p.neg) ∧ w'.cell? ⟨w.heap.size, 1, none⟩ = some (.string (txt p.whole)) ∧ w'.cell? ⟨w.heap.size, 2, none⟩ = some (.string (txt p.frac)) ∧ w'.cell? ⟨w.heap.size, 3, none⟩ = some (.bool p.down) ∧ w'.cell? ⟨w.heap.size, 4, none⟩ = some (.string (txt p.exp))) (go_keep)
      (first | (go_at_call 160; refine (KT.out _).mono ?_; rintro r w' ⟨rfl, rfl⟩) | (go_at_call 159; refine (KM.out _ _ (by exact (H3.out.step (by first | exact below_drew ((Below.refl _ _).alloc (Nat.le_refl _) _) | exact below_drew (((Below.refl _ _).alloc (Nat.le_refl _) _).alloc (by simp) _))).again)).mono ?_; rintro r w5 ⟨v5, rfl, h5⟩; obtain ⟨ad5, cap5, rfl, _⟩ := h5.get 0 rfl; have hbW : Below w1.heap.size w1 w5 := below_on (by first | exact below_drew ((Below.refl _ _).alloc (Nat.le_refl _) _) | exact below_drew (((Below.refl _ _).alloc (Nat.le_refl _) _).alloc (by simp) _)) h5.below; have q0 := (hbW.cell (p := ⟨w.heap.size, 0, none⟩) hy).trans c0; have q1 := (hbW.cell (p := ⟨w.heap.size, 1, none⟩) hy).trans c1; have q2 := (hbW.cell (p := ⟨w.heap.size, 2, none⟩) hy).trans c2; have q3 := (hbW.cell (p := ⟨w.heap.size, 3, none⟩) hy).trans c3; have q4 := (hbW.cell (p := ⟨w.heap.size, 4, none⟩) hy).trans c4; have e5 := World.new_ne w5 _ q0; have hb5 := bcell h5.below; have hz5 : w1.heap.size < w5.heap.size := (by have h := h5.below.size; simp at h; omega); have hne5 : ¬ w.heap.size = w5.heap.size := (by omega); have hne6 : ¬ w5.heap.size = w.heap.size := (by omega); have H5 := Lib.hid h5; clear h5; (first | (refine And.elim ?_ (boxA H5.out.below); rintro r0 ⟨r1, r2, rf⟩) | (refine And.elim ?_ (boxB H5.out.below); rintro r0 ⟨r1, r2, rf⟩) | skip)))
    all_goals
      have hbw5 := below_on H3.out.below hbW
      have ctx5 := Ctx.pick hbw5 H5.out
      have hw1 := H3.out.below.size
      have k0 := (hbW.cell (p := ⟨w.heap.size + 1, 0, none⟩) hz).trans B0.out
      have k1 := (hbW.cell (p := ⟨w.heap.size + 1, 1, none⟩) hz).trans B1.out
      have k2 := (hbW.cell (p := ⟨w.heap.size + 1, 2, none⟩) hz).trans B2.out
      have kf : ∀ j, w5.frozen? ⟨w.heap.size + 1, j, none⟩ = false := fun j => (hbW.frozen (p := ⟨w.heap.size + 1, j, none⟩) hz).trans (BF.out j)
      have HA := Lib.hid (cutC (neg := neg) (e := e) (ok := ok) (v := .slice ad5 (limbs m).length cap5) ctx5 k0 k1 k2 kf (by omega))
      have HS := Lib.hid (fun g (hg : w0.heap.size ≤ g) (hne : g ≠ w.heap.size + 1) r0 r1 r2 => cutS (neg := neg) (e := e) (ok := ok) (v := .slice ad5 (limbs m).length cap5) (g := g) ctx5 hg hne r0 r1 r2 k0 k1 k2 kf)
      clear k0 k1 k2 kf ctx5 hbw5
      go_wp2_with fail
      go_meet
      first
        | exact HA.out
        | exact HS.out _ hw1 (by omega) r0 r1 r2
        | exact HS.out _ (Nat.le_succ_of_le hw1) (by omega) r0 r1 r2
  case rest =>
    obtain ⟨g, v, rfl, rfl, ⟨g0, g1, g2⟩, hctx, ⟨b0, b1, b2⟩, bf⟩ := hcut
    obtain ⟨adv, capv, rfl, _⟩ := hctx.get 0 rfl
    have hCT := Lib.hid hctx; clear hctx
    have bf0 := bf 0
    have bf1 := bf 1
    have bf2 := bf 2
    cases ok
    · have hdrop := Lib.hid (HQ2.out wc (by first | rfl | trivial) hCT.out.drop1)
      go_wp2
      exact ⟨rfl, hdrop.out⟩
    · have hbx := Lib.hid (hCT.out.box3 (g := w.heap.size + 1) (Nat.le_succ_of_le hW.out) b0 b1 b2 (.bool neg) (.slice adv (limbs m).length capv) (.int .i64 e))
      go_wp2
      exact bodyPost_ret (v := .agg #[.bool neg, .slice adv (limbs m).length capv, .int .i64 e]) (by simp [results, Tryz.results119, go_sem, b0, b1, b2]) rfl (HQ.out _ _ (by first | rfl | trivial) hbx.out)
end Go.Proofs.YtgolidabjcmofaaGreatDoor
namespace Go.Proofs.YtgolidabjcmofaaGreatDoor
open Go.RowKit Go.Sort
set_option linter.unusedVariables false
set_option linter.unusedSimpArgs false
theorem number_some {w0 w : World} {l : List Ent} (h : Ctx w0 w l) (p : Pt) (hp : PtOk p) {neg : Bool} {m : Nat} {e : Int} (hn : numberL p = some (neg, m, e)) :
    Calls Tryz.prog 119 #[.agg #[.bool p.neg, .string (txt p.whole), .string (txt p.frac), .bool p.down, .string (txt p.exp)]] w (NumGives w0 l 2000 neg m e) := by
  unfold numberL at hn
  split at hn
  · rename_i h0
    simp only [Option.some.injEq, Prod.mk.injEq] at hn
    obtain ⟨rfl, rfl, rfl⟩ := hn
    exact number_zero h p hp h0
  · rename_i h0
    split at hn
    · cases hn
    · rename_i h6
      split at hn
      · rename_i hr
        simp only [Option.some.injEq, Prod.mk.injEq] at hn
        obtain ⟨rfl, rfl, rfl⟩ := hn
        have hb := expV_bd (p := p) (by omega) hp.x
        obtain ⟨s1, s2⟩ := trim_spec h0
        refine number_core h p hp h0 (by omega) hb _ _ _ true (fun v w0 w hc => ?_) _ (fun v w' _ hc => ⟨v, rfl, hc⟩) (fun _ hh _ => by cases hh)
        exact make_yes hc 0 rfl (by decide) p.neg _ _ _ s1 s2 hr.1 hr.2.1 hr.2.2
      · cases hn
theorem number_none {w0 w : World} {l : List Ent} (h : Ctx w0 w l) (p : Pt) (hp : PtOk p) (hn : numberL p = none) :
    Calls Tryz.prog 119 #[.agg #[.bool p.neg, .string (txt p.whole), .string (txt p.frac), .bool p.down, .string (txt p.exp)]] w (NumThrows w0 l) := by
  unfold numberL at hn
  split at hn
  · cases hn
  · rename_i h0
    split at hn
    · rename_i h6
      exact number_wide h p hp h0 h6
    · rename_i h6
      split at hn
      · cases hn
      · rename_i hr
        have hb := expV_bd (p := p) (by omega) hp.x
        obtain ⟨s1, s2⟩ := trim_spec h0
        refine number_core h p hp h0 (by omega) hb false 0 0 false (fun v w0 w hc => ?_) _ (fun _ _ hh _ => by cases hh) (fun w' _ hc => ⟨rfl, hc⟩)
        exact make_no hc 0 rfl (by decide) p.neg _ _ _ s1 s2 hr (by have := hp.len; omega)
theorem assert_errno (x : Int) (W : World) : (Instr.typeAssert (.iface 31 (.int .i64 x)) 20 31 false).run Tryz.prog W = .ok (.int .i64 x) W := by kernel_rfl
theorem catch_thrown (g h : Nat) (b0 : Bool) (v1 : Value) (i2 i3 x : Int) (older : List PanicEntry) (w : World) (hne : g ≠ h)
    (c0 : w.cell? ⟨g, 0, none⟩ = some (.bool b0)) (c1 : w.cell? ⟨g, 1, none⟩ = some v1) (c2 : w.cell? ⟨g, 2, none⟩ = some (.int .i64 i2)) (c3 : w.cell? ⟨h, 0, none⟩ = some (.int .i64 i3))
    (f0 : ∀ j, w.frozen? ⟨g, j, none⟩ = false) (f1 : ∀ j, w.frozen? ⟨h, j, none⟩ = false) :
    CallsD Tryz.prog 117 #[.pointer (some ⟨g, 0, none⟩), .pointer (some ⟨h, 0, none⟩)] (.panicking ({ v := .iface 31 (.int .i64 x), recovered := false } :: older)) w fun e u' w' =>
      e = .returned (.tuple #[]) ∧ u' = .panicking ({ v := .iface 31 (.int .i64 x), recovered := true } :: older) ∧
        w' = ((((w.setCell ⟨g, 0, none⟩ (.bool false)).setCell ⟨g, 1, none⟩ (.slice none 0 0)).setCell ⟨g, 2, none⟩ (.int .i64 0)).setCell ⟨h, 0, none⟩ (.int .i64 x)).drew := by
  refine callsD_of_wpS Tryz.func117 rfl fun c₀ cs hu => ?_
  apply wpS_seq
  apply wpS_region
  simp [wpOpsS, go_sem, recoverD, hu, Tryz.ntmps117, Exit.thenS]
  apply wpS_seq
  apply wpS_region
  simp [wpOpsS, go_sem, Exit.thenS]
  refine wpS_cond (t := true) (by simp [Act.eval, Array.replicate]) ?_
  simp only [if_true]
  refine wpS_of_wp ?_
  change Code.wp _ _ _ { tmps := #[.pointer (some ⟨g, 0, none⟩), .pointer (some ⟨h, 0, none⟩), .iface 31 (.int .i64 x), .iface 31 (.int .i64 x), .iface 31 (.int .i64 x), .bool true, undef, undef, undef], defers := [] } w
  have hne2 : ¬ h = g := fun hh => hne hh.symm
  have f00 := f0 0
  have f01 := f0 1
  have f02 := f0 2
  have f10 := f1 0
  clear f0 f1
  have hta := assert_errno x
  go_region
  exact ⟨rfl, _, rfl, .tuple #[], by simp [results, Tryz.results117, go_sem], rfl, rfl, rfl⟩
theorem catch_idle (p q : Addr) (w : World) :
    CallsD Tryz.prog 117 #[.pointer (some p), .pointer (some q)] .returning w fun e u' w' => e = .returned (.tuple #[]) ∧ u' = .returning ∧ w' = w := by
  refine callsD_of_wpS Tryz.func117 rfl fun c₀ cs hu => ?_
  apply wpS_seq
  apply wpS_region
  simp [wpOpsS, go_sem, recoverD, hu, Tryz.ntmps117, Exit.thenS]
  apply wpS_seq
  apply wpS_region
  simp [wpOpsS, go_sem, Exit.thenS]
  refine wpS_cond (t := false) (by simp [Act.eval, Array.replicate]) ?_
  simp only [Bool.false_eq_true, if_false]
  refine wpS_of_wp (wp_skip ?_)
  cases c₀
  simp_all [bodyPostS, results, Tryz.results117]
def ParsedPost (w0 : World) (l0 : List Ent) : (Bool × Nat × Int) ⊕ Int → Ending → World → Prop
  | .inl (neg, m, e), r, w' => ∃ v, r = .returned (.tuple #[.agg #[.bool neg, v, .int .i64 e], .int .i64 0]) ∧ Ctx w0 w' (⟨v, 2000, m, limbs m⟩ :: l0)
  | .inr n, r, w' => r = .returned (.tuple #[.agg #[.bool false, .slice none 0 0, .int .i64 0], .int .i64 n]) ∧ Ctx w0 w' l0
set_option maxHeartbeats 4000000 in
theorem numParse_long {w0 w : World} {l0 : List Ent} (h : Ctx w0 w l0) (l : List Nat) (hl : 2000 < l.length) :
    Calls Tryz.prog 74 #[.string (txt l)] w (ParsedPost w0 l0 (.inr 4)) := by
  have hmf : ∀ (fn : Fn) (first cap : Array Value) (w : World), (Instr.makeFunc fn first cap).run Tryz.prog w = .ok (.func fn first cap) w := fun _ _ _ _ => rfl
  have hsz : (txt l).size = l.length := txt_size l
  have hl' : (2000 : Int) < (l.length : Int) := by omega
  go_enter_defers Tryz.func74, Tryz.ntmps74
  go_wp2
  have hctx := h.step (((Below.refl w.heap.size w).alloc (Nat.le_refl _) (.cells #[.bool false, .slice none 0 0, .int .i64 0] 24)).alloc (by simp) (.cells #[.int .i64 0] 31))
  have hW := h.below.size
  refine leaves_cons (f := 117) (args := #[.pointer (some ⟨w.heap.size, 0, none⟩), .pointer (some ⟨w.heap.size + 1, 0, none⟩)]) (by simp) (by simp [go_sem]) ?_
  refine (catch_thrown w.heap.size (w.heap.size + 1) false (.slice none 0 0) 0 0 4 [] _ (by omega) (by simp [World.cell?_alloc_lt]) (by simp [World.cell?_alloc_lt]) (by simp [World.cell?_alloc_lt]) (by simp) (fun j => by simp [go_sem]) (fun j => by simp [go_sem])).mono ?_
  rintro e u' w'' ⟨rfl, rfl, rfl⟩
  simp [Leaves, settle, results, Tryz.results74, go_sem]
  exact ⟨rfl, (h.step (((Below.refl w.heap.size w).alloc (Nat.le_refl _) _).alloc (by simp) _)).drewN 1⟩
theorem Ctx.thrown {w0 w W : World} {l0 : List Ent} (h : Ctx w0 W l0) (hW : w0.heap.size ≤ w.heap.size)
    (c0 : W.cell? ⟨w.heap.size, 0, none⟩ = some (.bool false)) (c1 : W.cell? ⟨w.heap.size, 1, none⟩ = some (.slice none 0 0)) (c2 : W.cell? ⟨w.heap.size, 2, none⟩ = some (.int .i64 0)) (c3 : W.cell? ⟨w.heap.size + 1, 0, none⟩ = some (.int .i64 0)) (x : Int) :
    Ctx w0 ((((W.setCell ⟨w.heap.size, 0, none⟩ (.bool false)).setCell ⟨w.heap.size, 1, none⟩ (.slice none 0 0)).setCell ⟨w.heap.size, 2, none⟩ (.int .i64 0)).setCell ⟨w.heap.size + 1, 0, none⟩ (.int .i64 x)).drew l0 := by
  have h2 := h.box3 hW c0 c1 c2 (.bool false) (.slice none 0 0) (.int .i64 0)
  have d : (((W.setCell ⟨w.heap.size, 0, none⟩ (.bool false)).setCell ⟨w.heap.size, 1, none⟩ (.slice none 0 0)).setCell ⟨w.heap.size, 2, none⟩ (.int .i64 0)).cell? ⟨w.heap.size + 1, 0, none⟩ = some (.int .i64 0) := by
    rw [World.cell?_setCell_other (h := by simp), World.cell?_setCell_other (h := by simp), World.cell?_setCell_other (h := by simp)]; exact c3
  exact (h2.setBox (by omega) d (fun _ => by simp) _).drewN 1
set_option maxHeartbeats 4000000 in
theorem numParse_bad {w0 w : World} {l0 : List Ent} (h : Ctx w0 w l0) (l : List Nat) (ho : Okb l) (hl : l.length ≤ 2000) (hr : readL l = none) :
    Calls Tryz.prog 74 #[.string (txt l)] w (ParsedPost w0 l0 (.inr 2)) := by
  have hmf : ∀ (fn : Fn) (first cap : Array Value) (w : World), (Instr.makeFunc fn first cap).run Tryz.prog w = .ok (.func fn first cap) w := fun _ _ _ _ => rfl
  have hsz : (txt l).size = l.length := txt_size l
  have hl' : ¬ (2000 : Int) < (l.length : Int) := by omega
  have hb0 : Below w.heap.size w ((w.alloc (.cells #[.bool false, .slice none 0 0, .int .i64 0] 24)).alloc (.cells #[.int .i64 0] 31)) := (((Below.refl w.heap.size w).alloc (Nat.le_refl _) _).alloc (by simp) _)
  have hctx := Lib.hid (h.step hb0)
  have hW := h.below.size
  have KR := Lib.hid (fun W => read_any l W ho hl)
  have HR := Lib.hid hr
  clear h hr hb0
  go_enter_defers Tryz.func74, Tryz.ntmps74
  go_wp2_with fail
  refine (KR.out _).mono ?_
  rintro r w1 (⟨_, rfl, hb⟩ | ⟨p, hp, _⟩)
  · obtain ⟨hc, hf⟩ := bcell hb
    have c0 : w1.cell? ⟨w.heap.size, 0, none⟩ = some (.bool false) := by rw [hc _ _ (by simp <;> omega)]; simp [World.cell?_alloc_lt]
    have c1 : w1.cell? ⟨w.heap.size, 1, none⟩ = some (.slice none 0 0) := by rw [hc _ _ (by simp <;> omega)]; simp [World.cell?_alloc_lt]
    have c2 : w1.cell? ⟨w.heap.size, 2, none⟩ = some (.int .i64 0) := by rw [hc _ _ (by simp <;> omega)]; simp [World.cell?_alloc_lt]
    have c3 : w1.cell? ⟨w.heap.size + 1, 0, none⟩ = some (.int .i64 0) := by rw [hc _ _ (by simp <;> omega)]; simp
    have f0 : ∀ j, w1.frozen? ⟨w.heap.size, j, none⟩ = false := fun j => by rw [hf _ _ (by simp <;> omega)]; simp [go_sem]
    have f1 : ∀ j, w1.frozen? ⟨w.heap.size + 1, j, none⟩ = false := fun j => by rw [hf _ _ (by simp <;> omega)]; simp [go_sem]
    have hfin := Lib.hid ((hctx.out.step hb).thrown hW c0 c1 c2 c3 2)
    clear hc hf
    go_wp2
    refine leaves_cons (f := 117) (args := #[.pointer (some ⟨w.heap.size, 0, none⟩), .pointer (some ⟨w.heap.size + 1, 0, none⟩)]) (by simp) (by simp [go_sem]) ?_
    refine (catch_thrown w.heap.size (w.heap.size + 1) false (.slice none 0 0) 0 0 2 [] _ (by omega) c0 c1 c2 c3 f0 f1).mono ?_
    rintro e u' w'' ⟨rfl, rfl, rfl⟩
    simp [Leaves, settle, results, Tryz.results74, go_sem, c0, c1, c2, c3]
    exact ⟨rfl, hfin.out⟩
  · rw [HR.out] at hp; cases hp
theorem ptOk_read {l : List Nat} {p : Pt} (hl : l.length ≤ 2000) (h : readL l = some p) : PtOk p := by
  have hb : ¬ wholeBad (digs (rest l 45)) := fun hb => by rw [readL_bad hb] at h; cases h
  have hw0 : 0 < (digs (rest l 45)).length := by
    rcases Nat.eq_zero_or_pos (digs (rest l 45)).length with h1 | h1
    · exact absurd (.inl (List.eq_nil_of_length_eq_zero h1)) hb
    · exact h1
  have e1 : (digs (rest l 45)).length + (undigs (rest l 45)).length = (rest l 45).length := by
    rw [← List.length_append]; exact congrArg List.length List.takeWhile_append_dropWhile
  have hl1 := rest_len l 45
  unfold readL at h
  rw [if_neg hb] at h
  generalize undigs (rest l 45) = l2 at *
  have hd := digs_ok (rest l 45)
  generalize digs (rest l 45) = D at *
  cases hf : fracL l2 with
  | none => rw [hf] at h; cases h
  | some q =>
    obtain ⟨f, l3⟩ := q
    rw [hf] at h
    simp only at h
    have hfo : Okd f ∧ f.length ≤ l2.length ∧ l3.length ≤ l2.length := by
      unfold fracL at hf
      split at hf
      · split at hf
        · cases hf
        · simp only [Option.some.injEq, Prod.mk.injEq] at hf
          obtain ⟨rfl, rfl⟩ := hf
          have := digs_len l2.tail
          have := undigs_len l2.tail
          simp at *
          exact ⟨digs_ok _, by omega, by omega⟩
      · simp only [Option.some.injEq, Prod.mk.injEq] at hf
        obtain ⟨rfl, rfl⟩ := hf
        exact ⟨Okd.nil, by simp, Nat.le_refl _⟩
    cases hx : expL l3 with
    | none => rw [hx] at h; cases h
    | some q =>
      obtain ⟨d, x, l4⟩ := q
      rw [hx] at h
      simp only at h
      have hxo : Okd x ∧ x.length ≤ l3.length := by
        unfold expL at hx
        split at hx
        · split at hx
          · cases hx
          · simp only [Option.some.injEq, Prod.mk.injEq] at hx
            obtain ⟨rfl, rfl, rfl⟩ := hx
            have h1 := digs_len (signL l3.tail)
            have h2 := sign_len l3.tail
            simp only [List.length_tail] at h2
            exact ⟨digs_ok _, by omega⟩
        · simp only [Option.some.injEq, Prod.mk.injEq] at hx
          obtain ⟨rfl, rfl, rfl⟩ := hx
          exact ⟨Okd.nil, by simp⟩
      split at h
      · simp only [Option.some.injEq] at h
        subst h
        exact ⟨hd, hw0, hfo.1, hxo.1, by simp only; omega, by simp only; omega⟩
      · cases h
set_option maxHeartbeats 4000000 in
theorem numParse_noroom {w0 w : World} {l0 : List Ent} (h : Ctx w0 w l0) (l : List Nat) (ho : Okb l) (hl : l.length ≤ 2000) (p : Pt) (hr : readL l = some p) (hn : numberL p = none) :
    Calls Tryz.prog 74 #[.string (txt l)] w (ParsedPost w0 l0 (.inr 4)) := by
  have hmf : ∀ (fn : Fn) (first cap : Array Value) (w : World), (Instr.makeFunc fn first cap).run Tryz.prog w = .ok (.func fn first cap) w := fun _ _ _ _ => rfl
  have hsz : (txt l).size = l.length := txt_size l
  have hl' : ¬ (2000 : Int) < (l.length : Int) := by omega
  have hpo := ptOk_read hl hr
  have hb0 : Below w.heap.size w ((w.alloc (.cells #[.bool false, .slice none 0 0, .int .i64 0] 24)).alloc (.cells #[.int .i64 0] 31)) := (((Below.refl w.heap.size w).alloc (Nat.le_refl _) _).alloc (by simp) _)
  have hctx := Lib.hid (h.step hb0)
  have hW := h.below.size
  have KR := Lib.hid (fun W => read_any l W ho hl)
  have KN := Lib.hid (fun (W : World) (l1 : List Ent) (hc : Ctx W W l1) => number_none hc p hpo hn)
  have HR := Lib.hid hr
  clear h hr hb0 hn
  go_enter_defers Tryz.func74, Tryz.ntmps74
  go_wp2_with fail
  refine (KR.out _).mono ?_
  rintro r w1 (⟨hp, _⟩ | ⟨p', hp, rfl, hb⟩)
  · rw [HR.out] at hp; cases hp
  · obtain rfl : p = p' := Option.some.inj (HR.out.symm.trans hp)
    have KNw := Lib.hid (KN.out w1 l0 ((hctx.out.step hb).again))
    have hcw := Lib.hid (hctx.out.step hb)
    unfold PtV
    go_wp2_with fail
    refine KNw.out.mono ?_
    rintro r w2 ⟨rfl, h2⟩
    have hb2 := below_on hb h2.below
    obtain ⟨hc, hf⟩ := bcell hb2
    have c0 : w2.cell? ⟨w.heap.size, 0, none⟩ = some (.bool false) := by rw [hc _ _ (by simp <;> omega)]; simp [World.cell?_alloc_lt]
    have c1 : w2.cell? ⟨w.heap.size, 1, none⟩ = some (.slice none 0 0) := by rw [hc _ _ (by simp <;> omega)]; simp [World.cell?_alloc_lt]
    have c2 : w2.cell? ⟨w.heap.size, 2, none⟩ = some (.int .i64 0) := by rw [hc _ _ (by simp <;> omega)]; simp [World.cell?_alloc_lt]
    have c3 : w2.cell? ⟨w.heap.size + 1, 0, none⟩ = some (.int .i64 0) := by rw [hc _ _ (by simp <;> omega)]; simp
    have f0 : ∀ j, w2.frozen? ⟨w.heap.size, j, none⟩ = false := fun j => by rw [hf _ _ (by simp <;> omega)]; simp [go_sem]
    have f1 : ∀ j, w2.frozen? ⟨w.heap.size + 1, j, none⟩ = false := fun j => by rw [hf _ _ (by simp <;> omega)]; simp [go_sem]
    have hfin := Lib.hid ((hcw.out.step h2.below).thrown hW c0 c1 c2 c3 4)
    clear hc hf hb hb2 h2 hp
    go_wp2
    refine leaves_cons (f := 117) (args := #[.pointer (some ⟨w.heap.size, 0, none⟩), .pointer (some ⟨w.heap.size + 1, 0, none⟩)]) (by simp) (by simp [go_sem]) ?_
    refine (catch_thrown w.heap.size (w.heap.size + 1) false (.slice none 0 0) 0 0 4 [] _ (by omega) c0 c1 c2 c3 f0 f1).mono ?_
    rintro e u' w'' ⟨rfl, rfl, rfl⟩
    simp [Leaves, settle, results, Tryz.results74, go_sem, c0, c1, c2, c3]
    exact ⟨rfl, hfin.out⟩
set_option maxHeartbeats 4000000 in
theorem numParse_ok {w0 w : World} {l0 : List Ent} (h : Ctx w0 w l0) (l : List Nat) (ho : Okb l) (hl : l.length ≤ 2000) (p : Pt) (hr : readL l = some p) (neg : Bool) (m : Nat) (e : Int) (hn : numberL p = some (neg, m, e)) :
    Calls Tryz.prog 74 #[.string (txt l)] w (ParsedPost w0 l0 (.inl (neg, m, e))) := by
  have hmf : ∀ (fn : Fn) (first cap : Array Value) (w : World), (Instr.makeFunc fn first cap).run Tryz.prog w = .ok (.func fn first cap) w := fun _ _ _ _ => rfl
  have hsz : (txt l).size = l.length := txt_size l
  have hl' : ¬ (2000 : Int) < (l.length : Int) := by omega
  have hpo := ptOk_read hl hr
  have hb0 : Below w.heap.size w ((w.alloc (.cells #[.bool false, .slice none 0 0, .int .i64 0] 24)).alloc (.cells #[.int .i64 0] 31)) := (((Below.refl w.heap.size w).alloc (Nat.le_refl _) _).alloc (by simp) _)
  have hctx := Lib.hid (h.step hb0)
  have hW := h.below.size
  have KR := Lib.hid (fun W => read_any l W ho hl)
  have KN := Lib.hid (fun (W : World) (l1 : List Ent) (hc : Ctx W W l1) => number_some hc p hpo hn)
  have HR := Lib.hid hr
  clear h hr hb0 hn
  go_enter_defers Tryz.func74, Tryz.ntmps74
  go_wp2_with fail
  refine (KR.out _).mono ?_
  rintro r w1 (⟨hp, _⟩ | ⟨p', hp, rfl, hb⟩)
  · rw [HR.out] at hp; cases hp
  · obtain rfl : p = p' := Option.some.inj (HR.out.symm.trans hp)
    have KNw := Lib.hid (KN.out w1 l0 ((hctx.out.step hb).again))
    have hcw := Lib.hid (hctx.out.step hb)
    unfold PtV
    go_wp2_with fail
    refine KNw.out.mono ?_
    rintro r w2 ⟨v, rfl, h2⟩
    obtain ⟨ad, cap, rfl, _⟩ := h2.get 0 rfl
    have hb2 := below_on hb h2.below
    obtain ⟨hc, hf⟩ := bcell hb2
    have c0 : w2.cell? ⟨w.heap.size, 0, none⟩ = some (.bool false) := by rw [hc _ _ (by simp <;> omega)]; simp [World.cell?_alloc_lt]
    have c1 : w2.cell? ⟨w.heap.size, 1, none⟩ = some (.slice none 0 0) := by rw [hc _ _ (by simp <;> omega)]; simp [World.cell?_alloc_lt]
    have c2 : w2.cell? ⟨w.heap.size, 2, none⟩ = some (.int .i64 0) := by rw [hc _ _ (by simp <;> omega)]; simp [World.cell?_alloc_lt]
    have c3 : w2.cell? ⟨w.heap.size + 1, 0, none⟩ = some (.int .i64 0) := by rw [hc _ _ (by simp <;> omega)]; simp
    have f0 : ∀ j, w2.frozen? ⟨w.heap.size, j, none⟩ = false := fun j => by rw [hf _ _ (by simp <;> omega)]; simp [go_sem]
    have f1 : ∀ j, w2.frozen? ⟨w.heap.size + 1, j, none⟩ = false := fun j => by rw [hf _ _ (by simp <;> omega)]; simp [go_sem]
    have hx : Ctx w0 w2 (⟨.slice ad (limbs m).length cap, 2000, m, limbs m⟩ :: l0) := ⟨below_on hcw.out.below h2.below, h2.all⟩
    have hy := hx.box3 hW c0 c1 c2 (.bool neg) (.slice ad (limbs m).length cap) (.int .i64 e)
    have d3 : (((w2.setCell ⟨w.heap.size, 0, none⟩ (.bool neg)).setCell ⟨w.heap.size, 1, none⟩ (.slice ad (limbs m).length cap)).setCell ⟨w.heap.size, 2, none⟩ (.int .i64 e)).cell? ⟨w.heap.size + 1, 0, none⟩ = some (.int .i64 0) := by
      rw [World.cell?_setCell_other (h := by simp), World.cell?_setCell_other (h := by simp), World.cell?_setCell_other (h := by simp)]; exact c3
    have hfin := Lib.hid (hy.setBox (by omega) d3 (fun _ => by simp) (.int .i64 0))
    have f00 := f0 0
    have f01 := f0 1
    have f02 := f0 2
    have f10 := f1 0
    clear hc hf hb hb2 h2 hp f0 f1 hx hy d3
    generalize (limbs m).length = n at *
    go_wp2
    refine leaves_cons (f := 117) (args := #[.pointer (some ⟨w.heap.size, 0, none⟩), .pointer (some ⟨w.heap.size + 1, 0, none⟩)]) (by simp) (by simp [go_sem]) ?_
    refine (catch_idle _ _ _).mono ?_
    rintro e u' w'' ⟨rfl, rfl, rfl⟩
    simp [Leaves, settle, results, Tryz.results74, go_sem, c0, c1, c2, c3]
    exact ⟨_, rfl, hfin.out⟩
theorem numParse_any {w0 w : World} {l0 : List Ent} (h : Ctx w0 w l0) (l : List Nat) (ho : Okb l) : Calls Tryz.prog 74 #[.string (txt l)] w (ParsedPost w0 l0 (parseN l)) := by
  unfold parseN
  split
  · rename_i hl; exact numParse_long h l hl
  · rename_i hl
    split
    · rename_i hr; exact numParse_bad h l ho (by omega) hr
    · rename_i p hr
      split
      · rename_i hn; exact numParse_noroom h l ho (by omega) p hr hn
      · rename_i r hn
        obtain ⟨neg, m, e⟩ := r
        exact numParse_ok h l ho (by omega) p hr neg m e hn
end Go.Proofs.YtgolidabjcmofaaGreatDoor
