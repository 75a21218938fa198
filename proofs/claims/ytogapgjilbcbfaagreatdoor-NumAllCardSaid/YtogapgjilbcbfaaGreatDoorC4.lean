/- The walks of num's exponentText, sizeText, Text. The walks of num's sizeText, Text. -/
import Derived.Test.YtogapgjilbcbfaaGreatDoorC3
import Derived.Test.YtogapgjilbcbfaaGreatDoorC1
import Derived.Lib.AppendIntMem
namespace Go.Proofs.YtogapgjilbcbfaaGreatDoor
open Go.RowKit Go.Sort
set_option linter.unusedVariables false
set_option linter.unusedSimpArgs false

/-- The table that strconv reads lies as the program's text lays it. -/
def TB (w : World) : Prop := Lib.TabIs Tryz.prog w "internal/strconv.uint64pow10" .u64 Lib.pow10Tab
theorem TB.below {w w' : World} (h : TB w) (hb : Below w.heap.size w w') : TB w' := Lib.tabBelow_of_tabIs h w' hb
def TxtBelow (l : List Nat) (w : World) (e : Ending) (w' : World) : Prop := e = .returned (.string (txt l)) ∧ Below w.heap.size w w'

theorem rets {a b : ByteArray} (h : a = b) : Ending.returned (.string a) = .returned (.string b) := by rw [h]
theorem itoa_any (k : Nat) (hk : k ≤ 9223372036854775807) (w : World) (h : TB w) : Calls Tryz.prog 75 #[.int .i64 (k : Int)] w (TxtBelow (dec k) w) :=
  (Tryz.strconv_Itoa (k : Int) (by omega) (by omega) w h).mono fun e w' ⟨h1, n, os, h2⟩ => ⟨by rw [h1, itoa_txt], by rw [h2]; exact Lib.below_grow _ _ (Nat.le_refl _) _ _⟩
theorem repeat_any (k : Nat) (hk : k ≤ 100000) (w : World) : Calls Tryz.prog 66 #[.string (txt [48]), .int .i64 (k : Int)] w (TxtBelow (List.replicate k 48) w) :=
  (Tryz.strings_Repeat (txt [48]) k w (by omega) (by rw [txt_size]; simp; omega)).mono fun e w' ⟨h1, h2⟩ => ⟨by rw [h1, repeat_txt], h2⟩

set_option maxHeartbeats 2000000 in
theorem exponentText_any (d : List Nat) (x : Int) (w : World) (h0 : 0 < d.length) (hd : d.length ≤ 100000) (hx : -1000000 ≤ x ∧ x ≤ 1000000) (ht : TB w) :
    Calls Tryz.prog 65 #[.string (txt d), .int .i64 x] w (TxtBelow (expTxt d x) w) := by
  have hs : (txt d).size = d.length := txt_size d
  have hlen := (dec_len_le (n := 7) (N := x.natAbs) (by omega) (by have : tenN 7 = 10000000 := by decide
                                                                   omega))
  have KI := Lib.hid (fun (k : Nat) (hk : (k : Int) = x ∨ (k : Int) = -x) => itoa_any k (by omega) w ht)
  have HT1 := Lib.hid (txt_take d 1 (by omega))
  have HT2 := Lib.hid (txt_drop d 1)
  have hc1 : ((1 : Int) ≤ (d.length : Int)) := by omega
  have HSZ := Lib.hid hs
  have HT3 : Hid (∀ (a b c : List Nat), txt a ++ (txt b ++ txt c) = txt (a ++ (b ++ c))) := fun a b c => by rw [txt_append, txt_append]
  rw [hs] at HT2
  rcases Int.lt_or_le x 0 with hneg | hneg
  · obtain ⟨k, hk⟩ : ∃ k : Nat, (k : Int) = -x := ⟨(-x).toNat, by omega⟩
    have hK := Lib.hid (KI.out k (.inr hk))
    have hka : x.natAbs = k := by omega
    rw [hka] at hlen
    have HKA := Lib.hid hka; clear hka
    have hsk : (txt (dec k)).size = (dec k).length := txt_size _
    by_cases h1 : 1 < d.length
    · have HE : Hid (expTxt d x = d.take 1 ++ ([46] ++ d.drop 1) ++ [101, 45] ++ dec k) := by
        show _ = _
        unfold expTxt; rw [if_pos h1, if_pos hneg, HKA.out]; simp
      have HKK := Lib.hid hk; clear hk
      have h1' : (1 : Int) < (d.length : Int) := by omega
      go_enter Tryz.func65, Tryz.ntmps65
      go_wp2_with fail
      rw [← HKK.out]
      refine hK.out.mono ?_
      rintro r w' ⟨rfl, hb⟩
      have HB := Lib.hid hb; clear hb
      have hse : ((txt d).extract 0 1).size ≤ d.length := by simp [ByteArray.size_extract]; omega
      have hse2 : ((txt d).extract 1 d.length).size ≤ d.length := by simp [ByteArray.size_extract]; omega
      go_wp2
      go_ret
      refine ⟨rets ?_, HB.out⟩
      rw [HT1.out, HT2.out, HE.out, ← txt_append, ← txt_append, ← txt_append, ← txt_append]
      rfl
    · have HE : Hid (expTxt d x = d.take 1 ++ [101, 45] ++ dec k) := by
        show _ = _
        unfold expTxt; rw [if_neg h1, if_pos hneg, HKA.out]; simp
      have HKK := Lib.hid hk; clear hk
      have h1' : ¬ (1 : Int) < (d.length : Int) := by omega
      go_enter Tryz.func65, Tryz.ntmps65
      go_wp2_with fail
      rw [← HKK.out]
      refine hK.out.mono ?_
      rintro r w' ⟨rfl, hb⟩
      have HB := Lib.hid hb; clear hb
      have hse : ((txt d).extract 0 1).size ≤ d.length := by simp [ByteArray.size_extract]; omega
      go_wp2
      go_ret
      refine ⟨rets ?_, HB.out⟩
      rw [HT1.out, HE.out, ← txt_append, ← txt_append]
      rfl
  · obtain ⟨k, hk⟩ : ∃ k : Nat, (k : Int) = x := ⟨x.toNat, by omega⟩
    have hK := Lib.hid (KI.out k (.inl hk))
    have hka : x.natAbs = k := by omega
    rw [hka] at hlen
    have HKA := Lib.hid hka; clear hka
    have hneg' : ¬ x < 0 := by omega
    have hsk : (txt (dec k)).size = (dec k).length := txt_size _
    by_cases h1 : 1 < d.length
    · have HE : Hid (expTxt d x = d.take 1 ++ ([46] ++ d.drop 1) ++ [101, 43] ++ dec k) := by
        show _ = _
        unfold expTxt; rw [if_pos h1, if_neg hneg', HKA.out]; simp
      subst hk
      have h1' : (1 : Int) < (d.length : Int) := by omega
      go_enter Tryz.func65, Tryz.ntmps65
      go_wp2_with fail
      refine hK.out.mono ?_
      rintro r w' ⟨rfl, hb⟩
      have HB := Lib.hid hb; clear hb
      have hse : ((txt d).extract 0 1).size ≤ d.length := by simp [ByteArray.size_extract]; omega
      have hse2 : ((txt d).extract 1 d.length).size ≤ d.length := by simp [ByteArray.size_extract]; omega
      go_wp2
      go_ret
      refine ⟨rets ?_, HB.out⟩
      rw [HT1.out, HT2.out, HE.out, ← txt_append, ← txt_append, ← txt_append, ← txt_append]
      rfl
    · have HE : Hid (expTxt d x = d.take 1 ++ [101, 43] ++ dec k) := by
        show _ = _
        unfold expTxt; rw [if_neg h1, if_neg hneg', HKA.out]; simp
      subst hk
      have h1' : ¬ (1 : Int) < (d.length : Int) := by omega
      go_enter Tryz.func65, Tryz.ntmps65
      go_wp2_with fail
      refine hK.out.mono ?_
      rintro r w' ⟨rfl, hb⟩
      have HB := Lib.hid hb; clear hb
      have hse : ((txt d).extract 0 1).size ≤ d.length := by simp [ByteArray.size_extract]; omega
      go_wp2
      go_ret
      refine ⟨rets ?_, HB.out⟩
      rw [HT1.out, HE.out, ← txt_append, ← txt_append]
      rfl
end Go.Proofs.YtogapgjilbcbfaaGreatDoor
namespace Go.Proofs.YtogapgjilbcbfaaGreatDoor
open Go.RowKit Go.Sort
set_option linter.unusedVariables false
set_option linter.unusedSimpArgs false

set_option maxHeartbeats 2000000 in
theorem sizeText_any (d : List Nat) (e : Int) (w : World) (h0 : 0 < d.length) (hd : d.length ≤ 2000) (he : -1200 ≤ e ∧ e ≤ 1200) (ht : TB w) :
    Calls Tryz.prog 43 #[.string (txt d), .int .i64 e] w (TxtBelow (sizeTxt d e) w) := by
  have hs : (txt d).size = d.length := txt_size d
  by_cases hA : (d.length : Int) + e < -5 ∨ 21 < (d.length : Int) + e
  · have K := Lib.hid (exponentText_any d ((d.length : Int) + e - 1) w h0 (by omega) (by omega) ht)
    have HE : Hid (sizeTxt d e = expTxt d ((d.length : Int) + e - 1)) := by
      show _ = _
      unfold sizeTxt; rw [if_pos hA]
    by_cases h1 : (d.length : Int) + e < -5
    · clear hA
      go_enter Tryz.func43, Tryz.ntmps43
      go_wp2_with fail
      refine K.out.mono ?_
      rintro r w' ⟨rfl, hb⟩
      have HB := Lib.hid hb; clear hb
      go_wp2
      go_ret
      exact ⟨by rw [HE.out]; rfl, HB.out⟩
    · have h2 : 21 < (d.length : Int) + e := by omega
      clear hA
      go_enter Tryz.func43, Tryz.ntmps43
      go_wp2_with fail
      refine K.out.mono ?_
      rintro r w' ⟨rfl, hb⟩
      have HB := Lib.hid hb; clear hb
      go_wp2
      go_ret
      exact ⟨by rw [HE.out]; rfl, HB.out⟩
  · have h1 : ¬ (d.length : Int) + e < -5 := by omega
    have h2 : ¬ 21 < (d.length : Int) + e := by omega
    by_cases hB : (d.length : Int) + e ≤ 0
    · obtain ⟨k, hk⟩ : ∃ k : Nat, (k : Int) = -((d.length : Int) + e) := ⟨(-((d.length : Int) + e)).toNat, by omega⟩
      have hkt : (-((d.length : Int) + e)).toNat = k := by omega
      have hkb : k ≤ 5 := by omega
      have K := Lib.hid (repeat_any k (by omega) w)
      have HE : Hid (sizeTxt d e = [48, 46] ++ List.replicate k 48 ++ d) := by
        show _ = _
        unfold sizeTxt; rw [if_neg hA, if_pos hB, hkt]
      have HK := Lib.hid hk; clear hk hkt hA
      have hsr : (txt (List.replicate k 48)).size = k := by rw [txt_size, List.length_replicate]
      go_enter Tryz.func43, Tryz.ntmps43
      go_wp2_with fail
      rw [← HK.out]
      refine K.out.mono ?_
      rintro r w' ⟨rfl, hb⟩
      have HB := Lib.hid hb; clear hb
      go_wp2
      go_ret
      refine ⟨rets ?_, HB.out⟩
      rw [HE.out, ← txt_append, ← txt_append]
      rfl
    · by_cases hC : e < 0
      · obtain ⟨k, hk⟩ : ∃ k : Nat, (k : Int) = (d.length : Int) + e := ⟨((d.length : Int) + e).toNat, by omega⟩
        have hkt : ((d.length : Int) + e).toNat = k := by omega
        have HE : Hid (sizeTxt d e = d.take k ++ [46] ++ d.drop k) := by
          show _ = _
          unfold sizeTxt; rw [if_neg hA, if_neg hB, if_pos hC, hkt]
        have HT1 := Lib.hid (txt_take d k (by omega))
        have HT2 := Lib.hid (txt_drop d k)
        rw [hs] at HT2
        have hk1 : (0 : Int) ≤ (d.length : Int) + e := by omega
        have hk2 : (d.length : Int) + e ≤ (d.length : Int) := by omega
        have HK := Lib.hid hk
        have hse : ((txt d).extract 0 k).size ≤ d.length := by simp [ByteArray.size_extract]; omega
        have hse2 : ((txt d).extract k d.length).size ≤ d.length := by simp [ByteArray.size_extract]; omega
        have HKT := Lib.hid hkt
        clear hk hA hkt
        go_enter Tryz.func43, Tryz.ntmps43
        go_wp2_with fail
        go_quiet (fail)
        go_wp2
        go_ret
        refine ⟨rets ?_, below_drewN' (Below.refl _ _) _⟩
        rw [HE.out, ← txt_append, ← txt_append, ← HT1.out, ← HT2.out]
        rw [HKT.out]
        rfl
      · obtain ⟨k, hk⟩ : ∃ k : Nat, (k : Int) = e := ⟨e.toNat, by omega⟩
        have hkt : e.toNat = k := by omega
        have K := Lib.hid (repeat_any k (by omega) w)
        have HE : Hid (sizeTxt d e = d ++ List.replicate k 48) := by
          show _ = _
          unfold sizeTxt; rw [if_neg hA, if_neg hB, if_neg hC, hkt]
        clear hkt hA
        subst hk
        have hsr : (txt (List.replicate k 48)).size = k := by rw [txt_size, List.length_replicate]
        go_enter Tryz.func43, Tryz.ntmps43
        go_wp2_with fail
        refine K.out.mono ?_
        rintro r w' ⟨rfl, hb⟩
        have HB := Lib.hid hb; clear hb
        go_wp2
        go_ret
        refine ⟨rets ?_, HB.out⟩
        rw [HE.out, ← txt_append]

set_option maxHeartbeats 4000000 in
/-- Text, at a number that is taken as it is or as 0. -/
theorem numText_core (A0 : Array Value) (na : Bool) (ad : Option Addr) (n cap : Nat) (xs : List Nat) (e : Int) (w : World)
    (ha : NumOk w na ad n cap xs e) (ht : TB w) (pa : Bool) (ta : Value) (xa : Int) (eA : A0 = #[.bool pa, ta, .int .i64 xa])
    (KA : ∀ W, Below w.heap.size w W → Calls Tryz.prog 27 #[.agg A0] W (NumBelow na (.slice ad n cap) e W)) :
    Calls Tryz.prog 20 #[.agg A0] w (TxtBelow (numTxt na (val xs) e) w) := by
  subst eA
  have hbl : Below w.heap.size w (w.alloc (.cells #[.bool pa, ta, .int .i64 xa] 24)) := (Below.refl _ _).alloc (Nat.le_refl _) _
  have HB := Lib.hid hbl
  have KA := Lib.hid (KA _ hbl)
  clear hbl
  have KD := Lib.hid (fun W (h : Below w.heap.size w W) => digits_any ad n cap xs W ha.len ha.cap (by have := ha.n90; omega) ha.ok (ha.rd.below h))
  have hdl := dec_len90 ha.ok (by have := ha.n90; have := ha.len; omega)
  have hdp := dec_pos (val xs)
  have KS := Lib.hid (fun W (h : Below w.heap.size w W) => sizeText_any (dec (val xs)) e W hdp (by omega) ha.lo (ht.below h))
  have hnv : (n = 0 ∧ val xs = 0) ∨ (n ≠ 0 ∧ val xs ≠ 0) := by
    by_cases h : n = 0
    · left
      have : xs = [] := List.eq_nil_of_length_eq_zero (by rw [ha.len]; exact h)
      subst this; exact ⟨h, rfl⟩
    · right
      refine ⟨h, fun h0 => ?_⟩
      have hx : xs ≠ [] := fun h1 => h (by rw [← ha.len, h1]; rfl)
      have := (chkB_some hx ha.chk).2.2.2.2
      rw [h0] at this; exact this rfl
  have hsl : (txt (dec (val xs))).size = (dec (val xs)).length := txt_size _
  have hlo := ha.lo
  have hsz : (sizeTxt (dec (val xs)) e).length ≤ 5000 := sizeTxt_len (by omega) hlo
  clear ha ht
  generalize val xs = N at *
  go_enter Tryz.func20, Tryz.ntmps20
  go_wp2_with fail
  refine KA.out.mono ?_
  rintro r w1 ⟨rfl, hb1⟩
  obtain ⟨hc1, hf1⟩ := bcell hb1
  have hz1 : w.heap.size < w1.heap.size := by have h := hb1.size; simp at h; omega
  have HB1 := Lib.hid hb1; clear hb1
  have hbw := ((below_on HB.out HB1.out).setCell (p := ⟨w.heap.size, 0, none⟩) (Nat.le_refl _) (.bool na)).setCell (p := ⟨w.heap.size, 1, none⟩) (Nat.le_refl _) (.slice ad n cap)
  have hbw2 := Lib.hid (hbw.setCell (p := ⟨w.heap.size, 2, none⟩) (Nat.le_refl _) (.int .i64 e)); clear hbw
  rcases hnv with ⟨rfl, rfl⟩ | ⟨hn0, hN0⟩
  · have HE : Hid (numTxt na 0 e = [48]) := rfl
    go_wp2_with fail
    go_ret
    exact ⟨by rw [HE.out]; rfl, hbw2.out⟩
  · have hnb : ((n : Int) == 0) = false := by rw [beq_eq_false_iff_ne]; omega
    have e0 : w1.cell? ⟨w.heap.size, 0, none⟩ = some (.bool pa) := by rw [hc1 _ _ (by simp)]; simp
    have e1 : w1.cell? ⟨w.heap.size, 1, none⟩ = some ta := by rw [hc1 _ _ (by simp)]; simp
    have e2 : w1.cell? ⟨w.heap.size, 2, none⟩ = some (.int .i64 xa) := by rw [hc1 _ _ (by simp)]; simp
    cases na
    · have HE : Hid (numTxt false N e = sizeTxt (dec N) e) := by
        show _ = _
        unfold numTxt; rw [if_neg hN0]; rfl
      have c1 : (((w1.setCell ⟨w.heap.size, 0, none⟩ (.bool false)).setCell ⟨w.heap.size, 1, none⟩ (.slice ad n cap)).setCell ⟨w.heap.size, 2, none⟩ (.int .i64 e)).cell? ⟨w.heap.size, 1, none⟩ = some (.slice ad n cap) := by simp [go_sem, e0, e1, e2]
      have c2 : (((w1.setCell ⟨w.heap.size, 0, none⟩ (.bool false)).setCell ⟨w.heap.size, 1, none⟩ (.slice ad n cap)).setCell ⟨w.heap.size, 2, none⟩ (.int .i64 e)).cell? ⟨w.heap.size, 2, none⟩ = some (.int .i64 e) := by simp [go_sem, e0, e1, e2]
      have C1 := Lib.hid c1
      have C2 := Lib.hid c2
      clear c1 c2
      go_wp2_with fail
      generalize (((w1.setCell ⟨w.heap.size, 0, none⟩ (.bool false)).setCell ⟨w.heap.size, 1, none⟩ (.slice ad n cap)).setCell ⟨w.heap.size, 2, none⟩ (.int .i64 e)) = W at *
      have cD : ∀ d os, Calls Tryz.prog 44 #[.slice ad n cap] (grow (redrawn W d) os) fun e w'' => e = .returned (.string (txt (dec N))) ∧ ∃ p : Regrown, w'' = grow (redrawn W p.d) p.os :=
        fun d os => Calls.regrown_of (KD.out _ (below_on hbw2.out (below_regrown W d os)))
      have cS : ∀ d os, Calls Tryz.prog 43 #[.string (txt (dec N)), .int .i64 e] (grow (redrawn W d) os) fun r w'' => r = .returned (.string (txt (sizeTxt (dec N) e))) ∧ ∃ p : Regrown, w'' = grow (redrawn W p.d) p.os :=
        fun d os => Calls.regrown_of (KS.out _ (below_on hbw2.out (below_regrown W d os)))
      have k1 := cell_regrown C1.out
      have k2 := cell_regrown C2.out
      have n1 : ¬ 9223372036854775807 < 1 + (txt (sizeTxt (dec N) e)).size := by rw [txt_size]; omega
      refine wp_region_quiet_below (by kernel_rfl) (by kernel_rfl) ?_
      repeat (quiet_step (first | with_reducible exact cD _ _ | with_reducible exact cS _ _))
      refine wpQuiet_nil ?_
      intro _ hw'
      obtain ⟨⟨dq, osq⟩, hw''⟩ := hw'
      subst hw''
      go_wp2
      go_ret
      refine ⟨rets ?_, below_on hbw2.out (below_regrown W dq osq)⟩
      rw [HE.out]
    · have HE : Hid (numTxt true N e = [45] ++ sizeTxt (dec N) e) := by
        show _ = _
        unfold numTxt; rw [if_neg hN0]; rfl
      have c1 : (((w1.setCell ⟨w.heap.size, 0, none⟩ (.bool true)).setCell ⟨w.heap.size, 1, none⟩ (.slice ad n cap)).setCell ⟨w.heap.size, 2, none⟩ (.int .i64 e)).cell? ⟨w.heap.size, 1, none⟩ = some (.slice ad n cap) := by simp [go_sem, e0, e1, e2]
      have c2 : (((w1.setCell ⟨w.heap.size, 0, none⟩ (.bool true)).setCell ⟨w.heap.size, 1, none⟩ (.slice ad n cap)).setCell ⟨w.heap.size, 2, none⟩ (.int .i64 e)).cell? ⟨w.heap.size, 2, none⟩ = some (.int .i64 e) := by simp [go_sem, e0, e1, e2]
      have C1 := Lib.hid c1
      have C2 := Lib.hid c2
      clear c1 c2
      go_wp2_with fail
      generalize (((w1.setCell ⟨w.heap.size, 0, none⟩ (.bool true)).setCell ⟨w.heap.size, 1, none⟩ (.slice ad n cap)).setCell ⟨w.heap.size, 2, none⟩ (.int .i64 e)) = W at *
      have cD : ∀ d os, Calls Tryz.prog 44 #[.slice ad n cap] (grow (redrawn W d) os) fun e w'' => e = .returned (.string (txt (dec N))) ∧ ∃ p : Regrown, w'' = grow (redrawn W p.d) p.os :=
        fun d os => Calls.regrown_of (KD.out _ (below_on hbw2.out (below_regrown W d os)))
      have cS : ∀ d os, Calls Tryz.prog 43 #[.string (txt (dec N)), .int .i64 e] (grow (redrawn W d) os) fun r w'' => r = .returned (.string (txt (sizeTxt (dec N) e))) ∧ ∃ p : Regrown, w'' = grow (redrawn W p.d) p.os :=
        fun d os => Calls.regrown_of (KS.out _ (below_on hbw2.out (below_regrown W d os)))
      have k1 := cell_regrown C1.out
      have k2 := cell_regrown C2.out
      have n1 : ¬ 9223372036854775807 < 1 + (txt (sizeTxt (dec N) e)).size := by rw [txt_size]; omega
      refine wp_region_quiet_below (by kernel_rfl) (by kernel_rfl) ?_
      repeat (quiet_step (first | with_reducible exact cD _ _ | with_reducible exact cS _ _))
      refine wpQuiet_nil ?_
      intro _ hw'
      obtain ⟨⟨dq, osq⟩, hw''⟩ := hw'
      subst hw''
      go_wp2
      go_ret
      refine ⟨rets ?_, below_on hbw2.out (below_regrown W dq osq)⟩
      rw [HE.out]
      rw [← txt_append]
      rfl
end Go.Proofs.YtogapgjilbcbfaaGreatDoor
