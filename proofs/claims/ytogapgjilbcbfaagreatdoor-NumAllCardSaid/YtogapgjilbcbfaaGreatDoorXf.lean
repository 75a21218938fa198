/- For the law NumAll: the reference's zeros, small, Text. -/
import Derived.Test.YtogapgjilbcbfaaGreatDoorXd
import Derived.Test.YtogapgjilbcbfaaGreatDoorRd
import Derived.Test.YtogapgjilbcbfaaGreatDoorC4
namespace Go.Proofs.YtogapgjilbcbfaaGreatDoor
open Go.RowKit Go.Sort
set_option linter.unusedVariables false
set_option linter.unusedSimpArgs false

def ZrRel (w : World) (k : Nat) (z i : Value) (wr : World) : Prop := ∃ j : Nat, j ≤ k ∧ i = .int .i64 (j : Int) ∧ z = .string (txt (List.replicate j 48)) ∧ Below w.heap.size w wr
set_option maxHeartbeats 4000000 in
theorem rzeros_any (k : Nat) (hk : k ≤ 100000) (w : World) : Calls Tryz.prog 46 #[.int .i64 (k : Int)] w (TxtBelow (List.replicate k 48) w) := by
  go_enter Tryz.func46, Tryz.ntmps46
  go_wp2_with fail
  go_loopw [3, 4] (fun z i wr => ZrRel w k z i wr) (fun _ i _ => k - (intOf i).toNat)
  case atStart => exact ⟨0, Nat.zero_le _, rfl, rfl, Below.refl _ _⟩
  case round =>
    obtain ⟨j, hj, rfl, rfl, hb⟩ := hrel
    have HB := Lib.hid hb; clear hb
    by_cases hjk : j < k
    · have hjk' : (j : Int) < (k : Int) := by omega
      have hsz : (txt (List.replicate j 48)).size = j := by rw [txt_size, List.length_replicate]
      go_wp2_with fail
      go_roundw
      case rel => exact ⟨j + 1, hjk, by go_num, by rw [show (ByteArray.mk #[48]) = txt [48] from rfl, txt_append, ← List.replicate_succ'], HB.out⟩
      case measure => simp [intOf]; omega
    · have hjk' : ¬ ((j : Int) < (k : Int)) := by omega
      obtain rfl : j = k := by omega
      go_wp2_with fail
      go_ret
      exact ⟨rfl, HB.out⟩
set_option maxHeartbeats 4000000 in
theorem rsmall_any (k : Nat) (hk : k < 1000000) (w : World) : Calls Tryz.prog 47 #[.int .i64 (k : Int)] w (TxtBelow (dec k) w) := by
  have hL := (Ctx.begin w).lits1 (xs := [k]) (N := k) (Okl.cons (by rw [B32_eq]; omega) Okl.nil) (by simp [val]) 1 rfl #[.int .u32 (k : Int)] rfl
  obtain ⟨a1, c1, hv, q2, q3, q4, q5, q6⟩ := hL.get 0 rfl
  simp only [Value.slice.injEq] at hv
  obtain ⟨rfl, hone, rfl⟩ := hv
  clear hone
  have K := Lib.hid (refDigits_any _ 1 1 [k] _ rfl q2 (by decide) q4 q5)
  rw [q6] at K
  have hw : IntKind.u32.wrap (k : Int) = (k : Int) := by
    rw [show IntKind.u32.wrap (k : Int) = (k : Int) % 4294967296 by simp [IntKind.wrap, IntKind.bits, IntKind.signed]]; omega
  have HL := Lib.hid hL.below
  clear hL q2 q3 q4 q5 q6
  go_enter Tryz.func47, Tryz.ntmps47
  go_wp2_with fail
  refine K.out.mono ?_
  rintro r w2 ⟨rfl, hb2⟩
  have HF := Lib.hid (below_on HL.out hb2)
  clear hb2
  go_wp2
  go_ret
  exact ⟨rfl, HF.out⟩

set_option maxHeartbeats 16000000 in
set_option maxRecDepth 100000 in
theorem rtext_core (pa : Bool) (ta : Value) (xa : Int) (ng : Bool) (ad : Option Addr) (n cap : Nat) (xs : List Nat) (e : Int) (w : World) (ha : NumOk w ng ad n cap xs e)
    (KA : ∀ W, Below w.heap.size w W → Calls Tryz.prog 31 #[.agg #[.bool pa, ta, .int .i64 xa]] W (NumBelow ng (.slice ad n cap) e W)) (hta : ∃ a b c, ta = .slice a b c) :
    Calls Tryz.prog 21 #[.agg #[.bool pa, ta, .int .i64 xa]] w (TxtBelow (numTxt ng (val xs) e) w) := by
  obtain ⟨a0, b0, c0, rfl⟩ := hta
  have hbl := below_box w #[.bool pa, .slice a0 b0 c0, .int .i64 xa] 24
  have HB := Lib.hid hbl
  have KAH := Lib.hid (KA _ hbl)
  have hlo := ha.lo
  have h90 := ha.n90
  have hxs : limbs (val xs) = xs := chkB_limbs ha.ok ha.chk
  have hn0 : n = 0 ↔ val xs = 0 := by
    rw [← ha.len, ← hxs, val_limbs]
    exact ⟨fun h => (limbs_nil_iff _).1 (List.eq_nil_of_length_eq_zero h), fun h => by rw [h, limbs_zero]; rfl⟩
  have hdl : (dec (val xs)).length ≤ 900 := dec_len90 ha.ok (by rw [ha.len]; exact h90)
  have hd1 : 0 < (dec (val xs)).length := by have := dec_pos (val xs); omega
  have KD := Lib.hid (fun W (hW : Below w.heap.size w W) => refDigits_any ad n cap xs W ha.len ha.cap (by omega) ha.ok (ha.rd.below hW))
  clear hbl KA ha
  go_enter Tryz.func21, Tryz.ntmps21
  go_wp2_with fail
  refine KAH.out.mono ?_
  rintro r w1 ⟨rfl, hb1⟩
  have hbx := below_box w1 #[.bool ng, .slice ad n cap, .int .i64 e] 24
  have HBZ := Lib.hid (below_on (below_on HB.out hb1) hbx)
  clear hb1 hbx
  go_upto_region 2 with fail
  obtain ⟨zs, z0, z1, z2⟩ := bx_new w1 ng (.slice ad n cap) e
  generalize hG : w1.heap.size = G at *
  clear hG
  generalize w1.alloc (.cells #[.bool ng, .slice ad n cap, .int .i64 e] 24) = W0 at *
  by_cases h0 : n = 0
  · have HT := Lib.hid (show numTxt ng (val xs) e = [48] from by unfold numTxt; rw [if_pos (hn0.1 h0)])
    have hz : ((n : Int) == 0) = true := by rw [h0]; rfl
    clear h0 hn0
    go_wp2_with fail
    go_ret
    exact ⟨by rw [HT.out]; rfl, HBZ.out⟩
  · have hz : ((n : Int) == 0) = false := by rw [beq_eq_false_iff_ne]; omega
    have HT := Lib.hid (show numTxt ng (val xs) e = signT ng ++ sizeTxt (dec (val xs)) e from by unfold numTxt signT; rw [if_neg (fun h => h0 (hn0.2 h))])
    clear h0 hn0 hxs
    go_upto_if 15 with fail
    go_cut [4] (fun s wx => s = .string (txt (signT ng)) ∧ wx = W0)
    case first => cases ng <;> (go_wp2_with fail; go_meet; exact ⟨rfl, rfl⟩)
    case rest =>
      obtain ⟨rfl, rfl⟩ := hcut
      have hsS : (txt (signT ng)).size ≤ 1 := by rw [txt_size]; unfold signT; split <;> simp
      go_wp2_with fail
      refine (KD.out _ HBZ.out).mono ?_
      rintro r w2 ⟨rfl, hb2⟩
      have x1 := (hb2.cell (p := ⟨G, 0, none⟩) zs).trans z0
      have x2 := (hb2.cell (p := ⟨G, 1, none⟩) zs).trans z1
      have x3 := (hb2.cell (p := ⟨G, 2, none⟩) zs).trans z2
      have HB2 := Lib.hid (below_on HBZ.out hb2)
      clear hb2 z0 z1 z2 HBZ
      generalize hD : dec (val xs) = D at *
      clear hD
      have hsD : (txt D).size = D.length := txt_size D
      have hSD : (D.length : Int) ≤ 900 := by omega
      generalize hL : D.length = L at *
      have HL := Lib.hid hL; clear hL
      obtain ⟨p, hp⟩ : ∃ p, (L : Int) + e = p := ⟨_, rfl⟩
      have HZT : Hid (sizeTxt D e = if p < -5 ∨ 21 < p then expTxt D (p - 1) else if p ≤ 0 then [48, 46] ++ List.replicate (-p).toNat 48 ++ D else if e < 0 then D.take p.toNat ++ [46] ++ D.drop p.toNat else D ++ List.replicate e.toNat 48) := by
        show _ = _
        unfold sizeTxt; rw [HL.out, hp]
      have hpb : -1200 ≤ p ∧ p ≤ 2100 := by omega
      by_cases c1 : 0 ≤ e ∧ p ≤ 21
      · obtain ⟨c1a, c1b⟩ := c1
        have HZ2 := Lib.hid (HZT.out.trans ((if_neg (by omega)).trans ((if_neg (by omega)).trans (if_neg (by omega)))))
        obtain ⟨t, rfl⟩ : ∃ t : Nat, e = (t : Int) := ⟨e.toNat, by omega⟩
        have KZ := Lib.hid (fun W => rzeros_any t (by omega) W)
        go_wp2_with fail
        refine (KZ.out _).mono ?_
        rintro r w3 ⟨rfl, hb3⟩
        have HF := Lib.hid (below_on HB2.out hb3)
        have hsz : (txt (List.replicate t 48)).size = t := by rw [txt_size, List.length_replicate]
        clear hb3 x1 x2 x3
        go_wp2_with fail
        go_ret
        exact ⟨by rw [HT.out, HZ2.out]; refine rets ?_; rw [txt_append, txt_append, Int.toNat_natCast, List.append_assoc], HF.out⟩
      · by_cases c2 : e < 0 ∧ 1 ≤ p ∧ p ≤ 21
        · obtain ⟨c2a, c2b, c2c⟩ := c2
          have HZ2 := Lib.hid (HZT.out.trans ((if_neg (by omega)).trans ((if_neg (by omega)).trans (if_pos c2a))))
          obtain ⟨q, rfl⟩ : ∃ q : Nat, p = (q : Int) := ⟨p.toNat, by omega⟩
          have hqL : q ≤ L := by omega
          have t1 := Lib.hid (txt_take D q (by rw [HL.out]; exact hqL))
          have t2 := Lib.hid (txt_drop D q)
          have he0 : ¬ (0 ≤ e) := by omega
          have hqz : (q : Int) ≤ (L : Int) := by omega
          have hq0 : (0 : Int) ≤ (q : Int) := by omega
          have hse1 : ((txt D).extract 0 q).size ≤ 900 := by rw [t1.out, txt_size, List.length_take, HL.out]; omega
          have hse2 : ((txt D).extract q L).size ≤ 900 := by
            have h := t2.out
            rw [hsD] at h
            rw [h, txt_size, List.length_drop, HL.out]; omega
          clear c1
          go_upto_region 12 with fail
          go_region
          all_goals
            go_wp2_with fail
            go_ret
            refine ⟨?_, below_drew HB2.out⟩
            rw [HT.out, HZ2.out]
            refine rets ?_
            have h2 := t2.out
            rw [hsD] at h2
            rw [t1.out, h2, show (ByteArray.mk #[46]) = txt [46] from rfl, txt_append, txt_append, txt_append, Int.toNat_natCast]
            simp [List.append_assoc]
        · by_cases c3 : -5 ≤ p ∧ p ≤ 0
          · obtain ⟨c3a, c3b⟩ := c3
            have HZ2 := Lib.hid (HZT.out.trans ((if_neg (by omega)).trans (if_pos c3b)))
            obtain ⟨t, ht⟩ : ∃ t : Nat, -p = (t : Int) := ⟨(-p).toNat, by omega⟩
            rw [ht] at HZ2
            have KZ := Lib.hid (fun W => rzeros_any t (by omega) W)
            have he0 : ¬ (0 ≤ e) := by omega
            have hp1 : ¬ (1 ≤ p) := by omega
            have hen : e < 0 := by omega
            clear c1 c2
            go_wp2_with fail
            refine (KZ.out _).mono ?_
            rintro r w3 ⟨rfl, hb3⟩
            have HF := Lib.hid (below_on HB2.out hb3)
            have hsz : (txt (List.replicate t 48)).size ≤ 100 := by rw [txt_size, List.length_replicate]; omega
            clear hb3 x1 x2 x3
            go_wp2_with fail
            go_ret
            refine ⟨?_, HF.out⟩
            rw [HT.out, HZ2.out]
            refine rets ?_
            rw [show (ByteArray.mk #[48, 46]) = txt [48, 46] from rfl, txt_append, txt_append, txt_append, Int.toNat_natCast]
            simp [List.append_assoc]
          · have hp5 : p < -5 ∨ 21 < p := by omega
            have HZ2 := Lib.hid (HZT.out.trans (if_pos hp5))
            have t1 := Lib.hid (txt_take D 1 (by rw [HL.out]; omega))
            have t2 := Lib.hid (show (txt D).extract 1 L = txt (D.drop 1) from by have h := txt_drop D 1; rwa [hsD] at h)
            have hse1 : ((txt D).extract 0 1).size ≤ 1 := by rw [t1.out, txt_size, List.length_take]; omega
            have hse2 : ((txt D).extract 1 L).size ≤ 900 := by rw [t2.out, txt_size, List.length_drop, HL.out]; omega
            by_cases hbig : 21 < p
            · have hq1 : ¬ (p ≤ 21) := by omega
              have hq2 : -5 ≤ p := by omega
              have hq3 : ¬ (p ≤ 0) := by omega
              have hq4 : 1 ≤ p := by omega
              clear hp5
              by_cases hE : 0 ≤ e
              · have hE2 : ¬ (e < 0) := by omega
                obtain ⟨u, hu⟩ : ∃ u : Nat, p - 1 = (u : Int) := ⟨(p - 1).toNat, by omega⟩
                have KSM := Lib.hid (fun W => rsmall_any u (by omega) W)
                have hx : ¬ (p - 1 < 0) := by omega
                have HX := Lib.hid (show expTxt D (p - 1) = D.take 1 ++ ((if 1 < L then [46] ++ D.drop 1 else []) ++ ([101, 43] ++ dec u)) from by unfold expTxt; rw [HL.out, if_neg hx, show (p - 1).natAbs = u by omega])
                rw [hu] at hx
                have hdu : (dec u).length ≤ 6 := dec_small7 (by omega)
                have hsu : (txt (dec u)).size ≤ 6 := by rw [txt_size]; exact hdu
                clear c1 c2 c3
                by_cases hL1 : 1 < L
                · have hLz : (1 : Int) < (L : Int) := by omega
                  have HX2 := Lib.hid (HX.out.trans (by rw [if_pos hL1]))
                  have hL11 : (1 : Int) ≤ (L : Int) := by omega
                  clear hL1 HX
                  go_wp2_with fail
                  refine (KSM.out _).mono ?_
                  rintro r w3 ⟨rfl, hb3⟩
                  have HF := Lib.hid (below_on HB2.out hb3)
                  clear hb3 x1 x2 x3
                  go_wp2_with fail
                  go_ret
                  refine ⟨?_, HF.out⟩
                  rw [HT.out, HZ2.out, HX2.out]
                  refine rets ?_
                  rw [t1.out, t2.out, show (ByteArray.mk #[46]) = txt [46] from rfl, show (ByteArray.mk #[101, 43]) = txt [101, 43] from rfl, txt_append, txt_append, txt_append, txt_append, txt_append]
                  simp [List.append_assoc]
                · have hLz : ¬ (1 : Int) < (L : Int) := by omega
                  have HX2 := Lib.hid (HX.out.trans (by rw [if_neg hL1]))
                  have hL11 : (1 : Int) ≤ (L : Int) := by omega
                  clear hL1 HX
                  go_wp2_with fail
                  refine (KSM.out _).mono ?_
                  rintro r w3 ⟨rfl, hb3⟩
                  have HF := Lib.hid (below_on HB2.out hb3)
                  clear hb3 x1 x2 x3
                  go_wp2_with fail
                  go_ret
                  refine ⟨?_, HF.out⟩
                  rw [HT.out, HZ2.out, HX2.out]
                  refine rets ?_
                  rw [t1.out, show (ByteArray.mk #[101, 43]) = txt [101, 43] from rfl, txt_append, txt_append, txt_append]
                  simp [List.append_assoc]
              · have hE2 : e < 0 := by omega
                obtain ⟨u, hu⟩ : ∃ u : Nat, p - 1 = (u : Int) := ⟨(p - 1).toNat, by omega⟩
                have KSM := Lib.hid (fun W => rsmall_any u (by omega) W)
                have hx : ¬ (p - 1 < 0) := by omega
                have HX := Lib.hid (show expTxt D (p - 1) = D.take 1 ++ ((if 1 < L then [46] ++ D.drop 1 else []) ++ ([101, 43] ++ dec u)) from by unfold expTxt; rw [HL.out, if_neg hx, show (p - 1).natAbs = u by omega])
                rw [hu] at hx
                have hdu : (dec u).length ≤ 6 := dec_small7 (by omega)
                have hsu : (txt (dec u)).size ≤ 6 := by rw [txt_size]; exact hdu
                clear c1 c2 c3
                by_cases hL1 : 1 < L
                · have hLz : (1 : Int) < (L : Int) := by omega
                  have HX2 := Lib.hid (HX.out.trans (by rw [if_pos hL1]))
                  have hL11 : (1 : Int) ≤ (L : Int) := by omega
                  clear hL1 HX
                  go_wp2_with fail
                  refine (KSM.out _).mono ?_
                  rintro r w3 ⟨rfl, hb3⟩
                  have HF := Lib.hid (below_on HB2.out hb3)
                  clear hb3 x1 x2 x3
                  go_wp2_with fail
                  go_ret
                  refine ⟨?_, HF.out⟩
                  rw [HT.out, HZ2.out, HX2.out]
                  refine rets ?_
                  rw [t1.out, t2.out, show (ByteArray.mk #[46]) = txt [46] from rfl, show (ByteArray.mk #[101, 43]) = txt [101, 43] from rfl, txt_append, txt_append, txt_append, txt_append, txt_append]
                  simp [List.append_assoc]
                · exfalso; omega
            · have hq1 : p ≤ 21 := by omega
              have hq2 : ¬ (-5 ≤ p) := by omega
              have hq4 : ¬ (1 ≤ p) := by omega
              have hE : ¬ (0 ≤ e) := by omega
              have hE2 : e < 0 := by omega
              clear hp5 hbig
              obtain ⟨u, hu⟩ : ∃ u : Nat, 1 - p = (u : Int) := ⟨(1 - p).toNat, by omega⟩
              have KSM := Lib.hid (fun W => rsmall_any u (by omega) W)
              have hx : p - 1 < 0 := by omega
              have HX := Lib.hid (show expTxt D (p - 1) = D.take 1 ++ ((if 1 < L then [46] ++ D.drop 1 else []) ++ ([101, 45] ++ dec u)) from by unfold expTxt; rw [HL.out, if_pos hx, show (p - 1).natAbs = u by omega])
              have hx2 : p < 1 := by omega
              have hdu : (dec u).length ≤ 6 := dec_small7 (by omega)
              have hsu : (txt (dec u)).size ≤ 6 := by rw [txt_size]; exact hdu
              clear c1 c2 c3
              by_cases hL1 : 1 < L
              · have hLz : (1 : Int) < (L : Int) := by omega
                have HX2 := Lib.hid (HX.out.trans (by rw [if_pos hL1]))
                have hL11 : (1 : Int) ≤ (L : Int) := by omega
                clear hL1 HX
                go_wp2_with fail
                refine (KSM.out _).mono ?_
                rintro r w3 ⟨rfl, hb3⟩
                have HF := Lib.hid (below_on HB2.out hb3)
                clear hb3 x1 x2 x3
                go_wp2_with fail
                go_ret
                refine ⟨?_, HF.out⟩
                rw [HT.out, HZ2.out, HX2.out]
                refine rets ?_
                rw [t1.out, t2.out, show (ByteArray.mk #[46]) = txt [46] from rfl, show (ByteArray.mk #[101, 45]) = txt [101, 45] from rfl, txt_append, txt_append, txt_append, txt_append, txt_append]
                simp [List.append_assoc]
              · have hLz : ¬ (1 : Int) < (L : Int) := by omega
                have HX2 := Lib.hid (HX.out.trans (by rw [if_neg hL1]))
                have hL11 : (1 : Int) ≤ (L : Int) := by omega
                clear hL1 HX
                go_wp2_with fail
                refine (KSM.out _).mono ?_
                rintro r w3 ⟨rfl, hb3⟩
                have HF := Lib.hid (below_on HB2.out hb3)
                clear hb3 x1 x2 x3
                go_wp2_with fail
                go_ret
                refine ⟨?_, HF.out⟩
                rw [HT.out, HZ2.out, HX2.out]
                refine rets ?_
                rw [t1.out, show (ByteArray.mk #[101, 45]) = txt [101, 45] from rfl, txt_append, txt_append, txt_append]
                simp [List.append_assoc]
end Go.Proofs.YtogapgjilbcbfaaGreatDoor
