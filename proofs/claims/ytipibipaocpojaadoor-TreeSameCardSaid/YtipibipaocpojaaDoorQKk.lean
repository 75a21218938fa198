/- The walk of tree's Set: a member that is not there. -/
import Derived.Test.YtipibipaocpojaaDoorQk
namespace Go.Proofs.YtipibipaocpojaaDoor
open Go.RowKit Go.Shelf
set_option linter.unusedVariables false
set_option linter.unusedSimpArgs false

set_option maxHeartbeats 4000000 in
set_option maxRecDepth 100000 in
theorem set_not (t v : MT) (s : ByteArray) (w : World) (hR : Rep w t) (hV : Rep w v) (hs : s.size ≤ maxLen) (p j : Nat) (z : Int) (hz : z = ixZ (nmsL t) s) (hpj : p ≤ j) (hjn : j ≤ (nmsL t).length) (hcz : z = -1) (hpl : plL (nmsL t) s = p) (hj : j = p) (hm : (nmsL t).length ≤ 1000000) :
    Calls Tryd.prog 10 #[t.c.val, .string s, v.c.val] w (ObjMade (put1 (nmsL t) p j s) (put1 (valsL t) p j v) w) := by
  have HSZ := Lib.hid (nms_size hR.own)
  have HVR := Lib.hid (vals_rep hR)
  replace hR := hR.own
  have KM := Lib.hid (fun W => members_any t.c W hR.lm.2.1 hR.lm.2.2 hR.kc hR.vc)
  obtain ⟨ad, n, cap, ad', cap', he, hn1, hn2, hc1, hc2, hk1, hk2, hr1, hr2⟩ := mem_ok hR
  rw [he] at KM
  have hn15 : n ≤ 1000000000000000 := by have := hR.lm.2.1; omega
  rw [hn1] at hm hjn
  have KI := Lib.hid (fun W (h : Below w.heap.size w W) => index_any ad n cap (nmsL t) s W hn1 hc1 hn15 (hr1.on h))
  rw [← hz] at KI
  have KP := Lib.hid (fun W (h : Below w.heap.size w W) => placeFor_any ad n cap (nmsL t) s W hn1 hc1 hn15 (hr1.on h))
  obtain ⟨N, hN⟩ : ∃ N, p + 1 + (n - j) = N := ⟨_, rfl⟩
  have hN15 : N ≤ 1000000000000000 := by omega
  have e1 : (nmsL t).take p ++ [s] ++ (nmsL t).drop j = put1 (nmsL t) p j s := rfl
  have e2 : (valsL t).take p ++ [v] ++ (valsL t).drop j = put1 (valsL t) p j v := rfl
  obtain ⟨Wb, hWb⟩ : ∃ x, three w t.c v.c = x := ⟨_, rfl⟩
  have HB0 := Lib.hid (show Below w.heap.size w Wb by rw [← hWb]; exact three_below _ _ _)
  have HZ := Lib.hid (show w.heap.size + 1 + 1 < Wb.heap.size by rw [← hWb, three_size]; omega)
  have HBM := Lib.hid (fun W (h : Below Wb.heap.size Wb W) => (HB0.out.trans (h.mono HB0.out.size) : Below w.heap.size w W))
  have KS := Lib.hid (fun W b (h : Below Wb.heap.size Wb W) (hx : RdV W (some ⟨b, 0, none⟩) (sv [s])) => (by
    have := withS_any ad n cap (nmsL t) p j (some ⟨b, 0, none⟩) 1 1 [s] W hn1 hc1 hm (hr1.on (HBM.out W h)) rfl (Nat.le_refl _) (by decide) hx hpj hjn
    rw [hN, e1] at this
    exact this.mono (fun r w' hp => lp_of h HZ.out r w' hp) : Calls Tryd.prog 26 #[.slice ad n cap, .int .i64 (p : Int), .int .i64 (j : Int), .slice (some ⟨b, 0, none⟩) 1 1] W (LP N (w.heap.size + 1 + 1) (sv (put1 (nmsL t) p j s)) Wb W)))
  have KT := Lib.hid (fun W b (h : Below Wb.heap.size Wb W) (hx : RdV W (some ⟨b, 0, none⟩) (flat [v.c])) => (by
    have := withT_any ad' n cap' ((valsL t).map MT.c) p j (some ⟨b, 0, none⟩) 1 1 [v.c] W (by rw [List.length_map]; exact hn2) hc2 hm (hr2.on (HBM.out W h)) rfl (Nat.le_refl _) (by decide) hx hpj hjn
    rw [hN, show [v.c] = List.map MT.c [v] from rfl, ← List.map_take, ← List.map_drop, ← List.map_append, ← List.map_append, e2] at this
    exact this.mono (fun r w' hp => lp_of h HZ.out r w' hp) : Calls Tryd.prog 27 #[.slice ad' n cap', .int .i64 (p : Int), .int .i64 (j : Int), .slice (some ⟨b, 0, none⟩) 1 1] W (LP N (w.heap.size + 1 + 1) (flat ((put1 (valsL t) p j v).map MT.c)) Wb W)))
  have HL1 := Lib.hid (show (put1 (nmsL t) p j s).length = N by have := put1_len (nmsL t) p j s hpj (by omega); omega)
  have HL2 := Lib.hid (show (put1 (valsL t) p j v).length = N by have := put1_len (valsL t) p j v hpj (by omega); omega)
  replace HSZ := Lib.hid (show ∀ x ∈ put1 (nmsL t) p j s, x.size ≤ maxLen from fun x hx => by
    unfold put1 at hx
    rcases List.mem_append.1 hx with h | h
    · rcases List.mem_append.1 h with h | h
      · exact HSZ.out x (List.mem_of_mem_take h)
      · rw [List.mem_singleton.1 h]; exact hs
    · exact HSZ.out x (List.mem_of_mem_drop h))
  replace HVR := Lib.hid (show ∀ x ∈ put1 (valsL t) p j v, Rep w x from fun x hx => by
    unfold put1 at hx
    rcases List.mem_append.1 hx with h | h
    · rcases List.mem_append.1 h with h | h
      · exact HVR.out x (List.mem_of_mem_take h)
      · rw [List.mem_singleton.1 h]; exact hV
    · exact HVR.out x (List.mem_of_mem_drop h))
  clear e1 e2
  generalize put1 (nmsL t) p j s = names at *
  generalize put1 (valsL t) p j v = vals at *
  have HBX := Lib.hid (fun W (h : Below Wb.heap.size Wb W) => ((by rw [← hWb] at h; exact (three_box _ _ _).2.on (h.block _ (by rw [three_size]; omega))) : BoxT W (w.heap.size + 1 + 1) (leafC 0 false ⟨#[]⟩)))
  have HBV := Lib.hid (fun W (h : Below Wb.heap.size Wb W) => ((by rw [← hWb] at h; exact (three_box _ _ _).1.on (h.block _ (by rw [three_size]; omega))) : BoxT W (w.heap.size + 1) v.c))
  have HRT := Lib.hid (fun (c : Cel) (W W2 : World) (e : put0 W (w.heap.size + 1 + 1) c = W2) (h : Below Wb.heap.size Wb W) => (by
    rw [← e]
    exact ⟨put0_box (HBX.out W h), (HB0.out.trans (h.mono HB0.out.size)).trans ((put0_but _ _ _).below (by omega) (by have := HB0.out.size; have := h.size; omega))⟩ : BoxT W2 (w.heap.size + 1 + 1) c ∧ Below w.heap.size w W2))
  have hwb := hWb
  clear hR he hr1 hr2 hn1 hn2 hWb hN hV
  generalize t.c = c at *
  generalize v.c = d at *
  obtain ⟨k, b, neg, ma, mn, mc, e, st, ka, kn, kc, va, vn, vc⟩ := c
  obtain ⟨xk, xb, xneg, xma, xmn, xmc, xe, xs, xka, xkn, xkc, xva, xvn, xvc⟩ := d
  simp only at hk1 hk2
  unfold Cel.val at KM ⊢
  unfold three leafC Cel.cells at hwb
  simp only at hwb
  have HWB := Lib.hid hwb
  clear hwb hz
  subst hcz hj
  rw [hpl] at KP
  clear hpl
  go_enter Tryd.func10, Tryd.ntmps10
  go_wp2_with fail
  rw [HWB.out]
  refine (KM.out _).mono ?_
  rintro r w1 ⟨rfl, h1⟩
  have H1 := Lib.hid h1
  have H0 := Lib.hid (HB0.out.trans (h1.mono HB0.out.size))
  clear h1 HWB
  go_wp2_with fail
  refine (KI.out _ H0.out).mono ?_
  rintro r w2 ⟨rfl, h2⟩
  subst h2
  go_wp2_with fail
  refine (KP.out _ H0.out).mono ?_
  rintro r w2 ⟨rfl, h2⟩
  subst h2
  have hlt2 : w.heap.size + 1 < w2.heap.size := by have := HZ.out; have := H1.out.size; omega
  have hvar := (HBV.out _ H1.out).cells
  obtain ⟨q0, q1, q2, q3, q4, q5, q6, q7⟩ := hvar
  simp only at q0 q1 q2 q3 q4 q5 q6 q7
  go_wp2_with fail
  go_region_with (first
    | (go_at_call 26; refine (KS.out _ _ (by with_reducible first | exact bal1d H1.out _ | exact bal2d H1.out _ _) (by with_reducible first | exact rnSd _ _ _ (by simp) | exact rnS1d _ _ _ (by simp) _)).mono ?_; rintro r w3 ⟨ka', kc', rfl, hc3, hr3, ha3, hb3, hB3⟩; have HB3 := Lib.hid hb3; have HR3 := Lib.hid hr3; have HA3 := Lib.hid ha3; have HW3 := Lib.hid hB3; obtain ⟨y0, y1, y2, y3, y4, y5, y6, y7⟩ := (HBV.out _ hB3).cells; simp only at y0 y1 y2 y3 y4 y5 y6 y7; clear hr3 ha3 hb3 hB3)
    | (go_at_call 27; refine (KT.out _ _ (by with_reducible first | exact HW3.out | exact bal0 HW3.out _ | exact bal1d HW3.out _) (by first | (with_reducible exact rnT _ ⟨xk, xb, xneg, xma, xmn, xmc, xe, xs, xka, xkn, xkc, xva, xvn, xvc⟩ _ (by simp)) | (with_reducible exact rnTd _ ⟨xk, xb, xneg, xma, xmn, xmc, xe, xs, xka, xkn, xkc, xva, xvn, xvc⟩ _ (by simp)) | exact (rnTd _ ⟨xk, xb, xneg, xma, xmn, xmc, xe, xs, xka, xkn, xkc, xva, xvn, xvc⟩ _ (by simp)).on HB3.out | exact (rnT1d _ ⟨xk, xb, xneg, xma, xmn, xmc, xe, xs, xka, xkn, xkc, xva, xvn, xvc⟩ _ (by simp) _).on HB3.out)).mono ?_; rintro r w4 ⟨va', vc', rfl, hc4, hr4, ha4, hb4, hB4⟩; have HR34 := Lib.hid (show RdV w4 ka' (sv names) by first | exact HR3.out.on hb4 | exact (HR3.out.on (bal _ _)).on hb4); have HR4 := Lib.hid hr4; have HA4 := Lib.hid ha4; have HW4 := Lib.hid hB4; have hvar := (HBX.out _ hB4).var; unfold Var at hvar; obtain ⟨⟨q0, q1, q2, q3, q4, q5, q6, q7⟩, f0, f1, f2, f3, f4, f5, f6, f7⟩ := hvar; simp only [leafC] at q0 q1 q2 q3 q4 q5 q6 q7; clear hr4 ha4 hb4 hB4; obtain ⟨W2, hW2⟩ : ∃ x, put0 w4 (w.heap.size + 1 + 1) (objC7 ka' N kc' va' N vc') = x := ⟨_, rfl⟩; have HQ := Lib.hid (HRT.out _ _ _ hW2 HW4.out); have HF := Lib.hid (obj_made HQ.out.2 (by rw [← hW2]; exact put0_but _ _ _) HL1.out HL2.out hc3 hc4 hN15 HR34.out HA3.out HR4.out HA4.out HSZ.out HVR.out); have hw2 := hW2; unfold put0 objC7 at hw2; simp only at hw2; clear hW2))
  all_goals
    obtain ⟨z0, z1, z2, z3, z4, z5, z6, z7⟩ := HQ.out.1.cells
    simp only [objC7] at z0 z1 z2 z3 z4 z5 z6 z7
    go_wp2
    exact bodyPost_ret (v := (objC7 ka' N kc' va' N vc').val) (by simp [results, Tryd.results10, go_sem, z0, z1, z2, z3, z4, z5, z6, z7, Cel.val, objC7]) rfl HF.out
end Go.Proofs.YtipibipaocpojaaDoor
