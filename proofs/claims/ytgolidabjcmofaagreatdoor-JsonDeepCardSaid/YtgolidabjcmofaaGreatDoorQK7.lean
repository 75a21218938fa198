/- Texts of the claim. -/
import Derived.Test.YtgolidabjcmofaaGreatDoorQK6
namespace Go.Proofs.YtgolidabjcmofaaGreatDoor
open Go.RowKit Go.Shelf
set_option linter.unusedVariables false
set_option linter.unusedSimpArgs false
attribute [local go_sem] Oper.semAt_some
set_option maxHeartbeats 2000000 in
theorem all_any (c : Cel) (w : World) :
    Calls Tryz.prog 57 #[c.val] w (fun e w' => e = .returned (.func (.func 89) #[] #[.pointer (some ⟨w.heap.size, 0, none⟩)]) ∧ w' = w.alloc (.cells c.cells.toArray 28)) := by
  obtain ⟨k, b, neg, ma, mn, mc, e, s, ka, kn, kc, va, vn, vc⟩ := c
  unfold Cel.val
  go_enter Tryz.func57, Tryz.ntmps57
  go_wp2
  go_ret
  exact ⟨rfl, rfl⟩
theorem below_pre {w00 w W : World} (hb : Below w00.heap.size w00 w) {V : Nat → Prop} (hV : ∀ k, V k → w00.heap.size ≤ k) (h : KeepB V w W) : Below w00.heap.size w00 W := hb.trans (h.below hb.size hV)
def OneB (W : World) (b : Nat) (t : TypeId) (v : Value) : Prop := W.heap[b]? = some (.cells #[v] t)
theorem OneB.cell {W : World} {b t v} (h : OneB W b t v) : W.cell? ⟨b, 0, none⟩ = some v := by unfold OneB at h; simp [World.cell?, h]
theorem OneB.free {W : World} {b t v} (h : OneB W b t v) : W.frozen? ⟨b, 0, none⟩ = false := by unfold OneB at h; simp [World.frozen?, h]
theorem OneB.on {W W' : World} {b t v} (h : OneB W b t v) (hk : W'.heap[b]? = W.heap[b]?) : OneB W' b t v := by unfold OneB; rw [hk]; exact h
theorem OneB.set {W : World} {b t v} (h : OneB W b t v) (u : Value) : OneB (W.setCell ⟨b, 0, none⟩ u) b t u := by
  unfold OneB at h ⊢; simp [World.setCell, Array.getElem?_modify, h]
theorem OneB.lt {W : World} {b t v} (h : OneB W b t v) : b < W.heap.size := (Array.getElem?_eq_some_iff.1 h).1
def checkB (t : MT) : Bool := decide (t.nodes ≤ 2000) && (t.pre 1).all (fun x => decide (x.1 ≤ 64) && soundB x.2)
theorem checkB_yes {t : MT} {pre : List (Nat × MT)} (he : pre = t.pre 1) (hp : pre.length ≤ 2000) (ha : pre.all (fun x => decide (x.1 ≤ 64) && soundB x.2) = true) : checkB t = true := by
  subst he
  unfold checkB
  rw [← t.pre_len 1, decide_eq_true hp, ha]; rfl
theorem checkB_many {t : MT} {pre : List (Nat × MT)} (he : pre <+: t.pre 1) (hp : 2000 < pre.length) : checkB t = false := by
  have := he.length_le
  rw [t.pre_len 1] at this
  unfold checkB
  rw [decide_eq_false (by omega), Bool.false_and]
theorem checkB_no {t : MT} {pre : List (Nat × MT)} {x : Nat × MT} (he : pre ++ [x] <+: t.pre 1) (hp : (decide (x.1 ≤ 64) && soundB x.2) = false) : checkB t = false := by
  have hm : x ∈ t.pre 1 := he.subset (by simp)
  unfold checkB
  cases hb : (t.pre 1).all (fun x => decide (x.1 ≤ 64) && soundB x.2)
  · rw [Bool.and_false]
  · rw [List.all_eq_true.1 hb x hm] at hp; cases hp
set_option maxHeartbeats 4000000 in
set_option maxRecDepth 100000 in
theorem checkT_any (t : MT) (w : World) (hR : Rep w t) (hT : UT w) :
    Calls Tryz.prog 31 #[t.c.val] w (BoolBelow (checkB t) w) := by
  have KA := Lib.hid (all_any t.c)
  have HS := Lib.hid (fun W tb m => all1_seq t tb w W m hR)
  generalize hc : t.c = c at *
  obtain ⟨k, b, neg, ma, mn, mc, e, s, ka, kn, kc, va, vn, vc⟩ := c
  unfold Cel.val at KA ⊢
  refine (callsIn_wide (n := 6)).1 ?_
  refine callsIn_of_wp_marks Tryz.func31 rfl trivial ?_ rfl
  simp only [Tryz.ntmps31, List.size_toArray, List.length_cons, List.length_nil, Nat.reduceAdd, Nat.reduceSub, Array.replicate_succ, Array.replicate_zero, List.push_toArray, List.append_toArray, List.nil_append, List.cons_append]
  gi_wp2_with (refine ⟨trivial, ?_⟩; gi_at_call 57; refine (callsIn_wide.2 (KA.out _)).mono ?_; rintro e w' ⟨rfl, rfl⟩)
  obtain ⟨W0, hW0⟩ : ∃ W0, (((w.alloc (.cells #[.int .i64 k, .bool b, .bool neg, .slice ma mn mc, .int .i64 e, .string s, .slice ka kn kc, .slice va vn vc] 28)).alloc (.cells #[.bool false] 4)).alloc (.cells #[.int .i64 0] 3)).alloc (.cells (Cel.cells ⟨k, b, neg, ma, mn, mc, e, s, ka, kn, kc, va, vn, vc⟩).toArray 28) = W0 := ⟨_, rfl⟩
  have hb0 : Below w.heap.size w W0 := by rw [← hW0]; exact ((((Below.refl _ w).alloc (Nat.le_refl _) _).alloc (by simp) _).alloc (by simp; omega) _).alloc (by simp; omega) _
  have hs0 : W0.heap.size = w.heap.size + 4 := by rw [← hW0]; simp
  have hr0 : OneB W0 (w.heap.size + 1) 4 (.bool false) := by
    rw [← hW0]; unfold OneB
    rw [Below.heap_alloc _ _ _ (by simp <;> omega), Below.heap_alloc _ _ _ (by simp)]
    have := heap_alloc_new (w.alloc (.cells #[.int .i64 k, .bool b, .bool neg, .slice ma mn mc, .int .i64 e, .string s, .slice ka kn kc, .slice va vn vc] 28)) (.cells #[.bool false] 4)
    rw [World.size_alloc] at this; exact this
  have ho0 : OneB W0 (w.heap.size + 1 + 1) 3 (.int .i64 0) := by
    rw [← hW0]; unfold OneB
    rw [Below.heap_alloc _ _ _ (by simp)]
    have := heap_alloc_new ((w.alloc (.cells #[.int .i64 k, .bool b, .bool neg, .slice ma mn mc, .int .i64 e, .string s, .slice ka kn kc, .slice va vn vc] 28)).alloc (.cells #[.bool false] 4)) (.cells #[.int .i64 0] 3)
    rw [World.size_alloc, World.size_alloc] at this; exact this
  have hx0 : BoxT W0 (w.heap.size + 1 + 1 + 1) t.c := by
    rw [← hW0, hc]; unfold BoxT
    have := heap_alloc_new (((w.alloc (.cells #[.int .i64 k, .bool b, .bool neg, .slice ma mn mc, .int .i64 e, .string s, .slice ka kn kc, .slice va vn vc] 28)).alloc (.cells #[.bool false] 4)).alloc (.cells #[.int .i64 0] 3)) (.cells (Cel.cells ⟨k, b, neg, ma, mn, mc, e, s, ka, kn, kc, va, vn, vc⟩).toArray 28)
    rw [World.size_alloc, World.size_alloc, World.size_alloc] at this; exact this
  have HSQ := HS.out W0 (w.heap.size + 1 + 1 + 1) 4 hb0 (by rw [← hc]; exact hx0) (by omega)
  have HT := Lib.hid hT
  have HR := Lib.hid hR
  rw [hW0]
  clear HS KA hT hR
  have hVs : ∀ k, (k = w.heap.size + 1 ∨ k = w.heap.size + 1 + 1) → w.heap.size ≤ k ∧ k < W0.heap.size ∧ k ≠ w.heap.size + 1 + 1 + 1 := fun k h => by omega
  clear hW0
  refine wpIn_range_all (n := 4) (gf := 89) (lb := #[.pointer (some ⟨w.heap.size + 1 + 1 + 1, 0, none⟩)]) rfl (enters_of Tryz.func89 (by kernel_rfl) rfl) HSQ rfl
    (fun k => k = w.heap.size + 1 ∨ k = w.heap.size + 1 + 1) hVs (by omega)
    (fun pre W => OneB W (w.heap.size + 1) 4 (.bool false) ∧ OneB W (w.heap.size + 1 + 1) 3 (.int .i64 (pre.length : Int)) ∧ pre.length ≤ 2000 ∧ pre.all (fun x => decide (x.1 ≤ 64) && soundB x.2) = true)
    (fun c _ W => c = .ret ∧ OneB W (w.heap.size + 1) 4 (.bool false) ∧ checkB t = false)
    (fun pre A B hk h => ⟨h.1.on (hk _ (.inl rfl)), h.2.1.on (hk _ (.inr rfl)), h.2.2⟩) (fun c pre A B hk h => ⟨h.1, h.2.1.on (hk _ (.inl rfl)), h.2.2⟩) (fun _ _ h => by have := h.2.2.1; omega) ⟨hr0, ho0, by simp, by simp⟩
    (fun x a' W => ∃ Bx, Bx ≠ W0.heap.size + 1 ∧ Bx ≠ w.heap.size + 1 ∧ Bx ≠ w.heap.size + 1 + 1 ∧ BoxT W Bx x.2.c ∧ a' = { tmps := #[.agg #[.int .i64 k, .bool b, .bool neg, .slice ma mn mc, .int .i64 e, .string s, .slice ka kn kc, .slice va vn vc], .pointer (some ⟨w.heap.size, 0, none⟩), .pointer (some ⟨w.heap.size + 1, 0, none⟩), .pointer (some ⟨w.heap.size + 1 + 1, 0, none⟩), .int .i64 (x.1 : Int), .pointer (some ⟨Bx, 0, none⟩), .agg #[.int .i64 k, .bool b, .bool neg, .slice ma mn mc, .int .i64 e, .string s, .slice ka kn kc, .slice va vn vc], .func (.func 89) #[] #[.pointer (some ⟨w.heap.size + 1 + 1 + 1, 0, none⟩)], .int .i64 (x.1 : Int), x.2.c.val, undef, undef, undef, undef, undef, undef, undef, undef, undef, undef, undef, undef, undef], defers := [] })
    (fun x a' A B hk h => by obtain ⟨Bx, h1, h2, h2', h3, h4⟩ := h; exact ⟨Bx, h1, h2, h2', h3.on (hk _ h1), h4⟩) (by omega) ?assign ?body ?done ?stop
  case assign =>
    rintro pre x W K hx hk hs hi hK
    have hh := fun a' => hK a' (W.alloc (.cells x.2.c.cells.toArray 28)) ((KeepB.refl _ W).alloc _) ⟨hi.1.on (Below.heap_alloc _ _ _ (by omega)), hi.2.1.on (Below.heap_alloc _ _ _ (by omega)), hi.2.2⟩
    generalize hcx : x.2.c = cx at *
    simp only [encT, hcx]
    obtain ⟨xk, xb, xneg, xma, xmn, xmc, xe, xs, xka, xkn, xkc, xva, xvn, xvc⟩ := cx
    simp only [Cel.val]
    gi_wp2
    exact ⟨W.heap.size, by omega, by omega, by omega, heap_alloc_new W _, rfl⟩
  case body =>
    rintro pre x a' W hx hk ⟨hr1, ho1, hp, hall⟩ ⟨Bx, hn1, hn2, hn3, hbx, rfl⟩
    have hsub : t.sub x.2 := MT.sub_of_pre (n := x.1) (hx.subset (by simp))
    have hbw := below_pre hb0 (fun k h => (hVs k h).1) hk
    obtain ⟨W1, hW1⟩ : ∃ W1, W.setCell ⟨w.heap.size + 1 + 1, 0, none⟩ (.int .i64 ((pre.length : Int) + 1)) = W1 := ⟨_, rfl⟩
    have hk1 : KeepB (fun k => k = w.heap.size + 1 ∨ k = w.heap.size + 1 + 1) W W1 := by rw [← hW1]; exact (KeepB.refl (fun k => k = w.heap.size + 1 ∨ k = w.heap.size + 1 + 1) W).setCell (p := ⟨w.heap.size + 1 + 1, 0, none⟩) (.inl (.inr rfl)) _
    have hb1 : Below w.heap.size w W1 := below_pre hbw (fun k h => (hVs k h).1) hk1
    have hr2 : OneB W1 (w.heap.size + 1) 4 (.bool false) := hr1.on (by rw [← hW1]; exact Below.heap_setCell _ _ _ _ (by simp))
    have ho2 : OneB W1 (w.heap.size + 1 + 1) 3 (.int .i64 ((pre.length : Int) + 1)) := by rw [← hW1]; exact ho1.set _
    have hbx1 : BoxT W1 Bx x.2.c := hbx.on (by rw [← hW1]; exact Below.heap_setCell _ _ _ _ hn3)
    have KS := Lib.hid (sound_any x.2 W1 ((HR.out x.2 hsub).on hb1) (HT.out.below hb1))
    have HNO := Lib.hid (fun h => checkB_no hx h)
    have HMANY := Lib.hid (fun h => checkB_many hx (by simpa using h))
    have HRR := Lib.hid (⟨hr2, hk1⟩ : OneB W1 (w.heap.size + 1) 4 (.bool false) ∧ KeepB (fun k => k = w.heap.size + 1 ∨ k = w.heap.size + 1 + 1) W W1)
    have HX := Lib.hid (fun w1 (h1 : Below W1.heap.size W1 w1) (hp1 : pre.length + 1 ≤ 2000) (hs1 : (decide (x.1 ≤ 64) && soundB x.2) = true) => (⟨hk1.trans (KeepB.of_below h1), hr2.on (h1.block _ hr2.lt), by have := ho2.on (h1.block _ ho2.lt); simpa using this, by simpa using hp1, by rw [List.all_append, hall, List.all_cons, hs1]; rfl⟩ :
      KeepB (fun k => k = w.heap.size + 1 ∨ k = w.heap.size + 1 + 1) W w1 ∧ (OneB w1 (w.heap.size + 1) 4 (.bool false) ∧ OneB w1 (w.heap.size + 1 + 1) 3 (.int .i64 ((pre ++ [x]).length : Int)) ∧ (pre ++ [x]).length ≤ 2000 ∧ (pre ++ [x]).all (fun x => decide (x.1 ≤ 64) && soundB x.2) = true)))
    have c1 := ho1.cell
    have f1 := ho1.free
    have c2 := ho2.cell
    obtain ⟨g0, g1, g2, g3, g4, g5, g6, g7⟩ := hbx1.cells
    clear hall hx hk hsub hbw hk1 hb1 hr2 ho2 hbx1 hbx hr1 ho1
    generalize hcx : x.2.c = cx at *
    generalize pre.length = pl at *
    generalize soundB x.2 = sb at *
    generalize x.1 = dx at *
    obtain ⟨xk, xb, xneg, xma, xmn, xmc, xe, xs, xka, xkn, xkc, xva, xvn, xvc⟩ := cx
    simp only [Cel.val] at KS ⊢
    by_cases h1 : pl + 1 ≤ 2000
    · have d1 : ¬ (2000 : Int) < (pl : Int) + 1 := by omega
      by_cases h2 : dx ≤ 64
      · have d2 : ¬ (64 : Int) < (dx : Int) := by omega
        have D2 := Lib.hid (decide_eq_true h2)
        rw [D2.out, Bool.true_and] at HNO HX
        cases sb
        · have HF := Lib.hid (HNO.out rfl)
          have HZ := Lib.hid (fun w1 (h1 : Below W1.heap.size W1 w1) => (by
            have hr9 := HRR.out.1.on (h1.block _ HRR.out.1.lt)
            exact ⟨hr9.cell, hr9.free, (HRR.out.2.trans (KeepB.of_below h1)).setCell (p := ⟨w.heap.size + 1, 0, none⟩) (.inl (.inl rfl)) _, hr9.set _⟩ :
            w1.cell? ⟨w.heap.size + 1, 0, none⟩ = some (.bool false) ∧ w1.frozen? ⟨w.heap.size + 1, 0, none⟩ = false ∧ KeepB (fun k => k = w.heap.size + 1 ∨ k = w.heap.size + 1 + 1) W (w1.setCell ⟨w.heap.size + 1, 0, none⟩ (.bool false)) ∧ OneB (w1.setCell ⟨w.heap.size + 1, 0, none⟩ (.bool false)) (w.heap.size + 1) 4 (.bool false)))
          clear HNO HX HMANY
          gi_wp2_with (refine ⟨trivial, ?_⟩; gi_at_call 58; refine (CallsIn.inRound _ (callsIn_wide.2 KS.out)).mono ?_; rintro e w1 ⟨rfl, h1⟩; obtain ⟨c9, f9, hz9⟩ := HZ.out w1 h1)
          exact ⟨hz9.1, rfl, hz9.2, HF.out⟩
        · clear HNO HMANY
          gi_wp2_with (refine ⟨trivial, ?_⟩; gi_at_call 58; refine (CallsIn.inRound _ (callsIn_wide.2 KS.out)).mono ?_; rintro e w1 ⟨rfl, h1⟩; have hz9 := HX.out w1 h1 (by assumption) rfl)
          exact hz9
      · have d2 : (64 : Int) < (dx : Int) := by omega
        have D2 := Lib.hid (decide_eq_false h2)
        rw [D2.out, Bool.false_and] at HNO
        have HF := Lib.hid (HNO.out rfl)
        have c9 := HRR.out.1.cell
        have f9 := HRR.out.1.free
        have HZ := Lib.hid (show KeepB (fun k => k = w.heap.size + 1 ∨ k = w.heap.size + 1 + 1) W (W1.setCell ⟨w.heap.size + 1, 0, none⟩ (.bool false)) ∧ OneB (W1.setCell ⟨w.heap.size + 1, 0, none⟩ (.bool false)) (w.heap.size + 1) 4 (.bool false) from
            ⟨HRR.out.2.setCell (p := ⟨w.heap.size + 1, 0, none⟩) (.inl (.inl rfl)) _, HRR.out.1.set _⟩)
        clear HNO HX HMANY h2 KS
        gi_wp2
        refine ⟨trivial, ?_⟩
        gi_wp2
        exact ⟨HZ.out.1, rfl, HZ.out.2, HF.out⟩
    · have d1 : (2000 : Int) < (pl : Int) + 1 := by omega
      have HF := Lib.hid (HMANY.out (by omega))
      have c9 := HRR.out.1.cell
      have f9 := HRR.out.1.free
      have HZ := Lib.hid (show KeepB (fun k => k = w.heap.size + 1 ∨ k = w.heap.size + 1 + 1) W (W1.setCell ⟨w.heap.size + 1, 0, none⟩ (.bool false)) ∧ OneB (W1.setCell ⟨w.heap.size + 1, 0, none⟩ (.bool false)) (w.heap.size + 1) 4 (.bool false) from
          ⟨HRR.out.2.setCell (p := ⟨w.heap.size + 1, 0, none⟩) (.inl (.inl rfl)) _, HRR.out.1.set _⟩)
      clear HNO HX HMANY h1 KS
      gi_wp2
      refine ⟨trivial, ?_⟩
      gi_wp2
      exact ⟨HZ.out.1, rfl, HZ.out.2, HF.out⟩
  case done =>
    rintro W hk ⟨hr1, ho1, hp, hall⟩ hK
    have HY := Lib.hid (checkB_yes rfl hp hall)
    have HB := Lib.hid ((below_pre hb0 (fun k h => (hVs k h).1) hk).setCell (p := ⟨w.heap.size + 1, 0, none⟩) (by simp) (.bool true))
    have HR1 := Lib.hid (hr1.set (.bool true))
    have hK' : (W.setCell ⟨w.heap.size + 1, 0, none⟩ (.bool true)).heap[W0.heap.size]? = some (.deferred (some [])) := by
      rw [Below.heap_setCell _ _ _ _ (by simp; omega)]; exact hK
    have HK := Lib.hid hK'
    have c1 := hr1.cell
    have f1 := hr1.free
    clear hr1 ho1 hp hall hK hK' hk
    gi_wp2
    refine ⟨by simp, .inl ⟨_, _, rfl, run_takeDeferred HK.out, ?_⟩⟩
    have c5 := (HR1.out.on (W' := (W.setCell ⟨w.heap.size + 1, 0, none⟩ (.bool true)).putObj W0.heap.size (.deferred none)) (World.putObj_heap_other (by omega))).cell
    refine ⟨.bool true, by simp [results, Tryz.f31, go_sem, c5], ?_⟩
    exact BoolBelow.mk (by rw [HY.out]) (HB.out.trans (belowK_b (w := w) (Nat.le_refl _) _ W0.heap.size _ _ (by omega) HK.out rfl rfl))
  case stop =>
    rintro c pre W _ hk ⟨rfl, hr1, hf⟩ hK
    have HB := Lib.hid (below_pre hb0 (fun k h => (hVs k h).1) hk)
    have HR1 := Lib.hid hr1
    have HK := Lib.hid hK
    have HF := Lib.hid hf
    clear hr1 hK hk hf
    gi_wp2
    refine ⟨by simp, .inl ⟨_, _, rfl, run_takeDeferred HK.out, ?_⟩⟩
    have c5 := (HR1.out.on (W' := W.putObj W0.heap.size (.deferred none)) (World.putObj_heap_other (by omega))).cell
    refine ⟨.bool false, by simp [results, Tryz.f31, go_sem, c5], ?_⟩
    exact BoolBelow.mk (by rw [HF.out]) (HB.out.trans (belowK_b (w := w) (Nat.le_refl _) _ W0.heap.size _ _ (by omega) HK.out rfl rfl))
end Go.Proofs.YtgolidabjcmofaaGreatDoor
