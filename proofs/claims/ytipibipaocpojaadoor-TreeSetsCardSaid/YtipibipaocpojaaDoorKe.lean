/- The walk of tree's with on values. (Printed by genke.py.) -/
import Derived.Test.YtipibipaocpojaaDoorKd
namespace Go.Proofs.YtipibipaocpojaaDoor
open Go.RowKit Go.Shelf
set_option linter.unusedVariables false
set_option linter.unusedSimpArgs false

theorem flat_app (a b : List Cel) : flat (a ++ b) = flat a ++ flat b := by simp [flat]
theorem cells_len (c : Cel) : c.cells.length = 8 := rfl
theorem flat_drop (l : List Cel) (k : Nat) : flat (l.drop k) = (flat l).drop (k * 8) := by
  induction l generalizing k with
  | nil => simp [flat]
  | cons c l ih =>
    cases k with
    | zero => simp
    | succ k =>
      rw [List.drop_succ_cons, ih]
      simp only [flat, List.flatMap_cons]
      rw [show (k + 1) * 8 = c.cells.length + k * 8 by rw [cells_len]; omega, List.drop_length_add_append]
theorem flat_take (l : List Cel) (k : Nat) : flat (l.take k) = (flat l).take (k * 8) := by
  induction l generalizing k with
  | nil => simp [flat]
  | cons c l ih =>
    cases k with
    | zero => simp [flat]
    | succ k =>
      rw [List.take_succ_cons]
      have := ih k
      simp only [flat, List.flatMap_cons] at this ⊢
      rw [this, show (k + 1) * 8 = c.cells.length + k * 8 by rw [cells_len]; omega, List.take_length_add_append]
theorem flat_oneC (l : List Cel) : ∀ u ∈ flat l, u.oneCell' = true := by
  intro u hu
  simp only [flat, List.mem_flatMap] at hu
  obtain ⟨c, _, hc⟩ := hu
  exact cel_one c u hc

set_option maxHeartbeats 4000000 in
set_option maxRecDepth 100000 in
/-- A new list: l with others in place of what stands from one place to ahead of another. -/
theorem withT_any (ad : Option Addr) (n cap : Nat) (l : List Cel) (i j : Nat) (ad' : Option Addr) (n' cap' : Nat) (m : List Cel) (w : World)
    (hl : l.length = n) (hcap : n ≤ cap) (hn : n ≤ 1000000) (hr : RdV w ad (flat l)) (hm : m.length = n') (hcap' : n' ≤ cap') (hn' : n' ≤ 1000000) (hr' : RdV w ad' (flat m)) (hij : i ≤ j) (hjn : j ≤ n) :
    Calls Tryd.prog 27 #[.slice ad n cap, .int .i64 (i : Int), .int .i64 (j : Int), .slice ad' n' cap'] w (OwnPost 28 8 (i + n' + (n - j)) (flat (l.take i ++ m ++ l.drop j)) w) := by
  obtain ⟨adx, hx1, hx2⟩ := rest_of (size := 8) (o := ad) (n := n) (cap := cap) (k := j) (q := j * 8) hr rfl (by rw [flat_len, hl]) hjn hcap
  have c1 : (i : Int) ≤ (n : Int) := by omega
  have c2 : (j : Int) ≤ (n : Int) := by omega
  have c3 : (i : Int) ≤ (cap : Int) := by omega
  have c4 : (n : Int) ≤ (cap : Int) := by omega
  have c5 : (0 : Int) ≤ (i : Int) := by omega
  have c6 : (0 : Int) ≤ (j : Int) := by omega
  have HR := Lib.hid hr; have HR' := Lib.hid hr'; have HL := Lib.hid hl; have HM := Lib.hid hm; have HX := Lib.hid hx2
  clear hr hr' hl hm hx2
  obtain ⟨N, hN⟩ : ∃ N, i + n' + (n - j) = N := ⟨_, rfl⟩
  have c7 : (i : Int) ≤ (N : Int) := by omega
  have c8 : (i : Int) + (n' : Int) ≤ (N : Int) := by omega
  have c9 : (0 : Int) ≤ (i : Int) + (n' : Int) := by omega
  have e1 : (i : Int) + (n' : Int) + (n : Int) - (j : Int) = (N : Int) := by omega
  obtain ⟨X1, hX1⟩ : ∃ x, x = flat (l.take i) := ⟨_, rfl⟩
  obtain ⟨Y, hY⟩ : ∃ x, x = flat m := ⟨_, rfl⟩
  obtain ⟨X2, hX2⟩ : ∃ x, x = (flat l).drop (j * 8) := ⟨_, rfl⟩
  have HA := Lib.hid (show X1.length = Nat.min i N * 8 by rw [hX1, flat_len, List.length_take, HL.out]; show min i n * 8 = min i N * 8; omega)
  have HB := Lib.hid (show Y.length = Nat.min n' (N - i) * 8 by rw [hY, flat_len, HM.out]; show n' * 8 = min n' (N - i) * 8; omega)
  have HC := Lib.hid (show X2.length = Nat.min (n - j) (N - (i + n')) * 8 by rw [hX2, List.length_drop, flat_len, HL.out]; show n * 8 - j * 8 = min (n - j) (N - (i + n')) * 8; omega)
  have HA2 := Lib.hid (show X1.length = i * 8 by rw [HA.out]; show min i N * 8 = i * 8; omega)
  have HB2 := Lib.hid (show Y.length = n' * 8 by rw [HB.out]; show min n' (N - i) * 8 = n' * 8; omega)
  have HC2 := Lib.hid (show X2.length = (n - j) * 8 by rw [HC.out]; show min (n - j) (N - (i + n')) * 8 = (n - j) * 8; omega)
  have HR1 := Lib.hid (fun W (h : Below w.heap.size w W) => (by rw [hX1, flat_take]; exact (HR.out.take _).on h : RdV W ad X1))
  have HRY := Lib.hid (fun W (h : Below w.heap.size w W) => (by rw [hY]; exact HR'.out.on h : RdV W ad' Y))
  have HR2 := Lib.hid (fun W (h : Below w.heap.size w W) => (by rw [hX2]; exact HX.out.on h : RdV W adx X2))
  have HO1 := Lib.hid (show ∀ v ∈ X1, v.oneCell' = true by rw [hX1]; exact flat_oneC _)
  have HOY := Lib.hid (show ∀ v ∈ Y, v.oneCell' = true by rw [hY]; exact flat_oneC _)
  have HO2 := Lib.hid (show ∀ v ∈ X2, v.oneCell' = true by rw [hX2]; intro v hv; exact flat_oneC l v (List.mem_of_mem_drop hv))
  have HE := Lib.hid (show X1 ++ (Y ++ X2) = flat (l.take i ++ m ++ l.drop j) by rw [hX1, hY, hX2, flat_app, flat_app, flat_drop, List.append_assoc])
  have hmx : Tryd.prog.follows .mixedOrders = true := by kernel_rfl
  have htn : ((i : Int) + (n' : Int)).toNat = i + n' := by omega
  have hcs : (N = i ∧ n' = 0 ∧ n - j = 0) ∨ (¬ N = i ∧ N = i + n' ∧ n - j = 0) ∨ (¬ N = i ∧ ¬ N = i + n') := by omega
  have HN := Lib.hid hN
  rw [hN]
  clear hN hX1 hY hX2 HR HR' HX
  have hszS : (Tryd.prog.info? 28).map (·.size) = some 8 := by kernel_rfl
  rcases hcs with ⟨h1, h2, h3⟩ | ⟨h1, h2, h3⟩ | ⟨h1, h2⟩
  · subst h1 h2
    have hX0 : X2 = [] := List.eq_nil_of_length_eq_zero (by rw [HC2.out, h3])
    have hY0 : Y = [] := List.eq_nil_of_length_eq_zero (by rw [HB2.out])
    have HX0 := Lib.hid hX0
    have HY0 := Lib.hid hY0
    have HYN := Lib.hid (show ¬ 0 < Y.length by rw [hY0]; decide)
    have HYL := Lib.hid (show Y.length = Nat.min 0 0 * 8 by rw [hY0]; rfl)
    have H3 := Lib.hid h3
    clear hX0 hY0 h3 htn
    go_enter Tryd.func27, Tryd.ntmps27
    go_wp2_with (first
      | (at_make; refine wpl_makeV Tryd.underlying26 info_tree (by decide) rfl (by decide) _ rfl _ _ rfl _ _ _ _ N rfl rfl (by omega) (by omega) (by omega) ?_; intro w1 zs hzl hzb hb1)
      | (with_reducible refine wpl_spliceN rfl (.tmp 22) (.tmp 25) _ _ rfl 28 8 Tryd.underlying26 hszS _ _ _ _ _ _ rfl rfl _ 0 _ _ hzb X1 (by decide) HA.out (fun _ => rfl) (HR1.out _ hb1) (by rw [HA2.out, hzl]; omega) HO1.out _ w hb1 (Nat.le_refl _) ?_; intro w2 hz2 hb2)
      | (with_reducible refine wpl_spliceN rfl (.tmp 29) (.tmp 30) _ _ rfl 28 8 Tryd.underlying26 hszS _ _ _ _ _ _ rfl rfl _ (N * 8) _ _ hz2.out Y (by decide) HYL.out (fun h => absurd h HYN.out) (HRY.out _ hb2) (by rw [length_splice _ _ _ (by rw [HA2.out, hzl]; omega), HB2.out, hzl]; omega) HOY.out _ w hb2 (Nat.le_refl _) ?_; intro w3 hz3 hb3))

    have HZ3 := Lib.hid hzl
    clear hzb hb1 hb2 hzl
    have HB3 := Lib.hid (show BlkV w3.drew w.heap.size 28 (splice (splice zs 0 X1) (N * 8) Y) from hz3.out)
    have HD3 := Lib.hid (show Below w.heap.size w w3.drew from hb3.drew)
    have HFIT := Lib.hid (show (N + 0) * 8 + X2.length ≤ (splice (splice zs 0 X1) (N * 8) Y).length by rw [length_splice _ _ _ (by rw [length_splice _ _ _ (by rw [HA2.out, HZ3.out]; have := H3.out; omega), HB2.out, HZ3.out]; have := H3.out; omega), length_splice _ _ _ (by rw [HA2.out, HZ3.out]; have := H3.out; omega), HC2.out, HZ3.out]; have := H3.out; omega)
    go_region_law (refine step_spliceN rfl (.tmp 34) (.tmp 37) _ _ rfl 28 8 Tryd.underlying26 hszS (some ⟨w.heap.size, 0, none⟩) adx 0 0 (n - j) (cap - j) (by simp [Act.eval, Act.put]) (by simp [Act.eval, Act.put]) w.heap.size ((N + 0) * 8) (splice (splice zs 0 X1) (N * 8) Y) 28 HB3.out X2 (by decide) (by rw [HX0.out]; simp) (fun h => by rw [HX0.out] at h; cases h) (HR2.out _ HD3.out) HFIT.out HO2.out w.heap.size w HD3.out (Nat.le_refl _) ?_; intro w4 hz4 hb4)
    have HF := Lib.hid (show OwnPost 28 8 N (flat (l.take N ++ m ++ l.drop j)) w (.returned (.slice (some ⟨w.heap.size, 0, none⟩) N N)) w4 from by
      refine ⟨_, rfl, ?_, hb4⟩
      have := hz4.out
      rw [show (N + 0) * 8 = N * 8 + 0 * 8 by omega] at this
      rw [splice_all HA2.out HB2.out (by rw [HZ3.out, HC2.out]; have := H3.out; omega), HE.out] at this
      refine blk_own this (Nat.le_refl _) ?_ (by omega)
      rw [← HE.out, List.length_append, List.length_append, HA2.out, HB2.out, HC2.out]; have := H3.out; omega)
    clear hz4 hb4
    go_wp2
    go_ret
    exact HF.out
  · have hh1 : ¬ i = N := fun h => h1 h.symm
    have hX0 : X2 = [] := List.eq_nil_of_length_eq_zero (by rw [HC2.out, h3])
    have hsub : N - (i + n') = 0 := by omega
    have HX0 := Lib.hid hX0
    rw [← h2] at htn
    have H2 := Lib.hid h2
    have H3 := Lib.hid h3
    clear hX0 h2 h3 hsub
    go_enter Tryd.func27, Tryd.ntmps27
    go_wp2_with (first
      | (at_make; refine wpl_makeV Tryd.underlying26 info_tree (by decide) rfl (by decide) _ rfl _ _ rfl _ _ _ _ N rfl rfl (by omega) (by omega) (by omega) ?_; intro w1 zs hzl hzb hb1)
      | (with_reducible refine wpl_spliceN rfl (.tmp 22) (.tmp 25) _ _ rfl 28 8 Tryd.underlying26 hszS _ _ _ _ _ _ rfl rfl _ 0 _ _ hzb X1 (by decide) HA.out (fun _ => rfl) (HR1.out _ hb1) (by rw [HA2.out, hzl]; have := H2.out; omega) HO1.out _ w hb1 (Nat.le_refl _) ?_; intro w2 hz2 hb2)
      | (with_reducible refine wpl_spliceN rfl (.tmp 29) (.tmp 30) _ _ rfl 28 8 Tryd.underlying26 hszS _ _ _ _ _ _ rfl rfl _ (i * 8) _ _ hz2.out Y (by decide) HB.out (fun _ => rfl) (HRY.out _ hb2) (by rw [length_splice _ _ _ (by rw [HA2.out, hzl]; have := H2.out; omega), HB2.out, hzl]; have := H2.out; omega) HOY.out _ w hb2 (Nat.le_refl _) ?_; intro w3 hz3 hb3))
    have HZ3 := Lib.hid hzl
    clear hzb hb1 hb2 hzl
    have HB3 := Lib.hid (show BlkV w3.drew w.heap.size 28 (splice (splice zs 0 X1) (i * 8) Y) from hz3.out)
    have HD3 := Lib.hid (show Below w.heap.size w w3.drew from hb3.drew)
    have HFIT := Lib.hid (show (i + n') * 8 + X2.length ≤ (splice (splice zs 0 X1) (i * 8) Y).length by rw [length_splice _ _ _ (by rw [length_splice _ _ _ (by rw [HA2.out, HZ3.out]; have := H2.out; have := H3.out; omega), HB2.out, HZ3.out]; have := H2.out; have := H3.out; omega), length_splice _ _ _ (by rw [HA2.out, HZ3.out]; have := H2.out; have := H3.out; omega), HC2.out, HZ3.out]; have := H2.out; have := H3.out; omega)
    go_region_law (refine step_spliceN rfl (.tmp 34) (.tmp 37) _ _ rfl 28 8 Tryd.underlying26 hszS (some ⟨w.heap.size, 0, none⟩) adx 0 0 (n - j) (cap - j) (by simp [Act.eval, Act.put]) (by simp [Act.eval, Act.put]) w.heap.size ((i + n') * 8) (splice (splice zs 0 X1) (i * 8) Y) 28 HB3.out X2 (by decide) (by rw [HX0.out]; simp) (fun h => by rw [HX0.out] at h; cases h) (HR2.out _ HD3.out) HFIT.out HO2.out w.heap.size w HD3.out (Nat.le_refl _) ?_; intro w4 hz4 hb4)
    have HF := Lib.hid (show OwnPost 28 8 N (flat (l.take i ++ m ++ l.drop j)) w (.returned (.slice (some ⟨w.heap.size, 0, none⟩) N N)) w4 from by
      refine ⟨_, rfl, ?_, hb4⟩
      have := hz4.out
      rw [show (i + n') * 8 = i * 8 + n' * 8 by omega] at this
      rw [splice_all HA2.out HB2.out (by rw [HZ3.out, HC2.out]; have := H2.out; have := H3.out; omega), HE.out] at this
      refine blk_own this (Nat.le_refl _) ?_ (by omega)
      rw [← HE.out, List.length_append, List.length_append, HA2.out, HB2.out, HC2.out]; have := H2.out; have := H3.out; omega)
    clear hz4 hb4
    go_wp2
    go_ret
    exact HF.out
  · have hh1 : ¬ i = N := fun h => h1 h.symm
    have hh2 : ¬ i + n' = N := fun h => h2 h.symm
    go_enter Tryd.func27, Tryd.ntmps27
    go_wp2_with (first
      | (at_make; refine wpl_makeV Tryd.underlying26 info_tree (by decide) rfl (by decide) _ rfl _ _ rfl _ _ _ _ N rfl rfl (by omega) (by omega) (by omega) ?_; intro w1 zs hzl hzb hb1)
      | (with_reducible refine wpl_spliceN rfl (.tmp 22) (.tmp 25) _ _ rfl 28 8 Tryd.underlying26 hszS _ _ _ _ _ _ rfl rfl _ 0 _ _ hzb X1 (by decide) HA.out (fun _ => rfl) (HR1.out _ hb1) (by rw [HA2.out, hzl]; omega) HO1.out _ w hb1 (Nat.le_refl _) ?_; intro w2 hz2 hb2)
      | (with_reducible refine wpl_spliceN rfl (.tmp 29) (.tmp 30) _ _ rfl 28 8 Tryd.underlying26 hszS _ _ _ _ _ _ rfl rfl _ (i * 8) _ _ hz2.out Y (by decide) HB.out (fun _ => rfl) (HRY.out _ hb2) (by rw [length_splice _ _ _ (by rw [HA2.out, hzl]; omega), HB2.out, hzl]; omega) HOY.out _ w hb2 (Nat.le_refl _) ?_; intro w3 hz3 hb3))
    have HZ3 := Lib.hid hzl
    clear hzb hb1 hb2 hzl
    have HB3 := Lib.hid (show BlkV w3.drew w.heap.size 28 (splice (splice zs 0 X1) (i * 8) Y) from hz3.out)
    have HD3 := Lib.hid (show Below w.heap.size w w3.drew from hb3.drew)
    have HFIT := Lib.hid (show (i + n') * 8 + X2.length ≤ (splice (splice zs 0 X1) (i * 8) Y).length by rw [length_splice _ _ _ (by rw [length_splice _ _ _ (by rw [HA2.out, HZ3.out]; omega), HB2.out, HZ3.out]; omega), length_splice _ _ _ (by rw [HA2.out, HZ3.out]; omega), HC2.out, HZ3.out]; omega)
    go_region_law (refine step_spliceN rfl (.tmp 34) (.tmp 37) _ _ rfl 28 8 Tryd.underlying26 hszS (some ⟨w.heap.size, (i + n') * 8, none⟩) adx (N - (i + n')) (N - (i + n')) (n - j) (cap - j) (by simp [Act.eval, Act.put]) (by simp [Act.eval, Act.put]) w.heap.size ((i + n') * 8) (splice (splice zs 0 X1) (i * 8) Y) 28 HB3.out X2 (by decide) HC.out (fun _ => rfl) (HR2.out _ HD3.out) HFIT.out HO2.out w.heap.size w HD3.out (Nat.le_refl _) ?_; intro w4 hz4 hb4)
    have HF := Lib.hid (show OwnPost 28 8 N (flat (l.take i ++ m ++ l.drop j)) w (.returned (.slice (some ⟨w.heap.size, 0, none⟩) N N)) w4 from by
      refine ⟨_, rfl, ?_, hb4⟩
      have := hz4.out
      rw [show (i + n') * 8 = i * 8 + n' * 8 by omega] at this
      rw [splice_all HA2.out HB2.out (by rw [HZ3.out, HC2.out]; omega), HE.out] at this
      refine blk_own this (Nat.le_refl _) ?_ (by omega)
      rw [← HE.out, List.length_append, List.length_append, HA2.out, HB2.out, HC2.out]; omega)
    clear hz4 hb4
    go_wp2
    go_ret
    exact HF.out
end Go.Proofs.YtipibipaocpojaaDoor
