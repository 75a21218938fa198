/- The walks of ieee's timesFives, binaryOf. -/
import Derived.Test.YtokppjfaihkkcaaDoorF7
namespace Go.Proofs.YtokppjfaihkkcaaDoor
open Go.RowKit Go.Sort
set_option linter.unusedVariables false
set_option linter.unusedSimpArgs false

def fiveP (M : Nat) (E : Int) : Nat := if 0 ≤ E then M * 5 ^ E.toNat else M / 5 ^ (-E).toNat
theorem fives_some {M : Nat} {E : Int} : fives M E = if (fives M E).isSome then some (fiveP M E) else none := by
  unfold fives fiveP
  by_cases h : 0 ≤ E
  · rw [if_pos h, if_pos h]; rfl
  · rw [if_neg h, if_neg h]
    split <;> rfl

set_option maxHeartbeats 4000000 in
theorem timesFives_any {w0 w : World} {l : List Ent} (h : Ctx w0 w l) (i : Nat) {v : Value} {L M : Nat} {xs : List Nat} (hi : l[i]? = some ⟨v, L, M, xs⟩) (hL : L ≤ 100) (E : Int) (hE : -1200 ≤ E ∧ E ≤ 1200) :
    Calls Tryd.prog 72 #[v, .int .i64 E] w fun r w' => ∃ v', r = .returned (.tuple #[v', .bool (fives M E).isSome]) ∧ Ctx w0 w' (⟨v', 2000, fiveP M E, limbs (fiveP M E)⟩ :: l) := by
  by_cases h0 : 0 ≤ E
  · obtain ⟨k, hk⟩ : ∃ k : Nat, E = (k : Int) := ⟨E.toNat, by omega⟩
    have KP := Lib.hid (pow_c h (b := 5) (by decide) E k (by unfold cutP; omega))
    have KM := Lib.hid (fun w1 v1 (h1 : Ctx w0 w1 (⟨v1, k + 1, 5 ^ k, limbs (5 ^ k)⟩ :: l)) => mul_c h1 (i + 1) 0 (by rw [List.getElem?_cons_succ]; exact hi) rfl (by omega) (by omega))
    have H1 : Hid ((fives M E).isSome = true) := by unfold fives; rw [if_pos h0]; rfl
    have H2 : Hid (fiveP M E = M * 5 ^ k) := by unfold fiveP; rw [if_pos h0, hk]; rfl
    have hkb : k ≤ 1200 := by omega
    clear h hi hk
    go_enter Tryd.func72, Tryd.ntmps72
    go_wp2_with fail
    refine KP.out.mono ?_
    rintro r w1 ⟨v1, rfl, h1⟩
    have HH1 := Lib.hid h1; clear h1
    go_wp2_with fail
    refine (KM.out _ _ (by exact HH1.out)).mono ?_
    rintro r w2 ⟨v2, rfl, h2⟩
    have HH2 := Lib.hid h2; clear h2
    go_wp2
    go_ret2
    refine ⟨v2, by rw [H1.out]; rfl, ?_⟩
    rw [H2.out]
    have h3 := HH2.out
    have h4 : Ctx w0 w2 (⟨v2, L + (k + 1), M * 5 ^ k, limbs (M * 5 ^ k)⟩ :: l) := ⟨h3.below, fun y hy => h3.all y (by rcases List.mem_cons.1 hy with rfl | h5 <;> simp_all)⟩
    exact h4.wide (by omega)
  · obtain ⟨k, hk⟩ : ∃ k : Nat, E = -(k : Int) := ⟨(-E).toNat, by omega⟩
    have hlt : ¬ (E ≥ 0) := by omega
    have KP := Lib.hid (pow_c h (b := 5) (by decide) (-E) k (by unfold cutP; omega))
    have KM := Lib.hid (fun w1 v1 (h1 : Ctx w0 w1 (⟨v1, k + 1, 5 ^ k, limbs (5 ^ k)⟩ :: l)) => div_c h1 (i + 1) 0 (by rw [List.getElem?_cons_succ]; exact hi) rfl (by omega) (by omega))
    have H1 : Hid ((fives M E).isSome = decide (rmN M (5 ^ k) = 0)) := by
      unfold fives rmN; rw [if_neg h0, if_neg (Nat.pos_iff_ne_zero.1 (five_pos k)), show (-E).toNat = k by omega]
      by_cases hr : M % 5 ^ k = 0
      · rw [if_pos hr, decide_eq_true hr]; rfl
      · rw [if_neg hr, decide_eq_false hr]; rfl
    have H2 : Hid (fiveP M E = M / 5 ^ k) := by unfold fiveP; rw [if_neg h0, show (-E).toNat = k by omega]; exact rfl
    have hnw : IntKind.i64.wrap (-E) = -E := IntWalk.i64_in _ (by omega)
    have HK := Lib.hid hk
    clear h hi hk
    go_enter Tryd.func72, Tryd.ntmps72
    go_wp2_with fail
    refine KP.out.mono ?_
    rintro r w1 ⟨v1, rfl, h1⟩
    have HH1 := Lib.hid h1; clear h1
    go_wp2_with fail
    refine (KM.out _ _ (by exact HH1.out)).mono ?_
    rintro r w2 ⟨v2, v3, rfl, h2⟩
    obtain ⟨ad3, cap3, hv3, _⟩ := h2.get 1 rfl
    subst hv3
    have HH2 := Lib.hid h2; clear h2
    have HR := Lib.hid (limbs_nil_iff (rmN M (5 ^ k)))
    generalize hzz : limbs (rmN M (5 ^ k)) = zs at *
    have HZ := Lib.hid hzz; clear hzz
    have h3 := HH2.out
    have h4 : Ctx w0 w2 (⟨v2, L, M / 5 ^ k, limbs (M / 5 ^ k)⟩ :: l) := ⟨h3.below, fun y hy => h3.all y (by rcases List.mem_cons.1 hy with rfl | h5 <;> simp_all)⟩
    have H4 := Lib.hid (h4.wide (L' := 2000) (by omega))
    clear h3 h4
    have HB : Hid (((zs.length : Int) == 0) = decide (rmN M (5 ^ k) = 0)) := by
      unfold Hid
      rw [int_beq0]
      refine decide_eq_decide.2 ?_
      rw [← HR.out]
      exact ⟨fun h => List.eq_nil_of_length_eq_zero h, fun h => by rw [h]; rfl⟩
    go_wp2
    go_ret2
    refine ⟨v2, by rw [H1.out, ← HB.out]; rfl, ?_⟩
    rw [H2.out]
    exact H4.out

theorem Ctx.boxW {w0 w : World} {l : List Ent} {g : Nat} {b : Bool} {n x : Int} (h : Ctx w0 w l) (hg : w0.heap.size ≤ g)
    (c0 : w.cell? ⟨g, 0, none⟩ = some (.bool b)) (c1 : w.cell? ⟨g, 1, none⟩ = some (.int .u64 n)) (c2 : w.cell? ⟨g, 2, none⟩ = some (.int .i64 x)) (v0 v1 v2 : Value) :
    Ctx w0 (((w.setCell ⟨g, 0, none⟩ v0).setCell ⟨g, 1, none⟩ v1).setCell ⟨g, 2, none⟩ v2) l := by
  have d1 : (w.setCell ⟨g, 0, none⟩ v0).cell? ⟨g, 1, none⟩ = some (.int .u64 n) := by rw [World.cell?_setCell_other (h := by simp)]; exact c1
  have d2 : ((w.setCell ⟨g, 0, none⟩ v0).setCell ⟨g, 1, none⟩ v1).cell? ⟨g, 2, none⟩ = some (.int .i64 x) := by
    rw [World.cell?_setCell_other (h := by simp), World.cell?_setCell_other (h := by simp)]; exact c2
  exact ((h.setBox hg c0 (fun _ => by simp) v0).setBox hg d1 (fun _ => by simp) v1).setBox hg d2 (fun _ => by simp) v2
theorem tz_bd {P n : Nat} (h0 : P ≠ 0) (hP : P < B32 ^ n) : tz P < 32 * n := by
  obtain ⟨a, b⟩ := tz_spec h0
  have e : B32 ^ n = 2 ^ (32 * n) := by rw [Nat.pow_mul]; rfl
  rw [e] at hP
  have h1 : 2 ^ tz P ≤ P := by
    conv => rhs; rw [a]
    exact Nat.le_mul_of_pos_left _ (odd_pos h0)
  exact two_lt_iff.1 (Nat.lt_of_le_of_lt h1 hP)
theorem bits_bd {P n : Nat} (h0 : P ≠ 0) (hP : P < B32 ^ n) : bitsN P ≤ 32 * n := by
  obtain ⟨t, h1, h2, h3⟩ := bitsN_bounds h0
  have e : B32 ^ n = 2 ^ (32 * n) := by rw [Nat.pow_mul]; rfl
  rw [e] at hP
  have := two_lt_iff.1 (Nat.lt_of_le_of_lt h2 hP)
  omega
/-- What binaryOf answers: an odd natural, so many twos. -/
def bofA (neg : Bool) (M : Nat) (E : Int) : Value := match fives M E with
  | none => .tuple #[binV false 0 0, .bool false]
  | some P => if odd P < 2 ^ 64 then .tuple #[binV neg (odd P) (E + (tz P : Int)), .bool true] else .tuple #[binV false 0 0, .bool false]

set_option maxHeartbeats 8000000 in
theorem binaryOf_any {w0 w : World} {l : List Ent} (h : Ctx w0 w l) (hT : DB w) (i : Nat) {v : Value} {L M : Nat} {xs : List Nat} (hi : l[i]? = some ⟨v, L, M, xs⟩) (hL : L ≤ 100) (hM : M ≠ 0) (ng : Bool) (E : Int) (hE : -1200 ≤ E ∧ E ≤ 1200) :
    Calls Tryd.prog 48 #[.agg #[.bool ng, v, .int .i64 E]] w fun r w' => r = .returned (bofA ng M E) ∧ Ctx w0 w' l := by
  have hb1 := below_box' w #[.bool ng, v, .int .i64 E] 25
  have hb2 := hb1.alloc hb1.size (.cells #[.bool false, .int .u64 0, .int .i64 0] 73)
  have h2 := h.step hb2
  have z0 : ((w.alloc (.cells #[.bool ng, v, .int .i64 E] 25)).alloc (.cells #[.bool false, .int .u64 0, .int .i64 0] 73)).cell? ⟨w.heap.size, 0, none⟩ = some (.bool ng) := by rw [cell_old _ _ _ _ (by simp), cell_new]; rfl
  have z1 : ((w.alloc (.cells #[.bool ng, v, .int .i64 E] 25)).alloc (.cells #[.bool false, .int .u64 0, .int .i64 0] 73)).cell? ⟨w.heap.size, 1, none⟩ = some v := by rw [cell_old _ _ _ _ (by simp), cell_new]; rfl
  have z2 : ((w.alloc (.cells #[.bool ng, v, .int .i64 E] 25)).alloc (.cells #[.bool false, .int .u64 0, .int .i64 0] 73)).cell? ⟨w.heap.size, 2, none⟩ = some (.int .i64 E) := by rw [cell_old _ _ _ _ (by simp), cell_new]; rfl
  have y0 : ((w.alloc (.cells #[.bool ng, v, .int .i64 E] 25)).alloc (.cells #[.bool false, .int .u64 0, .int .i64 0] 73)).cell? ⟨w.heap.size + 1, 0, none⟩ = some (.bool false) := by rw [cell_at _ _ _ _ _ (by simp)]; rfl
  have y1 : ((w.alloc (.cells #[.bool ng, v, .int .i64 E] 25)).alloc (.cells #[.bool false, .int .u64 0, .int .i64 0] 73)).cell? ⟨w.heap.size + 1, 1, none⟩ = some (.int .u64 0) := by rw [cell_at _ _ _ _ _ (by simp)]; rfl
  have y2 : ((w.alloc (.cells #[.bool ng, v, .int .i64 E] 25)).alloc (.cells #[.bool false, .int .u64 0, .int .i64 0] 73)).cell? ⟨w.heap.size + 1, 2, none⟩ = some (.int .i64 0) := by rw [cell_at _ _ _ _ _ (by simp)]; rfl
  have yf : ∀ j, ((w.alloc (.cells #[.bool ng, v, .int .i64 E] 25)).alloc (.cells #[.bool false, .int .u64 0, .int .i64 0] 73)).frozen? ⟨w.heap.size + 1, j, none⟩ = false := fun j => by rw [show w.heap.size + 1 = (w.alloc (.cells #[.bool ng, v, .int .i64 E] 25)).heap.size by simp]; exact World.frozen?_alloc_new ..
  have hzz : ((w.alloc (.cells #[.bool ng, v, .int .i64 E] 25)).alloc (.cells #[.bool false, .int .u64 0, .int .i64 0] 73)).heap.size = w.heap.size + 2 := by simp
  have hT2 := hT.below hb2
  have KF := Lib.hid (timesFives_any h2.again i hi hL E hE)
  have hg := Lib.hid h.below.size
  obtain ⟨ad, cap, hv, a2, a3, a4, a5, a6⟩ := h.get i hi
  have hlo := a4
  subst hv
  generalize hW : (w.alloc (.cells #[.bool ng, .slice ad xs.length cap, .int .i64 E] 25)).alloc (.cells #[.bool false, .int .u64 0, .int .i64 0] 73) = W at *
  have HW := Lib.hid hW
  have HH := Lib.hid h2
  have HT := Lib.hid hT2
  have hz0 : w.heap.size < W.heap.size := by omega
  have hz1 : w.heap.size + 1 < W.heap.size := by omega
  have hM2 : ∀ P, fives M E = some P → P ≠ 0 := fun P hP => fives_ne hM hP
  have hfs := fives_some (M := M) (E := E)
  have HFS := Lib.hid hfs
  have HM2 := Lib.hid hM2
  clear h h2 hb1 hb2 hW hT hT2 a2 a3 a4 a5 a6 hlo hM2 hfs hM
  go_enter Tryd.func48, Tryd.ntmps48
  go_wp2_with fail
  rw [HW.out]
  refine KF.out.mono ?_
  rintro r w1 ⟨v1, rfl, h1⟩
  have hB1 := h1.below
  have H1 := Lib.hid h1
  have q0 := (hB1.cell (p := ⟨w.heap.size, 0, none⟩) hz0).trans z0
  have q2 := (hB1.cell (p := ⟨w.heap.size, 2, none⟩) hz0).trans z2
  have x0 := (hB1.cell (p := ⟨w.heap.size + 1, 0, none⟩) hz1).trans y0
  have x1 := (hB1.cell (p := ⟨w.heap.size + 1, 1, none⟩) hz1).trans y1
  have x2 := (hB1.cell (p := ⟨w.heap.size + 1, 2, none⟩) hz1).trans y2
  have xf0 := (hB1.frozen (p := ⟨w.heap.size + 1, 0, none⟩) hz1).trans (yf 0)
  have xf1 := (hB1.frozen (p := ⟨w.heap.size + 1, 1, none⟩) hz1).trans (yf 1)
  have xf2 := (hB1.frozen (p := ⟨w.heap.size + 1, 2, none⟩) hz1).trans (yf 2)
  have HTw := Lib.hid (HT.out.below hB1)
  have HCw := Lib.hid (HH.out.step hB1)
  cases hsome : (fives M E).isSome
  · have hno : fives M E = none := by have h := HFS.out; rw [hsome] at h; simpa using h
    have HA : Hid (bofA ng M E = .tuple #[binV false 0 0, .bool false]) := by unfold bofA; rw [hno]; rfl
    have HX := Lib.hid (HCw.out.boxW (g := w.heap.size + 1) (Nat.le_succ_of_le hg.out) x0 x1 x2 (.bool false) (.int .u64 0) (.int .i64 0))
    clear h1 hB1 z0 z1 z2 y0 y1 y2 yf hno
    go_wp2_with fail
    exact bodyPost_ret (v := .tuple #[binV false 0 0, .bool false]) (by simp [results, Tryd.results48, go_sem, x0, x1, x2, binV]) rfl ⟨by rw [HA.out], HX.out⟩
  · have hyes : fives M E = some (fiveP M E) := by have h := HFS.out; rw [hsome] at h; simpa using h
    have hP0 := HM2.out _ hyes
    have hbA : bofA ng M E = if odd (fiveP M E) < 2 ^ 64 then .tuple #[binV ng (odd (fiveP M E)) (E + (tz (fiveP M E) : Int)), .bool true] else .tuple #[binV false 0 0, .bool false] := by unfold bofA; rw [hyes]
    obtain ⟨ad1, cap1, hv1, g2, g3, g4, g5, g6⟩ := h1.get 0 rfl
    subst hv1
    have hl1 := limbs_lt_pow (fiveP M E)
    have hob := odd_bits hP0
    have htb := tz_bd hP0 hl1
    have hbb := bits_bd hP0 hl1
    have hvl : val (limbs (fiveP M E)) ≠ 0 := by rw [val_limbs]; exact hP0
    have KZ := Lib.hid (zeroBits_any ad1 (limbs (fiveP M E)).length cap1 (limbs (fiveP M E)) w1 rfl g2 (by omega) g4 g5 hvl HTw.out)
    have KB := Lib.hid (bits_c h1 0 rfl (by omega))
    have hdiv : val (limbs (fiveP M E)) / 2 ^ tz (fiveP M E) = odd (fiveP M E) := by rw [val_limbs]; rfl
    have KW := Lib.hid (fun (ho : odd (fiveP M E) < 2 ^ 64) W (hW : Below w1.heap.size w1 W) => wordFrom_any ad1 (limbs (fiveP M E)).length cap1 (limbs (fiveP M E)) (tz (fiveP M E)) W rfl g2 (by omega) g4 (g5.below hW) (by rw [hdiv]; exact ho) (by omega))
    rw [val_limbs] at KZ
    rw [hdiv] at KW
    have HBA := Lib.hid hbA
    have HOB := Lib.hid hob
    clear h1 hB1 z0 z1 z2 y0 y1 y2 yf g4 g5 g6 hl1 hvl hdiv hbA hob hyes hP0
    generalize (limbs (fiveP M E)).length = n1 at *
    generalize tz (fiveP M E) = zP at *
    generalize bitsN (fiveP M E) = bP at *
    generalize odd (fiveP M E) = oP at *
    have hws : IntKind.i64.wrap ((bP : Int) - (zP : Int)) = (bP : Int) - (zP : Int) := IntWalk.i64_in _ (by omega)
    have hwe : IntKind.i64.wrap (E + (zP : Int)) = E + (zP : Int) := IntWalk.i64_in _ (by omega)
    go_wp2_with fail
    refine KZ.out.mono ?_
    rintro r w2 ⟨rfl, rfl⟩
    go_wp2_with fail
    refine KB.out.mono ?_
    rintro r w2 ⟨rfl, rfl⟩
    by_cases ho : oP < 2 ^ 64
    · have hA := HBA.out
      rw [if_pos ho] at hA
      have HA := Lib.hid hA
      have hng : ¬ (64 < (bP : Int) - (zP : Int)) := fun h => HOB.out.1 h ho
      have KW2 := Lib.hid (KW.out ho)
      have HCx := Lib.hid (HCw.out.step (below_drew (Below.refl _ _)))
      have HX := Lib.hid (HCx.out.boxW (g := w.heap.size + 1) (Nat.le_succ_of_le hg.out) (by exact x0) (by exact x1) (by exact x2) (.bool ng) (.int .u64 (oP : Int)) (.int .i64 (E + (zP : Int))))
      have hne1 : ¬ w.heap.size + 1 = w.heap.size := by omega
      clear hA KW HBA HOB ho
      go_wp2_with fail
      go_region_held3 (fun w' => w'.cell? ⟨w.heap.size, 0, none⟩ = some (.bool ng) ∧ w'.cell? ⟨w.heap.size, 2, none⟩ = some (.int .i64 E)) (go_keep)
        (first | (go_at_call 75; refine (KW2.out _ (by exact below_drew (Below.refl _ _))).mono ?_; rintro r w3 ⟨rfl, rfl⟩))
      all_goals
        go_wp2_with fail
        exact bodyPost_ret (v := .tuple #[binV ng oP (E + (zP : Int)), .bool true]) (by simp [results, Tryd.results48, go_sem, x0, x1, x2, binV]) rfl ⟨by rw [HA.out], HX.out⟩
    · have hA := HBA.out
      rw [if_neg ho] at hA
      have HA := Lib.hid hA
      have hng : 64 < (bP : Int) - (zP : Int) := HOB.out.2 ho
      have HX := Lib.hid (HCw.out.boxW (g := w.heap.size + 1) (Nat.le_succ_of_le hg.out) x0 x1 x2 (.bool false) (.int .u64 0) (.int .i64 0))
      clear hA KW HBA HOB ho
      go_wp2_with fail
      exact bodyPost_ret (v := .tuple #[binV false 0 0, .bool false]) (by simp [results, Tryd.results48, go_sem, x0, x1, x2, binV]) rfl ⟨by rw [HA.out], HX.out⟩
end Go.Proofs.YtokppjfaihkkcaaDoor
