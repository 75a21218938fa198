/- For the law NumAll: Make of any natural and exponent, the program's and the reference's; the reference's Of. -/
import Derived.Test.YtogapgjilbcbfaaGreatDoorXa
import Derived.Test.YtogapgjilbcbfaaGreatDoorNi
namespace Go.Proofs.YtogapgjilbcbfaaGreatDoor
open Go.RowKit Go.Sort
set_option linter.unusedVariables false
set_option linter.unusedSimpArgs false

set_option maxHeartbeats 8000000 in
theorem refMake_no2 {w0 w : World} {l : List Ent} {v : Value} {L N : Nat} {xs : List Nat} (h : Ctx w0 w l) (i : Nat) (hi : l[i]? = some ⟨v, L, N, xs⟩) (hL : L ≤ 1000000) (neg : Bool) (e : Int)
    (m k : Nat) (hN : N = m * tenN k) (hm : m % 10 ≠ 0) (hno : ¬ ((limbs m).length ≤ 90 ∧ -1200 ≤ e + (k : Int) ∧ e + (k : Int) ≤ 1200)) (he1 : -1099511627776 ≤ e) (he2 : e ≤ 1099511627776) :
    Calls Tryz.prog 9 #[.bool neg, v, .int .i64 e] w (MadePost w0 l L false 0 0 false) := by
  have hb1 : Below w.heap.size w (w.alloc (.cells #[.bool false, .slice none 0 0, .int .i64 0] 24)) := (Below.refl _ _).alloc (Nat.le_refl _) _
  have h1 := h.step hb1
  have hW := Lib.hid h.below.size
  have K := Lib.hid (refTrim_c h1.again i hi (by omega))
  have H1 := Lib.hid h1.below
  have hne : m ≠ 0 := by intro h0; rw [h0] at hm; exact hm rfl
  have hlb : (((limbs m).length : Int) == 0) = false := by
    rw [beq_eq_false_iff_ne]
    intro h0
    exact hne ((limbs_nil_iff m).1 (List.eq_nil_of_length_eq_zero (by omega)))
  have hN0 : N ≠ 0 := by rw [hN]; exact Nat.mul_ne_zero hne (tenN_ne _)
  have HM := Lib.hid hm
  have HE := Lib.hid hN
  have HNO := Lib.hid hno
  clear h h1 hi hb1 hne hm hN hno
  go_enter Tryz.func9, Tryz.ntmps9
  go_wp2_with fail
  refine K.out.mono ?_
  rintro r w1 ⟨t, m', k', rfl, q1, q2, q3, hk4, h2⟩
  obtain ⟨rfl, rfl⟩ : m = m' ∧ k = k' := ten_unique (by rw [← q1, ← HE.out]) HM.out (q3 hN0)
  have hv := h2.get 0 rfl
  obtain ⟨ad, cap, rfl, a2, a3, a4, a5, a6⟩ := hv
  obtain ⟨hc, hf⟩ := bcell h2.below
  have hz : w.heap.size < w1.heap.size := by have := h2.below.size; simp at this; omega
  have H2 := Lib.hid h2; clear h2 q1 q2 q3 a4 a5 a6 a3
  have hno := HNO.out
  generalize hn : (limbs m).length = n at *
  have HN := Lib.hid hn; clear hn
  have hsum : IntKind.i64.wrap (e + (k : Int)) = e + (k : Int) := IntWalk.i64_in _ (by omega)
  have g2 : ¬ (e < -1099511627776) := by omega
  have g3 : ¬ (1099511627776 < e) := by omega
  have g4 : ¬ (1099511627776 < (k : Int)) := by omega
  by_cases c1 : 90 < n
  · have g1 : (90 : Int) < (n : Int) := by omega
    clear hno
    go_wp2_with fail
    have H3 := Ctx.back H1.out H2.out
    refine bodyPost_ret (v := .tuple #[.agg #[.bool false, .slice none 0 0, .int .i64 0], .bool false]) (by simp [results, Tryz.results9, go_sem, hc]) rfl ⟨_, rfl, ?_⟩
    have H4 := H3.box3 hW.out (b := false) (a := none) (n := 0) (c := 0) (x := 0) (by simp [hc]) (by simp [hc]) (by simp [hc]) (.bool false) (.slice none 0 0) (.int .i64 0)
    exact (H4.drop1).push (ent_nil _ _)
  · have g1 : ¬ (90 : Int) < (n : Int) := by omega
    by_cases c2 : e + (k : Int) < -1200
    · clear hno
      go_wp2_with fail
      have H3 := Ctx.back H1.out H2.out
      refine bodyPost_ret (v := .tuple #[.agg #[.bool false, .slice none 0 0, .int .i64 0], .bool false]) (by simp [results, Tryz.results9, go_sem, hc]) rfl ⟨_, rfl, ?_⟩
      have H4 := H3.box3 hW.out (b := false) (a := none) (n := 0) (c := 0) (x := 0) (by simp [hc]) (by simp [hc]) (by simp [hc]) (.bool false) (.slice none 0 0) (.int .i64 0)
      exact (H4.drop1).push (ent_nil _ _)
    · have g6 : 1200 < e + (k : Int) := by omega
      clear hno
      go_wp2_with fail
      have H3 := Ctx.back H1.out H2.out
      refine bodyPost_ret (v := .tuple #[.agg #[.bool false, .slice none 0 0, .int .i64 0], .bool false]) (by simp [results, Tryz.results9, go_sem, hc]) rfl ⟨_, rfl, ?_⟩
      have H4 := H3.box3 hW.out (b := false) (a := none) (n := 0) (c := 0) (x := 0) (by simp [hc]) (by simp [hc]) (by simp [hc]) (.bool false) (.slice none 0 0) (.int .i64 0)
      exact (H4.drop1).push (ent_nil _ _)
set_option maxHeartbeats 8000000 in
theorem refMake_far {w0 w : World} {l : List Ent} {v : Value} {L N : Nat} {xs : List Nat} (h : Ctx w0 w l) (i : Nat) (hi : l[i]? = some ⟨v, L, N, xs⟩) (hL : L ≤ 1000000) (neg : Bool) (e : Int)
    (m k : Nat) (hN : N = m * tenN k) (hm : m % 10 ≠ 0) (hfar : e < -1099511627776 ∨ 1099511627776 < e) :
    Calls Tryz.prog 9 #[.bool neg, v, .int .i64 e] w (MadePost w0 l L false 0 0 false) := by
  have hb1 : Below w.heap.size w (w.alloc (.cells #[.bool false, .slice none 0 0, .int .i64 0] 24)) := (Below.refl _ _).alloc (Nat.le_refl _) _
  have h1 := h.step hb1
  have hW := Lib.hid h.below.size
  have K := Lib.hid (refTrim_c h1.again i hi (by omega))
  have H1 := Lib.hid h1.below
  have hne : m ≠ 0 := by intro h0; rw [h0] at hm; exact hm rfl
  have hlb : (((limbs m).length : Int) == 0) = false := by
    rw [beq_eq_false_iff_ne]
    intro h0
    exact hne ((limbs_nil_iff m).1 (List.eq_nil_of_length_eq_zero (by omega)))
  have hN0 : N ≠ 0 := by rw [hN]; exact Nat.mul_ne_zero hne (tenN_ne _)
  have HM := Lib.hid hm
  have HE := Lib.hid hN
  clear h h1 hi hb1 hne hm hN
  go_enter Tryz.func9, Tryz.ntmps9
  go_wp2_with fail
  refine K.out.mono ?_
  rintro r w1 ⟨t, m', k', rfl, q1, q2, q3, hk4, h2⟩
  obtain ⟨rfl, rfl⟩ : m = m' ∧ k = k' := ten_unique (by rw [← q1, ← HE.out]) HM.out (q3 hN0)
  have hv := h2.get 0 rfl
  obtain ⟨ad, cap, rfl, a2, a3, a4, a5, a6⟩ := hv
  obtain ⟨hc, hf⟩ := bcell h2.below
  have hz : w.heap.size < w1.heap.size := by have := h2.below.size; simp at this; omega
  have H2 := Lib.hid h2; clear h2 q1 q2 q3 a4 a5 a6 a3
  generalize hn : (limbs m).length = n at *
  have HN := Lib.hid hn; clear hn
  by_cases c1 : 90 < n
  · have g1 : (90 : Int) < (n : Int) := by omega
    clear hfar
    go_wp2_with fail
    have H3 := Ctx.back H1.out H2.out
    refine bodyPost_ret (v := .tuple #[.agg #[.bool false, .slice none 0 0, .int .i64 0], .bool false]) (by simp [results, Tryz.results9, go_sem, hc]) rfl ⟨_, rfl, ?_⟩
    have H4 := H3.box3 hW.out (b := false) (a := none) (n := 0) (c := 0) (x := 0) (by simp [hc]) (by simp [hc]) (by simp [hc]) (.bool false) (.slice none 0 0) (.int .i64 0)
    exact (H4.drop1).push (ent_nil _ _)
  · have g1 : ¬ (90 : Int) < (n : Int) := by omega
    by_cases c2 : e < -1099511627776
    · clear hfar
      go_wp2_with fail
      have H3 := Ctx.back H1.out H2.out
      refine bodyPost_ret (v := .tuple #[.agg #[.bool false, .slice none 0 0, .int .i64 0], .bool false]) (by simp [results, Tryz.results9, go_sem, hc]) rfl ⟨_, rfl, ?_⟩
      have H4 := H3.box3 hW.out (b := false) (a := none) (n := 0) (c := 0) (x := 0) (by simp [hc]) (by simp [hc]) (by simp [hc]) (.bool false) (.slice none 0 0) (.int .i64 0)
      exact (H4.drop1).push (ent_nil _ _)
    · have g2 : 1099511627776 < e := by omega
      clear hfar
      go_wp2_with fail
      have H3 := Ctx.back H1.out H2.out
      refine bodyPost_ret (v := .tuple #[.agg #[.bool false, .slice none 0 0, .int .i64 0], .bool false]) (by simp [results, Tryz.results9, go_sem, hc]) rfl ⟨_, rfl, ?_⟩
      have H4 := H3.box3 hW.out (b := false) (a := none) (n := 0) (c := 0) (x := 0) (by simp [hc]) (by simp [hc]) (by simp [hc]) (.bool false) (.slice none 0 0) (.int .i64 0)
      exact (H4.drop1).push (ent_nil _ _)
/-- What Make answers, of any natural and any exponent. -/
def mkOk (N : Nat) (e : Int) : Bool := decide (N = 0 ∨ ((limbs (trimM N)).length ≤ 90 ∧ -1200 ≤ e + (trimK N : Int) ∧ e + (trimK N : Int) ≤ 1200))
def mkNeg (neg : Bool) (N : Nat) (e : Int) : Bool := mkOk N e && decide (N ≠ 0) && neg
def mkM (N : Nat) (e : Int) : Nat := if mkOk N e = true ∧ N ≠ 0 then trimM N else 0
def mkE (N : Nat) (e : Int) : Int := if mkOk N e = true ∧ N ≠ 0 then e + (trimK N : Int) else 0
theorem make_all {w0 w : World} {l : List Ent} {v : Value} {L N : Nat} {xs : List Nat} (h : Ctx w0 w l) (i : Nat) (hi : l[i]? = some ⟨v, L, N, xs⟩) (hL : L ≤ 1000000) (neg : Bool) (e : Int) (hE : -9223372036854775808 ≤ e) :
    Calls Tryz.prog 7 #[.bool neg, v, .int .i64 e] w (MadePost w0 l L (mkNeg neg N e) (mkM N e) (mkE N e) (mkOk N e)) := by
  by_cases h0 : N = 0
  · subst h0
    have e1 : mkOk 0 e = true := by unfold mkOk; simp
    rw [show mkNeg neg 0 e = false from by unfold mkNeg; simp, show mkM 0 e = 0 from by unfold mkM; simp, show mkE 0 e = 0 from by unfold mkE; simp, e1]
    exact make_zero h i hi hL neg e
  · obtain ⟨a, b⟩ := trim_spec h0
    by_cases hr : (limbs (trimM N)).length ≤ 90 ∧ -1200 ≤ e + (trimK N : Int) ∧ e + (trimK N : Int) ≤ 1200
    · have e1 : mkOk N e = true := by unfold mkOk; exact decide_eq_true (.inr hr)
      rw [show mkNeg neg N e = neg from by unfold mkNeg; rw [e1]; simp [h0], show mkM N e = trimM N from by unfold mkM; rw [if_pos ⟨e1, h0⟩], show mkE N e = e + (trimK N : Int) from by unfold mkE; rw [if_pos ⟨e1, h0⟩], e1]
      exact make_yes h i hi hL neg e _ _ a b hr.1 hr.2.1 hr.2.2
    · have e1 : mkOk N e = false := by unfold mkOk; exact decide_eq_false (fun h => h.elim h0 hr)
      rw [show mkNeg neg N e = false from by unfold mkNeg; rw [e1]; rfl, show mkM N e = 0 from by unfold mkM; rw [if_neg (fun h => by rw [e1] at h; exact absurd h.1 (by decide))], show mkE N e = 0 from by unfold mkE; rw [if_neg (fun h => by rw [e1] at h; exact absurd h.1 (by decide))], e1]
      exact make_no h i hi hL neg e _ _ a b hr hE
theorem rmake_all {w0 w : World} {l : List Ent} {v : Value} {L N : Nat} {xs : List Nat} (h : Ctx w0 w l) (i : Nat) (hi : l[i]? = some ⟨v, L, N, xs⟩) (hL : L ≤ 1000000) (neg : Bool) (e : Int) :
    Calls Tryz.prog 9 #[.bool neg, v, .int .i64 e] w (MadePost w0 l L (mkNeg neg N e) (mkM N e) (mkE N e) (mkOk N e)) := by
  by_cases h0 : N = 0
  · subst h0
    have e1 : mkOk 0 e = true := by unfold mkOk; simp
    rw [show mkNeg neg 0 e = false from by unfold mkNeg; simp, show mkM 0 e = 0 from by unfold mkM; simp, show mkE 0 e = 0 from by unfold mkE; simp, e1]
    exact refMake_zero h i hi hL neg e
  · obtain ⟨a, b⟩ := trim_spec h0
    by_cases hr : (limbs (trimM N)).length ≤ 90 ∧ -1200 ≤ e + (trimK N : Int) ∧ e + (trimK N : Int) ≤ 1200
    · have e1 : mkOk N e = true := by unfold mkOk; exact decide_eq_true (.inr hr)
      rw [show mkNeg neg N e = neg from by unfold mkNeg; rw [e1]; simp [h0], show mkM N e = trimM N from by unfold mkM; rw [if_pos ⟨e1, h0⟩], show mkE N e = e + (trimK N : Int) from by unfold mkE; rw [if_pos ⟨e1, h0⟩], e1]
      exact refMake_yes h i hi hL neg e _ _ a b hr.1 _ rfl hr.2.1 hr.2.2
    · have e1 : mkOk N e = false := by unfold mkOk; exact decide_eq_false (fun h => h.elim h0 hr)
      rw [show mkNeg neg N e = false from by unfold mkNeg; rw [e1]; rfl, show mkM N e = 0 from by unfold mkM; rw [if_neg (fun h => by rw [e1] at h; exact absurd h.1 (by decide))], show mkE N e = 0 from by unfold mkE; rw [if_neg (fun h => by rw [e1] at h; exact absurd h.1 (by decide))], e1]
      by_cases hf : e < -1099511627776 ∨ 1099511627776 < e
      · exact refMake_far h i hi hL neg e _ _ a b hf
      · exact refMake_no2 h i hi hL neg e _ _ a b hr (by omega) (by omega)
set_option maxHeartbeats 8000000 in
set_option maxRecDepth 100000 in
theorem rof_any {w0 w : World} {l : List Ent} (h : Ctx w0 w l) (v : Int) (hv : -9223372036854775808 ≤ v ∧ v ≤ 9223372036854775807) (k : Nat) (hk : v.natAbs = k) (h0 : k ≠ 0) :
    Calls Tryz.prog 23 #[.int .i64 v] w (OfPost w0 l (decide (v < 0)) (trimM k) ((trimK k : Nat) : Int)) := by
  have hk64 : k < 18446744073709551616 := by omega
  obtain ⟨t1, t2, t3, t4⟩ := trim64 h0 hk64
  have hb1 := below_box w #[.bool false, .slice none 0 0, .int .i64 0] 24
  have h1 := h.step hb1
  have hl1 : k % 4294967296 < B32 := by rw [B32_eq]; omega
  have hl2 : k / 4294967296 < B32 := by rw [B32_eq]; omega
  have hvl : val [k % 4294967296, k / 4294967296] = k := by simp [val]; rw [B32_eq]; omega
  have h2 := h1.again.lits2 (Okl.cons hl1 (Okl.cons hl2 Okl.nil)) hvl 2 rfl #[.int .u32 ((k : Int) % 4294967296), .int .u32 ((k : Int) / 4294967296)] (by simp [lv])
  have KM := Lib.hid (refMake_yes h2.again 0 rfl (by decide) (decide (v < 0)) 0 (trimM k) (trimK k) t1 t2 (by omega) ((trimK k : Nat) : Int) (by omega) (by omega) (by omega))
  have H2 := Lib.hid h2
  have H1 := Lib.hid h1
  have hW := Lib.hid h.below.size
  clear h h1 h2 hb1 t1 t2
  by_cases hs : v < 0
  · rw [decide_eq_true hs] at KM
    have HD := Lib.hid (decide_eq_true hs)
    obtain rfl : v = -(k : Int) := by omega
    clear hk
    have hw1 : IntKind.u64.wrap (-IntKind.u64.wrap (-(k : Int))) = (k : Int) := by
      have hx : ∀ x : Int, IntKind.u64.wrap x = x % 18446744073709551616 := fun x => rfl
      rw [hx, hx]; omega
    have hw2 : (k : Int) / 4294967296 % 4294967296 = (k : Int) / 4294967296 := by omega
    go_enter Tryz.func23, Tryz.ntmps23
    go_wp2_with fail
    refine KM.out.mono ?_
    rintro r w1 ⟨v1, rfl, hm1⟩
    obtain ⟨ad1, cap1, hv1, _⟩ := hm1.get 0 rfl
    generalize hn1 : (limbs (trimM k)).length = n1 at *
    subst hv1
    obtain ⟨hc, hf⟩ := bcell hm1.below
    have hz : w.heap.size < w1.heap.size := by have := hm1.below.size; simp at this; omega
    have HM := Lib.hid hm1; have HN1 := Lib.hid hn1
    clear hm1 hn1
    go_wp2
    have d0 : w1.cell? ⟨w.heap.size, 0, none⟩ = some (.bool false) := by rw [hc _ _ (by simp <;> omega)]; simp [World.cell?_alloc_lt]
    have d1 : w1.cell? ⟨w.heap.size, 1, none⟩ = some (.slice none 0 0) := by rw [hc _ _ (by simp <;> omega)]; simp [World.cell?_alloc_lt]
    have d2 : w1.cell? ⟨w.heap.size, 2, none⟩ = some (.int .i64 0) := by rw [hc _ _ (by simp <;> omega)]; simp [World.cell?_alloc_lt]
    have H3 := ((HM.out.on H2.out).on H1.out).drop2
    have H4 := (H3.box3 hW.out d0 d1 d2 (.bool true) (.slice ad1 n1 cap1) (.int .i64 ((trimK k : Nat) : Int))).step (below_box _ #[.bool true, .slice ad1 n1 cap1, .int .i64 ((trimK k : Nat) : Int)] 24)
    obtain ⟨g0, g1, g2⟩ := box3_cells (w := w1) (g := w.heap.size) hz d0 d1 d2 (.bool true) (.slice ad1 n1 cap1) (.int .i64 ((trimK k : Nat) : Int)) #[.bool true, .slice ad1 n1 cap1, .int .i64 ((trimK k : Nat) : Int)] 24
    refine bodyPost_ret (v := .agg #[.bool true, .slice ad1 n1 cap1, .int .i64 ((trimK k : Nat) : Int)]) (by simp [results, Tryz.results23, go_sem, g0, g1, g2]) rfl ⟨_, by rw [HD.out], ?_⟩
    exact H4
  · rw [decide_eq_false hs] at KM
    have HD := Lib.hid (decide_eq_false hs)
    obtain rfl : v = (k : Int) := by omega
    clear hk
    go_enter Tryz.func23, Tryz.ntmps23
    go_wp2_with fail
    refine KM.out.mono ?_
    rintro r w1 ⟨v1, rfl, hm1⟩
    obtain ⟨ad1, cap1, hv1, _⟩ := hm1.get 0 rfl
    generalize hn1 : (limbs (trimM k)).length = n1 at *
    subst hv1
    obtain ⟨hc, hf⟩ := bcell hm1.below
    have hz : w.heap.size < w1.heap.size := by have := hm1.below.size; simp at this; omega
    have HM := Lib.hid hm1; have HN1 := Lib.hid hn1
    clear hm1 hn1
    go_wp2
    have d0 : w1.cell? ⟨w.heap.size, 0, none⟩ = some (.bool false) := by rw [hc _ _ (by simp <;> omega)]; simp [World.cell?_alloc_lt]
    have d1 : w1.cell? ⟨w.heap.size, 1, none⟩ = some (.slice none 0 0) := by rw [hc _ _ (by simp <;> omega)]; simp [World.cell?_alloc_lt]
    have d2 : w1.cell? ⟨w.heap.size, 2, none⟩ = some (.int .i64 0) := by rw [hc _ _ (by simp <;> omega)]; simp [World.cell?_alloc_lt]
    have H3 := ((HM.out.on H2.out).on H1.out).drop2
    have H4 := (H3.box3 hW.out d0 d1 d2 (.bool false) (.slice ad1 n1 cap1) (.int .i64 ((trimK k : Nat) : Int))).step (below_box _ #[.bool false, .slice ad1 n1 cap1, .int .i64 ((trimK k : Nat) : Int)] 24)
    obtain ⟨g0, g1, g2⟩ := box3_cells (w := w1) (g := w.heap.size) hz d0 d1 d2 (.bool false) (.slice ad1 n1 cap1) (.int .i64 ((trimK k : Nat) : Int)) #[.bool false, .slice ad1 n1 cap1, .int .i64 ((trimK k : Nat) : Int)] 24
    refine bodyPost_ret (v := .agg #[.bool false, .slice ad1 n1 cap1, .int .i64 ((trimK k : Nat) : Int)]) (by simp [results, Tryz.results23, go_sem, g0, g1, g2]) rfl ⟨_, by rw [HD.out], ?_⟩
    exact H4
set_option maxHeartbeats 8000000 in
set_option maxRecDepth 100000 in
theorem rof_zero {w0 w : World} {l : List Ent} (h : Ctx w0 w l) : Calls Tryz.prog 23 #[.int .i64 0] w (OfPost w0 l false 0 0) := by
  have hb1 := below_box w #[.bool false, .slice none 0 0, .int .i64 0] 24
  have h1 := h.step hb1
  have h2 := h1.again.lits2 (N := 0) (xs := [0, 0]) (Okl.cons (by decide) (Okl.cons (by decide) Okl.nil)) rfl 2 rfl #[.int .u32 0, .int .u32 0] rfl
  have KM := Lib.hid (refMake_zero h2.again 0 rfl (by decide) false 0)
  have H2 := Lib.hid h2
  have H1 := Lib.hid h1
  have hW := Lib.hid h.below.size
  clear h h1 h2 hb1
  go_enter Tryz.func23, Tryz.ntmps23
  go_wp2_with fail
  refine KM.out.mono ?_
  rintro r w1 ⟨v1, rfl, hm1⟩
  obtain ⟨ad1, cap1, hv1, _⟩ := hm1.get 0 rfl
  rw [show (limbs 0).length = 0 by rw [limbs_zero]; rfl] at hv1
  subst hv1
  obtain ⟨hc, hf⟩ := bcell hm1.below
  have hz : w.heap.size < w1.heap.size := by have := hm1.below.size; simp at this; omega
  have HM := Lib.hid hm1
  clear hm1
  go_wp2
  have d0 : w1.cell? ⟨w.heap.size, 0, none⟩ = some (.bool false) := by rw [hc _ _ (by simp <;> omega)]; simp [World.cell?_alloc_lt]
  have d1 : w1.cell? ⟨w.heap.size, 1, none⟩ = some (.slice none 0 0) := by rw [hc _ _ (by simp <;> omega)]; simp [World.cell?_alloc_lt]
  have d2 : w1.cell? ⟨w.heap.size, 2, none⟩ = some (.int .i64 0) := by rw [hc _ _ (by simp <;> omega)]; simp [World.cell?_alloc_lt]
  have H3 := ((HM.out.on H2.out).on H1.out).drop2
  have H4 := (H3.box3 hW.out d0 d1 d2 (.bool false) (.slice ad1 0 cap1) (.int .i64 0)).step (below_box _ #[.bool false, .slice ad1 0 cap1, .int .i64 0] 24)
  obtain ⟨g0, g1, g2⟩ := box3_cells (w := w1) (g := w.heap.size) hz d0 d1 d2 (.bool false) (.slice ad1 0 cap1) (.int .i64 0) #[.bool false, .slice ad1 0 cap1, .int .i64 0] 24
  refine bodyPost_ret (v := .agg #[.bool false, .slice ad1 0 cap1, .int .i64 0]) (by simp [results, Tryz.results23, go_sem, g0, g1, g2]) rfl ⟨_, rfl, ?_⟩
  exact H4

theorem rof_all {w0 w : World} {l : List Ent} (h : Ctx w0 w l) (v : Int) (hv : -9223372036854775808 ≤ v ∧ v ≤ 9223372036854775807) :
    Calls Tryz.prog 23 #[.int .i64 v] w (OfPost w0 l (decide (v < 0)) (trimM v.natAbs) ((trimK v.natAbs : Nat) : Int)) := by
  by_cases h0 : v.natAbs = 0
  · obtain rfl : v = 0 := by omega
    exact rof_zero h
  · exact rof_any h v hv _ rfl h0

end Go.Proofs.YtogapgjilbcbfaaGreatDoor
