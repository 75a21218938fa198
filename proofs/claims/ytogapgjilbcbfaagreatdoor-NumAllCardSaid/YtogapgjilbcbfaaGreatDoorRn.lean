/- The walk of layer 2's reference Make. -/
import Derived.Test.YtogapgjilbcbfaaGreatDoorRm
namespace Go.Proofs.YtogapgjilbcbfaaGreatDoor
open Go.RowKit
set_option linter.unusedVariables false
set_option linter.unusedSimpArgs false

theorem refTrim_c {w0 w : World} {l : List Ent} {v1 : Value} {L1 N1 : Nat} {xs : List Nat} (h : Ctx w0 w l) (i : Nat) (hi : l[i]? = some ⟨v1, L1, N1, xs⟩) (h1 : L1 ≤ 1000000) :
    Calls Tryz.prog 26 #[v1] w fun e w' => ∃ v m k, e = .returned (.tuple #[v, .int .i64 ((k : Nat) : Int)]) ∧ N1 = m * tenN k ∧ (N1 = 0 → k = 0) ∧ (N1 ≠ 0 → m % 10 ≠ 0) ∧ k ≤ 400000000 ∧ Ctx w0 w' (⟨v, L1, m, limbs m⟩ :: l) := by
  obtain ⟨ad, cap, rfl, a2, a3, a4, a5, rfl⟩ := h.get i hi
  refine (refTrim_any ad _ cap xs w rfl a2 (by omega) a4 a5).mono ?_
  rintro e w' ⟨v, m, k, rfl, ho, hb, q1, q2, q3, q4⟩
  refine ⟨v, m, k, rfl, q1, q2, q3, q4, (h.step hb).push (ent_own ho (len_leq a4 ?_ a3))⟩
  rw [q1]
  exact Nat.le_mul_of_pos_right _ (Nat.pow_pos (by decide))

set_option maxHeartbeats 4000000 in
theorem refMake_zero {w0 w : World} {l : List Ent} {v : Value} {L : Nat} {xs : List Nat} (h : Ctx w0 w l) (i : Nat) (hi : l[i]? = some ⟨v, L, 0, xs⟩) (hL : L ≤ 1000000) (neg : Bool) (e : Int) :
    Calls Tryz.prog 9 #[.bool neg, v, .int .i64 e] w (MadePost w0 l L false 0 0 true) := by
  have hb1 : Below w.heap.size w (w.alloc (.cells #[.bool false, .slice none 0 0, .int .i64 0] 24)) := (Below.refl _ _).alloc (Nat.le_refl _) _
  have h1 := h.step hb1
  have hW := Lib.hid h.below.size
  have K := Lib.hid (refTrim_c h1.again i hi (by omega))
  have H1 := Lib.hid h1.below
  clear h h1 hi hb1
  go_enter Tryz.func9, Tryz.ntmps9
  go_wp2_with fail
  refine K.out.mono ?_
  rintro r w1 ⟨t, m, k, rfl, q1, q2, _, _, h2⟩
  have hm : m = 0 := by
    rcases Nat.mul_eq_zero.1 q1.symm with h | h
    · exact h
    · exact absurd h (tenN_ne _)
  subst hm
  have hv := h2.get 0 rfl
  obtain ⟨ad, cap, rfl, _⟩ := hv
  rw [show (limbs 0).length = 0 by rw [limbs_zero]; rfl] at *
  obtain ⟨hc, hf⟩ := bcell h2.below
  have hz : w.heap.size < w1.heap.size := by have := h2.below.size; simp at this; omega
  have H2 := Lib.hid h2; clear h2 q1 q2
  go_wp2
  have H3 := Ctx.back H1.out H2.out
  refine bodyPost_ret (v := .tuple #[.agg #[.bool false, .slice none 0 0, .int .i64 0], .bool true]) (by simp [results, Tryz.results9, go_sem, hc]) rfl ⟨_, rfl, ?_⟩
  have H4 := H3.box3 hW.out (b := false) (a := none) (n := 0) (c := 0) (x := 0) (by simp [hc]) (by simp [hc]) (by simp [hc]) (.bool false) (.slice none 0 0) (.int .i64 0)
  exact (H4.drop1).push (ent_nil _ _)

set_option maxHeartbeats 8000000 in
theorem refMake_yes {w0 w : World} {l : List Ent} {v : Value} {L N : Nat} {xs : List Nat} (h : Ctx w0 w l) (i : Nat) (hi : l[i]? = some ⟨v, L, N, xs⟩) (hL : L ≤ 1000000) (neg : Bool) (e : Int)
    (m k : Nat) (hN : N = m * tenN k) (hm : m % 10 ≠ 0) (hlen : (limbs m).length ≤ 90) (x : Int) (hx : e + (k : Int) = x) (hlo : -1200 ≤ x) (hhi : x ≤ 1200) :
    Calls Tryz.prog 9 #[.bool neg, v, .int .i64 e] w (MadePost w0 l L neg m x true) := by
  subst hx
  have hb1 : Below w.heap.size w (w.alloc (.cells #[.bool false, .slice none 0 0, .int .i64 0] 24)) := (Below.refl _ _).alloc (Nat.le_refl _) _
  have h1 := h.step hb1
  have hW := Lib.hid h.below.size
  have K := Lib.hid (refTrim_c h1.again i hi (by omega))
  have H1 := Lib.hid h1.below
  have hne : m ≠ 0 := by intro h0; rw [h0] at hm; exact hm rfl
  have hlb : (((limbs m).length : Int) == 0) = false := by
    rw [beq_eq_false_iff_ne]
    intro h0
    exact hne ((limbs_nil_iff m).1 (List.eq_nil_of_length_eq_zero (by omega)))
  have hN0 : N ≠ 0 := by rw [hN]; exact Nat.mul_ne_zero hne (tenN_ne _)
  have HM := Lib.hid hm
  have HE := Lib.hid hN
  have HLEN := Lib.hid hlen
  clear h h1 hi hb1 hne hm hN hlen
  go_enter Tryz.func9, Tryz.ntmps9
  go_wp2_with fail
  refine K.out.mono ?_
  rintro r w1 ⟨t, m', k', rfl, q1, q2, q3, hk4, h2⟩
  obtain ⟨rfl, rfl⟩ : m = m' ∧ k = k' := ten_unique (by rw [← q1, ← HE.out]) HM.out (q3 hN0)
  have hv := h2.get 0 rfl
  obtain ⟨ad, cap, rfl, a2, a3, a4, a5, a6⟩ := hv
  obtain ⟨hc, hf⟩ := bcell h2.below
  have hz : w.heap.size < w1.heap.size := by have := h2.below.size; simp at this; omega
  have H2 := Lib.hid h2; clear h2 q1 q2 q3 a4 a5 a6 a3
  have hl90 := HLEN.out
  generalize hn : (limbs m).length = n at *
  have HN := Lib.hid hn; clear hn
  have hsum : IntKind.i64.wrap (e + (k : Int)) = e + (k : Int) := IntWalk.i64_in _ (by omega)
  have g1 : ¬ ((90 : Int) < (n : Int)) := by omega
  have g2 : ¬ (e < -1099511627776) := by omega
  have g3 : ¬ (1099511627776 < e) := by omega
  have g4 : ¬ (1099511627776 < (k : Int)) := by omega
  have g5 : ¬ (e + (k : Int) < -1200) := by omega
  have g6 : ¬ (1200 < e + (k : Int)) := by omega
  go_wp2_with fail
  have H3 := Ctx.back H1.out H2.out
  refine bodyPost_ret (v := .tuple #[.agg #[.bool neg, .slice ad n cap, .int .i64 (e + (k : Int))], .bool true]) (by simp [results, Tryz.results9, go_sem, hc, hz]) rfl ⟨_, rfl, ?_⟩
  exact H3.box3 hW.out (b := false) (a := none) (n := 0) (c := 0) (x := 0) (by simp [hc, hz, World.cell?_alloc_lt]) (by simp [hc, hz, World.cell?_alloc_lt]) (by simp [hc, hz, World.cell?_alloc_lt]) _ _ _
end Go.Proofs.YtogapgjilbcbfaaGreatDoor
