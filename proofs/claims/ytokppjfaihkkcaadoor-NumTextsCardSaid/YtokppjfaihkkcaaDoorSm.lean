/- The reference's Make of what has no room. -/
import Derived.Test.YtokppjfaihkkcaaDoorRn
import Derived.Test.YtokppjfaihkkcaaDoorSe
namespace Go.Proofs.YtokppjfaihkkcaaDoor
open Go.RowKit
set_option linter.unusedVariables false
set_option linter.unusedSimpArgs false

set_option maxHeartbeats 8000000 in
theorem refMake_no {w0 w : World} {l : List Ent} {v : Value} {L N : Nat} {xs : List Nat} (h : Ctx w0 w l) (i : Nat) (hi : l[i]? = some ⟨v, L, N, xs⟩) (hL : L ≤ 1000000) (neg : Bool) (e : Int)
    (m k : Nat) (hN : N = m * tenN k) (hm : m % 10 ≠ 0) (hno : ¬ ((limbs m).length ≤ 90 ∧ -1200 ≤ e + (k : Int) ∧ e + (k : Int) ≤ 1200)) (he1 : -1000000000 ≤ e) (he2 : e ≤ 1000000000) :
    Calls Tryd.prog 27 #[.bool neg, v, .int .i64 e] w (MadePost w0 l L false 0 0 false) := by
  have hb1 : Below w.heap.size w (w.alloc (.cells #[.bool false, .slice none 0 0, .int .i64 0] 25)) := (Below.refl _ _).alloc (Nat.le_refl _) _
  have h1 := h.step hb1
  have hW := Lib.hid h.below.size
  have K := Lib.hid (refTrim_c h1.again i hi (by omega))
  have H1 := Lib.hid h1.below
  have hne : m ≠ 0 := by intro h0; rw [h0] at hm; exact hm rfl
  have hlb : (((limbs m).length : Int) == 0) = false := by
    rw [beq_eq_false_iff_ne]
    intro h0
    exact hne ((limbs_nil_iff m).1 (List.eq_nil_of_length_eq_zero (by omega)))
  have hN0 : N ≠ 0 := by rw [hN]; exact Nat.mul_ne_zero hne (tenN_ne _)
  have HM := Lib.hid hm
  have HE := Lib.hid hN
  have HNO := Lib.hid hno
  clear h h1 hi hb1 hne hm hN hno
  go_enter Tryd.func27, Tryd.ntmps27
  go_wp2_with fail
  refine K.out.mono ?_
  rintro r w1 ⟨t, m', k', rfl, q1, q2, q3, hk4, h2⟩
  obtain ⟨rfl, rfl⟩ : m = m' ∧ k = k' := ten_unique (by rw [← q1, ← HE.out]) HM.out (q3 hN0)
  have hv := h2.get 0 rfl
  obtain ⟨ad, cap, rfl, a2, a3, a4, a5, a6⟩ := hv
  obtain ⟨hc, hf⟩ := bcell h2.below
  have hz : w.heap.size < w1.heap.size := by have := h2.below.size; simp at this; omega
  have H2 := Lib.hid h2; clear h2 q1 q2 q3 a4 a5 a6 a3
  have hno := HNO.out
  generalize hn : (limbs m).length = n at *
  have HN := Lib.hid hn; clear hn
  have hsum : IntKind.i64.wrap (e + (k : Int)) = e + (k : Int) := IntWalk.i64_in _ (by omega)
  have g2 : ¬ (e < -1099511627776) := by omega
  have g3 : ¬ (1099511627776 < e) := by omega
  have g4 : ¬ (1099511627776 < (k : Int)) := by omega
  by_cases c1 : 90 < n
  · have g1 : (90 : Int) < (n : Int) := by omega
    clear hno
    go_wp2_with fail
    have H3 := Ctx.back H1.out H2.out
    refine bodyPost_ret (v := .tuple #[.agg #[.bool false, .slice none 0 0, .int .i64 0], .bool false]) (by simp [results, Tryd.results27, go_sem, hc]) rfl ⟨_, rfl, ?_⟩
    have H4 := H3.box3 hW.out (b := false) (a := none) (n := 0) (c := 0) (x := 0) (by simp [hc]) (by simp [hc]) (by simp [hc]) (.bool false) (.slice none 0 0) (.int .i64 0)
    exact (H4.drop1).push (ent_nil _ _)
  · have g1 : ¬ (90 : Int) < (n : Int) := by omega
    by_cases c2 : e + (k : Int) < -1200
    · clear hno
      go_wp2_with fail
      have H3 := Ctx.back H1.out H2.out
      refine bodyPost_ret (v := .tuple #[.agg #[.bool false, .slice none 0 0, .int .i64 0], .bool false]) (by simp [results, Tryd.results27, go_sem, hc]) rfl ⟨_, rfl, ?_⟩
      have H4 := H3.box3 hW.out (b := false) (a := none) (n := 0) (c := 0) (x := 0) (by simp [hc]) (by simp [hc]) (by simp [hc]) (.bool false) (.slice none 0 0) (.int .i64 0)
      exact (H4.drop1).push (ent_nil _ _)
    · have g6 : 1200 < e + (k : Int) := by omega
      clear hno
      go_wp2_with fail
      have H3 := Ctx.back H1.out H2.out
      refine bodyPost_ret (v := .tuple #[.agg #[.bool false, .slice none 0 0, .int .i64 0], .bool false]) (by simp [results, Tryd.results27, go_sem, hc]) rfl ⟨_, rfl, ?_⟩
      have H4 := H3.box3 hW.out (b := false) (a := none) (n := 0) (c := 0) (x := 0) (by simp [hc]) (by simp [hc]) (by simp [hc]) (.bool false) (.slice none 0 0) (.int .i64 0)
      exact (H4.drop1).push (ent_nil _ _)
/-- Whether a number has room. -/
def Room (N : Nat) (e : Int) : Prop := (limbs (trimM N)).length ≤ 90 ∧ -1200 ≤ e + (trimK N : Int) ∧ e + (trimK N : Int) ≤ 1200
instance (N : Nat) (e : Int) : Decidable (Room N e) := by unfold Room; infer_instance
theorem refMake_room {w0 w : World} {l : List Ent} {v : Value} {L N : Nat} {xs : List Nat} (h : Ctx w0 w l) (i : Nat) (hi : l[i]? = some ⟨v, L, N, xs⟩) (hL : L ≤ 1000000) (neg : Bool) (e : Int) (h0 : N ≠ 0) (hr : Room N e) :
    Calls Tryd.prog 27 #[.bool neg, v, .int .i64 e] w (MadePost w0 l L neg (trimM N) (e + (trimK N : Int)) true) :=
  refMake_yes h i hi hL neg e _ _ (trim_spec h0).1 (trim_spec h0).2 hr.1 _ rfl hr.2.1 hr.2.2
theorem refMake_noroom {w0 w : World} {l : List Ent} {v : Value} {L N : Nat} {xs : List Nat} (h : Ctx w0 w l) (i : Nat) (hi : l[i]? = some ⟨v, L, N, xs⟩) (hL : L ≤ 1000000) (neg : Bool) (e : Int) (h0 : N ≠ 0) (hr : ¬ Room N e) (he1 : -1000000000 ≤ e) (he2 : e ≤ 1000000000) :
    Calls Tryd.prog 27 #[.bool neg, v, .int .i64 e] w (MadePost w0 l L false 0 0 false) :=
  refMake_no h i hi hL neg e _ _ (trim_spec h0).1 (trim_spec h0).2 hr he1 he2
end Go.Proofs.YtokppjfaihkkcaaDoor
