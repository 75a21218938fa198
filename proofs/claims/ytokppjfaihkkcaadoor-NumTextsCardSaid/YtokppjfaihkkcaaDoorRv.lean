/- The reference's naturals as steps of a context. -/
import Derived.Test.YtokppjfaihkkcaaDoorRe
import Derived.Test.YtokppjfaihkkcaaDoorRm
import Derived.Test.YtokppjfaihkkcaaDoorRd
import Derived.Test.YtokppjfaihkkcaaDoorAw
namespace Go.Proofs.YtokppjfaihkkcaaDoor
open Go.RowKit
set_option linter.unusedVariables false
set_option linter.unusedSimpArgs false

section
variable {w0 w : World} {l : List Ent} {v1 v2 : Value} {L1 L2 N1 N2 : Nat} {xs ys : List Nat}

theorem rAdd_c (h : Ctx w0 w l) (i j : Nat) (hi : l[i]? = some ⟨v1, L1, N1, xs⟩) (hj : l[j]? = some ⟨v2, L2, N2, ys⟩) (h1 : L1 ≤ 1000000) (h2 : L2 ≤ 1000000) :
    Calls Tryd.prog 65 #[v1, v2] w fun e w' => ∃ v, e = .returned v ∧ Ctx w0 w' (⟨v, L1 + L2 + 1, N1 + N2, limbs (N1 + N2)⟩ :: l) := by
  obtain ⟨ad, cap, rfl, a2, a3, a4, a5, rfl⟩ := h.get i hi
  obtain ⟨ad', cap', rfl, b2, b3, b4, b5, rfl⟩ := h.get j hj
  refine (refAdd_any ad _ cap xs ad' _ cap' ys w rfl a2 (Nat.le_trans a3 h1) a4 a5 rfl b2 (Nat.le_trans b3 h2) b4 b5).mono ?_
  rintro e w' ⟨v, rfl, ho, hb⟩
  exact ⟨v, rfl, (h.step hb).push (ent_own ho (len_sum a4 b4 a3 b3))⟩
theorem rMul_c (h : Ctx w0 w l) (i j : Nat) (hi : l[i]? = some ⟨v1, L1, N1, xs⟩) (hj : l[j]? = some ⟨v2, L2, N2, ys⟩) (h1 : L1 ≤ 1000000) (h2 : L2 ≤ 1000000) :
    Calls Tryd.prog 45 #[v1, v2] w fun e w' => ∃ v, e = .returned v ∧ Ctx w0 w' (⟨v, L1 + L2, N1 * N2, limbs (N1 * N2)⟩ :: l) := by
  obtain ⟨ad, cap, rfl, a2, a3, a4, a5, rfl⟩ := h.get i hi
  obtain ⟨ad', cap', rfl, b2, b3, b4, b5, rfl⟩ := h.get j hj
  refine (refMul_any ad _ cap xs ad' _ cap' ys w rfl a2 (Nat.le_trans a3 h1) a4 a5 rfl b2 (Nat.le_trans b3 h2) b4 b5).mono ?_
  rintro e w' ⟨v, rfl, ho, hb⟩
  exact ⟨v, rfl, (h.step hb).push (ent_own ho (len_prod a4 b4 a3 b3))⟩
theorem rNorm_c (h : Ctx w0 w l) (i : Nat) (hi : l[i]? = some ⟨v1, L1, N1, xs⟩) (h1 : L1 ≤ 1000000) :
    Calls Tryd.prog 69 #[v1] w fun e w' => ∃ v, e = .returned v ∧ Ctx w0 w' (⟨v, L1, N1, limbs N1⟩ :: l) := by
  obtain ⟨ad, cap, rfl, a2, a3, a4, a5, rfl⟩ := h.get i hi
  refine (refNorm_any ad _ cap xs w rfl a2 (by omega) a4 a5).mono ?_
  rintro e w' ⟨v, rfl, ho, hb⟩
  exact ⟨v, rfl, (h.step hb).push (ent_own ho (len_leq a4 (Nat.le_refl _) a3))⟩
theorem rTrim_c (h : Ctx w0 w l) (i : Nat) (hi : l[i]? = some ⟨v1, L1, N1, xs⟩) (h1 : L1 ≤ 10000000) :
    Calls Tryd.prog 56 #[v1] w fun e w' => ∃ v m k, e = .returned (.tuple #[v, .int .i64 ((k : Nat) : Int)]) ∧ N1 = m * tenN k ∧ (N1 = 0 → k = 0) ∧ (N1 ≠ 0 → m % 10 ≠ 0) ∧ k ≤ 400000000 ∧ Ctx w0 w' (⟨v, L1, m, limbs m⟩ :: l) := by
  obtain ⟨ad, cap, rfl, a2, a3, a4, a5, rfl⟩ := h.get i hi
  refine (refTrim_any ad _ cap xs w rfl a2 (by omega) a4 a5).mono ?_
  rintro e w' ⟨v, m, k, rfl, ho, hb, q1, q2, q3, q4⟩
  refine ⟨v, m, k, rfl, q1, q2, q3, q4, (h.step hb).push (ent_own ho (len_leq a4 ?_ a3))⟩
  rw [q1]
  exact Nat.le_mul_of_pos_right _ (Nat.pow_pos (by decide))
theorem rPow_c (h : Ctx w0 w l) {b : Nat} (hb : b < B32) (n : Int) (hn : -9223372036854775808 ≤ n ∧ n ≤ 9223372036854775807) (k : Nat) (hk : cutP n = k) :
    Calls Tryd.prog 46 #[.int .u32 (b : Int), .int .i64 n] w fun e w' => ∃ v, e = .returned v ∧ Ctx w0 w' (⟨v, k + 1, b ^ k, limbs (b ^ k)⟩ :: l) := by
  refine (refPow_any b n w hb hn).mono ?_
  rw [hk]
  rintro e w' ⟨v, rfl, ho, hb'⟩
  exact ⟨v, rfl, (h.step hb').push (ent_own ho (limbs_length_le (pow_bound hb k)))⟩
theorem limbs_c (h : Ctx w0 w l) (i : Nat) (hi : l[i]? = some ⟨v1, L1, N1, xs⟩) (h1 : L1 ≤ 1000000) :
    Calls Tryd.prog 29 #[v1] w fun e w' => ∃ v, e = .returned v ∧ Ctx w0 w' (⟨v, L1, N1, xs⟩ :: l) := by
  obtain ⟨ad, cap, rfl, a2, a3, a4, a5, rfl⟩ := h.get i hi
  refine (limbs_any ad _ cap xs w rfl (by omega) a4 a5).mono ?_
  rintro e w' ⟨v, rfl, ho, hb⟩
  exact ⟨v, rfl, (h.step hb).push (ent_any ho a3 rfl)⟩
/-- What Parse tells: whether it is a natural, and its limbs. -/
def paOk (s : List Nat) : Bool := decide (0 < s.length ∧ s.length ≤ 2000) && s.all fun x => decide (48 ≤ x ∧ x ≤ 57)
theorem paOk_iff {s : List Nat} : paOk s = true ↔ 0 < s.length ∧ s.length ≤ 2000 ∧ Okd s := by
  unfold paOk Okd
  rw [Bool.and_eq_true, decide_eq_true_eq, List.all_eq_true]
  constructor
  · rintro ⟨⟨a, b⟩, c⟩; exact ⟨a, b, fun x hx => of_decide_eq_true (c x hx)⟩
  · rintro ⟨a, b, c⟩; exact ⟨⟨a, b⟩, fun x hx => decide_eq_true (c x hx)⟩
def paX (s : List Nat) : List Nat := if paOk s then limbs (hval s) else []
theorem parse_ctx (h : Ctx w0 w l) (s : List Nat) (e : Ending) (w' : World) (hp : ParsePost s w e w') : ∃ v, e = .returned (.tuple #[v, .bool (paOk s)]) ∧ Ctx w0 w' (⟨v, 2000, val (paX s), paX s⟩ :: l) := by
  obtain ⟨⟨a, b, c, v, rfl, ho⟩ | ⟨hno, rfl⟩, hb⟩ := hp
  · have hk : paOk s = true := paOk_iff.2 ⟨a, b, c⟩
    refine ⟨v, by rw [hk], (h.step hb).push ?_⟩
    unfold paX; rw [if_pos hk]
    exact ent_any ho (Nat.le_trans (len_hval c) b) rfl
  · have hk : paOk s = false := by
      cases h : paOk s
      · rfl
      · exact absurd (paOk_iff.1 h) hno
    refine ⟨_, by rw [hk], (h.step hb).push ?_⟩
    unfold paX; rw [hk]
    exact ent_any (Own.nil w'.heap.size w') (by simp) rfl
theorem trim_same {N m k m' k' : Nat} (h1 : N = m * tenN k) (h2 : N = 0 → k = 0) (h3 : N ≠ 0 → m % 10 ≠ 0) (g1 : N = m' * tenN k') (g2 : N = 0 → k' = 0) (g3 : N ≠ 0 → m' % 10 ≠ 0) : m' = m ∧ k' = k := by
  by_cases h : N = 0
  · have e1 := h2 h; have e2 := g2 h
    subst e1 e2
    have t0 : tenN 0 = 1 := rfl
    rw [t0, Nat.mul_one] at h1 g1
    exact ⟨by omega, rfl⟩
  · obtain ⟨a, b⟩ := ten_unique (h1.symm.trans g1) (h3 h) (g3 h)
    exact ⟨a.symm, b.symm⟩
end
end Go.Proofs.YtokppjfaihkkcaaDoor
