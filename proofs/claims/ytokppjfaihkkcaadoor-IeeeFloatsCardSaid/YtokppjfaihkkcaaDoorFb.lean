/- There and back, as plain facts: what IeeeBack leans on. -/
import Derived.Test.YtokppjfaihkkcaaDoorFs
namespace Go.Proofs.YtokppjfaihkkcaaDoor
open Go.RowKit Go.Sort
set_option linter.unusedVariables false
set_option linter.unusedSimpArgs false

theorem Ctx.narrow {w0 w : World} {l : List Ent} {v : Value} {L L' N : Nat} {xs : List Nat} (h : Ctx w0 w (⟨v, L, N, xs⟩ :: l)) (hL : xs.length ≤ L') : Ctx w0 w (⟨v, L', N, xs⟩ :: l) :=
  ⟨h.below, fun y hy => by
    rcases List.mem_cons.1 hy with rfl | h1
    · obtain ⟨ad, cap, h1, h2, h3, h4⟩ := h.all _ (List.mem_cons_self ..)
      exact ⟨ad, cap, h1, h2, hL, h4⟩
    · exact h.all y (List.mem_cons_of_mem _ h1)⟩
theorem toF_some {width : Int} {e f M : Nat} {E : Int} {ng : Bool} (hl : layOf width = some (e, f)) (hM : M ≠ 0) : toF width ng M E = match toN e f M E with | none => none | some y => some (y + (if ng then 2 ^ (e + f) else 0)) := by
  unfold toF; rw [hl]; simp only []; rw [if_neg hM]; rfl
theorem back_to {width : Int} {e f y : Nat} (hl : layOf width = some (e, f)) (hy : y < 2 ^ (e + f + 1)) (hk : kindF e f y = 1) : toF width (fNeg e f y) (exM e f y) (exE e f y) = some y := by
  have hL := layOf_lay hl
  have hM : exM e f y ≠ 0 := by have := exM_ten hk; omega
  rw [toF_some hl hM, to_ex hL hk]
  simp only []
  congr 1
  have hp := twop_pos (e + f)
  have hd := Nat.div_add_mod y (2 ^ (e + f))
  rw [Nat.pow_succ] at hy
  have hq : y / 2 ^ (e + f) < 2 := by rw [Nat.div_lt_iff_lt_mul hp, Nat.mul_comm]; exact hy
  have hn : fNeg e f y = decide (y / 2 ^ (e + f) % 2 = 1) := rfl
  rw [hn]
  generalize y / 2 ^ (e + f) = q at *
  generalize y % 2 ^ (e + f) = r at *
  have h2 : q = 0 ∨ q = 1 := by omega
  rcases h2 with rfl | rfl
  · simp at hd ⊢; omega
  · simp at hd ⊢; omega
theorem to_back {width : Int} {e f M d : Nat} {E : Int} {ng : Bool} (hl : layOf width = some (e, f)) (hM : M % 10 ≠ 0) (h : toF width ng M E = some d) : d < 18446744073709551616 ∧ kindF e f d = 1 ∧ fNeg e f d = ng ∧ exM e f d = M ∧ exE e f d = E := by
  have hL := layOf_lay hl
  rw [toF_some hl (by omega)] at h
  cases ht : toN e f M E with
  | none => rw [ht] at h; cases h
  | some y =>
    rw [ht] at h
    simp only [Option.some.injEq] at h
    obtain ⟨h1, h2, h3, h4⟩ := ex_to hL hM ht
    have hp := twop_pos (e + f)
    have hA : Alike e f d y := alike_mod (by
      rw [← h]
      cases ng
      · simp
      · simp)
    have h63 : 2 ^ (e + f) ≤ 2 ^ 63 := Nat.pow_le_pow_right (by decide) (by rcases hL with ⟨rfl, rfl⟩ | ⟨rfl, rfl⟩ | ⟨rfl, rfl⟩ <;> decide)
    refine ⟨?_, by rw [hA.kind]; exact h2, ?_, by rw [hA.em]; exact h3, by rw [hA.ee]; exact h4⟩
    · rw [← h]; cases ng <;> simp <;> omega
    · unfold fNeg
      rw [← h]
      cases ng
      · simp [Nat.div_eq_of_lt h1]
      · simp [Nat.add_div_right _ hp, Nat.div_eq_of_lt h1]
theorem toF_mono {wd wd' : Int} {e f e' f' M : Nat} {E : Int} {ng : Bool} (hl : layOf wd = some (e, f)) (hl' : layOf wd' = some (e', f')) (hf : f ≤ f') (hM : M % 10 ≠ 0) (h : toF wd ng M E ≠ none) : toF wd' ng M E ≠ none := by
  have hM0 : M ≠ 0 := by omega
  rw [toF_some hl hM0] at h
  rw [toF_some hl' hM0]
  have h1 : toN e f M E ≠ none := by intro h2; rw [h2] at h; exact h rfl
  have h2 := toN_mono (layOf_lay hl) (layOf_lay hl') hf h1
  cases h3 : toN e' f' M E with
  | none => exact absurd h3 h2
  | some y => simp
/-- The shortest float of a number that has one. -/
theorem sh_back {ng : Bool} {M : Nat} {E : Int} {wd : Int} (hw : wd = 16 ∨ wd = 32 ∨ wd = 64) (h : toF wd ng M E ≠ none) :
    ∃ v d, shA ng M E = .tuple #[.int .i64 v, .int .u64 ((d : Nat) : Int), .bool true] ∧ (v = 16 ∨ v = 32 ∨ v = 64) ∧ v ≤ wd ∧ toF v ng M E = some d := by
  unfold shA
  cases h16 : toF 16 ng M E with
  | some y => exact ⟨16, y, rfl, .inl rfl, by omega, h16⟩
  | none =>
    cases h32 : toF 32 ng M E with
    | some y => exact ⟨32, y, rfl, .inr (.inl rfl), by rcases hw with rfl | rfl | rfl <;> first | omega | exact absurd h16 h, h32⟩
    | none =>
      cases h64 : toF 64 ng M E with
      | some y => exact ⟨64, y, rfl, .inr (.inr rfl), by rcases hw with rfl | rfl | rfl <;> first | omega | exact absurd h16 h | exact absurd h32 h, h64⟩
      | none => rcases hw with rfl | rfl | rfl <;> first | exact absurd h16 h | exact absurd h32 h | exact absurd h64 h
theorem lay_of {v : Int} (h : v = 16 ∨ v = 32 ∨ v = 64) : ∃ e f, layOf v = some (e, f) := by
  rcases h with rfl | rfl | rfl
  · exact ⟨5, 10, rfl⟩
  · exact ⟨8, 23, rfl⟩
  · exact ⟨11, 52, rfl⟩
/-- The number of the shortest float. -/
theorem sh_exact {ng : Bool} {M : Nat} {E : Int} {v : Int} {d : Nat} (hv : v = 16 ∨ v = 32 ∨ v = 64) (hM : M % 10 ≠ 0) (h : toF v ng M E = some d) : d < 18446744073709551616 ∧ exNegW v d = ng ∧ exMW v d = M ∧ exEW v d = E ∧ okW v d = true := by
  obtain ⟨e, f, hl⟩ := lay_of hv
  obtain ⟨h1, h2, h3, h4, h5⟩ := to_back hl hM h
  refine ⟨h1, ?_, ?_, ?_, ?_⟩
  · unfold exNegW; rw [hl]; simp only []; rw [h2, h3]; simp
  · unfold exMW; rw [hl]; simp only []; rw [h2, if_pos rfl, h4]
  · unfold exEW; rw [hl]; simp only []; rw [h2, if_pos rfl, h5]
  · have hk : kindW v d = 1 := by unfold kindW; rw [hl]; simp only []; rw [h2]; rfl
    unfold okW; rw [hk]; rfl
theorem chk_ex {e f y : Nat} (hl : Lay e f) (hk : kindF e f y = 1) (ng : Bool) : chkB ng (limbs (exM e f y)) (exE e f y) = true := by
  obtain ⟨_, h2, h3, h4, h5⟩ := ex_bounds hl hk
  exact chkB_mk h2 h3 h4 h5
end Go.Proofs.YtokppjfaihkkcaaDoor
