/- erratumlaw11.MheadFirsts: for every input it answers true, and what came in stays: the row. Conditions: what the row's own cells say (the tables of Go's library that it lists start as the program's text lays them). -/
import Derived.Test.YtmnaccojekojkaaEa

import Derived.Test.YtmnaccojekojkaaRkb
import Derived.Test.YtmnaccojekojkaaRk
namespace Go.Proofs.Ytmnaccojekojkaa.mheadFirsts
open Go.ChangeShapes Go.WideShapes Go.ChangeAt Go.RowKit
set_option linter.unusedVariables false

set_option maxRecDepth 100000 in
theorem lifted (os : Os) (started : os.Started) (H : Type) (enc : TypeId × Value → H) :
    ReturnsInHanded {} Try.checked os 5 .any (Rows.mheadFirstsSpec.pre6 enc Try.prog Try.f5 Rows.mheadFirstsRow.domain false)
      (Rows.mheadFirstsSpec.post enc Try.prog Try.f5 false true false false) := by
  refine returnsInHanded_of_change_sized (C := Try.checked) own started (by kernel_rfl) Try.func5
    (ChangeSpec.witness6 (enc := enc) (C := Try.checked) false ⟨#[], #[.int .u8 0, .int .u64 0], []⟩ 8 (by kernel_rfl) (by kernel_rfl) (by kernel_rfl) (by kernel_rfl)) ?_
  intro W base args ds gs before hval0 hW hc hsz0 _
  have hval : ∀ (j : Nat) t v, Try.f5.params[j]? = some t → args[j]? = some v → Value.okWide Try.prog W .any base t v := hval0
  have hW' := hW
  obtain ⟨p, q, hA0, hV, rfl, _, _⟩ := hW
  have hA : DataW.TrodAll enc Try.prog W 0 (fun _ => true) true Try.f5.params.toList args.toList ds p := hA0
  rw [Try.params5] at hA hval
  obtain ⟨v0, vs0, d0, ds0, p0, q0, hargsE, rfl, rfl, h0, r0⟩ := trodAll_cons hA
  obtain ⟨v1, vs1, d1, ds1, p1, q1, rfl, rfl, rfl, h1, r1⟩ := trodAll_cons r0
  obtain ⟨rfl, rfl, rfl⟩ := trodAll_nil r1
  obtain rfl : args = #[v0, v1] := by cases args; simp_all
  obtain ⟨rfl, rfl⟩ := trodVars_none hV
  clear hA0 hval0
  obtain ⟨i0, rfl, rfl, rfl, w0⟩ := open_int Try.underlying5 (hval 0 5 v0 rfl rfl) h0
  obtain ⟨u0, hu0, hul0⟩ : ∃ u : Nat, i0 = (u : Int) ∧ u < 256 := ⟨i0.toNat, by have := wf_u8 w0; omega, by have := wf_u8 w0; omega⟩
  subst hu0
  obtain ⟨i1, rfl, rfl, rfl, w1⟩ := open_int Try.underlying23 (hval 1 23 v1 rfl rfl) h1
  obtain ⟨u1, hu1, hul1⟩ : ∃ u : Nat, i1 = (u : Int) ∧ u < 18446744073709551616 := ⟨i1.toNat, by have := wf_u64 w1; omega, by have := wf_u64 w1; omega⟩
  subst hu1
  refine (mheadFirsts_walk u0 u1 W hul0 hul1).mono fun e W' ⟨he, hb⟩ => ?_
  subst he
  have e1 : Rows.mheadFirstsSpec.fn H ([.lit (.int .u8 u0), .lit (.int .u64 u1)] ++ []) = { results := [.lit (.bool true)], args := [.lit (.int .u8 u0), .lit (.int .u64 u1)] } := by simp [Rows.mheadFirstsSpec]
  refine ⟨_, rfl, _, _, _, [], ([] ++ ([] ++ [])), [], hW', ?_, ?_, ?_, hb.frame fun p => p ∈ ([] ++ ([] ++ [])) ++ [] ∧ (p ∈ ([] : List MemPlace) ∨ p ∈ ([] ++ ([] ++ [])) ∨ p ∈ ([] : List MemPlace)), fun h => by cases h⟩
  · rw [e1]; exact trodAll_mk1 (shut_bool Try.underlying4 true)
  · rw [e1]; exact (trodAll_cons_mk (shut_int Try.underlying5 w0) (trodAll_cons_mk (shut_int Try.underlying23 w1) trodAll_mk0))
  · rw [e1]; rfl

theorem over : Rows.mheadFirstsRow.holds Try.pinned (OpenSpec.ofChange Rows.mheadFirstsSpec) :=
  OpenClaim.holds_of_wide 5 Try.f5 rfl rfl rfl rfl rfl rfl rfl ⟨rfl, rfl, rfl, rfl, rfl⟩ rfl rfl rfl rfl rfl (by kernel_rfl) Try.func5 (by kernel_rfl)
    (of_decide_eq_true (by kernel_rfl)) (by unfold Func.isWrapper; first | (rw [if_pos (by decide +kernel)]; kernel_rfl) | (rw [if_neg (by decide +kernel)]; exact ⟨rfl, rfl⟩))
    (fun os started H enc _ => lifted os started H enc)

theorem proved : Rows.MheadFirstsSaid := over
#print axioms proved
end Go.Proofs.Ytmnaccojekojkaa.mheadFirsts
