/- erratumlaw11.MheadBack: for every input it answers true, and what came in stays: the row. Conditions: what the row's own cells say (the tables of Go's library that it lists start as the program's text lays them). -/
import Derived.Test.YtmnaccojekojkaaE6

import Derived.Test.YtmnaccojekojkaaRkb
import Derived.Test.YtmnaccojekojkaaRk
namespace Go.Proofs.Ytmnaccojekojkaa.mheadBack
open Go.ChangeShapes Go.WideShapes Go.ChangeAt Go.RowKit
set_option linter.unusedVariables false

set_option maxRecDepth 100000 in
theorem lifted (os : Os) (started : os.Started) (H : Type) (enc : TypeId × Value → H) :
    ReturnsInHanded {} Try.checked os 4 .any (Rows.mheadBackSpec.pre6 enc Try.prog Try.f4 Rows.mheadBackRow.domain false)
      (Rows.mheadBackSpec.post enc Try.prog Try.f4 false true false false) := by
  refine returnsInHanded_of_change_sized (C := Try.checked) own started (by kernel_rfl) Try.func4
    (ChangeSpec.witness6 (enc := enc) (C := Try.checked) false ⟨#[], #[.int .i64 0, .int .u64 0, .int .i64 0], []⟩ 8 (by kernel_rfl) (by kernel_rfl) (by kernel_rfl) (by kernel_rfl)) ?_
  intro W base args ds gs before hval0 hW hc hsz0 _
  have hval : ∀ (j : Nat) t v, Try.f4.params[j]? = some t → args[j]? = some v → Value.okWide Try.prog W .any base t v := hval0
  have hW' := hW
  obtain ⟨p, q, hA0, hV, rfl, _, _⟩ := hW
  have hA : DataW.TrodAll enc Try.prog W 0 (fun _ => true) true Try.f4.params.toList args.toList ds p := hA0
  rw [Try.params4] at hA hval
  obtain ⟨v0, vs0, d0, ds0, p0, q0, hargsE, rfl, rfl, h0, r0⟩ := trodAll_cons hA
  obtain ⟨v1, vs1, d1, ds1, p1, q1, rfl, rfl, rfl, h1, r1⟩ := trodAll_cons r0
  obtain ⟨v2, vs2, d2, ds2, p2, q2, rfl, rfl, rfl, h2, r2⟩ := trodAll_cons r1
  obtain ⟨rfl, rfl, rfl⟩ := trodAll_nil r2
  obtain rfl : args = #[v0, v1, v2] := by cases args; simp_all
  obtain ⟨rfl, rfl⟩ := trodVars_none hV
  clear hA0 hval0
  obtain ⟨i0, rfl, rfl, rfl, w0⟩ := open_int Try.underlying3 (hval 0 3 v0 rfl rfl) h0
  obtain ⟨i1, rfl, rfl, rfl, w1⟩ := open_int Try.underlying23 (hval 1 23 v1 rfl rfl) h1
  obtain ⟨u1, hu1, hul1⟩ : ∃ u : Nat, i1 = (u : Int) ∧ u < 18446744073709551616 := ⟨i1.toNat, by have := wf_u64 w1; omega, by have := wf_u64 w1; omega⟩
  subst hu1
  obtain ⟨i2, rfl, rfl, rfl, w2⟩ := open_int Try.underlying3 (hval 2 3 v2 rfl rfl) h2
  refine (mheadBack_walk i0 u1 i2 W (i64_bd w0) hul1 (i64_bd w2)).mono fun e W' ⟨he, hb⟩ => ?_
  subst he
  have e1 : Rows.mheadBackSpec.fn H ([.lit (.int .i64 i0), .lit (.int .u64 u1), .lit (.int .i64 i2)] ++ []) = { results := [.lit (.bool true)], args := [.lit (.int .i64 i0), .lit (.int .u64 u1), .lit (.int .i64 i2)] } := by simp [Rows.mheadBackSpec]
  refine ⟨_, rfl, _, _, _, [], ([] ++ ([] ++ ([] ++ []))), [], hW', ?_, ?_, ?_, hb.frame fun p => p ∈ ([] ++ ([] ++ ([] ++ []))) ++ [] ∧ (p ∈ ([] : List MemPlace) ∨ p ∈ ([] ++ ([] ++ ([] ++ []))) ∨ p ∈ ([] : List MemPlace)), fun h => by cases h⟩
  · rw [e1]; exact trodAll_mk1 (shut_bool Try.underlying4 true)
  · rw [e1]; exact (trodAll_cons_mk (shut_int Try.underlying3 w0) (trodAll_cons_mk (shut_int Try.underlying23 w1) (trodAll_cons_mk (shut_int Try.underlying3 w2) trodAll_mk0)))
  · rw [e1]; rfl

theorem over : Rows.mheadBackRow.holds Try.pinned (OpenSpec.ofChange Rows.mheadBackSpec) :=
  OpenClaim.holds_of_wide 4 Try.f4 rfl rfl rfl rfl rfl rfl rfl ⟨rfl, rfl, rfl, rfl, rfl⟩ rfl rfl rfl rfl rfl (by kernel_rfl) Try.func4 (by kernel_rfl)
    (of_decide_eq_true (by kernel_rfl)) (by unfold Func.isWrapper; first | (rw [if_pos (by decide +kernel)]; kernel_rfl) | (rw [if_neg (by decide +kernel)]; exact ⟨rfl, rfl⟩))
    (fun os started H enc _ => lifted os started H enc)

theorem proved : Rows.MheadBackSaid := over
#print axioms proved
end Go.Proofs.Ytmnaccojekojkaa.mheadBack
