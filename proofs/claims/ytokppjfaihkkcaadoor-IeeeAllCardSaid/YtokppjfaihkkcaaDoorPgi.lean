/- erratumlaw03.IeeeAll: for every input it answers true, and what came in stays: the row, and its tied card. Conditions: what the row's own cells say (the tables of Go's library that it lists start as the program's text lays them). -/
import Derived.Test.YtokppjfaihkkcaaDoorGi

import Derived.Test.YtokppjfaihkkcaaDoorT2
import Derived.Test.YtokppjfaihkkcaaDoorT1
import Derived.Test.YtokppjfaihkkcaaDoorRow
import Derived.Test.YtokppjfaihkkcaaDoorCards
namespace Go.Proofs.YtokppjfaihkkcaaDoor.ieeeAll
open Go.ChangeShapes Go.WideShapes Go.ChangeAt Go.RowKit
set_option linter.unusedVariables false

set_option maxRecDepth 100000 in
theorem lifted (os : Os) (started : os.Started) (H : Type) (enc : TypeId × Value → H) :
    ReturnsInHanded {} Tryd.checked os 4 .any (fun w args => (Rows.ieeeAllSpec.pre enc Tryd.prog Tryd.f4 Rows.ieeeAllRow.domain false w args ∧ laidMetH Tryd.prog Rows.ieeeAllRow.laid w) ∧ sizedMet enc Tryd.prog Tryd.f4 (OpenSpec.ofChange Rows.ieeeAllSpec) false w args)
      (Rows.ieeeAllSpec.post enc Tryd.prog Tryd.f4 false true false false) := by
  refine returnsInHanded_of_change_and (C := Tryd.checked) (X := fun w _ => laidMetH Tryd.prog Rows.ieeeAllRow.laid w) (fun _ _ _ hh h => h.of_heap hh) own started (by kernel_rfl) Tryd.func4
    (ChangeSpec.witness_shaped (enc := enc) (C := Tryd.checked) (os := os) (X := fun w _ => laidMetH Tryd.prog Rows.ieeeAllRow.laid w) false (World.laidAll Tryd.prog os Rows.ieeeAllRow.laid) #[.int .i64 0, .int .u64 0, .agg #[.bool false, .slice none 0 0, .int .i64 0]] 8 (World.laidAll_os _ _ _)
      (World.shaped_of_ZipB (by kernel_rfl) (by kernel_rfl)) (by kernel_rfl) (by kernel_rfl) (by kernel_rfl)
      (by rw [MakeChecks.laidMetH_plain _ _ _ (by kernel_rfl)]; exact laidMet_laidAll _ (by kernel_rfl) (by kernel_rfl))) ?_
  intro W base args ds gs before hval0 hW hc hsz0 hL _
  have hval : ∀ (j : Nat) t v, Tryd.f4.params[j]? = some t → args[j]? = some v → Value.okWide Tryd.prog W .any base t v := hval0
  have hW' := hW
  obtain ⟨p, q, hA0, hV, rfl, _, _⟩ := hW
  have hA : DataW.TrodAll enc Tryd.prog W 0 (fun _ => true) true Tryd.f4.params.toList args.toList ds p := hA0
  rw [Tryd.params4] at hA hval
  obtain ⟨v0, vs0, d0, ds0, p0, q0, hargsE, rfl, rfl, h0, r0⟩ := trodAll_cons hA
  obtain ⟨v1, vs1, d1, ds1, p1, q1, rfl, rfl, rfl, h1, r1⟩ := trodAll_cons r0
  obtain ⟨v2, vs2, d2, ds2, p2, q2, rfl, rfl, rfl, h2, r2⟩ := trodAll_cons r1
  obtain ⟨rfl, rfl, rfl⟩ := trodAll_nil r2
  obtain rfl : args = #[v0, v1, v2] := by cases args; simp_all
  obtain ⟨rfl, rfl⟩ := trodVars_none hV
  clear hA0 hval0
  have hL2 := hL
  rw [MakeChecks.laidMetH_plain _ _ _ (by kernel_rfl)] at hL2
  have htb : DB W := db_of_laid hL2
  obtain ⟨i0, rfl, rfl, rfl, w0⟩ := open_int Tryd.underlying3 (hval 0 3 v0 rfl rfl) h0
  obtain ⟨i1, rfl, rfl, rfl, w1⟩ := open_int Tryd.underlying31 (hval 1 31 v1 rfl rfl) h1
  obtain ⟨u1, hu1, hul1⟩ : ∃ u : Nat, i1 = (u : Int) ∧ u < 18446744073709551616 := ⟨i1.toNat, by have := wf_u64 w1; omega, by have := wf_u64 w1; omega⟩
  subst hu1
  have hlt2 : ∀ x ∈ p2, x.block < W.heap.size := fun x hx => by have := hW'.lt x (by simp [hx]); simpa using this
  have hk2 := h2
  obtain ⟨ng2, ad2, len2, cap2, xs2, e2, rfl, hl2, hcp2, ho2, hr2, he2, hf2⟩ := num_arg (hval 2 25 v2 rfl rfl) h2
  refine (ieeeAll_walk i0 u1 ng2 ad2 len2 cap2 xs2 e2 W (i64_bd w0) hul1 hl2 hcp2 ho2 hr2 ⟨he2, hf2⟩ htb).mono fun e W' ⟨he, hb⟩ => ?_
  subst he
  have e1 : Rows.ieeeAllSpec.fn H ([.lit (.int .i64 i0), .lit (.int .u64 u1), d2] ++ []) = { results := [.lit (.bool true)], args := [.lit (.int .i64 i0), .lit (.int .u64 u1), d2] } := by simp [Rows.ieeeAllSpec]
  refine ⟨_, rfl, _, _, _, [], ([] ++ ([] ++ (p2 ++ []))), [], hW', ?_, ?_, ?_, hb.frame fun p => p ∈ ([] ++ ([] ++ (p2 ++ []))) ++ [] ∧ (p ∈ ([] : List MemPlace) ∨ p ∈ ([] ++ ([] ++ (p2 ++ []))) ∨ p ∈ ([] : List MemPlace)), fun h => by cases h⟩
  · rw [e1]; exact trodAll_mk1 (shut_bool Tryd.underlying4 true)
  · rw [e1]; exact (trodAll_cons_mk (shut_int Tryd.underlying3 w0) (trodAll_cons_mk (shut_int Tryd.underlying31 w1) (trodAll_cons_mk (hargs_keep (by kernel_rfl) (of_decide_eq_true (by kernel_rfl)) hk2 hb hlt2) trodAll_mk0)))
  · rw [e1]; rfl

theorem over : Rows.ieeeAllRow.holds Tryd.pinned (OpenSpec.ofChange Rows.ieeeAllSpec) :=
  OpenClaim.holds_of_wide 4 Tryd.f4 rfl rfl rfl rfl rfl rfl rfl ⟨rfl, rfl, rfl, rfl, rfl⟩ rfl rfl rfl rfl rfl (by kernel_rfl) Tryd.func4 (by kernel_rfl)
    (of_decide_eq_true (by kernel_rfl)) (by unfold Func.isWrapper; first | (rw [if_pos (by decide +kernel)]; kernel_rfl) | (rw [if_neg (by decide +kernel)]; exact ⟨rfl, rfl⟩))
    (fun os started H enc _ => lifted os started H enc)

theorem proved : Rows.IeeeAllCardSaid :=
  Claim7.holds_tied_plain_at .later [] [.data] true Rows.ieeeAllCard.stood.harness Rows.ieeeAllCard.stood.looks over (fun _ h => by cases h) (by kernel_rfl) (fun _ h => by cases h) ieeeAll_row_tie rfl ⟨rfl, rfl⟩ (by kernel_rfl) rfl
    (fun f fn hf hfn => by
      obtain rfl : f = 4 := Option.some.inj ((show Tryd.prog.funcNamed Rows.ieeeAllRow.func = some 4 by kernel_rfl).symm.trans hf) |>.symm
      obtain rfl : fn = Tryd.f4 := (Option.some.inj (Tryd.func4.symm.trans hfn)).symm
      exact ⟨by kernel_rfl, fun j t ht => by
        rw [Tryd.params4] at ht
        have hm : t ∈ ([3, 31, 25] : List TypeId) := by simpa using Array.mem_of_getElem? ht
        have hall : (([3, 31, 25] : List TypeId).all fun u => !Tryd.prog.wantsStandIn u) = true := by kernel_rfl
        exact (show Tryd.prog.wantsStandIn t = false by simpa using List.all_eq_true.1 hall t hm)⟩)
    (by kernel_rfl)
#print axioms proved
end Go.Proofs.YtokppjfaihkkcaaDoor.ieeeAll
