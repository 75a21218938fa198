/- From a row's condition to the table that strconv reads. A row's argument that is a number (a struct with a list of limbs). -/
import Derived.Test.YtogapgjilbcbfaaGreatDoorC4
import Derived.Test.YtogapgjilbcbfaaGreatDoorRow
import Derived.Lib.LaidTab
import Derived.Lib.SmallJoins
namespace Go.Proofs.YtogapgjilbcbfaaGreatDoor
open Go.ChangeShapes Go.WideShapes Go.ChangeAt Go.RowKit
set_option linter.unusedVariables false
set_option linter.unusedSimpArgs false

theorem laidMet_tail {P : Program} {x : String × DataW Unit} {l : List (String × DataW Unit)} {w : World} (h : laidMet P (x :: l) w) : laidMet P l w := by
  obtain ⟨ps, ⟨g', t', cs, fuel, p, q, hg', ht', hvar, hd, h6, h7⟩, hn, h3⟩ := h
  subst h7
  exact ⟨q, h6, (List.nodup_append.1 hn).2.1, fun b off hq => h3 b off (List.mem_append_right _ hq)⟩
theorem g_tab : Tryz.prog.globalNamed "internal/strconv.uint64pow10" = some 1 := by kernel_rfl
theorem g_type : (Tryz.prog.globals[1]?).map (·.type) = some 131 := by kernel_rfl
theorem tab_data : (Rows.laid_internal_strconv_uint64pow10 : DataW Unit) = Lib.tabData .u64 Lib.pow10Tab := by kernel_rfl
theorem tb_of_laid {a b : String × DataW Unit} {l : List (String × DataW Unit)} {W : World} (h : laidMet Tryz.prog (a :: b :: ("internal/strconv.uint64pow10", Rows.laid_internal_strconv_uint64pow10) :: l) W) : TB W := by
  have h2 := laidMet_tail (laidMet_tail h)
  rw [tab_data] at h2
  exact Lib.tabIs_of_head g_tab g_type Tryz.underlying131 Tryz.underlying57 (by kernel_rfl) (by kernel_rfl) h2
end Go.Proofs.YtogapgjilbcbfaaGreatDoor
namespace Go.Proofs.YtogapgjilbcbfaaGreatDoor
open Go.ChangeShapes Go.WideShapes Go.ChangeAt Go.RowKit
set_option linter.unusedVariables false
set_option linter.unusedSimpArgs false

set_option maxRecDepth 100000 in
/-- A list of limbs in a field. -/
theorem limbs_field {H : Type} {enc : TypeId × Value → H} {W : World} {v : Value} {fuel : Nat} {y : DataW H × List MemPlace}
    (hf : DataW.trod enc Tryz.prog W 0 (fun _ => true) true fuel 22 [v] = some y) :
    ∃ ad len cap xs, v = .slice ad len cap ∧ xs.length = len ∧ len ≤ cap ∧ Okl xs ∧ Rd W ad xs := by
  rcases open_ints Tryz.underlying22 Tryz.underlying42 cells_u32 hf with ⟨hcs, hx⟩ | ⟨a, len', cap', zs, hcs, _, hl, hm, hz, hx, hcell, hwz⟩
  · simp only [List.cons.injEq, and_true] at hcs
    exact ⟨none, 0, 0, [], hcs, rfl, Nat.le_refl _, Okl.nil, Rd.nil _ _⟩
  · simp only [List.cons.injEq, and_true] at hcs
    subst hcs
    simp only [if_true] at hz
    refine ⟨some a, len', cap', (zs.take len').map Int.toNat, rfl, by simp; omega, hl, ?_, ?_⟩
    · intro x hx
      obtain ⟨z, hz1, rfl⟩ := List.mem_map.1 hx
      have := wf_u32 (hwz z (List.mem_of_mem_take hz1))
      rw [B32_eq]; omega
    · intro i hi
      have hi' : i < len' := by simp at hi; omega
      have hil : i < zs.length := by omega
      have hc := hcell i hil
      have h0 := hcell 0 (by omega)
      obtain ⟨b, off, spot⟩ := a
      have hspot : spot = none := by simpa [Addr.add] using World.cell?_spot h0
      subst hspot
      have e : (Addr.add ⟨b, off, none⟩ i) = ⟨b, off + i, none⟩ := by unfold Addr.add; split <;> simp_all
      rw [e] at hc
      refine ⟨b, off, rfl, ?_, ?_⟩
      · rcases Nat.lt_or_ge b W.heap.size with h1 | h1
        · exact h1
        · simp [World.cell?, Array.getElem?_eq_none h1] at hc
      · rw [hc]
        have hw := wf_u32 (hwz (zs.getD i 0) (by simp [List.getD, hil]))
        have e2 : ((zs.take len').map Int.toNat).getD i 0 = (zs.getD i 0).toNat := by
          simp [List.getD, hi', hil]
        rw [e2]
        congr 2; omega
set_option maxRecDepth 100000 in
theorem num_arg {H : Type} {enc : TypeId × Value → H} {W : World} {base : Nat} {v : Value} {d : DataW H} {p : List MemPlace}
    (hok : Value.okWide Tryz.prog W .any base 24 v) (h : DataW.Trod enc Tryz.prog W 0 (fun _ => true) true 24 v d p) :
    ∃ neg ad len cap xs e, v = .agg #[.bool neg, .slice ad len cap, .int .i64 e] ∧ xs.length = len ∧ len ≤ cap ∧ Okl xs ∧ Rd W ad xs ∧ -9223372036854775808 ≤ e ∧ e ≤ 9223372036854775807 := by
  obtain ⟨v0, v1, v2, y0, y1, y2, n, rfl, rfl, rfl, h0, h1, h2⟩ := Go.Joins.open_agg3 Tryz.underlying24 (by kernel_rfl) (by kernel_rfl) hok h
  obtain ⟨ad, len, cap, xs, rfl, a1, a2, a3, a4⟩ := limbs_field h1
  obtain ⟨b, hb, _⟩ := DataW.trod_bool Tryz.underlying4 h0
  obtain ⟨e, he, _, hw⟩ := DataW.trod_int Tryz.underlying3 h2
  simp only [List.cons.injEq, and_true] at hb he
  subst hb he
  have hbd := i64_bd hw
  exact ⟨b, ad, len, cap, xs, e, rfl, a1, a2, a3, a4, hbd.1, hbd.2⟩
end Go.Proofs.YtogapgjilbcbfaaGreatDoor
