/- From a row's condition to the table that tells trailing zeros. -/
import Derived.Test.YtokppjfaihkkcaaDoorF6
import Derived.Test.YtokppjfaihkkcaaDoorRow
import Derived.Lib.LaidTab
import Derived.Lib.SmallJoins
namespace Go.Proofs.YtokppjfaihkkcaaDoor
open Go.ChangeShapes Go.WideShapes Go.ChangeAt Go.RowKit
set_option linter.unusedVariables false
set_option linter.unusedSimpArgs false

def bruTab : List Int := List.map (fun n : Nat => (n : Int)) Lib.deBruijn32tab
theorem g_bru : Tryd.prog.globalNamed "math/bits.deBruijn32tab" = some 1 := by kernel_rfl
theorem g_bruT : (Tryd.prog.globals[1]?).map (·.type) = some 156 := by kernel_rfl
theorem bru_data : (Rows.laid_math_bits_deBruijn32tab : DataW Unit) = Lib.tabData .u8 bruTab := by kernel_rfl
theorem wf_u64 {n : Int} (h : (Lit.int .u64 n).wf = true) : 0 ≤ n ∧ n ≤ 18446744073709551615 := by
  simpa [Lit.wf, IntKind.min, IntKind.max, IntKind.signed, IntKind.bits] using h
theorem db_of_laid {l : List (String × DataW Unit)} {W : World} (h : laidMet Tryd.prog (("math/bits.deBruijn32tab", Rows.laid_math_bits_deBruijn32tab) :: l) W) : DB W := by
  rw [bru_data] at h
  have ht := Lib.tabIs_of_head g_bru g_bruT Tryd.underlying156 Tryd.underlying5 (by kernel_rfl) (by kernel_rfl) h
  intro j hj
  unfold Lib.TabIs World.var? at ht
  rw [g_bru] at ht
  simp only [Option.bind_some] at ht
  split at ht
  · rename_i cs t0 f0 hb
    simp only [Option.some.injEq] at ht
    subst ht
    simp only [World.cell?, hb]
    have hl : Lib.deBruijn32tab.length = 32 := by decide
    simp [bruTab, List.getD, show j < Lib.deBruijn32tab.length by omega]
  · cases ht
end Go.Proofs.YtokppjfaihkkcaaDoor
