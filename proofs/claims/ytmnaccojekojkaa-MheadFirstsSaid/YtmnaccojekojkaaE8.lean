/- Chapter 11's own table of rows. -/
import Derived.Test.YtmnaccojekojkaaE7
import Derived.Test.YtmnaccojekojkaaRc
import Derived.Deep.CutBlock
import Derived.Deep.QuietTactic
import Derived.Deep.WholeRow
import Derived.Deep.MidRow
namespace Go.Proofs.Ytmnaccojekojkaa
open Go.RowKit Go.Lib
set_option linter.unusedVariables false
set_option linter.unusedSimpArgs false
theorem results_tmp3 {fn : Func} {t u v : Tmp} (h : fn.results = #[.tmp t, .tmp u, .tmp v]) (tmps : Array Value) (P : Program) (w : World) :
    (results fn tmps).run P w = .ok (.tuple #[tmps.getD t undef, tmps.getD u undef, tmps.getD v undef]) w := by
  simp [results, h]
/-- The table of rows. -/
def rowCells : List Value := [.int .i64 1, .int .i64 0, .int .i64 0, .int .i64 0, .int .i64 0, .int .i64 0, .int .i64 2, .int .i64 0, .int .i64 0, .int .i64 3, .int .i64 0, .int .i64 0, .int .i64 8, .int .i64 1, .int .i64 0, .int .i64 8, .int .i64 2, .int .i64 0, .int .i64 8, .int .i64 4, .int .i64 0, .int .i64 11, .int .i64 1, .int .i64 1, .int .i64 11, .int .i64 2, .int .i64 1, .int .i64 11, .int .i64 4, .int .i64 1, .int .i64 12, .int .i64 4, .int .i64 0, .int .i64 6, .int .i64 8, .int .i64 0, .int .i64 4, .int .i64 1, .int .i64 0, .int .i64 4, .int .i64 2, .int .i64 0, .int .i64 4, .int .i64 4, .int .i64 0, .int .i64 4, .int .i64 8, .int .i64 0, .int .i64 5, .int .i64 1, .int .i64 0, .int .i64 5, .int .i64 2, .int .i64 0, .int .i64 5, .int .i64 4, .int .i64 0, .int .i64 5, .int .i64 8, .int .i64 0, .int .i64 11, .int .i64 0, .int .i64 1, .int .i64 11, .int .i64 0, .int .i64 1, .int .i64 11, .int .i64 0, .int .i64 1, .int .i64 11, .int .i64 0, .int .i64 1, .int .i64 11, .int .i64 0, .int .i64 1, .int .i64 7, .int .i64 1, .int .i64 0, .int .i64 7, .int .i64 2, .int .i64 0, .int .i64 7, .int .i64 4, .int .i64 0, .int .i64 9, .int .i64 2, .int .i64 0, .int .i64 9, .int .i64 4, .int .i64 0, .int .i64 10, .int .i64 2, .int .i64 0, .int .i64 10, .int .i64 4, .int .i64 0]
def rowZero : List Value := List.replicate 96 (.int .i64 0)
theorem rowCells_len : rowCells.length = 96 := rfl
/-- A row of it. -/
def rowAt (j : Nat) : List Value := [.int .i64 ((kindB (192 + j) : Nat) : Int), .int .i64 ((sizeB (192 + j) : Nat) : Int), .int .i64 ((moreB (192 + j) : Nat) : Int)]
theorem rowAt_ok : ∀ j, j < 32 → (rowCells.drop (j * 3)).take 3 = rowAt j := by
  intro j hj
  have h : j = 0 ∨ j = 1 ∨ j = 2 ∨ j = 3 ∨ j = 4 ∨ j = 5 ∨ j = 6 ∨ j = 7 ∨ j = 8 ∨ j = 9 ∨ j = 10 ∨ j = 11 ∨ j = 12 ∨ j = 13 ∨ j = 14 ∨ j = 15 ∨ j = 16 ∨ j = 17 ∨ j = 18 ∨ j = 19 ∨ j = 20 ∨ j = 21 ∨ j = 22 ∨ j = 23 ∨ j = 24 ∨ j = 25 ∨ j = 26 ∨ j = 27 ∨ j = 28 ∨ j = 29 ∨ j = 30 ∨ j = 31 := by omega
  rcases h with rfl | rfl | rfl | rfl | rfl | rfl | rfl | rfl | rfl | rfl | rfl | rfl | rfl | rfl | rfl | rfl | rfl | rfl | rfl | rfl | rfl | rfl | rfl | rfl | rfl | rfl | rfl | rfl | rfl | rfl | rfl | rfl <;> rfl
theorem wpl_ok {P : Program} (w : World) {ops : Array Oper} {rest : List Oper} {o : Oper} {a : Act} {Q : Exit → Act → World → Prop} (v : Value) (w' : World)
    (hg : o.guard = none) (hx : (execOp a.eval o).run P w = .ok (.value v) w') (h : wpList P ops Q rest (a.put o.dst v) w') : wpList P ops Q (o :: rest) a w := by
  refine wpList_plain hg fun K hK => ?_
  unfold Oper.wp
  rw [hx]
  exact hK _ _ h
theorem wpl_build {P : Program} (w : World) {ops : Array Oper} {rest : List Oper} {o : Oper} {a : Act} {Q : Exit → Act → World → Prop} (T : TypeId) (parts : Array (Nat × Operand)) (v : Value)
    (hg : o.guard = none) (hop : o.op = .build T parts) (hx : (execOp a.eval o).run P w = .ok (.value v) w) (h : wpList P ops Q rest (a.put o.dst v) w) : wpList P ops Q (o :: rest) a w := wpl_ok w v w hg hx h
theorem wpl_alloc96 (w : World) {ops : Array Oper} {rest : List Oper} {o : Oper} {a : Act} {Q : Exit → Act → World → Prop}
    (hg : o.guard = none) (hop : o.op = .alloc 51) (h : wpList Try.prog ops Q rest (a.put o.dst (.pointer (some ⟨w.heap.size, 0, none⟩))) (w.alloc (.cells rowZero.toArray 51))) : wpList Try.prog ops Q (o :: rest) a w := by
  have hz := (zero_of_info (P := Try.prog) (t := 51) (v := .agg rowZero.toArray) (n := 96) (by kernel_rfl)).1 w
  refine wpl_ok w _ _ hg ?_ h
  unfold execOp
  rw [hop]
  simp [hz, Result.andThen, Instr.alloc, newVar]
  try rfl
theorem wpl_store96 (w : World) {ops : Array Oper} {rest : List Oper} {o : Oper} {a : Act} {Q : Exit → Act → World → Prop} (x y : Operand)
    (hg : o.guard = none) (hop : o.op = .store 51 x y) (hx : a.eval x = .pointer (some ⟨w.heap.size, 0, none⟩)) (hy : a.eval y = .agg rowCells.toArray) (h : wpList Try.prog ops Q rest (a.put o.dst undef) (w.alloc (.cells rowCells.toArray 51))) : wpList Try.prog ops Q (o :: rest) a (w.alloc (.cells rowZero.toArray 51)) := by
  refine wpList_plain hg fun K hK => ?_
  unfold Oper.wp execOp
  simp only [hop, hx, hy, Sem.run_bind, run_storeAt_new (P := Try.prog) w 51 rowZero.toArray rowCells.toArray (by kernel_rfl) rfl (by kernel_rfl), Result.andThen_ok]
  exact hK _ _ h
set_option maxHeartbeats 2000000 in
set_option maxRecDepth 100000 in
theorem row_any (j : Nat) (c : Int) (w : World) (hj : j < 32) (hc : c - 192 = (j : Int)) : Calls Try.prog 24 #[.int .i64 c] w fun e w' => e = .returned (.tuple (rowAt j).toArray) ∧ Below w.heap.size w w' := by
  obtain ⟨k1, k2, k3, hra⟩ : ∃ k1 k2 k3 : Nat, rowAt j = [.int .i64 (k1 : Int), .int .i64 (k2 : Int), .int .i64 (k3 : Int)] := ⟨_, _, _, rfl⟩
  rw [hra]
  have HRA := Lib.hid hra
  clear hra
  go_enter Try.func24, Try.ntmps24
  go_upto_region 2 with (first | refine wpl_build _ 51 _ (.agg rowCells.toArray) rfl rfl (by kernel_rfl) ?_ | refine wpl_alloc96 _ rfl rfl ?_ | refine wpl_store96 w _ _ rfl rfl rfl rfl ?_)
  have hB : Below w.heap.size w (w.alloc (.cells rowCells.toArray 51)) := (Below.refl _ _).alloc (Nat.le_refl _) _
  have hR : (w.alloc (.cells rowCells.toArray 51)).rangeAt w.heap.size (j * 3) (rowAt j) := by
    have := World.rangeAt_of_block (heap_alloc_new w (.cells rowCells.toArray 51)) (j * 3) 3
    rw [← rowAt_ok j hj]
    simpa using this
  have hsz : (w.alloc (.cells rowCells.toArray 51)).heap.size = w.heap.size + 1 := by simp
  generalize w.alloc (.cells rowCells.toArray 51) = W at *
  have HB := Lib.hid hB; have HS := Lib.hid hsz
  rw [HRA.out] at hR
  have HR := Lib.hid hR
  clear hB hR hsz
  go_upto_region 3 with (refine wpList_load_mid rfl 50 _ rfl w.heap.size (j * 3) rfl [.int .i64 (k1 : Int), .int .i64 (k2 : Int), .int .i64 (k3 : Int)] _ HR.out Try.underlying50 rfl (by kernel_rfl) ?_)
  go_quiet (fail)
  go_wp2_with fail
  refine bodyPost_ret (results_tmp3 rfl _ _ _) rfl ?_

  exact ⟨rfl, below_drewN (HB.out.alloc (by have := HS.out; omega) _) _⟩
end Go.Proofs.Ytmnaccojekojkaa
