/- The walks of ieee's layouts: highest, bias, leastPlace, layoutOf, split. -/
import Derived.Test.YtokppjfaihkkcaaDoorC3
import Derived.Test.YtokppjfaihkkcaaDoorF1
import Derived.Laws.BitsAllLaws
namespace Go.Proofs.YtokppjfaihkkcaaDoor
open Go.RowKit Go.Sort
set_option linter.unusedVariables false
set_option linter.unusedSimpArgs false


theorem below_box' (w : World) (a : Array Value) (t : TypeId) : Below w.heap.size w (w.alloc (.cells a t)) := (Below.refl _ _).alloc (Nat.le_refl _) _
def layV (e f : Nat) : Value := .agg #[.int .i64 (e : Int), .int .i64 (f : Int)]
theorem IntBelow.mk {a b : Int} {w w' : World} (h : a = b) (hb : Below w.heap.size w w') : IntBelow b w (.returned (.int .i64 a)) w' := ⟨by rw [h], hb⟩

theorem highest_any {e f : Nat} (hl : Lay e f) (w : World) : Calls Tryd.prog 52 #[layV e f] w (IntBelow (2 ^ e - 1) w) := by
  have HB := Lib.hid (fun a => below_box' w a 68)
  rcases hl with ⟨rfl, rfl⟩ | ⟨rfl, rfl⟩ | ⟨rfl, rfl⟩
  all_goals
    go_enter Tryd.func52, Tryd.ntmps52
    unfold layV
    go_wp2
    go_ret
    exact IntBelow.mk (by rfl) (HB.out _)
theorem bias_any {e f : Nat} (hl : Lay e f) (w : World) : Calls Tryd.prog 77 #[layV e f] w (IntBelow (2 ^ (e - 1) - 1) w) := by
  have HB := Lib.hid (fun a => below_box' w a 68)
  rcases hl with ⟨rfl, rfl⟩ | ⟨rfl, rfl⟩ | ⟨rfl, rfl⟩
  all_goals
    go_enter Tryd.func77, Tryd.ntmps77
    unfold layV
    go_wp2
    go_ret
    exact IntBelow.mk (by rfl) (HB.out _)


theorem lay_bd {e f : Nat} (hl : Lay e f) : 5 ≤ e ∧ e ≤ 11 ∧ 10 ≤ f ∧ f ≤ 52 ∧ (15 : Int) ≤ 2 ^ (e - 1) - 1 ∧ (2 : Int) ^ (e - 1) - 1 ≤ 1023 := by
  rcases hl with ⟨rfl, rfl⟩ | ⟨rfl, rfl⟩ | ⟨rfl, rfl⟩ <;> decide
set_option maxHeartbeats 1000000 in
theorem leastPlace_any {e f : Nat} (hl : Lay e f) (w : World) : Calls Tryd.prog 68 #[layV e f] w (IntBelow (leastF e f) w) := by
  have KB := Lib.hid (fun W => bias_any hl W)
  have HB := Lib.hid (below_box' w #[.int .i64 (e : Int), .int .i64 (f : Int)] 68)
  obtain ⟨_, _, f1, f2, b1, b2⟩ := lay_bd hl
  have hr : 1 - ((2 : Int) ^ (e - 1) - 1) - (f : Int) = leastF e f := by unfold leastF; omega
  generalize leastF e f = R at *
  generalize (2 : Int) ^ (e - 1) - 1 = b at *
  generalize hW : w.alloc (.cells #[.int .i64 (e : Int), .int .i64 (f : Int)] 68) = W at *
  have HW := Lib.hid hW
  have cB : ∀ d os, Calls Tryd.prog 77 #[.agg #[.int .i64 (e : Int), .int .i64 (f : Int)]] (grow (redrawn W d) os) fun r w'' => r = .returned (.int .i64 b) ∧ ∃ p : Regrown, w'' = grow (redrawn W p.d) p.os :=
    fun d os => Calls.regrown_of (KB.out _)
  have c0 : W.cell? ⟨w.heap.size, 0, none⟩ = some (.int .i64 (e : Int)) := by rw [← hW]; simp
  have c1 : W.cell? ⟨w.heap.size, 1, none⟩ = some (.int .i64 (f : Int)) := by rw [← hW]; simp
  have k0 := cell_regrown c0
  have k1 := cell_regrown c1
  have HR := Lib.hid hr
  clear hW KB hr
  unfold layV
  go_enter Tryd.func68, Tryd.ntmps68
  go_wp2_with fail
  rw [HW.out]
  refine wp_region_quiet_below (by kernel_rfl) (by kernel_rfl) ?_
  repeat (quiet_step (first | with_reducible exact cB _ _))
  refine wpQuiet_nil ?_
  intro _ hw'
  obtain ⟨⟨dq, osq⟩, hw''⟩ := hw'
  subst hw''
  go_wp2
  go_ret
  exact IntBelow.mk (by rw [← HR.out, IntWalk.i64_in (1 - b) (by omega), IntWalk.i64_in _ (by omega)]) (HB.out.trans ((below_regrown W dq osq).mono (by rw [← HW.out]; simp)))

/-- What layoutOf answers. -/
def layA (width : Int) : Value := match layOf width with | some (e, f) => layV e f | none => layV 0 0
theorem layoutOf_any (width : Int) (w : World) : Calls Tryd.prog 38 #[.int .i64 width] w fun r w' => r = .returned (.tuple #[layA width, .bool (layOf width).isSome]) ∧ Below w.heap.size w w' := by
  have HB := Lib.hid (fun a => below_box' w a 68)
  by_cases h1 : width = 16
  · subst h1
    go_enter Tryd.func38, Tryd.ntmps38
    go_wp2
    exact bodyPost_ret (v := .tuple #[.agg #[.int .i64 5, .int .i64 10], .bool true]) (by simp [results, Tryd.results38, go_sem]) rfl ⟨rfl, HB.out _⟩
  by_cases h2 : width = 32
  · subst h2
    go_enter Tryd.func38, Tryd.ntmps38
    go_wp2
    exact bodyPost_ret (v := .tuple #[.agg #[.int .i64 8, .int .i64 23], .bool true]) (by simp [results, Tryd.results38, go_sem]) rfl ⟨rfl, HB.out _⟩
  by_cases h3 : width = 64
  · subst h3
    go_enter Tryd.func38, Tryd.ntmps38
    go_wp2
    exact bodyPost_ret (v := .tuple #[.agg #[.int .i64 11, .int .i64 52], .bool true]) (by simp [results, Tryd.results38, go_sem]) rfl ⟨rfl, HB.out _⟩
  · have H : Hid (layOf width = none) := by unfold layOf; rw [if_neg h1, if_neg h2, if_neg h3]; rfl
    have b1 : (width == 16) = false := by rw [beq_eq_false_iff_ne]; exact h1
    have b2 : (width == 32) = false := by rw [beq_eq_false_iff_ne]; exact h2
    have b3 : (width == 64) = false := by rw [beq_eq_false_iff_ne]; exact h3
    go_enter Tryd.func38, Tryd.ntmps38
    go_wp2
    exact bodyPost_ret (v := .tuple #[.agg #[.int .i64 0, .int .i64 0], .bool false]) (by simp [results, Tryd.results38, go_sem]) rfl ⟨by unfold layA; rw [H.out]; rfl, HB.out _⟩

/-- A float's parts as Go has them. -/
def partV (e f x : Nat) : Value := .agg #[.bool (fNeg e f x), .int .i64 (fEx e f x : Int), .int .u64 (fFr f x : Int)]
theorem mask_and (x k : Nat) (hx : x < 18446744073709551616) (hk : k < 64) : bits BinOp.and IntKind.u64 (x : Int) ((2 ^ k - 1 : Nat) : Int) = ((x % 2 ^ k : Nat) : Int) := by
  have : 2 ^ k - 1 < 18446744073709551616 := by
    have : 2 ^ k ≤ 2 ^ 63 := Nat.pow_le_pow_right (by decide) (by omega)
    omega
  rw [bits_and_u64_nat x _ hx this, Nat.and_two_pow_sub_one_eq_mod]

theorem int_beq1 (q : Nat) : ((q : Int) == 1) = decide (q = 1) := by
  by_cases h : q = 1
  · subst h; rfl
  · rw [decide_eq_false h, beq_eq_false_iff_ne]; omega
set_option maxHeartbeats 2000000 in
theorem split_any {e f : Nat} (hl : Lay e f) (x : Nat) (hx : x < 18446744073709551616) (w : World) : Calls Tryd.prog 41 #[layV e f, .int .u64 (x : Int)] w fun r w' => r = .returned (partV e f x) ∧ Below w.heap.size w w' := by
  have HB := Lib.hid (fun a b => (below_box' w a 68).alloc (by simp) (.cells b 76))
  rcases hl with ⟨rfl, rfl⟩ | ⟨rfl, rfl⟩ | ⟨rfl, rfl⟩
  ·
    have m1 : bits BinOp.and IntKind.u64 ((x : Int) / 1024) 31 = ((x / 2 ^ 10 % 2 ^ 5 : Nat) : Int) := mask_and (x / 1024) 5 (by omega) (by omega)
    have m2 : bits BinOp.and IntKind.u64 (x : Int) 1023 = ((x % 2 ^ 10 : Nat) : Int) := mask_and x 10 hx (by omega)
    have m3 : bits BinOp.and IntKind.u64 ((x : Int) / 32768) 1 = ((x / 2 ^ (5 + 10) % 2 : Nat) : Int) := mask_and (x / 32768) 1 (by omega) (by omega)
    have h1 : x / 2 ^ 10 % 2 ^ 5 < 32 := Nat.mod_lt _ (by decide)
    have h2 : x / 2 ^ (5 + 10) % 2 < 2 := Nat.mod_lt _ (by decide)
    unfold layV partV fNeg fEx fFr
    generalize x / 2 ^ 10 % 2 ^ 5 = a at *
    generalize x % 2 ^ 10 = b at *
    generalize x / 2 ^ (5 + 10) % 2 = c at *
    have h3 := Lib.hid (int_beq1 c)
    have HW := Lib.hid (IntWalk.wrap64_in (a : Int) (by omega))
    have HW2 := Lib.hid (IntWalk.i64_in (a : Int) (by omega))
    have e1 : IntKind.i64.wrap 15 = 15 := by decide
    have e2 : IntKind.u64.wrap 32 = 32 := by decide
    have e3 : IntKind.u64.wrap (32 - 1) = 31 := by decide
    have e4 : IntKind.u64.wrap 1024 = 1024 := by decide
    have e5 : IntKind.u64.wrap (1024 - 1) = 1023 := by decide
    have e6 : IntKind.u64.wrap 31 = 31 := by decide
    have e7 : IntKind.u64.wrap 1023 = 1023 := by decide
    go_enter Tryd.func41, Tryd.ntmps41
    go_wp2_with fail
    go_region_held3 (fun w' => w'.cell? ⟨w.heap.size, 0, none⟩ = some (.int .i64 5) ∧ w'.cell? ⟨w.heap.size, 1, none⟩ = some (.int .i64 10)) (go_keep) (fail)
    all_goals
      go_wp2_with fail
      exact bodyPost_ret (v := .agg #[.bool ((c : Int) == 1), .int .i64 (a : Int), .int .u64 (b : Int)]) (by simp [results, Tryd.results41, go_sem, HW.out, HW2.out, e6, e7, m1, m2]) rfl ⟨by rw [h3.out], below_drew (HB.out _ _)⟩
  ·
    have m1 : bits BinOp.and IntKind.u64 ((x : Int) / 8388608) 255 = ((x / 2 ^ 23 % 2 ^ 8 : Nat) : Int) := mask_and (x / 8388608) 8 (by omega) (by omega)
    have m2 : bits BinOp.and IntKind.u64 (x : Int) 8388607 = ((x % 2 ^ 23 : Nat) : Int) := mask_and x 23 hx (by omega)
    have m3 : bits BinOp.and IntKind.u64 ((x : Int) / 2147483648) 1 = ((x / 2 ^ (8 + 23) % 2 : Nat) : Int) := mask_and (x / 2147483648) 1 (by omega) (by omega)
    have h1 : x / 2 ^ 23 % 2 ^ 8 < 256 := Nat.mod_lt _ (by decide)
    have h2 : x / 2 ^ (8 + 23) % 2 < 2 := Nat.mod_lt _ (by decide)
    unfold layV partV fNeg fEx fFr
    generalize x / 2 ^ 23 % 2 ^ 8 = a at *
    generalize x % 2 ^ 23 = b at *
    generalize x / 2 ^ (8 + 23) % 2 = c at *
    have h3 := Lib.hid (int_beq1 c)
    have HW := Lib.hid (IntWalk.wrap64_in (a : Int) (by omega))
    have HW2 := Lib.hid (IntWalk.i64_in (a : Int) (by omega))
    have e1 : IntKind.i64.wrap 31 = 31 := by decide
    have e2 : IntKind.u64.wrap 256 = 256 := by decide
    have e3 : IntKind.u64.wrap (256 - 1) = 255 := by decide
    have e4 : IntKind.u64.wrap 8388608 = 8388608 := by decide
    have e5 : IntKind.u64.wrap (8388608 - 1) = 8388607 := by decide
    have e6 : IntKind.u64.wrap 255 = 255 := by decide
    have e7 : IntKind.u64.wrap 8388607 = 8388607 := by decide
    go_enter Tryd.func41, Tryd.ntmps41
    go_wp2_with fail
    go_region_held3 (fun w' => w'.cell? ⟨w.heap.size, 0, none⟩ = some (.int .i64 8) ∧ w'.cell? ⟨w.heap.size, 1, none⟩ = some (.int .i64 23)) (go_keep) (fail)
    all_goals
      go_wp2_with fail
      exact bodyPost_ret (v := .agg #[.bool ((c : Int) == 1), .int .i64 (a : Int), .int .u64 (b : Int)]) (by simp [results, Tryd.results41, go_sem, HW.out, HW2.out, e6, e7, m1, m2]) rfl ⟨by rw [h3.out], below_drew (HB.out _ _)⟩
  ·
    have m1 : bits BinOp.and IntKind.u64 ((x : Int) / 4503599627370496) 2047 = ((x / 2 ^ 52 % 2 ^ 11 : Nat) : Int) := mask_and (x / 4503599627370496) 11 (by omega) (by omega)
    have m2 : bits BinOp.and IntKind.u64 (x : Int) 4503599627370495 = ((x % 2 ^ 52 : Nat) : Int) := mask_and x 52 hx (by omega)
    have m3 : bits BinOp.and IntKind.u64 ((x : Int) / 9223372036854775808) 1 = ((x / 2 ^ (11 + 52) % 2 : Nat) : Int) := mask_and (x / 9223372036854775808) 1 (by omega) (by omega)
    have h1 : x / 2 ^ 52 % 2 ^ 11 < 2048 := Nat.mod_lt _ (by decide)
    have h2 : x / 2 ^ (11 + 52) % 2 < 2 := Nat.mod_lt _ (by decide)
    unfold layV partV fNeg fEx fFr
    generalize x / 2 ^ 52 % 2 ^ 11 = a at *
    generalize x % 2 ^ 52 = b at *
    generalize x / 2 ^ (11 + 52) % 2 = c at *
    have h3 := Lib.hid (int_beq1 c)
    have HW := Lib.hid (IntWalk.wrap64_in (a : Int) (by omega))
    have HW2 := Lib.hid (IntWalk.i64_in (a : Int) (by omega))
    have e1 : IntKind.i64.wrap 63 = 63 := by decide
    have e2 : IntKind.u64.wrap 2048 = 2048 := by decide
    have e3 : IntKind.u64.wrap (2048 - 1) = 2047 := by decide
    have e4 : IntKind.u64.wrap 4503599627370496 = 4503599627370496 := by decide
    have e5 : IntKind.u64.wrap (4503599627370496 - 1) = 4503599627370495 := by decide
    have e6 : IntKind.u64.wrap 2047 = 2047 := by decide
    have e7 : IntKind.u64.wrap 4503599627370495 = 4503599627370495 := by decide
    go_enter Tryd.func41, Tryd.ntmps41
    go_wp2_with fail
    go_region_held3 (fun w' => w'.cell? ⟨w.heap.size, 0, none⟩ = some (.int .i64 11) ∧ w'.cell? ⟨w.heap.size, 1, none⟩ = some (.int .i64 52)) (go_keep) (fail)
    all_goals
      go_wp2_with fail
      exact bodyPost_ret (v := .agg #[.bool ((c : Int) == 1), .int .i64 (a : Int), .int .u64 (b : Int)]) (by simp [results, Tryd.results41, go_sem, HW.out, HW2.out, e6, e7, m1, m2]) rfl ⟨by rw [h3.out], below_drew (HB.out _ _)⟩
end Go.Proofs.YtokppjfaihkkcaaDoor
