/- Chapter 9's own Put. -/
import Derived.Test.YtokgodobmcbdoaaH6
namespace Go.Proofs.Ytokgodobmcbdoaa
open Go.RowKit Go.Lib
set_option linter.unusedVariables false
set_option linter.unusedSimpArgs false
/-- Bytes that are answered, as they are read. -/
def ViewL (l : List Nat) (w : World) (e : Ending) (w' : World) : Prop := ∃ ad cap, e = .returned (.slice ad l.length cap) ∧ l.length ≤ cap ∧ RdV w' ad (bv l) ∧ Below w.heap.size w w'
theorem PutL.viewL {l : List Nat} {w w' : World} {e : Ending} (h : PutL l w e w') : ViewL l w e w' := by
  obtain ⟨ad, cap, h1, h2, h3, h4, _⟩ := h.view
  exact ⟨ad, cap, h1, h2, h3, h4⟩
theorem view_new (w : World) (news : List Value) (l : List Nat) (k : Nat) (hk : l.length = k) (hy : news = bv l) : ViewL l w (.returned (.slice (some ⟨w.heap.size, 0, none⟩) k k)) (w.alloc (.cells news.toArray 5)) := by
  subst hk
  exact ⟨_, _, rfl, Nat.le_refl _, by rw [← hy]; exact rd_new _ _ _, (Below.refl _ _).alloc (Nat.le_refl _) _⟩
theorem i64_and7 (x : Int) : bits .and .i64 x 7 = x % 8 := by
  have h7 : (BitVec.ofInt 64 7).toNat = 2 ^ 3 - 1 := by decide
  have hx : (BitVec.ofInt 64 x).toNat % 8 = (x % 8).toNat := by
    rw [BitVec.toNat_ofInt]
    omega
  show IntKind.i64.wrap (((BitVec.ofInt 64 x &&& BitVec.ofInt 64 7).toNat : Nat) : Int) = x % 8
  rw [BitVec.toNat_and, h7, Nat.and_two_pow_sub_one_eq_mod]
  rw [show (2 : Nat) ^ 3 = 8 from rfl, hx, IntKind.wrap_i64]
  omega
theorem u8_or (m i : Nat) (hm : m < 8) (hi : i < 32) : bits .or .u8 ((m : Int) * 32) (i : Int) = ((m * 32 + i : Nat) : Int) := by
  rw [bits_join .u8 8 (by decide) wraps_u8 5 ((m : Int) * 32) (i : Int) (by omega) (by omega) (by omega) (by omega) (by omega) (by omega)]
  omega
set_option maxHeartbeats 1000000 in
set_option maxRecDepth 100000 in
theorem refPut_0 (N : Nat) (Mi : Int) (w : World) (h2 : N < 24) :
    Calls Try.prog 8 #[.int .i64 Mi, .int .u64 (N : Int)] w (ViewL (hd (Mi % 8).toNat N) w) := by
  have e7 := i64_and7 Mi
  obtain ⟨m, hm⟩ : ∃ m : Nat, Mi % 8 = (m : Int) := ⟨(Mi % 8).toNat, by omega⟩
  have hm8 : m < 8 := by omega
  rw [hm] at e7 ⊢
  rw [Int.toNat_natCast]
  have eo := u8_or m N hm8 (by omega)
  have HD := Lib.hid (hd_0 m N h2)
  clear hm
  have z1 : decide ((N : Int) < 24) = true := decide_eq_true (by omega)
  have z2 : decide ((N : Int) < 256) = true := decide_eq_true (by omega)
  have z3 : decide ((N : Int) < 65536) = true := decide_eq_true (by omega)
  have z4 : decide ((N : Int) < 4294967296) = true := decide_eq_true (by omega)
  go_enter Try.func8, Try.ntmps8
  go_wp2_with fail
  go_ret
  rw [HD.out]
  refine view_new w _ _ _ rfl ?_
  (try rw [eo]); simp only [bv, List.map_cons, List.map_nil, List.cons.injEq, Value.int.injEq, true_and, and_true] <;> omega
set_option maxHeartbeats 1000000 in
set_option maxRecDepth 100000 in
theorem refPut_1 (N : Nat) (Mi : Int) (w : World) (h1 : 24 ≤ N) (h2 : N < 256) :
    Calls Try.prog 8 #[.int .i64 Mi, .int .u64 (N : Int)] w (ViewL (hd (Mi % 8).toNat N) w) := by
  have e7 := i64_and7 Mi
  obtain ⟨m, hm⟩ : ∃ m : Nat, Mi % 8 = (m : Int) := ⟨(Mi % 8).toNat, by omega⟩
  have hm8 : m < 8 := by omega
  rw [hm] at e7 ⊢
  rw [Int.toNat_natCast]
  have eo := u8_or m 24 hm8 (by omega)
  have HD := Lib.hid (hd_1 m N h1 h2)
  clear hm
  have z1 : decide ((N : Int) < 24) = false := decide_eq_false (by omega)
  have z2 : decide ((N : Int) < 256) = true := decide_eq_true (by omega)
  have z3 : decide ((N : Int) < 65536) = true := decide_eq_true (by omega)
  have z4 : decide ((N : Int) < 4294967296) = true := decide_eq_true (by omega)
  go_enter Try.func8, Try.ntmps8
  go_wp2_with fail
  go_ret
  rw [HD.out]
  refine view_new w _ _ _ rfl ?_
  rw [show ((24 : Nat) : Int) = 24 from rfl] at eo; rw [eo]; simp only [bv, List.map_cons, List.map_nil, List.cons.injEq, Value.int.injEq, true_and, and_true] <;> omega
set_option maxHeartbeats 1000000 in
set_option maxRecDepth 100000 in
theorem refPut_2 (N : Nat) (Mi : Int) (w : World) (h1 : 256 ≤ N) (h2 : N < 65536) :
    Calls Try.prog 8 #[.int .i64 Mi, .int .u64 (N : Int)] w (ViewL (hd (Mi % 8).toNat N) w) := by
  have e7 := i64_and7 Mi
  obtain ⟨m, hm⟩ : ∃ m : Nat, Mi % 8 = (m : Int) := ⟨(Mi % 8).toNat, by omega⟩
  have hm8 : m < 8 := by omega
  rw [hm] at e7 ⊢
  rw [Int.toNat_natCast]
  have eo := u8_or m 25 hm8 (by omega)
  have HD := Lib.hid (hd_2 m N h1 h2)
  clear hm
  have z1 : decide ((N : Int) < 24) = false := decide_eq_false (by omega)
  have z2 : decide ((N : Int) < 256) = false := decide_eq_false (by omega)
  have z3 : decide ((N : Int) < 65536) = true := decide_eq_true (by omega)
  have z4 : decide ((N : Int) < 4294967296) = true := decide_eq_true (by omega)
  go_enter Try.func8, Try.ntmps8
  go_wp2_with fail
  go_ret
  rw [HD.out]
  refine view_new w _ _ _ rfl ?_
  rw [show ((25 : Nat) : Int) = 25 from rfl] at eo; rw [eo]; simp only [bv, List.map_cons, List.map_nil, List.cons.injEq, Value.int.injEq, true_and, and_true] <;> omega
set_option maxHeartbeats 1000000 in
set_option maxRecDepth 100000 in
theorem refPut_4 (N : Nat) (Mi : Int) (w : World) (h1 : 65536 ≤ N) (h2 : N < 4294967296) :
    Calls Try.prog 8 #[.int .i64 Mi, .int .u64 (N : Int)] w (ViewL (hd (Mi % 8).toNat N) w) := by
  have e7 := i64_and7 Mi
  obtain ⟨m, hm⟩ : ∃ m : Nat, Mi % 8 = (m : Int) := ⟨(Mi % 8).toNat, by omega⟩
  have hm8 : m < 8 := by omega
  rw [hm] at e7 ⊢
  rw [Int.toNat_natCast]
  have eo := u8_or m 26 hm8 (by omega)
  have HD := Lib.hid (hd_4 m N h1 h2)
  clear hm
  have z1 : decide ((N : Int) < 24) = false := decide_eq_false (by omega)
  have z2 : decide ((N : Int) < 256) = false := decide_eq_false (by omega)
  have z3 : decide ((N : Int) < 65536) = false := decide_eq_false (by omega)
  have z4 : decide ((N : Int) < 4294967296) = true := decide_eq_true (by omega)
  go_enter Try.func8, Try.ntmps8
  go_wp2_with fail
  go_ret
  rw [HD.out]
  refine view_new w _ _ _ rfl ?_
  rw [show ((26 : Nat) : Int) = 26 from rfl] at eo; rw [eo]; simp only [bv, List.map_cons, List.map_nil, List.cons.injEq, Value.int.injEq, true_and, and_true] <;> omega
set_option maxHeartbeats 1000000 in
set_option maxRecDepth 100000 in
theorem refPut_8 (N : Nat) (Mi : Int) (w : World) (h1 : 4294967296 ≤ N) (h2 : N < 18446744073709551616) :
    Calls Try.prog 8 #[.int .i64 Mi, .int .u64 (N : Int)] w (ViewL (hd (Mi % 8).toNat N) w) := by
  have e7 := i64_and7 Mi
  obtain ⟨m, hm⟩ : ∃ m : Nat, Mi % 8 = (m : Int) := ⟨(Mi % 8).toNat, by omega⟩
  have hm8 : m < 8 := by omega
  rw [hm] at e7 ⊢
  rw [Int.toNat_natCast]
  have eo := u8_or m 27 hm8 (by omega)
  have HD := Lib.hid (hd_8 m N h1)
  clear hm
  have z1 : decide ((N : Int) < 24) = false := decide_eq_false (by omega)
  have z2 : decide ((N : Int) < 256) = false := decide_eq_false (by omega)
  have z3 : decide ((N : Int) < 65536) = false := decide_eq_false (by omega)
  have z4 : decide ((N : Int) < 4294967296) = false := decide_eq_false (by omega)
  go_enter Try.func8, Try.ntmps8
  go_wp2_with fail
  go_ret
  rw [HD.out]
  refine view_new w _ _ _ rfl ?_
  rw [show ((27 : Nat) : Int) = 27 from rfl] at eo; rw [eo]; simp only [bv, List.map_cons, List.map_nil, List.cons.injEq, Value.int.injEq, true_and, and_true] <;> omega
theorem refPut_any (N : Nat) (Mi : Int) (w : World) (h2 : N < 18446744073709551616) :
    Calls Try.prog 8 #[.int .i64 Mi, .int .u64 (N : Int)] w (ViewL (hd (Mi % 8).toNat N) w) := by
  by_cases g1 : N < 24
  · exact refPut_0 N Mi w g1
  by_cases g2 : N < 256
  · exact refPut_1 N Mi w (by omega) g2
  by_cases g3 : N < 65536
  · exact refPut_2 N Mi w (by omega) g3
  by_cases g4 : N < 4294967296
  · exact refPut_4 N Mi w (by omega) g4
  exact refPut_8 N Mi w (by omega) h2
end Go.Proofs.Ytokgodobmcbdoaa
