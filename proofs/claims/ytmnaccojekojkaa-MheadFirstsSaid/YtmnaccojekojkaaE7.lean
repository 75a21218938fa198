/- Chapter 11's own Put. -/
import Derived.Test.YtmnaccojekojkaaE5
namespace Go.Proofs.Ytmnaccojekojkaa
open Go.RowKit Go.Lib
set_option linter.unusedVariables false
set_option linter.unusedSimpArgs false
theorem viewM_new (w : World) (news : List Value) (l : List Nat) (k : Nat) (hk : l.length = k) (hy : news = bv l) : ViewM l w (.returned (.slice (some ⟨w.heap.size, 0, none⟩) k k)) (w.alloc (.cells news.toArray 5)) := by
  subst hk
  exact ⟨_, _, rfl, Nat.le_refl _, by rw [← hy]; exact rd_new _ _ _, (Below.refl _ _).alloc (Nat.le_refl _) _⟩
/-- What holds from round to round. -/
def LowI (w0 : World) (S x : Nat) (c i : Value) (wr : World) : Prop :=
  ∃ (j : Nat) (L : List Nat), j ≤ S ∧ i = .int .i64 ((j : Int) - 1) ∧ wr.ownsRow w0.heap.size 5 1 c L.length (bv L) ∧ L.length + j = S ∧ L ++ be j x = be S x ∧ Below w0.heap.size w0 wr
theorem LowI.step {w0 w' : World} {L : List Nat} {S x t : Nat} {c : Value} (hj : t + 1 ≤ S) (hn : L.length + (t + 1) = S) (hL : L ++ be (t + 1) x = be S x) (ho : w'.ownsRow w0.heap.size 5 1 c (L.length + 1) (bv (L ++ [x / 256 ^ t % 256]))) (hb : Below w0.heap.size w0 w') : LowI w0 S x c (.int .i64 ((t : Int) - 1)) w' :=
  ⟨t, L ++ [x / 256 ^ t % 256], by omega, rfl, by rw [List.length_append]; exact ho, by simp; omega, by rw [← hL]; simp [be], hb⟩
set_option maxHeartbeats 2000000 in
set_option maxRecDepth 100000 in
theorem low_any (x S : Nat) (w : World) (hS : S ≤ 8) (hx : x < 18446744073709551616) :
    Calls Try.prog 27 #[.int .u64 (x : Int), .int .i64 (S : Int)] w (PutL (be S x) w) := by
  have HST := Lib.hid (show LowI w S x (.slice none 0 0) (.int .i64 ((S : Int) - 1)) w from ⟨S, [], Nat.le_refl _, rfl, World.ownsRow_nil _ _ _ _, by simp, rfl, Below.refl _ _⟩)
  go_enter Try.func27, Try.ntmps27
  go_wp2_with fail
  go_loopw [5, 6] (fun c i wr => LowI w S x c i wr) (fun _ i _ => (intOf i + 1).toNat)
  case atStart => exact HST.out
  case round =>
    clear HST
    obtain ⟨j, L, hj, rfl, ho, hnn, hLL, hbl⟩ := hrel
    have HNN := Lib.hid hnn
    have HO := Lib.hid ho; have HLL := Lib.hid hLL; have HBL := Lib.hid hbl
    have hl8 : L.length ≤ 8 := by omega
    clear hnn ho hLL hbl
    by_cases hj0 : 0 < j
    · obtain ⟨t, rfl⟩ : ∃ t, j = t + 1 := ⟨j - 1, by omega⟩
      have e1 : ((t + 1 : Nat) : Int) - 1 = (t : Int) := by omega
      have e2 : (0 : Int) ≤ (t : Int) := by omega
      have e3 : (8 * t : Nat) ≤ 64 := by omega
      have EB := Lib.hid (shr_byte x t)
      rw [e1]
      clear e1 hj0
      go_wp2_with (at_builtin; refine wpl_put wr _ rfl _ _ rfl w _ L.length L rfl HO.out HBL.out 1 rfl rfl [x / 256 ^ t % 256] (by rw [EB.out]; rfl) (L ++ [x / 256 ^ t % 256]) rfl (by omega) ?_)
      intro c2 w7 ho7 hb7
      have HST := Lib.hid (LowI.step hj HNN.out HLL.out ho7 hb7)
      clear ho7 hb7
      go_wp2
      go_roundw
      case rel => exact HST.out
      case measure => simp [intOf]
    · obtain rfl : j = 0 := by omega
      have hL : L = be S x := by rw [← HLL.out]; simp [be]
      clear hj0 HLL
      go_wp2
      go_ret
      have O := HO.out
      refine ⟨_, rfl, ?_, HBL.out⟩
      rw [← hL]; exact O
theorem own_byte (w : World) (e : TypeId) (x : Value) : (w.alloc (.cells #[x] e)).ownsRow w.heap.size e 1 (.slice (some ⟨w.heap.size, 0, none⟩) 1 1) 1 [x] :=
  ⟨rfl, .inr ⟨w.heap.size, 1, #[x], rfl, Nat.le_refl _, heap_alloc_new .., by decide, by unfold maxLen; omega, rfl, rfl⟩⟩
set_option maxHeartbeats 2000000 in
set_option maxRecDepth 100000 in
theorem of_any (f S x : Nat) (w : World) (hf : f < 256) (hS : S ≤ 8) (hx : x < 18446744073709551616) :
    Calls Try.prog 18 #[.int .i64 (f : Int), .int .u64 (x : Int), .int .i64 (S : Int)] w (ViewM (f :: be S x) w) := by
  have KL := Lib.hid (fun W => low_any x S W hS hx)
  have e1 : (f : Int) % 256 = (f : Int) := by omega
  go_enter Try.func18, Try.ntmps18
  go_wp2_with fail
  refine (KL.out _).mono ?_
  rintro r w2 ⟨v, rfl, ho, hb⟩
  obtain ⟨ad, cap, rfl, hc, hr, hlen, _, h0⟩ := own_viewN ho
  rw [be_len] at *
  have hb0 : Below w.heap.size w (w.alloc (.cells #[.int .u8 (f : Int)] 5)) := (Below.refl _ _).alloc (Nat.le_refl _) _
  have OW := Lib.hid (own_onN (own_byte w 5 (.int .u8 (f : Int))) hb)
  have HB := Lib.hid (below_on hb0 hb)
  have HR := Lib.hid hr; have H0 := Lib.hid (fun h => (h0 h).1)
  have HL := Lib.hid hlen
  clear ho hb hr h0 hc hb0 hlen
  go_wp2_with (at_builtin; refine wpl_appV Try.underlying22 info_u8 rfl (by decide) (by decide) _ rfl _ _ rfl w.heap.size _ 1 [.int .u8 (f : Int)] rfl OW.out ad S cap (bv (be S x)) rfl HL.out HR.out (bv_one _) H0.out (by omega) (by have := HB.out.size; omega) ?_)
  intro v' w' h1 h2
  have O := Lib.hid h1; have B := Lib.hid (HB.out.grown h2 HB.out.size (fun g hg => (OW.out.lt g hg).1))
  clear h1 h2
  go_wp2
  go_ret
  obtain ⟨ad2, cap2, e2, hc2, hr2, hl2, _, _⟩ := own_viewN O.out
  refine ⟨ad2, cap2, ?_, ?_, ?_, B.out⟩
  · rw [List.length_cons, be_len, Nat.add_comm S 1]; exact congrArg Ending.returned e2
  · rw [List.length_cons, be_len, Nat.add_comm S 1]; exact hc2
  · exact hr2

set_option maxHeartbeats 2000000 in
set_option maxRecDepth 100000 in
theorem refNumber_0 (x : Nat) (w : World) (h : x < 128) : Calls Try.prog 17 #[.int .u64 (x : Int)] w (ViewM [x] w) := by
  have z128 : decide ((x : Int) < 128) = true := decide_eq_true (by omega)
  have e1 : (x : Int) % 256 = (x : Int) := by omega
  clear h
  go_enter Try.func17, Try.ntmps17
  go_wp2_with fail
  go_ret
  exact viewM_new w _ [x] 1 rfl rfl

set_option maxHeartbeats 2000000 in
set_option maxRecDepth 100000 in
theorem refNumber_1 (x : Nat) (w : World) (h0 : 128 ≤ x) (h1 : x < 256) (hx : x < 18446744073709551616) : Calls Try.prog 17 #[.int .u64 (x : Int)] w (ViewM (204 :: be 1 x) w) := by
  have z128 : decide ((x : Int) < 128) = false := decide_eq_false (by omega)
  have z256 : decide ((x : Int) < 256) = true := decide_eq_true (by omega)
  have HX := Lib.hid hx
  clear h0 h1 hx
  go_enter Try.func17, Try.ntmps17
  go_wp2_with fail
  refine (of_any 204 1 x _ (by decide) (by decide) HX.out).mono ?_
  rintro r w2 ⟨ad, cap, rfl, hc, hr, hb⟩
  have HC := Lib.hid hc; have HR := Lib.hid hr; have HB := Lib.hid hb
  clear hc hr hb
  go_wp2_with fail
  go_ret
  exact ⟨_, _, rfl, HC.out, HR.out, HB.out⟩

set_option maxHeartbeats 2000000 in
set_option maxRecDepth 100000 in
theorem refNumber_2 (x : Nat) (w : World) (h0 : 256 ≤ x) (h1 : x < 65536) (hx : x < 18446744073709551616) : Calls Try.prog 17 #[.int .u64 (x : Int)] w (ViewM (205 :: be 2 x) w) := by
  have z128 : decide ((x : Int) < 128) = false := decide_eq_false (by omega)
  have z256 : decide ((x : Int) < 256) = false := decide_eq_false (by omega)
  have z65536 : decide ((x : Int) < 65536) = true := decide_eq_true (by omega)
  have HX := Lib.hid hx
  clear h0 h1 hx
  go_enter Try.func17, Try.ntmps17
  go_wp2_with fail
  refine (of_any 205 2 x _ (by decide) (by decide) HX.out).mono ?_
  rintro r w2 ⟨ad, cap, rfl, hc, hr, hb⟩
  have HC := Lib.hid hc; have HR := Lib.hid hr; have HB := Lib.hid hb
  clear hc hr hb
  go_wp2_with fail
  go_ret
  exact ⟨_, _, rfl, HC.out, HR.out, HB.out⟩

set_option maxHeartbeats 2000000 in
set_option maxRecDepth 100000 in
theorem refNumber_3 (x : Nat) (w : World) (h0 : 65536 ≤ x) (h1 : x < 4294967296) (hx : x < 18446744073709551616) : Calls Try.prog 17 #[.int .u64 (x : Int)] w (ViewM (206 :: be 4 x) w) := by
  have z128 : decide ((x : Int) < 128) = false := decide_eq_false (by omega)
  have z256 : decide ((x : Int) < 256) = false := decide_eq_false (by omega)
  have z65536 : decide ((x : Int) < 65536) = false := decide_eq_false (by omega)
  have z4294967296 : decide ((x : Int) < 4294967296) = true := decide_eq_true (by omega)
  have HX := Lib.hid hx
  clear h0 h1 hx
  go_enter Try.func17, Try.ntmps17
  go_wp2_with fail
  refine (of_any 206 4 x _ (by decide) (by decide) HX.out).mono ?_
  rintro r w2 ⟨ad, cap, rfl, hc, hr, hb⟩
  have HC := Lib.hid hc; have HR := Lib.hid hr; have HB := Lib.hid hb
  clear hc hr hb
  go_wp2_with fail
  go_ret
  exact ⟨_, _, rfl, HC.out, HR.out, HB.out⟩

set_option maxHeartbeats 2000000 in
set_option maxRecDepth 100000 in
theorem refNumber_4 (x : Nat) (w : World) (h0 : 4294967296 ≤ x) (hx : x < 18446744073709551616) : Calls Try.prog 17 #[.int .u64 (x : Int)] w (ViewM (207 :: be 8 x) w) := by
  have z128 : decide ((x : Int) < 128) = false := decide_eq_false (by omega)
  have z256 : decide ((x : Int) < 256) = false := decide_eq_false (by omega)
  have z65536 : decide ((x : Int) < 65536) = false := decide_eq_false (by omega)
  have z4294967296 : decide ((x : Int) < 4294967296) = false := decide_eq_false (by omega)
  have HX := Lib.hid hx
  clear h0 hx
  go_enter Try.func17, Try.ntmps17
  go_wp2_with fail
  refine (of_any 207 8 x _ (by decide) (by decide) HX.out).mono ?_
  rintro r w2 ⟨ad, cap, rfl, hc, hr, hb⟩
  have HC := Lib.hid hc; have HR := Lib.hid hr; have HB := Lib.hid hb
  clear hc hr hb
  go_wp2_with fail
  go_ret
  exact ⟨_, _, rfl, HC.out, HR.out, HB.out⟩

theorem refNumber_any (x : Nat) (w : World) (hx : x < 18446744073709551616) : Calls Try.prog 17 #[.int .u64 (x : Int)] w (ViewM ((mlay 4 x).1 :: be (mlay 4 x).2 x) w) := by
  rw [show mlay 4 x = if x < 128 then (x, 0) else (204 + stepN x, 2 ^ stepN x) by simp [mlay]]
  by_cases h : x < 128
  · rw [if_pos h]; exact refNumber_0 x w h
  rw [if_neg h]
  by_cases h0 : x < 256
  · rw [stepN_0 h0]; exact refNumber_1 x w (by omega) h0 hx
  by_cases h1 : x < 65536
  · rw [stepN_1 (by omega) h1]; exact refNumber_2 x w (by omega) h1 hx
  by_cases h2 : x < 4294967296
  · rw [stepN_2 (by omega) h2]; exact refNumber_3 x w (by omega) h2 hx
  · rw [stepN_3 (show 4294967296 ≤ x by omega)]; exact refNumber_4 x w (by omega) hx

set_option maxHeartbeats 2000000 in
set_option maxRecDepth 100000 in
theorem sized_7_0 (x : Nat) (w : World) (h : x < 256) : Calls Try.prog 19 #[.int .u64 (x : Int), .int .i64 217, .int .i64 218, .int .i64 219] w (ViewM (217 :: be 1 x) w) := by
  have HX := Lib.hid (show x < 18446744073709551616 by omega)
  have z256 : decide ((x : Int) < 256) = true := decide_eq_true (by omega)
  have y256 : (x : Int) < 256 := by omega
  have w256 : x < 256 := by omega
  clear h
  go_enter Try.func19, Try.ntmps19
  go_wp2_with fail
  refine (of_any 217 1 x _ (by decide) (by decide) HX.out).mono ?_
  rintro r w2 ⟨ad, cap, rfl, hc, hr, hb⟩
  have HC := Lib.hid hc; have HR := Lib.hid hr; have HB := Lib.hid hb
  clear hc hr hb
  go_wp2_with fail
  go_ret
  exact ⟨_, _, rfl, HC.out, HR.out, HB.out⟩

set_option maxHeartbeats 2000000 in
set_option maxRecDepth 100000 in
theorem sized_7_1 (x : Nat) (w : World) (h0 : ¬ x < 256) (h : x < 65536) : Calls Try.prog 19 #[.int .u64 (x : Int), .int .i64 217, .int .i64 218, .int .i64 219] w (ViewM (218 :: be 2 x) w) := by
  have HX := Lib.hid (show x < 18446744073709551616 by omega)
  have z256 : decide ((x : Int) < 256) = false := decide_eq_false (by omega)
  have y256 : ¬ (x : Int) < 256 := by omega
  have w256 : ¬ x < 256 := by omega
  have z65536 : decide ((x : Int) < 65536) = true := decide_eq_true (by omega)
  have y65536 : (x : Int) < 65536 := by omega
  have w65536 : x < 65536 := by omega
  clear h0 h
  go_enter Try.func19, Try.ntmps19
  go_wp2_with fail
  refine (of_any 218 2 x _ (by decide) (by decide) HX.out).mono ?_
  rintro r w2 ⟨ad, cap, rfl, hc, hr, hb⟩
  have HC := Lib.hid hc; have HR := Lib.hid hr; have HB := Lib.hid hb
  clear hc hr hb
  go_wp2_with fail
  go_ret
  exact ⟨_, _, rfl, HC.out, HR.out, HB.out⟩

set_option maxHeartbeats 2000000 in
set_option maxRecDepth 100000 in
theorem sized_7_2 (x : Nat) (w : World) (h0 : ¬ x < 65536) (h : x < 4294967296) : Calls Try.prog 19 #[.int .u64 (x : Int), .int .i64 217, .int .i64 218, .int .i64 219] w (ViewM (219 :: be 4 x) w) := by
  have HX := Lib.hid (show x < 18446744073709551616 by omega)
  have z256 : decide ((x : Int) < 256) = false := decide_eq_false (by omega)
  have y256 : ¬ (x : Int) < 256 := by omega
  have w256 : ¬ x < 256 := by omega
  have z65536 : decide ((x : Int) < 65536) = false := decide_eq_false (by omega)
  have y65536 : ¬ (x : Int) < 65536 := by omega
  have w65536 : ¬ x < 65536 := by omega
  clear h0 h
  go_enter Try.func19, Try.ntmps19
  go_wp2_with fail
  refine (of_any 219 4 x _ (by decide) (by decide) HX.out).mono ?_
  rintro r w2 ⟨ad, cap, rfl, hc, hr, hb⟩
  have HC := Lib.hid hc; have HR := Lib.hid hr; have HB := Lib.hid hb
  clear hc hr hb
  go_wp2_with fail
  go_ret
  exact ⟨_, _, rfl, HC.out, HR.out, HB.out⟩

set_option maxHeartbeats 2000000 in
set_option maxRecDepth 100000 in
theorem sized_8_0 (x : Nat) (w : World) (h : x < 256) : Calls Try.prog 19 #[.int .u64 (x : Int), .int .i64 196, .int .i64 197, .int .i64 198] w (ViewM (196 :: be 1 x) w) := by
  have HX := Lib.hid (show x < 18446744073709551616 by omega)
  have z256 : decide ((x : Int) < 256) = true := decide_eq_true (by omega)
  have y256 : (x : Int) < 256 := by omega
  have w256 : x < 256 := by omega
  clear h
  go_enter Try.func19, Try.ntmps19
  go_wp2_with fail
  refine (of_any 196 1 x _ (by decide) (by decide) HX.out).mono ?_
  rintro r w2 ⟨ad, cap, rfl, hc, hr, hb⟩
  have HC := Lib.hid hc; have HR := Lib.hid hr; have HB := Lib.hid hb
  clear hc hr hb
  go_wp2_with fail
  go_ret
  exact ⟨_, _, rfl, HC.out, HR.out, HB.out⟩

set_option maxHeartbeats 2000000 in
set_option maxRecDepth 100000 in
theorem sized_8_1 (x : Nat) (w : World) (h0 : ¬ x < 256) (h : x < 65536) : Calls Try.prog 19 #[.int .u64 (x : Int), .int .i64 196, .int .i64 197, .int .i64 198] w (ViewM (197 :: be 2 x) w) := by
  have HX := Lib.hid (show x < 18446744073709551616 by omega)
  have z256 : decide ((x : Int) < 256) = false := decide_eq_false (by omega)
  have y256 : ¬ (x : Int) < 256 := by omega
  have w256 : ¬ x < 256 := by omega
  have z65536 : decide ((x : Int) < 65536) = true := decide_eq_true (by omega)
  have y65536 : (x : Int) < 65536 := by omega
  have w65536 : x < 65536 := by omega
  clear h0 h
  go_enter Try.func19, Try.ntmps19
  go_wp2_with fail
  refine (of_any 197 2 x _ (by decide) (by decide) HX.out).mono ?_
  rintro r w2 ⟨ad, cap, rfl, hc, hr, hb⟩
  have HC := Lib.hid hc; have HR := Lib.hid hr; have HB := Lib.hid hb
  clear hc hr hb
  go_wp2_with fail
  go_ret
  exact ⟨_, _, rfl, HC.out, HR.out, HB.out⟩

set_option maxHeartbeats 2000000 in
set_option maxRecDepth 100000 in
theorem sized_8_2 (x : Nat) (w : World) (h0 : ¬ x < 65536) (h : x < 4294967296) : Calls Try.prog 19 #[.int .u64 (x : Int), .int .i64 196, .int .i64 197, .int .i64 198] w (ViewM (198 :: be 4 x) w) := by
  have HX := Lib.hid (show x < 18446744073709551616 by omega)
  have z256 : decide ((x : Int) < 256) = false := decide_eq_false (by omega)
  have y256 : ¬ (x : Int) < 256 := by omega
  have w256 : ¬ x < 256 := by omega
  have z65536 : decide ((x : Int) < 65536) = false := decide_eq_false (by omega)
  have y65536 : ¬ (x : Int) < 65536 := by omega
  have w65536 : ¬ x < 65536 := by omega
  clear h0 h
  go_enter Try.func19, Try.ntmps19
  go_wp2_with fail
  refine (of_any 198 4 x _ (by decide) (by decide) HX.out).mono ?_
  rintro r w2 ⟨ad, cap, rfl, hc, hr, hb⟩
  have HC := Lib.hid hc; have HR := Lib.hid hr; have HB := Lib.hid hb
  clear hc hr hb
  go_wp2_with fail
  go_ret
  exact ⟨_, _, rfl, HC.out, HR.out, HB.out⟩

set_option maxHeartbeats 2000000 in
set_option maxRecDepth 100000 in
theorem sized_9_1 (x : Nat) (w : World) (h : x < 65536) : Calls Try.prog 19 #[.int .u64 (x : Int), .int .i64 0, .int .i64 220, .int .i64 221] w (ViewM (220 :: be 2 x) w) := by
  have HX := Lib.hid (show x < 18446744073709551616 by omega)
  have z65536 : decide ((x : Int) < 65536) = true := decide_eq_true (by omega)
  have y65536 : (x : Int) < 65536 := by omega
  have w65536 : x < 65536 := by omega
  clear h
  go_enter Try.func19, Try.ntmps19
  go_wp2_with fail
  refine (of_any 220 2 x _ (by decide) (by decide) HX.out).mono ?_
  rintro r w2 ⟨ad, cap, rfl, hc, hr, hb⟩
  have HC := Lib.hid hc; have HR := Lib.hid hr; have HB := Lib.hid hb
  clear hc hr hb
  go_wp2_with fail
  go_ret
  exact ⟨_, _, rfl, HC.out, HR.out, HB.out⟩

set_option maxHeartbeats 2000000 in
set_option maxRecDepth 100000 in
theorem sized_9_2 (x : Nat) (w : World) (h0 : ¬ x < 65536) (h : x < 4294967296) : Calls Try.prog 19 #[.int .u64 (x : Int), .int .i64 0, .int .i64 220, .int .i64 221] w (ViewM (221 :: be 4 x) w) := by
  have HX := Lib.hid (show x < 18446744073709551616 by omega)
  have z65536 : decide ((x : Int) < 65536) = false := decide_eq_false (by omega)
  have y65536 : ¬ (x : Int) < 65536 := by omega
  have w65536 : ¬ x < 65536 := by omega
  clear h0 h
  go_enter Try.func19, Try.ntmps19
  go_wp2_with fail
  refine (of_any 221 4 x _ (by decide) (by decide) HX.out).mono ?_
  rintro r w2 ⟨ad, cap, rfl, hc, hr, hb⟩
  have HC := Lib.hid hc; have HR := Lib.hid hr; have HB := Lib.hid hb
  clear hc hr hb
  go_wp2_with fail
  go_ret
  exact ⟨_, _, rfl, HC.out, HR.out, HB.out⟩

set_option maxHeartbeats 2000000 in
set_option maxRecDepth 100000 in
theorem sized_10_1 (x : Nat) (w : World) (h : x < 65536) : Calls Try.prog 19 #[.int .u64 (x : Int), .int .i64 0, .int .i64 222, .int .i64 223] w (ViewM (222 :: be 2 x) w) := by
  have HX := Lib.hid (show x < 18446744073709551616 by omega)
  have z65536 : decide ((x : Int) < 65536) = true := decide_eq_true (by omega)
  have y65536 : (x : Int) < 65536 := by omega
  have w65536 : x < 65536 := by omega
  clear h
  go_enter Try.func19, Try.ntmps19
  go_wp2_with fail
  refine (of_any 222 2 x _ (by decide) (by decide) HX.out).mono ?_
  rintro r w2 ⟨ad, cap, rfl, hc, hr, hb⟩
  have HC := Lib.hid hc; have HR := Lib.hid hr; have HB := Lib.hid hb
  clear hc hr hb
  go_wp2_with fail
  go_ret
  exact ⟨_, _, rfl, HC.out, HR.out, HB.out⟩

set_option maxHeartbeats 2000000 in
set_option maxRecDepth 100000 in
theorem sized_10_2 (x : Nat) (w : World) (h0 : ¬ x < 65536) (h : x < 4294967296) : Calls Try.prog 19 #[.int .u64 (x : Int), .int .i64 0, .int .i64 222, .int .i64 223] w (ViewM (223 :: be 4 x) w) := by
  have HX := Lib.hid (show x < 18446744073709551616 by omega)
  have z65536 : decide ((x : Int) < 65536) = false := decide_eq_false (by omega)
  have y65536 : ¬ (x : Int) < 65536 := by omega
  have w65536 : ¬ x < 65536 := by omega
  clear h0 h
  go_enter Try.func19, Try.ntmps19
  go_wp2_with fail
  refine (of_any 223 4 x _ (by decide) (by decide) HX.out).mono ?_
  rintro r w2 ⟨ad, cap, rfl, hc, hr, hb⟩
  have HC := Lib.hid hc; have HR := Lib.hid hr; have HB := Lib.hid hb
  clear hc hr hb
  go_wp2_with fail
  go_ret
  exact ⟨_, _, rfl, HC.out, HR.out, HB.out⟩

theorem sized_7 (x : Nat) (w : World) (hx : x < 4294967296) : Calls Try.prog 19 #[.int .u64 (x : Int), .int .i64 217, .int .i64 218, .int .i64 219] w (ViewM ((217 + stepN x) :: be (2 ^ stepN x) x) w) := by
  by_cases h0 : x < 256
  · rw [stepN_0 h0]; exact sized_7_0 x w h0
  by_cases h1 : x < 65536
  · rw [stepN_1 (by omega) h1]; exact sized_7_1 x w h0 h1
  · rw [stepN_2 (by omega) hx]; exact sized_7_2 x w h1 hx

theorem sized_8 (x : Nat) (w : World) (hx : x < 4294967296) : Calls Try.prog 19 #[.int .u64 (x : Int), .int .i64 196, .int .i64 197, .int .i64 198] w (ViewM ((196 + stepN x) :: be (2 ^ stepN x) x) w) := by
  by_cases h0 : x < 256
  · rw [stepN_0 h0]; exact sized_8_0 x w h0
  by_cases h1 : x < 65536
  · rw [stepN_1 (by omega) h1]; exact sized_8_1 x w h0 h1
  · rw [stepN_2 (by omega) hx]; exact sized_8_2 x w h1 hx

theorem sized_9 (x : Nat) (w : World) (hx : x < 4294967296) : Calls Try.prog 19 #[.int .u64 (x : Int), .int .i64 0, .int .i64 220, .int .i64 221] w (ViewM ((219 + max (stepN x) 1) :: be (2 ^ max (stepN x) 1) x) w) := by
  by_cases h0 : x < 256
  · rw [stepN_0 h0]; exact sized_9_1 x w (by omega)
  by_cases h1 : x < 65536
  · rw [stepN_1 (by omega) h1]; exact sized_9_1 x w h1
  · rw [stepN_2 (by omega) hx]; exact sized_9_2 x w h1 hx

theorem sized_10 (x : Nat) (w : World) (hx : x < 4294967296) : Calls Try.prog 19 #[.int .u64 (x : Int), .int .i64 0, .int .i64 222, .int .i64 223] w (ViewM ((221 + max (stepN x) 1) :: be (2 ^ max (stepN x) 1) x) w) := by
  by_cases h0 : x < 256
  · rw [stepN_0 h0]; exact sized_10_1 x w (by omega)
  by_cases h1 : x < 65536
  · rw [stepN_1 (by omega) h1]; exact sized_10_1 x w h1
  · rw [stepN_2 (by omega) hx]; exact sized_10_2 x w h1 hx

set_option maxHeartbeats 2000000 in
set_option maxRecDepth 100000 in
theorem refMp_1 (x : Nat) (w : World) (hx : x < 18446744073709551616) :
    Calls Try.prog 8 #[.int .i64 1, .int .u64 (x : Int)] w (ViewM ([192]) w) := by
  have A32 := Lib.hid (and_32 x hx)
  have HX := Lib.hid hx
  clear hx
  go_enter Try.func8, Try.ntmps8
  go_wp2_with fail
  go_ret
  exact viewM_new w _ _ 1 rfl rfl

set_option maxHeartbeats 2000000 in
set_option maxRecDepth 100000 in
theorem refMp_2 (x : Nat) (w : World) (hx : x < 18446744073709551616) :
    Calls Try.prog 8 #[.int .i64 2, .int .u64 (x : Int)] w (ViewM ([194]) w) := by
  have A32 := Lib.hid (and_32 x hx)
  have HX := Lib.hid hx
  clear hx
  go_enter Try.func8, Try.ntmps8
  go_wp2_with fail
  go_ret
  exact viewM_new w _ _ 1 rfl rfl

set_option maxHeartbeats 2000000 in
set_option maxRecDepth 100000 in
theorem refMp_3 (x : Nat) (w : World) (hx : x < 18446744073709551616) :
    Calls Try.prog 8 #[.int .i64 3, .int .u64 (x : Int)] w (ViewM ([195]) w) := by
  have A32 := Lib.hid (and_32 x hx)
  have HX := Lib.hid hx
  clear hx
  go_enter Try.func8, Try.ntmps8
  go_wp2_with fail
  go_ret
  exact viewM_new w _ _ 1 rfl rfl

set_option maxHeartbeats 2000000 in
set_option maxRecDepth 100000 in
theorem refMp_12 (x : Nat) (w : World) (hx : x < 18446744073709551616) :
    Calls Try.prog 8 #[.int .i64 12, .int .u64 (x : Int)] w (ViewM (202 :: be 4 x) w) := by
  have A32 := Lib.hid (and_32 x hx)
  have HX := Lib.hid hx
  clear hx
  go_enter Try.func8, Try.ntmps8
  go_wp2_with fail
  refine (of_any 202 4 x _ (by decide) (by decide) HX.out).mono ?_
  rintro r w2 ⟨ad, cap, rfl, hc, hr, hb⟩
  have HC := Lib.hid hc; have HR := Lib.hid hr; have HB := Lib.hid hb
  clear hc hr hb
  go_wp2_with fail
  go_ret
  exact ⟨_, _, rfl, HC.out, HR.out, HB.out⟩

set_option maxHeartbeats 2000000 in
set_option maxRecDepth 100000 in
theorem refMp_6 (x : Nat) (w : World) (hx : x < 18446744073709551616) :
    Calls Try.prog 8 #[.int .i64 6, .int .u64 (x : Int)] w (ViewM (203 :: be 8 x) w) := by
  have A32 := Lib.hid (and_32 x hx)
  have HX := Lib.hid hx
  clear hx
  go_enter Try.func8, Try.ntmps8
  go_wp2_with fail
  refine (of_any 203 8 x _ (by decide) (by decide) HX.out).mono ?_
  rintro r w2 ⟨ad, cap, rfl, hc, hr, hb⟩
  have HC := Lib.hid hc; have HR := Lib.hid hr; have HB := Lib.hid hb
  clear hc hr hb
  go_wp2_with fail
  go_ret
  exact ⟨_, _, rfl, HC.out, HR.out, HB.out⟩

set_option maxHeartbeats 2000000 in
set_option maxRecDepth 100000 in
theorem refMp_4 (x : Nat) (w : World) (hx : x < 18446744073709551616) :
    Calls Try.prog 8 #[.int .i64 4, .int .u64 (x : Int)] w (ViewM ((mlay 4 x).1 :: be (mlay 4 x).2 x) w) := by
  have A32 := Lib.hid (and_32 x hx)
  have HX := Lib.hid hx
  clear hx
  go_enter Try.func8, Try.ntmps8
  go_wp2_with fail
  refine (refNumber_any x _ HX.out).mono ?_
  rintro r w2 ⟨ad, cap, rfl, hc, hr, hb⟩
  have HC := Lib.hid hc; have HR := Lib.hid hr; have HB := Lib.hid hb
  clear hc hr hb
  go_wp2_with fail
  go_ret
  exact ⟨_, _, rfl, HC.out, HR.out, HB.out⟩

set_option maxHeartbeats 2000000 in
set_option maxRecDepth 100000 in
theorem refMp_5a (x : Nat) (w : World) (hx : x < 18446744073709551616) (h5 : ¬ 9223372036854775808 ≤ x) :
    Calls Try.prog 8 #[.int .i64 5, .int .u64 (x : Int)] w (ViewM ((mlay 4 x).1 :: be (mlay 4 x).2 x) w) := by
  have A32 := Lib.hid (and_32 x hx)
  have HX := Lib.hid hx
  have e0 : IntKind.i64.wrap (x : Int) = (x : Int) := by rw [IntKind.wrap_i64]; omega
  have e1 : decide ((0 : Int) ≤ (x : Int)) = true := decide_eq_true (by omega)
  clear hx h5
  go_enter Try.func8, Try.ntmps8
  go_wp2_with fail
  refine (refNumber_any x _ HX.out).mono ?_
  rintro r w2 ⟨ad, cap, rfl, hc, hr, hb⟩
  have HC := Lib.hid hc; have HR := Lib.hid hr; have HB := Lib.hid hb
  clear hc hr hb
  go_wp2_with fail
  go_ret
  exact ⟨_, _, rfl, HC.out, HR.out, HB.out⟩

set_option maxHeartbeats 2000000 in
set_option maxRecDepth 100000 in
theorem refMp_5s (x : Nat) (w : World) (hx : x < 18446744073709551616) (h5 : 18446744073709551584 ≤ x) :
    Calls Try.prog 8 #[.int .i64 5, .int .u64 (x : Int)] w (ViewM ([x % 256]) w) := by
  have A32 := Lib.hid (and_32 x hx)
  have HX := Lib.hid hx
  obtain ⟨v, e0⟩ : ∃ v : Int, IntKind.i64.wrap (x : Int) = v := ⟨_, rfl⟩
  have hv : v = (x : Int) - 18446744073709551616 := by rw [← e0]; exact i64_of x (by omega) hx
  have q0 : decide ((0 : Int) ≤ v) = false := decide_eq_false (by omega)
  have q32 : decide ((-32 : Int) ≤ v) = true := decide_eq_true (by omega)
  have e3 : v % 256 = ((x % 256 : Nat) : Int) := by omega
  clear hx h5 hv
  go_enter Try.func8, Try.ntmps8
  go_wp2_with fail
  go_ret
  exact viewM_new w _ [x % 256] 1 rfl (by first | rfl | (rw [e3]; rfl) | (simp only [bv, List.map_cons, List.map_nil, List.cons.injEq, Value.int.injEq, true_and, and_true]; omega))

set_option maxHeartbeats 2000000 in
set_option maxRecDepth 100000 in
theorem refMp_5_0 (x : Nat) (w : World) (hx : x < 18446744073709551616) (h5 : 9223372036854775808 ≤ x) (h6 : ¬ 18446744073709551584 ≤ x) (hs : stepN ((18446744073709551615 - x) * 2) = 0) :
    Calls Try.prog 8 #[.int .i64 5, .int .u64 (x : Int)] w (ViewM (208 :: be 1 x) w) := by
  have A32 := Lib.hid (and_32 x hx)
  have HX := Lib.hid hx
  obtain ⟨v, e0⟩ : ∃ v : Int, IntKind.i64.wrap (x : Int) = v := ⟨_, rfl⟩
  have hv : v = (x : Int) - 18446744073709551616 := by rw [← e0]; exact i64_of x (by omega) hx
  have hq : (18446744073709551615 - x) * 2 < 256 := by have := stepN_ge ((18446744073709551615 - x) * 2) (by omega); rw [hs] at this; simpa using this
  have q0 : decide ((0 : Int) ≤ v) = false := decide_eq_false (by omega)
  have q32 : decide ((-32 : Int) ≤ v) = false := decide_eq_false (by omega)
  have q128 : decide ((-128 : Int) ≤ v) = true := decide_eq_true (by omega)
  clear hx h5 h6 hs hq hv
  go_enter Try.func8, Try.ntmps8
  go_wp2_with fail
  refine (of_any 208 1 x _ (by decide) (by decide) HX.out).mono ?_
  rintro r w2 ⟨ad, cap, rfl, hc, hr, hb⟩
  have HC := Lib.hid hc; have HR := Lib.hid hr; have HB := Lib.hid hb
  clear hc hr hb
  go_wp2_with fail
  go_ret
  exact ⟨_, _, rfl, HC.out, HR.out, HB.out⟩

set_option maxHeartbeats 2000000 in
set_option maxRecDepth 100000 in
theorem refMp_5_1 (x : Nat) (w : World) (hx : x < 18446744073709551616) (h5 : 9223372036854775808 ≤ x) (h6 : ¬ 18446744073709551584 ≤ x) (hs : stepN ((18446744073709551615 - x) * 2) = 1) :
    Calls Try.prog 8 #[.int .i64 5, .int .u64 (x : Int)] w (ViewM (209 :: be 2 x) w) := by
  have A32 := Lib.hid (and_32 x hx)
  have HX := Lib.hid hx
  obtain ⟨v, e0⟩ : ∃ v : Int, IntKind.i64.wrap (x : Int) = v := ⟨_, rfl⟩
  have hv : v = (x : Int) - 18446744073709551616 := by rw [← e0]; exact i64_of x (by omega) hx
  have hq : (18446744073709551615 - x) * 2 < 65536 := by have := stepN_ge ((18446744073709551615 - x) * 2) (by omega); rw [hs] at this; simpa using this
  have hq2 : 256 ≤ (18446744073709551615 - x) * 2 := by
    rcases Nat.lt_or_ge ((18446744073709551615 - x) * 2) 256 with h | h
    · exfalso
      have : stepN ((18446744073709551615 - x) * 2) ≤ 0 := by unfold stepN; split <;> (try split) <;> (try split) <;> omega
      omega
    · exact h
  have q0 : decide ((0 : Int) ≤ v) = false := decide_eq_false (by omega)
  have q32 : decide ((-32 : Int) ≤ v) = false := decide_eq_false (by omega)
  have q128 : decide ((-128 : Int) ≤ v) = false := decide_eq_false (by omega)
  have q32768 : decide ((-32768 : Int) ≤ v) = true := decide_eq_true (by omega)
  clear hx h5 h6 hs hq hv hq2
  go_enter Try.func8, Try.ntmps8
  go_wp2_with fail
  refine (of_any 209 2 x _ (by decide) (by decide) HX.out).mono ?_
  rintro r w2 ⟨ad, cap, rfl, hc, hr, hb⟩
  have HC := Lib.hid hc; have HR := Lib.hid hr; have HB := Lib.hid hb
  clear hc hr hb
  go_wp2_with fail
  go_ret
  exact ⟨_, _, rfl, HC.out, HR.out, HB.out⟩

set_option maxHeartbeats 2000000 in
set_option maxRecDepth 100000 in
theorem refMp_5_2 (x : Nat) (w : World) (hx : x < 18446744073709551616) (h5 : 9223372036854775808 ≤ x) (h6 : ¬ 18446744073709551584 ≤ x) (hs : stepN ((18446744073709551615 - x) * 2) = 2) :
    Calls Try.prog 8 #[.int .i64 5, .int .u64 (x : Int)] w (ViewM (210 :: be 4 x) w) := by
  have A32 := Lib.hid (and_32 x hx)
  have HX := Lib.hid hx
  obtain ⟨v, e0⟩ : ∃ v : Int, IntKind.i64.wrap (x : Int) = v := ⟨_, rfl⟩
  have hv : v = (x : Int) - 18446744073709551616 := by rw [← e0]; exact i64_of x (by omega) hx
  have hq : (18446744073709551615 - x) * 2 < 4294967296 := by have := stepN_ge ((18446744073709551615 - x) * 2) (by omega); rw [hs] at this; simpa using this
  have hq2 : 65536 ≤ (18446744073709551615 - x) * 2 := by
    rcases Nat.lt_or_ge ((18446744073709551615 - x) * 2) 65536 with h | h
    · exfalso
      have : stepN ((18446744073709551615 - x) * 2) ≤ 1 := by unfold stepN; split <;> (try split) <;> (try split) <;> omega
      omega
    · exact h
  have q0 : decide ((0 : Int) ≤ v) = false := decide_eq_false (by omega)
  have q32 : decide ((-32 : Int) ≤ v) = false := decide_eq_false (by omega)
  have q128 : decide ((-128 : Int) ≤ v) = false := decide_eq_false (by omega)
  have q32768 : decide ((-32768 : Int) ≤ v) = false := decide_eq_false (by omega)
  have q2147483648 : decide ((-2147483648 : Int) ≤ v) = true := decide_eq_true (by omega)
  clear hx h5 h6 hs hq hv hq2
  go_enter Try.func8, Try.ntmps8
  go_wp2_with fail
  refine (of_any 210 4 x _ (by decide) (by decide) HX.out).mono ?_
  rintro r w2 ⟨ad, cap, rfl, hc, hr, hb⟩
  have HC := Lib.hid hc; have HR := Lib.hid hr; have HB := Lib.hid hb
  clear hc hr hb
  go_wp2_with fail
  go_ret
  exact ⟨_, _, rfl, HC.out, HR.out, HB.out⟩

set_option maxHeartbeats 2000000 in
set_option maxRecDepth 100000 in
theorem refMp_5_3 (x : Nat) (w : World) (hx : x < 18446744073709551616) (h5 : 9223372036854775808 ≤ x) (h6 : ¬ 18446744073709551584 ≤ x) (hs : stepN ((18446744073709551615 - x) * 2) = 3) :
    Calls Try.prog 8 #[.int .i64 5, .int .u64 (x : Int)] w (ViewM (211 :: be 8 x) w) := by
  have A32 := Lib.hid (and_32 x hx)
  have HX := Lib.hid hx
  obtain ⟨v, e0⟩ : ∃ v : Int, IntKind.i64.wrap (x : Int) = v := ⟨_, rfl⟩
  have hv : v = (x : Int) - 18446744073709551616 := by rw [← e0]; exact i64_of x (by omega) hx
  have hq : (18446744073709551615 - x) * 2 < 18446744073709551616 := by have := stepN_ge ((18446744073709551615 - x) * 2) (by omega); rw [hs] at this; simpa using this
  have hq2 : 4294967296 ≤ (18446744073709551615 - x) * 2 := by
    rcases Nat.lt_or_ge ((18446744073709551615 - x) * 2) 4294967296 with h | h
    · exfalso
      have : stepN ((18446744073709551615 - x) * 2) ≤ 2 := by unfold stepN; split <;> (try split) <;> (try split) <;> omega
      omega
    · exact h
  have q0 : decide ((0 : Int) ≤ v) = false := decide_eq_false (by omega)
  have q32 : decide ((-32 : Int) ≤ v) = false := decide_eq_false (by omega)
  have q128 : decide ((-128 : Int) ≤ v) = false := decide_eq_false (by omega)
  have q32768 : decide ((-32768 : Int) ≤ v) = false := decide_eq_false (by omega)
  have q2147483648 : decide ((-2147483648 : Int) ≤ v) = false := decide_eq_false (by omega)
  clear hx h5 h6 hs hq hv hq2
  go_enter Try.func8, Try.ntmps8
  go_wp2_with fail
  refine (of_any 211 8 x _ (by decide) (by decide) HX.out).mono ?_
  rintro r w2 ⟨ad, cap, rfl, hc, hr, hb⟩
  have HC := Lib.hid hc; have HR := Lib.hid hr; have HB := Lib.hid hb
  clear hc hr hb
  go_wp2_with fail
  go_ret
  exact ⟨_, _, rfl, HC.out, HR.out, HB.out⟩

set_option maxHeartbeats 2000000 in
set_option maxRecDepth 100000 in
theorem refMp_7s (x : Nat) (w : World) (hx : x < 18446744073709551616) (h : x % 4294967296 < 32) :
    Calls Try.prog 8 #[.int .i64 7, .int .u64 (x : Int)] w (ViewM ([160 + x % 4294967296]) w) := by
  have A32 := Lib.hid (and_32 x hx)
  have HX := Lib.hid hx
  obtain ⟨y, hy⟩ : ∃ y, x % 4294967296 = y := ⟨_, rfl⟩
  have hy32 : y < 4294967296 := by rw [← hy]; exact Nat.mod_lt _ (by decide)
  rw [hy] at A32
  rw [hy]
  rw [hy] at h
  have E := A32.out
  have z32 : decide ((y : Int) < 32) = true := decide_eq_true (by omega)
  have e3 : (160 + (y : Int)) % 256 = ((160 + y : Nat) : Int) := by omega
  clear hx h
  go_enter Try.func8, Try.ntmps8
  go_wp2_with fail
  go_ret
  exact viewM_new w _ [160 + y] 1 rfl (by first | rfl | (rw [e3]; rfl) | (simp only [bv, List.map_cons, List.map_nil, List.cons.injEq, Value.int.injEq, true_and, and_true]; omega))

set_option maxHeartbeats 2000000 in
set_option maxRecDepth 100000 in
theorem refMp_7l (x : Nat) (w : World) (hx : x < 18446744073709551616) (h : ¬ x % 4294967296 < 32) :
    Calls Try.prog 8 #[.int .i64 7, .int .u64 (x : Int)] w (ViewM ((217 + stepN (x % 4294967296)) :: be (2 ^ (stepN (x % 4294967296))) (x % 4294967296)) w) := by
  have A32 := Lib.hid (and_32 x hx)
  have HX := Lib.hid hx
  obtain ⟨y, hy⟩ : ∃ y, x % 4294967296 = y := ⟨_, rfl⟩
  have hy32 : y < 4294967296 := by rw [← hy]; exact Nat.mod_lt _ (by decide)
  rw [hy] at A32
  rw [hy]
  rw [hy] at h
  have E := A32.out
  have z32 : decide ((y : Int) < 32) = false := decide_eq_false (by omega)
  have HY := Lib.hid hy32
  clear hx h
  go_enter Try.func8, Try.ntmps8
  go_wp2_with fail
  refine (sized_7 y _ HY.out).mono ?_
  rintro r w2 ⟨ad, cap, rfl, hc, hr, hb⟩
  have HC := Lib.hid hc; have HR := Lib.hid hr; have HB := Lib.hid hb
  clear hc hr hb
  go_wp2_with fail
  go_ret
  exact ⟨_, _, rfl, HC.out, HR.out, HB.out⟩

set_option maxHeartbeats 2000000 in
set_option maxRecDepth 100000 in
theorem refMp_9s (x : Nat) (w : World) (hx : x < 18446744073709551616) (h : x % 4294967296 < 16) :
    Calls Try.prog 8 #[.int .i64 9, .int .u64 (x : Int)] w (ViewM ([144 + x % 4294967296]) w) := by
  have A32 := Lib.hid (and_32 x hx)
  have HX := Lib.hid hx
  obtain ⟨y, hy⟩ : ∃ y, x % 4294967296 = y := ⟨_, rfl⟩
  have hy32 : y < 4294967296 := by rw [← hy]; exact Nat.mod_lt _ (by decide)
  rw [hy] at A32
  rw [hy]
  rw [hy] at h
  have E := A32.out
  have z16 : decide ((y : Int) < 16) = true := decide_eq_true (by omega)
  have e3 : (144 + (y : Int)) % 256 = ((144 + y : Nat) : Int) := by omega
  clear hx h
  go_enter Try.func8, Try.ntmps8
  go_wp2_with fail
  go_ret
  exact viewM_new w _ [144 + y] 1 rfl (by first | rfl | (rw [e3]; rfl) | (simp only [bv, List.map_cons, List.map_nil, List.cons.injEq, Value.int.injEq, true_and, and_true]; omega))

set_option maxHeartbeats 2000000 in
set_option maxRecDepth 100000 in
theorem refMp_9l (x : Nat) (w : World) (hx : x < 18446744073709551616) (h : ¬ x % 4294967296 < 16) :
    Calls Try.prog 8 #[.int .i64 9, .int .u64 (x : Int)] w (ViewM ((219 + max (stepN (x % 4294967296)) 1) :: be (2 ^ (max (stepN (x % 4294967296)) 1)) (x % 4294967296)) w) := by
  have A32 := Lib.hid (and_32 x hx)
  have HX := Lib.hid hx
  obtain ⟨y, hy⟩ : ∃ y, x % 4294967296 = y := ⟨_, rfl⟩
  have hy32 : y < 4294967296 := by rw [← hy]; exact Nat.mod_lt _ (by decide)
  rw [hy] at A32
  rw [hy]
  rw [hy] at h
  have E := A32.out
  have z16 : decide ((y : Int) < 16) = false := decide_eq_false (by omega)
  have HY := Lib.hid hy32
  clear hx h
  go_enter Try.func8, Try.ntmps8
  go_wp2_with fail
  refine (sized_9 y _ HY.out).mono ?_
  rintro r w2 ⟨ad, cap, rfl, hc, hr, hb⟩
  have HC := Lib.hid hc; have HR := Lib.hid hr; have HB := Lib.hid hb
  clear hc hr hb
  go_wp2_with fail
  go_ret
  exact ⟨_, _, rfl, HC.out, HR.out, HB.out⟩

set_option maxHeartbeats 2000000 in
set_option maxRecDepth 100000 in
theorem refMp_10s (x : Nat) (w : World) (hx : x < 18446744073709551616) (h : x % 4294967296 < 16) :
    Calls Try.prog 8 #[.int .i64 10, .int .u64 (x : Int)] w (ViewM ([128 + x % 4294967296]) w) := by
  have A32 := Lib.hid (and_32 x hx)
  have HX := Lib.hid hx
  obtain ⟨y, hy⟩ : ∃ y, x % 4294967296 = y := ⟨_, rfl⟩
  have hy32 : y < 4294967296 := by rw [← hy]; exact Nat.mod_lt _ (by decide)
  rw [hy] at A32
  rw [hy]
  rw [hy] at h
  have E := A32.out
  have z16 : decide ((y : Int) < 16) = true := decide_eq_true (by omega)
  have e3 : (128 + (y : Int)) % 256 = ((128 + y : Nat) : Int) := by omega
  clear hx h
  go_enter Try.func8, Try.ntmps8
  go_wp2_with fail
  go_ret
  exact viewM_new w _ [128 + y] 1 rfl (by first | rfl | (rw [e3]; rfl) | (simp only [bv, List.map_cons, List.map_nil, List.cons.injEq, Value.int.injEq, true_and, and_true]; omega))

set_option maxHeartbeats 2000000 in
set_option maxRecDepth 100000 in
theorem refMp_10l (x : Nat) (w : World) (hx : x < 18446744073709551616) (h : ¬ x % 4294967296 < 16) :
    Calls Try.prog 8 #[.int .i64 10, .int .u64 (x : Int)] w (ViewM ((221 + max (stepN (x % 4294967296)) 1) :: be (2 ^ (max (stepN (x % 4294967296)) 1)) (x % 4294967296)) w) := by
  have A32 := Lib.hid (and_32 x hx)
  have HX := Lib.hid hx
  obtain ⟨y, hy⟩ : ∃ y, x % 4294967296 = y := ⟨_, rfl⟩
  have hy32 : y < 4294967296 := by rw [← hy]; exact Nat.mod_lt _ (by decide)
  rw [hy] at A32
  rw [hy]
  rw [hy] at h
  have E := A32.out
  have z16 : decide ((y : Int) < 16) = false := decide_eq_false (by omega)
  have HY := Lib.hid hy32
  clear hx h
  go_enter Try.func8, Try.ntmps8
  go_wp2_with fail
  refine (sized_10 y _ HY.out).mono ?_
  rintro r w2 ⟨ad, cap, rfl, hc, hr, hb⟩
  have HC := Lib.hid hc; have HR := Lib.hid hr; have HB := Lib.hid hb
  clear hc hr hb
  go_wp2_with fail
  go_ret
  exact ⟨_, _, rfl, HC.out, HR.out, HB.out⟩

set_option maxHeartbeats 2000000 in
set_option maxRecDepth 100000 in
theorem refMp_8 (x : Nat) (w : World) (hx : x < 18446744073709551616) :
    Calls Try.prog 8 #[.int .i64 8, .int .u64 (x : Int)] w (ViewM ((196 + stepN (x % 4294967296)) :: be (2 ^ stepN (x % 4294967296)) (x % 4294967296)) w) := by
  have A32 := Lib.hid (and_32 x hx)
  have HX := Lib.hid hx
  obtain ⟨y, hy⟩ : ∃ y, x % 4294967296 = y := ⟨_, rfl⟩
  have hy32 : y < 4294967296 := by rw [← hy]; exact Nat.mod_lt _ (by decide)
  rw [hy] at A32
  rw [hy]
  have E := A32.out
  have HY := Lib.hid hy32
  clear hx
  go_enter Try.func8, Try.ntmps8
  go_wp2_with fail
  refine (sized_8 y _ HY.out).mono ?_
  rintro r w2 ⟨ad, cap, rfl, hc, hr, hb⟩
  have HC := Lib.hid hc; have HR := Lib.hid hr; have HB := Lib.hid hb
  clear hc hr hb
  go_wp2_with fail
  go_ret
  exact ⟨_, _, rfl, HC.out, HR.out, HB.out⟩

set_option maxHeartbeats 2000000 in
set_option maxRecDepth 100000 in
theorem refMp_no (x : Nat) (w : World) (hx : x < 18446744073709551616) (k : Int) (hk : k = 11 ∨ k < 1 ∨ 12 < k) :
    Calls Try.prog 8 #[.int .i64 k, .int .u64 (x : Int)] w (ViewM [] w) := by
  have z1 : decide (k = 1) = false := decide_eq_false (by omega)
  have y1 : (k == 1) = false := by rw [beq_eq_false_iff_ne]; omega
  have z2 : decide (k = 2) = false := decide_eq_false (by omega)
  have y2 : (k == 2) = false := by rw [beq_eq_false_iff_ne]; omega
  have z3 : decide (k = 3) = false := decide_eq_false (by omega)
  have y3 : (k == 3) = false := by rw [beq_eq_false_iff_ne]; omega
  have z4 : decide (k = 4) = false := decide_eq_false (by omega)
  have y4 : (k == 4) = false := by rw [beq_eq_false_iff_ne]; omega
  have z5 : decide (k = 5) = false := decide_eq_false (by omega)
  have y5 : (k == 5) = false := by rw [beq_eq_false_iff_ne]; omega
  have z6 : decide (k = 6) = false := decide_eq_false (by omega)
  have y6 : (k == 6) = false := by rw [beq_eq_false_iff_ne]; omega
  have z12 : decide (k = 12) = false := decide_eq_false (by omega)
  have y12 : (k == 12) = false := by rw [beq_eq_false_iff_ne]; omega
  have z7 : decide (k = 7) = false := decide_eq_false (by omega)
  have y7 : (k == 7) = false := by rw [beq_eq_false_iff_ne]; omega
  have z8 : decide (k = 8) = false := decide_eq_false (by omega)
  have y8 : (k == 8) = false := by rw [beq_eq_false_iff_ne]; omega
  have z9 : decide (k = 9) = false := decide_eq_false (by omega)
  have y9 : (k == 9) = false := by rw [beq_eq_false_iff_ne]; omega
  have z10 : decide (k = 10) = false := decide_eq_false (by omega)
  have y10 : (k == 10) = false := by rw [beq_eq_false_iff_ne]; omega
  clear hk hx
  go_enter Try.func8, Try.ntmps8
  go_wp2_with fail
  go_ret
  exact ⟨none, 0, rfl, Nat.le_refl _, RdV.nil _ _, Below.refl _ _⟩

theorem refMput_any (x : Nat) (w : World) (hx : x < 18446744073709551616) (k : Int) :
    Calls Try.prog 8 #[.int .i64 k, .int .u64 (x : Int)] w (ViewM (mput k x) w) := by
  by_cases hk : k = 11 ∨ k < 1 ∨ 12 < k
  · unfold mput; rw [if_pos hk]; exact refMp_no x w hx k hk
  have hm : mput k x = (mlay k.toNat x).1 :: be (mlay k.toNat x).2 x := by unfold mput; rw [if_neg hk]
  rw [hm]
  have hc2 : k = 1 ∨ k = 2 ∨ k = 3 ∨ k = 12 ∨ k = 6 ∨ k = 7 ∨ k = 8 ∨ k = 9 ∨ k = 10 ∨ k = 5 ∨ k = 4 := by omega
  rcases hc2 with rfl | rfl | rfl | rfl | rfl | rfl | rfl | rfl | rfl | rfl | rfl
  · rw [show mlay (Int.toNat 1) x = (192, 0) by simp [mlay]]; exact refMp_1 x w hx
  · rw [show mlay (Int.toNat 2) x = (194, 0) by simp [mlay]]; exact refMp_2 x w hx
  · rw [show mlay (Int.toNat 3) x = (195, 0) by simp [mlay]]; exact refMp_3 x w hx
  · rw [show mlay (Int.toNat 12) x = (202, 4) by simp [mlay]]; exact refMp_12 x w hx
  · rw [show mlay (Int.toNat 6) x = (203, 8) by simp [mlay]]; exact refMp_6 x w hx

  · have h3 := (mlay_32 7 x (by omega)).2
    rw [show Int.toNat 7 = 7 from rfl, ← be_32 x _ h3, show mlay 7 x = if x % 4294967296 < 32 then (160 + x % 4294967296, 0) else (217 + stepN (x % 4294967296), 2 ^ (stepN (x % 4294967296))) by simp [mlay]]
    by_cases h : x % 4294967296 < 32
    · rw [if_pos h]; exact refMp_7s x w hx h
    · rw [if_neg h]; exact refMp_7l x w hx h
  · have h3 := (mlay_32 8 x (by omega)).2
    rw [show Int.toNat 8 = 8 from rfl, ← be_32 x _ h3, show mlay 8 x = (196 + stepN (x % 4294967296), 2 ^ (stepN (x % 4294967296))) by simp [mlay]]
    exact refMp_8 x w hx
  · have h3 := (mlay_32 9 x (by omega)).2
    rw [show Int.toNat 9 = 9 from rfl, ← be_32 x _ h3, show mlay 9 x = if x % 4294967296 < 16 then (144 + x % 4294967296, 0) else (219 + max (stepN (x % 4294967296)) 1, 2 ^ (max (stepN (x % 4294967296)) 1)) by simp [mlay]]
    by_cases h : x % 4294967296 < 16
    · rw [if_pos h]; exact refMp_9s x w hx h
    · rw [if_neg h]; exact refMp_9l x w hx h
  · have h3 := (mlay_32 10 x (by omega)).2
    rw [show Int.toNat 10 = 10 from rfl, ← be_32 x _ h3, show mlay 10 x = if x % 4294967296 < 16 then (128 + x % 4294967296, 0) else (221 + max (stepN (x % 4294967296)) 1, 2 ^ (max (stepN (x % 4294967296)) 1)) by simp [mlay]]
    by_cases h : x % 4294967296 < 16
    · rw [if_pos h]; exact refMp_10s x w hx h
    · rw [if_neg h]; exact refMp_10l x w hx h
  · by_cases h5 : 9223372036854775808 ≤ x
    · rw [show mlay (Int.toNat 5) x = if 18446744073709551584 ≤ x then (x % 256, 0) else (208 + stepN ((18446744073709551615 - x) * 2), 2 ^ stepN ((18446744073709551615 - x) * 2)) by simp [mlay, h5]]
      by_cases h6 : 18446744073709551584 ≤ x
      · rw [if_pos h6]; exact refMp_5s x w hx h6
      rw [if_neg h6]
      rcases stepN_cases ((18446744073709551615 - x) * 2) with hs | hs | hs | hs <;> rw [hs]
      · exact refMp_5_0 x w hx h5 h6 hs
      · exact refMp_5_1 x w hx h5 h6 hs
      · exact refMp_5_2 x w hx h5 h6 hs
      · exact refMp_5_3 x w hx h5 h6 hs
    · rw [show mlay (Int.toNat 5) x = mlay 4 x by simp [mlay, h5]]
      exact refMp_5a x w hx h5
  · exact refMp_4 x w hx
end Go.Proofs.Ytmnaccojekojkaa

