/- Chapter 4's own Put. -/
import Derived.Test.YtnoclbeamcmhhaaDoorU9
import Derived.Laws.BytesArg
namespace Go.Proofs.YtnoclbeamcmhhaaDoor
open Go.RowKit Go.Shelf Go.Lib
set_option linter.unusedVariables false
set_option linter.unusedSimpArgs false

theorem i32_and63 (x : Int) (h₀ : 0 ≤ x) (h₁ : x < 2147483648) : bits .and .i32 x 63 = x % 64 := bits_mask .i32 31 (by decide) wraps_i32 6 (by decide) x h₀ h₁
theorem i32_or128 (y : Int) (h₀ : 0 ≤ y) (h₁ : y < 64) : bits .or .i32 128 y = 128 + y := bits_join .i32 31 (by decide) wraps_i32 6 128 y (by decide) (by decide) (by decide) h₀ h₁ (by omega)
theorem i32_or192 (y : Int) (h₀ : 0 ≤ y) (h₁ : y < 64) : bits .or .i32 192 y = 192 + y := bits_join .i32 31 (by decide) wraps_i32 6 192 y (by decide) (by decide) (by decide) h₀ h₁ (by omega)
theorem i32_or224 (y : Int) (h₀ : 0 ≤ y) (h₁ : y < 32) : bits .or .i32 224 y = 224 + y := bits_join .i32 31 (by decide) wraps_i32 5 224 y (by decide) (by decide) (by decide) h₀ h₁ (by omega)
theorem i32_or240 (y : Int) (h₀ : 0 ≤ y) (h₁ : y < 16) : bits .or .i32 240 y = 240 + y := bits_join .i32 31 (by decide) wraps_i32 4 240 y (by decide) (by decide) (by decide) h₀ h₁ (by omega)

theorem conv1 (w : World) (a : Int) : Sem.run Tryd.prog (convert 39 9 (.slice (some ⟨w.heap.size, 0, none⟩) 1 1)) (w.alloc (.cells #[.int .u8 a] 5)) = .ok (.string (strOfNums [a])) (w.alloc (.cells #[.int .u8 a] 5)) := by
  refine run_convert_bytes_arg _ 39 5 Tryd.underlying39 Tryd.underlying5 w.heap.size 0 1 1 [a] rfl ?_ 9 Tryd.underlying9
  intro i hi
  have hi' : i = 0 := by omega
  subst hi' <;> simp

theorem conv2 (w : World) (a b : Int) : Sem.run Tryd.prog (convert 39 9 (.slice (some ⟨w.heap.size, 0, none⟩) 2 2)) (w.alloc (.cells #[.int .u8 a, .int .u8 b] 5)) = .ok (.string (strOfNums [a, b])) (w.alloc (.cells #[.int .u8 a, .int .u8 b] 5)) := by
  refine run_convert_bytes_arg _ 39 5 Tryd.underlying39 Tryd.underlying5 w.heap.size 0 2 2 [a, b] rfl ?_ 9 Tryd.underlying9
  intro i hi
  have hi' : i = 0 ∨ i = 1 := by omega
  rcases hi' with rfl | rfl <;> simp

theorem conv3 (w : World) (a b c : Int) : Sem.run Tryd.prog (convert 39 9 (.slice (some ⟨w.heap.size, 0, none⟩) 3 3)) (w.alloc (.cells #[.int .u8 a, .int .u8 b, .int .u8 c] 5)) = .ok (.string (strOfNums [a, b, c])) (w.alloc (.cells #[.int .u8 a, .int .u8 b, .int .u8 c] 5)) := by
  refine run_convert_bytes_arg _ 39 5 Tryd.underlying39 Tryd.underlying5 w.heap.size 0 3 3 [a, b, c] rfl ?_ 9 Tryd.underlying9
  intro i hi
  have hi' : i = 0 ∨ i = 1 ∨ i = 2 := by omega
  rcases hi' with rfl | rfl | rfl <;> simp

theorem conv4 (w : World) (a b c d : Int) : Sem.run Tryd.prog (convert 39 9 (.slice (some ⟨w.heap.size, 0, none⟩) 4 4)) (w.alloc (.cells #[.int .u8 a, .int .u8 b, .int .u8 c, .int .u8 d] 5)) = .ok (.string (strOfNums [a, b, c, d])) (w.alloc (.cells #[.int .u8 a, .int .u8 b, .int .u8 c, .int .u8 d] 5)) := by
  refine run_convert_bytes_arg _ 39 5 Tryd.underlying39 Tryd.underlying5 w.heap.size 0 4 4 [a, b, c, d] rfl ?_ 9 Tryd.underlying9
  intro i hi
  have hi' : i = 0 ∨ i = 1 ∨ i = 2 ∨ i = 3 := by omega
  rcases hi' with rfl | rfl | rfl | rfl <;> simp

theorem putS_nums (n : Nat) (h : okR (n : Int) = true) (xs : List Int) (hx : xs = (encN n).map fun (x : Nat) => (x : Int)) : strOfNums xs = putS (n : Int) := by
  subst hx
  unfold putS strOfNums enc
  rw [h]; simp
def PutPost (n : Int) (w : World) (e : Ending) (w' : World) : Prop := e = .returned (.string (putS n)) ∧ Below w.heap.size w w'
theorem put_mk {n : Nat} {xs : List Int} {w w' : World} (h : okR (n : Int) = true) (hx : xs = (encN n).map fun (x : Nat) => (x : Int)) (hb : Below w.heap.size w w') : PutPost n w (.returned (.string (strOfNums xs))) w' := ⟨by rw [putS_nums n h xs hx], hb⟩


set_option maxHeartbeats 1000000 in
set_option maxRecDepth 100000 in
theorem refPut_one (n : Nat) (w : World) (h : 0 ≤ n ∧ n < 128) :
    Calls Tryd.prog 30 #[.int .i32 n] w (PutPost n w) := by
  have e0 : decide ((n : Int) < 0) = false := decide_eq_false (by omega)
  have e1 : decide ((1114111 : Int) < (n : Int)) = false := decide_eq_false (by omega)
  have e2 : decide ((55296 : Int) ≤ (n : Int)) = false := decide_eq_false (by omega)
  have e3 : decide ((n : Int) < 128) = true := decide_eq_true (by omega)
  have e4 : decide ((n : Int) < 2048) = true := decide_eq_true (by omega)
  have e5 : decide ((n : Int) < 65536) = true := decide_eq_true (by omega)
  go_enter Tryd.func30, Tryd.ntmps30
  go_wp2
  rw [conv1]
  simp only [Result.andThen]
  rw [Oper.upon_value]
  go_wp2
  go_ret
  refine put_mk (okR_iff.2 (by omega)) ?_ ((Below.refl _ _).alloc (Nat.le_refl _) _)
  unfold encN; rw [if_pos (by omega)]; simp; try omega


set_option maxHeartbeats 1000000 in
set_option maxRecDepth 100000 in
theorem refPut_two (n : Nat) (w : World) (h : 128 ≤ n ∧ n < 2048) :
    Calls Tryd.prog 30 #[.int .i32 n] w (PutPost n w) := by
  have e0 : decide ((n : Int) < 0) = false := decide_eq_false (by omega)
  have e1 : decide ((1114111 : Int) < (n : Int)) = false := decide_eq_false (by omega)
  have e2 : decide ((55296 : Int) ≤ (n : Int)) = false := decide_eq_false (by omega)
  have e3 : decide ((n : Int) < 128) = false := decide_eq_false (by omega)
  have e4 : decide ((n : Int) < 2048) = true := decide_eq_true (by omega)
  have e5 : decide ((n : Int) < 65536) = true := decide_eq_true (by omega)
  go_enter Tryd.func30, Tryd.ntmps30
  go_wp2
  rw [conv2]
  simp only [Result.andThen]
  rw [Oper.upon_value]
  go_wp2
  go_ret
  refine put_mk (okR_iff.2 (by omega)) ?_ ((Below.refl _ _).alloc (Nat.le_refl _) _)
  unfold encN; rw [if_neg (by omega), if_pos (by omega), i32_and63 _ (by omega) (by omega), i32_or128 _ (by omega) (by omega)]; simp; omega


set_option maxHeartbeats 1000000 in
set_option maxRecDepth 100000 in
theorem refPut_lo (n : Nat) (w : World) (h : 2048 ≤ n ∧ n < 55296) :
    Calls Tryd.prog 30 #[.int .i32 n] w (PutPost n w) := by
  have e0 : decide ((n : Int) < 0) = false := decide_eq_false (by omega)
  have e1 : decide ((1114111 : Int) < (n : Int)) = false := decide_eq_false (by omega)
  have e2 : decide ((55296 : Int) ≤ (n : Int)) = false := decide_eq_false (by omega)
  have e3 : decide ((n : Int) < 128) = false := decide_eq_false (by omega)
  have e4 : decide ((n : Int) < 2048) = false := decide_eq_false (by omega)
  have e5 : decide ((n : Int) < 65536) = true := decide_eq_true (by omega)
  go_enter Tryd.func30, Tryd.ntmps30
  go_wp2
  rw [conv3]
  simp only [Result.andThen]
  rw [Oper.upon_value]
  go_wp2
  go_ret
  refine put_mk (okR_iff.2 (by omega)) ?_ ((Below.refl _ _).alloc (Nat.le_refl _) _)
  unfold encN; rw [if_neg (by omega), if_neg (by omega), if_pos (by omega), i32_or224 _ (by omega) (by omega), i32_and63 _ (by omega) (by omega), i32_or128 _ (by omega) (by omega), i32_and63 _ (by omega) (by omega), i32_or128 _ (by omega) (by omega)]; simp; omega


set_option maxHeartbeats 1000000 in
set_option maxRecDepth 100000 in
theorem refPut_hi (n : Nat) (w : World) (h : 57344 ≤ n ∧ n < 65536) :
    Calls Tryd.prog 30 #[.int .i32 n] w (PutPost n w) := by
  have e0 : decide ((n : Int) < 0) = false := decide_eq_false (by omega)
  have e1 : decide ((1114111 : Int) < (n : Int)) = false := decide_eq_false (by omega)
  have e2 : decide ((55296 : Int) ≤ (n : Int)) = true := decide_eq_true (by omega)
  have e3 : decide ((n : Int) ≤ 57343) = false := decide_eq_false (by omega)
  have e4 : decide ((n : Int) < 128) = false := decide_eq_false (by omega)
  have e5 : decide ((n : Int) < 2048) = false := decide_eq_false (by omega)
  have e6 : decide ((n : Int) < 65536) = true := decide_eq_true (by omega)
  go_enter Tryd.func30, Tryd.ntmps30
  go_wp2
  rw [conv3]
  simp only [Result.andThen]
  rw [Oper.upon_value]
  go_wp2
  go_ret
  refine put_mk (okR_iff.2 (by omega)) ?_ ((Below.refl _ _).alloc (Nat.le_refl _) _)
  unfold encN; rw [if_neg (by omega), if_neg (by omega), if_pos (by omega), i32_or224 _ (by omega) (by omega), i32_and63 _ (by omega) (by omega), i32_or128 _ (by omega) (by omega), i32_and63 _ (by omega) (by omega), i32_or128 _ (by omega) (by omega)]; simp; omega


set_option maxHeartbeats 1000000 in
set_option maxRecDepth 100000 in
theorem refPut_four (n : Nat) (w : World) (h : 65536 ≤ n ∧ n < 1114112) :
    Calls Tryd.prog 30 #[.int .i32 n] w (PutPost n w) := by
  have e0 : decide ((n : Int) < 0) = false := decide_eq_false (by omega)
  have e1 : decide ((1114111 : Int) < (n : Int)) = false := decide_eq_false (by omega)
  have e2 : decide ((55296 : Int) ≤ (n : Int)) = true := decide_eq_true (by omega)
  have e3 : decide ((n : Int) ≤ 57343) = false := decide_eq_false (by omega)
  have e4 : decide ((n : Int) < 128) = false := decide_eq_false (by omega)
  have e5 : decide ((n : Int) < 2048) = false := decide_eq_false (by omega)
  have e6 : decide ((n : Int) < 65536) = false := decide_eq_false (by omega)
  go_enter Tryd.func30, Tryd.ntmps30
  go_wp2
  rw [conv4]
  simp only [Result.andThen]
  rw [Oper.upon_value]
  go_wp2
  go_ret
  refine put_mk (okR_iff.2 (by omega)) ?_ ((Below.refl _ _).alloc (Nat.le_refl _) _)
  unfold encN; rw [if_neg (by omega), if_neg (by omega), if_neg (by omega), i32_or240 _ (by omega) (by omega), i32_and63 _ (by omega) (by omega), i32_or128 _ (by omega) (by omega), i32_and63 _ (by omega) (by omega), i32_or128 _ (by omega) (by omega), i32_and63 _ (by omega) (by omega), i32_or128 _ (by omega) (by omega)]; simp; omega


set_option maxHeartbeats 1000000 in
set_option maxRecDepth 100000 in
theorem refPut_neg (r : Int) (w : World) (h : r < 0) (hlo : -2147483648 ≤ r) :
    Calls Tryd.prog 30 #[.int .i32 r] w (PutPost r w) := by
  have hno : okR r = false := by
    cases h' : okR r
    · rfl
    · rw [okR_iff] at h'; omega
  have he : putS r = ⟨#[]⟩ := by unfold putS; rw [hno]; rfl
  unfold PutPost
  rw [he]
  clear hno he
  have e0 : decide (r < 0) = true := decide_eq_true h
  go_enter Tryd.func30, Tryd.ntmps30
  go_wp2
  go_ret
  exact ⟨rfl, Below.refl _ _⟩


set_option maxHeartbeats 1000000 in
set_option maxRecDepth 100000 in
theorem refPut_big (r : Int) (w : World) (h : 1114111 < r) (hlo : r ≤ 2147483647) :
    Calls Tryd.prog 30 #[.int .i32 r] w (PutPost r w) := by
  have hno : okR r = false := by
    cases h' : okR r
    · rfl
    · rw [okR_iff] at h'; omega
  have he : putS r = ⟨#[]⟩ := by unfold putS; rw [hno]; rfl
  unfold PutPost
  rw [he]
  clear hno he
  have e0 : decide (r < 0) = false := decide_eq_false (by omega)
  have e1 : decide (1114111 < r) = true := decide_eq_true h
  go_enter Tryd.func30, Tryd.ntmps30
  go_wp2
  go_ret
  exact ⟨rfl, Below.refl _ _⟩


set_option maxHeartbeats 1000000 in
set_option maxRecDepth 100000 in
theorem refPut_sur (r : Int) (w : World) (h : 55296 ≤ r ∧ r ≤ 57343) :
    Calls Tryd.prog 30 #[.int .i32 r] w (PutPost r w) := by
  have hno : okR r = false := by
    cases h' : okR r
    · rfl
    · rw [okR_iff] at h'; omega
  have he : putS r = ⟨#[]⟩ := by unfold putS; rw [hno]; rfl
  unfold PutPost
  rw [he]
  clear hno he
  have e0 : decide (r < 0) = false := decide_eq_false (by omega)
  have e1 : decide (1114111 < r) = false := decide_eq_false (by omega)
  have e2 : decide (55296 ≤ r) = true := decide_eq_true h.1
  have e3 : decide (r ≤ 57343) = true := decide_eq_true h.2
  go_enter Tryd.func30, Tryd.ntmps30
  go_wp2
  go_ret
  exact ⟨rfl, Below.refl _ _⟩


theorem refPut_any (r : Int) (w : World) (hr : -2147483648 ≤ r ∧ r ≤ 2147483647) :
    Calls Tryd.prog 30 #[.int .i32 r] w (PutPost r w) := by
  by_cases h0 : r < 0
  · exact refPut_neg r w h0 hr.1
  · by_cases h1 : 1114111 < r
    · exact refPut_big r w h1 hr.2
    · by_cases h2 : 55296 ≤ r ∧ r ≤ 57343
      · exact refPut_sur r w h2
      · obtain ⟨n, rfl⟩ : ∃ n : Nat, r = n := ⟨r.toNat, by omega⟩
        by_cases h3 : n < 128
        · exact refPut_one n w ⟨by omega, h3⟩
        · by_cases h4 : n < 2048
          · exact refPut_two n w ⟨by omega, h4⟩
          · by_cases h5 : n < 55296
            · exact refPut_lo n w ⟨by omega, h5⟩
            · by_cases h6 : n < 65536
              · exact refPut_hi n w ⟨by omega, h6⟩
              · exact refPut_four n w ⟨by omega, by omega⟩
end Go.Proofs.YtnoclbeamcmhhaaDoor
