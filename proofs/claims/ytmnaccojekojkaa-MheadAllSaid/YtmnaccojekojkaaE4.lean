/- Get of heads of MessagePack, walked: what a first byte tells, and the number behind it. -/
import Derived.Test.YtmnaccojekojkaaE3
namespace Go.Proofs.Ytmnaccojekojkaa
open Go.RowKit Go.Lib
set_option linter.unusedVariables false
set_option linter.unusedSimpArgs false

set_option maxHeartbeats 1000000 in
set_option maxRecDepth 100000 in
theorem kindOf_0 (f : Nat) (w : World) (h0 : 0 ≤ f) (h1 : f < 128) :
    Calls Try.prog 20 #[.int .u8 (f : Int)] w fun e w' => e = .returned (.int .i64 4) ∧ w' = w := by
  have e128 : decide ((f : Int) < 128) = true := decide_eq_true (by omega)
  clear h0 h1
  go_enter Try.func20, Try.ntmps20
  go_wp2_with fail
  go_ret
  exact ⟨rfl, rfl⟩

set_option maxHeartbeats 1000000 in
set_option maxRecDepth 100000 in
theorem kindOf_128 (f : Nat) (w : World) (h0 : 128 ≤ f) (h1 : f < 144) :
    Calls Try.prog 20 #[.int .u8 (f : Int)] w fun e w' => e = .returned (.int .i64 10) ∧ w' = w := by
  have e128 : decide ((f : Int) < 128) = false := decide_eq_false (by omega)
  have e144 : decide ((f : Int) < 144) = true := decide_eq_true (by omega)
  clear h0 h1
  go_enter Try.func20, Try.ntmps20
  go_wp2_with fail
  go_ret
  exact ⟨rfl, rfl⟩

set_option maxHeartbeats 1000000 in
set_option maxRecDepth 100000 in
theorem kindOf_144 (f : Nat) (w : World) (h0 : 144 ≤ f) (h1 : f < 160) :
    Calls Try.prog 20 #[.int .u8 (f : Int)] w fun e w' => e = .returned (.int .i64 9) ∧ w' = w := by
  have e128 : decide ((f : Int) < 128) = false := decide_eq_false (by omega)
  have e144 : decide ((f : Int) < 144) = false := decide_eq_false (by omega)
  have e160 : decide ((f : Int) < 160) = true := decide_eq_true (by omega)
  clear h0 h1
  go_enter Try.func20, Try.ntmps20
  go_wp2_with fail
  go_ret
  exact ⟨rfl, rfl⟩

set_option maxHeartbeats 1000000 in
set_option maxRecDepth 100000 in
theorem kindOf_160 (f : Nat) (w : World) (h0 : 160 ≤ f) (h1 : f < 192) :
    Calls Try.prog 20 #[.int .u8 (f : Int)] w fun e w' => e = .returned (.int .i64 7) ∧ w' = w := by
  have e128 : decide ((f : Int) < 128) = false := decide_eq_false (by omega)
  have e144 : decide ((f : Int) < 144) = false := decide_eq_false (by omega)
  have e160 : decide ((f : Int) < 160) = false := decide_eq_false (by omega)
  have e192 : decide ((f : Int) < 192) = true := decide_eq_true (by omega)
  clear h0 h1
  go_enter Try.func20, Try.ntmps20
  go_wp2_with fail
  go_ret
  exact ⟨rfl, rfl⟩

set_option maxHeartbeats 1000000 in
set_option maxRecDepth 100000 in
theorem kindOf_224 (f : Nat) (w : World) (h0 : 224 ≤ f) (h1 : f < 256) :
    Calls Try.prog 20 #[.int .u8 (f : Int)] w fun e w' => e = .returned (.int .i64 5) ∧ w' = w := by
  have e128 : decide ((f : Int) < 128) = false := decide_eq_false (by omega)
  have e144 : decide ((f : Int) < 144) = false := decide_eq_false (by omega)
  have e160 : decide ((f : Int) < 160) = false := decide_eq_false (by omega)
  have e192 : decide ((f : Int) < 192) = false := decide_eq_false (by omega)
  have g224 : decide ((224 : Int) ≤ (f : Int)) = true := decide_eq_true (by omega)
  clear h0 h1
  go_enter Try.func20, Try.ntmps20
  go_wp2_with fail
  go_ret
  exact ⟨rfl, rfl⟩

set_option maxHeartbeats 1000000 in
set_option maxRecDepth 100000 in
theorem kindOf_192 (w : World) : Calls Try.prog 20 #[.int .u8 192] w fun e w' => e = .returned (.int .i64 1) ∧ w' = w := by
  go_enter Try.func20, Try.ntmps20
  go_wp2_with fail
  go_ret
  exact ⟨rfl, rfl⟩

set_option maxHeartbeats 1000000 in
set_option maxRecDepth 100000 in
theorem sizeOf_192 (w : World) : Calls Try.prog 21 #[.int .u8 192] w fun e w' => e = .returned (.int .i64 0) ∧ w' = w := by
  go_enter Try.func21, Try.ntmps21
  go_wp2_with fail
  go_ret
  exact ⟨rfl, rfl⟩

set_option maxHeartbeats 1000000 in
set_option maxRecDepth 100000 in
theorem kindOf_193 (w : World) : Calls Try.prog 20 #[.int .u8 193] w fun e w' => e = .returned (.int .i64 0) ∧ w' = w := by
  go_enter Try.func20, Try.ntmps20
  go_wp2_with fail
  go_ret
  exact ⟨rfl, rfl⟩

set_option maxHeartbeats 1000000 in
set_option maxRecDepth 100000 in
theorem sizeOf_193 (w : World) : Calls Try.prog 21 #[.int .u8 193] w fun e w' => e = .returned (.int .i64 0) ∧ w' = w := by
  go_enter Try.func21, Try.ntmps21
  go_wp2_with fail
  go_ret
  exact ⟨rfl, rfl⟩

set_option maxHeartbeats 1000000 in
set_option maxRecDepth 100000 in
theorem kindOf_194 (w : World) : Calls Try.prog 20 #[.int .u8 194] w fun e w' => e = .returned (.int .i64 2) ∧ w' = w := by
  go_enter Try.func20, Try.ntmps20
  go_wp2_with fail
  go_ret
  exact ⟨rfl, rfl⟩

set_option maxHeartbeats 1000000 in
set_option maxRecDepth 100000 in
theorem sizeOf_194 (w : World) : Calls Try.prog 21 #[.int .u8 194] w fun e w' => e = .returned (.int .i64 0) ∧ w' = w := by
  go_enter Try.func21, Try.ntmps21
  go_wp2_with fail
  go_ret
  exact ⟨rfl, rfl⟩

set_option maxHeartbeats 1000000 in
set_option maxRecDepth 100000 in
theorem kindOf_195 (w : World) : Calls Try.prog 20 #[.int .u8 195] w fun e w' => e = .returned (.int .i64 3) ∧ w' = w := by
  go_enter Try.func20, Try.ntmps20
  go_wp2_with fail
  go_ret
  exact ⟨rfl, rfl⟩

set_option maxHeartbeats 1000000 in
set_option maxRecDepth 100000 in
theorem sizeOf_195 (w : World) : Calls Try.prog 21 #[.int .u8 195] w fun e w' => e = .returned (.int .i64 0) ∧ w' = w := by
  go_enter Try.func21, Try.ntmps21
  go_wp2_with fail
  go_ret
  exact ⟨rfl, rfl⟩

set_option maxHeartbeats 1000000 in
set_option maxRecDepth 100000 in
theorem kindOf_196 (w : World) : Calls Try.prog 20 #[.int .u8 196] w fun e w' => e = .returned (.int .i64 8) ∧ w' = w := by
  go_enter Try.func20, Try.ntmps20
  go_wp2_with fail
  go_ret
  exact ⟨rfl, rfl⟩

set_option maxHeartbeats 1000000 in
set_option maxRecDepth 100000 in
theorem sizeOf_196 (w : World) : Calls Try.prog 21 #[.int .u8 196] w fun e w' => e = .returned (.int .i64 1) ∧ w' = w := by
  go_enter Try.func21, Try.ntmps21
  go_wp2_with fail
  go_ret
  exact ⟨rfl, rfl⟩

set_option maxHeartbeats 1000000 in
set_option maxRecDepth 100000 in
theorem kindOf_197 (w : World) : Calls Try.prog 20 #[.int .u8 197] w fun e w' => e = .returned (.int .i64 8) ∧ w' = w := by
  go_enter Try.func20, Try.ntmps20
  go_wp2_with fail
  go_ret
  exact ⟨rfl, rfl⟩

set_option maxHeartbeats 1000000 in
set_option maxRecDepth 100000 in
theorem sizeOf_197 (w : World) : Calls Try.prog 21 #[.int .u8 197] w fun e w' => e = .returned (.int .i64 2) ∧ w' = w := by
  go_enter Try.func21, Try.ntmps21
  go_wp2_with fail
  go_ret
  exact ⟨rfl, rfl⟩

set_option maxHeartbeats 1000000 in
set_option maxRecDepth 100000 in
theorem kindOf_198 (w : World) : Calls Try.prog 20 #[.int .u8 198] w fun e w' => e = .returned (.int .i64 8) ∧ w' = w := by
  go_enter Try.func20, Try.ntmps20
  go_wp2_with fail
  go_ret
  exact ⟨rfl, rfl⟩

set_option maxHeartbeats 1000000 in
set_option maxRecDepth 100000 in
theorem sizeOf_198 (w : World) : Calls Try.prog 21 #[.int .u8 198] w fun e w' => e = .returned (.int .i64 4) ∧ w' = w := by
  go_enter Try.func21, Try.ntmps21
  go_wp2_with fail
  go_ret
  exact ⟨rfl, rfl⟩

set_option maxHeartbeats 1000000 in
set_option maxRecDepth 100000 in
theorem kindOf_199 (w : World) : Calls Try.prog 20 #[.int .u8 199] w fun e w' => e = .returned (.int .i64 11) ∧ w' = w := by
  go_enter Try.func20, Try.ntmps20
  go_wp2_with fail
  go_ret
  exact ⟨rfl, rfl⟩

set_option maxHeartbeats 1000000 in
set_option maxRecDepth 100000 in
theorem sizeOf_199 (w : World) : Calls Try.prog 21 #[.int .u8 199] w fun e w' => e = .returned (.int .i64 1) ∧ w' = w := by
  go_enter Try.func21, Try.ntmps21
  go_wp2_with fail
  go_ret
  exact ⟨rfl, rfl⟩

set_option maxHeartbeats 1000000 in
set_option maxRecDepth 100000 in
theorem kindOf_200 (w : World) : Calls Try.prog 20 #[.int .u8 200] w fun e w' => e = .returned (.int .i64 11) ∧ w' = w := by
  go_enter Try.func20, Try.ntmps20
  go_wp2_with fail
  go_ret
  exact ⟨rfl, rfl⟩

set_option maxHeartbeats 1000000 in
set_option maxRecDepth 100000 in
theorem sizeOf_200 (w : World) : Calls Try.prog 21 #[.int .u8 200] w fun e w' => e = .returned (.int .i64 2) ∧ w' = w := by
  go_enter Try.func21, Try.ntmps21
  go_wp2_with fail
  go_ret
  exact ⟨rfl, rfl⟩

set_option maxHeartbeats 1000000 in
set_option maxRecDepth 100000 in
theorem kindOf_201 (w : World) : Calls Try.prog 20 #[.int .u8 201] w fun e w' => e = .returned (.int .i64 11) ∧ w' = w := by
  go_enter Try.func20, Try.ntmps20
  go_wp2_with fail
  go_ret
  exact ⟨rfl, rfl⟩

set_option maxHeartbeats 1000000 in
set_option maxRecDepth 100000 in
theorem sizeOf_201 (w : World) : Calls Try.prog 21 #[.int .u8 201] w fun e w' => e = .returned (.int .i64 4) ∧ w' = w := by
  go_enter Try.func21, Try.ntmps21
  go_wp2_with fail
  go_ret
  exact ⟨rfl, rfl⟩

set_option maxHeartbeats 1000000 in
set_option maxRecDepth 100000 in
theorem kindOf_202 (w : World) : Calls Try.prog 20 #[.int .u8 202] w fun e w' => e = .returned (.int .i64 12) ∧ w' = w := by
  go_enter Try.func20, Try.ntmps20
  go_wp2_with fail
  go_ret
  exact ⟨rfl, rfl⟩

set_option maxHeartbeats 1000000 in
set_option maxRecDepth 100000 in
theorem sizeOf_202 (w : World) : Calls Try.prog 21 #[.int .u8 202] w fun e w' => e = .returned (.int .i64 4) ∧ w' = w := by
  go_enter Try.func21, Try.ntmps21
  go_wp2_with fail
  go_ret
  exact ⟨rfl, rfl⟩

set_option maxHeartbeats 1000000 in
set_option maxRecDepth 100000 in
theorem kindOf_203 (w : World) : Calls Try.prog 20 #[.int .u8 203] w fun e w' => e = .returned (.int .i64 6) ∧ w' = w := by
  go_enter Try.func20, Try.ntmps20
  go_wp2_with fail
  go_ret
  exact ⟨rfl, rfl⟩

set_option maxHeartbeats 1000000 in
set_option maxRecDepth 100000 in
theorem sizeOf_203 (w : World) : Calls Try.prog 21 #[.int .u8 203] w fun e w' => e = .returned (.int .i64 8) ∧ w' = w := by
  go_enter Try.func21, Try.ntmps21
  go_wp2_with fail
  go_ret
  exact ⟨rfl, rfl⟩

set_option maxHeartbeats 1000000 in
set_option maxRecDepth 100000 in
theorem kindOf_204 (w : World) : Calls Try.prog 20 #[.int .u8 204] w fun e w' => e = .returned (.int .i64 4) ∧ w' = w := by
  go_enter Try.func20, Try.ntmps20
  go_wp2_with fail
  go_ret
  exact ⟨rfl, rfl⟩

set_option maxHeartbeats 1000000 in
set_option maxRecDepth 100000 in
theorem sizeOf_204 (w : World) : Calls Try.prog 21 #[.int .u8 204] w fun e w' => e = .returned (.int .i64 1) ∧ w' = w := by
  go_enter Try.func21, Try.ntmps21
  go_wp2_with fail
  go_ret
  exact ⟨rfl, rfl⟩

set_option maxHeartbeats 1000000 in
set_option maxRecDepth 100000 in
theorem kindOf_205 (w : World) : Calls Try.prog 20 #[.int .u8 205] w fun e w' => e = .returned (.int .i64 4) ∧ w' = w := by
  go_enter Try.func20, Try.ntmps20
  go_wp2_with fail
  go_ret
  exact ⟨rfl, rfl⟩

set_option maxHeartbeats 1000000 in
set_option maxRecDepth 100000 in
theorem sizeOf_205 (w : World) : Calls Try.prog 21 #[.int .u8 205] w fun e w' => e = .returned (.int .i64 2) ∧ w' = w := by
  go_enter Try.func21, Try.ntmps21
  go_wp2_with fail
  go_ret
  exact ⟨rfl, rfl⟩

set_option maxHeartbeats 1000000 in
set_option maxRecDepth 100000 in
theorem kindOf_206 (w : World) : Calls Try.prog 20 #[.int .u8 206] w fun e w' => e = .returned (.int .i64 4) ∧ w' = w := by
  go_enter Try.func20, Try.ntmps20
  go_wp2_with fail
  go_ret
  exact ⟨rfl, rfl⟩

set_option maxHeartbeats 1000000 in
set_option maxRecDepth 100000 in
theorem sizeOf_206 (w : World) : Calls Try.prog 21 #[.int .u8 206] w fun e w' => e = .returned (.int .i64 4) ∧ w' = w := by
  go_enter Try.func21, Try.ntmps21
  go_wp2_with fail
  go_ret
  exact ⟨rfl, rfl⟩

set_option maxHeartbeats 1000000 in
set_option maxRecDepth 100000 in
theorem kindOf_207 (w : World) : Calls Try.prog 20 #[.int .u8 207] w fun e w' => e = .returned (.int .i64 4) ∧ w' = w := by
  go_enter Try.func20, Try.ntmps20
  go_wp2_with fail
  go_ret
  exact ⟨rfl, rfl⟩

set_option maxHeartbeats 1000000 in
set_option maxRecDepth 100000 in
theorem sizeOf_207 (w : World) : Calls Try.prog 21 #[.int .u8 207] w fun e w' => e = .returned (.int .i64 8) ∧ w' = w := by
  go_enter Try.func21, Try.ntmps21
  go_wp2_with fail
  go_ret
  exact ⟨rfl, rfl⟩

set_option maxHeartbeats 1000000 in
set_option maxRecDepth 100000 in
theorem kindOf_208 (w : World) : Calls Try.prog 20 #[.int .u8 208] w fun e w' => e = .returned (.int .i64 5) ∧ w' = w := by
  go_enter Try.func20, Try.ntmps20
  go_wp2_with fail
  go_ret
  exact ⟨rfl, rfl⟩

set_option maxHeartbeats 1000000 in
set_option maxRecDepth 100000 in
theorem sizeOf_208 (w : World) : Calls Try.prog 21 #[.int .u8 208] w fun e w' => e = .returned (.int .i64 1) ∧ w' = w := by
  go_enter Try.func21, Try.ntmps21
  go_wp2_with fail
  go_ret
  exact ⟨rfl, rfl⟩

set_option maxHeartbeats 1000000 in
set_option maxRecDepth 100000 in
theorem kindOf_209 (w : World) : Calls Try.prog 20 #[.int .u8 209] w fun e w' => e = .returned (.int .i64 5) ∧ w' = w := by
  go_enter Try.func20, Try.ntmps20
  go_wp2_with fail
  go_ret
  exact ⟨rfl, rfl⟩

set_option maxHeartbeats 1000000 in
set_option maxRecDepth 100000 in
theorem sizeOf_209 (w : World) : Calls Try.prog 21 #[.int .u8 209] w fun e w' => e = .returned (.int .i64 2) ∧ w' = w := by
  go_enter Try.func21, Try.ntmps21
  go_wp2_with fail
  go_ret
  exact ⟨rfl, rfl⟩

set_option maxHeartbeats 1000000 in
set_option maxRecDepth 100000 in
theorem kindOf_210 (w : World) : Calls Try.prog 20 #[.int .u8 210] w fun e w' => e = .returned (.int .i64 5) ∧ w' = w := by
  go_enter Try.func20, Try.ntmps20
  go_wp2_with fail
  go_ret
  exact ⟨rfl, rfl⟩

set_option maxHeartbeats 1000000 in
set_option maxRecDepth 100000 in
theorem sizeOf_210 (w : World) : Calls Try.prog 21 #[.int .u8 210] w fun e w' => e = .returned (.int .i64 4) ∧ w' = w := by
  go_enter Try.func21, Try.ntmps21
  go_wp2_with fail
  go_ret
  exact ⟨rfl, rfl⟩

set_option maxHeartbeats 1000000 in
set_option maxRecDepth 100000 in
theorem kindOf_211 (w : World) : Calls Try.prog 20 #[.int .u8 211] w fun e w' => e = .returned (.int .i64 5) ∧ w' = w := by
  go_enter Try.func20, Try.ntmps20
  go_wp2_with fail
  go_ret
  exact ⟨rfl, rfl⟩

set_option maxHeartbeats 1000000 in
set_option maxRecDepth 100000 in
theorem sizeOf_211 (w : World) : Calls Try.prog 21 #[.int .u8 211] w fun e w' => e = .returned (.int .i64 8) ∧ w' = w := by
  go_enter Try.func21, Try.ntmps21
  go_wp2_with fail
  go_ret
  exact ⟨rfl, rfl⟩

set_option maxHeartbeats 1000000 in
set_option maxRecDepth 100000 in
theorem kindOf_212 (w : World) : Calls Try.prog 20 #[.int .u8 212] w fun e w' => e = .returned (.int .i64 11) ∧ w' = w := by
  go_enter Try.func20, Try.ntmps20
  go_wp2_with fail
  go_ret
  exact ⟨rfl, rfl⟩

set_option maxHeartbeats 1000000 in
set_option maxRecDepth 100000 in
theorem sizeOf_212 (w : World) : Calls Try.prog 21 #[.int .u8 212] w fun e w' => e = .returned (.int .i64 0) ∧ w' = w := by
  go_enter Try.func21, Try.ntmps21
  go_wp2_with fail
  go_ret
  exact ⟨rfl, rfl⟩

set_option maxHeartbeats 1000000 in
set_option maxRecDepth 100000 in
theorem kindOf_213 (w : World) : Calls Try.prog 20 #[.int .u8 213] w fun e w' => e = .returned (.int .i64 11) ∧ w' = w := by
  go_enter Try.func20, Try.ntmps20
  go_wp2_with fail
  go_ret
  exact ⟨rfl, rfl⟩

set_option maxHeartbeats 1000000 in
set_option maxRecDepth 100000 in
theorem sizeOf_213 (w : World) : Calls Try.prog 21 #[.int .u8 213] w fun e w' => e = .returned (.int .i64 0) ∧ w' = w := by
  go_enter Try.func21, Try.ntmps21
  go_wp2_with fail
  go_ret
  exact ⟨rfl, rfl⟩

set_option maxHeartbeats 1000000 in
set_option maxRecDepth 100000 in
theorem kindOf_214 (w : World) : Calls Try.prog 20 #[.int .u8 214] w fun e w' => e = .returned (.int .i64 11) ∧ w' = w := by
  go_enter Try.func20, Try.ntmps20
  go_wp2_with fail
  go_ret
  exact ⟨rfl, rfl⟩

set_option maxHeartbeats 1000000 in
set_option maxRecDepth 100000 in
theorem sizeOf_214 (w : World) : Calls Try.prog 21 #[.int .u8 214] w fun e w' => e = .returned (.int .i64 0) ∧ w' = w := by
  go_enter Try.func21, Try.ntmps21
  go_wp2_with fail
  go_ret
  exact ⟨rfl, rfl⟩

set_option maxHeartbeats 1000000 in
set_option maxRecDepth 100000 in
theorem kindOf_215 (w : World) : Calls Try.prog 20 #[.int .u8 215] w fun e w' => e = .returned (.int .i64 11) ∧ w' = w := by
  go_enter Try.func20, Try.ntmps20
  go_wp2_with fail
  go_ret
  exact ⟨rfl, rfl⟩

set_option maxHeartbeats 1000000 in
set_option maxRecDepth 100000 in
theorem sizeOf_215 (w : World) : Calls Try.prog 21 #[.int .u8 215] w fun e w' => e = .returned (.int .i64 0) ∧ w' = w := by
  go_enter Try.func21, Try.ntmps21
  go_wp2_with fail
  go_ret
  exact ⟨rfl, rfl⟩

set_option maxHeartbeats 1000000 in
set_option maxRecDepth 100000 in
theorem kindOf_216 (w : World) : Calls Try.prog 20 #[.int .u8 216] w fun e w' => e = .returned (.int .i64 11) ∧ w' = w := by
  go_enter Try.func20, Try.ntmps20
  go_wp2_with fail
  go_ret
  exact ⟨rfl, rfl⟩

set_option maxHeartbeats 1000000 in
set_option maxRecDepth 100000 in
theorem sizeOf_216 (w : World) : Calls Try.prog 21 #[.int .u8 216] w fun e w' => e = .returned (.int .i64 0) ∧ w' = w := by
  go_enter Try.func21, Try.ntmps21
  go_wp2_with fail
  go_ret
  exact ⟨rfl, rfl⟩

set_option maxHeartbeats 1000000 in
set_option maxRecDepth 100000 in
theorem kindOf_217 (w : World) : Calls Try.prog 20 #[.int .u8 217] w fun e w' => e = .returned (.int .i64 7) ∧ w' = w := by
  go_enter Try.func20, Try.ntmps20
  go_wp2_with fail
  go_ret
  exact ⟨rfl, rfl⟩

set_option maxHeartbeats 1000000 in
set_option maxRecDepth 100000 in
theorem sizeOf_217 (w : World) : Calls Try.prog 21 #[.int .u8 217] w fun e w' => e = .returned (.int .i64 1) ∧ w' = w := by
  go_enter Try.func21, Try.ntmps21
  go_wp2_with fail
  go_ret
  exact ⟨rfl, rfl⟩

set_option maxHeartbeats 1000000 in
set_option maxRecDepth 100000 in
theorem kindOf_218 (w : World) : Calls Try.prog 20 #[.int .u8 218] w fun e w' => e = .returned (.int .i64 7) ∧ w' = w := by
  go_enter Try.func20, Try.ntmps20
  go_wp2_with fail
  go_ret
  exact ⟨rfl, rfl⟩

set_option maxHeartbeats 1000000 in
set_option maxRecDepth 100000 in
theorem sizeOf_218 (w : World) : Calls Try.prog 21 #[.int .u8 218] w fun e w' => e = .returned (.int .i64 2) ∧ w' = w := by
  go_enter Try.func21, Try.ntmps21
  go_wp2_with fail
  go_ret
  exact ⟨rfl, rfl⟩

set_option maxHeartbeats 1000000 in
set_option maxRecDepth 100000 in
theorem kindOf_219 (w : World) : Calls Try.prog 20 #[.int .u8 219] w fun e w' => e = .returned (.int .i64 7) ∧ w' = w := by
  go_enter Try.func20, Try.ntmps20
  go_wp2_with fail
  go_ret
  exact ⟨rfl, rfl⟩

set_option maxHeartbeats 1000000 in
set_option maxRecDepth 100000 in
theorem sizeOf_219 (w : World) : Calls Try.prog 21 #[.int .u8 219] w fun e w' => e = .returned (.int .i64 4) ∧ w' = w := by
  go_enter Try.func21, Try.ntmps21
  go_wp2_with fail
  go_ret
  exact ⟨rfl, rfl⟩

set_option maxHeartbeats 1000000 in
set_option maxRecDepth 100000 in
theorem kindOf_220 (w : World) : Calls Try.prog 20 #[.int .u8 220] w fun e w' => e = .returned (.int .i64 9) ∧ w' = w := by
  go_enter Try.func20, Try.ntmps20
  go_wp2_with fail
  go_ret
  exact ⟨rfl, rfl⟩

set_option maxHeartbeats 1000000 in
set_option maxRecDepth 100000 in
theorem sizeOf_220 (w : World) : Calls Try.prog 21 #[.int .u8 220] w fun e w' => e = .returned (.int .i64 2) ∧ w' = w := by
  go_enter Try.func21, Try.ntmps21
  go_wp2_with fail
  go_ret
  exact ⟨rfl, rfl⟩

set_option maxHeartbeats 1000000 in
set_option maxRecDepth 100000 in
theorem kindOf_221 (w : World) : Calls Try.prog 20 #[.int .u8 221] w fun e w' => e = .returned (.int .i64 9) ∧ w' = w := by
  go_enter Try.func20, Try.ntmps20
  go_wp2_with fail
  go_ret
  exact ⟨rfl, rfl⟩

set_option maxHeartbeats 1000000 in
set_option maxRecDepth 100000 in
theorem sizeOf_221 (w : World) : Calls Try.prog 21 #[.int .u8 221] w fun e w' => e = .returned (.int .i64 4) ∧ w' = w := by
  go_enter Try.func21, Try.ntmps21
  go_wp2_with fail
  go_ret
  exact ⟨rfl, rfl⟩

set_option maxHeartbeats 1000000 in
set_option maxRecDepth 100000 in
theorem kindOf_222 (w : World) : Calls Try.prog 20 #[.int .u8 222] w fun e w' => e = .returned (.int .i64 10) ∧ w' = w := by
  go_enter Try.func20, Try.ntmps20
  go_wp2_with fail
  go_ret
  exact ⟨rfl, rfl⟩

set_option maxHeartbeats 1000000 in
set_option maxRecDepth 100000 in
theorem sizeOf_222 (w : World) : Calls Try.prog 21 #[.int .u8 222] w fun e w' => e = .returned (.int .i64 2) ∧ w' = w := by
  go_enter Try.func21, Try.ntmps21
  go_wp2_with fail
  go_ret
  exact ⟨rfl, rfl⟩

set_option maxHeartbeats 1000000 in
set_option maxRecDepth 100000 in
theorem kindOf_223 (w : World) : Calls Try.prog 20 #[.int .u8 223] w fun e w' => e = .returned (.int .i64 10) ∧ w' = w := by
  go_enter Try.func20, Try.ntmps20
  go_wp2_with fail
  go_ret
  exact ⟨rfl, rfl⟩

set_option maxHeartbeats 1000000 in
set_option maxRecDepth 100000 in
theorem sizeOf_223 (w : World) : Calls Try.prog 21 #[.int .u8 223] w fun e w' => e = .returned (.int .i64 4) ∧ w' = w := by
  go_enter Try.func21, Try.ntmps21
  go_wp2_with fail
  go_ret
  exact ⟨rfl, rfl⟩

set_option maxHeartbeats 1000000 in
set_option maxRecDepth 100000 in
theorem sizeOf_out (f : Nat) (w : World) (h0 : f < 192 ∨ 224 ≤ f) :
    Calls Try.prog 21 #[.int .u8 (f : Int)] w fun e w' => e = .returned (.int .i64 0) ∧ w' = w := by
  have z207 : decide ((f : Int) = 207) = false := decide_eq_false (by omega)
  have y207 : ((f : Int) == 207) = false := by rw [beq_eq_false_iff_ne]; omega
  have z211 : decide ((f : Int) = 211) = false := decide_eq_false (by omega)
  have y211 : ((f : Int) == 211) = false := by rw [beq_eq_false_iff_ne]; omega
  have z203 : decide ((f : Int) = 203) = false := decide_eq_false (by omega)
  have y203 : ((f : Int) == 203) = false := by rw [beq_eq_false_iff_ne]; omega
  have z206 : decide ((f : Int) = 206) = false := decide_eq_false (by omega)
  have y206 : ((f : Int) == 206) = false := by rw [beq_eq_false_iff_ne]; omega
  have z210 : decide ((f : Int) = 210) = false := decide_eq_false (by omega)
  have y210 : ((f : Int) == 210) = false := by rw [beq_eq_false_iff_ne]; omega
  have z202 : decide ((f : Int) = 202) = false := decide_eq_false (by omega)
  have y202 : ((f : Int) == 202) = false := by rw [beq_eq_false_iff_ne]; omega
  have z219 : decide ((f : Int) = 219) = false := decide_eq_false (by omega)
  have y219 : ((f : Int) == 219) = false := by rw [beq_eq_false_iff_ne]; omega
  have z198 : decide ((f : Int) = 198) = false := decide_eq_false (by omega)
  have y198 : ((f : Int) == 198) = false := by rw [beq_eq_false_iff_ne]; omega
  have z201 : decide ((f : Int) = 201) = false := decide_eq_false (by omega)
  have y201 : ((f : Int) == 201) = false := by rw [beq_eq_false_iff_ne]; omega
  have z221 : decide ((f : Int) = 221) = false := decide_eq_false (by omega)
  have y221 : ((f : Int) == 221) = false := by rw [beq_eq_false_iff_ne]; omega
  have z223 : decide ((f : Int) = 223) = false := decide_eq_false (by omega)
  have y223 : ((f : Int) == 223) = false := by rw [beq_eq_false_iff_ne]; omega
  have z205 : decide ((f : Int) = 205) = false := decide_eq_false (by omega)
  have y205 : ((f : Int) == 205) = false := by rw [beq_eq_false_iff_ne]; omega
  have z209 : decide ((f : Int) = 209) = false := decide_eq_false (by omega)
  have y209 : ((f : Int) == 209) = false := by rw [beq_eq_false_iff_ne]; omega
  have z218 : decide ((f : Int) = 218) = false := decide_eq_false (by omega)
  have y218 : ((f : Int) == 218) = false := by rw [beq_eq_false_iff_ne]; omega
  have z197 : decide ((f : Int) = 197) = false := decide_eq_false (by omega)
  have y197 : ((f : Int) == 197) = false := by rw [beq_eq_false_iff_ne]; omega
  have z200 : decide ((f : Int) = 200) = false := decide_eq_false (by omega)
  have y200 : ((f : Int) == 200) = false := by rw [beq_eq_false_iff_ne]; omega
  have z220 : decide ((f : Int) = 220) = false := decide_eq_false (by omega)
  have y220 : ((f : Int) == 220) = false := by rw [beq_eq_false_iff_ne]; omega
  have z222 : decide ((f : Int) = 222) = false := decide_eq_false (by omega)
  have y222 : ((f : Int) == 222) = false := by rw [beq_eq_false_iff_ne]; omega
  have z204 : decide ((f : Int) = 204) = false := decide_eq_false (by omega)
  have y204 : ((f : Int) == 204) = false := by rw [beq_eq_false_iff_ne]; omega
  have z208 : decide ((f : Int) = 208) = false := decide_eq_false (by omega)
  have y208 : ((f : Int) == 208) = false := by rw [beq_eq_false_iff_ne]; omega
  have z217 : decide ((f : Int) = 217) = false := decide_eq_false (by omega)
  have y217 : ((f : Int) == 217) = false := by rw [beq_eq_false_iff_ne]; omega
  have z196 : decide ((f : Int) = 196) = false := decide_eq_false (by omega)
  have y196 : ((f : Int) == 196) = false := by rw [beq_eq_false_iff_ne]; omega
  have z199 : decide ((f : Int) = 199) = false := decide_eq_false (by omega)
  have y199 : ((f : Int) == 199) = false := by rw [beq_eq_false_iff_ne]; omega
  clear h0
  go_enter Try.func21, Try.ntmps21
  go_wp2_with fail
  go_ret
  exact ⟨rfl, rfl⟩

theorem of32 {p : Nat → Prop} (h0 : p 192) (h1 : p 193) (h2 : p 194) (h3 : p 195) (h4 : p 196) (h5 : p 197) (h6 : p 198) (h7 : p 199) (h8 : p 200) (h9 : p 201) (h10 : p 202) (h11 : p 203) (h12 : p 204) (h13 : p 205) (h14 : p 206) (h15 : p 207) (h16 : p 208) (h17 : p 209) (h18 : p 210) (h19 : p 211) (h20 : p 212) (h21 : p 213) (h22 : p 214) (h23 : p 215) (h24 : p 216) (h25 : p 217) (h26 : p 218) (h27 : p 219) (h28 : p 220) (h29 : p 221) (h30 : p 222) (h31 : p 223) : ∀ f, 192 ≤ f → f < 224 → p f := by
  intro f h0 h1
  have : f = 192 ∨ f = 193 ∨ f = 194 ∨ f = 195 ∨ f = 196 ∨ f = 197 ∨ f = 198 ∨ f = 199 ∨ f = 200 ∨ f = 201 ∨ f = 202 ∨ f = 203 ∨ f = 204 ∨ f = 205 ∨ f = 206 ∨ f = 207 ∨ f = 208 ∨ f = 209 ∨ f = 210 ∨ f = 211 ∨ f = 212 ∨ f = 213 ∨ f = 214 ∨ f = 215 ∨ f = 216 ∨ f = 217 ∨ f = 218 ∨ f = 219 ∨ f = 220 ∨ f = 221 ∨ f = 222 ∨ f = 223 := by omega
  rcases this with rfl | rfl | rfl | rfl | rfl | rfl | rfl | rfl | rfl | rfl | rfl | rfl | rfl | rfl | rfl | rfl | rfl | rfl | rfl | rfl | rfl | rfl | rfl | rfl | rfl | rfl | rfl | rfl | rfl | rfl | rfl | rfl <;> assumption
theorem kindOf_any (f : Nat) (w : World) (hf : f < 256) : Calls Try.prog 20 #[.int .u8 (f : Int)] w fun e w' => e = .returned (.int .i64 ((kindB f : Nat) : Int)) ∧ w' = w := by
  by_cases h0 : 0 ≤ f ∧ f < 128
  · rw [show kindB f = 4 by unfold kindB; rw [if_pos (by omega)]]
    exact kindOf_0 f w h0.1 h0.2
  by_cases h128 : 128 ≤ f ∧ f < 144
  · rw [show kindB f = 10 by unfold kindB; rw [if_neg (by omega), if_pos (by omega)]]
    exact kindOf_128 f w h128.1 h128.2
  by_cases h144 : 144 ≤ f ∧ f < 160
  · rw [show kindB f = 9 by unfold kindB; rw [if_neg (by omega), if_neg (by omega), if_pos (by omega)]]
    exact kindOf_144 f w h144.1 h144.2
  by_cases h160 : 160 ≤ f ∧ f < 192
  · rw [show kindB f = 7 by unfold kindB; rw [if_neg (by omega), if_neg (by omega), if_neg (by omega), if_pos (by omega)]]
    exact kindOf_160 f w h160.1 h160.2
  by_cases h224 : 224 ≤ f ∧ f < 256
  · rw [show kindB f = 5 by unfold kindB; rw [if_neg (by omega), if_neg (by omega), if_neg (by omega), if_neg (by omega), if_pos (by omega)]]
    exact kindOf_224 f w h224.1 h224.2
  revert f
  suffices h : ∀ f : Nat, 192 ≤ f → f < 224 → Calls Try.prog 20 #[.int .u8 (f : Int)] w fun e w' => e = .returned (.int .i64 ((kindB f : Nat) : Int)) ∧ w' = w from fun f hf _ _ _ _ _ => h f (by omega) (by omega)
  exact of32 (kindOf_192 w) (kindOf_193 w) (kindOf_194 w) (kindOf_195 w) (kindOf_196 w) (kindOf_197 w) (kindOf_198 w) (kindOf_199 w) (kindOf_200 w) (kindOf_201 w) (kindOf_202 w) (kindOf_203 w) (kindOf_204 w) (kindOf_205 w) (kindOf_206 w) (kindOf_207 w) (kindOf_208 w) (kindOf_209 w) (kindOf_210 w) (kindOf_211 w) (kindOf_212 w) (kindOf_213 w) (kindOf_214 w) (kindOf_215 w) (kindOf_216 w) (kindOf_217 w) (kindOf_218 w) (kindOf_219 w) (kindOf_220 w) (kindOf_221 w) (kindOf_222 w) (kindOf_223 w)
theorem sizeOf_any (f : Nat) (w : World) (hf : f < 256) : Calls Try.prog 21 #[.int .u8 (f : Int)] w fun e w' => e = .returned (.int .i64 ((sizeB f : Nat) : Int)) ∧ w' = w := by
  by_cases h0 : f < 192 ∨ 224 ≤ f
  · rw [show sizeB f = 0 by unfold sizeB; rw [if_pos h0]]; exact sizeOf_out f w h0
  revert f
  suffices h : ∀ f : Nat, 192 ≤ f → f < 224 → Calls Try.prog 21 #[.int .u8 (f : Int)] w fun e w' => e = .returned (.int .i64 ((sizeB f : Nat) : Int)) ∧ w' = w from fun f hf _ => h f (by omega) (by omega)
  exact of32 (sizeOf_192 w) (sizeOf_193 w) (sizeOf_194 w) (sizeOf_195 w) (sizeOf_196 w) (sizeOf_197 w) (sizeOf_198 w) (sizeOf_199 w) (sizeOf_200 w) (sizeOf_201 w) (sizeOf_202 w) (sizeOf_203 w) (sizeOf_204 w) (sizeOf_205 w) (sizeOf_206 w) (sizeOf_207 w) (sizeOf_208 w) (sizeOf_209 w) (sizeOf_210 w) (sizeOf_211 w) (sizeOf_212 w) (sizeOf_213 w) (sizeOf_214 w) (sizeOf_215 w) (sizeOf_216 w) (sizeOf_217 w) (sizeOf_218 w) (sizeOf_219 w) (sizeOf_220 w) (sizeOf_221 w) (sizeOf_222 w) (sizeOf_223 w)

set_option maxHeartbeats 1000000 in
set_option maxRecDepth 100000 in
theorem short_4 (f : Nat) (w : World) (h1 : f < 128) :
    Calls Try.prog 22 #[.int .i64 4, .int .u8 (f : Int)] w fun e w' => e = .returned (.int .u64 ((f : Nat) : Int)) ∧ w' = w := by
  go_enter Try.func22, Try.ntmps22
  go_wp2_with fail
  go_ret
  refine ⟨?_, rfl⟩
  refine congrArg (fun z => Ending.returned (Value.int .u64 z)) ?_
  show _ = _; omega

set_option maxHeartbeats 1000000 in
set_option maxRecDepth 100000 in
theorem short_10 (f : Nat) (w : World) (h0 : 128 ≤ f) (h1 : f < 144) :
    Calls Try.prog 22 #[.int .i64 10, .int .u8 (f : Int)] w fun e w' => e = .returned (.int .u64 ((f - 128 : Nat) : Int)) ∧ w' = w := by
  go_enter Try.func22, Try.ntmps22
  go_wp2_with fail
  go_ret
  refine ⟨?_, rfl⟩
  refine congrArg (fun z => Ending.returned (Value.int .u64 z)) ?_
  show _ = _; omega

set_option maxHeartbeats 1000000 in
set_option maxRecDepth 100000 in
theorem short_9 (f : Nat) (w : World) (h0 : 144 ≤ f) (h1 : f < 160) :
    Calls Try.prog 22 #[.int .i64 9, .int .u8 (f : Int)] w fun e w' => e = .returned (.int .u64 ((f - 144 : Nat) : Int)) ∧ w' = w := by
  go_enter Try.func22, Try.ntmps22
  go_wp2_with fail
  go_ret
  refine ⟨?_, rfl⟩
  refine congrArg (fun z => Ending.returned (Value.int .u64 z)) ?_
  show _ = _; omega

set_option maxHeartbeats 1000000 in
set_option maxRecDepth 100000 in
theorem short_7 (f : Nat) (w : World) (h0 : 160 ≤ f) (h1 : f < 192) :
    Calls Try.prog 22 #[.int .i64 7, .int .u8 (f : Int)] w fun e w' => e = .returned (.int .u64 ((f - 160 : Nat) : Int)) ∧ w' = w := by
  go_enter Try.func22, Try.ntmps22
  go_wp2_with fail
  go_ret
  refine ⟨?_, rfl⟩
  refine congrArg (fun z => Ending.returned (Value.int .u64 z)) ?_
  show _ = _; omega

set_option maxHeartbeats 1000000 in
set_option maxRecDepth 100000 in
theorem short_5 (f : Nat) (w : World) (h0 : 224 ≤ f) (h1 : f < 256) :
    Calls Try.prog 22 #[.int .i64 5, .int .u8 (f : Int)] w fun e w' => e = .returned (.int .u64 ((18446744073709551360 + f : Nat) : Int)) ∧ w' = w := by
  go_enter Try.func22, Try.ntmps22
  go_wp2_with fail
  go_ret
  refine ⟨?_, rfl⟩
  refine congrArg (fun z => Ending.returned (Value.int .u64 z)) ?_
  show _ = _; (first | omega | (rw [IntKind.wrap_u64]; omega))

set_option maxHeartbeats 1000000 in
set_option maxRecDepth 100000 in
theorem short_1 (f : Value) (w : World) : Calls Try.prog 22 #[.int .i64 1, f] w fun e w' => e = .returned (.int .u64 0) ∧ w' = w := by
  go_enter Try.func22, Try.ntmps22
  go_wp2_with fail
  go_ret
  exact ⟨rfl, rfl⟩

set_option maxHeartbeats 1000000 in
set_option maxRecDepth 100000 in
theorem short_2 (f : Value) (w : World) : Calls Try.prog 22 #[.int .i64 2, f] w fun e w' => e = .returned (.int .u64 0) ∧ w' = w := by
  go_enter Try.func22, Try.ntmps22
  go_wp2_with fail
  go_ret
  exact ⟨rfl, rfl⟩

set_option maxHeartbeats 1000000 in
set_option maxRecDepth 100000 in
theorem short_3 (f : Value) (w : World) : Calls Try.prog 22 #[.int .i64 3, f] w fun e w' => e = .returned (.int .u64 0) ∧ w' = w := by
  go_enter Try.func22, Try.ntmps22
  go_wp2_with fail
  go_ret
  exact ⟨rfl, rfl⟩

set_option maxHeartbeats 1000000 in
set_option maxRecDepth 100000 in
theorem short_8 (f : Value) (w : World) : Calls Try.prog 22 #[.int .i64 8, f] w fun e w' => e = .returned (.int .u64 0) ∧ w' = w := by
  go_enter Try.func22, Try.ntmps22
  go_wp2_with fail
  go_ret
  exact ⟨rfl, rfl⟩

set_option maxHeartbeats 1000000 in
set_option maxRecDepth 100000 in
theorem short_12 (f : Value) (w : World) : Calls Try.prog 22 #[.int .i64 12, f] w fun e w' => e = .returned (.int .u64 0) ∧ w' = w := by
  go_enter Try.func22, Try.ntmps22
  go_wp2_with fail
  go_ret
  exact ⟨rfl, rfl⟩

set_option maxHeartbeats 1000000 in
set_option maxRecDepth 100000 in
theorem short_6 (f : Value) (w : World) : Calls Try.prog 22 #[.int .i64 6, f] w fun e w' => e = .returned (.int .u64 0) ∧ w' = w := by
  go_enter Try.func22, Try.ntmps22
  go_wp2_with fail
  go_ret
  exact ⟨rfl, rfl⟩

set_option maxHeartbeats 1000000 in
set_option maxRecDepth 100000 in
theorem short_11_212 (w : World) : Calls Try.prog 22 #[.int .i64 11, .int .u8 212] w fun e w' => e = .returned (.int .u64 1) ∧ w' = w := by
  go_enter Try.func22, Try.ntmps22
  go_wp2_with fail
  go_ret
  exact ⟨rfl, rfl⟩

set_option maxHeartbeats 1000000 in
set_option maxRecDepth 100000 in
theorem short_11_213 (w : World) : Calls Try.prog 22 #[.int .i64 11, .int .u8 213] w fun e w' => e = .returned (.int .u64 2) ∧ w' = w := by
  go_enter Try.func22, Try.ntmps22
  go_wp2_with fail
  go_ret
  exact ⟨rfl, rfl⟩

set_option maxHeartbeats 1000000 in
set_option maxRecDepth 100000 in
theorem short_11_214 (w : World) : Calls Try.prog 22 #[.int .i64 11, .int .u8 214] w fun e w' => e = .returned (.int .u64 4) ∧ w' = w := by
  go_enter Try.func22, Try.ntmps22
  go_wp2_with fail
  go_ret
  exact ⟨rfl, rfl⟩

set_option maxHeartbeats 1000000 in
set_option maxRecDepth 100000 in
theorem short_11_215 (w : World) : Calls Try.prog 22 #[.int .i64 11, .int .u8 215] w fun e w' => e = .returned (.int .u64 8) ∧ w' = w := by
  go_enter Try.func22, Try.ntmps22
  go_wp2_with fail
  go_ret
  exact ⟨rfl, rfl⟩

set_option maxHeartbeats 1000000 in
set_option maxRecDepth 100000 in
theorem short_11_216 (w : World) : Calls Try.prog 22 #[.int .i64 11, .int .u8 216] w fun e w' => e = .returned (.int .u64 16) ∧ w' = w := by
  go_enter Try.func22, Try.ntmps22
  go_wp2_with fail
  go_ret
  exact ⟨rfl, rfl⟩

theorem size_nought : ∀ j, j < 32 → [0, 0, 0, 0, 1, 2, 4, 1, 2, 4, 4, 8, 1, 2, 4, 8, 1, 2, 4, 8, 0, 0, 0, 0, 0, 1, 2, 4, 2, 4, 2, 4].getD j 0 = 0 → j = 0 ∨ j = 1 ∨ j = 2 ∨ j = 3 ∨ j = 20 ∨ j = 21 ∨ j = 22 ∨ j = 23 ∨ j = 24 := by decide
theorem short_any (f : Nat) (w : World) (hf : f < 256) (h193 : f ≠ 193) (hs : sizeB f = 0) :
    Calls Try.prog 22 #[.int .i64 ((kindB f : Nat) : Int), .int .u8 (f : Int)] w fun e w' => e = .returned (.int .u64 ((shortB f : Nat) : Int)) ∧ w' = w := by
  by_cases h : 0 ≤ f ∧ f < 128
  · rw [show kindB f = 4 by unfold kindB; rw [if_pos (by omega)], show shortB f = f by unfold shortB; rw [if_pos (by omega)]]
    exact short_4 f w h.2
  by_cases h : 128 ≤ f ∧ f < 144
  · rw [show kindB f = 10 by unfold kindB; rw [if_neg (by omega), if_pos (by omega)], show shortB f = f - 128 by unfold shortB; rw [if_neg (by omega), if_pos (by omega)]]
    exact short_10 f w h.1 h.2
  by_cases h : 144 ≤ f ∧ f < 160
  · rw [show kindB f = 9 by unfold kindB; rw [if_neg (by omega), if_neg (by omega), if_pos (by omega)], show shortB f = f - 144 by unfold shortB; rw [if_neg (by omega), if_neg (by omega), if_pos (by omega)]]
    exact short_9 f w h.1 h.2
  by_cases h : 160 ≤ f ∧ f < 192
  · rw [show kindB f = 7 by unfold kindB; rw [if_neg (by omega), if_neg (by omega), if_neg (by omega), if_pos (by omega)], show shortB f = f - 160 by unfold shortB; rw [if_neg (by omega), if_neg (by omega), if_neg (by omega), if_pos (by omega)]]
    exact short_7 f w h.1 h.2
  by_cases h : 224 ≤ f ∧ f < 256
  · rw [show kindB f = 5 by unfold kindB; rw [if_neg (by omega), if_neg (by omega), if_neg (by omega), if_neg (by omega), if_pos (by omega)], show shortB f = 18446744073709551360 + f by unfold shortB; rw [if_neg (by omega), if_neg (by omega), if_neg (by omega), if_neg (by omega), if_pos (by omega)]]
    exact short_5 f w h.1 h.2
  have : f = 192 ∨ f = 194 ∨ f = 195 ∨ f = 212 ∨ f = 213 ∨ f = 214 ∨ f = 215 ∨ f = 216 := by
    have h0 : 192 ≤ f := by omega
    have h1 : f < 224 := by omega
    obtain ⟨j, rfl, hj⟩ := f32 f h0 h1
    unfold sizeB at hs
    rw [if_neg (by omega), Nat.add_sub_cancel_left] at hs
    have hj2 := size_nought j hj hs
    omega
  rcases this with rfl | rfl | rfl | rfl | rfl | rfl | rfl | rfl
  · exact short_1 _ w
  · exact short_2 _ w
  · exact short_3 _ w
  · exact short_11_212 w
  · exact short_11_213 w
  · exact short_11_214 w
  · exact short_11_215 w
  · exact short_11_216 w

/-- What has been got of a number, so many bytes of it. -/
def numS (c : Nat) (L : List Nat) (j : Nat) : Nat := (c * 256 ^ j + natB (L.take j)) % 18446744073709551616
theorem numS_succ (c : Nat) (L : List Nat) (j : Nat) (hj : j < L.length) : numS c L (j + 1) = (numS c L j * 256 + L[j]) % 18446744073709551616 := by
  unfold numS
  rw [List.take_add_one, List.getElem?_eq_getElem hj]
  show (c * 256 ^ (j + 1) + natB (L.take j ++ [L[j]])) % _ = _
  rw [natB_snoc, Nat.pow_succ, ← Nat.mul_assoc]
  generalize c * 256 ^ j = a
  generalize natB (L.take j) = b
  omega
theorem numS_lt (c : Nat) (L : List Nat) (j : Nat) : numS c L j < 18446744073709551616 := Nat.mod_lt _ (by decide)
theorem numS_0 (c : Nat) (L : List Nat) (hc : c < 18446744073709551616) : numS c L 0 = c := by
  unfold numS
  rw [List.take_zero, Nat.pow_zero, Nat.mul_one]
  show (c + 0) % _ = c
  rw [Nat.add_zero]
  exact Nat.mod_eq_of_lt hc
theorem pow_S {S : Nat} (hS : S = 1 ∨ S = 2 ∨ S = 4 ∨ S = 8) : 256 ^ S ≤ 18446744073709551616 := by
  rcases hS with rfl | rfl | rfl | rfl <;> decide
theorem numS_plain (L : List Nat) (S : Nat) (hl : L.length = S) (hS : S = 1 ∨ S = 2 ∨ S = 4 ∨ S = 8) (hb : ∀ x ∈ L, x < 256) : numS 0 L S = natB L := by
  unfold numS
  rw [List.take_of_length_le (by omega), Nat.zero_mul, Nat.zero_add]
  exact Nat.mod_eq_of_lt (Nat.lt_of_lt_of_le (natB_lt S L hl hb) (pow_S hS))
theorem numS_below (L : List Nat) (S : Nat) (hl : L.length = S) (hS : S = 1 ∨ S = 2 ∨ S = 4 ∨ S = 8) (hb : ∀ x ∈ L, x < 256) : numS 18446744073709551615 L S = 18446744073709551616 - 256 ^ S + natB L := by
  unfold numS
  rw [List.take_of_length_le (by omega)]
  have h := natB_lt S L hl hb
  generalize natB L = b at *
  rcases hS with rfl | rfl | rfl | rfl <;> simp only [Nat.reducePow] at * <;> omega
theorem or_shl (V x : Int) (h0 : 0 ≤ V) (h1 : V < 18446744073709551616) (h2 : 0 ≤ x) (h3 : x < 256) : bits .or .u64 (V * 256 % 18446744073709551616) x = V * 256 % 18446744073709551616 + x :=
  orJ 8 _ x (by omega) (by omega) (by omega) h2 (by omega) (by omega)

set_option maxHeartbeats 2000000 in
set_option maxRecDepth 100000 in
theorem numberM_plain (b o S cp : Nat) (kd : Nat) (L : List Nat) (w : World) (hl : L.length = S) (hS : S ≤ 8) (h1 : 1 ≤ S) (hb : ∀ x ∈ L, x < 256) (hr : RdV w (some ⟨b, o, none⟩) (bv L)) (hk : kd ≠ 5) :
    Calls Try.prog 23 #[.int .i64 (kd : Int), .slice (some ⟨b, o, none⟩) S cp] w fun e w' => e = .returned (.int .u64 ((numS 0 L S : Nat) : Int)) ∧ Below w.heap.size w w' := by
  have HM := Lib.hid (fun j (hj : j < S) => show (∃ x : Nat, x < 256 ∧ w.cell? ⟨b, o + j, none⟩ = some (.int .u8 (x : Int)) ∧ ((numS 0 L (j + 1) : Nat) : Int) = ((numS 0 L j : Nat) : Int) * 256 % 18446744073709551616 + (x : Int) ∧ numS 0 L j < 18446744073709551616) from by
    have hj2 : j < L.length := by omega
    refine ⟨L[j], hb _ (List.getElem_mem _), ?_, ?_, numS_lt _ _ _⟩
    · rw [hr.at j (by rw [bv_len]; omega), bv_get L _ hj2]
      simp [List.getD, hj2]
    · rw [numS_succ _ _ _ hj2]
      have := hb _ (List.getElem_mem hj2)
      omega)
  have H0 := Lib.hid (show ((numS 0 L 0 : Nat) : Int) = 0 by rw [numS_0 _ _ (by decide)]; rfl)
  have z5 : decide ((kd : Int) = 5) = false := decide_eq_false (by omega)
  have y5 : ((kd : Int) == 5) = false := by rw [beq_eq_false_iff_ne]; omega
  clear hk
  generalize numS 0 L = NB at *
  clear hr hb
  go_enter Try.func23, Try.ntmps23
  go_wp2_with fail
  (try (go_quiet (fail)))
  (try (go_wp2_with fail))
  go_loopw [4, 17] (fun v i wr => ∃ j q : Nat, j ≤ S ∧ i = .int .i64 (j : Int) ∧ v = .int .u64 ((NB j : Nat) : Int) ∧ wr = w.drewN q) (fun _ i _ => S - (intOf i).toNat)
  case atStart => first | exact ⟨0, 0, by omega, rfl, by rw [H0.out], rfl⟩ | exact ⟨0, _, by omega, rfl, by rw [H0.out], rfl⟩
  case round =>
    obtain ⟨j, q, hj, rfl, rfl, rfl⟩ := hrel
    by_cases hlt : j < S
    · obtain ⟨x, hx, hcx, hnx, hvx⟩ := HM.out j hlt
      have HO := Lib.hid (or_shl (NB j : Int) (x : Int) (by omega) (by omega) (by omega) (by omega))
      have HNX := Lib.hid hnx
      clear hnx
      have h1 : (j : Int) < (S : Int) := by omega
      generalize NB j = Vj at *
      go_wp2
      go_roundw
      case rel => exact ⟨j + 1, _, by omega, by go_num, by rw [HNX.out]; first | exact congrArg (fun z => Value.int .u64 z) HO.out | (refine congrArg (fun z => Value.int .u64 z) ?_; rw [IntKind.wrap_u64]; exact HO.out), rfl⟩
      case measure => simp [intOf]; omega
    · obtain rfl : j = S := by omega
      go_wp2
      go_ret
      exact ⟨rfl, below_drewN (Below.refl _ _) _⟩

set_option maxHeartbeats 2000000 in
set_option maxRecDepth 100000 in
theorem numberM_pos (b o S cp : Nat) (L : List Nat) (w : World) (hl : L.length = S) (hS : S ≤ 8) (h1 : 1 ≤ S) (hb : ∀ x ∈ L, x < 256) (hr : RdV w (some ⟨b, o, none⟩) (bv L)) (a : Nat) (ha : L.getD 0 0 = a) (h7 : a ≤ 127) :
    Calls Try.prog 23 #[.int .i64 5, .slice (some ⟨b, o, none⟩) S cp] w fun e w' => e = .returned (.int .u64 ((numS 0 L S : Nat) : Int)) ∧ Below w.heap.size w w' := by
  have HM := Lib.hid (fun j (hj : j < S) => show (∃ x : Nat, x < 256 ∧ w.cell? ⟨b, o + j, none⟩ = some (.int .u8 (x : Int)) ∧ ((numS 0 L (j + 1) : Nat) : Int) = ((numS 0 L j : Nat) : Int) * 256 % 18446744073709551616 + (x : Int) ∧ numS 0 L j < 18446744073709551616) from by
    have hj2 : j < L.length := by omega
    refine ⟨L[j], hb _ (List.getElem_mem _), ?_, ?_, numS_lt _ _ _⟩
    · rw [hr.at j (by rw [bv_len]; omega), bv_get L _ hj2]
      simp [List.getD, hj2]
    · rw [numS_succ _ _ _ hj2]
      have := hb _ (List.getElem_mem hj2)
      omega)
  have H0 := Lib.hid (show ((numS 0 L 0 : Nat) : Int) = 0 by rw [numS_0 _ _ (by decide)]; rfl)
  have c0 : w.cell? ⟨b, o, none⟩ = some (.int .u8 (a : Int)) := by have := hr.at 0 (by rw [bv_len]; omega); rw [bv_get L 0 (by omega), ha] at this; exact this
  have hS0 : (0 : Int) < (S : Int) := by omega
  have e7 : decide ((127 : Int) < (a : Int)) = false := decide_eq_false (by omega)
  have e8 : ¬ (127 : Int) < (a : Int) := by omega
  clear ha
  generalize numS 0 L = NB at *
  clear hr hb
  go_enter Try.func23, Try.ntmps23
  go_wp2_with fail
  (try (go_quiet (fail)))
  (try (go_wp2_with fail))
  go_loopw [4, 17] (fun v i wr => ∃ j q : Nat, j ≤ S ∧ i = .int .i64 (j : Int) ∧ v = .int .u64 ((NB j : Nat) : Int) ∧ wr = w.drewN q) (fun _ i _ => S - (intOf i).toNat)
  case atStart => first | exact ⟨0, 0, by omega, rfl, by rw [H0.out], rfl⟩ | exact ⟨0, _, by omega, rfl, by rw [H0.out], rfl⟩
  case round =>
    obtain ⟨j, q, hj, rfl, rfl, rfl⟩ := hrel
    by_cases hlt : j < S
    · obtain ⟨x, hx, hcx, hnx, hvx⟩ := HM.out j hlt
      have HO := Lib.hid (or_shl (NB j : Int) (x : Int) (by omega) (by omega) (by omega) (by omega))
      have HNX := Lib.hid hnx
      clear hnx
      have h1 : (j : Int) < (S : Int) := by omega
      generalize NB j = Vj at *
      go_wp2
      go_roundw
      case rel => exact ⟨j + 1, _, by omega, by go_num, by rw [HNX.out]; first | exact congrArg (fun z => Value.int .u64 z) HO.out | (refine congrArg (fun z => Value.int .u64 z) ?_; rw [IntKind.wrap_u64]; exact HO.out), rfl⟩
      case measure => simp [intOf]; omega
    · obtain rfl : j = S := by omega
      go_wp2
      go_ret
      exact ⟨rfl, below_drewN (Below.refl _ _) _⟩

set_option maxHeartbeats 2000000 in
set_option maxRecDepth 100000 in
theorem numberM_neg (b o S cp : Nat) (L : List Nat) (w : World) (hl : L.length = S) (hS : S ≤ 8) (h1 : 1 ≤ S) (hb : ∀ x ∈ L, x < 256) (hr : RdV w (some ⟨b, o, none⟩) (bv L)) (a : Nat) (ha : L.getD 0 0 = a) (h7 : 127 < a) :
    Calls Try.prog 23 #[.int .i64 5, .slice (some ⟨b, o, none⟩) S cp] w fun e w' => e = .returned (.int .u64 ((numS 18446744073709551615 L S : Nat) : Int)) ∧ Below w.heap.size w w' := by
  have HM := Lib.hid (fun j (hj : j < S) => show (∃ x : Nat, x < 256 ∧ w.cell? ⟨b, o + j, none⟩ = some (.int .u8 (x : Int)) ∧ ((numS 18446744073709551615 L (j + 1) : Nat) : Int) = ((numS 18446744073709551615 L j : Nat) : Int) * 256 % 18446744073709551616 + (x : Int) ∧ numS 18446744073709551615 L j < 18446744073709551616) from by
    have hj2 : j < L.length := by omega
    refine ⟨L[j], hb _ (List.getElem_mem _), ?_, ?_, numS_lt _ _ _⟩
    · rw [hr.at j (by rw [bv_len]; omega), bv_get L _ hj2]
      simp [List.getD, hj2]
    · rw [numS_succ _ _ _ hj2]
      have := hb _ (List.getElem_mem hj2)
      omega)
  have H0 := Lib.hid (show ((numS 18446744073709551615 L 0 : Nat) : Int) = 18446744073709551615 by rw [numS_0 _ _ (by decide)]; rfl)
  have c0 : w.cell? ⟨b, o, none⟩ = some (.int .u8 (a : Int)) := by have := hr.at 0 (by rw [bv_len]; omega); rw [bv_get L 0 (by omega), ha] at this; exact this
  have hS0 : (0 : Int) < (S : Int) := by omega
  have e7 : decide ((127 : Int) < (a : Int)) = true := decide_eq_true (by omega)
  have e8 : (127 : Int) < (a : Int) := by omega
  clear ha
  generalize numS 18446744073709551615 L = NB at *
  clear hr hb
  go_enter Try.func23, Try.ntmps23
  go_wp2_with fail
  (try (go_quiet (fail)))
  (try (go_wp2_with fail))
  go_loopw [4, 17] (fun v i wr => ∃ j q : Nat, j ≤ S ∧ i = .int .i64 (j : Int) ∧ v = .int .u64 ((NB j : Nat) : Int) ∧ wr = w.drewN q) (fun _ i _ => S - (intOf i).toNat)
  case atStart => first | exact ⟨0, 0, by omega, rfl, by rw [H0.out], rfl⟩ | exact ⟨0, _, by omega, rfl, by rw [H0.out], rfl⟩
  case round =>
    obtain ⟨j, q, hj, rfl, rfl, rfl⟩ := hrel
    by_cases hlt : j < S
    · obtain ⟨x, hx, hcx, hnx, hvx⟩ := HM.out j hlt
      have HO := Lib.hid (or_shl (NB j : Int) (x : Int) (by omega) (by omega) (by omega) (by omega))
      have HNX := Lib.hid hnx
      clear hnx
      have h1 : (j : Int) < (S : Int) := by omega
      generalize NB j = Vj at *
      go_wp2
      go_roundw
      case rel => exact ⟨j + 1, _, by omega, by go_num, by rw [HNX.out]; first | exact congrArg (fun z => Value.int .u64 z) HO.out | (refine congrArg (fun z => Value.int .u64 z) ?_; rw [IntKind.wrap_u64]; exact HO.out), rfl⟩
      case measure => simp [intOf]; omega
    · obtain rfl : j = S := by omega
      go_wp2
      go_ret
      exact ⟨rfl, below_drewN (Below.refl _ _) _⟩

theorem numberM_any (kd S : Nat) (ad : Option Addr) (cp : Nat) (L : List Nat) (w : World) (hl : L.length = S) (hS : S = 1 ∨ S = 2 ∨ S = 4 ∨ S = 8) (hb : ∀ x ∈ L, x < 256) (hr : RdV w ad (bv L)) :
    Calls Try.prog 23 #[.int .i64 (kd : Int), .slice ad S cp] w fun e w' => e = .returned (.int .u64 ((numB kd L : Nat) : Int)) ∧ Below w.heap.size w w' := by
  obtain ⟨b, o, rfl, _⟩ := hr.shape (by rw [bv_len]; omega)
  by_cases hk : kd = 5
  · subst hk
    by_cases h7 : 127 < L.getD 0 0
    · rw [show numB 5 L = numS 18446744073709551615 L S by rw [numS_below L S hl hS hb]; unfold numB; rw [if_pos ⟨rfl, h7⟩, hl]]
      exact numberM_neg b o S cp L w hl (by omega) (by omega) hb hr _ rfl h7
    · rw [show numB 5 L = numS 0 L S by rw [numS_plain L S hl hS hb]; unfold numB; rw [if_neg (fun h => h7 h.2)]]
      exact numberM_pos b o S cp L w hl (by omega) (by omega) hb hr _ rfl (by omega)
  · rw [show numB kd L = numS 0 L S by rw [numS_plain L S hl hS hb]; unfold numB; rw [if_neg (fun h => hk h.1)]]
    exact numberM_plain b o S cp kd L w hl (by omega) (by omega) hb hr hk
end Go.Proofs.Ytmnaccojekojkaa

