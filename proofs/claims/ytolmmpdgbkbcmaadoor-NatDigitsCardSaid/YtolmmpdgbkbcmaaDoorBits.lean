/- The walks of the functions of math bits that nat calls. -/
import Derived.Test.YtolmmpdgbkbcmaaDoorWorld
import Derived.Lib.Strings
import Derived.Lib.Slices
import Derived.Lib.Small
import Derived.Lib.Walk
import Derived.Lib.BitFns
namespace Go.Proofs.YtolmmpdgbkbcmaaDoor
open Go.RowKit
set_option linter.unusedVariables false

def smd (x y c : Nat) : Nat := (x + y + c) % 4294967296
def cry (x y c : Nat) : Nat := (x + y + c) / 4294967296
theorem smd_lt (x y c : Nat) : smd x y c < 4294967296 := Nat.mod_lt _ (by decide)
theorem cry_le {x y c : Nat} (hx : x < 4294967296) (hy : y < 4294967296) (hc : c ≤ 1) : cry x y c ≤ 1 := by unfold cry; omega
theorem smd_eq (x y c : Nat) : smd x y c + 4294967296 * cry x y c = x + y + c := by unfold smd cry; omega

set_option maxHeartbeats 1000000 in
theorem add32_any (x y c : Nat) (w : World) (hx : x < 4294967296) (hy : y < 4294967296) (hc : c ≤ 1) :
    Calls Tryd.prog 59 #[.int .u32 (x : Int), .int .u32 (y : Int), .int .u32 (c : Int)] w fun e w' =>
      e = .returned (.tuple #[.int .u32 ((smd x y c : Nat) : Int), .int .u32 ((cry x y c : Nat) : Int)]) ∧ w = w' := by
  go_enter Tryd.func59, Tryd.ntmps59
  go_wp2
  go_ret2
  exact ⟨by unfold smd cry; congr 5 <;> omega, rfl⟩

theorem ret1_eq {k1 : IntKind} {a a' : Int} (h1 : a = a') : Ending.returned (.int k1 a) = .returned (.int k1 a') := by rw [h1]
theorem ret2_eq {k1 k2 : IntKind} {a a' b b' : Int} (h1 : a = a') (h2 : b = b') : Ending.returned (.tuple #[.int k1 a, .int k2 b]) = .returned (.tuple #[.int k1 a', .int k2 b']) := by rw [h1, h2]

/-- What is borrowed. -/
def brw (x y c : Nat) : Nat := if x < y + c then 1 else 0
theorem brw_le (x y c : Nat) : brw x y c ≤ 1 := by unfold brw; split <;> omega
def dif (x y c : Nat) : Nat := (x + 4294967296 - y - c) % 4294967296
theorem dif_lt (x y c : Nat) : dif x y c < 4294967296 := Nat.mod_lt _ (by decide)
theorem dif_eq {x y c : Nat} (hx : x < 4294967296) (hy : y < 4294967296) (hc : c ≤ 1) : x + 4294967296 * brw x y c = dif x y c + y + c := by
  unfold brw dif; split <;> omega

theorem top_bit (n : Nat) (h : n < 4294967296) : n / 2147483648 = (n.testBit 31).toNat := by
  rw [Nat.testBit_eq_decide_div_mod_eq]
  have : n / 2 ^ 31 = n / 2147483648 := rfl
  rw [this]
  by_cases h1 : n / 2147483648 % 2 = 1
  · simp [h1]; omega
  · simp [h1]; omega
theorem tb_ge (n : Nat) (h : n < 4294967296) : n.testBit 31 = decide (2147483648 ≤ n) := by
  have h1 := top_bit n h
  by_cases h2 : 2147483648 ≤ n
  · have : n / 2147483648 = 1 := by omega
    rw [this] at h1
    cases hb : n.testBit 31
    · rw [hb] at h1; simp at h1
    · simp [h2]
  · have : n / 2147483648 = 0 := by omega
    rw [this] at h1
    cases hb : n.testBit 31
    · simp [h2]
    · rw [hb] at h1; simp at h1
theorem borrow_nat {x y c : Nat} (hx : x < 4294967296) (hy : y < 4294967296) (hc : c ≤ 1) :
    (((4294967295 ^^^ x) &&& y) ||| ((4294967295 ^^^ (x ^^^ y)) &&& dif x y c)) / 2147483648 = brw x y c := by
  have hd := dif_lt x y c
  have hM : (4294967295 : Nat) < 2 ^ 32 := by decide
  have b1 : (4294967295 ^^^ x) &&& y < 2 ^ 32 := Nat.and_lt_two_pow _ hy
  have b2 : (4294967295 ^^^ (x ^^^ y)) &&& dif x y c < 2 ^ 32 := Nat.and_lt_two_pow _ hd
  rw [top_bit _ (Nat.or_lt_two_pow b1 b2)]
  simp only [Nat.testBit_or, Nat.testBit_and, Nat.testBit_xor]
  rw [tb_ge x hx, tb_ge y hy, tb_ge _ hd, show Nat.testBit 4294967295 31 = true by decide]
  have he := dif_eq hx hy hc
  have hb := brw_le x y c
  generalize brw x y c = q at *
  generalize dif x y c = d at *
  clear b1 b2 hM
  by_cases h1 : 2147483648 ≤ x <;> by_cases h2 : 2147483648 ≤ y <;> by_cases h3 : 2147483648 ≤ d <;> simp [h1, h2, h3] <;> omega
theorem borrow_int {x y c : Nat} (hx : x < 4294967296) (hy : y < 4294967296) (hc : c ≤ 1) :
    bits BinOp.or IntKind.u32 (bits BinOp.and IntKind.u32 (bits BinOp.xor IntKind.u32 IntKind.u32.max ↑x) ↑y)
      (bits BinOp.and IntKind.u32 (bits BinOp.xor IntKind.u32 IntKind.u32.max (bits BinOp.xor IntKind.u32 ↑x ↑y)) (((x : Int) - ↑y - ↑c) % 4294967296)) / 2147483648 = ((brw x y c : Nat) : Int) := by
  have hd := dif_lt x y c
  have hM : (4294967295 : Nat) < 2 ^ 32 := by decide
  have ed : ((x : Int) - ↑y - ↑c) % 4294967296 = ((dif x y c : Nat) : Int) := by unfold dif; omega
  have em : IntKind.u32.max = ((4294967295 : Nat) : Int) := by decide
  have x1 : 4294967295 ^^^ x < 2 ^ 32 := Nat.xor_lt_two_pow hM hx
  have x2 : x ^^^ y < 2 ^ 32 := Nat.xor_lt_two_pow hx hy
  have x3 : 4294967295 ^^^ (x ^^^ y) < 2 ^ 32 := Nat.xor_lt_two_pow hM x2
  have b1 : (4294967295 ^^^ x) &&& y < 2 ^ 32 := Nat.and_lt_two_pow _ hy
  have b2 : (4294967295 ^^^ (x ^^^ y)) &&& dif x y c < 2 ^ 32 := Nat.and_lt_two_pow _ hd
  rw [ed, em, u32_xor_nat _ _ (by decide) hx, u32_xor_nat _ _ hx hy, u32_xor_nat _ _ (by decide) x2, u32_and_nat _ _ x1 hy, u32_and_nat _ _ x3 hd, u32_or_nat _ _ b1 b2, ← borrow_nat hx hy hc]
  omega

set_option maxHeartbeats 1000000 in
theorem sub32_any (x y c : Nat) (w : World) (hx : x < 4294967296) (hy : y < 4294967296) (hc : c ≤ 1) :
    Calls Tryd.prog 60 #[.int .u32 (x : Int), .int .u32 (y : Int), .int .u32 (c : Int)] w fun e w' =>
      e = .returned (.tuple #[.int .u32 ((dif x y c : Nat) : Int), .int .u32 ((brw x y c : Nat) : Int)]) ∧ w = w' := by
  have hs : IntKind.u32.signed = false := rfl
  have HB := Lib.hid (borrow_int hx hy hc)
  go_enter Tryd.func60, Tryd.ntmps60
  go_wp2
  go_ret2
  refine ⟨ret2_eq ?_ ?_, rfl⟩
  · unfold dif; omega
  · exact HB.out

/-- How many bits a limb has. -/
def blen (x : Nat) : Nat := Lib.bitLen x

set_option maxHeartbeats 4000000 in
set_option maxRecDepth 100000 in
theorem len32_int (x : Int) (w : World) (h0 : 0 ≤ x) (h1 : x ≤ 4294967295) :
    Calls Tryd.prog 47 #[.int .u32 x] w fun e w' => e = .returned (.int .i64 (Lib.bitLen x.toNat)) ∧ w = w' := by
  by_cases hA : x ≤ 255
  · have q0 : 0 ≤ x := by omega
    have q1 : x ≤ 255 := by omega
    have e : (x).toNat = x.toNat := by omega
    have l := Lib.bitLen_le8' (x) (by omega) (by omega)
    have t := Lib.len8_of (x) (by omega) (by omega)
    rw [e] at l t
    have v0 : 0 ≤ Lib.len8 (x) := by rw [t]; omega
    have v1 : Lib.len8 (x) ≤ 8 := by rw [t]; omega
    have T : Hid (Lib.len8 (x) + 0 = Lib.bitLen x.toNat) := by unfold Hid; rw [t]; omega
    clear t l e
    go_enter Tryd.func47, Tryd.ntmps47
    go_wp2
    go_ret
    exact ⟨ret1_eq (by rw [← T.out]; omega), rfl⟩
  by_cases hB : x ≤ 65535
  · have q0 : 0 ≤ x / 256 := by omega
    have q1 : x / 256 ≤ 255 := by omega
    have e : (x / 256).toNat = x.toNat / 256 := by omega
    have l := Lib.bitLen_le8' (x / 256) (by omega) (by omega)
    have t := Lib.len8_of (x / 256) (by omega) (by omega)
    rw [e] at l t
    have s := Lib.bitLen_shift8 x.toNat (by omega) (by omega)
    have v0 : 0 ≤ Lib.len8 (x / 256) := by rw [t]; omega
    have v1 : Lib.len8 (x / 256) ≤ 8 := by rw [t]; omega
    have T : Hid (Lib.len8 (x / 256) + 8 = Lib.bitLen x.toNat) := by unfold Hid; rw [t, s]; omega
    clear t l e s
    go_enter Tryd.func47, Tryd.ntmps47
    go_wp2
    go_ret
    exact ⟨ret1_eq (by rw [← T.out]; omega), rfl⟩
  by_cases hC : x ≤ 16777215
  · have q0 : 0 ≤ x / 65536 := by omega
    have q1 : x / 65536 ≤ 255 := by omega
    have e : (x / 65536).toNat = x.toNat / 65536 := by omega
    have l := Lib.bitLen_le8' (x / 65536) (by omega) (by omega)
    have t := Lib.len8_of (x / 65536) (by omega) (by omega)
    rw [e] at l t
    have s := Lib.bitLen_shift16 x.toNat (by omega) (by omega)
    have v0 : 0 ≤ Lib.len8 (x / 65536) := by rw [t]; omega
    have v1 : Lib.len8 (x / 65536) ≤ 8 := by rw [t]; omega
    have T : Hid (Lib.len8 (x / 65536) + 16 = Lib.bitLen x.toNat) := by unfold Hid; rw [t, s]; omega
    clear t l e s
    go_enter Tryd.func47, Tryd.ntmps47
    go_wp2
    go_ret
    exact ⟨ret1_eq (by rw [← T.out]; omega), rfl⟩
  · have q0 : 0 ≤ x / 65536 / 256 := by omega
    have q1 : x / 65536 / 256 ≤ 255 := by omega
    have e : (x / 65536 / 256).toNat = x.toNat / 16777216 := by omega
    have l := Lib.bitLen_le8' (x / 65536 / 256) (by omega) (by omega)
    have t := Lib.len8_of (x / 65536 / 256) (by omega) (by omega)
    rw [e] at l t
    have s := Lib.bitLen_shift24 x.toNat (by omega) (by omega)
    have v0 : 0 ≤ Lib.len8 (x / 65536 / 256) := by rw [t]; omega
    have v1 : Lib.len8 (x / 65536 / 256) ≤ 8 := by rw [t]; omega
    have T : Hid (Lib.len8 (x / 65536 / 256) + 24 = Lib.bitLen x.toNat) := by unfold Hid; rw [t, s]; omega
    clear t l e s
    go_enter Tryd.func47, Tryd.ntmps47
    go_wp2
    go_ret
    exact ⟨ret1_eq (by rw [← T.out]; omega), rfl⟩

theorem len32_any (x : Nat) (w : World) (hx : x < 4294967296) :
    Calls Tryd.prog 47 #[.int .u32 (x : Int)] w fun e w' => e = .returned (.int .i64 (blen x : Int)) ∧ w = w' :=
  (len32_int (x : Int) w (by omega) (by omega)).mono fun _ _ h => h

theorem blen_le (x : Nat) (hx : x < 4294967296) : blen x ≤ 32 := Lib.bitLen_le x 32 (by decide) hx

set_option maxHeartbeats 1000000 in
theorem lz32_any (x : Nat) (w : World) (hx : x < 4294967296) :
    Calls Tryd.prog 54 #[.int .u32 (x : Int)] w fun e w' => e = .returned (.int .i64 ((32 - blen x : Nat) : Int)) ∧ w = w' := by
  have hb := blen_le x hx
  go_enter Tryd.func54, Tryd.ntmps54
  go_wp2_with (go_at_call 47; refine (len32_any _ _ hx).mono ?_; rintro e w' ⟨rfl, rfl⟩)
  go_ret
  exact ⟨ret1_eq (by omega), rfl⟩

set_option maxHeartbeats 4000000 in
set_option maxRecDepth 100000 in
theorem len64_small (x : Int) (w : World) (h0 : 0 ≤ x) (h1 : x ≤ 65535) :
    Calls Tryd.prog 58 #[.int .u64 x] w fun e w' => e = .returned (.int .i64 (Lib.bitLen x.toNat)) ∧ w = w' := by
  by_cases hA : x ≤ 255
  · have q0 : 0 ≤ x := by omega
    have q1 : x ≤ 255 := by omega
    have e : (x).toNat = x.toNat := by omega
    have l := Lib.bitLen_le8' (x) (by omega) (by omega)
    have t := Lib.len8_of (x) (by omega) (by omega)
    rw [e] at l t
    have v0 : 0 ≤ Lib.len8 (x) := by rw [t]; omega
    have v1 : Lib.len8 (x) ≤ 8 := by rw [t]; omega
    have T : Hid (Lib.len8 (x) + 0 = Lib.bitLen x.toNat) := by unfold Hid; rw [t]; omega
    clear t l e
    go_enter Tryd.func58, Tryd.ntmps58
    go_wp2
    go_ret
    exact ⟨ret1_eq (by rw [← T.out]; omega), rfl⟩
  · have q0 : 0 ≤ x / 256 := by omega
    have q1 : x / 256 ≤ 255 := by omega
    have e : (x / 256).toNat = x.toNat / 256 := by omega
    have l := Lib.bitLen_le8' (x / 256) (by omega) (by omega)
    have t := Lib.len8_of (x / 256) (by omega) (by omega)
    rw [e] at l t
    have s := Lib.bitLen_shift8 x.toNat (by omega) (by omega)
    have v0 : 0 ≤ Lib.len8 (x / 256) := by rw [t]; omega
    have v1 : Lib.len8 (x / 256) ≤ 8 := by rw [t]; omega
    have T : Hid (Lib.len8 (x / 256) + 8 = Lib.bitLen x.toNat) := by unfold Hid; rw [t, s]; omega
    clear t l e s
    go_enter Tryd.func58, Tryd.ntmps58
    go_wp2
    go_ret
    exact ⟨ret1_eq (by rw [← T.out]; omega), rfl⟩

set_option maxHeartbeats 1000000 in
theorem len_small (x : Nat) (w : World) (h1 : x ≤ 65535) :
    Calls Tryd.prog 48 #[.int .u64 (x : Int)] w fun e w' => e = .returned (.int .i64 (blen x : Int)) ∧ w = w' := by
  go_enter Tryd.func48, Tryd.ntmps48
  go_wp2_with (go_at_call 58; refine (len64_small (x : Int) _ (by omega) (by omega)).mono ?_; rintro e w' ⟨rfl, rfl⟩)
  go_ret
  exact ⟨rfl, rfl⟩
end Go.Proofs.YtolmmpdgbkbcmaaDoor
