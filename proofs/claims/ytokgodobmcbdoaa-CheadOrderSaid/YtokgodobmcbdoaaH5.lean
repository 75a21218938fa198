/- The number of a head, out of its bytes. -/
import Derived.Test.YtokgodobmcbdoaaH4
import Derived.Lib.EndianBits
namespace Go.Proofs.Ytokgodobmcbdoaa
open Go.RowKit Go.Lib
set_option linter.unusedVariables false
set_option linter.unusedSimpArgs false
theorem orJ (i : Nat) (x y : Int) (h0 : 0 ≤ x) (h1 : x % 2 ^ i = 0) (h2 : x < 18446744073709551616) (h3 : 0 ≤ y) (h4 : y < 2 ^ i) (h5 : y < 18446744073709551616) : bits .or .u64 x y = x + y :=
  bits_join .u64 64 (by decide) wraps_u64 i x y h0 h1 h2 h3 h4 h5
theorem or0 (y : Int) (h3 : 0 ≤ y) (h5 : y < 18446744073709551616) : bits .or .u64 0 y = y := by
  rw [bits_join .u64 64 (by decide) wraps_u64 64 0 y (by decide) (by decide) (by decide) h3 h5 h5]; omega
set_option maxHeartbeats 1000000 in
set_option maxRecDepth 100000 in
theorem number_short (i : Nat) (s : Value) (w : World) (hi : i < 24) : Calls Try.prog 16 #[.int .i64 (i : Int), s] w fun e w' => e = .returned (.int .u64 (i : Int)) ∧ Below w.heap.size w w' := by
  have e1 : decide ((i : Int) ≤ 23) = true := decide_eq_true (by omega)
  go_enter Try.func16, Try.ntmps16
  go_wp2_with fail
  go_ret
  exact ⟨rfl, Below.refl _ _⟩
set_option maxHeartbeats 1000000 in
set_option maxRecDepth 100000 in
theorem number_open (ad : Option Addr) (c : Nat) (w : World) : Calls Try.prog 16 #[.int .i64 31, .slice ad 0 c] w fun e w' => e = .returned (.int .u64 0) ∧ Below w.heap.size w w' := by
  go_enter Try.func16, Try.ntmps16
  go_wp2_with fail
  go_ret
  exact ⟨rfl, Below.refl _ _⟩
theorem num1 (x0 : Nat) (b0 : x0 < 256) : (bits .or .u64 0 (x0 : Int)) = ((natB [x0] : Nat) : Int) := by
  rw [or0 ((x0 : Int)) (by omega) (by omega)]
  simp only [natB, List.foldl]
  omega
set_option maxHeartbeats 1000000 in
set_option maxRecDepth 100000 in
theorem number_1 (b o c : Nat) (x0 : Nat) (w : World) (h : RdV w (some ⟨b, o, none⟩) (bv [x0])) (b0 : x0 < 256) :
    Calls Try.prog 16 #[.int .i64 24, .slice (some ⟨b, o, none⟩) 1 c] w fun e w' => e = .returned (.int .u64 ((natB [x0] : Nat) : Int)) ∧ Below w.heap.size w w' := by
  have c0 : w.cell? ⟨b, o, none⟩ = some (.int .u8 (x0 : Int)) := h.at 0 (by simp [bv])
  have E := Lib.hid (num1 x0 b0)
  clear h
  go_enter Try.func16, Try.ntmps16
  go_wp2_with fail
  go_ret
  exact ⟨congrArg (fun z => Ending.returned (Value.int .u64 z)) E.out, Below.refl _ _⟩
theorem num2 (x0 x1 : Nat) (b0 : x0 < 256) (b1 : x1 < 256) : (bits .or .u64 (bits .or .u64 0 ((x0 : Int) * 256)) (x1 : Int)) = ((natB [x0, x1] : Nat) : Int) := by
  rw [or0 (((x0 : Int) * 256)) (by omega) (by omega), orJ 8 (((x0 : Int) * 256)) ((x1 : Int)) (by omega) (by omega) (by omega) (by omega) (by omega) (by omega)]
  simp only [natB, List.foldl]
  omega
set_option maxHeartbeats 1000000 in
set_option maxRecDepth 100000 in
theorem number_2 (b o c : Nat) (x0 x1 : Nat) (w : World) (h : RdV w (some ⟨b, o, none⟩) (bv [x0, x1])) (b0 : x0 < 256) (b1 : x1 < 256) :
    Calls Try.prog 16 #[.int .i64 25, .slice (some ⟨b, o, none⟩) 2 c] w fun e w' => e = .returned (.int .u64 ((natB [x0, x1] : Nat) : Int)) ∧ Below w.heap.size w w' := by
  have c0 : w.cell? ⟨b, o, none⟩ = some (.int .u8 (x0 : Int)) := h.at 0 (by simp [bv])
  have c1 : w.cell? ⟨b, o + 1, none⟩ = some (.int .u8 (x1 : Int)) := h.at 1 (by simp [bv])
  have E := Lib.hid (num2 x0 x1 b0 b1)
  clear h
  go_enter Try.func16, Try.ntmps16
  go_wp2_with fail
  go_ret
  exact ⟨congrArg (fun z => Ending.returned (Value.int .u64 z)) E.out, Below.refl _ _⟩
theorem num4 (x0 x1 x2 x3 : Nat) (b0 : x0 < 256) (b1 : x1 < 256) (b2 : x2 < 256) (b3 : x3 < 256) : (bits .or .u64 (bits .or .u64 (bits .or .u64 0 (bits .or .u64 ((x0 : Int) * 16777216) ((x1 : Int) * 65536))) ((x2 : Int) * 256)) (x3 : Int)) = ((natB [x0, x1, x2, x3] : Nat) : Int) := by
  rw [orJ 24 (((x0 : Int) * 16777216)) (((x1 : Int) * 65536)) (by omega) (by omega) (by omega) (by omega) (by omega) (by omega), or0 (((x0 : Int) * 16777216) + ((x1 : Int) * 65536)) (by omega) (by omega), orJ 16 (((x0 : Int) * 16777216) + ((x1 : Int) * 65536)) (((x2 : Int) * 256)) (by omega) (by omega) (by omega) (by omega) (by omega) (by omega), orJ 8 (((x0 : Int) * 16777216) + ((x1 : Int) * 65536) + ((x2 : Int) * 256)) ((x3 : Int)) (by omega) (by omega) (by omega) (by omega) (by omega) (by omega)]
  simp only [natB, List.foldl]
  omega
set_option maxHeartbeats 1000000 in
set_option maxRecDepth 100000 in
theorem number_4 (b o c : Nat) (x0 x1 x2 x3 : Nat) (w : World) (h : RdV w (some ⟨b, o, none⟩) (bv [x0, x1, x2, x3])) (b0 : x0 < 256) (b1 : x1 < 256) (b2 : x2 < 256) (b3 : x3 < 256) :
    Calls Try.prog 16 #[.int .i64 26, .slice (some ⟨b, o, none⟩) 4 c] w fun e w' => e = .returned (.int .u64 ((natB [x0, x1, x2, x3] : Nat) : Int)) ∧ Below w.heap.size w w' := by
  have c0 : w.cell? ⟨b, o, none⟩ = some (.int .u8 (x0 : Int)) := h.at 0 (by simp [bv])
  have c1 : w.cell? ⟨b, o + 1, none⟩ = some (.int .u8 (x1 : Int)) := h.at 1 (by simp [bv])
  have c2 : w.cell? ⟨b, o + 2, none⟩ = some (.int .u8 (x2 : Int)) := h.at 2 (by simp [bv])
  have c3 : w.cell? ⟨b, o + 3, none⟩ = some (.int .u8 (x3 : Int)) := h.at 3 (by simp [bv])
  have E := Lib.hid (num4 x0 x1 x2 x3 b0 b1 b2 b3)
  clear h
  go_enter Try.func16, Try.ntmps16
  go_wp2_with fail
  go_quiet (fail)
  go_wp2_with fail
  go_ret
  exact ⟨congrArg (fun z => Ending.returned (Value.int .u64 z)) E.out, below_drewN (Below.refl _ _) _⟩
theorem num8 (x0 x1 x2 x3 x4 x5 x6 x7 : Nat) (b0 : x0 < 256) (b1 : x1 < 256) (b2 : x2 < 256) (b3 : x3 < 256) (b4 : x4 < 256) (b5 : x5 < 256) (b6 : x6 < 256) (b7 : x7 < 256) : (bits .or .u64 (bits .or .u64 (bits .or .u64 (bits .or .u64 0 (bits .or .u64 (bits .or .u64 (bits .or .u64 ((x0 : Int) * 72057594037927936) ((x1 : Int) * 281474976710656)) ((x2 : Int) * 1099511627776)) ((x3 : Int) * 4294967296))) (bits .or .u64 ((x4 : Int) * 16777216) ((x5 : Int) * 65536))) ((x6 : Int) * 256)) (x7 : Int)) = ((natB [x0, x1, x2, x3, x4, x5, x6, x7] : Nat) : Int) := by
  rw [orJ 56 (((x0 : Int) * 72057594037927936)) (((x1 : Int) * 281474976710656)) (by omega) (by omega) (by omega) (by omega) (by omega) (by omega), orJ 48 (((x0 : Int) * 72057594037927936) + ((x1 : Int) * 281474976710656)) (((x2 : Int) * 1099511627776)) (by omega) (by omega) (by omega) (by omega) (by omega) (by omega), orJ 40 (((x0 : Int) * 72057594037927936) + ((x1 : Int) * 281474976710656) + ((x2 : Int) * 1099511627776)) (((x3 : Int) * 4294967296)) (by omega) (by omega) (by omega) (by omega) (by omega) (by omega), or0 (((x0 : Int) * 72057594037927936) + ((x1 : Int) * 281474976710656) + ((x2 : Int) * 1099511627776) + ((x3 : Int) * 4294967296)) (by omega) (by omega), orJ 24 (((x4 : Int) * 16777216)) (((x5 : Int) * 65536)) (by omega) (by omega) (by omega) (by omega) (by omega) (by omega), orJ 32 (((x0 : Int) * 72057594037927936) + ((x1 : Int) * 281474976710656) + ((x2 : Int) * 1099511627776) + ((x3 : Int) * 4294967296)) (((x4 : Int) * 16777216) + ((x5 : Int) * 65536)) (by omega) (by omega) (by omega) (by omega) (by omega) (by omega), orJ 16 (((x0 : Int) * 72057594037927936) + ((x1 : Int) * 281474976710656) + ((x2 : Int) * 1099511627776) + ((x3 : Int) * 4294967296) + (((x4 : Int) * 16777216) + ((x5 : Int) * 65536))) (((x6 : Int) * 256)) (by omega) (by omega) (by omega) (by omega) (by omega) (by omega), orJ 8 (((x0 : Int) * 72057594037927936) + ((x1 : Int) * 281474976710656) + ((x2 : Int) * 1099511627776) + ((x3 : Int) * 4294967296) + (((x4 : Int) * 16777216) + ((x5 : Int) * 65536)) + ((x6 : Int) * 256)) ((x7 : Int)) (by omega) (by omega) (by omega) (by omega) (by omega) (by omega)]
  simp only [natB, List.foldl]
  omega
set_option maxHeartbeats 1000000 in
set_option maxRecDepth 100000 in
theorem number_8 (b o c : Nat) (x0 x1 x2 x3 x4 x5 x6 x7 : Nat) (w : World) (h : RdV w (some ⟨b, o, none⟩) (bv [x0, x1, x2, x3, x4, x5, x6, x7])) (b0 : x0 < 256) (b1 : x1 < 256) (b2 : x2 < 256) (b3 : x3 < 256) (b4 : x4 < 256) (b5 : x5 < 256) (b6 : x6 < 256) (b7 : x7 < 256) :
    Calls Try.prog 16 #[.int .i64 27, .slice (some ⟨b, o, none⟩) 8 c] w fun e w' => e = .returned (.int .u64 ((natB [x0, x1, x2, x3, x4, x5, x6, x7] : Nat) : Int)) ∧ Below w.heap.size w w' := by
  have c0 : w.cell? ⟨b, o, none⟩ = some (.int .u8 (x0 : Int)) := h.at 0 (by simp [bv])
  have c1 : w.cell? ⟨b, o + 1, none⟩ = some (.int .u8 (x1 : Int)) := h.at 1 (by simp [bv])
  have c2 : w.cell? ⟨b, o + 2, none⟩ = some (.int .u8 (x2 : Int)) := h.at 2 (by simp [bv])
  have c3 : w.cell? ⟨b, o + 3, none⟩ = some (.int .u8 (x3 : Int)) := h.at 3 (by simp [bv])
  have c4 : w.cell? ⟨b, o + 4, none⟩ = some (.int .u8 (x4 : Int)) := h.at 4 (by simp [bv])
  have c5 : w.cell? ⟨b, o + 5, none⟩ = some (.int .u8 (x5 : Int)) := h.at 5 (by simp [bv])
  have c6 : w.cell? ⟨b, o + 6, none⟩ = some (.int .u8 (x6 : Int)) := h.at 6 (by simp [bv])
  have c7 : w.cell? ⟨b, o + 7, none⟩ = some (.int .u8 (x7 : Int)) := h.at 7 (by simp [bv])
  have E := Lib.hid (num8 x0 x1 x2 x3 x4 x5 x6 x7 b0 b1 b2 b3 b4 b5 b6 b7)
  clear h
  go_enter Try.func16, Try.ntmps16
  go_wp2_with fail
  go_quiet (fail)
  go_wp2_with fail
  go_quiet (fail)
  go_wp2_with fail
  go_ret
  exact ⟨congrArg (fun z => Ending.returned (Value.int .u64 z)) E.out, below_drewN (Below.refl _ _) _⟩
end Go.Proofs.Ytokgodobmcbdoaa
