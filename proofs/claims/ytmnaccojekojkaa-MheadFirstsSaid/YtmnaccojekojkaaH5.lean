/- The number of a head, out of its bytes. -/
import Derived.Test.YtmnaccojekojkaaH4
import Derived.Lib.EndianBits
namespace Go.Proofs.Ytmnaccojekojkaa
open Go.RowKit Go.Lib
set_option linter.unusedVariables false
set_option linter.unusedSimpArgs false
theorem orJ (i : Nat) (x y : Int) (h0 : 0 ≤ x) (h1 : x % 2 ^ i = 0) (h2 : x < 18446744073709551616) (h3 : 0 ≤ y) (h4 : y < 2 ^ i) (h5 : y < 18446744073709551616) : bits .or .u64 x y = x + y :=
  bits_join .u64 64 (by decide) wraps_u64 i x y h0 h1 h2 h3 h4 h5
theorem or0 (y : Int) (h3 : 0 ≤ y) (h5 : y < 18446744073709551616) : bits .or .u64 0 y = y := by
  rw [bits_join .u64 64 (by decide) wraps_u64 64 0 y (by decide) (by decide) (by decide) h3 h5 h5]; omega
theorem num1 (x0 : Nat) (b0 : x0 < 256) : (bits .or .u64 0 (x0 : Int)) = ((natB [x0] : Nat) : Int) := by
  rw [or0 ((x0 : Int)) (by omega) (by omega)]
  simp only [natB, List.foldl]
  omega
theorem num2 (x0 x1 : Nat) (b0 : x0 < 256) (b1 : x1 < 256) : (bits .or .u64 (bits .or .u64 0 ((x0 : Int) * 256)) (x1 : Int)) = ((natB [x0, x1] : Nat) : Int) := by
  rw [or0 (((x0 : Int) * 256)) (by omega) (by omega), orJ 8 (((x0 : Int) * 256)) ((x1 : Int)) (by omega) (by omega) (by omega) (by omega) (by omega) (by omega)]
  simp only [natB, List.foldl]
  omega
theorem num4 (x0 x1 x2 x3 : Nat) (b0 : x0 < 256) (b1 : x1 < 256) (b2 : x2 < 256) (b3 : x3 < 256) : (bits .or .u64 (bits .or .u64 (bits .or .u64 0 (bits .or .u64 ((x0 : Int) * 16777216) ((x1 : Int) * 65536))) ((x2 : Int) * 256)) (x3 : Int)) = ((natB [x0, x1, x2, x3] : Nat) : Int) := by
  rw [orJ 24 (((x0 : Int) * 16777216)) (((x1 : Int) * 65536)) (by omega) (by omega) (by omega) (by omega) (by omega) (by omega), or0 (((x0 : Int) * 16777216) + ((x1 : Int) * 65536)) (by omega) (by omega), orJ 16 (((x0 : Int) * 16777216) + ((x1 : Int) * 65536)) (((x2 : Int) * 256)) (by omega) (by omega) (by omega) (by omega) (by omega) (by omega), orJ 8 (((x0 : Int) * 16777216) + ((x1 : Int) * 65536) + ((x2 : Int) * 256)) ((x3 : Int)) (by omega) (by omega) (by omega) (by omega) (by omega) (by omega)]
  simp only [natB, List.foldl]
  omega
theorem num8 (x0 x1 x2 x3 x4 x5 x6 x7 : Nat) (b0 : x0 < 256) (b1 : x1 < 256) (b2 : x2 < 256) (b3 : x3 < 256) (b4 : x4 < 256) (b5 : x5 < 256) (b6 : x6 < 256) (b7 : x7 < 256) : (bits .or .u64 (bits .or .u64 (bits .or .u64 (bits .or .u64 0 (bits .or .u64 (bits .or .u64 (bits .or .u64 ((x0 : Int) * 72057594037927936) ((x1 : Int) * 281474976710656)) ((x2 : Int) * 1099511627776)) ((x3 : Int) * 4294967296))) (bits .or .u64 ((x4 : Int) * 16777216) ((x5 : Int) * 65536))) ((x6 : Int) * 256)) (x7 : Int)) = ((natB [x0, x1, x2, x3, x4, x5, x6, x7] : Nat) : Int) := by
  rw [orJ 56 (((x0 : Int) * 72057594037927936)) (((x1 : Int) * 281474976710656)) (by omega) (by omega) (by omega) (by omega) (by omega) (by omega), orJ 48 (((x0 : Int) * 72057594037927936) + ((x1 : Int) * 281474976710656)) (((x2 : Int) * 1099511627776)) (by omega) (by omega) (by omega) (by omega) (by omega) (by omega), orJ 40 (((x0 : Int) * 72057594037927936) + ((x1 : Int) * 281474976710656) + ((x2 : Int) * 1099511627776)) (((x3 : Int) * 4294967296)) (by omega) (by omega) (by omega) (by omega) (by omega) (by omega), or0 (((x0 : Int) * 72057594037927936) + ((x1 : Int) * 281474976710656) + ((x2 : Int) * 1099511627776) + ((x3 : Int) * 4294967296)) (by omega) (by omega), orJ 24 (((x4 : Int) * 16777216)) (((x5 : Int) * 65536)) (by omega) (by omega) (by omega) (by omega) (by omega) (by omega), orJ 32 (((x0 : Int) * 72057594037927936) + ((x1 : Int) * 281474976710656) + ((x2 : Int) * 1099511627776) + ((x3 : Int) * 4294967296)) (((x4 : Int) * 16777216) + ((x5 : Int) * 65536)) (by omega) (by omega) (by omega) (by omega) (by omega) (by omega), orJ 16 (((x0 : Int) * 72057594037927936) + ((x1 : Int) * 281474976710656) + ((x2 : Int) * 1099511627776) + ((x3 : Int) * 4294967296) + (((x4 : Int) * 16777216) + ((x5 : Int) * 65536))) (((x6 : Int) * 256)) (by omega) (by omega) (by omega) (by omega) (by omega) (by omega), orJ 8 (((x0 : Int) * 72057594037927936) + ((x1 : Int) * 281474976710656) + ((x2 : Int) * 1099511627776) + ((x3 : Int) * 4294967296) + (((x4 : Int) * 16777216) + ((x5 : Int) * 65536)) + ((x6 : Int) * 256)) ((x7 : Int)) (by omega) (by omega) (by omega) (by omega) (by omega) (by omega)]
  simp only [natB, List.foldl]
  omega
end Go.Proofs.Ytmnaccojekojkaa
