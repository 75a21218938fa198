/- Heads of CBOR by themselves: their bytes, what is got from bytes. -/
import Derived.Test.YtmnaccojekojkaaV3
import Derived.Laws.BytesArg
import Derived.Laws.BitsLemmas
namespace Go.Proofs.Ytmnaccojekojkaa
open Go.RowKit
set_option linter.unusedVariables false
set_option linter.unusedSimpArgs false

/-- The info of a number. -/
def infoN (n : Nat) : Nat := if n < 24 then n else if n < 256 then 24 else if n < 65536 then 25 else if n < 4294967296 then 26 else 27
/-- The bytes of a number behind a head's first one. -/
def tailN (n : Nat) : List Nat :=
  if n < 24 then [] else if n < 256 then [n] else if n < 65536 then [n / 256, n % 256]
  else if n < 4294967296 then [n / 16777216, n / 65536 % 256, n / 256 % 256, n % 256]
  else [n / 72057594037927936, n / 281474976710656 % 256, n / 1099511627776 % 256, n / 4294967296 % 256, n / 16777216 % 256, n / 65536 % 256, n / 256 % 256, n % 256]
/-- The head of a number. -/
def hd (m n : Nat) : List Nat := (m * 32 + infoN n) :: tailN n
/-- Bytes as values. -/
def bv (l : List Nat) : List Value := l.map fun (x : Nat) => Value.int .u8 (x : Int)
theorem bv_len (l : List Nat) : (bv l).length = l.length := by simp [bv]
theorem bv_app (l k : List Nat) : bv (l ++ k) = bv l ++ bv k := by simp [bv]
theorem bv_one (l : List Nat) : ∀ v ∈ bv l, v.oneCell' = true := by
  intro v hv; simp only [bv, List.mem_map] at hv; obtain ⟨s, _, rfl⟩ := hv; rfl
theorem bv_get (l : List Nat) (i : Nat) (hi : i < l.length) : (bv l)[i]? = some (.int .u8 ((l.getD i 0 : Nat) : Int)) := by
  simp [bv, List.getD, hi]
theorem bv_take (l : List Nat) (k : Nat) : (bv l).take k = bv (l.take k) := by simp [bv, List.map_take]
theorem bv_drop (l : List Nat) (k : Nat) : (bv l).drop k = bv (l.drop k) := by simp [bv, List.map_drop]
/-- A number out of bytes. -/
def natB (l : List Nat) : Nat := l.foldl (fun a x => a * 256 + x) 0
/-- How many bytes stand behind a first one. -/
def sizeN (i : Nat) : Option Nat := if i < 24 ∨ i = 31 then some 0 else if i ≤ 27 then some (2 ^ (i - 24)) else none
/-- What is got. -/
def getN (l : List Nat) (k : Int) : Nat × Nat × Nat × Nat × Nat :=
  if k < 0 ∨ (l.length : Int) < k then (0, 0, 0, 0, 1)
  else if k = l.length then (0, 0, 0, 0, 2)
  else match sizeN (l.getD k.toNat 0 % 32) with
    | none => (0, 0, 0, 0, 2)
    | some s => if l.length - k.toNat - 1 < s then (0, 0, 0, 0, 2)
      else (l.getD k.toNat 0 / 32, l.getD k.toNat 0 % 32, if l.getD k.toNat 0 % 32 < 24 then l.getD k.toNat 0 % 32 else natB ((l.drop (k.toNat + 1)).take s), k.toNat + 1 + s, 0)
def tup (g : Nat × Nat × Nat × Nat × Nat) : Value := .tuple #[.int .i64 (g.1 : Int), .int .i64 (g.2.1 : Int), .int .u64 (g.2.2.1 : Int), .int .i64 (g.2.2.2.1 : Int), .int .i64 (g.2.2.2.2 : Int)]
theorem infoN_le (n : Nat) : infoN n ≤ 27 := by unfold infoN; split <;> (try split) <;> (try split) <;> (try split) <;> omega

theorem u64_wrap (n : Int) (h0 : 0 ≤ n) (h : n < 18446744073709551616) : IntKind.u64.wrap n = n := by
  rw [IntKind.wrap_u64]; omega
theorem rd_new (w : World) (e : TypeId) (vs : List Value) : RdV (w.alloc (.cells vs.toArray e)) (some ⟨w.heap.size, 0, none⟩) vs := by
  have h : BlkV (w.alloc (.cells vs.toArray e)) w.heap.size e vs := by unfold BlkV; rw [heap_alloc_new]
  exact h.all
theorem info_u8 : (Try.prog.info? 5).map (fun i => (i.zero, i.size, i.bytes)) = some (some (.int .u8 0), 1, 1) := by kernel_rfl
theorem zero_u8 (k : Nat) : Builtin.zeroCells (Value.cells (.int .u8 0)) k = (List.replicate k (Value.int .u8 0)).toArray := by
  apply Array.ext'
  simp only [Builtin.zeroCells]
  apply List.ext_getElem
  · simp [Value.cells]
  · intro i h1 h2; simp [Value.cells, Nat.mod_one]

end Go.Proofs.Ytmnaccojekojkaa
