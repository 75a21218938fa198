/- Heads of MessagePack by themselves: their bytes, what is got from bytes, and that what is put is got. -/
import Derived.Test.YtmnaccojekojkaaHc
namespace Go.Proofs.Ytmnaccojekojkaa
open Go.RowKit Go.Lib
set_option linter.unusedVariables false
set_option linter.unusedSimpArgs false
/-- Which of 1, 2, 4, 8 bytes are the first with room. -/
def stepN (n : Nat) : Nat := if n < 256 then 0 else if n < 65536 then 1 else if n < 4294967296 then 2 else 3
theorem stepN_0 {n : Nat} (h : n < 256) : stepN n = 0 := by unfold stepN; rw [if_pos h]
theorem stepN_1 {n : Nat} (h0 : 256 ≤ n) (h : n < 65536) : stepN n = 1 := by unfold stepN; rw [if_neg (by omega), if_pos h]
theorem stepN_2 {n : Nat} (h0 : 65536 ≤ n) (h : n < 4294967296) : stepN n = 2 := by unfold stepN; rw [if_neg (by omega), if_neg (by omega), if_pos h]
theorem stepN_3 {n : Nat} (h0 : 4294967296 ≤ n) : stepN n = 3 := by unfold stepN; rw [if_neg (by omega), if_neg (by omega), if_neg (by omega)]
theorem stepN_le (n : Nat) : stepN n ≤ 3 := by unfold stepN; split <;> (try split) <;> (try split) <;> omega
theorem stepN_ge (n : Nat) (hn : n < 18446744073709551616) : n < 256 ^ 2 ^ stepN n := by
  unfold stepN
  by_cases h0 : n < 256
  · rw [if_pos h0]; simpa using h0
  rw [if_neg h0]
  by_cases h1 : n < 65536
  · rw [if_pos h1]; simpa using h1
  rw [if_neg h1]
  by_cases h2 : n < 4294967296
  · rw [if_pos h2]; simpa using h2
  rw [if_neg h2]; simpa using hn
/-- The steps of a number, one by one. -/
theorem stepN_cases (n : Nat) : stepN n = 0 ∨ stepN n = 1 ∨ stepN n = 2 ∨ stepN n = 3 := by have := stepN_le n; omega
/-- A head's first byte, and how many bytes of the number stand behind it. -/
def mlay (kind : Nat) (n : Nat) : Nat × Nat :=
  if kind = 1 then (192, 0) else if kind = 2 then (194, 0) else if kind = 3 then (195, 0)
  else if kind = 12 then (202, 4) else if kind = 6 then (203, 8)
  else if kind = 7 then (if n % 4294967296 < 32 then (160 + n % 4294967296, 0) else (217 + stepN (n % 4294967296), 2 ^ stepN (n % 4294967296)))
  else if kind = 8 then (196 + stepN (n % 4294967296), 2 ^ stepN (n % 4294967296))
  else if kind = 9 then (if n % 4294967296 < 16 then (144 + n % 4294967296, 0) else (219 + max (stepN (n % 4294967296)) 1, 2 ^ max (stepN (n % 4294967296)) 1))
  else if kind = 10 then (if n % 4294967296 < 16 then (128 + n % 4294967296, 0) else (221 + max (stepN (n % 4294967296)) 1, 2 ^ max (stepN (n % 4294967296)) 1))
  else if kind = 5 ∧ 9223372036854775808 ≤ n then
    (if 18446744073709551584 ≤ n then (n % 256, 0) else (208 + stepN ((18446744073709551615 - n) * 2), 2 ^ stepN ((18446744073709551615 - n) * 2)))
  else (if n < 128 then (n, 0) else (204 + stepN n, 2 ^ stepN n))
/-- A head's bytes. -/
def mput (kind : Int) (n : Nat) : List Nat :=
  if kind = 11 ∨ kind < 1 ∨ 12 < kind then [] else (mlay kind.toNat n).1 :: be (mlay kind.toNat n).2 n
/-- The kind that a first byte tells. -/
def kindB (f : Nat) : Nat :=
  if f < 128 then 4 else if f < 144 then 10 else if f < 160 then 9 else if f < 192 then 7 else if 224 ≤ f then 5
  else [1, 0, 2, 3, 8, 8, 8, 11, 11, 11, 12, 6, 4, 4, 4, 4, 5, 5, 5, 5, 11, 11, 11, 11, 11, 7, 7, 7, 9, 9, 10, 10].getD (f - 192) 0
/-- How many bytes of a number stand behind it. -/
def sizeB (f : Nat) : Nat :=
  if f < 192 ∨ 224 ≤ f then 0
  else [0, 0, 0, 0, 1, 2, 4, 1, 2, 4, 4, 8, 1, 2, 4, 8, 1, 2, 4, 8, 0, 0, 0, 0, 0, 1, 2, 4, 2, 4, 2, 4].getD (f - 192) 0
/-- The number that it tells alone. -/
def shortB (f : Nat) : Nat :=
  if f < 128 then f else if f < 144 then f - 128 else if f < 160 then f - 144 else if f < 192 then f - 160
  else if 224 ≤ f then 18446744073709551360 + f else if 212 ≤ f ∧ f ≤ 216 then 2 ^ (f - 212) else 0
def moreB (f : Nat) : Nat := if kindB f = 11 then 1 else 0
/-- The number that bytes are. -/
def numB (kind : Nat) (L : List Nat) : Nat := if kind = 5 ∧ 127 < L.getD 0 0 then 18446744073709551616 - 256 ^ L.length + natB L else natB L
/-- What is got. -/
def getM (l : List Nat) (k : Int) : Nat × Nat × Nat × Nat :=
  if k < 0 ∨ (l.length : Int) < k then (0, 0, 0, 1)
  else if k = l.length then (0, 0, 0, 2)
  else if l.getD k.toNat 0 = 193 then (0, 0, 0, 3)
  else if l.length < k.toNat + 1 + sizeB (l.getD k.toNat 0) + moreB (l.getD k.toNat 0) then (0, 0, 0, 2)
  else (kindB (l.getD k.toNat 0), if sizeB (l.getD k.toNat 0) = 0 then shortB (l.getD k.toNat 0) else numB (kindB (l.getD k.toNat 0)) ((l.drop (k.toNat + 1)).take (sizeB (l.getD k.toNat 0))), k.toNat + 1 + sizeB (l.getD k.toNat 0) + moreB (l.getD k.toNat 0), 0)
def tup4 (g : Nat × Nat × Nat × Nat) : Value := .tuple #[.int .i64 (g.1 : Int), .int .u64 (g.2.1 : Int), .int .i64 (g.2.2.1 : Int), .int .i64 (g.2.2.2 : Int)]
theorem getM_in (l : List Nat) (k f : Nat) (hk : k < l.length) (hf : l.getD k 0 = f) : getM l (k : Int) =
    if f = 193 then (0, 0, 0, 3) else if l.length < k + 1 + sizeB f + moreB f then (0, 0, 0, 2)
    else (kindB f, if sizeB f = 0 then shortB f else numB (kindB f) ((l.drop (k + 1)).take (sizeB f)), k + 1 + sizeB f + moreB f, 0) := by
  unfold getM
  rw [if_neg (by omega), if_neg (by omega)]
  simp only [Int.toNat_natCast, hf]
theorem f32 (f : Nat) (h0 : 192 ≤ f) (h1 : f < 224) : ∃ j, f = 192 + j ∧ j < 32 := ⟨f - 192, by omega, by omega⟩
theorem sizeB_le (f : Nat) : sizeB f ≤ 8 := by
  unfold sizeB
  split
  · omega
  · next hn =>
    obtain ⟨j, rfl, hj⟩ := f32 f (by omega) (by omega)
    rw [Nat.add_sub_cancel_left]
    clear hn
    revert hj; revert j
    decide
theorem sizeB_five (f : Nat) : sizeB f = 0 ∨ sizeB f = 1 ∨ sizeB f = 2 ∨ sizeB f = 4 ∨ sizeB f = 8 := by
  unfold sizeB
  split
  · exact .inl rfl
  · next hn =>
    obtain ⟨j, rfl, hj⟩ := f32 f (by omega) (by omega)
    rw [Nat.add_sub_cancel_left]
    clear hn
    revert hj; revert j
    decide
set_option maxRecDepth 100000 in
theorem kindB_0 (f : Nat) (hf : f < 256) : kindB f = 0 ↔ f = 193 := by
  revert hf; revert f; decide
/-- What a head's first byte must tell for its number to be got. -/
structure Lays (k x f S : Nat) : Prop where
  kd : kindB f = k
  sz : sizeB f = S
  lt : f < 256
  sh : S = 0 → shortB f = x
  nm : S ≠ 0 → numB k (be S x) = x
theorem numB_be (k S x : Nat) (hk : k ≠ 5) (hx : x < 256 ^ S) : numB k (be S x) = x := by
  unfold numB
  rw [if_neg (fun h => hk h.1), natB_be, Nat.mod_eq_of_lt hx]
theorem numB_below (S x : Nat) (h5 : S = 1 ∨ S = 2 ∨ S = 4 ∨ S = 8) (hx : x < 18446744073709551616) (h : (18446744073709551615 - x) * 2 < 256 ^ S) : numB 5 (be S x) = x := by
  unfold numB
  rw [natB_be, be_len]
  rcases h5 with rfl | rfl | rfl | rfl
  · simp only [be, List.getD_cons_zero, Nat.reducePow] at *; rw [if_pos ⟨trivial, by omega⟩]; omega
  · simp only [be, List.getD_cons_zero, Nat.reducePow] at *; rw [if_pos ⟨trivial, by omega⟩]; omega
  · simp only [be, List.getD_cons_zero, Nat.reducePow] at *; rw [if_pos ⟨trivial, by omega⟩]; omega
  · simp only [be, List.getD_cons_zero, Nat.reducePow] at *; rw [if_pos ⟨trivial, by omega⟩]; omega
theorem tab_step (k a : Nat) (s : Nat) (hs : s ≤ 3) (h : (k = 4 ∧ a = 204) ∨ (k = 5 ∧ a = 208)) : kindB (a + s) = k ∧ sizeB (a + s) = 2 ^ s := by
  rcases h with ⟨rfl, rfl⟩ | ⟨rfl, rfl⟩ <;> (have : s = 0 ∨ s = 1 ∨ s = 2 ∨ s = 3 := by omega) <;> rcases this with rfl | rfl | rfl | rfl <;> exact ⟨rfl, rfl⟩
theorem tab_step3 (k a : Nat) (s : Nat) (hs : s ≤ 2) (h : (k = 7 ∧ a = 217) ∨ (k = 8 ∧ a = 196)) : kindB (a + s) = k ∧ sizeB (a + s) = 2 ^ s := by
  rcases h with ⟨rfl, rfl⟩ | ⟨rfl, rfl⟩ <;> (have : s = 0 ∨ s = 1 ∨ s = 2 := by omega) <;> rcases this with rfl | rfl | rfl <;> exact ⟨rfl, rfl⟩
theorem tab_step2 (k a : Nat) (s : Nat) (hs : s ≤ 2) (h : (k = 9 ∧ a = 219) ∨ (k = 10 ∧ a = 221)) : kindB (a + max s 1) = k ∧ sizeB (a + max s 1) = 2 ^ max s 1 := by
  rcases h with ⟨rfl, rfl⟩ | ⟨rfl, rfl⟩ <;> (have : s = 0 ∨ s = 1 ∨ s = 2 := by omega) <;> rcases this with rfl | rfl | rfl <;> exact ⟨rfl, rfl⟩
theorem step32 (n : Nat) (h : n < 4294967296) : stepN n ≤ 2 := by
  unfold stepN; split <;> (try split) <;> (try split) <;> omega
theorem pow2_ne (s : Nat) : 2 ^ s ≠ 0 := Nat.ne_of_gt (Nat.pow_pos (by decide))
theorem max_pow {x s : Nat} (h : x < 256 ^ 2 ^ s) : x < 256 ^ 2 ^ max s 1 :=
  Nat.lt_of_lt_of_le h (Nat.pow_le_pow_right (by decide) (Nat.pow_le_pow_right (by decide) (Nat.le_max_left _ _)))
/-- What the law puts. -/
def okX (k x : Nat) : Prop :=
  ((k = 1 ∨ k = 2 ∨ k = 3) → x = 0) ∧ (k = 5 → 9223372036854775808 ≤ x) ∧ ((k = 7 ∨ k = 8 ∨ k = 9 ∨ k = 10 ∨ k = 12) → x < 4294967296) ∧ x < 18446744073709551616
theorem mlay_lays (k x : Nat) (hk : 1 ≤ k ∧ k ≤ 12 ∧ k ≠ 11) (h : okX k x) : Lays k x (mlay k x).1 (mlay k x).2 := by
  obtain ⟨h1, h5, h7, hx⟩ := h
  have hc : k = 1 ∨ k = 2 ∨ k = 3 ∨ k = 12 ∨ k = 6 ∨ k = 7 ∨ k = 8 ∨ k = 9 ∨ k = 10 ∨ k = 5 ∨ k = 4 := by omega
  rcases hc with rfl | rfl | rfl | rfl | rfl | rfl | rfl | rfl | rfl | rfl | rfl
  · obtain rfl := h1 (by omega)
    rw [show mlay 1 0 = (192, 0) by simp [mlay]]
    exact ⟨by decide, by decide, by decide, fun _ => by decide, fun h => absurd rfl h⟩
  · obtain rfl := h1 (by omega)
    rw [show mlay 2 0 = (194, 0) by simp [mlay]]
    exact ⟨by decide, by decide, by decide, fun _ => by decide, fun h => absurd rfl h⟩
  · obtain rfl := h1 (by omega)
    rw [show mlay 3 0 = (195, 0) by simp [mlay]]
    exact ⟨by decide, by decide, by decide, fun _ => by decide, fun h => absurd rfl h⟩
  · have := h7 (by omega)
    rw [show mlay 12 x = (202, 4) by simp [mlay]]
    exact ⟨by decide, by decide, by decide, (fun h => by cases h), fun _ => numB_be _ _ _ (by decide) (by simpa using this)⟩
  · rw [show mlay 6 x = (203, 8) by simp [mlay]]
    exact ⟨by decide, by decide, by decide, (fun h => by cases h), fun _ => numB_be _ _ _ (by decide) (by simpa using hx)⟩
  · have hs := h7 (by omega)
    have hm : x % 4294967296 = x := Nat.mod_eq_of_lt hs
    have h2 := step32 x hs
    have e : mlay 7 x = if x < 32 then (160 + x, 0) else (217 + stepN x, 2 ^ stepN x) := by simp [mlay, hm]
    rw [e]
    by_cases g : x < 32
    · rw [if_pos g]
      refine ⟨?_, ?_, by omega, fun _ => ?_, fun h => absurd rfl h⟩
      · show kindB (160 + x) = 7
        unfold kindB; rw [if_neg (by omega), if_neg (by omega), if_neg (by omega), if_pos (by omega)]
      · show sizeB (160 + x) = 0
        unfold sizeB; rw [if_pos (by omega)]
      · show shortB (160 + x) = x
        unfold shortB; rw [if_neg (by omega), if_neg (by omega), if_neg (by omega), if_pos (by omega)]; omega
    · rw [if_neg g]
      have ht := tab_step3 7 217 (stepN x) h2 (.inl ⟨rfl, rfl⟩)
      exact ⟨ht.1, ht.2, by show 217 + stepN x < 256; omega, (fun h => absurd h (pow2_ne _)), fun _ => numB_be _ _ _ (by decide) (stepN_ge x hx)⟩
  · have hs := h7 (by omega)
    have hm : x % 4294967296 = x := Nat.mod_eq_of_lt hs
    have h2 := step32 x hs
    have e : mlay 8 x = (196 + stepN x, 2 ^ stepN x) := by simp [mlay, hm]
    rw [e]
    have ht := tab_step3 8 196 (stepN x) h2 (.inr ⟨rfl, rfl⟩)
    exact ⟨ht.1, ht.2, by show 196 + stepN x < 256; omega, (fun h => absurd h (pow2_ne _)), fun _ => numB_be _ _ _ (by decide) (stepN_ge x hx)⟩
  · have hs := h7 (by omega)
    have hm : x % 4294967296 = x := Nat.mod_eq_of_lt hs
    have h2 := step32 x hs
    have e : mlay 9 x = if x < 16 then (144 + x, 0) else (219 + max (stepN x) 1, 2 ^ max (stepN x) 1) := by simp [mlay, hm]
    rw [e]
    by_cases g : x < 16
    · rw [if_pos g]
      refine ⟨?_, ?_, by omega, fun _ => ?_, fun h => absurd rfl h⟩
      · show kindB (144 + x) = 9
        unfold kindB; rw [if_neg (by omega), if_neg (by omega), if_pos (by omega)]
      · show sizeB (144 + x) = 0
        unfold sizeB; rw [if_pos (by omega)]
      · show shortB (144 + x) = x
        unfold shortB; rw [if_neg (by omega), if_neg (by omega), if_pos (by omega)]; omega
    · rw [if_neg g]
      have ht := tab_step2 9 219 (stepN x) h2 (.inl ⟨rfl, rfl⟩)
      exact ⟨ht.1, ht.2, by show 219 + max (stepN x) 1 < 256; omega, (fun h => absurd h (pow2_ne _)), fun _ => numB_be _ _ _ (by decide) (max_pow (stepN_ge x hx))⟩
  · have hs := h7 (by omega)
    have hm : x % 4294967296 = x := Nat.mod_eq_of_lt hs
    have h2 := step32 x hs
    have e : mlay 10 x = if x < 16 then (128 + x, 0) else (221 + max (stepN x) 1, 2 ^ max (stepN x) 1) := by simp [mlay, hm]
    rw [e]
    by_cases g : x < 16
    · rw [if_pos g]
      refine ⟨?_, ?_, by omega, fun _ => ?_, fun h => absurd rfl h⟩
      · show kindB (128 + x) = 10
        unfold kindB; rw [if_neg (by omega), if_pos (by omega)]
      · show sizeB (128 + x) = 0
        unfold sizeB; rw [if_pos (by omega)]
      · show shortB (128 + x) = x
        unfold shortB; rw [if_neg (by omega), if_pos (by omega)]; omega
    · rw [if_neg g]
      have ht := tab_step2 10 221 (stepN x) h2 (.inr ⟨rfl, rfl⟩)
      exact ⟨ht.1, ht.2, by show 221 + max (stepN x) 1 < 256; omega, (fun h => absurd h (pow2_ne _)), fun _ => numB_be _ _ _ (by decide) (max_pow (stepN_ge x hx))⟩
  · have hs := h5 rfl
    have e : mlay 5 x = if 18446744073709551584 ≤ x then (x % 256, 0) else (208 + stepN ((18446744073709551615 - x) * 2), 2 ^ stepN ((18446744073709551615 - x) * 2)) := by
      simp [mlay, hs]
    rw [e]
    by_cases g : 18446744073709551584 ≤ x
    · rw [if_pos g]
      refine ⟨?_, ?_, Nat.mod_lt _ (by decide), fun _ => ?_, fun h => absurd rfl h⟩
      · show kindB (x % 256) = 5
        unfold kindB; rw [if_neg (by omega), if_neg (by omega), if_neg (by omega), if_neg (by omega), if_pos (by omega)]
      · show sizeB (x % 256) = 0
        unfold sizeB; rw [if_pos (by omega)]
      · show shortB (x % 256) = x
        unfold shortB; rw [if_neg (by omega), if_neg (by omega), if_neg (by omega), if_neg (by omega), if_pos (by omega)]; omega
    · rw [if_neg g]
      have hle := stepN_le ((18446744073709551615 - x) * 2)
      have hge := stepN_ge ((18446744073709551615 - x) * 2) (by omega)
      have ht := tab_step 5 208 (stepN ((18446744073709551615 - x) * 2)) hle (.inr ⟨rfl, rfl⟩)
      have h4 := stepN_cases ((18446744073709551615 - x) * 2)
      generalize stepN ((18446744073709551615 - x) * 2) = s at *
      refine ⟨ht.1, ht.2, by show 208 + s < 256; omega, (fun h => absurd h (pow2_ne _)), fun _ => numB_below _ x ?_ hx hge⟩
      rcases h4 with rfl | rfl | rfl | rfl <;> decide
  · have e : mlay 4 x = if x < 128 then (x, 0) else (204 + stepN x, 2 ^ stepN x) := by simp [mlay]
    rw [e]
    by_cases g : x < 128
    · rw [if_pos g]
      refine ⟨?_, ?_, by omega, fun _ => ?_, fun h => absurd rfl h⟩
      · show kindB x = 4
        unfold kindB; rw [if_pos g]
      · show sizeB x = 0
        unfold sizeB; rw [if_pos (by omega)]
      · show shortB x = x
        unfold shortB; rw [if_pos g]
    · rw [if_neg g]
      have ht := tab_step 4 204 (stepN x) (stepN_le x) (.inl ⟨rfl, rfl⟩)
      exact ⟨ht.1, ht.2, by show 204 + stepN x < 256; have := stepN_le x; omega, (fun h => absurd h (pow2_ne _)), fun _ => numB_be _ _ _ (by decide) (stepN_ge x hx)⟩
theorem be_0 (x : Nat) : be 0 x = [] := rfl
/-- What is put is got. -/
theorem getM_back (k x f S : Nat) (h : Lays k x f S) (hk : k ≠ 0 ∧ k ≠ 11) : getM (7 :: 7 :: f :: be S x) ((2 : Nat) : Int) = (k, x, 3 + S, 0) := by
  rw [getM_in _ 2 f (by simp) rfl]
  have hm : moreB f = 0 := by unfold moreB; rw [h.kd, if_neg hk.2]
  have h193 : f ≠ 193 := fun e => hk.1 (by rw [← h.kd]; exact (kindB_0 f h.lt).2 e)
  rw [if_neg h193, hm, h.sz]
  simp only [List.length_cons, be_len]
  rw [if_neg (by omega), h.kd]
  have hd2 : (7 :: 7 :: f :: be S x).drop (2 + 1) = be S x := rfl
  rw [hd2, List.take_of_length_le (by rw [be_len]; exact Nat.le_refl _)]
  by_cases h0 : S = 0
  · rw [if_pos h0, h.sh h0, show 2 + 1 + S + 0 = 3 + S by omega]
  · rw [if_neg h0, h.nm h0, show 2 + 1 + S + 0 = 3 + S by omega]
theorem getM_cut (k x f S : Nat) (h : Lays k x f S) (hk : k ≠ 0 ∧ k ≠ 11) : getM ((7 :: 7 :: f :: be S x).take (2 + S)) ((2 : Nat) : Int) = (0, 0, 0, 2) := by
  have hlen : ((7 :: 7 :: f :: be S x).take (2 + S)).length = 2 + S := by rw [List.length_take]; simp [be_len]; omega
  by_cases h0 : S = 0
  · subst h0
    unfold getM
    rw [hlen, if_neg (by omega), if_pos (by omega)]
  · have hf : ((7 :: 7 :: f :: be S x).take (2 + S)).getD 2 0 = f := by
      obtain ⟨j, rfl⟩ : ∃ j, S = j + 1 := ⟨S - 1, by omega⟩
      rw [show 2 + (j + 1) = j + 1 + 1 + 1 by omega]
      rfl
    have h193 : f ≠ 193 := fun e => hk.1 (by rw [← h.kd]; exact (kindB_0 f h.lt).2 e)
    rw [getM_in _ 2 f (by rw [hlen]; omega) hf, if_neg h193, if_pos (by rw [hlen, h.sz]; omega)]
end Go.Proofs.Ytmnaccojekojkaa
