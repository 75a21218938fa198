/- The walks of package order's places, Sort and CBOR. -/
import Derived.Test.YtndjdmgncjiggaaQOw5
namespace Go.Proofs.Ytndjdmgncjiggaa
open Go.RowKit
set_option linter.unusedVariables false
set_option linter.unusedSimpArgs false

/-- A list's key at a place, as bytes. -/
def keyB (l : List ByteArray) (i : Nat) : List UInt8 := (l.getD i ByteArray.empty).toList
theorem keyB_def (l : List ByteArray) (i : Nat) : (l.getD i ByteArray.empty).toList = keyB l i := rfl

/-- The places as far as they are written. -/
def rangeT (n k : Nat) : List Nat := List.range k ++ List.replicate (n - k) 0
theorem rangeT_zero (n : Nat) : rangeT n 0 = List.replicate n 0 := by simp [rangeT]
theorem rangeT_all (n : Nat) : rangeT n n = List.range n := by simp [rangeT]
theorem rangeT_len {n k : Nat} (h : k ≤ n) : (rangeT n k).length = n := by simp [rangeT]; omega
theorem rangeT_set {n k : Nat} (h : k < n) : (rangeT n k).set k k = rangeT n (k + 1) := by
  unfold rangeT
  rw [List.set_append_right _ _ (by simp), List.length_range, Nat.sub_self, List.range_succ, List.append_assoc]
  congr 1
  obtain ⟨m, hm⟩ : ∃ m, n - k = m + 1 := ⟨n - k - 1, by omega⟩
  rw [hm, List.replicate_succ, List.set_cons_zero, show n - (k + 1) = m by omega]
  rfl
theorem SortPost.up {lt : List UInt8 → List UInt8 → Bool} {key : Nat → List UInt8} {n B B0 : Nat} {w wr w' : World} {e : Ending} (h : SortPost lt key n B0 wr e w') (hb : Below B w wr) (hB : B ≤ B0) : SortPost lt key n B w e w' := by
  obtain ⟨g, he, hg, hk, hw⟩ := h
  exact ⟨g, he, by omega, hk, hb.trans (hw.mono hB)⟩

set_option maxHeartbeats 2000000 in
theorem places_less (ad : Option Addr) (n cap : Nat) (l : List ByteArray) (w : World) (hn : l.length = n) (hcap : n ≤ cap) (hm : n ≤ 1000000) (hr : RdV w ad (sv l)) :
    Calls Try.prog 26 #[.slice ad n cap, .func (.func 18) #[] #[]] w (SortPost Op.bytesLess (keyB l) n w.heap.size w) := by
  obtain ⟨w2, hw2⟩ : ∃ w2, w2 = (w.alloc (.cells #[.slice ad n cap] 22)).alloc (.cells #[.func (.func 18) #[] #[]] 41) := ⟨_, rfl⟩
  have hb2 : Below w.heap.size w w2 := by rw [hw2]; exact ((Below.refl _ _).alloc (Nat.le_refl _) _).alloc (by simp) _
  have hz2 : w2.heap.size = w.heap.size + 1 + 1 := by rw [hw2]; simp
  have cl : w2.cell? ⟨w.heap.size, 0, none⟩ = some (.slice ad n cap) := by rw [hw2]; simp
  have ca : w2.cell? ⟨w.heap.size + 1, 0, none⟩ = some (.func (.func 18) #[] #[]) := by rw [hw2]; simp
  have HC : CmpOk Op.bytesLess (keyB l) n (w.heap.size + 1) w.heap.size (w.heap.size + 1 + 1) w2 := by
    intro W hW i j hi hj
    exact cmp_less i j n cap ad l (w.heap.size + 1) w.heap.size W (by omega) (by omega) hn hcap (by omega) (hr.on (hb2.trans (hW.mono (by omega)))) ((hW.cell (p := ⟨w.heap.size + 1, 0, none⟩) (by simp)).trans ca) ((hW.cell (p := ⟨w.heap.size, 0, none⟩) (by show w.heap.size < _; omega)).trans cl)
  have HCC := Lib.hid HC
  have HB2 := Lib.hid hb2
  have HZ2 := Lib.hid hz2
  clear HC hb2 hr hz2
  have HN := Lib.hid hn; clear hn
  have hmk := fun W => run_make_row' (P := Try.prog) 39 3 (.int .i64 0) 8 Try.underlying39 info_int rfl .i64 .i64 n (by omega) (by omega) W
  go_enter Try.func26, Try.ntmps26
  go_upto_region 2 with fail
  rw [← hw2]
  clear hw2 hmk cl ca
  have hst := made_blk w2 (.int .i64 0) n 3
  rw [rep_iv, ← rangeT_zero, HZ2.out] at hst
  have HST := Lib.hid hst; clear hst
  have HA := Lib.hid ((Below.refl (w.heap.size + 1 + 1) w2).alloc (by rw [HZ2.out]; exact Nat.le_refl _) (.cells (madeCells #[.int .i64 0] n) 3))
  go_wp2
  go_loopw [12] (fun i wr => ∃ k, k ≤ n ∧ i = .int .i64 ((k : Nat) : Int) ∧ BlkV wr (w.heap.size + 1 + 1) 3 ((rangeT n k).map iv) ∧ Below (w.heap.size + 1 + 1) w2 wr) (fun i _ => n - (intOf i).toNat)
  case atStart => exact ⟨0, Nat.zero_le _, rfl, HST.out, HA.out⟩
  case round =>
    obtain ⟨k, hk, rfl, hT, hbl⟩ := hrel
    have HT := Lib.hid hT; have HBL := Lib.hid hbl
    clear hT hbl
    by_cases hlt : k < n
    · have h1 : (k : Int) < (n : Int) := by omega
      have h2 : (0 : Int) ≤ (k : Int) := by omega
      have hf := HT.out.free k
      obtain ⟨z, hold⟩ : ∃ z : Nat, wr.cell? ⟨w.heap.size + 1 + 1, k, none⟩ = some (.int .i64 (z : Int)) := ⟨_, (HT.out.cell _).trans (iv_get _ _ (by rw [rangeT_len hk]; omega))⟩
      have hnew := HT.out.set k (.int .i64 (k : Int))
      rw [iv_set, rangeT_set hlt] at hnew
      have HNEW := Lib.hid hnew; clear hnew
      have HB3 := Lib.hid (HBL.out.setCell (p := ⟨w.heap.size + 1 + 1, k, none⟩) (Nat.le_refl _) (.int .i64 (k : Int)))
      go_wp2
      go_roundw
      case rel => exact ⟨k + 1, by omega, by go_num, HNEW.out, HB3.out⟩
      case measure => simp [intOf]; omega
    · obtain rfl : k = n := by omega
      have hz : ¬ (k : Int) < (k : Int) := by omega
      rw [rangeT_all] at HT
      have KM := Lib.hid (mergeSort_any sto_bytes HCC.out (w.heap.size + 1 + 1) wr (by omega) HT.out HBL.out (Nat.le_refl _) (by have := HBL.out.size; have := HZ2.out; omega))
      unfold cmpF at KM
      go_wp2_with fail
      refine KM.out.mono ?_
      rintro r w' hS
      obtain ⟨g, rfl, hg, hk2, hw⟩ := hS
      have HF := Lib.hid (show SortPost Op.bytesLess (keyB l) k w.heap.size w (.returned (.slice (some ⟨g, 0, none⟩) k k)) w' from ⟨g, rfl, by omega, hk2, HB2.out.trans ((HBL.out.trans hw).mono (by omega))⟩)
      clear hk2 hw
      go_wp2
      go_ret
      exact HF.out

set_option maxHeartbeats 2000000 in
theorem places_short (ad : Option Addr) (n cap : Nat) (l : List ByteArray) (w : World) (hn : l.length = n) (hcap : n ≤ cap) (hm : n ≤ 1000000) (hz : ∀ s ∈ l, s.size ≤ 1000000000) (hr : RdV w ad (sv l)) :
    Calls Try.prog 26 #[.slice ad n cap, .func (.func 28) #[] #[]] w (SortPost shortL (keyB l) n w.heap.size w) := by
  obtain ⟨w2, hw2⟩ : ∃ w2, w2 = (w.alloc (.cells #[.slice ad n cap] 22)).alloc (.cells #[.func (.func 28) #[] #[]] 41) := ⟨_, rfl⟩
  have hb2 : Below w.heap.size w w2 := by rw [hw2]; exact ((Below.refl _ _).alloc (Nat.le_refl _) _).alloc (by simp) _
  have hz2 : w2.heap.size = w.heap.size + 1 + 1 := by rw [hw2]; simp
  have cl : w2.cell? ⟨w.heap.size, 0, none⟩ = some (.slice ad n cap) := by rw [hw2]; simp
  have ca : w2.cell? ⟨w.heap.size + 1, 0, none⟩ = some (.func (.func 28) #[] #[]) := by rw [hw2]; simp
  have HC : CmpOk shortL (keyB l) n (w.heap.size + 1) w.heap.size (w.heap.size + 1 + 1) w2 := by
    intro W hW i j hi hj
    exact cmp_short i j n cap ad l (w.heap.size + 1) w.heap.size W (by omega) (by omega) hn hcap (by omega) hz (hr.on (hb2.trans (hW.mono (by omega)))) ((hW.cell (p := ⟨w.heap.size + 1, 0, none⟩) (by simp)).trans ca) ((hW.cell (p := ⟨w.heap.size, 0, none⟩) (by show w.heap.size < _; omega)).trans cl)
  have HCC := Lib.hid HC
  have HB2 := Lib.hid hb2
  have HZ2 := Lib.hid hz2
  clear HC hb2 hr hz hz2
  have HN := Lib.hid hn; clear hn
  have hmk := fun W => run_make_row' (P := Try.prog) 39 3 (.int .i64 0) 8 Try.underlying39 info_int rfl .i64 .i64 n (by omega) (by omega) W
  go_enter Try.func26, Try.ntmps26
  go_upto_region 2 with fail
  rw [← hw2]
  clear hw2 hmk cl ca
  have hst := made_blk w2 (.int .i64 0) n 3
  rw [rep_iv, ← rangeT_zero, HZ2.out] at hst
  have HST := Lib.hid hst; clear hst
  have HA := Lib.hid ((Below.refl (w.heap.size + 1 + 1) w2).alloc (by rw [HZ2.out]; exact Nat.le_refl _) (.cells (madeCells #[.int .i64 0] n) 3))
  go_wp2
  go_loopw [12] (fun i wr => ∃ k, k ≤ n ∧ i = .int .i64 ((k : Nat) : Int) ∧ BlkV wr (w.heap.size + 1 + 1) 3 ((rangeT n k).map iv) ∧ Below (w.heap.size + 1 + 1) w2 wr) (fun i _ => n - (intOf i).toNat)
  case atStart => exact ⟨0, Nat.zero_le _, rfl, HST.out, HA.out⟩
  case round =>
    obtain ⟨k, hk, rfl, hT, hbl⟩ := hrel
    have HT := Lib.hid hT; have HBL := Lib.hid hbl
    clear hT hbl
    by_cases hlt : k < n
    · have h1 : (k : Int) < (n : Int) := by omega
      have h2 : (0 : Int) ≤ (k : Int) := by omega
      have hf := HT.out.free k
      obtain ⟨z, hold⟩ : ∃ z : Nat, wr.cell? ⟨w.heap.size + 1 + 1, k, none⟩ = some (.int .i64 (z : Int)) := ⟨_, (HT.out.cell _).trans (iv_get _ _ (by rw [rangeT_len hk]; omega))⟩
      have hnew := HT.out.set k (.int .i64 (k : Int))
      rw [iv_set, rangeT_set hlt] at hnew
      have HNEW := Lib.hid hnew; clear hnew
      have HB3 := Lib.hid (HBL.out.setCell (p := ⟨w.heap.size + 1 + 1, k, none⟩) (Nat.le_refl _) (.int .i64 (k : Int)))
      go_wp2
      go_roundw
      case rel => exact ⟨k + 1, by omega, by go_num, HNEW.out, HB3.out⟩
      case measure => simp [intOf]; omega
    · obtain rfl : k = n := by omega
      have hz : ¬ (k : Int) < (k : Int) := by omega
      rw [rangeT_all] at HT
      have KM := Lib.hid (mergeSort_any sto_short HCC.out (w.heap.size + 1 + 1) wr (by omega) HT.out HBL.out (Nat.le_refl _) (by have := HBL.out.size; have := HZ2.out; omega))
      unfold cmpF at KM
      go_wp2_with fail
      refine KM.out.mono ?_
      rintro r w' hS
      obtain ⟨g, rfl, hg, hk2, hw⟩ := hS
      have HF := Lib.hid (show SortPost shortL (keyB l) k w.heap.size w (.returned (.slice (some ⟨g, 0, none⟩) k k)) w' from ⟨g, rfl, by omega, hk2, HB2.out.trans ((HBL.out.trans hw).mono (by omega))⟩)
      clear hk2 hw
      go_wp2
      go_ret
      exact HF.out

theorem sort_any (ad : Option Addr) (n cap : Nat) (l : List ByteArray) (w : World) (hn : l.length = n) (hcap : n ≤ cap) (hm : n ≤ 1000000) (hr : RdV w ad (sv l)) :
    Calls Try.prog 14 #[.slice ad n cap] w (SortPost Op.bytesLess (keyB l) n w.heap.size w) := by
  have K := Lib.hid (places_less ad n cap l w hn hcap hm hr)
  clear hn hr
  go_enter Try.func14, Try.ntmps14
  go_wp2_with fail
  refine K.out.mono ?_
  rintro r w' ⟨g, rfl, hg, hk, hw⟩
  have HF := Lib.hid (show SortPost Op.bytesLess (keyB l) n w.heap.size w (.returned (.slice (some ⟨g, 0, none⟩) n n)) w' from ⟨g, rfl, hg, hk, hw⟩)
  clear hk hw
  go_wp2
  go_ret
  exact HF.out
theorem cbor_any (ad : Option Addr) (n cap : Nat) (l : List ByteArray) (w : World) (hn : l.length = n) (hcap : n ≤ cap) (hm : n ≤ 1000000) (hz : ∀ s ∈ l, s.size ≤ 1000000000) (hr : RdV w ad (sv l)) :
    Calls Try.prog 16 #[.slice ad n cap] w (SortPost shortL (keyB l) n w.heap.size w) := by
  have K := Lib.hid (places_short ad n cap l w hn hcap hm hz hr)
  clear hn hr hz
  go_enter Try.func16, Try.ntmps16
  go_wp2_with fail
  refine K.out.mono ?_
  rintro r w' ⟨g, rfl, hg, hk, hw⟩
  have HF := Lib.hid (show SortPost shortL (keyB l) n w.heap.size w (.returned (.slice (some ⟨g, 0, none⟩) n n)) w' from ⟨g, rfl, hg, hk, hw⟩)
  clear hk hw
  go_wp2
  go_ret
  exact HF.out
end Go.Proofs.Ytndjdmgncjiggaa
