/- Walks: the document's example of layer 6; copies of lists of texts. -/
import Derived.Test.YtbaekknbnognmaaO7
import Derived.Laws.AppendOwnNone
namespace Go.Proofs.Ytbaekknbnognmaa
open Go.RowKit
set_option linter.unusedVariables false
set_option linter.unusedSimpArgs false

theorem lit_blk (w : World) (vs : List Value) (e : TypeId) (arr : Array Value) (h : arr = vs.toArray) : BlkV (w.alloc (.cells arr e)) w.heap.size e vs := by
  unfold BlkV; rw [heap_alloc_new, h]
/-- A law's answer. -/
def BoolBelow (b : Bool) (w : World) (e : Ending) (w' : World) : Prop := e = .returned (.bool b) ∧ Below w.heap.size w w'
theorem BoolBelow.mk {b : Bool} {w w' : World} {e : Ending} (h : e = .returned (.bool b)) (hb : Below w.heap.size w w') : BoolBelow b w e w' := ⟨h, hb⟩

def lits0 : List ByteArray := [⟨#[98]⟩, ⟨#[97]⟩, ⟨#[98]⟩]
def lits9 : List ByteArray := [⟨#[98, 98]⟩, ⟨#[99]⟩]
theorem keyB_data (l : List ByteArray) (i : Nat) : keyB l i = (l.getD i ByteArray.empty).data.toList := by
  unfold keyB; rw [ByteArray.toList_eq]
theorem sort0 : srt Op.bytesLess (keyB lits0) 0 3 = [1, 0, 2] := by
  refine (srt_unique sto_bytes _ _ _ _ (by decide) ?_).symm
  simp only [List.pairwise_cons, leI_iff, keyB_data]
  decide
theorem sort9 : srt shortL (keyB lits9) 0 2 = [1, 0] := by
  refine (srt_unique sto_short _ _ _ _ (by decide) ?_).symm
  simp only [List.pairwise_cons, leI_iff, keyB_data]
  decide
theorem less_ab : Op.bytesLess (ByteArray.mk #[97]).toList (ByteArray.mk #[97, 98]).toList = true := by
  rw [ByteArray.toList_eq, ByteArray.toList_eq]; decide

set_option maxHeartbeats 2000000 in
theorem awake_any (w : World) : Calls Try.prog 8 #[] w (BoolBelow true w) := by
  have hz0 : ∀ s ∈ lits9, s.size ≤ 1000000000 := by
    intro s hs
    simp only [lits9, List.mem_cons, List.not_mem_nil, or_false] at hs
    rcases hs with rfl | rfl <;> decide
  have K1 := Lib.hid (fun W g (h : BlkV W g 9 (sv lits0)) => sort_any (some ⟨g, 0, none⟩) 3 3 lits0 W rfl (Nat.le_refl _) (by decide) h.all)
  have K2 := Lib.hid (fun W g (h : BlkV W g 9 (sv lits9)) => cbor_any (some ⟨g, 0, none⟩) 2 2 lits9 W rfl (Nat.le_refl _) (by decide) hz0 h.all)
  have KS := Lib.hid (fun W g g' (xs : List Nat) n (hn : xs.length = n) (h9 : n ≤ 9) (h : BlkV W g 3 (xs.map iv)) (h' : BlkV W g' 3 (xs.map iv)) => sameInts_any (some ⟨g, 0, none⟩) n n xs (some ⟨g', 0, none⟩) n n xs W hn (by omega) h.all hn (by omega) h'.all (Nat.le_refl _) (Nat.le_refl _))
  have hb1 := Lib.hid ((Below.refl w.heap.size w).alloc (Nat.le_refl _) (.cells #[.string ⟨#[98]⟩, .string ⟨#[97]⟩, .string ⟨#[98]⟩] 9))
  clear hz0
  go_enter Try.func8, Try.ntmps8
  go_wp2_with fail
  refine (K1.out _ _ (lit_blk w (sv lits0) _ _ rfl)).mono ?_
  rintro r w1 ⟨g1, rfl, hg1, hk1, hw1⟩
  rw [sort0] at hk1
  have B1 := Lib.hid (hb1.out.trans (hw1.mono (by simp)))
  have HG := Lib.hid hk1.lt
  have HK1 := Lib.hid (hk1.below (B := w1.heap.size) ((Below.refl _ _).alloc (Nat.le_refl _) (.cells #[.int .i64 1, .int .i64 0, .int .i64 2] 3)) hk1.lt)
  have B2 := Lib.hid (below_on B1.out ((Below.refl _ w1).alloc (Nat.le_refl _) (.cells #[.int .i64 1, .int .i64 0, .int .i64 2] 3)))
  clear hg1 hk1 hw1 hb1
  go_wp2_with fail
  refine (KS.out _ _ _ [1, 0, 2] 3 rfl (by decide) HK1.out (lit_blk w1 _ _ _ rfl)).mono ?_
  rintro r w2 ⟨rfl, q2, rfl⟩
  have B3 := Lib.hid (below_drewN B2.out q2)
  clear HK1
  generalize hW : World.drewN _ q2 = W2 at B3 ⊢
  clear hW
  go_wp2_with fail
  refine (less_any _ _ _).mono ?_
  rintro r w3 ⟨rfl, rfl⟩
  rw [less_ab]
  go_wp2_with fail
  have B4 := Lib.hid (B3.out.alloc B3.out.size (.cells #[.string ⟨#[98, 98]⟩, .string ⟨#[99]⟩] 9))
  refine (K2.out _ _ (lit_blk W2 (sv lits9) _ _ rfl)).mono ?_
  rintro r w4 ⟨g4, rfl, hg4, hk4, hw4⟩
  rw [sort9] at hk4
  have B5 := Lib.hid (below_on B4.out hw4)
  have HK4 := Lib.hid (hk4.below (B := w4.heap.size) ((Below.refl _ _).alloc (Nat.le_refl _) (.cells #[.int .i64 1, .int .i64 0] 3)) hk4.lt)
  have B6 := Lib.hid (B5.out.alloc B5.out.size (.cells #[.int .i64 1, .int .i64 0] 3))
  clear hg4 hk4 hw4
  go_wp2_with fail
  refine (KS.out _ _ _ [1, 0] 2 rfl (by decide) HK4.out (lit_blk w4 _ _ _ rfl)).mono ?_
  rintro r w5 ⟨rfl, q5, rfl⟩
  have B7 := Lib.hid (below_drewN B6.out q5)
  generalize hW : World.drewN _ q5 = W5 at B7 ⊢
  clear hW
  go_wp2
  go_ret
  exact BoolBelow.mk (by simp) B7.out
end Go.Proofs.Ytbaekknbnognmaa
