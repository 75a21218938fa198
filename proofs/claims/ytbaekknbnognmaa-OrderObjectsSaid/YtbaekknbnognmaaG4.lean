/- The walk of the reference's Same: two texts; two objects of the same names and texts. -/
import Derived.Test.YtbaekknbnognmaaG3
import Derived.Test.YtbaekknbnognmaaV3
import Derived.Deep.RegionHeldLaw
namespace Go.Proofs.Ytbaekknbnognmaa
open Go.RowKit
set_option linter.unusedVariables false
set_option linter.unusedSimpArgs false

/-- Two boxes that a call lays for its trees. -/
def box2 (w : World) (a b : Cel) : World := (w.alloc (.cells a.cells.toArray 31)).alloc (.cells b.cells.toArray 31)
theorem box2_below (w : World) (a b : Cel) : Below w.heap.size w (box2 w a b) := ((Below.refl _ _).alloc (Nat.le_refl _) _).alloc (by simp) _
theorem box2_a (w : World) (a b : Cel) : BlkV (box2 w a b) w.heap.size 31 a.cells :=
  (lit_blk w a.cells 31 _ rfl).below (B := (w.alloc (.cells a.cells.toArray 31)).heap.size) ((Below.refl _ _).alloc (Nat.le_refl _) _) (by simp)
theorem box2_b (w : World) (a b : Cel) : BlkV (box2 w a b) (w.heap.size + 1) 31 b.cells := by
  have := lit_blk (w.alloc (.cells a.cells.toArray 31)) b.cells 31 _ rfl
  rw [show (w.alloc (.cells a.cells.toArray 31)).heap.size = w.heap.size + 1 by simp] at this
  exact this
set_option maxHeartbeats 1000000 in
theorem same_text (s t : ByteArray) (w : World) (h : s.toList = t.toList) :
    Calls Try.prog 25 #[(textC s).val, (textC t).val] w (BoolBelow true w) := by
  have he : (s.toList == t.toList) = true := by rw [beq_iff_eq]; exact h
  have HB := Lib.hid (box2_below w (textC s) (textC t))
  clear h
  unfold textC Cel.val
  unfold box2 textC Cel.cells at HB
  go_enter Try.func25, Try.ntmps25
  go_wp2
  go_ret
  exact BoolBelow.mk (by simp [he]) HB.out
set_option maxHeartbeats 2000000 in
theorem same_objs (g1 g2 g1' g2' n : Nat) (ks ks' : List ByteArray) (w : World) (hn : ks.length = n) (hm : n ≤ 1000000) (he : ks' = ks) (h1 : BlkV w g1 9 (sv ks)) (h2 : BlkV w g2 31 (flat (ks.map textC))) (h1' : BlkV w g1' 9 (sv ks')) (h2' : BlkV w g2' 31 (flat (ks'.map textC))) :
    Calls Try.prog 25 #[(objC g1 g2 n).val, (objC g1' g2' n).val] w (BoolBelow true w) := by
  subst he
  have HB := Lib.hid (box2_below w (objC g1 g2 n) (objC g1' g2' n))
  have ya := box2_a w (objC g1 g2 n) (objC g1' g2' n)
  have yb := box2_b w (objC g1 g2 n) (objC g1' g2' n)
  obtain ⟨W0, hW0⟩ : ∃ W0, W0 = box2 w (objC g1 g2 n) (objC g1' g2' n) := ⟨_, rfl⟩
  rw [← hW0] at ya yb HB
  have a0 := ya.cell 0; have a4 := ya.cell 6; have a5 := ya.cell 7
  have b0 := yb.cell 0; have b4 := yb.cell 6; have b5 := yb.cell 7
  simp only [objC, Cel.cells, List.getElem?_cons_zero, List.getElem?_cons_succ] at a0 a4 a5 b0 b4 b5
  have H1 := Lib.hid (h1.below HB.out h1.lt); have H2 := Lib.hid (h2.below HB.out h2.lt); have H1' := Lib.hid (h1'.below HB.out h1'.lt); have H2' := Lib.hid (h2'.below HB.out h2'.lt)
  have HN := Lib.hid hn
  have HZ0 := Lib.hid yb.lt
  clear ya yb h1 h2 h1' h2' hn
  unfold box2 objC Cel.cells at hW0
  simp only at hW0
  unfold objC Cel.val
  have hnn : ((n : Int) != (n : Int)) = false := by simp
  go_enter Try.func25, Try.ntmps25
  go_upto_region 3 with fail
  rw [← hW0]
  clear hW0
  go_wp2
  go_loopw [5] (fun i wr => ∃ k d : Nat, k ≤ n ∧ i = .int .i64 (k : Int) ∧ wr = W0.drewN d) (fun i _ => n - (intOf i).toNat)
  case atStart => exact ⟨0, 0, Nat.zero_le _, rfl, rfl⟩
  case round =>
    obtain ⟨k, d, hk, rfl, hd⟩ := hrel
    by_cases hlt : k < n
    · have i1 : (k : Int) < (n : Int) := by omega
      have i2 : (0 : Int) ≤ (k : Int) := by omega
      have c1 := (H1.out.cell k).trans (sv_get _ _ (by rw [HN.out]; exact hlt))
      have c2 := (H1'.out.cell k).trans (sv_get _ _ (by rw [HN.out]; exact hlt))
      generalize ks'.getD k ByteArray.empty = x at c1 c2
      have hx : (x.toList != x.toList) = false := by simp
      subst hd
      go_wp2
      go_quiet (fail)
      go_wp2
      go_roundw
      case rel => exact ⟨k + 1, _, by omega, by go_num, rfl⟩
      case measure => simp [intOf]; omega
    · have i1 : ¬ (k : Int) < (n : Int) := by omega
      have HW := Lib.hid (below_drewN (Below.refl W0.heap.size W0) d)
      subst hd
      go_wp2
      go_loopw [6] (fun i wr => ∃ k : Nat, k ≤ n ∧ i = .int .i64 (k : Int) ∧ Below W0.heap.size W0 wr) (fun i _ => n - (intOf i).toNat)
      case atStart => exact ⟨0, Nat.zero_le _, rfl, HW.out⟩
      case round =>
        clear hlt hk HW i1
        obtain ⟨k, hk, rfl, hb⟩ := hrel
        have HBW := Lib.hid hb
        have hA := HB.out.size
        by_cases hlt : k < n
        · have i1 : (k : Int) < (n : Int) := by omega
          have i2 : (0 : Int) ≤ (k : Int) := by omega
          obtain ⟨hc, hf⟩ := bcell hb
          have hz0 := HZ0.out
          have a4' := (hc w.heap.size 6 (by omega)).trans a4
          have a5' := (hc w.heap.size 7 (by omega)).trans a5
          have b5' := (hc (w.heap.size + 1) 7 hz0).trans b5
          have r2 := (H2.out.below hb H2.out.lt).all
          have r2' := (H2'.out.below hb H2'.out.lt).all
          obtain ⟨p0, p1, p2, p3, p4, p5, p6, p7⟩ := flat_at r2 k (by rw [List.length_map, HN.out]; exact hlt) (c := textC (ks'.getD k ByteArray.empty)) (by simp [List.getD, HN.out, hlt])
          obtain ⟨q0, q1, q2, q3, q4, q5, q6, q7⟩ := flat_at r2' k (by rw [List.length_map, HN.out]; exact hlt) (c := textC (ks'.getD k ByteArray.empty)) (by simp [List.getD, HN.out, hlt])
          generalize ks'.getD k ByteArray.empty = x at *
          have KS := Lib.hid (fun W => same_text x x W rfl)
          unfold textC Cel.val at KS
          simp only [textC, Nat.zero_add] at p0 p1 p2 p3 p4 p5 p6 p7 q0 q1 q2 q3 q4 q5 q6 q7
          clear hc hf hb r2 r2'
          go_wp2
          go_still_tail 10, (by kernel_rfl)
          change wpList _ _ _ _ _ wr.drew
          have HBD := Lib.hid HBW.out.drew
          generalize wr.drew = W at HBD ⊢
          go_wp2_with fail
          refine (KS.out _).mono ?_
          rintro r w5 ⟨rfl, hb5⟩
          have HB5 := Lib.hid (below_on HBD.out hb5)
          clear hb5
          go_wp2
          go_roundw
          case rel => exact ⟨k + 1, by omega, by go_num, HB5.out⟩
          case measure => simp [intOf]; omega
        · have i1 : ¬ (k : Int) < (n : Int) := by omega
          have HF := Lib.hid (HB.out.trans (hb.mono hA))
          obtain ⟨hc, hf⟩ := bcell hb
          have hz0 := HZ0.out
          have a5' := (hc w.heap.size 7 (by omega)).trans a5
          clear hc hf hb
          go_wp2
          go_ret
          exact BoolBelow.mk rfl HF.out
end Go.Proofs.Ytbaekknbnognmaa
