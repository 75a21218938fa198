/- The walks of layer 1's own awake and few. -/
import Derived.Test.YteaeecnpggoioaaDoorB1
namespace Go.Proofs.YteaeecnpggoioaaDoor
open Go.RowKit
set_option linter.unusedVariables false
set_option linter.unusedSimpArgs false
set_option maxHeartbeats 4000000 in
set_option maxRecDepth 100000 in
theorem awake_any (w : World) : Calls Tryd.prog 9 #[] w fun e w' => e = .returned (.bool true) ∧ Below w.heap.size w w' := by
  have hb0 : Blk (w.alloc (.cells #[.int .u32 1200] 23)) w.heap.size [1200] [] := alloc_blk w [1200]
  have hbl0 : Below w.heap.size w (w.alloc (.cells #[.int .u32 1200] 23)) := (Below.refl _ _).alloc (Nat.le_refl _) _
  have ho0 : Okl [1200] := Okl.cons (by decide) Okl.nil
  have K1 := Lib.hid (trim_any (some ⟨w.heap.size, 0, none⟩) 1 1 [1200] _ rfl (Nat.le_refl _) (by omega) ho0 hb0.rd_all)
  have hsz : w.heap.size ≤ (w.alloc (.cells #[.int .u32 1200] 23)).heap.size := by simp
  clear hb0 ho0
  go_enter Tryd.func9, Tryd.ntmps9
  go_wp2_with fail
  generalize w.alloc (.cells #[.int .u32 1200] 23) = w0 at *
  refine K1.out.mono ?_
  rintro e w1 ⟨v, m, k, rfl, hv, hbl1, heq, _, hm10, _⟩
  have hun := ten_unique (m := 12) (k := 2) (by rw [← heq]; decide) (by decide) (hm10 (by decide))
  obtain ⟨rfl, rfl⟩ := hun
  rw [limbs_12] at hv
  obtain ⟨_, ⟨_, h0⟩ | ⟨g, cap, r, rfl, hg, hbk, _, _⟩⟩ := hv
  · cases h0
  · have hc := hbk.cell 0 (by simp)
    have hbl : Below w.heap.size w w1 := hbl0.trans (hbl1.mono hsz)
    have hsz1 : w.heap.size ≤ w1.heap.size := hbl.size
    have hb2 : Blk (w1.alloc (.cells #[.int .u32 0, .int .u32 1] 23)) w1.heap.size [0, 1] [] := alloc_blk w1 [0, 1]
    have ho2 : Okl [0, 1] := Okl.cons (by decide) (Okl.cons (by decide) Okl.nil)
    have K2 := digits_any (some ⟨w1.heap.size, 0, none⟩) 2 2 [0, 1] _ rfl (Nat.le_refl _) (by omega) ho2 hb2.rd_all
    rw [show val [0, 1] = 4294967296 from rfl, dec_base] at K2
    have K2H := Lib.hid K2
    have hbl3 : Below w.heap.size w (w1.alloc (.cells #[.int .u32 0, .int .u32 1] 23)) := hbl.alloc hsz1 _
    have hsz3 : w.heap.size ≤ (w1.alloc (.cells #[.int .u32 0, .int .u32 1] 23)).heap.size := by simp; omega
    clear K2 hb2 ho2 heq hm10 hbk hbl0 hbl1 K1
    go_wp2_with fail
    generalize w1.alloc (.cells #[.int .u32 0, .int .u32 1] 23) = w3 at *
    refine K2H.out.mono ?_
    rintro e w4 ⟨rfl, hb4⟩
    go_wp2
    go_ret
    exact ⟨rfl, hbl3.trans (hb4.mono hsz3)⟩

theorem few_yes (ad ad' : Option Addr) (n cap n' cap' : Nat) (w : World) (h : n ≤ 25) (h' : n' ≤ 25) :
    Calls Tryd.prog 8 #[.slice ad n cap, .slice ad' n' cap'] w fun e w' => e = .returned (.bool true) ∧ w = w' := by
  go_enter Tryd.func8, Tryd.ntmps8
  go_wp2
  go_ret
  exact ⟨retb (by simp; omega), rfl⟩
theorem few_no (ad ad' : Option Addr) (n cap n' cap' : Nat) (w : World) (h : ¬ (n ≤ 25 ∧ n' ≤ 25)) :
    Calls Tryd.prog 8 #[.slice ad n cap, .slice ad' n' cap'] w fun e w' => e = .returned (.bool false) ∧ w = w' := by
  by_cases h1 : n ≤ 25
  · have h2 : ¬ n' ≤ 25 := fun h3 => h ⟨h1, h3⟩
    go_enter Tryd.func8, Tryd.ntmps8
    go_wp2
    go_ret
    exact ⟨retb (by simp; omega), rfl⟩
  · go_enter Tryd.func8, Tryd.ntmps8
    go_wp2
    go_ret
    exact ⟨retb (by simp), rfl⟩

section
variable {w0 w : World} {l : List Ent} {v1 v2 : Value} {L1 L2 N1 N2 : Nat} {xs ys : List Nat}
theorem awake_c (h : Ctx w0 w l) : Calls Tryd.prog 9 #[] w fun e w' => e = .returned (.bool true) ∧ Below w0.heap.size w0 w' := by
  refine (awake_any w).mono ?_
  rintro e w' ⟨rfl, hb⟩
  exact ⟨rfl, below_on h.below hb⟩
end
end Go.Proofs.YteaeecnpggoioaaDoor
