/- The walks of the laws' own awake and few. -/
import Derived.Test.YtolmmpdgbkbcmaaDoorNs
namespace Go.Proofs.YtolmmpdgbkbcmaaDoor
open Go.RowKit
set_option linter.unusedVariables false

theorem ten_unique {m m' k k' : Nat} (h : m * tenN k = m' * tenN k') (hm : m % 10 ≠ 0) (hm' : m' % 10 ≠ 0) : m = m' ∧ k = k' := by
  have key : ∀ {a b x y : Nat}, a * tenN x = b * tenN y → a % 10 ≠ 0 → x < y → False := by
    intro a b x y h1 h2 h3
    obtain ⟨d, rfl⟩ : ∃ d, y = x + (d + 1) := ⟨y - x - 1, by omega⟩
    rw [tenN_add, tenN_succ] at h1
    have h4 : a = b * tenN d * 10 := by
      have h5 : a * tenN x = (b * tenN d * 10) * tenN x := by rw [h1]; grind
      exact Nat.eq_of_mul_eq_mul_right (tenN_pos x) h5
    rw [h4] at h2
    exact h2 (Nat.mul_mod_left _ _)
  rcases Nat.lt_trichotomy k k' with h1 | h1 | h1
  · exact (key h hm h1).elim
  · subst h1; exact ⟨Nat.eq_of_mul_eq_mul_right (tenN_pos k) h, rfl⟩
  · exact (key h.symm hm' h1).elim

theorem limbs_12 : limbs 12 = [12] := by rw [limbs_pos (by decide)]; rw [show 12 / B32 = 0 by decide, limbs_zero]; rfl
theorem dec_base : txt (dec 4294967296) = ⟨#[52, 50, 57, 52, 57, 54, 55, 50, 57, 54]⟩ := by
  have : dec 4294967296 = [52, 50, 57, 52, 57, 54, 55, 50, 57, 54] := by
    unfold dec
    rw [if_neg (by decide)]
    repeat rw [decl_pos (by decide)]
    rw [show 4294967296 / 10 / 10 / 10 / 10 / 10 / 10 / 10 / 10 / 10 / 10 = 0 by decide, decl_zero]
    decide
  rw [this]; rfl

/-- A new block of limbs. -/
theorem alloc_blk (w : World) (xs : List Nat) : Blk (w.alloc (.cells (xs.map lv).toArray 23)) w.heap.size xs [] := by
  unfold Blk; rw [List.append_nil]; exact heap_alloc_new w _

set_option maxHeartbeats 4000000 in
set_option maxRecDepth 100000 in
theorem awake_any (w : World) : Calls Tryd.prog 10 #[] w fun e w' => e = .returned (.bool true) ∧ Below w.heap.size w w' := by
  have hb0 : Blk (w.alloc (.cells #[.int .u32 1200] 23)) w.heap.size [1200] [] := alloc_blk w [1200]
  have hbl0 : Below w.heap.size w (w.alloc (.cells #[.int .u32 1200] 23)) := (Below.refl _ _).alloc (Nat.le_refl _) _
  have ho0 : Okl [1200] := Okl.cons (by decide) Okl.nil
  have K1 := Lib.hid (trim_any (some ⟨w.heap.size, 0, none⟩) 1 1 [1200] _ rfl (Nat.le_refl _) (by omega) ho0 hb0.rd_all)
  have hsz : w.heap.size ≤ (w.alloc (.cells #[.int .u32 1200] 23)).heap.size := by simp
  clear hb0 ho0
  go_enter Tryd.func10, Tryd.ntmps10
  go_wp2_with fail
  generalize w.alloc (.cells #[.int .u32 1200] 23) = w0 at *
  refine K1.out.mono ?_
  rintro e w1 ⟨v, m, k, rfl, hv, hbl1, heq, _, hm10, _⟩
  have hun := ten_unique (m := 12) (k := 2) (by rw [← heq]; decide) (by decide) (hm10 (by decide))
  obtain ⟨rfl, rfl⟩ := hun
  rw [limbs_12] at hv
  obtain ⟨_, ⟨_, h0⟩ | ⟨g, cap, r, rfl, hg, hbk, _, _⟩⟩ := hv
  · cases h0
  · have hc := hbk.cell 0 (by simp)
    have hbl : Below w.heap.size w w1 := hbl0.trans (hbl1.mono hsz)
    have hsz1 : w.heap.size ≤ w1.heap.size := hbl.size
    have hb2 : Blk (w1.alloc (.cells #[.int .u32 0, .int .u32 1] 23)) w1.heap.size [0, 1] [] := alloc_blk w1 [0, 1]
    have ho2 : Okl [0, 1] := Okl.cons (by decide) (Okl.cons (by decide) Okl.nil)
    have K2 := digits_any (some ⟨w1.heap.size, 0, none⟩) 2 2 [0, 1] _ rfl (Nat.le_refl _) (by omega) ho2 hb2.rd_all
    rw [show val [0, 1] = 4294967296 from rfl, dec_base] at K2
    have K2H := Lib.hid K2
    have hbl3 : Below w.heap.size w (w1.alloc (.cells #[.int .u32 0, .int .u32 1] 23)) := hbl.alloc hsz1 _
    have hsz3 : w.heap.size ≤ (w1.alloc (.cells #[.int .u32 0, .int .u32 1] 23)).heap.size := by simp; omega
    clear K2 hb2 ho2 heq hm10 hbk hbl0 hbl1 K1
    go_wp2_with fail
    generalize w1.alloc (.cells #[.int .u32 0, .int .u32 1] 23) = w3 at *
    refine K2H.out.mono ?_
    rintro e w4 ⟨rfl, hb4⟩
    go_wp2
    go_ret
    exact ⟨rfl, hbl3.trans (hb4.mono hsz3)⟩

theorem retb {a b : Bool} (h : a = b) : Ending.returned (.bool a) = .returned (.bool b) := by rw [h]
theorem few_yes (ad ad' : Option Addr) (n cap n' cap' : Nat) (w : World) (h : n ≤ 25) (h' : n' ≤ 25) :
    Calls Tryd.prog 9 #[.slice ad n cap, .slice ad' n' cap'] w fun e w' => e = .returned (.bool true) ∧ w = w' := by
  go_enter Tryd.func9, Tryd.ntmps9
  go_wp2
  go_ret
  exact ⟨retb (by simp; omega), rfl⟩
theorem few_no (ad ad' : Option Addr) (n cap n' cap' : Nat) (w : World) (h : ¬ (n ≤ 25 ∧ n' ≤ 25)) :
    Calls Tryd.prog 9 #[.slice ad n cap, .slice ad' n' cap'] w fun e w' => e = .returned (.bool false) ∧ w = w' := by
  by_cases h1 : n ≤ 25
  · have h2 : ¬ n' ≤ 25 := fun h3 => h ⟨h1, h3⟩
    go_enter Tryd.func9, Tryd.ntmps9
    go_wp2
    go_ret
    exact ⟨retb (by simp; omega), rfl⟩
  · go_enter Tryd.func9, Tryd.ntmps9
    go_wp2
    go_ret
    exact ⟨retb (by simp), rfl⟩
end Go.Proofs.YtolmmpdgbkbcmaaDoor
