/- The walks of the reference's Pow, Parse. -/
import Derived.Test.YtogapgjilbcbfaaGreatDoorRy
import Derived.Deep.CutRange
import Derived.Lib.QuietBelow
namespace Go.Proofs.YtogapgjilbcbfaaGreatDoor
open Go.RowKit
set_option linter.unusedVariables false
set_option linter.unusedSimpArgs false

/-- The reference's Mul of what the call owns by a literal of one limb. -/
theorem refMul_lit {B : Nat} {v : Value} {zs : List Nat} {w0 w : World} (h : Own B w v zs) (hb : Below B w0 w) (hB : B = w0.heap.size) (hl : zs.length ≤ 1000000) {x : Nat} (hx : x < B32) :
    Calls Tryz.prog 32 #[v, .slice (some ⟨w.heap.size, 0, none⟩) 1 1] (w.alloc (.cells #[.int .u32 (x : Int)] 42)) (Gives (val zs * x) w0) := by
  obtain ⟨ad, cap, rfl, hc, hr, _⟩ := h.view
  have hlit := alloc_blk w [x]
  have hb1 : Below w.heap.size w (w.alloc (.cells #[.int .u32 (x : Int)] 42)) := (Below.refl _ w).alloc (Nat.le_refl _) _
  have hr2 : Rd (w.alloc (.cells #[.int .u32 (x : Int)] 42)) (some ⟨w.heap.size, 0, none⟩) [x] := by
    have := hlit.rd_all
    simpa [lv] using this
  refine (refMul_any ad zs.length cap zs _ 1 1 [x] _ rfl hc hl h.1 (hr.below hb1) rfl (Nat.le_refl _) (by omega) (Okl.cons hx Okl.nil) hr2).mono ?_
  rintro e w' ⟨v', rfl, ho, hb2⟩
  subst hB
  have hv : val [x] = x := by simp [val]
  rw [hv] at ho
  exact ⟨v', rfl, ho.mono (Nat.le_trans hb.size hb1.size), hb.trans ((hb1.trans (hb2.mono hb1.size)).mono hb.size)⟩
theorem own_lit1 (w : World) {x B : Nat} (hx : x < B32) (hB : B ≤ w.heap.size) : Own B (w.alloc (.cells #[.int .u32 (x : Int)] 42)) (.slice (some ⟨w.heap.size, 0, none⟩) 1 1) [x] := by
  have hlit := alloc_blk w [x]
  exact ⟨Okl.cons hx Okl.nil, .inr ⟨w.heap.size, 1, [], rfl, hB, by simpa [lv] using hlit, rfl, by unfold maxLen; omega⟩⟩
theorem limbs_oneb : limbs 1 = [1] := by rw [limbs_pos (by decide)]; rw [show 1 / B32 = 0 by decide, limbs_zero]; rfl
def PwRel (G b m : Nat) (w : World) (g : Nat) (l i : Value) (wr : World) : Prop :=
  ∃ (k : Nat), m - k ≤ g ∧ k ≤ m ∧ i = .int .i64 (k : Int) ∧ Own G wr l (limbs (b ^ k)) ∧ Below G w wr

set_option maxHeartbeats 4000000 in
set_option maxRecDepth 100000 in
theorem refPow_any (b : Nat) (n : Int) (w : World) (hb : b < B32) (hn : -9223372036854775808 ≤ n ∧ n ≤ 9223372036854775807) :
    Calls Tryz.prog 33 #[.int .u32 (b : Int), .int .i64 n] w (Gives (b ^ cutP n) w) := by
  have HBB := Lib.hid hb
  have hbz : b < 4294967296 := hb
  have hce := cutP_eq n
  have hcl := cutP_le n
  have hlt : ∀ k : Nat, k < cutP n → decide ((k : Int) < min n 1300) = true := fun k h => decide_eq_true (by omega)
  have hge : ∀ k : Nat, k = cutP n → decide ((k : Int) < min n 1300) = false := fun k h => decide_eq_false (by omega)
  have HLT := Lib.hid hlt; have HGE := Lib.hid hge
  clear hb hce hlt hge
  generalize cutP n = m at *
  have HST := Lib.hid (show PwRel w.heap.size b m w m (.slice (some ⟨w.heap.size, 0, none⟩) 1 1) (.int .i64 0) (w.alloc (.cells #[.int .u32 1] 42)) from
    ⟨0, by omega, by omega, rfl, by rw [Nat.pow_zero, limbs_oneb]; exact own_lit1 w (x := 1) (by decide) (Nat.le_refl _), (Below.refl _ w).alloc (Nat.le_refl _) _⟩)
  have HUN := Lib.hid (fun W (h : Below w.heap.size w W) => h.size)
  go_enter Tryz.func33, Tryz.ntmps33
  go_wp2
  generalize hB : w.heap.size = B at *
  have HB := Lib.hid hB; clear hB
  go_loopg [5, 6] m (fun g l i wr => PwRel B b m w g l i wr)
  case atStart => exact HST.out
  case round =>
    obtain ⟨k, hk, hkm, rfl, hown, hbl⟩ := hrel
    have HOW := Lib.hid hown; have HBL := Lib.hid hbl
    clear hown hbl
    by_cases hp : k < m
    · obtain ⟨g, rfl⟩ : ∃ g, gk = g + 1 := ⟨gk - 1, by omega⟩
      have hpz := HLT.out k hp
      have KM := Lib.hid (refMul_lit (x := b) HOW.out HBL.out (by exact HB.out.symm) (by have := limbs_length_le (pow_bound HBB.out k); omega) HBB.out)
      rw [val_limbs, ← Nat.pow_succ] at KM
      go_wp2_with fail
      refine KM.out.mono ?_
      rintro e w' hg
      obtain ⟨v, rfl, h1, h2⟩ := hg
      rw [HB.out] at h1 h2
      have H1 := Lib.hid h1; have H2 := Lib.hid h2
      clear h1 h2
      go_wp2
      go_roundg g
      case rel => exact ⟨k + 1, by omega, by omega, by go_num, H1.out, H2.out⟩
      case measure => omega
    · have hkm2 : k = m := by omega
      subst hkm2
      have hpz := HGE.out k rfl
      go_wp2
      go_ret
      exact ⟨_, rfl, by rw [HB.out]; exact HOW.out, by rw [HB.out]; exact HBL.out⟩
end Go.Proofs.YtogapgjilbcbfaaGreatDoor
