/- num's Of at 0; what NumInts needs of numbers; the walk of the law NumInts. -/
import Derived.Test.YtogapgjilbcbfaaGreatDoorNj2
namespace Go.Proofs.YtogapgjilbcbfaaGreatDoor
open Go.RowKit Go.Sort
set_option linter.unusedVariables false
set_option linter.unusedSimpArgs false

set_option maxHeartbeats 8000000 in
set_option maxRecDepth 100000 in
theorem of_zero {w0 w : World} {l : List Ent} (h : Ctx w0 w l) : Calls Tryz.prog 22 #[.int .i64 0] w (OfPost w0 l false 0 0) := by
  have hb1 := below_box w #[.bool false, .slice none 0 0, .int .i64 0] 24
  have h1 := h.step hb1
  have h2 := h1.again.lits2 (N := 0) (xs := [0, 0]) (Okl.cons (by decide) (Okl.cons (by decide) Okl.nil)) rfl 2 rfl #[.int .u32 0, .int .u32 0] rfl
  have KM := Lib.hid (make_zero h2.again 0 rfl (by decide) false 0)
  have H2 := Lib.hid h2
  have H1 := Lib.hid h1
  have hW := Lib.hid h.below.size
  clear h h1 h2 hb1
  go_enter Tryz.func22, Tryz.ntmps22
  go_wp2_with fail
  refine KM.out.mono ?_
  rintro r w1 ⟨v1, rfl, hm1⟩
  obtain ⟨ad1, cap1, hv1, _⟩ := hm1.get 0 rfl
  rw [show (limbs 0).length = 0 by rw [limbs_zero]; rfl] at hv1
  subst hv1
  obtain ⟨hc, hf⟩ := bcell hm1.below
  have hz : w.heap.size < w1.heap.size := by have := hm1.below.size; simp at this; omega
  have HM := Lib.hid hm1
  clear hm1
  go_wp2
  have d0 : w1.cell? ⟨w.heap.size, 0, none⟩ = some (.bool false) := by rw [hc _ _ (by simp <;> omega)]; simp [World.cell?_alloc_lt]
  have d1 : w1.cell? ⟨w.heap.size, 1, none⟩ = some (.slice none 0 0) := by rw [hc _ _ (by simp <;> omega)]; simp [World.cell?_alloc_lt]
  have d2 : w1.cell? ⟨w.heap.size, 2, none⟩ = some (.int .i64 0) := by rw [hc _ _ (by simp <;> omega)]; simp [World.cell?_alloc_lt]
  have H3 := ((HM.out.on H2.out).on H1.out).drop2
  have H4 := (H3.box3 hW.out d0 d1 d2 (.bool false) (.slice ad1 0 cap1) (.int .i64 0)).step (below_box _ #[.bool false, .slice ad1 0 cap1, .int .i64 0] 24)
  obtain ⟨g0, g1, g2⟩ := box3_cells (w := w1) (g := w.heap.size) hz d0 d1 d2 (.bool false) (.slice ad1 0 cap1) (.int .i64 0) #[.bool false, .slice ad1 0 cap1, .int .i64 0] 24
  refine bodyPost_ret (v := .agg #[.bool false, .slice ad1 0 cap1, .int .i64 0]) (by simp [results, Tryz.results22, go_sem, g0, g1, g2]) rfl ⟨_, rfl, ?_⟩
  exact H4

theorem of_all {w0 w : World} {l : List Ent} (h : Ctx w0 w l) (v : Int) (hv : -9223372036854775808 ≤ v ∧ v ≤ 9223372036854775807) :
    Calls Tryz.prog 22 #[.int .i64 v] w (OfPost w0 l (decide (v < 0)) (trimM v.natAbs) ((trimK v.natAbs : Nat) : Int)) := by
  by_cases h0 : v.natAbs = 0
  · obtain rfl : v = 0 := by omega
    exact of_zero h
  · exact of_any h v hv _ rfl h0

/-- What a whole number is. -/
structure Whole (v : Int) (m t : Nat) : Prop where
  eq : m * tenN t = v.natAbs
  chk : chkB (decide (v < 0)) (limbs m) (t : Int) = true
  val : valZ (decide (v < 0)) m (t : Int) = v * (tenN 1200 : Int)
  len : (limbs m).length ≤ 2
  len2 : (limbs v.natAbs).length ≤ 2
  le : t ≤ 20
  bits : bitsN v.natAbs ≤ 400
theorem limbs64 {k : Nat} (h : k < 18446744073709551616) : (limbs k).length ≤ 2 := by
  have := limbs_len_le (xs := [k % B32, k / B32]) (Okl.cons (Nat.mod_lt _ B32_pos) (Okl.cons (by rw [B32_eq]; omega) Okl.nil))
  rw [show val [k % B32, k / B32] = k by simp [val]; rw [B32_eq]; omega] at this
  exact this
theorem bits64 {k : Nat} (h : (limbs k).length ≤ 2) : bitsN k ≤ 400 := by
  by_cases h0 : limbs k = []
  · rw [bitsN_zero h0]; omega
  · obtain ⟨t, ht⟩ : ∃ t, (limbs k).length = t + 1 := ⟨(limbs k).length - 1, by have : (limbs k).length ≠ 0 := fun h1 => h0 (List.eq_nil_of_length_eq_zero h1); omega⟩
    rw [bitsN_top ht]
    have hx := (limbs_ok k).getD t
    rw [B32_eq] at hx
    have := blen_le _ hx
    omega
theorem whole_of (v : Int) (hv : -9223372036854775808 ≤ v ∧ v ≤ 9223372036854775807) : Whole v (trimM v.natAbs) (trimK v.natAbs) := by
  have h64 : v.natAbs < 18446744073709551616 := by omega
  have hl2 := limbs64 h64
  have hval : ∀ m t : Nat, m * tenN t = v.natAbs → valZ (decide (v < 0)) m (t : Int) = v * (tenN 1200 : Int) := by
    intro m t he
    have hs : sizeN m (t : Int) = v.natAbs * tenN 1200 := by
      unfold sizeN
      rw [show ((t : Int) + 1200).toNat = t + 1200 by omega, tenN_add, ← Nat.mul_assoc, he]
    unfold valZ
    rw [hs]
    generalize tenN 1200 = T
    by_cases h : v < 0
    · rw [if_pos (by simpa using h)]
      conv => rhs; rw [show v = -(v.natAbs : Int) by omega]
      rw [Int.neg_mul]; simp
    · rw [if_neg (by simpa using h)]
      conv => rhs; rw [show v = (v.natAbs : Int) by omega]
      simp
  by_cases h0 : v.natAbs = 0
  · obtain rfl : v = 0 := by omega
    exact ⟨rfl, by rw [show trimM (0 : Int).natAbs = 0 from rfl, limbs_zero]; rfl, hval _ _ rfl, by rw [show trimM (0 : Int).natAbs = 0 from rfl, limbs_zero]; decide, hl2, by decide, bits64 hl2⟩
  · obtain ⟨a, b, c, d⟩ := trim64 h0 h64
    exact ⟨a.symm, chkB_mk b (by omega) (by omega) (by omega), hval _ _ a.symm, c, hl2, d, bits64 hl2⟩
theorem cmp_scale {v u : Int} {T : Nat} (hT : 0 < T) : cmpZ (v * (T : Int)) (u * (T : Int)) = cmpZ v u := by
  have hT' : (0 : Int) < (T : Int) := by omega
  unfold cmpZ
  have h1 : v * (T : Int) < u * (T : Int) ↔ v < u := Int.mul_lt_mul_right hT'
  have h2 : v * (T : Int) = u * (T : Int) ↔ v = u := Int.mul_eq_mul_right_iff (by omega)
  simp only [h1, h2]

theorem same_cmp {na nb : Bool} {xs ys : List Nat} {e f : Int} (ho : Okl xs) (ho' : Okl ys) (ha : chkB na xs e = true) (hb : chkB nb ys f = true) :
    decide ((na = nb ∧ e = f) ∧ xs = ys) = decide (cmpZ (valZ na (val xs) e) (valZ nb (val ys) f) = 0) := by
  have hz : ∀ a b : Int, cmpZ a b = 0 ↔ a = b := by
    intro a b; unfold cmpZ
    repeat' split
    all_goals omega
  refine decide_eq_decide.2 ?_
  rw [hz]
  constructor
  · rintro ⟨⟨rfl, rfl⟩, rfl⟩; rfl
  · intro h
    have hp : ∀ {neg : Bool} {N : Nat} {e : Int}, N ≠ 0 → valZ neg N e ≠ 0 := by
      intro neg N e h0 h1
      have := sizeN_pos (e := e) h0
      unfold valZ at h1
      split at h1 <;> omega
    have hv0 : ∀ {neg : Bool} {e : Int}, valZ neg (val []) e = 0 := by
      intro neg e
      unfold valZ; rw [show val [] = 0 from rfl, sizeN_zero]; split <;> rfl
    have hl1 := chkB_limbs ho ha
    have hl2 := chkB_limbs ho' hb
    by_cases h1 : xs = []
    · subst h1
      by_cases h2 : ys = []
      · subst h2
        obtain ⟨rfl, rfl⟩ := chkB_zero ha
        obtain ⟨rfl, rfl⟩ := chkB_zero hb
        exact ⟨⟨rfl, rfl⟩, rfl⟩
      · rw [hv0] at h
        exact absurd h.symm (hp (by have := (chkB_some h2 hb).2.2.2.2; omega))
    · by_cases h2 : ys = []
      · subst h2
        rw [hv0] at h
        exact absurd h (hp (by have := (chkB_some h1 ha).2.2.2.2; omega))
      · obtain ⟨_, _, a3, _, a5⟩ := chkB_some h1 ha
        obtain ⟨_, _, b3, _, b5⟩ := chkB_some h2 hb
        obtain ⟨c1, c2, c3⟩ := valZ_inj a5 b5 a3 b3 h
        exact ⟨⟨c1, c3⟩, by rw [← hl1, ← hl2, c2]⟩
end Go.Proofs.YtogapgjilbcbfaaGreatDoor
