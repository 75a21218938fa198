/- The walks of num's Of, Int at whole numbers that Go has. -/
import Derived.Test.YtogapgjilbcbfaaGreatDoorC8
namespace Go.Proofs.YtogapgjilbcbfaaGreatDoor
open Go.RowKit Go.Sort
set_option linter.unusedVariables false
set_option linter.unusedSimpArgs false

theorem Ctx.drop2 {w0 w : World} {l : List Ent} {x y : Ent} (h : Ctx w0 w (x :: y :: l)) : Ctx w0 w (x :: l) :=
  ⟨h.below, fun z hz => h.all z (by rcases List.mem_cons.1 hz with rfl | h1 <;> simp_all)⟩
theorem box3_cells {w : World} {g : Nat} {x0 x1 x2 : Value} (hz : g < w.heap.size) (c0 : w.cell? ⟨g, 0, none⟩ = some x0) (c1 : w.cell? ⟨g, 1, none⟩ = some x1) (c2 : w.cell? ⟨g, 2, none⟩ = some x2) (v0 v1 v2 : Value) (b : Array Value) (t : TypeId) :
    ((((w.setCell ⟨g, 0, none⟩ v0).setCell ⟨g, 1, none⟩ v1).setCell ⟨g, 2, none⟩ v2).alloc (.cells b t)).cell? ⟨g, 0, none⟩ = some v0 ∧ ((((w.setCell ⟨g, 0, none⟩ v0).setCell ⟨g, 1, none⟩ v1).setCell ⟨g, 2, none⟩ v2).alloc (.cells b t)).cell? ⟨g, 1, none⟩ = some v1 ∧ ((((w.setCell ⟨g, 0, none⟩ v0).setCell ⟨g, 1, none⟩ v1).setCell ⟨g, 2, none⟩ v2).alloc (.cells b t)).cell? ⟨g, 2, none⟩ = some v2 := by
  have hb := below_box (((w.setCell ⟨g, 0, none⟩ v0).setCell ⟨g, 1, none⟩ v1).setCell ⟨g, 2, none⟩ v2) b t
  have hs : g < (((w.setCell ⟨g, 0, none⟩ v0).setCell ⟨g, 1, none⟩ v1).setCell ⟨g, 2, none⟩ v2).heap.size := by simpa [World.setCell] using hz
  refine ⟨?_, ?_, ?_⟩
  · rw [hb.cell (p := ⟨g, 0, none⟩) hs]; simp [go_sem, c0, c1, c2]
  · rw [hb.cell (p := ⟨g, 1, none⟩) hs]; simp [go_sem, c0, c1, c2]
  · rw [hb.cell (p := ⟨g, 2, none⟩) hs]; simp [go_sem, c0, c1, c2]
/-- What Of answers. -/
def OfPost (w0 : World) (l : List Ent) (neg : Bool) (m : Nat) (e : Int) (r : Ending) (w' : World) : Prop :=
  ∃ v, r = .returned (.agg #[.bool neg, v, .int .i64 e]) ∧ Ctx w0 w' (⟨v, 2, m, limbs m⟩ :: l)
theorem trim64 {k : Nat} (h0 : k ≠ 0) (h : k < 18446744073709551616) : k = trimM k * tenN (trimK k) ∧ trimM k % 10 ≠ 0 ∧ (limbs (trimM k)).length ≤ 2 ∧ trimK k ≤ 20 := by
  obtain ⟨a, b⟩ := trim_spec h0
  have hm : trimM k ≤ k := by unfold trimM; exact Nat.div_le_self _ _
  refine ⟨a, b, ?_, ?_⟩
  · exact Nat.le_trans (limbs_len_mono hm) (by
      have := limbs_len_le (xs := [k % B32, k / B32]) (Okl.cons (Nat.mod_lt _ B32_pos) (Okl.cons (by rw [B32_eq]; omega) Okl.nil))
      rw [show val [k % B32, k / B32] = k by simp [val]; rw [B32_eq]; omega] at this
      exact this)
  · apply Classical.byContradiction
    intro hc
    have h1 : tenN 20 ≤ tenN (trimK k) := tenN_le (by omega)
    have h2 : 0 < trimM k := by omega
    have h3 : tenN (trimK k) ≤ k := by
      have := Nat.le_mul_of_pos_left (tenN (trimK k)) h2
      omega
    have h4 : (18446744073709551616 : Nat) < tenN 20 := by decide
    omega

set_option maxHeartbeats 8000000 in
set_option maxRecDepth 100000 in
theorem of_any {w0 w : World} {l : List Ent} (h : Ctx w0 w l) (v : Int) (hv : -9223372036854775808 ≤ v ∧ v ≤ 9223372036854775807) (k : Nat) (hk : v.natAbs = k) (h0 : k ≠ 0) :
    Calls Tryz.prog 22 #[.int .i64 v] w (OfPost w0 l (decide (v < 0)) (trimM k) ((trimK k : Nat) : Int)) := by
  have hk64 : k < 18446744073709551616 := by omega
  obtain ⟨t1, t2, t3, t4⟩ := trim64 h0 hk64
  have hb1 := below_box w #[.bool false, .slice none 0 0, .int .i64 0] 24
  have h1 := h.step hb1
  have hl1 : k % 4294967296 < B32 := by rw [B32_eq]; omega
  have hl2 : k / 4294967296 < B32 := by rw [B32_eq]; omega
  have hvl : val [k % 4294967296, k / 4294967296] = k := by simp [val]; rw [B32_eq]; omega
  have h2 := h1.again.lits2 (Okl.cons hl1 (Okl.cons hl2 Okl.nil)) hvl 2 rfl #[.int .u32 ((k : Int) % 4294967296), .int .u32 ((k : Int) / 4294967296)] (by simp [lv])
  have KM := Lib.hid (make_yes2 h2.again 0 rfl (by decide) (decide (v < 0)) 0 (trimM k) (trimK k) t1 t2 (by omega) ((trimK k : Nat) : Int) (by omega) (by omega) (by omega))
  have H2 := Lib.hid h2
  have H1 := Lib.hid h1
  have hW := Lib.hid h.below.size
  clear h h1 h2 hb1 t1 t2
  by_cases hs : v < 0
  · rw [decide_eq_true hs] at KM
    have HD := Lib.hid (decide_eq_true hs)
    obtain rfl : v = -(k : Int) := by omega
    clear hk
    have hw1 : IntKind.u64.wrap (-IntKind.u64.wrap (-(k : Int))) = (k : Int) := by
      have hx : ∀ x : Int, IntKind.u64.wrap x = x % 18446744073709551616 := fun x => rfl
      rw [hx, hx]; omega
    have hw2 : (k : Int) / 4294967296 % 4294967296 = (k : Int) / 4294967296 := by omega
    go_enter Tryz.func22, Tryz.ntmps22
    go_wp2_with fail
    refine KM.out.mono ?_
    rintro r w1 ⟨v1, rfl, hm1⟩
    obtain ⟨ad1, cap1, hv1, _⟩ := hm1.get 0 rfl
    generalize hn1 : (limbs (trimM k)).length = n1 at *
    subst hv1
    obtain ⟨hc, hf⟩ := bcell hm1.below
    have hz : w.heap.size < w1.heap.size := by have := hm1.below.size; simp at this; omega
    have HM := Lib.hid hm1; have HN1 := Lib.hid hn1
    clear hm1 hn1
    go_wp2
    have d0 : w1.cell? ⟨w.heap.size, 0, none⟩ = some (.bool false) := by rw [hc _ _ (by simp <;> omega)]; simp [World.cell?_alloc_lt]
    have d1 : w1.cell? ⟨w.heap.size, 1, none⟩ = some (.slice none 0 0) := by rw [hc _ _ (by simp <;> omega)]; simp [World.cell?_alloc_lt]
    have d2 : w1.cell? ⟨w.heap.size, 2, none⟩ = some (.int .i64 0) := by rw [hc _ _ (by simp <;> omega)]; simp [World.cell?_alloc_lt]
    have H3 := ((HM.out.on H2.out).on H1.out).drop2
    have H4 := (H3.box3 hW.out d0 d1 d2 (.bool true) (.slice ad1 n1 cap1) (.int .i64 ((trimK k : Nat) : Int))).step (below_box _ #[.bool true, .slice ad1 n1 cap1, .int .i64 ((trimK k : Nat) : Int)] 24)
    obtain ⟨g0, g1, g2⟩ := box3_cells (w := w1) (g := w.heap.size) hz d0 d1 d2 (.bool true) (.slice ad1 n1 cap1) (.int .i64 ((trimK k : Nat) : Int)) #[.bool true, .slice ad1 n1 cap1, .int .i64 ((trimK k : Nat) : Int)] 24
    refine bodyPost_ret (v := .agg #[.bool true, .slice ad1 n1 cap1, .int .i64 ((trimK k : Nat) : Int)]) (by simp [results, Tryz.results22, go_sem, g0, g1, g2]) rfl ⟨_, by rw [HD.out], ?_⟩
    exact H4
  · rw [decide_eq_false hs] at KM
    have HD := Lib.hid (decide_eq_false hs)
    obtain rfl : v = (k : Int) := by omega
    clear hk
    go_enter Tryz.func22, Tryz.ntmps22
    go_wp2_with fail
    refine KM.out.mono ?_
    rintro r w1 ⟨v1, rfl, hm1⟩
    obtain ⟨ad1, cap1, hv1, _⟩ := hm1.get 0 rfl
    generalize hn1 : (limbs (trimM k)).length = n1 at *
    subst hv1
    obtain ⟨hc, hf⟩ := bcell hm1.below
    have hz : w.heap.size < w1.heap.size := by have := hm1.below.size; simp at this; omega
    have HM := Lib.hid hm1; have HN1 := Lib.hid hn1
    clear hm1 hn1
    go_wp2
    have d0 : w1.cell? ⟨w.heap.size, 0, none⟩ = some (.bool false) := by rw [hc _ _ (by simp <;> omega)]; simp [World.cell?_alloc_lt]
    have d1 : w1.cell? ⟨w.heap.size, 1, none⟩ = some (.slice none 0 0) := by rw [hc _ _ (by simp <;> omega)]; simp [World.cell?_alloc_lt]
    have d2 : w1.cell? ⟨w.heap.size, 2, none⟩ = some (.int .i64 0) := by rw [hc _ _ (by simp <;> omega)]; simp [World.cell?_alloc_lt]
    have H3 := ((HM.out.on H2.out).on H1.out).drop2
    have H4 := (H3.box3 hW.out d0 d1 d2 (.bool false) (.slice ad1 n1 cap1) (.int .i64 ((trimK k : Nat) : Int))).step (below_box _ #[.bool false, .slice ad1 n1 cap1, .int .i64 ((trimK k : Nat) : Int)] 24)
    obtain ⟨g0, g1, g2⟩ := box3_cells (w := w1) (g := w.heap.size) hz d0 d1 d2 (.bool false) (.slice ad1 n1 cap1) (.int .i64 ((trimK k : Nat) : Int)) #[.bool false, .slice ad1 n1 cap1, .int .i64 ((trimK k : Nat) : Int)] 24
    refine bodyPost_ret (v := .agg #[.bool false, .slice ad1 n1 cap1, .int .i64 ((trimK k : Nat) : Int)]) (by simp [results, Tryz.results22, go_sem, g0, g1, g2]) rfl ⟨_, by rw [HD.out], ?_⟩
    exact H4
end Go.Proofs.YtogapgjilbcbfaaGreatDoor
