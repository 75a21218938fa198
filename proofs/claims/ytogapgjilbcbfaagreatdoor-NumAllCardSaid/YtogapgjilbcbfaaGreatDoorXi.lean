/- For the law NumAll: a copy of a number; the region that makes two. -/
import Derived.Test.YtogapgjilbcbfaaGreatDoorXh
namespace Go.Proofs.YtogapgjilbcbfaaGreatDoor
open Go.RowKit Go.Sort
set_option linter.unusedVariables false
set_option linter.unusedSimpArgs false

set_option maxHeartbeats 4000000 in
set_option maxRecDepth 100000 in
theorem rnum_any {w0 w : World} {l : List Ent} (h : Ctx w0 w l) (ng : Bool) (ad : Option Addr) (n cap : Nat) (xs : List Nat) (E : Int) (hn : xs.length = n) (hcap : n ≤ cap) (hm : n ≤ 100000000) (ho : Okl xs) (hr : Rd w ad xs) :
    Calls Tryz.prog 6 #[.agg #[.bool ng, .slice ad n cap, .int .i64 E]] w fun r w' => ∃ v, r = .returned (.agg #[.bool ng, v, .int .i64 E]) ∧ Ctx w0 w' (⟨v, n, val xs, xs⟩ :: l) := by
  have hbl : Below w.heap.size w ((w.alloc (.cells #[.bool ng, .slice ad n cap, .int .i64 E] 24)).alloc (.cells #[.bool false, .slice none 0 0, .int .i64 0] 24)) := ((Below.refl _ _).alloc (Nat.le_refl _) _).alloc (by simp) _
  obtain ⟨W0, hW0⟩ : ∃ W0, W0 = (w.alloc (.cells #[.bool ng, .slice ad n cap, .int .i64 E] 24)).alloc (.cells #[.bool false, .slice none 0 0, .int .i64 0] 24) := ⟨_, rfl⟩
  rw [← hW0] at hbl
  have hsz : W0.heap.size = w.heap.size + 2 := by rw [hW0]; simp
  have q0 : W0.cell? ⟨w.heap.size, 0, none⟩ = some (.bool ng) := by rw [hW0]; simp
  have q1 : W0.cell? ⟨w.heap.size, 1, none⟩ = some (.slice ad n cap) := by rw [hW0]; simp
  have q2 : W0.cell? ⟨w.heap.size, 2, none⟩ = some (.int .i64 E) := by rw [hW0]; simp
  have p0 : W0.cell? ⟨w.heap.size + 1, 0, none⟩ = some (.bool false) := by rw [hW0]; simp
  have p1 : W0.cell? ⟨w.heap.size + 1, 1, none⟩ = some (.slice none 0 0) := by rw [hW0]; simp
  have p2 : W0.cell? ⟨w.heap.size + 1, 2, none⟩ = some (.int .i64 0) := by rw [hW0]; simp
  have g0 : W0.frozen? ⟨w.heap.size + 1, 0, none⟩ = false := by rw [hW0]; simp
  have g1 : W0.frozen? ⟨w.heap.size + 1, 1, none⟩ = false := by rw [hW0]; simp
  have g2 : W0.frozen? ⟨w.heap.size + 1, 2, none⟩ = false := by rw [hW0]; simp
  have KL := Lib.hid (fun W (h : Below W0.heap.size W0 W) => limbs_any ad n cap xs W hn hm ho ((hr.below hbl).below h))
  have HB := Lib.hid (h.step hbl)
  have HS0 := Lib.hid h.below.size
  have HNN := Lib.hid hn
  clear hbl h hn ho hr
  go_enter Tryz.func6, Tryz.ntmps6
  go_upto_region 1 with fail
  rw [← hW0]
  clear hW0
  have hz0 : w.heap.size < W0.heap.size := by omega
  have hz1 : w.heap.size + 1 < W0.heap.size := by omega
  go_region_held_law (fun w' => w'.cell? ⟨w.heap.size, 0, none⟩ = some (.bool ng) ∧ w'.cell? ⟨w.heap.size, 1, none⟩ = some (.slice ad n cap) ∧ w'.cell? ⟨w.heap.size, 2, none⟩ = some (.int .i64 E)) (first | exact ⟨x0, x1, x2⟩ | go_keep | (refine ⟨?_, ?_, ?_⟩ <;> (repeat rw [World.cell?_setCell_other (h := by simp)]) <;> first | exact x0 | exact x1 | exact x2))
    (first | (refine step_callX rfl 8 _ Tryz.func8 (by kernel_rfl) (by kernel_rfl) _ _ rfl #[.slice ad n cap] (by simp [Act.eval, Act.put]) (KL.out _ (below_drew (Below.refl _ _))) ?_; rintro r w8 ⟨v8, rfl, ho8, hb8⟩; have x0 := (hb8.cell (p := ⟨w.heap.size, 0, none⟩) hz0).trans q0; have x1 := (hb8.cell (p := ⟨w.heap.size, 1, none⟩) hz0).trans q1; have x2 := (hb8.cell (p := ⟨w.heap.size, 2, none⟩) hz0).trans q2; have y0 := (hb8.cell (p := ⟨w.heap.size + 1, 0, none⟩) hz1).trans p0; have y1 := (hb8.cell (p := ⟨w.heap.size + 1, 1, none⟩) hz1).trans p1; have y2 := (hb8.cell (p := ⟨w.heap.size + 1, 2, none⟩) hz1).trans p2; have z0 := (hb8.frozen (p := ⟨w.heap.size + 1, 0, none⟩) hz1).trans g0; have z1 := (hb8.frozen (p := ⟨w.heap.size + 1, 1, none⟩) hz1).trans g1; have z2 := (hb8.frozen (p := ⟨w.heap.size + 1, 2, none⟩) hz1).trans g2; obtain ⟨a8, c8, rfl, _⟩ := ho8.view; refine ⟨_, rfl, ?_⟩))
  all_goals (try go_wp2_with fail)
  have hx := (((HB.out.step ((below_drew (Below.refl _ _)).trans hb8)).push (ent_any (L := n) ho8 (by rw [HNN.out]; exact Nat.le_refl _) rfl)).box3 (Nat.le_trans HS0.out (Nat.le_add_right _ 1)) y0 y1 y2 (.bool ng) (.slice a8 xs.length c8) (.int .i64 E))
  have HX := Lib.hid hx
  clear hx ho8 hb8
  exact bodyPost_ret (v := .agg #[.bool ng, .slice a8 xs.length c8, .int .i64 E]) (by simp [results, Tryz.results6, go_sem, y0, y1, y2]) rfl ⟨_, rfl, HX.out⟩

theorem numC_any (ng : Bool) (ad : Option Addr) (n cap : Nat) (xs : List Nat) (E : Int) (w : World) (h : NumAt w ad n cap xs) :
    Calls Tryz.prog 6 #[.agg #[.bool ng, .slice ad n cap, .int .i64 E]] w fun r w' => ∃ a c, r = .returned (.agg #[.bool ng, .slice a n c, .int .i64 E]) ∧ Ctx w w' (⟨.slice a n c, n, val xs, xs⟩ :: []) ∧ Below w.heap.size w w' :=
  (rnum_any (Ctx.begin w) ng ad n cap xs E h.len h.cap h.big h.ok h.rd).mono fun r w' ⟨v, hr, hc⟩ => by
    obtain ⟨a, c, rfl, _⟩ := hc.get 0 rfl
    rw [h.len] at hr hc
    exact ⟨a, c, hr, hc, hc.below⟩
end Go.Proofs.YtogapgjilbcbfaaGreatDoor
