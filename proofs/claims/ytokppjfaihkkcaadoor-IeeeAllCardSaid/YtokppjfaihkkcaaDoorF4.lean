/- The walks of ieee's decimal, Exact. -/
import Derived.Test.YtokppjfaihkkcaaDoorF3
import Derived.Test.YtokppjfaihkkcaaDoorC8
namespace Go.Proofs.YtokppjfaihkkcaaDoor
open Go.RowKit Go.Sort
set_option linter.unusedVariables false
set_option linter.unusedSimpArgs false

theorem Ctx.wide {w0 w : World} {l : List Ent} {v : Value} {L L' N : Nat} {xs : List Nat} (h : Ctx w0 w (⟨v, L, N, xs⟩ :: l)) (hL : L ≤ L') : Ctx w0 w (⟨v, L', N, xs⟩ :: l) :=
  ⟨h.below, fun y hy => by
    rcases List.mem_cons.1 hy with rfl | h1
    · obtain ⟨ad, cap, h1, h2, h3, h4⟩ := h.all _ (List.mem_cons_self ..)
      exact ⟨ad, cap, h1, h2, Nat.le_trans h3 hL, h4⟩
    · exact h.all y (List.mem_cons_of_mem _ h1)⟩
/-- The head of a context, over an elder one. -/
theorem Ctx.over {w0 W w5 : World} {l l' : List Ent} {a : Ent} (h : Ctx w0 W l) (h5 : Ctx W w5 (a :: l')) : Ctx w0 w5 (a :: l) := by
  have h2 := h.step h5.below
  exact ⟨h2.below, fun y hy => by
    rcases List.mem_cons.1 hy with rfl | h1
    · exact h5.all _ (List.mem_cons_self ..)
    · exact h2.all y h1⟩

theorem words_ok {s : Nat} (h : s < 18446744073709551616) : Okl [s % 4294967296, s / 4294967296] ∧ val [s % 4294967296, s / 4294967296] = s :=
  ⟨Okl.cons (by rw [B32_eq]; omega) (Okl.cons (by rw [B32_eq]; omega) Okl.nil), by simp [val]; rw [B32_eq]; omega⟩

set_option maxHeartbeats 8000000 in
theorem decimal_any {w0 w : World} {l : List Ent} (h : Ctx w0 w l) (ng : Bool) (s : Nat) (t : Int) (h64 : s < 18446744073709551616) (ht : -1074 ≤ t ∧ t ≤ 1000) (m k : Nat) (hN : decN s t = m * tenN k) (hm : m % 10 ≠ 0) (hlen : (limbs m).length ≤ 90)
    (E : Int) (hE : E = (k : Int) - ((-t).toNat : Int)) (hlo : -1200 ≤ E) (hhi : E ≤ 1200) :
    Calls Tryd.prog 39 #[binV ng s t] w (MadePost w0 l 2000 ng m E true) := by
  obtain ⟨hok, hvl⟩ := words_ok h64
  generalize hA : (#[.bool ng, .int .u64 (s : Int), .int .i64 t] : Array Value) = A
  have hb1 := below_box' w A 73
  have hb2 : Below w.heap.size w ((w.alloc (.cells A 73)).alloc (.cells #[.bool false, .slice none 0 0, .int .i64 0] 25)) := hb1.alloc hb1.size _
  have h2 := h.step hb2
  have h3 := h2.again.lits hok hvl
  rw [show ((w.alloc (.cells A 73)).alloc (.cells #[.bool false, .slice none 0 0, .int .i64 0] 25)).heap.size = w.heap.size + 1 + 1 by simp] at h3
  rw [show ([s % 4294967296, s / 4294967296].map lv).toArray = #[.int .u32 ((s : Int) % 4294967296), .int .u32 ((s : Int) / 4294967296)] by simp [lv]] at h3
  have z0 : (((w.alloc (.cells A 73)).alloc (.cells #[.bool false, .slice none 0 0, .int .i64 0] 25)).alloc (.cells #[.int .u32 ((s : Int) % 4294967296), .int .u32 ((s : Int) / 4294967296)] 54)).cell? ⟨w.heap.size, 0, none⟩ = some (.bool ng) := by rw [cell_old _ _ _ _ (by simp <;> omega), cell_old _ _ _ _ (by simp), cell_new, ← hA]; rfl
  have z2 : (((w.alloc (.cells A 73)).alloc (.cells #[.bool false, .slice none 0 0, .int .i64 0] 25)).alloc (.cells #[.int .u32 ((s : Int) % 4294967296), .int .u32 ((s : Int) / 4294967296)] 54)).cell? ⟨w.heap.size, 2, none⟩ = some (.int .i64 t) := by rw [cell_old _ _ _ _ (by simp <;> omega), cell_old _ _ _ _ (by simp), cell_new, ← hA]; rfl
  have y0 : (((w.alloc (.cells A 73)).alloc (.cells #[.bool false, .slice none 0 0, .int .i64 0] 25)).alloc (.cells #[.int .u32 ((s : Int) % 4294967296), .int .u32 ((s : Int) / 4294967296)] 54)).cell? ⟨w.heap.size + 1, 0, none⟩ = some (.bool false) := by rw [cell_old _ _ _ _ (by simp <;> omega), cell_at _ _ _ _ _ (by simp)]; rfl
  have y1 : (((w.alloc (.cells A 73)).alloc (.cells #[.bool false, .slice none 0 0, .int .i64 0] 25)).alloc (.cells #[.int .u32 ((s : Int) % 4294967296), .int .u32 ((s : Int) / 4294967296)] 54)).cell? ⟨w.heap.size + 1, 1, none⟩ = some (.slice none 0 0) := by rw [cell_old _ _ _ _ (by simp <;> omega), cell_at _ _ _ _ _ (by simp)]; rfl
  have y2 : (((w.alloc (.cells A 73)).alloc (.cells #[.bool false, .slice none 0 0, .int .i64 0] 25)).alloc (.cells #[.int .u32 ((s : Int) % 4294967296), .int .u32 ((s : Int) / 4294967296)] 54)).cell? ⟨w.heap.size + 1, 2, none⟩ = some (.int .i64 0) := by rw [cell_old _ _ _ _ (by simp <;> omega), cell_at _ _ _ _ _ (by simp)]; rfl
  have yf : ∀ j, (((w.alloc (.cells A 73)).alloc (.cells #[.bool false, .slice none 0 0, .int .i64 0] 25)).alloc (.cells #[.int .u32 ((s : Int) % 4294967296), .int .u32 ((s : Int) / 4294967296)] 54)).frozen? ⟨w.heap.size + 1, j, none⟩ = false := fun j => (World.frozen?_alloc_old _ _ _ (by simp)).trans (by rw [show w.heap.size + 1 = (w.alloc (.cells A 73)).heap.size by simp]; exact World.frozen?_alloc_new ..)
  rw [show [s % 4294967296, s / 4294967296].length = 2 from rfl] at h3
  have hbw := hb2.trans (h3.below.mono (by simp <;> omega))
  have hzz : w.heap.size + 1 + 1 + 1 = (((w.alloc (.cells A 73)).alloc (.cells #[.bool false, .slice none 0 0, .int .i64 0] 25)).alloc (.cells #[.int .u32 ((s : Int) % 4294967296), .int .u32 ((s : Int) / 4294967296)] 54)).heap.size := by simp
  generalize hW : (((w.alloc (.cells A 73)).alloc (.cells #[.bool false, .slice none 0 0, .int .i64 0] 25)).alloc (.cells #[.int .u32 ((s : Int) % 4294967296), .int .u32 ((s : Int) / 4294967296)] 54)) = W at *
  have H := Lib.hid (h.step hbw)
  have H3 := Lib.hid h3.again
  have HW := Lib.hid hW
  have HA := Lib.hid hA
  have hne1 : ¬ w.heap.size + 1 = w.heap.size := by omega
  have hz0 : w.heap.size < W.heap.size := by omega
  have hz1 : w.heap.size + 1 < W.heap.size := by omega
  have hg := Lib.hid h.below.size
  clear h h2 h3 hb1 hb2 hbw hW hok hvl hA
  by_cases hneg : t < 0
  · obtain ⟨kk, hkk⟩ : ∃ kk : Nat, (-t).toNat = kk := ⟨_, rfl⟩
    have hN2 : s * 5 ^ kk = m * tenN k := by
      unfold decN at hN
      rw [hkk, show t.toNat = 0 by omega, Nat.pow_zero, Nat.mul_one] at hN; exact hN
    have hnw : IntKind.i64.wrap (-t) = -t := IntWalk.i64_in _ (by omega)
    have HE := Lib.hid (show t + (k : Int) = E by omega)
    have hkb : kk ≤ 1074 := by omega
    have KP := Lib.hid (fun W' (h : Ctx W W' (⟨.slice (some ⟨w.heap.size + 1 + 1, 0, none⟩) 2 2, 2, s, [s % 4294967296, s / 4294967296]⟩ :: l)) => pow_c h (b := 5) (by decide) (-t) kk (by unfold cutP; omega))
    clear hE
    have KM := Lib.hid (fun W' v1 (h : Ctx W W' (⟨v1, kk + 1, 5 ^ kk, limbs (5 ^ kk)⟩ :: ⟨.slice (some ⟨w.heap.size + 1 + 1, 0, none⟩) 2 2, 2, s, [s % 4294967296, s / 4294967296]⟩ :: l)) => mul_c h 1 0 rfl rfl (by decide) (by omega))
    have KK := Lib.hid (fun W' v1 v2 (h : Ctx W W' (⟨v2, 2 + (kk + 1), s * 5 ^ kk, limbs (s * 5 ^ kk)⟩ :: ⟨v1, kk + 1, 5 ^ kk, limbs (5 ^ kk)⟩ :: ⟨.slice (some ⟨w.heap.size + 1 + 1, 0, none⟩) 2 2, 2, s, [s % 4294967296, s / 4294967296]⟩ :: l)) => make_yes2 h 0 rfl (by omega) ng t m k hN2 hm hlen E HE.out hlo hhi)
    clear hN2 hN
    generalize 5 ^ kk = PP at *
    go_enter Tryd.func39, Tryd.ntmps39
    unfold binV
    go_wp2_with fail
    rw [HA.out, HW.out]
    go_region_held3 (fun w' => w'.cell? ⟨w.heap.size, 0, none⟩ = some (.bool ng) ∧ w'.cell? ⟨w.heap.size, 2, none⟩ = some (.int .i64 t)) (go_keep)
      (first
      | (go_at_call 67; refine (KP.out _ (by exact H3.out.step (below_drew (Below.refl _ _)))).mono ?_; rintro r w1 ⟨v1, rfl, h1⟩; have hB1 := h1.below; have H1 := Lib.hid h1; clear h1; have q0 := (hB1.cell (p := ⟨w.heap.size, 0, none⟩) hz0).trans z0; have q2 := (hB1.cell (p := ⟨w.heap.size, 2, none⟩) hz0).trans z2)
      | (go_at_call 66; refine (KM.out _ _ (by exact H1.out)).mono ?_; rintro r w2 ⟨v2, rfl, h2⟩; have hB2 := h2.below; have H2 := Lib.hid h2; clear h2; have q0 := (hB2.cell (p := ⟨w.heap.size, 0, none⟩) hz0).trans z0; have q2 := (hB2.cell (p := ⟨w.heap.size, 2, none⟩) hz0).trans z2)
      | (go_at_call 63; refine (KK.out _ _ _ (by exact H2.out)).mono ?_; rintro r w3 ⟨v3, rfl, h3⟩; have hB3 := h3.below; obtain ⟨ad3, cap3, hv3, _⟩ := h3.get 0 rfl; subst hv3; have H4 := Lib.hid h3; clear h3; have q0 := (hB3.cell (p := ⟨w.heap.size, 0, none⟩) hz0).trans z0; have q2 := (hB3.cell (p := ⟨w.heap.size, 2, none⟩) hz0).trans z2; have x0 := (hB3.cell (p := ⟨w.heap.size + 1, 0, none⟩) hz1).trans y0; have x1 := (hB3.cell (p := ⟨w.heap.size + 1, 1, none⟩) hz1).trans y1; have x2 := (hB3.cell (p := ⟨w.heap.size + 1, 2, none⟩) hz1).trans y2; have xf0 := (hB3.frozen (p := ⟨w.heap.size + 1, 0, none⟩) hz1).trans (yf 0); have xf1 := (hB3.frozen (p := ⟨w.heap.size + 1, 1, none⟩) hz1).trans (yf 1); have xf2 := (hB3.frozen (p := ⟨w.heap.size + 1, 2, none⟩) hz1).trans (yf 2)))
    all_goals
      have H5 := ((Ctx.over H.out H4.out).box3 (g := w.heap.size + 1) (b := false) (a := none) (n := 0) (c := 0) (x := 0) (Nat.le_succ_of_le hg.out) x0 x1 x2 (.bool ng) (.slice ad3 (limbs m).length cap3) (.int .i64 E)).wide (L' := 2000) (by omega)
      have H6 := Lib.hid H5; clear H5
      go_wp2_with fail
      exact bodyPost_ret (v := .tuple #[.agg #[.bool ng, .slice ad3 (limbs m).length cap3, .int .i64 E], .bool true]) (by simp [results, Tryd.results39, go_sem, x0, x1, x2]) rfl ⟨_, rfl, H6.out⟩
  · obtain ⟨kk, hkk⟩ : ∃ kk : Nat, t.toNat = kk := ⟨_, rfl⟩
    have hN2 : s * 2 ^ kk = m * tenN k := by
      unfold decN at hN
      rw [hkk, show (-t).toNat = 0 by omega, Nat.pow_zero, Nat.mul_one] at hN; exact hN
    have hkb : kk ≤ 1000 := by omega
    have HE := Lib.hid (show 0 + (k : Int) = E by omega)
    have KP := Lib.hid (fun W' (h : Ctx W W' (⟨.slice (some ⟨w.heap.size + 1 + 1, 0, none⟩) 2 2, 2, s, [s % 4294967296, s / 4294967296]⟩ :: l)) => pow_c h (b := 2) (by decide) t kk (by unfold cutP; omega))
    clear hE
    have KM := Lib.hid (fun W' v1 (h : Ctx W W' (⟨v1, kk + 1, 2 ^ kk, limbs (2 ^ kk)⟩ :: ⟨.slice (some ⟨w.heap.size + 1 + 1, 0, none⟩) 2 2, 2, s, [s % 4294967296, s / 4294967296]⟩ :: l)) => mul_c h 1 0 rfl rfl (by decide) (by omega))
    have KK := Lib.hid (fun W' v1 v2 (h : Ctx W W' (⟨v2, 2 + (kk + 1), s * 2 ^ kk, limbs (s * 2 ^ kk)⟩ :: ⟨v1, kk + 1, 2 ^ kk, limbs (2 ^ kk)⟩ :: ⟨.slice (some ⟨w.heap.size + 1 + 1, 0, none⟩) 2 2, 2, s, [s % 4294967296, s / 4294967296]⟩ :: l)) => make_yes2 h 0 rfl (by omega) ng 0 m k hN2 hm hlen E HE.out hlo hhi)
    clear hN2 hN
    generalize 2 ^ kk = PP at *
    go_enter Tryd.func39, Tryd.ntmps39
    unfold binV
    go_wp2_with fail
    rw [HA.out, HW.out]
    go_region_held3 (fun w' => w'.cell? ⟨w.heap.size, 0, none⟩ = some (.bool ng) ∧ w'.cell? ⟨w.heap.size, 2, none⟩ = some (.int .i64 t)) (go_keep)
      (first
      | (go_at_call 67; refine (KP.out _ (by exact H3.out.step (below_drew (Below.refl _ _)))).mono ?_; rintro r w1 ⟨v1, rfl, h1⟩; have hB1 := h1.below; have H1 := Lib.hid h1; clear h1; have q0 := (hB1.cell (p := ⟨w.heap.size, 0, none⟩) hz0).trans z0; have q2 := (hB1.cell (p := ⟨w.heap.size, 2, none⟩) hz0).trans z2)
      | (go_at_call 66; refine (KM.out _ _ (by exact H1.out)).mono ?_; rintro r w2 ⟨v2, rfl, h2⟩; have hB2 := h2.below; have H2 := Lib.hid h2; clear h2; have q0 := (hB2.cell (p := ⟨w.heap.size, 0, none⟩) hz0).trans z0; have q2 := (hB2.cell (p := ⟨w.heap.size, 2, none⟩) hz0).trans z2)
      | (go_at_call 63; refine (KK.out _ _ _ (by exact H2.out)).mono ?_; rintro r w3 ⟨v3, rfl, h3⟩; have hB3 := h3.below; obtain ⟨ad3, cap3, hv3, _⟩ := h3.get 0 rfl; subst hv3; have H4 := Lib.hid h3; clear h3; have q0 := (hB3.cell (p := ⟨w.heap.size, 0, none⟩) hz0).trans z0; have q2 := (hB3.cell (p := ⟨w.heap.size, 2, none⟩) hz0).trans z2; have x0 := (hB3.cell (p := ⟨w.heap.size + 1, 0, none⟩) hz1).trans y0; have x1 := (hB3.cell (p := ⟨w.heap.size + 1, 1, none⟩) hz1).trans y1; have x2 := (hB3.cell (p := ⟨w.heap.size + 1, 2, none⟩) hz1).trans y2; have xf0 := (hB3.frozen (p := ⟨w.heap.size + 1, 0, none⟩) hz1).trans (yf 0); have xf1 := (hB3.frozen (p := ⟨w.heap.size + 1, 1, none⟩) hz1).trans (yf 1); have xf2 := (hB3.frozen (p := ⟨w.heap.size + 1, 2, none⟩) hz1).trans (yf 2)))
    all_goals
      have H5 := ((Ctx.over H.out H4.out).box3 (g := w.heap.size + 1) (b := false) (a := none) (n := 0) (c := 0) (x := 0) (Nat.le_succ_of_le hg.out) x0 x1 x2 (.bool ng) (.slice ad3 (limbs m).length cap3) (.int .i64 E)).wide (L' := 2000) (by omega)
      have H6 := Lib.hid H5; clear H5
      go_wp2_with fail
      exact bodyPost_ret (v := .tuple #[.agg #[.bool ng, .slice ad3 (limbs m).length cap3, .int .i64 E], .bool true]) (by simp [results, Tryd.results39, go_sem, x0, x1, x2]) rfl ⟨_, rfl, H6.out⟩
end Go.Proofs.YtokppjfaihkkcaaDoor
