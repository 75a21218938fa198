/- The walk of ieee's Exact. -/
import Derived.Test.YtokppjfaihkkcaaDoorF4
namespace Go.Proofs.YtokppjfaihkkcaaDoor
open Go.RowKit Go.Sort
set_option linter.unusedVariables false
set_option linter.unusedSimpArgs false

theorem five_le (a : Nat) : 5 ^ a ≤ 2 ^ (7 * (a / 3) + 6) := by
  have h1 : 5 ^ a = 125 ^ (a / 3) * 5 ^ (a % 3) := by
    rw [show (125 : Nat) = 5 ^ 3 from rfl, ← Nat.pow_mul, ← Nat.pow_add, Nat.div_add_mod]
  have h2 : 125 ^ (a / 3) ≤ 2 ^ (7 * (a / 3)) := by rw [Nat.pow_mul]; exact Nat.pow_le_pow_left (by decide) _
  have h3 : 5 ^ (a % 3) ≤ 2 ^ 6 := Nat.le_trans (Nat.pow_le_pow_right (by decide) (show a % 3 ≤ 2 by omega)) (by decide)
  rw [h1, Nat.pow_add]
  exact Nat.mul_le_mul h2 h3
theorem dec_lt {s K : Nat} {t : Int} (hs : s < 2 ^ 53) (ht : -1074 ≤ t ∧ t ≤ 1000) (hK : 2600 ≤ K) : decN s t < 2 ^ K := by
  unfold decN
  by_cases h : t < 0
  · rw [show t.toNat = 0 by omega, Nat.pow_zero, Nat.mul_one]
    have h2 : s * 5 ^ (-t).toNat < 2 ^ 53 * 2 ^ (7 * ((-t).toNat / 3) + 6) := Nat.lt_of_lt_of_le (Nat.mul_lt_mul_of_pos_right hs (five_pos _)) (Nat.mul_le_mul_left _ (five_le _))
    rw [← Nat.pow_add] at h2
    exact Nat.lt_of_lt_of_le h2 (Nat.pow_le_pow_right (by decide) (by omega))
  · rw [show (-t).toNat = 0 by omega, Nat.pow_zero, Nat.mul_one]
    have h2 : s * 2 ^ t.toNat < 2 ^ 53 * 2 ^ t.toNat := Nat.mul_lt_mul_of_pos_right hs (twop_pos _)
    rw [← Nat.pow_add] at h2
    exact Nat.lt_of_lt_of_le h2 (Nat.pow_le_pow_right (by decide) (by omega))
theorem ex_bounds {e f x : Nat} (hl : Lay e f) (hk : kindF e f x = 1) : exN e f x = exM e f x * tenN (trimK (exN e f x)) ∧ exM e f x % 10 ≠ 0 ∧ (limbs (exM e f x)).length ≤ 90 ∧ -1200 ≤ exE e f x ∧ exE e f x ≤ 1200 := by
  obtain ⟨h1, h2⟩ := trim_spec (decN_ne (t := twosF e f x) (sizeF_ne hk))
  have hb := twosF_bd (x := x) hl
  have hs : sizeF e f x < 2 ^ 53 := Nat.lt_of_lt_of_le (sizeF_lt e f x) (Nat.pow_le_pow_right (by decide) (by have := (lay_bd hl).2.2.2.1; omega))
  obtain ⟨L, hL⟩ : ∃ L, L = 90 := ⟨_, rfl⟩
  have hlt := dec_lt (K := 32 * L) hs ⟨hb.1, by omega⟩ (by omega)
  refine ⟨h1, h2, ?_, ?_, ?_⟩
  · rw [← hL]
    refine limbs_length_le ?_
    have e1 : B32 ^ L = 2 ^ (32 * L) := by rw [Nat.pow_mul]; rfl
    rw [e1]
    refine Nat.lt_of_le_of_lt (?_ : exM e f x ≤ decN (sizeF e f x) (twosF e f x)) hlt
    conv => rhs; rw [h1]
    exact Nat.le_mul_of_pos_right _ (tenN_pos _)
  · unfold exE; omega
  · have h3 : tenN (trimK (exN e f x)) ≤ decN (sizeF e f x) (twosF e f x) := by
      conv => rhs; rw [h1]
      exact Nat.le_mul_of_pos_left _ (by omega)
    have h4 : 2 ^ (3 * trimK (exN e f x)) ≤ tenN (trimK (exN e f x)) := by
      rw [Nat.pow_mul]; exact Nat.pow_le_pow_left (by decide) _
    have h5 := two_lt_iff.1 (Nat.lt_of_le_of_lt (Nat.le_trans h4 h3) hlt)
    unfold exE; omega

def exNegW (width : Int) (x : Nat) : Bool := match layOf width with | some (e, f) => decide (kindF e f x = 1) && fNeg e f x | none => false
def exMW (width : Int) (x : Nat) : Nat := match layOf width with | some (e, f) => if kindF e f x = 1 then exM e f x else 0 | none => 0
def exEW (width : Int) (x : Nat) : Int := match layOf width with | some (e, f) => if kindF e f x = 1 then exE e f x else 0 | none => 0

set_option maxHeartbeats 8000000 in
theorem exact_no {w0 w : World} {l : List Ent} (h : Ctx w0 w l) (width : Int) (x : Nat) (k : Int) (b : Bool) (hb : (k == 2) = b) (h1 : (k == 1) = false) (KK : ∀ W, Calls Tryd.prog 19 #[.int .i64 width, .int .u64 (x : Int)] W (IntBelow k W)) :
    Calls Tryd.prog 12 #[.int .i64 width, .int .u64 (x : Int)] w (MadePost w0 l 2000 false 0 0 b) := by
  have KKH := Lib.hid KK
  have H := Lib.hid h
  have hg := Lib.hid h.below.size
  clear KK h
  cases b
  all_goals
    go_enter Tryd.func12, Tryd.ntmps12
    go_wp2_with fail
    refine (KKH.out _).mono ?_
    rintro r w1 ⟨rfl, hb1⟩
    obtain ⟨hc1, hf1⟩ := bcell hb1
    have x0 : w1.cell? ⟨w.heap.size, 0, none⟩ = some (.bool false) := by rw [hc1 _ _ (by simp)]; simp
    have x1 : w1.cell? ⟨w.heap.size, 1, none⟩ = some (.slice none 0 0) := by rw [hc1 _ _ (by simp)]; simp
    have x2 : w1.cell? ⟨w.heap.size, 2, none⟩ = some (.int .i64 0) := by rw [hc1 _ _ (by simp)]; simp
    have hz : w.heap.size < w1.heap.size := by have h := hb1.size; (try simp at h); omega
    have H5 := Lib.hid (((H.out.step (below_box' w _ _)).step hb1).box3 (g := w.heap.size) (b := false) (a := none) (n := 0) (c := 0) (x := 0) hg.out x0 x1 x2 (.bool false) (.slice none 0 0) (.int .i64 0))
    clear hb1
    go_wp2_with fail
    first
      | exact bodyPost_ret (v := .tuple #[.agg #[.bool false, .slice none 0 0, .int .i64 0], .bool true]) (by simp [results, Tryd.results12, go_sem, x0, x1, x2]) rfl ⟨_, rfl, H5.out.push (ent_nil _ _)⟩
      | exact bodyPost_ret (v := .tuple #[.agg #[.bool false, .slice none 0 0, .int .i64 0], .bool false]) (by simp [results, Tryd.results12, go_sem, x0, x1, x2]) rfl ⟨_, rfl, H5.out.push (ent_nil _ _)⟩

set_option maxHeartbeats 8000000 in
theorem exact_yes {w0 w : World} {l : List Ent} (h : Ctx w0 w l) (width : Int) (x : Nat) (hx : x < 18446744073709551616) {e f : Nat} (hl : Lay e f) (hlo : layOf width = some (e, f)) (hk : kindF e f x = 1) :
    Calls Tryd.prog 12 #[.int .i64 width, .int .u64 (x : Int)] w (MadePost w0 l 2000 (fNeg e f x) (exM e f x) (exE e f x) true) := by
  obtain ⟨e1, e2, e3, e4, e5⟩ := ex_bounds hl hk
  have KK := fun W => kind_any width x hx W
  rw [show kindW width x = 1 by unfold kindW; rw [hlo]; simp [hk]] at KK
  have KKH := Lib.hid KK
  have KL := fun W => layoutOf_any width W
  unfold layA at KL
  rw [hlo] at KL
  have KLH := Lib.hid KL
  have KSH := Lib.hid (fun W => split_any hl x hx W)
  have KBH := Lib.hid (fun W => binary_any hl x W)
  have hb := twosF_bd (x := x) hl
  have h64 := size_le_64 (x := x) hl
  have KDH := Lib.hid (fun W (h : Ctx W W l) => decimal_any h (fNeg e f x) (sizeF e f x) (twosF e f x) h64 ⟨hb.1, by omega⟩ (exM e f x) _ e1 e2 e3 (exE e f x) rfl e4 e5)
  have H := Lib.hid h
  have hg := Lib.hid h.below.size
  clear KK KL hb h64 e1 e2 e3 e4 e5 hk hlo h hl
  generalize fNeg e f x = ng at *
  generalize exM e f x = m at *
  generalize exE e f x = E at *
  generalize sizeF e f x = s at *
  generalize twosF e f x = t at *
  generalize partV e f x = pv at *
  unfold layV at *
  go_enter Tryd.func12, Tryd.ntmps12
  go_wp2_with fail
  refine (KKH.out _).mono ?_
  rintro r w1 ⟨rfl, hb1⟩
  have HB1 := Lib.hid (below_on (below_box' w #[.bool false, .slice none 0 0, .int .i64 0] 25) hb1)
  obtain ⟨hc1, hf1⟩ := bcell hb1
  have x0 : w1.cell? ⟨w.heap.size, 0, none⟩ = some (.bool false) := by rw [hc1 _ _ (by simp)]; simp
  have x1 : w1.cell? ⟨w.heap.size, 1, none⟩ = some (.slice none 0 0) := by rw [hc1 _ _ (by simp)]; simp
  have x2 : w1.cell? ⟨w.heap.size, 2, none⟩ = some (.int .i64 0) := by rw [hc1 _ _ (by simp)]; simp
  have xf : ∀ j, w1.frozen? ⟨w.heap.size, j, none⟩ = false := fun j => by rw [hf1 _ _ (by simp)]; simp [go_sem]
  have hz1 : w.heap.size < w1.heap.size := by have h := hb1.size; (try simp at h); omega
  clear hb1 hc1 hf1
  go_wp2_with fail
  refine (KLH.out _).mono ?_
  rintro r w2 ⟨rfl, hb2⟩
  have hbw := (below_on hb2 (below_box' w2 #[.int .i64 (e : Int), .int .i64 (f : Int)] 68))
  have z0 : (w2.alloc (.cells #[.int .i64 (e : Int), .int .i64 (f : Int)] 68)).cell? ⟨w2.heap.size, 0, none⟩ = some (.int .i64 (e : Int)) := by simp
  have z1 : (w2.alloc (.cells #[.int .i64 (e : Int), .int .i64 (f : Int)] 68)).cell? ⟨w2.heap.size, 1, none⟩ = some (.int .i64 (f : Int)) := by simp
  have hzz : (w2.alloc (.cells #[.int .i64 (e : Int), .int .i64 (f : Int)] 68)).heap.size = w2.heap.size + 1 := by simp
  have hz2 : w1.heap.size ≤ w2.heap.size := hb2.size
  clear hb2
  go_wp2_with fail
  generalize hW : w2.alloc (.cells #[.int .i64 (e : Int), .int .i64 (f : Int)] 68) = W at *
  have hwz : w.heap.size < W.heap.size := by omega
  have hwz2 : w2.heap.size < W.heap.size := by omega
  have y0 : W.cell? ⟨w.heap.size, 0, none⟩ = some (.bool false) := (hbw.cell (p := ⟨w.heap.size, 0, none⟩) hz1).trans x0
  have y1 : W.cell? ⟨w.heap.size, 1, none⟩ = some (.slice none 0 0) := (hbw.cell (p := ⟨w.heap.size, 1, none⟩) hz1).trans x1
  have y2 : W.cell? ⟨w.heap.size, 2, none⟩ = some (.int .i64 0) := (hbw.cell (p := ⟨w.heap.size, 2, none⟩) hz1).trans x2
  have yf : ∀ j, W.frozen? ⟨w.heap.size, j, none⟩ = false := fun j => (hbw.frozen (p := ⟨w.heap.size, j, none⟩) hz1).trans (xf j)
  have HBW := Lib.hid (below_on HB1.out hbw)
  have HCW := Lib.hid (H.out.step HBW.out)
  have hne1 : ¬ w.heap.size = w2.heap.size := by omega
  have hne2 : ¬ w2.heap.size = w.heap.size := by omega
  clear x0 x1 x2 xf hW hzz hbw
  go_region_held3 (fun w' => w'.cell? ⟨w2.heap.size, 0, none⟩ = some (.int .i64 (e : Int)) ∧ w'.cell? ⟨w2.heap.size, 1, none⟩ = some (.int .i64 (f : Int))) (go_keep)
    (first
      | (go_at_call 41; refine (KSH.out _).mono ?_; rintro r w3 ⟨rfl, hb3⟩; have hB3 := below_on (below_drew (Below.refl W.heap.size W)) hb3; have q0 := (hB3.cell (p := ⟨w2.heap.size, 0, none⟩) hwz2).trans z0; have q1 := (hB3.cell (p := ⟨w2.heap.size, 1, none⟩) hwz2).trans z1)
      | (go_at_call 40; refine (KBH.out _).mono ?_; rintro r w4 ⟨rfl, hb4⟩; have hB4 := below_on hB3 hb4; have q0 := (hB4.cell (p := ⟨w2.heap.size, 0, none⟩) hwz2).trans z0; have q1 := (hB4.cell (p := ⟨w2.heap.size, 1, none⟩) hwz2).trans z1)
      | (go_at_call 39; refine (KDH.out _ (by exact (HCW.out.step hB4).again)).mono ?_; rintro r w5 ⟨v5, rfl, h5⟩; obtain ⟨ad5, cap5, hv5, _⟩ := h5.get 0 rfl; subst hv5; have hB5 := below_on hB4 h5.below; have q0 := (hB5.cell (p := ⟨w2.heap.size, 0, none⟩) hwz2).trans z0; have q1 := (hB5.cell (p := ⟨w2.heap.size, 1, none⟩) hwz2).trans z1; have x0 := (hB5.cell (p := ⟨w.heap.size, 0, none⟩) hwz).trans y0; have x1 := (hB5.cell (p := ⟨w.heap.size, 1, none⟩) hwz).trans y1; have x2 := (hB5.cell (p := ⟨w.heap.size, 2, none⟩) hwz).trans y2; have xf0 := (hB5.frozen (p := ⟨w.heap.size, 0, none⟩) hwz).trans (yf 0); have xf1 := (hB5.frozen (p := ⟨w.heap.size, 1, none⟩) hwz).trans (yf 1); have xf2 := (hB5.frozen (p := ⟨w.heap.size, 2, none⟩) hwz).trans (yf 2); have H5 := Lib.hid h5; clear h5))
  all_goals
    have H6 := Lib.hid ((Ctx.over (HCW.out.step hB4) H5.out).box3 (g := w.heap.size) (b := false) (a := none) (n := 0) (c := 0) (x := 0) hg.out x0 x1 x2 (.bool ng) (.slice ad5 (limbs m).length cap5) (.int .i64 E))
    go_wp2_with fail
    exact bodyPost_ret (v := .tuple #[.agg #[.bool ng, .slice ad5 (limbs m).length cap5, .int .i64 E], .bool true]) (by simp [results, Tryd.results12, go_sem, x0, x1, x2]) rfl ⟨_, rfl, H6.out⟩
end Go.Proofs.YtokppjfaihkkcaaDoor
