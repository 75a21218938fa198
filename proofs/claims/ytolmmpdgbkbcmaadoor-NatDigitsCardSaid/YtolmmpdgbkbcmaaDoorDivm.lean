/- The long division, as naturals: no walk. -/
import Derived.Test.YtolmmpdgbkbcmaaDoorNk
namespace Go.Proofs.YtolmmpdgbkbcmaaDoor
open Go.RowKit
set_option linter.unusedVariables false

theorem bitLen_zero : Lib.bitLen 0 = 0 := by decide
theorem bitLen_bounds : ∀ (f x : Nat), x ≤ f → x < 2 ^ 64 → x ≠ 0 → 1 ≤ Lib.bitLen x ∧ 2 ^ (Lib.bitLen x - 1) ≤ x ∧ x < 2 ^ Lib.bitLen x := by
  intro f
  induction f with
  | zero => intro x h _ h0; omega
  | succ f ih =>
    intro x h h64 h0
    rw [Lib.bitLen_half x h0 h64]
    by_cases h1 : x / 2 = 0
    · rw [h1, bitLen_zero]
      have : x = 1 := by omega
      subst this; simp
    · obtain ⟨a, b, c⟩ := ih (x / 2) (by omega) (by omega) h1
      generalize Lib.bitLen (x / 2) = t at *
      obtain ⟨u, rfl⟩ : ∃ u, t = u + 1 := ⟨t - 1, by omega⟩
      rw [show 1 + (u + 1) - 1 = u + 1 by omega, show 1 + (u + 1) = u + 2 by omega, Nat.pow_succ, Nat.pow_succ 2 (u + 1), Nat.pow_succ 2 u]
      rw [Nat.add_sub_cancel] at b
      rw [Nat.pow_succ] at c
      omega

/-- By how much a limb is shifted till its highest bit is set. -/
theorem lz_spec {x : Nat} (hx : x < B32) (h0 : x ≠ 0) : 32 - blen x < 32 ∧ B32 ≤ 2 * (x * 2 ^ (32 - blen x)) ∧ x * 2 ^ (32 - blen x) < B32 := by
  have hx' := hx
  rw [B32_eq] at hx'
  obtain ⟨a, b, c⟩ := bitLen_bounds x x (Nat.le_refl _) (by omega) h0
  have d := blen_le x hx'
  unfold blen at *
  generalize Lib.bitLen x = t at *
  have e : B32 = 2 ^ t * 2 ^ (32 - t) := by rw [← Nat.pow_add, show t + (32 - t) = 32 by omega]; rfl
  have e2 : 2 ^ t = 2 * 2 ^ (t - 1) := by rw [Nat.mul_comm, ← Nat.pow_succ]; congr 1; omega
  have hp : 0 < 2 ^ (32 - t) := Nat.pow_pos (by decide)
  generalize 2 ^ (32 - t) = T at *
  refine ⟨by omega, ?_, ?_⟩
  · rw [e, e2, Nat.mul_assoc]
    exact Nat.mul_le_mul_left _ (Nat.mul_le_mul_right _ b)
  · rw [e]; exact Nat.mul_lt_mul_of_pos_right c hp

theorem guess_low {P d D0 wd W0 q : Nat} (hP : 0 < P) (hW : W0 < P) (h : q * (d * P + D0) ≤ wd * P + W0) : q * d ≤ wd := by
  have h1 : q * (d * P) ≤ q * (d * P + D0) := Nat.mul_le_mul_left _ (Nat.le_add_right _ _)
  have h2 : (q * d) * P < (wd + 1) * P := by rw [Nat.mul_assoc, Nat.add_mul, Nat.one_mul]; omega
  have := Nat.lt_of_mul_lt_mul_right h2
  omega
theorem guess_high {B P d D0 wd W0 g : Nat} (hD : D0 ≤ P) (hg : g * d ≤ wd) (hgB : g ≤ B) (hd : B ≤ 2 * d) : g * (d * P + D0) ≤ wd * P + W0 + 2 * (d * P + D0) := by
  have h1 : g * (d * P) ≤ wd * P := by rw [← Nat.mul_assoc]; exact Nat.mul_le_mul_right _ hg
  have h2 : g * D0 ≤ g * P := Nat.mul_le_mul_left _ hD
  have h3 : g * P ≤ (2 * d) * P := Nat.mul_le_mul_right _ (Nat.le_trans hgB hd)
  rw [Nat.mul_assoc] at h3
  rw [Nat.mul_add]
  omega

/-- The guess is the quotient, or at most 2 more. -/
theorem guess_ok {P d D0 h l W0 D W : Nat} (hP : 0 < P) (hW0 : W0 < P) (hD0 : D0 < P) (hd0 : 0 < d) (hd : B32 ≤ 2 * d) (hDe : D = d * P + D0) (hWe : W = wd h l * P + W0) (hlt : W < B32 * D) :
    W / D ≤ gs h l d ∧ gs h l d ≤ W / D + 2 := by
  have hDp : 0 < D := by rw [hDe]; have := Nat.mul_pos hd0 hP; omega
  have hq1 : W / D * D ≤ W := Nat.div_mul_le_self _ _
  have hq2 : W / D < B32 := by rw [Nat.div_lt_iff_lt_mul hDp]; exact hlt
  constructor
  · unfold gs
    rw [Nat.le_min]
    refine ⟨?_, by rw [B32_eq] at hq2; omega⟩
    rw [Nat.le_div_iff_mul_le hd0]
    refine guess_low (P := P) (D0 := D0) (W0 := W0) hP hW0 ?_
    rw [← hDe, ← hWe]; exact hq1
  · have hg1 : gs h l d * d ≤ wd h l := by
      have : gs h l d ≤ wd h l / d := Nat.min_le_left _ _
      exact Nat.le_trans (Nat.mul_le_mul_right _ this) (Nat.div_mul_le_self _ _)
    have hg2 : gs h l d ≤ B32 := Nat.le_of_lt (gs_lt h l d)
    have h3 := guess_high (P := P) (D0 := D0) (W0 := W0) (Nat.le_of_lt hD0) hg1 hg2 hd
    rw [← hDe, ← hWe] at h3
    generalize gs h l d = g at *
    rcases Nat.lt_or_ge g 2 with h4 | h4
    · exact Nat.le_trans (Nat.le_of_lt h4) (Nat.le_add_left _ _)
    · have h5 : (g - 2) * D ≤ W := by rw [Nat.sub_mul]; omega
      have h6 : g - 2 ≤ W / D := by rw [Nat.le_div_iff_mul_le hDp]; exact h5
      clear hq1 hq2 h3 h5 hDe hWe hg1 hg2
      generalize W / D = t at *
      omega

theorem val_drop_add (l : List Nat) (i m : Nat) (h : i + m ≤ l.length) : val (l.drop i) = wv l i m + B32 ^ m * val (l.drop (i + m)) := by
  rw [val_take_drop (l.drop i) m (by rw [List.length_drop]; omega), List.drop_drop]; rfl

/-- What holds of the long division with k places still to come. -/
structure DvInv (n m k : Nat) (Z Q : List Nat) (D V : Nat) : Prop where
  zl : Z.length = n + 1
  zo : Okl Z
  ql : Q.length = n + 1 - m
  qo : Okl Q
  lt : val (Z.drop k) < D
  eq : val Z + D * (B32 ^ k * val (Q.drop k)) = V

theorem tail_zero {Z : List Nat} {i m D : Nat} (hl : i + 1 + m ≤ Z.length) (hlt : val (Z.drop (i + 1)) < D) (hD : D < B32 ^ m) : val (Z.drop (i + (m + 1))) = 0 := by
  rw [val_drop_add Z (i + 1) m hl] at hlt
  rw [show i + (m + 1) = i + 1 + m by omega]
  rcases Nat.eq_zero_or_pos (val (Z.drop (i + 1 + m))) with h | h
  · exact h
  · have := Nat.mul_le_mul_left (B32 ^ m) h
    omega
theorem win_val {Z : List Nat} {i m D : Nat} (hl : i + 1 + m ≤ Z.length) (hlt : val (Z.drop (i + 1)) < D) (hD : D < B32 ^ m) : val (Z.drop i) = wv Z i (m + 1) := by
  rw [val_drop_add Z i (m + 1) (by omega), tail_zero hl hlt hD, Nat.mul_zero, Nat.add_zero]
theorem lt_num {B a x D : Nat} (h1 : a < B) (h2 : x < D) : a + B * x < B * D := by
  have h3 : B * (x + 1) ≤ B * D := Nat.mul_le_mul_left _ h2
  rw [Nat.mul_add, Nat.mul_one] at h3
  omega
theorem win_lt {Z : List Nat} {i D : Nat} (ho : Okl Z) (hl : i < Z.length) (hlt : val (Z.drop (i + 1)) < D) : val (Z.drop i) < B32 * D := by
  rw [val_drop_succ Z i hl]
  exact lt_num (ho.getD i) hlt

theorem dv_num {a z z' P Q D V B q : Nat} (h : a + P * z + D * (P * B * Q) = V) (hz : z' + q * D = z) : a + P * z' + D * (P * (q + B * Q)) = V := by
  subst hz; rw [← h]; grind

theorem dv_step {n m i : Nat} {Z Z' Q : List Nat} {D V q : Nat} (hm : i + 1 + m ≤ n + 1) (hD : D < B32 ^ m) (h : DvInv n m (i + 1) Z Q D V) (hw : Win Z Z' i (m + 1)) (hzo : Okl Z') (hq : q < B32) (he : wv Z' i (m + 1) + q * D = wv Z i (m + 1)) (hlt : wv Z' i (m + 1) < D) :
    DvInv n m i Z' (Q.set i q) D V := by
  have hl' : Z'.length = n + 1 := by rw [hw.len, h.zl]
  have ht := tail_zero (by rw [h.zl]; exact hm) h.lt hD
  have hv := win_val (by rw [h.zl]; exact hm) h.lt hD
  have hv' : val (Z'.drop i) = wv Z' i (m + 1) := by
    rw [val_drop_add Z' i (m + 1) (by omega), hw.hi, ht, Nat.mul_zero, Nat.add_zero]
  refine ⟨hl', hzo, by rw [List.length_set]; exact h.ql, h.qo.set _ _ hq, by rw [hv']; exact hlt, ?_⟩
  have e1 : val Z = val (Z.take i) + B32 ^ i * wv Z i (m + 1) := by rw [val_take_drop Z i (by rw [h.zl]; omega), hv]
  have e2 : val Z' = val (Z.take i) + B32 ^ i * wv Z' i (m + 1) := by rw [val_take_drop Z' i (by omega), hw.lo, hv']
  have e3 : val ((Q.set i q).drop i) = q + B32 * val (Q.drop (i + 1)) := by
    rw [val_drop_succ _ i (by rw [List.length_set, h.ql]; omega), List.drop_set_of_lt (by omega), getD_set_self _ _ _ (by rw [h.ql]; omega)]
  have e4 : B32 ^ (i + 1) = B32 ^ i * B32 := Nat.pow_succ _ _
  have he0 := h.eq
  rw [e1, e4] at he0
  rw [e2, e3]
  clear e1 e2 e3 e4 hv hv' ht hl' h hw hD hlt hq hzo hm
  revert he0
  generalize B32 ^ i = P
  generalize B32 = B
  intro he0
  exact dv_num he0 he

/-- Too much was taken, or just what was to be taken. -/
theorem take_case {W D g v Q q : Nat} (hD : 0 < D) (h1 : W / D ≤ g) (h2 : g ≤ W / D + 2) (hv : v < Q) (hDQ : 2 * D ≤ Q) (h : v + g * D = W + Q * q) : (q = 0 ∧ g = W / D ∧ v < D) ∨ (q = 1 ∧ W / D < g) := by
  have hdm := Nat.div_add_mod W D
  have hml : W % D < D := Nat.mod_lt _ hD
  generalize W / D = t at *
  generalize W % D = r at *
  rw [Nat.mul_comm D t] at hdm
  rcases Nat.eq_zero_or_pos q with h0 | h0
  · left
    subst h0
    rw [Nat.mul_zero, Nat.add_zero] at h
    have : g = t := by
      rcases Nat.lt_or_ge t g with h3 | h3
      · have := Nat.mul_le_mul_right D h3
        rw [Nat.succ_mul] at this
        omega
      · omega
    subst this
    exact ⟨rfl, rfl, by omega⟩
  · right
    have hq : q = 1 := by
      rcases Nat.lt_or_ge 1 q with h3 | h3
      · have h4 := Nat.mul_le_mul_left Q h3
        have h5 := Nat.mul_le_mul_right D h2
        rw [Nat.add_mul] at h5
        omega
      · omega
    subst hq
    refine ⟨rfl, ?_⟩
    rcases Nat.lt_or_ge t g with h3 | h3
    · exact h3
    · have h5 := Nat.mul_le_mul_right D h3
      omega

/-- One was given back. -/
theorem back_case {W D g v v2 Q cy : Nat} (hD : 0 < D) (hg : W / D < g) (hv2 : v2 < Q) (h : v + g * D = W + Q) (hc : cy ≤ 1) (he : v2 + Q * cy = v + D) :
    (cy = 1 ∧ g - 1 = W / D ∧ v2 + (g - 1) * D = W ∧ v2 < D) ∨ (cy = 0 ∧ W / D < g - 1 ∧ v2 + (g - 1) * D = W + Q) := by
  have hdm := Nat.div_add_mod W D
  have hml : W % D < D := Nat.mod_lt _ hD
  generalize W / D = t at *
  generalize W % D = r at *
  rw [Nat.mul_comm D t] at hdm
  obtain ⟨u, rfl⟩ : ∃ u, g = u + 1 := ⟨g - 1, by omega⟩
  rw [Nat.add_sub_cancel]
  rw [Nat.succ_mul] at h
  rcases Nat.eq_zero_or_pos cy with h0 | h0
  · right
    subst h0
    rw [Nat.mul_zero, Nat.add_zero] at he
    have h3 : v2 + u * D = W + Q := by omega
    refine ⟨rfl, ?_, h3⟩
    rcases Nat.lt_or_ge t u with h4 | h4
    · exact h4
    · have := Nat.mul_le_mul_right D h4
      omega
  · left
    obtain rfl : cy = 1 := by omega
    rw [Nat.mul_one] at he
    have h3 : v2 + u * D = W := by omega
    have h4 : u = t := by
      rcases Nat.lt_or_ge t u with h5 | h5
      · have := Nat.mul_le_mul_right D h5
        rw [Nat.succ_mul] at this
        omega
      · omega
    subst h4
    exact ⟨rfl, rfl, h3, by omega⟩
end Go.Proofs.YtolmmpdgbkbcmaaDoor
