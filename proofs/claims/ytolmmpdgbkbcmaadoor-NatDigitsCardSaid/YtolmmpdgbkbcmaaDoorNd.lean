/- The walk of takeTimes. -/
import Derived.Test.YtolmmpdgbkbcmaaDoorNc
namespace Go.Proofs.YtolmmpdgbkbcmaaDoor
open Go.RowKit
set_option linter.unusedVariables false

/-- What takeTimes leaves: what was too much is q, times the base as often as the list has limbs. -/
def TakePost (g o n : Nat) (ys xs : List Nat) (f : Nat) (r : List Value) (w : World) (e : Ending) (w' : World) : Prop :=
  ∃ zs q, e = .returned (.bool (decide ((0 : Int) < (q : Nat)))) ∧ Win ys zs o n ∧ Okl zs ∧ wv zs o n + f * val xs = wv ys o n + B32 ^ n * q ∧ w' = put g zs r w

def TKRel (g o n : Nat) (ys xs : List Nat) (f k0 : Nat) (r : List Value) (w : World) (c br i : Value) (wr : World) : Prop :=
  ∃ (k cy bo : Nat) (zs : List Nat), k ≤ n ∧ k0 ≤ k ∧ i = .int .i64 k ∧ c = .int .u64 cy ∧ br = .int .u32 bo ∧ cy < B32 ∧ bo ≤ 1 ∧ Win ys zs o n ∧ Okl zs ∧ (∀ j, k ≤ j → zs.getD (o + j) 0 = ys.getD (o + j) 0) ∧
    wv zs o k + f * val (xs.take k) = wv ys o k + B32 ^ k * (cy + bo) ∧ wr = put g zs r w

theorem tk_num {x z c b c' b' B a P W V f d l : Nat} (h : a + f * V = W + P * (c + b)) (e1 : l + B * c' = x * f + c) (e2 : z + B * b' = d + l + b) : a + P * d + f * (V + P * x) = W + P * z + P * B * (c' + b') := by
  have h3 : P * (l + B * c') = P * (x * f + c) := by rw [e1]
  have h4 : P * (z + B * b') = P * (d + l + b) := by rw [e2]
  grind

theorem tk_step {g o n k k0 cy bo x z f c' l : Nat} {ys xs zs : List Nat} {r : List Value} {w : World} (hyl : o + n ≤ ys.length) (hk : k < n) (hk0 : k0 ≤ k) (hbo : bo ≤ 1) (hx : val (xs.take (k + 1)) = val (xs.take k) + B32 ^ k * x) (hz : zs.getD (o + k) 0 = z) (hzb : z < B32)
    (hc' : c' < B32) (hl : l < B32) (el : l + B32 * c' = x * f + cy)
    (hb : Blk w g ys r) (hwin : Win ys zs o n) (hoz : Okl zs) (hs : ∀ j, k ≤ j → zs.getD (o + j) 0 = ys.getD (o + j) 0) (he : wv zs o k + f * val (xs.take k) = wv ys o k + B32 ^ k * (cy + bo)) :
    TKRel g o n ys xs f k0 r w (.int .u64 ((c' : Nat) : Int)) (.int .u32 ((brw z l bo : Nat) : Int)) (.int .i64 ((k : Int) + 1)) ((put g zs r w).setCell ⟨g, o + k, none⟩ (.int .u32 ((dif z l bo : Nat) : Int))) := by
  rw [set_blk (put_blk _ _ hb.lt) _ _ (by rw [hwin.len]; omega), put_put]
  refine ⟨k + 1, c', brw z l bo, zs.set (o + k) (dif z l bo), hk, by omega, rfl, rfl, rfl, hc', brw_le _ _ _, hwin.set _ _ (by omega), hoz.set _ _ (dif_lt _ _ _), win_ext hs, ?_, rfl⟩
  rw [wv_set _ _ _ _ (by rw [hwin.len]; omega), wv_succ ys o k (by omega), ← hs k (Nat.le_refl _), hz, hx, Nat.pow_succ]
  exact tk_num he el (dif_eq hzb hl hbo)

theorem tk_end {g o n k cy bo f : Nat} {ys xs zs : List Nat} {r : List Value} {w : World} (hyl : o + n ≤ ys.length) (hk : k ≤ n) (hm : xs.length ≤ k) (hout : k = n ∨ cy + bo = 0)
    (hwin : Win ys zs o n) (hoz : Okl zs) (hs : ∀ j, k ≤ j → zs.getD (o + j) 0 = ys.getD (o + j) 0) (he : wv zs o k + f * val (xs.take k) = wv ys o k + B32 ^ k * (cy + bo)) :
    TakePost g o n ys xs f r w (.returned (.bool (decide ((0 : Int) < (cy : Int) + (bo : Int))))) (put g zs r w) := by
  refine ⟨zs, cy + bo, by rw [Int.natCast_add], hwin, hoz, ?_, rfl⟩
  rw [List.take_of_length_le hm] at he
  rcases hout with rfl | h0
  · exact he
  · have := wv_ext hwin.len hs n hk hyl
    rw [h0] at he ⊢
    simp only [Nat.mul_zero, Nat.add_zero] at he ⊢
    omega

set_option maxHeartbeats 1000000 in
theorem takeTimes_any (g o n cap : Nat) (ad : Option Addr) (m cap' f : Nat) (ys xs : List Nat) (r : List Value) (w : World) (hxl : xs.length = m) (hmn : m ≤ n) (hcap : n ≤ cap) (hm : n ≤ 1000000000000)
    (hyl : o + n ≤ ys.length) (hoy : Okl ys) (hox : Okl xs) (hf : f < B32) (hb : Blk w g ys r) (hr : Rd w ad xs) (hne : ∀ a, ad = some a → 0 < xs.length → a.block ≠ g) :
    Calls Tryd.prog 50 #[.slice (some ⟨g, o, none⟩) n cap, .slice ad m cap', .int .u32 (f : Int)] w (TakePost g o n ys xs f r w) := by
  go_enter Tryd.func50, Tryd.ntmps50
  go_wp2
  go_loopw [7, 8, 15] (fun c br i wr => TKRel g o n ys xs f 0 r w c br i wr ∧ (intOf i).toNat ≤ m) (fun _ _ i _ => m - (intOf i).toNat)
  case atStart => exact ⟨⟨0, 0, 0, ys, by omega, by omega, rfl, rfl, rfl, by decide, by decide, Win.refl _ _ _, hoy, fun _ _ => rfl, by simp [wv, val], (put_same hb).symm⟩, by simp [intOf]⟩
  case round =>
    obtain ⟨⟨k, cy, bo, zs, hk, _, rfl, rfl, rfl, hcy, hbo, hwin, hoz, hsame, heq, rfl⟩, hkm⟩ := hrel
    simp only [intOf, Int.toNat_natCast] at hkm
    have HS := Lib.hid hsame; clear hsame
    have HE := Lib.hid heq; clear heq
    have hbz : Blk (put g zs r w) g zs r := put_blk _ _ hb.lt
    by_cases hlt : k < m
    · obtain ⟨b, ox, hadd, _, hc⟩ := hr k (by omega)
      subst hadd
      have hcx : (put g zs r w).cell? ⟨b, ox + k, none⟩ = some (.int .u32 ((xs.getD k 0 : Nat) : Int)) := (put_cell g zs r w ⟨b, ox + k, none⟩ (hne ⟨b, ox, none⟩ rfl (by omega))).trans hc
      have hcz := hbz.cell (o + k) (by rw [hwin.len]; omega)
      have hfz := hbz.free (o + k)
      have hxb := hox.getD k
      have hzb := hoz.getD (o + k)
      have hvt := val_take_succ xs k (by omega)
      clear hc
      generalize hx : xs.getD k 0 = x at *
      generalize hz : zs.getD (o + k) 0 = z at *
      have hbd := mul_bd hxb hf
      have hbn : x * f ≤ 18446744065119617025 := by
        have h1 := hxb; have h2 := hf; rw [B32_eq] at h1 h2
        exact Nat.mul_le_mul (Nat.le_of_lt_succ h1) (Nat.le_of_lt_succ h2)
      have hc' : (x * f + cy) / B32 < B32 := by rw [Nat.div_lt_iff_lt_mul B32_pos]; rw [B32_eq] at *; omega
      have hl' : (x * f + cy) % B32 < B32 := Nat.mod_lt _ B32_pos
      have R := Lib.hid (tk_step (k0 := 0) hyl (by omega) (by omega) hbo hvt hz hzb hc' hl' (Nat.mod_add_div _ _) hb hwin hoz HS.out HE.out)
      have e1 : Hid (((x : Int) * (f : Int) + (cy : Int)) / 4294967296 = (((x * f + cy) / B32 : Nat) : Int)) := by unfold Hid; rw [B32_eq]; omega
      have e2 : Hid (((x : Int) * (f : Int) + (cy : Int)) % 4294967296 = (((x * f + cy) % B32 : Nat) : Int)) := by unfold Hid; rw [B32_eq]; omega
      clear hx hz hvt hbn
      generalize (x * f + cy) / B32 = c' at *
      generalize (x * f + cy) % B32 = l at *
      rw [B32_eq] at hxb hzb hcy hf hl' hc'
      go_wp2_with (go_at_call 60; rw [e2.out]; refine (sub32_any z l bo _ hzb hl' hbo).mono ?_; rintro e w' ⟨rfl, rfl⟩)
      go_roundw
      case rel => rw [e1.out]; exact ⟨R.out, by simp [intOf]; omega⟩
      case measure => simp [intOf]; omega
    · obtain rfl : k = m := by omega
      go_wp2
      go_loopw [7, 8, 12] (fun c br i wr => TKRel g o n ys xs f k r w c br i wr) (fun _ _ i _ => n - (intOf i).toNat)
      case atStart => exact ⟨k, cy, bo, zs, by omega, by omega, rfl, rfl, rfl, hcy, hbo, hwin, hoz, HS.out, HE.out, rfl⟩
      case round =>
        clear hcy hbo hwin hoz HS HE hbz
        obtain ⟨k', cz, bz, zt, hk', hkk, rfl, rfl, rfl, hcz', hbo, hwin, hoz, hsame, heq, rfl⟩ := hrel
        have HS := Lib.hid hsame; clear hsame
        have HE := Lib.hid heq; clear heq
        have hbz : Blk (put g zt r w) g zt r := put_blk _ _ hb.lt
        by_cases hlt' : k' < n
        · by_cases hc0 : cz + bz = 0
          · obtain rfl : cz = 0 := by omega
            obtain rfl : bz = 0 := by omega
            have R := Lib.hid (tk_end (g := g) (r := r) (w := w) hyl hk' (by omega) (.inr rfl) hwin hoz HS.out HE.out)
            go_wp2
            go_ret
            exact R.out
          · have hcz := hbz.cell (o + k') (by rw [hwin.len]; omega)
            have hfz := hbz.free (o + k')
            have hzb := hoz.getD (o + k')
            have hvt : val (xs.take (k' + 1)) = val (xs.take k') + B32 ^ k' * 0 := by rw [List.take_of_length_le (by omega), List.take_of_length_le (by omega)]; omega
            generalize hz : zt.getD (o + k') 0 = z at *
            have R := Lib.hid (tk_step (k0 := k) (f := f) (c' := 0) (l := cz) hyl hlt' (by omega) hbo hvt hz hzb B32_pos hcz' (by omega) hb hwin hoz HS.out HE.out)
            clear hz hvt
            rw [B32_eq] at hzb hcz'
            have hpos : 0 < (cz : Int) + (bz : Int) := by omega
            go_wp2_with (go_at_call 60; refine (sub32_any z cz bz _ hzb hcz' hbo).mono ?_; rintro e w' ⟨rfl, rfl⟩)
            go_roundw
            case rel => exact R.out
            case measure => simp [intOf]; omega
        · have R := Lib.hid (tk_end (g := g) (r := r) (w := w) hyl hk' (by omega) (.inl (by omega)) hwin hoz HS.out HE.out)
          rw [B32_eq] at hcz'
          go_wp2
          go_ret
          exact R.out
end Go.Proofs.YtolmmpdgbkbcmaaDoor
