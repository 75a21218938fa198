/- The walks of addTo and takeTimes. -/
import Derived.Test.YtolmmpdgbkbcmaaDoorNb
import Derived.Test.YtolmmpdgbkbcmaaDoorBits
namespace Go.Proofs.YtolmmpdgbkbcmaaDoor
open Go.RowKit
set_option linter.unusedVariables false

theorem wv_ext {zs ys : List Nat} {o k : Nat} (hl : zs.length = ys.length) (h : ∀ j, k ≤ j → zs.getD (o + j) 0 = ys.getD (o + j) 0) :
    ∀ n, k ≤ n → o + n ≤ ys.length → wv zs o n + wv ys o k = wv ys o n + wv zs o k := by
  intro n
  induction n with
  | zero => intro h0 _; obtain rfl : k = 0 := by omega
            omega
  | succ n ih =>
    intro hk hn
    by_cases hkn : k = n + 1
    · subst hkn; omega
    · have := ih (by omega) (by omega)
      rw [wv_succ zs o n (by omega), wv_succ ys o n (by omega), h n (by omega)]; omega

/-- What addTo and its like leave: the list in block g, parted in the window alone. -/
def AddToPost (g o n : Nat) (ys xs : List Nat) (r : List Value) (w : World) (e : Ending) (w' : World) : Prop :=
  ∃ zs cy, e = .returned (.int .u32 ((cy : Nat) : Int)) ∧ cy ≤ 1 ∧ Win ys zs o n ∧ Okl zs ∧ wv zs o n + B32 ^ n * cy = wv ys o n + val xs ∧ w' = put g zs r w

def ADRel (g o n : Nat) (ys xs : List Nat) (k0 : Nat) (r : List Value) (w : World) (c i : Value) (wr : World) : Prop :=
  ∃ (k cy : Nat) (zs : List Nat), k ≤ n ∧ k0 ≤ k ∧ i = .int .i64 k ∧ c = .int .u32 cy ∧ cy ≤ 1 ∧ Win ys zs o n ∧ Okl zs ∧ (∀ j, k ≤ j → zs.getD (o + j) 0 = ys.getD (o + j) 0) ∧
    wv zs o k + B32 ^ k * cy = wv ys o k + val (xs.take k) ∧ wr = put g zs r w

theorem ad_num {x z cy B a P W V s q : Nat} (h : a + P * cy = W + V) (e : s + B * q = z + x + cy) : a + P * s + P * B * q = W + P * z + (V + P * x) := by
  have h3 : P * (s + B * q) = P * (z + x + cy) := by rw [e]
  grind

theorem ad_step {g o n k cy x z : Nat} {ys xs zs : List Nat} {r : List Value} {w : World} {k0 : Nat} (hyl : o + n ≤ ys.length) (hk : k < n) (hk0 : k0 ≤ k) (hcy : cy ≤ 1) (hx : val (xs.take (k + 1)) = val (xs.take k) + B32 ^ k * x) (hz : zs.getD (o + k) 0 = z) (hxb : x < B32) (hzb : z < B32)
    (hb : Blk w g ys r) (hwin : Win ys zs o n) (hoz : Okl zs) (hs : ∀ j, k ≤ j → zs.getD (o + j) 0 = ys.getD (o + j) 0) (he : wv zs o k + B32 ^ k * cy = wv ys o k + val (xs.take k)) :
    ADRel g o n ys xs k0 r w (.int .u32 ((cry z x cy : Nat) : Int)) (.int .i64 ((k : Int) + 1)) ((put g zs r w).setCell ⟨g, o + k, none⟩ (.int .u32 ((smd z x cy : Nat) : Int))) := by
  rw [set_blk (put_blk _ _ hb.lt) _ _ (by rw [hwin.len]; omega), put_put]
  refine ⟨k + 1, _, zs.set (o + k) (smd z x cy), hk, by omega, rfl, rfl, cry_le hzb hxb hcy, hwin.set _ _ (by omega), hoz.set _ _ (smd_lt _ _ _), win_ext hs, ?_, rfl⟩
  rw [wv_set _ _ _ _ (by rw [hwin.len]; omega), wv_succ ys o k (by omega), ← hs k (Nat.le_refl _), hz, hx, Nat.pow_succ]
  exact ad_num he (smd_eq z x cy)

theorem ad_end {g o n k cy : Nat} {ys xs zs : List Nat} {r : List Value} {w : World} (hyl : o + n ≤ ys.length) (hk : k ≤ n) (hm : xs.length ≤ k) (hcy : cy ≤ 1) (hout : k = n ∨ cy = 0)
    (hwin : Win ys zs o n) (hoz : Okl zs) (hs : ∀ j, k ≤ j → zs.getD (o + j) 0 = ys.getD (o + j) 0) (he : wv zs o k + B32 ^ k * cy = wv ys o k + val (xs.take k)) :
    AddToPost g o n ys xs r w (.returned (.int .u32 (cy : Int))) (put g zs r w) := by
  refine ⟨zs, cy, rfl, hcy, hwin, hoz, ?_, rfl⟩
  rw [List.take_of_length_le hm] at he
  rcases hout with rfl | rfl
  · exact he
  · have := wv_ext hwin.len hs n hk hyl
    simp only [Nat.mul_zero, Nat.add_zero] at he ⊢
    omega

set_option maxHeartbeats 1000000 in
theorem addTo_any (g o n cap : Nat) (ad : Option Addr) (m cap' : Nat) (ys xs : List Nat) (r : List Value) (w : World) (hxl : xs.length = m) (hmn : m ≤ n) (hcap : n ≤ cap) (hm : n ≤ 1000000000000)
    (hyl : o + n ≤ ys.length) (hoy : Okl ys) (hox : Okl xs) (hb : Blk w g ys r) (hr : Rd w ad xs) (hne : ∀ a, ad = some a → 0 < xs.length → a.block ≠ g) :
    Calls Tryd.prog 49 #[.slice (some ⟨g, o, none⟩) n cap, .slice ad m cap'] w (AddToPost g o n ys xs r w) := by
  go_enter Tryd.func49, Tryd.ntmps49
  go_wp2
  go_loopw [4, 10] (fun c i wr => ADRel g o n ys xs 0 r w c i wr ∧ (intOf i).toNat ≤ m) (fun _ i _ => m - (intOf i).toNat)
  case atStart => exact ⟨⟨0, 0, ys, by omega, by omega, rfl, rfl, by decide, Win.refl _ _ _, hoy, fun _ _ => rfl, by simp [wv, val], (put_same hb).symm⟩, by simp [intOf]⟩
  case round =>
    obtain ⟨⟨k, cy, zs, hk, _, rfl, rfl, hcy, hwin, hoz, hsame, heq, rfl⟩, hkm⟩ := hrel
    simp only [intOf, Int.toNat_natCast] at hkm
    have HS := Lib.hid hsame; clear hsame
    have HE := Lib.hid heq; clear heq
    have hbz : Blk (put g zs r w) g zs r := put_blk _ _ hb.lt
    by_cases hlt : k < m
    · obtain ⟨b, ox, hadd, _, hc⟩ := hr k (by omega)
      subst hadd
      have hcx : (put g zs r w).cell? ⟨b, ox + k, none⟩ = some (.int .u32 ((xs.getD k 0 : Nat) : Int)) := (put_cell g zs r w ⟨b, ox + k, none⟩ (hne ⟨b, ox, none⟩ rfl (by omega))).trans hc
      have hcz := hbz.cell (o + k) (by rw [hwin.len]; omega)
      have hfz := hbz.free (o + k)
      have hxb := hox.getD k
      have hzb := hoz.getD (o + k)
      have hvt := val_take_succ xs k (by omega)
      clear hc
      generalize hx : xs.getD k 0 = x at *
      generalize hz : zs.getD (o + k) 0 = z at *
      have R := Lib.hid (ad_step (k0 := 0) hyl (by omega) (by omega) hcy hvt hz hxb hzb hb hwin hoz HS.out HE.out)
      clear hx hz hvt
      rw [B32_eq] at hxb hzb
      go_wp2_with (go_at_call 59; refine (add32_any _ _ _ _ hzb hxb hcy).mono ?_; rintro e w' ⟨rfl, rfl⟩)
      go_roundw
      case rel => exact ⟨R.out, by simp [intOf]; omega⟩
      case measure => simp [intOf]; omega
    · obtain rfl : k = m := by omega
      go_wp2
      go_loopw [4, 7] (fun c i wr => ADRel g o n ys xs k r w c i wr) (fun _ i _ => n - (intOf i).toNat)
      case atStart => exact ⟨k, cy, zs, by omega, by omega, rfl, rfl, hcy, hwin, hoz, HS.out, HE.out, rfl⟩
      case round =>
        clear hcy hwin hoz HS HE hbz
        obtain ⟨k', cz, zt, hk', hkk, rfl, rfl, hcy, hwin, hoz, hsame, heq, rfl⟩ := hrel
        have HS := Lib.hid hsame; clear hsame
        have HE := Lib.hid heq; clear heq
        have hbz : Blk (put g zt r w) g zt r := put_blk _ _ hb.lt
        by_cases hlt' : k' < n
        · by_cases hc0 : cz = 0
          · subst hc0
            have R := Lib.hid (ad_end (g := g) (r := r) (w := w) hyl hk' (by omega) hcy (.inr rfl) hwin hoz HS.out HE.out)
            go_wp2
            go_ret
            exact R.out
          · have hcz := hbz.cell (o + k') (by rw [hwin.len]; omega)
            have hfz := hbz.free (o + k')
            have hzb := hoz.getD (o + k')
            have hvt : val (xs.take (k' + 1)) = val (xs.take k') + B32 ^ k' * 0 := by rw [List.take_of_length_le (by omega), List.take_of_length_le (by omega)]; omega
            generalize hz : zt.getD (o + k') 0 = z at *
            have R := Lib.hid (ad_step (k0 := k) hyl hlt' (by omega) hcy hvt hz B32_pos hzb hb hwin hoz HS.out HE.out)
            clear hz hvt
            rw [B32_eq] at hzb
            go_wp2_with (go_at_call 59; refine (add32_any z 0 cz _ hzb (by decide) hcy).mono ?_; rintro e w' ⟨rfl, rfl⟩)
            go_roundw
            case rel => exact R.out
            case measure => simp [intOf]; omega
        · have R := Lib.hid (ad_end (g := g) (r := r) (w := w) hyl hk' (by omega) hcy (.inl (by omega)) hwin hoz HS.out HE.out)
          go_wp2
          go_ret
          exact R.out
end Go.Proofs.YtolmmpdgbkbcmaaDoor
