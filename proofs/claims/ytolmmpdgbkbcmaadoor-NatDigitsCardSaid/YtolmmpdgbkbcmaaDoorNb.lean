/- The walk of addTimes. -/
import Derived.Test.YtolmmpdgbkbcmaaDoorNa
namespace Go.Proofs.YtolmmpdgbkbcmaaDoor
open Go.RowKit
set_option linter.unusedVariables false

/-- Two lists of one length that part in a window alone. -/
structure Win (ys zs : List Nat) (o m : Nat) : Prop where
  len : zs.length = ys.length
  lo : zs.take o = ys.take o
  hi : zs.drop (o + m) = ys.drop (o + m)
theorem Win.refl (ys : List Nat) (o m : Nat) : Win ys ys o m := ⟨rfl, rfl, rfl⟩
theorem Win.set {ys zs : List Nat} {o m : Nat} (h : Win ys zs o m) (k v : Nat) (hk : k < m) : Win ys (zs.set (o + k) v) o m := by
  refine ⟨by rw [List.length_set]; exact h.len, ?_, ?_⟩
  · rw [List.take_set_of_le (by omega)]; exact h.lo
  · rw [List.drop_set_of_lt (by omega)]; exact h.hi

/-- The value of a window. -/
def wv (ys : List Nat) (o k : Nat) : Nat := val ((ys.drop o).take k)
theorem wv_zero (ys : List Nat) (o : Nat) : wv ys o 0 = 0 := by simp [wv, val]
theorem wv_succ (ys : List Nat) (o k : Nat) (h : o + k < ys.length) : wv ys o (k + 1) = wv ys o k + B32 ^ k * ys.getD (o + k) 0 := by
  unfold wv
  rw [val_take_succ _ _ (by rw [List.length_drop]; omega)]
  simp [List.getD]
theorem wv_set (ys : List Nat) (o k v : Nat) (h : o + k < ys.length) : wv (ys.set (o + k) v) o (k + 1) = wv ys o k + B32 ^ k * v := by
  rw [wv_succ _ _ _ (by rw [List.length_set]; exact h)]
  have e : wv (ys.set (o + k) v) o k = wv ys o k := by
    unfold wv; rw [List.drop_set, if_neg (by omega), List.take_set_of_le (by omega)]
  rw [e]; simp [List.getD, h]

theorem mul_bd {x f : Nat} (hx : x < B32) (hf : f < B32) : 0 ≤ (x : Int) * (f : Int) ∧ (x : Int) * (f : Int) ≤ 18446744065119617025 := by
  rw [B32_eq] at hx hf
  have h := Nat.mul_le_mul (Nat.le_of_lt_succ hx) (Nat.le_of_lt_succ hf)
  have e : (x : Int) * (f : Int) = ((x * f : Nat) : Int) := by push_cast; rfl
  rw [e]; omega

def AddTimesPost (g o m : Nat) (ys xs : List Nat) (f : Nat) (r : List Value) (w : World) (e : Ending) (w' : World) : Prop :=
  e = .returned (.tuple #[]) ∧ ∃ zs, Win ys zs o (m + 1) ∧ Okl zs ∧ wv zs o (m + 1) = wv ys o m + f * val xs ∧ w' = put g zs r w

def ATRel (g o m : Nat) (ys xs : List Nat) (f : Nat) (r : List Value) (w : World) (c i : Value) (wr : World) : Prop :=
  ∃ (k cy : Nat) (zs : List Nat), k ≤ m ∧ i = .int .i64 k ∧ c = .int .u64 cy ∧ cy < B32 ∧ Win ys zs o (m + 1) ∧ Okl zs ∧ (∀ j, k ≤ j → zs.getD (o + j) 0 = ys.getD (o + j) 0) ∧
    wv zs o k + B32 ^ k * cy = wv ys o k + f * val (xs.take k) ∧ wr = put g zs r w

theorem win_ext {zs ys : List Nat} {o k : Nat} {v : Nat} (h : ∀ j, k ≤ j → zs.getD (o + j) 0 = ys.getD (o + j) 0) : ∀ j, k + 1 ≤ j → (zs.set (o + k) v).getD (o + j) 0 = ys.getD (o + j) 0 := by
  intro j hj
  rw [← h j (by omega)]
  simp only [List.getD]
  rw [List.getElem?_set_ne (by omega)]

theorem at_num {x f z cy B a P W V : Nat} (h : a + P * cy = W + f * V) (_hB : 0 < B) : a + P * ((x * f + z + cy) % B) + P * B * ((x * f + z + cy) / B) = W + P * z + f * (V + P * x) := by
  have h2 := Nat.mod_add_div (x * f + z + cy) B
  generalize (x * f + z + cy) % B = r at *
  generalize (x * f + z + cy) / B = q at *
  have h3 : P * (r + B * q) = P * (x * f + z + cy) := by rw [h2]
  grind

theorem at_step {g o m k cy f x z : Nat} {ys xs zs : List Nat} {r : List Value} {w : World} (hxl : xs.length = m) (hyl : o + m + 1 ≤ ys.length) (hk : k < m) (hcy : cy < B32) (hf : f < B32) (hx : xs.getD k 0 = x) (hz : zs.getD (o + k) 0 = z) (hxb : x < B32) (hzb : z < B32)
    (hb : Blk w g ys r) (hwin : Win ys zs o (m + 1)) (hoz : Okl zs) (hs : ∀ j, k ≤ j → zs.getD (o + j) 0 = ys.getD (o + j) 0) (he : wv zs o k + B32 ^ k * cy = wv ys o k + f * val (xs.take k)) :
    ATRel g o m ys xs f r w (.int .u64 (((x : Int) * (f : Int) + (z : Int) + (cy : Int)) / 4294967296)) (.int .i64 ((k : Int) + 1)) ((put g zs r w).setCell ⟨g, o + k, none⟩ (.int .u32 (((x : Int) * (f : Int) + (z : Int) + (cy : Int)) % 4294967296))) := by
  have e1 : ((x : Int) * (f : Int) + (z : Int) + (cy : Int)) / 4294967296 = (((x * f + z + cy) / B32 : Nat) : Int) := by rw [B32_eq]; omega
  have e2 : ((x : Int) * (f : Int) + (z : Int) + (cy : Int)) % 4294967296 = (((x * f + z + cy) % B32 : Nat) : Int) := by rw [B32_eq]; omega
  rw [e1, e2, set_blk (put_blk _ _ hb.lt) _ _ (by rw [hwin.len]; omega), put_put]
  have hbd : x * f ≤ 18446744065119617025 := by
    rw [B32_eq] at hxb hf
    exact Nat.mul_le_mul (Nat.le_of_lt_succ hxb) (Nat.le_of_lt_succ hf)
  refine ⟨k + 1, _, zs.set (o + k) ((x * f + z + cy) % B32), hk, rfl, rfl, ?_, hwin.set _ _ (by omega), hoz.set _ _ (Nat.mod_lt _ B32_pos), win_ext hs, ?_, rfl⟩
  · rw [Nat.div_lt_iff_lt_mul B32_pos]; rw [B32_eq] at *; omega
  · rw [wv_set _ _ _ _ (by rw [hwin.len]; omega), wv_succ ys o k (by omega), ← hs k (Nat.le_refl _), hz, val_take_succ xs k (by omega), hx, Nat.pow_succ]
    exact at_num he B32_pos

theorem at_end {g o m cy f : Nat} {ys xs zs : List Nat} {r : List Value} {w : World} (hxl : xs.length = m) (hyl : o + m + 1 ≤ ys.length) (hcy : cy < B32)
    (hb : Blk w g ys r) (hwin : Win ys zs o (m + 1)) (hoz : Okl zs) (he : wv zs o m + B32 ^ m * cy = wv ys o m + f * val (xs.take m)) :
    AddTimesPost g o m ys xs f r w (.returned (.tuple #[])) ((put g zs r w).setCell ⟨g, o + m, none⟩ (.int .u32 ((cy : Int) % 4294967296))) := by
  have e2 : (cy : Int) % 4294967296 = (cy : Int) := by rw [B32_eq] at hcy; omega
  rw [e2, set_blk (put_blk _ _ hb.lt) _ _ (by rw [hwin.len]; omega), put_put]
  refine ⟨rfl, zs.set (o + m) cy, hwin.set _ _ (by omega), hoz.set _ _ hcy, ?_, rfl⟩
  rw [wv_set _ _ _ _ (by rw [hwin.len]; omega), he, List.take_of_length_le (by omega)]

set_option maxHeartbeats 400000 in
theorem addTimes_any (g o m cap : Nat) (ad : Option Addr) (cap' : Nat) (ys xs : List Nat) (r : List Value) (f : Nat) (w : World) (hxl : xs.length = m) (hcap : m + 1 ≤ cap) (hm : m ≤ 1000000000000)
    (hyl : o + m + 1 ≤ ys.length) (hoy : Okl ys) (hox : Okl xs) (hf : f < B32) (hb : Blk w g ys r) (hr : Rd w ad xs) (hne : ∀ a, ad = some a → 0 < xs.length → a.block ≠ g) :
    Calls Tryd.prog 51 #[.slice (some ⟨g, o, none⟩) (m + 1) cap, .slice ad m cap', .int .u32 (f : Int)] w (AddTimesPost g o m ys xs f r w) := by
  go_enter Tryd.func51, Tryd.ntmps51
  go_wp2
  go_loopw [6, 12] (fun c i wr => ATRel g o m ys xs f r w c i wr) (fun _ i _ => m - (intOf i).toNat)
  case atStart => exact ⟨0, 0, ys, by omega, rfl, rfl, by decide, Win.refl _ _ _, hoy, fun _ _ => rfl, by simp [wv, val], (put_same hb).symm⟩
  case round =>
    obtain ⟨k, cy, zs, hk, rfl, rfl, hcy, hwin, hoz, hsame, heq, rfl⟩ := hrel
    have HS := Lib.hid hsame; clear hsame
    have HE := Lib.hid heq; clear heq
    have hbz : Blk (put g zs r w) g zs r := put_blk _ _ hb.lt
    by_cases hlt : k < m
    · obtain ⟨b, ox, hadd, _, hc⟩ := hr k (by omega)
      subst hadd
      have hcx : (put g zs r w).cell? ⟨b, ox + k, none⟩ = some (.int .u32 ((xs.getD k 0 : Nat) : Int)) := (put_cell g zs r w ⟨b, ox + k, none⟩ (hne ⟨b, ox, none⟩ rfl (by omega))).trans hc
      have hcz := hbz.cell (o + k) (by rw [hwin.len]; omega)
      have hfz := hbz.free (o + k)
      have hxb := hox.getD k
      have hzb := hoz.getD (o + k)
      clear hc
      generalize hx : xs.getD k 0 = x at *
      generalize hz : zs.getD (o + k) 0 = z at *
      have R := Lib.hid (at_step (f := f) hxl hyl hlt hcy hf hx hz hxb hzb hb hwin hoz HS.out HE.out)
      clear hx hz
      have hbd := mul_bd hxb hf
      rw [B32_eq] at hxb hzb hcy hf
      go_wp2
      go_roundw
      case rel => exact R.out
      case measure => simp [intOf]; omega
    · obtain rfl : k = m := by omega
      have hcz := hbz.cell (o + k) (by rw [hwin.len]; omega)
      have hfz := hbz.free (o + k)
      generalize zs.getD (o + k) 0 = z at *
      have R := Lib.hid (at_end (f := f) hxl hyl hcy hb hwin hoz HE.out)
      go_wp2
      go_end0
      exact R.out
end Go.Proofs.YtolmmpdgbkbcmaaDoor
