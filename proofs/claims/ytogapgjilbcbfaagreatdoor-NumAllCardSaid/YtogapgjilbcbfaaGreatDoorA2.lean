/- The walks of nat's small functions: cut, sign. The walk of addTimes. The walks of the functions of math bits that nat calls. -/
import Derived.Test.YtogapgjilbcbfaaGreatDoorA1
import Derived.Lib.Strings
import Derived.Lib.Slices
import Derived.Lib.Small
import Derived.Lib.Walk
import Derived.Lib.BitFns
namespace Go.Proofs.YtogapgjilbcbfaaGreatDoor
open Go.RowKit
set_option linter.unusedVariables false
set_option linter.unusedSimpArgs false

set_option maxHeartbeats 400000 in
theorem cut_any (ad : Option Addr) (n cap : Nat) (xs : List Nat) (w : World) (hn : xs.length = n) (hcap : n ≤ cap) (hm : n ≤ 1000000000000) (hr : Rd w ad xs) :
    Calls Tryz.prog 56 #[.slice ad n cap] w fun e w' => e = .returned (.slice ad (cutLen xs n) cap) ∧ w = w' := by
  go_enter Tryz.func56, Tryz.ntmps56
  go_wp2
  go_loop [3] (fun i => ∃ k : Nat, k ≤ n ∧ i = .int .i64 k ∧ cutLen xs k = cutLen xs n) (fun i => (intOf i).toNat)
  case atStart => exact ⟨n, Nat.le_refl _, rfl, rfl⟩
  case round =>
    obtain ⟨k, hk, rfl, he⟩ := hrel
    have HE := Lib.hid he; clear he
    rcases k with _ | k
    · have h0 : cutLen xs n = 0 := by rw [← HE.out]; rfl
      have H0 := Lib.hid h0; clear h0
      go_wp2
      go_ret
      rw [H0.out]; exact ⟨rfl, rfl⟩
    · obtain ⟨b, o, hadd, _, hc⟩ := hr k (by omega)
      subst hadd
      generalize hx : xs.getD k 0 = x at *
      have HX := Lib.hid hx; clear hx
      by_cases hz : x = 0
      · go_wp2
        go_round
        case rel => exact ⟨k, by omega, rfl, by rw [← HE.out]; simp only [cutLen]; rw [if_pos (by rw [HX.out]; exact hz)]⟩
        case measure => simp [intOf]
      · have h0 : cutLen xs n = k + 1 := by rw [← HE.out]; simp only [cutLen]; rw [if_neg (by rw [HX.out]; exact hz)]
        have H0 := Lib.hid h0; clear h0
        go_wp2
        go_ret
        rw [H0.out]; exact ⟨rfl, rfl⟩

/-- What sign answers. -/
def sgn (b : Bool) : Int := if b then -1 else 1

end Go.Proofs.YtogapgjilbcbfaaGreatDoor
namespace Go.Proofs.YtogapgjilbcbfaaGreatDoor
open Go.RowKit
set_option linter.unusedVariables false
set_option linter.unusedSimpArgs false

/-- Two lists of one length that part in a window alone. -/
structure Win (ys zs : List Nat) (o m : Nat) : Prop where
  len : zs.length = ys.length
  lo : zs.take o = ys.take o
  hi : zs.drop (o + m) = ys.drop (o + m)
theorem Win.refl (ys : List Nat) (o m : Nat) : Win ys ys o m := ⟨rfl, rfl, rfl⟩
theorem Win.set {ys zs : List Nat} {o m : Nat} (h : Win ys zs o m) (k v : Nat) (hk : k < m) : Win ys (zs.set (o + k) v) o m := by
  refine ⟨by rw [List.length_set]; exact h.len, ?_, ?_⟩
  · rw [List.take_set_of_le (by omega)]; exact h.lo
  · rw [List.drop_set_of_lt (by omega)]; exact h.hi

/-- The value of a window. -/
def wv (ys : List Nat) (o k : Nat) : Nat := val ((ys.drop o).take k)
theorem wv_zero (ys : List Nat) (o : Nat) : wv ys o 0 = 0 := by simp [wv, val]
theorem wv_succ (ys : List Nat) (o k : Nat) (h : o + k < ys.length) : wv ys o (k + 1) = wv ys o k + B32 ^ k * ys.getD (o + k) 0 := by
  unfold wv
  rw [val_take_succ _ _ (by rw [List.length_drop]; omega)]
  simp [List.getD]
theorem wv_set (ys : List Nat) (o k v : Nat) (h : o + k < ys.length) : wv (ys.set (o + k) v) o (k + 1) = wv ys o k + B32 ^ k * v := by
  rw [wv_succ _ _ _ (by rw [List.length_set]; exact h)]
  have e : wv (ys.set (o + k) v) o k = wv ys o k := by
    unfold wv; rw [List.drop_set, if_neg (by omega), List.take_set_of_le (by omega)]
  rw [e]; simp [List.getD, h]

theorem mul_bd {x f : Nat} (hx : x < B32) (hf : f < B32) : 0 ≤ (x : Int) * (f : Int) ∧ (x : Int) * (f : Int) ≤ 18446744065119617025 := by
  rw [B32_eq] at hx hf
  have h := Nat.mul_le_mul (Nat.le_of_lt_succ hx) (Nat.le_of_lt_succ hf)
  have e : (x : Int) * (f : Int) = ((x * f : Nat) : Int) := by push_cast; rfl
  rw [e]; omega

def AddTimesPost (g o m : Nat) (ys xs : List Nat) (f : Nat) (r : List Value) (w : World) (e : Ending) (w' : World) : Prop :=
  e = .returned (.tuple #[]) ∧ ∃ zs, Win ys zs o (m + 1) ∧ Okl zs ∧ wv zs o (m + 1) = wv ys o m + f * val xs ∧ w' = put g zs r w

def ATRel (g o m : Nat) (ys xs : List Nat) (f : Nat) (r : List Value) (w : World) (c i : Value) (wr : World) : Prop :=
  ∃ (k cy : Nat) (zs : List Nat), k ≤ m ∧ i = .int .i64 k ∧ c = .int .u64 cy ∧ cy < B32 ∧ Win ys zs o (m + 1) ∧ Okl zs ∧ (∀ j, k ≤ j → zs.getD (o + j) 0 = ys.getD (o + j) 0) ∧
    wv zs o k + B32 ^ k * cy = wv ys o k + f * val (xs.take k) ∧ wr = put g zs r w

theorem win_ext {zs ys : List Nat} {o k : Nat} {v : Nat} (h : ∀ j, k ≤ j → zs.getD (o + j) 0 = ys.getD (o + j) 0) : ∀ j, k + 1 ≤ j → (zs.set (o + k) v).getD (o + j) 0 = ys.getD (o + j) 0 := by
  intro j hj
  rw [← h j (by omega)]
  simp only [List.getD]
  rw [List.getElem?_set_ne (by omega)]

theorem at_num {x f z cy B a P W V : Nat} (h : a + P * cy = W + f * V) (_hB : 0 < B) : a + P * ((x * f + z + cy) % B) + P * B * ((x * f + z + cy) / B) = W + P * z + f * (V + P * x) := by
  have h2 := Nat.mod_add_div (x * f + z + cy) B
  generalize (x * f + z + cy) % B = r at *
  generalize (x * f + z + cy) / B = q at *
  have h3 : P * (r + B * q) = P * (x * f + z + cy) := by rw [h2]
  grind

theorem at_step {g o m k cy f x z : Nat} {ys xs zs : List Nat} {r : List Value} {w : World} (hxl : xs.length = m) (hyl : o + m + 1 ≤ ys.length) (hk : k < m) (hcy : cy < B32) (hf : f < B32) (hx : xs.getD k 0 = x) (hz : zs.getD (o + k) 0 = z) (hxb : x < B32) (hzb : z < B32)
    (hb : Blk w g ys r) (hwin : Win ys zs o (m + 1)) (hoz : Okl zs) (hs : ∀ j, k ≤ j → zs.getD (o + j) 0 = ys.getD (o + j) 0) (he : wv zs o k + B32 ^ k * cy = wv ys o k + f * val (xs.take k)) :
    ATRel g o m ys xs f r w (.int .u64 (((x : Int) * (f : Int) + (z : Int) + (cy : Int)) / 4294967296)) (.int .i64 ((k : Int) + 1)) ((put g zs r w).setCell ⟨g, o + k, none⟩ (.int .u32 (((x : Int) * (f : Int) + (z : Int) + (cy : Int)) % 4294967296))) := by
  have e1 : ((x : Int) * (f : Int) + (z : Int) + (cy : Int)) / 4294967296 = (((x * f + z + cy) / B32 : Nat) : Int) := by rw [B32_eq]; omega
  have e2 : ((x : Int) * (f : Int) + (z : Int) + (cy : Int)) % 4294967296 = (((x * f + z + cy) % B32 : Nat) : Int) := by rw [B32_eq]; omega
  rw [e1, e2, set_blk (put_blk _ _ hb.lt) _ _ (by rw [hwin.len]; omega), put_put]
  have hbd : x * f ≤ 18446744065119617025 := by
    rw [B32_eq] at hxb hf
    exact Nat.mul_le_mul (Nat.le_of_lt_succ hxb) (Nat.le_of_lt_succ hf)
  refine ⟨k + 1, _, zs.set (o + k) ((x * f + z + cy) % B32), hk, rfl, rfl, ?_, hwin.set _ _ (by omega), hoz.set _ _ (Nat.mod_lt _ B32_pos), win_ext hs, ?_, rfl⟩
  · rw [Nat.div_lt_iff_lt_mul B32_pos]; rw [B32_eq] at *; omega
  · rw [wv_set _ _ _ _ (by rw [hwin.len]; omega), wv_succ ys o k (by omega), ← hs k (Nat.le_refl _), hz, val_take_succ xs k (by omega), hx, Nat.pow_succ]
    exact at_num he B32_pos

theorem at_end {g o m cy f : Nat} {ys xs zs : List Nat} {r : List Value} {w : World} (hxl : xs.length = m) (hyl : o + m + 1 ≤ ys.length) (hcy : cy < B32)
    (hb : Blk w g ys r) (hwin : Win ys zs o (m + 1)) (hoz : Okl zs) (he : wv zs o m + B32 ^ m * cy = wv ys o m + f * val (xs.take m)) :
    AddTimesPost g o m ys xs f r w (.returned (.tuple #[])) ((put g zs r w).setCell ⟨g, o + m, none⟩ (.int .u32 ((cy : Int) % 4294967296))) := by
  have e2 : (cy : Int) % 4294967296 = (cy : Int) := by rw [B32_eq] at hcy; omega
  rw [e2, set_blk (put_blk _ _ hb.lt) _ _ (by rw [hwin.len]; omega), put_put]
  refine ⟨rfl, zs.set (o + m) cy, hwin.set _ _ (by omega), hoz.set _ _ hcy, ?_, rfl⟩
  rw [wv_set _ _ _ _ (by rw [hwin.len]; omega), he, List.take_of_length_le (by omega)]

set_option maxHeartbeats 400000 in
theorem addTimes_any (g o m cap : Nat) (ad : Option Addr) (cap' : Nat) (ys xs : List Nat) (r : List Value) (f : Nat) (w : World) (hxl : xs.length = m) (hcap : m + 1 ≤ cap) (hm : m ≤ 1000000000000)
    (hyl : o + m + 1 ≤ ys.length) (hoy : Okl ys) (hox : Okl xs) (hf : f < B32) (hb : Blk w g ys r) (hr : Rd w ad xs) (hne : ∀ a, ad = some a → 0 < xs.length → a.block ≠ g) :
    Calls Tryz.prog 57 #[.slice (some ⟨g, o, none⟩) (m + 1) cap, .slice ad m cap', .int .u32 (f : Int)] w (AddTimesPost g o m ys xs f r w) := by
  go_enter Tryz.func57, Tryz.ntmps57
  go_wp2
  go_loopw [6, 12] (fun c i wr => ATRel g o m ys xs f r w c i wr) (fun _ i _ => m - (intOf i).toNat)
  case atStart => exact ⟨0, 0, ys, by omega, rfl, rfl, by decide, Win.refl _ _ _, hoy, fun _ _ => rfl, by simp [wv, val], (put_same hb).symm⟩
  case round =>
    obtain ⟨k, cy, zs, hk, rfl, rfl, hcy, hwin, hoz, hsame, heq, rfl⟩ := hrel
    have HS := Lib.hid hsame; clear hsame
    have HE := Lib.hid heq; clear heq
    have hbz : Blk (put g zs r w) g zs r := put_blk _ _ hb.lt
    by_cases hlt : k < m
    · obtain ⟨b, ox, hadd, _, hc⟩ := hr k (by omega)
      subst hadd
      have hcx : (put g zs r w).cell? ⟨b, ox + k, none⟩ = some (.int .u32 ((xs.getD k 0 : Nat) : Int)) := (put_cell g zs r w ⟨b, ox + k, none⟩ (hne ⟨b, ox, none⟩ rfl (by omega))).trans hc
      have hcz := hbz.cell (o + k) (by rw [hwin.len]; omega)
      have hfz := hbz.free (o + k)
      have hxb := hox.getD k
      have hzb := hoz.getD (o + k)
      clear hc
      generalize hx : xs.getD k 0 = x at *
      generalize hz : zs.getD (o + k) 0 = z at *
      have R := Lib.hid (at_step (f := f) hxl hyl hlt hcy hf hx hz hxb hzb hb hwin hoz HS.out HE.out)
      clear hx hz
      have hbd := mul_bd hxb hf
      rw [B32_eq] at hxb hzb hcy hf
      go_wp2
      go_roundw
      case rel => exact R.out
      case measure => simp [intOf]; omega
    · obtain rfl : k = m := by omega
      have hcz := hbz.cell (o + k) (by rw [hwin.len]; omega)
      have hfz := hbz.free (o + k)
      generalize zs.getD (o + k) 0 = z at *
      have R := Lib.hid (at_end (f := f) hxl hyl hcy hb hwin hoz HE.out)
      go_wp2
      go_end0
      exact R.out
end Go.Proofs.YtogapgjilbcbfaaGreatDoor
namespace Go.Proofs.YtogapgjilbcbfaaGreatDoor
open Go.RowKit
set_option linter.unusedVariables false
set_option linter.unusedSimpArgs false

def smd (x y c : Nat) : Nat := (x + y + c) % 4294967296
def cry (x y c : Nat) : Nat := (x + y + c) / 4294967296
theorem smd_lt (x y c : Nat) : smd x y c < 4294967296 := Nat.mod_lt _ (by decide)
theorem cry_le {x y c : Nat} (hx : x < 4294967296) (hy : y < 4294967296) (hc : c ≤ 1) : cry x y c ≤ 1 := by unfold cry; omega
theorem smd_eq (x y c : Nat) : smd x y c + 4294967296 * cry x y c = x + y + c := by unfold smd cry; omega

theorem ret1_eq {k1 : IntKind} {a a' : Int} (h1 : a = a') : Ending.returned (.int k1 a) = .returned (.int k1 a') := by rw [h1]
theorem ret2_eq {k1 k2 : IntKind} {a a' b b' : Int} (h1 : a = a') (h2 : b = b') : Ending.returned (.tuple #[.int k1 a, .int k2 b]) = .returned (.tuple #[.int k1 a', .int k2 b']) := by rw [h1, h2]

/-- What is borrowed. -/
def brw (x y c : Nat) : Nat := if x < y + c then 1 else 0
theorem brw_le (x y c : Nat) : brw x y c ≤ 1 := by unfold brw; split <;> omega
def dif (x y c : Nat) : Nat := (x + 4294967296 - y - c) % 4294967296
theorem dif_lt (x y c : Nat) : dif x y c < 4294967296 := Nat.mod_lt _ (by decide)
theorem dif_eq {x y c : Nat} (hx : x < 4294967296) (hy : y < 4294967296) (hc : c ≤ 1) : x + 4294967296 * brw x y c = dif x y c + y + c := by
  unfold brw dif; split <;> omega

theorem top_bit (n : Nat) (h : n < 4294967296) : n / 2147483648 = (n.testBit 31).toNat := by
  rw [Nat.testBit_eq_decide_div_mod_eq]
  have : n / 2 ^ 31 = n / 2147483648 := rfl
  rw [this]
  by_cases h1 : n / 2147483648 % 2 = 1
  · simp [h1]; omega
  · simp [h1]; omega
theorem tb_ge (n : Nat) (h : n < 4294967296) : n.testBit 31 = decide (2147483648 ≤ n) := by
  have h1 := top_bit n h
  by_cases h2 : 2147483648 ≤ n
  · have : n / 2147483648 = 1 := by omega
    rw [this] at h1
    cases hb : n.testBit 31
    · rw [hb] at h1; simp at h1
    · simp [h2]
  · have : n / 2147483648 = 0 := by omega
    rw [this] at h1
    cases hb : n.testBit 31
    · simp [h2]
    · rw [hb] at h1; simp at h1
theorem borrow_nat {x y c : Nat} (hx : x < 4294967296) (hy : y < 4294967296) (hc : c ≤ 1) :
    (((4294967295 ^^^ x) &&& y) ||| ((4294967295 ^^^ (x ^^^ y)) &&& dif x y c)) / 2147483648 = brw x y c := by
  have hd := dif_lt x y c
  have hM : (4294967295 : Nat) < 2 ^ 32 := by decide
  have b1 : (4294967295 ^^^ x) &&& y < 2 ^ 32 := Nat.and_lt_two_pow _ hy
  have b2 : (4294967295 ^^^ (x ^^^ y)) &&& dif x y c < 2 ^ 32 := Nat.and_lt_two_pow _ hd
  rw [top_bit _ (Nat.or_lt_two_pow b1 b2)]
  simp only [Nat.testBit_or, Nat.testBit_and, Nat.testBit_xor]
  rw [tb_ge x hx, tb_ge y hy, tb_ge _ hd, show Nat.testBit 4294967295 31 = true by decide]
  have he := dif_eq hx hy hc
  have hb := brw_le x y c
  generalize brw x y c = q at *
  generalize dif x y c = d at *
  clear b1 b2 hM
  by_cases h1 : 2147483648 ≤ x <;> by_cases h2 : 2147483648 ≤ y <;> by_cases h3 : 2147483648 ≤ d <;> simp [h1, h2, h3] <;> omega
theorem borrow_int {x y c : Nat} (hx : x < 4294967296) (hy : y < 4294967296) (hc : c ≤ 1) :
    bits BinOp.or IntKind.u32 (bits BinOp.and IntKind.u32 (bits BinOp.xor IntKind.u32 IntKind.u32.max ↑x) ↑y)
      (bits BinOp.and IntKind.u32 (bits BinOp.xor IntKind.u32 IntKind.u32.max (bits BinOp.xor IntKind.u32 ↑x ↑y)) (((x : Int) - ↑y - ↑c) % 4294967296)) / 2147483648 = ((brw x y c : Nat) : Int) := by
  have hd := dif_lt x y c
  have hM : (4294967295 : Nat) < 2 ^ 32 := by decide
  have ed : ((x : Int) - ↑y - ↑c) % 4294967296 = ((dif x y c : Nat) : Int) := by unfold dif; omega
  have em : IntKind.u32.max = ((4294967295 : Nat) : Int) := by decide
  have x1 : 4294967295 ^^^ x < 2 ^ 32 := Nat.xor_lt_two_pow hM hx
  have x2 : x ^^^ y < 2 ^ 32 := Nat.xor_lt_two_pow hx hy
  have x3 : 4294967295 ^^^ (x ^^^ y) < 2 ^ 32 := Nat.xor_lt_two_pow hM x2
  have b1 : (4294967295 ^^^ x) &&& y < 2 ^ 32 := Nat.and_lt_two_pow _ hy
  have b2 : (4294967295 ^^^ (x ^^^ y)) &&& dif x y c < 2 ^ 32 := Nat.and_lt_two_pow _ hd
  rw [ed, em, u32_xor_nat _ _ (by decide) hx, u32_xor_nat _ _ hx hy, u32_xor_nat _ _ (by decide) x2, u32_and_nat _ _ x1 hy, u32_and_nat _ _ x3 hd, u32_or_nat _ _ b1 b2, ← borrow_nat hx hy hc]
  omega

/-- How many bits a limb has. -/
def blen (x : Nat) : Nat := Lib.bitLen x

set_option maxHeartbeats 4000000 in
set_option maxRecDepth 100000 in
theorem len32_int (x : Int) (w : World) (h0 : 0 ≤ x) (h1 : x ≤ 4294967295) :
    Calls Tryz.prog 60 #[.int .u32 x] w fun e w' => e = .returned (.int .i64 (Lib.bitLen x.toNat)) ∧ w = w' := by
  by_cases hA : x ≤ 255
  · have q0 : 0 ≤ x := by omega
    have q1 : x ≤ 255 := by omega
    have e : (x).toNat = x.toNat := by omega
    have l := Lib.bitLen_le8' (x) (by omega) (by omega)
    have t := Lib.len8_of (x) (by omega) (by omega)
    rw [e] at l t
    have v0 : 0 ≤ Lib.len8 (x) := by rw [t]; omega
    have v1 : Lib.len8 (x) ≤ 8 := by rw [t]; omega
    have T : Hid (Lib.len8 (x) + 0 = Lib.bitLen x.toNat) := by unfold Hid; rw [t]; omega
    clear t l e
    go_enter Tryz.func60, Tryz.ntmps60
    go_wp2
    go_ret
    exact ⟨ret1_eq (by rw [← T.out]; omega), rfl⟩
  by_cases hB : x ≤ 65535
  · have q0 : 0 ≤ x / 256 := by omega
    have q1 : x / 256 ≤ 255 := by omega
    have e : (x / 256).toNat = x.toNat / 256 := by omega
    have l := Lib.bitLen_le8' (x / 256) (by omega) (by omega)
    have t := Lib.len8_of (x / 256) (by omega) (by omega)
    rw [e] at l t
    have s := Lib.bitLen_shift8 x.toNat (by omega) (by omega)
    have v0 : 0 ≤ Lib.len8 (x / 256) := by rw [t]; omega
    have v1 : Lib.len8 (x / 256) ≤ 8 := by rw [t]; omega
    have T : Hid (Lib.len8 (x / 256) + 8 = Lib.bitLen x.toNat) := by unfold Hid; rw [t, s]; omega
    clear t l e s
    go_enter Tryz.func60, Tryz.ntmps60
    go_wp2
    go_ret
    exact ⟨ret1_eq (by rw [← T.out]; omega), rfl⟩
  by_cases hC : x ≤ 16777215
  · have q0 : 0 ≤ x / 65536 := by omega
    have q1 : x / 65536 ≤ 255 := by omega
    have e : (x / 65536).toNat = x.toNat / 65536 := by omega
    have l := Lib.bitLen_le8' (x / 65536) (by omega) (by omega)
    have t := Lib.len8_of (x / 65536) (by omega) (by omega)
    rw [e] at l t
    have s := Lib.bitLen_shift16 x.toNat (by omega) (by omega)
    have v0 : 0 ≤ Lib.len8 (x / 65536) := by rw [t]; omega
    have v1 : Lib.len8 (x / 65536) ≤ 8 := by rw [t]; omega
    have T : Hid (Lib.len8 (x / 65536) + 16 = Lib.bitLen x.toNat) := by unfold Hid; rw [t, s]; omega
    clear t l e s
    go_enter Tryz.func60, Tryz.ntmps60
    go_wp2
    go_ret
    exact ⟨ret1_eq (by rw [← T.out]; omega), rfl⟩
  · have q0 : 0 ≤ x / 65536 / 256 := by omega
    have q1 : x / 65536 / 256 ≤ 255 := by omega
    have e : (x / 65536 / 256).toNat = x.toNat / 16777216 := by omega
    have l := Lib.bitLen_le8' (x / 65536 / 256) (by omega) (by omega)
    have t := Lib.len8_of (x / 65536 / 256) (by omega) (by omega)
    rw [e] at l t
    have s := Lib.bitLen_shift24 x.toNat (by omega) (by omega)
    have v0 : 0 ≤ Lib.len8 (x / 65536 / 256) := by rw [t]; omega
    have v1 : Lib.len8 (x / 65536 / 256) ≤ 8 := by rw [t]; omega
    have T : Hid (Lib.len8 (x / 65536 / 256) + 24 = Lib.bitLen x.toNat) := by unfold Hid; rw [t, s]; omega
    clear t l e s
    go_enter Tryz.func60, Tryz.ntmps60
    go_wp2
    go_ret
    exact ⟨ret1_eq (by rw [← T.out]; omega), rfl⟩

theorem len32_any (x : Nat) (w : World) (hx : x < 4294967296) :
    Calls Tryz.prog 60 #[.int .u32 (x : Int)] w fun e w' => e = .returned (.int .i64 (blen x : Int)) ∧ w = w' :=
  (len32_int (x : Int) w (by omega) (by omega)).mono fun _ _ h => h

theorem blen_le (x : Nat) (hx : x < 4294967296) : blen x ≤ 32 := Lib.bitLen_le x 32 (by decide) hx

set_option maxHeartbeats 4000000 in
set_option maxRecDepth 100000 in
theorem len64_small (x : Int) (w : World) (h0 : 0 ≤ x) (h1 : x ≤ 65535) :
    Calls Tryz.prog 73 #[.int .u64 x] w fun e w' => e = .returned (.int .i64 (Lib.bitLen x.toNat)) ∧ w = w' := by
  by_cases hA : x ≤ 255
  · have q0 : 0 ≤ x := by omega
    have q1 : x ≤ 255 := by omega
    have e : (x).toNat = x.toNat := by omega
    have l := Lib.bitLen_le8' (x) (by omega) (by omega)
    have t := Lib.len8_of (x) (by omega) (by omega)
    rw [e] at l t
    have v0 : 0 ≤ Lib.len8 (x) := by rw [t]; omega
    have v1 : Lib.len8 (x) ≤ 8 := by rw [t]; omega
    have T : Hid (Lib.len8 (x) + 0 = Lib.bitLen x.toNat) := by unfold Hid; rw [t]; omega
    clear t l e
    go_enter Tryz.func73, Tryz.ntmps73
    go_wp2
    go_ret
    exact ⟨ret1_eq (by rw [← T.out]; omega), rfl⟩
  · have q0 : 0 ≤ x / 256 := by omega
    have q1 : x / 256 ≤ 255 := by omega
    have e : (x / 256).toNat = x.toNat / 256 := by omega
    have l := Lib.bitLen_le8' (x / 256) (by omega) (by omega)
    have t := Lib.len8_of (x / 256) (by omega) (by omega)
    rw [e] at l t
    have s := Lib.bitLen_shift8 x.toNat (by omega) (by omega)
    have v0 : 0 ≤ Lib.len8 (x / 256) := by rw [t]; omega
    have v1 : Lib.len8 (x / 256) ≤ 8 := by rw [t]; omega
    have T : Hid (Lib.len8 (x / 256) + 8 = Lib.bitLen x.toNat) := by unfold Hid; rw [t, s]; omega
    clear t l e s
    go_enter Tryz.func73, Tryz.ntmps73
    go_wp2
    go_ret
    exact ⟨ret1_eq (by rw [← T.out]; omega), rfl⟩

set_option maxHeartbeats 1000000 in
theorem len_small (x : Nat) (w : World) (h1 : x ≤ 65535) :
    Calls Tryz.prog 58 #[.int .u64 (x : Int)] w fun e w' => e = .returned (.int .i64 (blen x : Int)) ∧ w = w' := by
  go_enter Tryz.func58, Tryz.ntmps58
  go_wp2_with (go_at_call 73; refine (len64_small (x : Int) _ (by omega) (by omega)).mono ?_; rintro e w' ⟨rfl, rfl⟩)
  go_ret
  exact ⟨rfl, rfl⟩
end Go.Proofs.YtogapgjilbcbfaaGreatDoor
