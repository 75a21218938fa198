/- The walks of shiftUp, shiftDown. -/
import Derived.Test.YtolmmpdgbkbcmaaDoorNi
namespace Go.Proofs.YtolmmpdgbkbcmaaDoor
open Go.RowKit
set_option linter.unusedVariables false

def shl (x s : Nat) : Nat := x * 2 ^ s
def shr (x s : Nat) : Nat := x / 2 ^ s
theorem pow_le_31 {s : Nat} (hs : s < 32) : 2 ^ s ≤ 2147483648 := by
  have : 2 ^ s ≤ 2 ^ 31 := Nat.pow_le_pow_right (by decide) (by omega)
  exact this
theorem shl_lt {x s : Nat} (hx : x < B32) (hs : s < 32) : shl x s < 9223372036854775808 := by
  unfold shl
  have h1 := pow_le_31 hs
  rw [B32_eq] at hx
  have : x * 2 ^ s ≤ 4294967295 * 2147483648 := Nat.mul_le_mul (by omega) h1
  omega
theorem shl_wrap {x s : Nat} (hx : x < B32) (hs : s < 32) : IntKind.u64.wrap ((x : Int) * 2 ^ s) = ((shl x s : Nat) : Int) := by
  have h1 := shl_lt hx hs
  have e : (x : Int) * 2 ^ s = ((shl x s : Nat) : Int) := by unfold shl; push_cast; rfl
  rw [e, IntWalk.u64_in _ (by omega)]
theorem shl_or {z S s : Nat} (hz : z < 2 ^ s) (hs : s < 32) (hS : S % 2 ^ s = 0) : bits BinOp.or IntKind.u32 (z : Int) ((S : Int) % 4294967296) = ((z + S % B32 : Nat) : Int) ∧ z + S % B32 < B32 := by
  have hp := pow_le_31 hs
  have e : (S : Int) % 4294967296 = ((S % B32 : Nat) : Int) := by rw [B32_eq]; omega
  have hB : B32 % 2 ^ s = 0 := by
    have : B32 = 2 ^ s * 2 ^ (32 - s) := by rw [← Nat.pow_add]; rw [show s + (32 - s) = 32 by omega]; rfl
    rw [this]; exact Nat.mul_mod_right _ _
  have hm : (S % B32) % 2 ^ s = 0 := by rw [Nat.mod_mod_of_dvd _ (Nat.dvd_of_mod_eq_zero hB)]; exact hS
  have hl : S % B32 < B32 := Nat.mod_lt _ B32_pos
  have hsum : z + S % B32 < B32 := by
    generalize S % B32 = m at *
    obtain ⟨q, rfl⟩ := Nat.dvd_of_mod_eq_zero hm
    obtain ⟨t, ht⟩ := Nat.dvd_of_mod_eq_zero hB
    rw [ht] at hl ⊢
    have : q < t := Nat.lt_of_mul_lt_mul_left hl
    have : 2 ^ s * (q + 1) ≤ 2 ^ s * t := Nat.mul_le_mul_left _ this
    rw [Nat.mul_add, Nat.mul_one] at this
    omega
  refine ⟨?_, hsum⟩
  rw [e]
  rw [B32_eq] at hl
  rw [u32_or_nat _ _ (by omega) (by rw [B32_eq]; exact hl), Nat.or_comm, nat_join s _ _ hm hz, Nat.add_comm]

def SURel (g n : Nat) (xs : List Nat) (s : Nat) (w1 : World) (i : Value) (wr : World) : Prop :=
  ∃ (k : Nat) (zs : List Nat), k ≤ n ∧ i = .int .i64 k ∧ zs.length = n + 1 ∧ Okl zs ∧ zs.getD k 0 < 2 ^ s ∧ val (zs.take k) + B32 ^ k * zs.getD k 0 = val (xs.take k) * 2 ^ s ∧ wr = put g zs [] w1

theorem su_num {a P z B S V T x m q : Nat} (h : a + P * z = V * T) (e : m + B * q = S) (hS : S = x * T) : a + P * (z + m) + P * B * q = (V + P * x) * T := by
  have h3 : P * (m + B * q) = P * (x * T) := by rw [e, hS]
  grind

theorem su_step {g n k s x z : Nat} {xs zs : List Nat} {w1 : World} (hxl : xs.length = n) (hl : zs.length = n + 1) (hk : k < n) (hs : s < 32) (hx : xs.getD k 0 = x) (hz : zs.getD k 0 = z) (hxb : x < B32) (hoz : Okl zs) (hzs : z < 2 ^ s)
    (he : val (zs.take k) + B32 ^ k * z = val (xs.take k) * 2 ^ s) (hg : g < w1.heap.size) :
    SURel g n xs s w1 (.int .i64 ((k : Int) + 1)) (((put g zs [] w1).setCell ⟨g, k, none⟩ (.int .u32 (bits BinOp.or IntKind.u32 (z : Int) (IntKind.u64.wrap ((x : Int) * 2 ^ s) % 4294967296)))).setCell ⟨g, k + 1, none⟩ (.int .u32 (IntKind.u64.wrap ((x : Int) * 2 ^ s) / 4294967296 % 4294967296))) := by
  have hlt := shl_lt hxb hs
  have hdv : shl x s % 2 ^ s = 0 := Nat.mul_mod_left _ _
  obtain ⟨ho, hob⟩ := shl_or hzs hs hdv
  have hq : shl x s / B32 < 2 ^ s := by
    rw [Nat.div_lt_iff_lt_mul B32_pos]; unfold shl
    rw [Nat.mul_comm]
    exact Nat.mul_lt_mul_of_pos_left hxb (Nat.pow_pos (by decide))
  have hqb : shl x s / B32 < B32 := by have := pow_le_31 hs; rw [B32_eq] at *; omega
  have e3 : ((shl x s : Nat) : Int) / 4294967296 % 4294967296 = ((shl x s / B32 : Nat) : Int) := by rw [B32_eq] at *; omega
  rw [shl_wrap hxb hs, ho, e3, set_blk (put_blk _ _ hg) _ _ (by omega), put_put, set_blk (put_blk _ _ hg) _ _ (by rw [List.length_set]; omega), put_put]
  refine ⟨k + 1, _, hk, rfl, by simp [hl], (hoz.set _ _ hob).set _ _ hqb, ?_, ?_, rfl⟩
  · simp [List.getD, hl, hk]; exact hq
  · have e4 : (((zs.set k (z + shl x s % B32)).set (k + 1) (shl x s / B32)).take (k + 1)) = (zs.set k (z + shl x s % B32)).take (k + 1) := List.take_set_of_le (Nat.le_refl _)
    have e5 : (((zs.set k (z + shl x s % B32)).set (k + 1) (shl x s / B32))).getD (k + 1) 0 = shl x s / B32 := by simp [List.getD, hl, hk]
    rw [e4, e5, val_set_take _ _ _ (by omega), val_take_succ xs k (by omega), hx, Nat.pow_succ]
    exact su_num he (Nat.mod_add_div _ _) rfl

/-- The call answers all of a block that it has made: these limbs. -/
def Blocks (N n : Nat) (w : World) (e : Ending) (w' : World) : Prop :=
  ∃ zs, e = .returned (.slice (some ⟨w.heap.size, 0, none⟩) n n) ∧ zs.length = n ∧ Okl zs ∧ val zs = N ∧ Blk w' w.heap.size zs [] ∧ Below w.heap.size w w'

set_option maxHeartbeats 2000000 in
theorem shiftUp_any (ad : Option Addr) (n cap : Nat) (xs : List Nat) (s : Nat) (w : World) (hn : xs.length = n) (hcap : n ≤ cap) (hm : n ≤ 100000000) (ho : Okl xs) (hr : Rd w ad xs) (hs : s < 32) :
    Calls Tryd.prog 55 #[.slice ad n cap, .int .i64 (s : Int)] w (Blocks (val xs * 2 ^ s) (n + 1) w) := by
  have HN := Lib.hid hn; clear hn
  go_enter Tryd.func55, Tryd.ntmps55
  go_wp2_with (at_make; refine wpl_make _ rfl _ _ rfl _ _ _ _ (n + 1) rfl rfl (by omega) (by omega) (by omega) ?_; intro w1 hB1 hb1)
  go_loopw [15] (fun i wr => SURel w.heap.size n xs s w1 i wr) (fun i _ => n - (intOf i).toNat)
  case atStart => exact ⟨0, List.replicate (n + 1) 0, by omega, rfl, List.length_replicate, Okl.replicate _, by simp [List.getD]; exact Nat.pow_pos (by decide), by simp [val, List.getD], (put_same hB1).symm⟩
  case round =>
    obtain ⟨k, zs, hk, rfl, hl, hoz, hzs, he, rfl⟩ := hrel
    have HL := Lib.hid hl; clear hl
    have HE := Lib.hid he; clear he
    have hbz : Blk (put w.heap.size zs [] w1) w.heap.size zs [] := put_blk _ _ hB1.lt
    by_cases hlt : k < n
    · obtain ⟨b', ox, hadd, hb', hc⟩ := hr k (by rw [HN.out]; exact hlt)
      subst hadd
      have hcx : (put w.heap.size zs [] w1).cell? ⟨b', ox + k, none⟩ = some (.int .u32 ((xs.getD k 0 : Nat) : Int)) :=
        (put_cell w.heap.size zs [] w1 ⟨b', ox + k, none⟩ (by simp; omega)).trans ((hb1.cell (p := ⟨b', ox + k, none⟩) hb').trans hc)
      have hxb := ho.getD k
      have hzb := hoz.getD k
      have hcz := hbz.cell k (by rw [HL.out]; omega)
      have hcz1 := hbz.cell (k + 1) (by rw [HL.out]; omega)
      have hfz := hbz.free k
      have hfz1 := hbz.free (k + 1)
      generalize hx : xs.getD k 0 = x at *
      generalize hz : zs.getD k 0 = z at *
      generalize zs.getD (k + 1) 0 = z1 at *
      have R := Lib.hid (su_step (g := w.heap.size) (w1 := w1) HN.out HL.out hlt hs hx hz hxb hoz hzs HE.out hB1.lt)
      clear hc hx hz hzs
      rw [B32_eq] at hxb hzb
      go_wp2
      go_roundw
      case rel => exact R.out
      case measure => simp [intOf]; omega
    · obtain rfl : k = n := by omega
      have hv : val zs = val xs * 2 ^ s := by
        have h := HE.out
        rw [← val_take_succ zs k (by rw [HL.out]; omega), List.take_of_length_le (by rw [HL.out]; exact Nat.le_refl _), List.take_of_length_le (by rw [HN.out]; exact Nat.le_refl _)] at h
        exact h
      have HV := Lib.hid hv; clear hv hzs
      go_wp2
      go_ret
      exact ⟨zs, rfl, HL.out, hoz, HV.out, hbz, put_below hb1 (Nat.le_refl _) _ _⟩
end Go.Proofs.YtolmmpdgbkbcmaaDoor
