/- The walks of shiftDown, guess. -/
import Derived.Test.YtolmmpdgbkbcmaaDoorNj
namespace Go.Proofs.YtolmmpdgbkbcmaaDoor
open Go.RowKit
set_option linter.unusedVariables false

theorem Below.heap_cell (w : World) (a b : Addr) (v : Value) (h : b.block ≠ a.block) : (w.setCell a v).cell? b = w.cell? b := World.cell?_of_block (Below.heap_setCell w a v b.block h)

def SDRel (g n : Nat) (xs : List Nat) (s : Nat) (w1 : World) (ab i : Value) (wr : World) : Prop :=
  ∃ (k a : Nat) (zs : List Nat), k ≤ n ∧ i = .int .i64 ((k : Int) - 1) ∧ ab = .int .u32 a ∧ a = xs.getD k 0 ∧ zs.length = n ∧ Okl zs ∧ val (zs.drop k) = val (xs.drop k) / 2 ^ s ∧ wr = put g zs [] w1

/-- What stands at the place: of the two limbs, shifted down. -/
theorem sd_num {a l B T D Q : Nat} (hT : 0 < T) (hTB : B = T * Q) (hl : l < B) (hD : D % B = a) :
    ((a * B + l) / T) % B + B * (D / T) = (l + B * D) / T := by
  have hB : 0 < B := Nat.lt_of_le_of_lt (Nat.zero_le _) hl
  have e1 : D % T = a % T := by rw [← hD, hTB]; exact (Nat.mod_mul_right_mod D T Q).symm
  have e2 : l + B * D = (l + B * (D % T)) + T * (B * (D / T)) := by
    have := Nat.mod_add_div D T
    have h3 : B * D = B * (D % T + T * (D / T)) := by rw [this]
    rw [h3]; grind
  have e3 : a * B + l = (l + B * (a % T)) + T * (B * (a / T)) := by
    have := Nat.mod_add_div a T
    have h3 : B * a = B * (a % T + T * (a / T)) := by rw [this]
    rw [Nat.mul_comm a B, h3]; grind
  have hlt : (l + B * (a % T)) / T < B := by
    rw [Nat.div_lt_iff_lt_mul hT]
    have h1 : a % T < T := Nat.mod_lt _ hT
    have h2 : B * (a % T + 1) ≤ B * T := Nat.mul_le_mul_left _ h1
    rw [Nat.mul_add, Nat.mul_one] at h2
    omega
  rw [e2, e3, Nat.add_mul_div_left _ _ hT, Nat.add_mul_div_left _ _ hT, Nat.add_mul_mod_self_left, Nat.mod_eq_of_lt hlt, e1]

theorem val_mod_nil : val [] % B32 = 0 := by rw [show val [] = 0 from rfl, Nat.zero_mod]
theorem val_mod_cons (x : Nat) (xs : List Nat) (h : x < B32) : val (x :: xs) % B32 = x := by
  rw [show val (x :: xs) = x + B32 * val xs from rfl, Nat.add_mul_mod_self_left]
  exact Nat.mod_eq_of_lt h
theorem val_mod (l : List Nat) (h : Okl l) : val l % B32 = l.getD 0 0 := by
  cases l with
  | nil => exact val_mod_nil
  | cons x xs => exact val_mod_cons x xs h.head

theorem wd_eq (a l : Nat) : wd a l = a * B32 + l := rfl
theorem B32_split {s : Nat} (hs : s < 32) : B32 = 2 ^ s * 2 ^ (32 - s) := by
  rw [← Nat.pow_add, show s + (32 - s) = 32 by omega]; rfl
theorem sd_wd {a l D s : Nat} (hs : s < 32) (hl : l < B32) (hD : D % B32 = a) :
    (wd a l / 2 ^ s) % B32 + B32 * (D / 2 ^ s) = (l + B32 * D) / 2 ^ s := by
  rw [wd_eq]
  exact sd_num (Nat.pow_pos (by decide)) (B32_split hs) hl hD
theorem wd_shr (a x s : Nat) : ((wd a x : Nat) : Int) / 2 ^ s = ((wd a x / 2 ^ s : Nat) : Int) := by push_cast; rfl
theorem mod_B32 (Q : Nat) : (Q : Int) % 4294967296 = ((Q % B32 : Nat) : Int) := by rw [B32_eq]; omega
theorem wd_shr_mod (a x s : Nat) : ((wd a x : Nat) : Int) / 2 ^ s % 4294967296 = ((wd a x / 2 ^ s % B32 : Nat) : Int) := by
  rw [wd_shr]; exact mod_B32 _
theorem getD_set_self (zs : List Nat) (j v : Nat) (h : j < zs.length) : (zs.set j v).getD j 0 = v := by simp [List.getD, h]
theorem getD_drop_zero (xs : List Nat) (j : Nat) : (xs.drop j).getD 0 0 = xs.getD j 0 := by simp [List.getD]

theorem sd_step {g n j s x : Nat} {xs zs : List Nat} {w1 : World} (hxl : xs.length = n) (hl : zs.length = n) (hj : j + 1 ≤ n) (hs : s < 32) (hox : Okl xs) (hoz : Okl zs) (hx : xs.getD j 0 = x) (a : Nat) (ha : a = xs.getD (j + 1) 0)
    (he : val (zs.drop (j + 1)) = val (xs.drop (j + 1)) / 2 ^ s) (hg : g < w1.heap.size) :
    SDRel g n xs s w1 (.int .u32 (x : Int)) (.int .i64 ((j : Int) - 1)) ((put g zs [] w1).setCell ⟨g, j, none⟩ (.int .u32 (((wd a x : Nat) : Int) / 2 ^ s % 4294967296))) := by
  have hxb : x < B32 := by rw [← hx]; exact hox.getD j
  have hD : val (xs.drop (j + 1)) % B32 = a := by rw [val_mod _ (hox.drop _), ha, getD_drop_zero]
  have hq := sd_wd hs hxb hD
  have hv : wd a x / 2 ^ s % B32 < B32 := Nat.mod_lt _ B32_pos
  rw [wd_shr_mod, set_blk (put_blk _ _ hg) _ _ (by omega), put_put]
  generalize wd a x / 2 ^ s % B32 = v at *
  refine ⟨j, x, zs.set j v, by omega, rfl, rfl, hx.symm, by rw [List.length_set]; exact hl, hoz.set _ _ hv, ?_, rfl⟩
  rw [val_drop_succ _ j (by rw [List.length_set]; omega), val_drop_succ xs j (by omega), hx, List.drop_set_of_lt (by omega), he, getD_set_self _ _ _ (by omega)]
  exact hq

set_option maxHeartbeats 2000000 in
theorem shiftDown_any (ad : Option Addr) (n cap : Nat) (xs : List Nat) (s : Nat) (w : World) (hn : xs.length = n) (hcap : n ≤ cap) (hm : n ≤ 100000000) (ho : Okl xs) (hr : Rd w ad xs) (hs : s < 32) :
    Calls Tryd.prog 57 #[.slice ad n cap, .int .i64 (s : Int)] w (Gives (val xs / 2 ^ s) w) := by
  have HN := Lib.hid hn; clear hn
  go_enter Tryd.func57, Tryd.ntmps57
  go_wp2_with (at_make; refine wpl_make _ rfl _ _ rfl _ _ _ _ n rfl rfl (by omega) (by omega) (by omega) ?_; intro w1 hB1 hb1)
  go_loopw [6, 7] (fun a i wr => SDRel w.heap.size n xs s w1 a i wr) (fun _ i _ => (intOf i + 1).toNat)
  case atStart => exact ⟨n, 0, List.replicate n 0, Nat.le_refl _, rfl, rfl, (getD_out (by rw [HN.out]; exact Nat.le_refl _)).symm, List.length_replicate, Okl.replicate _, by rw [List.drop_of_length_le (by simp), List.drop_of_length_le (by rw [HN.out]; exact Nat.le_refl _)]; simp [val], (put_same hB1).symm⟩
  case round =>
    obtain ⟨k, a, zs, hk, rfl, rfl, ha, hl, hoz, he, rfl⟩ := hrel
    have HL := Lib.hid hl; clear hl
    have HE := Lib.hid he; clear he
    have HA := Lib.hid ha; clear ha
    have hbz : Blk (put w.heap.size zs [] w1) w.heap.size zs [] := put_blk _ _ hB1.lt
    rcases k with _ | j
    · rw [show (((0 : Nat) : Int) - 1) = -1 from rfl]
      have hv := HE.out
      simp only [List.drop_zero] at hv
      have HV := Lib.hid hv; clear hv
      go_wp2_with fail
      refine (cut_nat _ n n zs _ HL.out (Nat.le_refl _) (by omega) hoz hbz.rd_all).mono ?_
      rintro e w' ⟨rfl, rfl⟩
      go_wp2
      go_ret
      rw [← HV.out]
      exact gives_cut hbz hoz (by rw [HL.out]; rfl) (by unfold maxLen; omega) (Nat.le_refl _) (put_below hb1 (Nat.le_refl _) _ _)
    · rw [show (((j + 1 : Nat) : Int) - 1) = (j : Int) by omega]
      obtain ⟨b', ox, hadd, hb', hc⟩ := hr j (by rw [HN.out]; omega)
      subst hadd
      have hcx : (put w.heap.size zs [] w1).cell? ⟨b', ox + j, none⟩ = some (.int .u32 ((xs.getD j 0 : Nat) : Int)) :=
        (put_cell w.heap.size zs [] w1 ⟨b', ox + j, none⟩ (by simp; omega)).trans ((hb1.cell (p := ⟨b', ox + j, none⟩) hb').trans hc)
      have hcx2 : ∀ v : Value, ((put w.heap.size zs [] w1).setCell ⟨w.heap.size, j, none⟩ v).cell? ⟨b', ox + j, none⟩ = some (.int .u32 ((xs.getD j 0 : Nat) : Int)) := by
        intro v; exact (Below.heap_cell _ _ _ _ (by simp; omega)).trans hcx
      have hxb := ho.getD j
      have hab : a < B32 := by rw [HA.out]; exact ho.getD _
      have hcz := hbz.cell j (by rw [HL.out]; omega)
      have hfz := hbz.free j
      generalize hx : xs.getD j 0 = x at *
      generalize zs.getD j 0 = z at *
      have R := Lib.hid (sd_step (g := w.heap.size) (w1 := w1) HN.out HL.out hk hs ho hoz hx a HA.out HE.out hB1.lt)
      clear hc hx
      have hor := wd_or hab hxb
      have hwl := wd_lt hab hxb
      rw [B32_eq] at hxb hab
      go_wp2
      go_roundw
      case rel => exact R.out
      case measure => simp [intOf]

/-- The first guess at a limb of the quotient. -/
def gs (h l d : Nat) : Nat := min (wd h l / d) 4294967295
theorem gs_lt (h l d : Nat) : gs h l d < B32 := by unfold gs; rw [B32_eq]; omega

set_option maxHeartbeats 2000000 in
theorem guess_any (g o m cap : Nat) (ad : Option Addr) (cap' : Nat) (ys xs : List Nat) (w : World) (hm0 : 0 < m) (hxl : xs.length = m) (hm : m ≤ 100000000)
    (hyl : ys.length = m + 1) (hoy : Okl ys) (hox : Okl xs) (hb : Rd w (some ⟨g, o, none⟩) ys) (hr : Rd w ad xs) (hd : 0 < xs.getD (m - 1) 0) :
    Calls Tryd.prog 56 #[.slice (some ⟨g, o, none⟩) (m + 1) cap, .slice ad m cap'] w fun e w' => e = .returned (.int .u32 ((gs (ys.getD m 0) (ys.getD (m - 1) 0) (xs.getD (m - 1) 0) : Nat) : Int)) ∧ ∃ q, w' = w.drewN q := by
  obtain ⟨j, rfl⟩ : ∃ j, m = j + 1 := ⟨m - 1, by omega⟩
  simp only [Nat.add_sub_cancel] at hd ⊢
  have hc1 := hb.at (j + 1) (by omega)
  have hc2 := hb.at j (by omega)
  obtain ⟨b', ox, rfl, _, hc3⟩ := hr j (by omega)
  have h1 := hoy.getD (j + 1)
  have h2 := hoy.getD j
  have h3 := hox.getD j
  generalize ys.getD (j + 1) 0 = h at *
  generalize ys.getD j 0 = l at *
  generalize xs.getD j 0 = d at *
  have hor := wd_or h1 h2
  have hwl := wd_lt h1 h2
  clear hb hr hxl hyl hoy hox
  rw [B32_eq] at h1 h2 h3
  have hjm : (j : Int) < ((j + 1 : Nat) : Int) := by omega
  go_enter Tryd.func56, Tryd.ntmps56
  go_wp2
  go_quiet (fail)
  go_wp2
  go_ret
  refine ⟨ret1_eq ?_, nq, rfl⟩
  have hq : wd h l / d ≤ wd h l := Nat.div_le_self _ _
  rw [← Int.natCast_ediv]
  unfold gs
  generalize wd h l / d = Q at *
  rw [IntWalk.u64_in _ (by omega)]
  omega
end Go.Proofs.YtolmmpdgbkbcmaaDoor
