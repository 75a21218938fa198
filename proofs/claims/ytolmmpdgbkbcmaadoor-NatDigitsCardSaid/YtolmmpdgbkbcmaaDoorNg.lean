/- The walks of Mul, Bits. -/
import Derived.Test.YtolmmpdgbkbcmaaDoorNf
namespace Go.Proofs.YtolmmpdgbkbcmaaDoor
open Go.RowKit
set_option linter.unusedVariables false

theorem val_take_add (l : List Nat) (k m : Nat) (h : k + m ≤ l.length) : val (l.take (k + m)) = val (l.take k) + B32 ^ k * wv l k m := by
  rw [List.take_add, val_append, List.length_take, Nat.min_eq_left (by omega)]; rfl
theorem mul_num {A x P Y T : Nat} (h : T = A * Y) : T + P * (x * Y) = (A + P * x) * Y := by subst h; grind

def MulRel (g c c' : Nat) (X Y : List Nat) (w1 : World) (i : Value) (wr : World) : Prop :=
  ∃ (k : Nat) (zs : List Nat), k ≤ c ∧ i = .int .i64 k ∧ zs.length = c + c' ∧ Okl zs ∧ val (zs.take (k + c')) = val (X.take k) * val Y ∧ wr = put g zs [] w1

theorem mul_step {g c c' k x : Nat} {X Y zs zs' : List Nat} {w1 : World} (hX : X.length = c) (hk : k < c) (hx : X.getD k 0 = x) (hl : zs.length = c + c') (hoz : Okl zs') (hw : Win zs zs' k (c' + 1))
    (h : wv zs' k (c' + 1) = wv zs k c' + x * val Y) (he : val (zs.take (k + c')) = val (X.take k) * val Y) : MulRel g c c' X Y w1 (.int .i64 ((k : Int) + 1)) (put g zs' [] w1) := by
  refine ⟨k + 1, zs', hk, rfl, by rw [hw.len, hl], hoz, ?_, rfl⟩
  rw [show k + 1 + c' = k + (c' + 1) by omega, val_take_add zs' k (c' + 1) (by rw [hw.len]; omega), h, hw.lo, Nat.mul_add, ← Nat.add_assoc, ← val_take_add zs k c' (by omega), val_take_succ X k (by omega), hx]
  exact mul_num he

set_option maxHeartbeats 2000000 in
theorem mul_any (ad : Option Addr) (n cap : Nat) (xs : List Nat) (ad' : Option Addr) (n' cap' : Nat) (ys : List Nat) (w : World) (hn : xs.length = n) (hcap : n ≤ cap) (hm : n ≤ 100000000) (ho : Okl xs) (hr : Rd w ad xs)
    (hn' : ys.length = n') (hcap' : n' ≤ cap') (hm' : n' ≤ 100000000) (ho' : Okl ys) (hr' : Rd w ad' ys) :
    Calls Tryd.prog 31 #[.slice ad n cap, .slice ad' n' cap'] w (Gives (val xs * val ys) w) := by
  have K1 := Lib.hid (cut_nat ad n cap xs w hn hcap (by omega) ho hr)
  have K2 := Lib.hid (cut_nat ad' n' cap' ys w hn' hcap' (by omega) ho' hr')
  have hrX := rd_limbs ho hr
  have hrY := rd_limbs ho' hr'
  have hlX := limbs_len_le ho
  have hlY := limbs_len_le ho'
  rw [hn] at hlX
  rw [hn'] at hlY
  generalize val xs = a at *
  generalize val ys = b at *
  have hoX := limbs_ok a
  have hoY := limbs_ok b
  have hvX := val_limbs a
  have hvY := val_limbs b
  generalize limbs a = X at *
  generalize limbs b = Y at *
  generalize hc : X.length = c at *
  generalize hc' : Y.length = c' at *
  have hcc : c ≤ 100000000 := by omega
  have hcc' : c' ≤ 100000000 := by omega
  have hcp : c' ≤ cap' := by omega
  clear hn hn' ho ho' hr hr' hlX hlY hm hm' hcap hcap'
  have C1 := Lib.hid hc; clear hc
  have C2 := Lib.hid hc'; clear hc'
  have V1 := Lib.hid hvX; clear hvX
  have V2 := Lib.hid hvY; clear hvY
  go_enter Tryd.func31, Tryd.ntmps31
  go_wp2_with fail
  refine K1.out.mono ?_
  rintro e w' ⟨rfl, rfl⟩
  go_wp2_with fail
  refine K2.out.mono ?_
  rintro e w' ⟨rfl, rfl⟩
  go_wp2_with (at_make; refine wpl_make _ rfl _ _ rfl _ _ _ _ (c + c') rfl rfl (by omega) (by omega) (by omega) ?_; intro w1 hB1 hb1)
  have hg1 := hrY.apart (Nat.le_refl w.heap.size)
  have hg0 := hrX.apart (Nat.le_refl w.heap.size)
  go_loopw [20] (fun i wr => MulRel w.heap.size c c' X Y w1 i wr) (fun i _ => c - (intOf i).toNat)
  case atStart => exact ⟨0, List.replicate (c + c') 0, by omega, rfl, List.length_replicate, Okl.replicate _, by simp [val, List.take_replicate, val_replicate], (put_same hB1).symm⟩
  case round =>
    obtain ⟨k, zs, hk, rfl, hl, hoz, he, rfl⟩ := hrel
    have HE := Lib.hid he; clear he
    have HL := Lib.hid hl; clear hl
    have hbz : Blk (put w.heap.size zs [] w1) w.heap.size zs [] := put_blk _ _ hB1.lt
    by_cases hlt : k < c
    · obtain ⟨b', ox, hadd, _, hc⟩ := hrX k (by rw [C1.out]; exact hlt)
      subst hadd
      have hne := hg0 ⟨b', ox, none⟩ rfl (by rw [C1.out]; omega)
      have hb' : b' < w.heap.size := by assumption
      have hcx : (put w.heap.size zs [] w1).cell? ⟨b', ox + k, none⟩ = some (.int .u32 ((X.getD k 0 : Nat) : Int)) :=
        (put_cell w.heap.size zs [] w1 ⟨b', ox + k, none⟩ hne).trans ((hb1.cell (p := ⟨b', ox + k, none⟩) hb').trans hc)
      have hxb := hoX.getD k
      generalize hx : X.getD k 0 = x at *
      have HX := Lib.hid hx; clear hx
      have hrY2 : Rd (put w.heap.size zs [] w1) ad' Y := (hrY.below hb1).put hg1 _ _
      clear hc
      go_wp2_with fail
      rw [show k + c' + 1 - k = c' + 1 by omega]
      refine (addTimes_any w.heap.size k c' (c + c' - k) ad' cap' zs Y [] x _ C2.out (by omega) (by omega) (by rw [HL.out]; omega) hoz hoY hxb hbz hrY2 hg1).mono ?_
      rintro e w' ⟨rfl, zt, hwin, hozt, hval, rfl⟩
      rw [put_put]
      have R := Lib.hid (mul_step (g := w.heap.size) (w1 := w1) C1.out hlt HX.out HL.out hozt hwin hval HE.out)
      clear hwin hval
      go_wp2
      go_roundw
      case rel => exact R.out
      case measure => simp [intOf]; omega
    · obtain rfl : k = c := by omega
      have hv : val zs = a * b := by
        have h := HE.out
        rw [List.take_of_length_le (by rw [HL.out]; exact Nat.le_refl _), List.take_of_length_le (by rw [C1.out]; exact Nat.le_refl _), V1.out, V2.out] at h
        exact h
      have HV := Lib.hid hv; clear hv
      go_wp2_with fail
      refine (cut_nat _ (k + c') (k + c') zs _ HL.out (Nat.le_refl _) (by omega) hoz hbz.rd_all).mono ?_
      rintro e w' ⟨rfl, rfl⟩
      go_wp2
      go_ret
      rw [← HV.out]
      exact gives_cut hbz hoz (by rw [HL.out]; rfl) (by unfold maxLen; omega) (Nat.le_refl _) (put_below hb1 (Nat.le_refl _) _ _)

/-- How many bits a natural has. -/
def bitsN (N : Nat) : Nat := match limbs N with
  | [] => 0
  | x :: l => 32 * l.length + blen ((x :: l).getD l.length 0)

theorem bitsN_zero {N : Nat} (h : limbs N = []) : bitsN N = 0 := by unfold bitsN; rw [h]
theorem bitsN_top {N t : Nat} (h : (limbs N).length = t + 1) : bitsN N = 32 * t + blen ((limbs N).getD t 0) := by
  unfold bitsN
  match hl : limbs N with
  | [] => rw [hl] at h; simp at h
  | x :: l => rw [hl] at h; simp only [List.length_cons] at h; obtain rfl : t = l.length := by omega
              rfl

set_option maxHeartbeats 2000000 in
theorem bits_any (ad : Option Addr) (n cap : Nat) (xs : List Nat) (w : World) (hn : xs.length = n) (hcap : n ≤ cap) (hm : n ≤ 100000000) (ho : Okl xs) (hr : Rd w ad xs) :
    Calls Tryd.prog 21 #[.slice ad n cap] w fun e w' => e = .returned (.int .i64 (bitsN (val xs) : Int)) ∧ w = w' := by
  have K1 := Lib.hid (cut_nat ad n cap xs w hn hcap (by omega) ho hr)
  have hrX := rd_limbs ho hr
  have hlX := limbs_len_le ho
  rw [hn] at hlX
  generalize val xs = a at *
  have hoX := limbs_ok a
  have H0 := @bitsN_zero a
  have H1 := @bitsN_top a
  generalize limbs a = X at *
  generalize bitsN a = N at *
  generalize hc : X.length = c at *
  have C1 := Lib.hid hc; clear hc
  clear hn ho hr
  rcases c with _ | t
  · have h0 := H0 (List.eq_nil_of_length_eq_zero C1.out)
    subst h0
    clear H0 H1
    go_enter Tryd.func21, Tryd.ntmps21
    go_wp2_with fail
    refine K1.out.mono ?_
    rintro e w' ⟨rfl, rfl⟩
    go_wp2
    go_ret
    exact ⟨rfl, rfl⟩
  · have h1 := Lib.hid (@H1 t rfl)
    clear H0 H1
    obtain ⟨b, o, rfl, _, hc⟩ := hrX t (by rw [C1.out]; omega)
    have hxb := hoX.getD t
    generalize X.getD t 0 = x at *
    have hbl := blen_le x hxb
    go_enter Tryd.func21, Tryd.ntmps21
    go_wp2_with fail
    refine K1.out.mono ?_
    rintro e w' ⟨rfl, rfl⟩
    go_wp2_with (go_at_call 47; refine (len32_any x _ hxb).mono ?_; rintro e w' ⟨rfl, rfl⟩)
    go_ret
    exact ⟨ret1_eq (by rw [h1.out]; omega), rfl⟩
end Go.Proofs.YtolmmpdgbkbcmaaDoor
