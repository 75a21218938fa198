/- The walks of Add, Sub, Mul, Bits. -/
import Derived.Test.YtolmmpdgbkbcmaaDoorNe
namespace Go.Proofs.YtolmmpdgbkbcmaaDoor
open Go.RowKit
set_option linter.unusedVariables false

/-- The contract of cut, told by the limbs of the natural. -/
theorem cut_nat (ad : Option Addr) (n cap : Nat) (xs : List Nat) (w : World) (hn : xs.length = n) (hcap : n ≤ cap) (hm : n ≤ 1000000000) (ho : Okl xs) (hr : Rd w ad xs) :
    Calls Tryd.prog 36 #[.slice ad n cap] w fun e w' => e = .returned (.slice ad (limbs (val xs)).length cap) ∧ w = w' := by
  have h := cutLen_eq ho
  rw [hn] at h
  rw [← h]
  exact cut_any ad n cap xs w hn hcap (by omega) hr
theorem rd_limbs {w : World} {ad : Option Addr} {xs : List Nat} (ho : Okl xs) (hr : Rd w ad xs) : Rd w ad (limbs (val xs)) := by
  rw [← cut_limbs ho]; exact hr.take _
theorem limbs_len_le {xs : List Nat} (ho : Okl xs) : (limbs (val xs)).length ≤ xs.length := by
  rw [← cutLen_eq ho]; exact cutLen_le _ _

/-- A block that the call made, cut, is the limbs of its natural. -/
theorem gives_cut {g cap : Nat} {ys : List Nat} {r : List Value} {w w' : World} (hb : Blk w' g ys r) (ho : Okl ys) (hc : cap = ys.length + r.length) (hm : cap ≤ maxLen) (hg : w.heap.size ≤ g) (hbl : Below w.heap.size w w') :
    Gives (val ys) w (.returned (.slice (some ⟨g, 0, none⟩) (limbs (val ys)).length cap)) w' := by
  refine ⟨_, rfl, ?_, hbl⟩
  have := hb.own hg ho (limbs (val ys)).length cap (limbs_len_le ho) hc hm
  rw [← cutLen_eq ho, cut_limbs ho, cutLen_eq ho] at this
  exact this

theorem win_full {ys zs : List Nat} {n : Nat} (hl : ys.length = n) (h : Win ys zs 0 n) : zs.length = n ∧ wv zs 0 n = val zs := by
  have h1 : zs.length = n := by rw [h.len, hl]
  refine ⟨h1, ?_⟩
  unfold wv; rw [List.drop_zero, List.take_of_length_le (by omega)]
theorem wv_full {ys : List Nat} {n : Nat} (hl : ys.length = n) : wv ys 0 n = val ys := by
  unfold wv; rw [List.drop_zero, List.take_of_length_le (by omega)]

/-- Add, where the first one has at least as many limbs. -/
theorem add_tail {X Y zs ys : List Nat} {cy : Nat} {n : Nat} (hn : ys.length = n + 1) (hX : X.length = n) (hY : val Y < B32 ^ n) (hoX : Okl X) (hys : ys = X ++ [0])
    (hw : Win ys zs 0 (n + 1)) (h : wv zs 0 (n + 1) + B32 ^ (n + 1) * cy = wv ys 0 (n + 1) + val Y) : val zs = val X + val Y := by
  obtain ⟨hl, hv⟩ := win_full hn hw
  rw [hv, wv_full hn, hys, val_append] at h
  simp only [val, Nat.mul_zero, Nat.add_zero] at h
  have hx := val_lt hoX
  rw [hX] at hx
  exact (no_carry h hx hY (pow_two_le n)).2

set_option maxHeartbeats 2000000 in
theorem add_any (ad : Option Addr) (n cap : Nat) (xs : List Nat) (ad' : Option Addr) (n' cap' : Nat) (ys : List Nat) (w : World) (hn : xs.length = n) (hcap : n ≤ cap) (hm : n ≤ 100000000) (ho : Okl xs) (hr : Rd w ad xs)
    (hn' : ys.length = n') (hcap' : n' ≤ cap') (hm' : n' ≤ 100000000) (ho' : Okl ys) (hr' : Rd w ad' ys) :
    Calls Tryd.prog 27 #[.slice ad n cap, .slice ad' n' cap'] w (Gives (val xs + val ys) w) := by
  have K1 := Lib.hid (cut_nat ad n cap xs w hn hcap (by omega) ho hr)
  have K2 := Lib.hid (cut_nat ad' n' cap' ys w hn' hcap' (by omega) ho' hr')
  have hrX := rd_limbs ho hr
  have hrY := rd_limbs ho' hr'
  have hlX := limbs_len_le ho
  have hlY := limbs_len_le ho'
  rw [hn] at hlX
  rw [hn'] at hlY
  generalize val xs = a at *
  generalize val ys = b at *
  have hoX := limbs_ok a
  have hoY := limbs_ok b
  have hvX := val_limbs a
  have hvY := val_limbs b
  have hpX := limbs_lt_pow a
  have hpY := limbs_lt_pow b
  generalize limbs a = X at *
  generalize limbs b = Y at *
  generalize hc : X.length = c at *
  generalize hc' : Y.length = c' at *
  clear hn hn' ho ho' hr hr'
  have C1 := Lib.hid hc; clear hc
  have C2 := Lib.hid hc'; clear hc'
  have V1 := Lib.hid hvX; clear hvX
  have V2 := Lib.hid hvY; clear hvY
  have P1 := Lib.hid hpX; clear hpX
  have P2 := Lib.hid hpY; clear hpY
  by_cases hlt : c < c'
  · have hP : val X < B32 ^ c' := by
      rw [V1.out]; exact Nat.lt_of_lt_of_le P1.out (Nat.pow_le_pow_right B32_pos (by omega))
    rw [V1.out] at hP
    have HP := Lib.hid hP; clear hP
    go_enter Tryd.func27, Tryd.ntmps27
    go_wp2_with fail
    refine K1.out.mono ?_
    rintro e w' ⟨rfl, rfl⟩
    go_wp2_with fail
    refine K2.out.mono ?_
    rintro e w' ⟨rfl, rfl⟩
    go_wp2_with (first
      | (at_make; refine wpl_make _ rfl _ _ rfl _ _ _ _ (c' + 1) rfl rfl (by omega) (by omega) (by omega) ?_; intro w1 hB1 hb1)
      | (with_reducible refine wpl_copy rfl (.tmp 21) (.tmp 22) rfl _ _ _ _ _ _ rfl rfl _ Y _ hB1 List.length_replicate C2.out (by omega) (hrY.below hb1) ?_))
    have hg1 := hrX.apart (Nat.le_refl w.heap.size)
    have hbk := put_blk (w := w1) (Y ++ [0]) [] hB1.lt
    have hrs : Rd (put w.heap.size (Y ++ [0]) [] w1) ad X := (hrX.below hb1).put hg1 _ _
    have hob : Okl (Y ++ [0]) := hoY.append (Okl.cons B32_pos Okl.nil)
    have hlb : (Y ++ [0]).length = c' + 1 := by simp [C2.out]
    have HL := Lib.hid hlb
    refine (addTo_any w.heap.size 0 (c' + 1) (c' + 1) ad c cap (Y ++ [0]) X [] _ C1.out (by omega) (Nat.le_refl _) (by omega) (by rw [hlb]; omega) hob hoX hbk hrs hg1).mono ?_
    clear hlb
    rintro e w' ⟨zs, cy, rfl, hcy, hwin, hoz, hval, rfl⟩
    rw [put_put]
    have hv : val zs = a + b := by
      have := add_tail (n := c') (X := Y) (Y := X) HL.out C2.out (by rw [V1.out]; exact HP.out) hoY rfl hwin hval
      rw [this, V2.out, V1.out]; omega
    have hlz := (win_full HL.out hwin).1
    have HZ := Lib.hid hlz; clear hlz
    have HV := Lib.hid hv; clear hv
    have hbz : Blk (put w.heap.size zs [] w1) w.heap.size zs [] := put_blk _ _ hB1.lt
    clear hwin hval
    go_wp2_with fail
    refine (cut_nat _ (c' + 1) (c' + 1) zs _ HZ.out (Nat.le_refl _) (by omega) hoz hbz.rd_all).mono ?_
    rintro e w' ⟨rfl, rfl⟩
    go_wp2
    go_ret
    rw [← HV.out]
    exact gives_cut hbz hoz (by rw [HZ.out]; rfl) (by unfold maxLen; omega) (Nat.le_refl _) (put_below hb1 (Nat.le_refl _) _ _)
  · have hP : val Y < B32 ^ c := by
      rw [V2.out]; exact Nat.lt_of_lt_of_le P2.out (Nat.pow_le_pow_right B32_pos (by omega))
    rw [V2.out] at hP
    have HP := Lib.hid hP; clear hP
    go_enter Tryd.func27, Tryd.ntmps27
    go_wp2_with fail
    refine K1.out.mono ?_
    rintro e w' ⟨rfl, rfl⟩
    go_wp2_with fail
    refine K2.out.mono ?_
    rintro e w' ⟨rfl, rfl⟩
    go_wp2_with (first
      | (at_make; refine wpl_make _ rfl _ _ rfl _ _ _ _ (c + 1) rfl rfl (by omega) (by omega) (by omega) ?_; intro w1 hB1 hb1)
      | (with_reducible refine wpl_copy rfl (.tmp 21) (.tmp 22) rfl _ _ _ _ _ _ rfl rfl _ X _ hB1 List.length_replicate C1.out (by omega) (hrX.below hb1) ?_))
    have hg1 := hrY.apart (Nat.le_refl w.heap.size)
    have hbk := put_blk (w := w1) (X ++ [0]) [] hB1.lt
    have hrs : Rd (put w.heap.size (X ++ [0]) [] w1) ad' Y := (hrY.below hb1).put hg1 _ _
    have hob : Okl (X ++ [0]) := hoX.append (Okl.cons B32_pos Okl.nil)
    have hlb : (X ++ [0]).length = c + 1 := by simp [C1.out]
    have HL := Lib.hid hlb
    refine (addTo_any w.heap.size 0 (c + 1) (c + 1) ad' c' cap' (X ++ [0]) Y [] _ C2.out (by omega) (Nat.le_refl _) (by omega) (by rw [hlb]; omega) hob hoY hbk hrs hg1).mono ?_
    clear hlb
    rintro e w' ⟨zs, cy, rfl, hcy, hwin, hoz, hval, rfl⟩
    rw [put_put]
    have hv : val zs = a + b := by
      have := add_tail (n := c) (X := X) (Y := Y) HL.out C1.out (by rw [V2.out]; exact HP.out) hoX rfl hwin hval
      rw [this, V1.out, V2.out]
    have hlz := (win_full HL.out hwin).1
    have HZ := Lib.hid hlz; clear hlz
    have HV := Lib.hid hv; clear hv
    have hbz : Blk (put w.heap.size zs [] w1) w.heap.size zs [] := put_blk _ _ hB1.lt
    clear hwin hval
    go_wp2_with fail
    refine (cut_nat _ (c + 1) (c + 1) zs _ HZ.out (Nat.le_refl _) (by omega) hoz hbz.rd_all).mono ?_
    rintro e w' ⟨rfl, rfl⟩
    go_wp2
    go_ret
    rw [← HV.out]
    exact gives_cut hbz hoz (by rw [HZ.out]; rfl) (by unfold maxLen; omega) (Nat.le_refl _) (put_below hb1 (Nat.le_refl _) _ _)

theorem sub_tail {X Y zs : List Nat} {q n : Nat} (hn : X.length = n) (hoz : Okl zs) (hw : Win X zs 0 n) (h : wv zs 0 n + 1 * val Y = wv X 0 n + B32 ^ n * q) (hle : val Y ≤ val X) : val zs = val X - val Y := by
  obtain ⟨hl, hv⟩ := win_full hn hw
  rw [hv, wv_full hn, Nat.one_mul] at h
  have hz := val_lt hoz
  rw [hl] at hz
  have : q = 0 := by
    rcases Nat.eq_zero_or_pos q with h0 | h0
    · exact h0
    · have h1 : B32 ^ n * 1 ≤ B32 ^ n * q := Nat.mul_le_mul_left _ h0
      omega
  rw [this] at h
  omega

theorem below_drewN' {B : Nat} {a w : World} (h : Below B a w) (n : Nat) : Below B a (w.drewN n) := h.trans ⟨rfl, rfl, rfl, Nat.le_refl _, fun _ _ => rfl⟩

theorem cmpN_le {a b : Nat} : (cmpN a b ≤ 0) ↔ a ≤ b := by unfold cmpN; split <;> (try split) <;> omega

set_option maxHeartbeats 2000000 in
theorem sub_any (ad : Option Addr) (n cap : Nat) (xs : List Nat) (ad' : Option Addr) (n' cap' : Nat) (ys : List Nat) (w : World) (hn : xs.length = n) (hcap : n ≤ cap) (hm : n ≤ 100000000) (ho : Okl xs) (hr : Rd w ad xs)
    (hn' : ys.length = n') (hcap' : n' ≤ cap') (hm' : n' ≤ 100000000) (ho' : Okl ys) (hr' : Rd w ad' ys) :
    Calls Tryd.prog 29 #[.slice ad n cap, .slice ad' n' cap'] w (Gives (val xs - val ys) w) := by
  have K0 := Lib.hid (cmp_any ad n cap xs ad' n' cap' ys w hn hcap (by omega) ho hr hn' hcap' (by omega) ho' hr')
  have K1 := Lib.hid (fun q => norm_any ad n cap xs (w.drewN q) hn hcap (by omega) ho hr)
  have hrY := rd_limbs ho' hr'
  have hlX := limbs_len_le ho
  have hlY := limbs_len_le ho'
  rw [hn] at hlX
  rw [hn'] at hlY
  have K2 := Lib.hid (fun (w2 : World) (h : Rd w2 ad' ys) => cut_nat ad' n' cap' ys w2 hn' hcap' (by omega) ho' h)
  generalize val xs = a at *
  generalize val ys = b at *
  have hoX := limbs_ok a
  have hoY := limbs_ok b
  have hvX := val_limbs a
  have hvY := val_limbs b
  have HM := Lib.hid (@limbs_length_le (limbs a).length b)
  have hpX := limbs_lt_pow a
  generalize hX : limbs a = X at *
  generalize limbs b = Y at *
  generalize hc : X.length = c at *
  generalize hc' : Y.length = c' at *
  clear hn hn' ho ho' hr
  have C1 := Lib.hid hc; clear hc
  have C2 := Lib.hid hc'; clear hc'
  have V1 := Lib.hid hvX; clear hvX
  have V2 := Lib.hid hvY; clear hvY
  have PX := Lib.hid hpX; clear hpX
  have EX := Lib.hid hX; clear hX
  by_cases hle : a ≤ b
  · have h0 : a - b = 0 := by omega
    rw [h0]
    have hcn := cmpN_le.2 hle
    go_enter Tryd.func29, Tryd.ntmps29
    go_wp2_with fail
    refine K0.out.mono ?_
    rintro e w' ⟨rfl, q, rfl⟩
    generalize cmpN a b = m at *
    go_wp2
    go_ret
    exact ⟨_, rfl, Own.nil _ _, below_drewN' (Below.refl _ _) _⟩
  · have hcn : ¬ cmpN a b ≤ 0 := fun h => hle (cmpN_le.1 h)
    go_enter Tryd.func29, Tryd.ntmps29
    go_wp2_with fail
    refine K0.out.mono ?_
    rintro e w' ⟨rfl, q, rfl⟩
    generalize cmpN a b = m at *
    go_wp2_with fail
    refine (K1.out q).mono ?_
    rintro e w' ⟨v, rfl, ⟨_, ⟨rfl, hnil⟩ | ⟨g, cap1, r, rfl, hg, hbk, hcap1, hmx⟩⟩, hbl⟩
    · exfalso; have := (limbs_nil_iff a).1 hnil; omega
    · rw [EX.out] at hbk hcap1 ⊢
      rw [C1.out] at hcap1 ⊢
      have hrw := (hr'.drewN q).below hbl
      have hrY' := (hrY.drewN q).below hbl
      have hap : ∀ x, ad' = some x → 0 < Y.length → x.block ≠ g := fun x e hx => hrY.apart hg x e hx
      have hyl : c' ≤ c := by have := HM.out (by rw [← C1.out] at *; rw [C1.out]; exact Nat.lt_trans (by omega) PX.out); omega
      have hcap1' := Lib.hid hcap1; clear hcap1
      have hcc : c ≤ cap1 := by rw [hcap1'.out]; omega
      go_wp2_with fail
      refine (K2.out _ hrw).mono ?_
      rintro e w' ⟨rfl, rfl⟩
      go_wp2_with fail
      refine (takeTimes_any g 0 c cap1 ad' c' cap' 1 X Y r _ C2.out hyl hcc (by omega) (by rw [C1.out]; omega) hoX hoY (by decide) hbk hrY' hap).mono ?_
      rintro e w' ⟨zs, q', rfl, hwin, hoz, hval, rfl⟩
      have hv : val zs = a - b := by rw [sub_tail C1.out hoz hwin hval (by rw [V1.out, V2.out]; omega), V1.out, V2.out]
      have HZ := Lib.hid (win_full C1.out hwin).1
      have HV := Lib.hid hv; clear hv
      have hbz : Blk (put g zs r _) g zs r := put_blk _ _ hbk.lt
      clear hwin hval
      go_wp2_with fail
      refine (cut_nat _ c cap1 zs _ HZ.out hcc (by omega) hoz hbz.rd_all).mono ?_
      rintro e w' ⟨rfl, rfl⟩
      go_wp2
      go_ret
      rw [← HV.out]
      exact gives_cut hbz hoz (by rw [HZ.out]; exact hcap1'.out) hmx hg (put_below ((below_drewN' (Below.refl _ _) q).trans hbl) hg _ _)
end Go.Proofs.YtolmmpdgbkbcmaaDoor
