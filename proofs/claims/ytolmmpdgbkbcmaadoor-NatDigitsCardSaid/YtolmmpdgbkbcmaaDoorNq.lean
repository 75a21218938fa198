/- The walks of bytes TrimRight at one byte, and of slices Reverse at bytes. -/
import Derived.Test.YtolmmpdgbkbcmaaDoorDec
namespace Go.Proofs.YtolmmpdgbkbcmaaDoor
open Go.RowKit
set_option linter.unusedVariables false

set_option maxHeartbeats 1000000 in
theorem trimByte_any (ad : Option Addr) (n cap : Nat) (xs : List Nat) (w : World) (hn : xs.length = n) (hcap : n ≤ cap) (hm : n ≤ 1000000000000) (hr : Rdb w ad xs) :
    Calls Tryd.prog 61 #[.slice ad n cap, .int .u8 48] w fun e w' => e = .returned (.slice ad (trimLen xs n) cap) ∧ w = w' := by
  go_enter Tryd.func61, Tryd.ntmps61
  go_wp2
  go_loop [0] (fun v => ∃ k : Nat, k ≤ n ∧ v = .slice ad k cap ∧ trimLen xs k = trimLen xs n) (fun v => match v with | .slice _ k _ => k | _ => 0)
  case atStart => exact ⟨n, Nat.le_refl _, rfl, rfl⟩
  case round =>
    obtain ⟨k, hk, rfl, he⟩ := hrel
    have HE := Lib.hid he; clear he
    rcases k with _ | k
    · have h0 : trimLen xs n = 0 := by rw [← HE.out]; rfl
      have H0 := Lib.hid h0; clear h0
      go_wp2
      go_ret
      rw [H0.out]; exact ⟨rfl, rfl⟩
    · obtain ⟨b, o, hadd, _, hc⟩ := hr k (by omega)
      subst hadd
      generalize hx : xs.getD k 0 = x at *
      have HX := Lib.hid hx; clear hx
      by_cases hz : x = 48
      · have hT : trimLen xs k = trimLen xs n := by rw [← HE.out]; simp only [trimLen]; rw [if_pos (by rw [HX.out]; exact hz)]
        have HT := Lib.hid hT; clear hT
        subst hz
        go_wp2
        go_round
        case rel => exact ⟨k, by omega, rfl, HT.out⟩
        case measure => simp
      · have h0 : trimLen xs n = k + 1 := by rw [← HE.out]; simp only [trimLen]; rw [if_neg (by rw [HX.out]; exact hz)]
        have H0 := Lib.hid h0; clear h0
        have hxb : (((x : Int)) == 48) = false := by rw [beq_eq_false_iff_ne]; omega
        go_wp2
        go_ret
        rw [H0.out]; exact ⟨rfl, rfl⟩

set_option maxRecDepth 100000 in
set_option maxHeartbeats 1000000 in
theorem trimRight_any (ad : Option Addr) (n cap : Nat) (xs : List Nat) (w : World) (hn : xs.length = n) (hn0 : 0 < n) (hcap : n ≤ cap) (hm : n ≤ 1000000000000) (hr : Rdb w ad xs) :
    Calls Tryd.prog 52 #[.slice ad n cap, .string ⟨#[48]⟩] w fun e w' => e = .returned (.slice ad (trimLen xs n) cap) ∧ w = w' := by
  have hnb : ((n : Int) == 0) = false := by rw [beq_eq_false_iff_ne]; omega
  go_enter Tryd.func52, Tryd.ntmps52
  go_wp2_with (go_at_call 61; refine (trimByte_any ad n cap xs w hn hcap hm hr).mono ?_; rintro e w' ⟨rfl, rfl⟩)
  go_ret
  exact ⟨rfl, rfl⟩

/-- Half way through a reversal: k from either end are exchanged. -/
def Half (xs ys : List Nat) (k : Nat) : Prop := ys.length = xs.length ∧ ∀ t, t < xs.length → ys.getD t 0 = if t < k ∨ xs.length - k ≤ t then xs.getD (xs.length - 1 - t) 0 else xs.getD t 0
theorem Half.zero (xs : List Nat) : Half xs xs 0 := ⟨rfl, fun t ht => by rw [if_neg (by omega)]⟩
theorem getD_set (l : List Nat) (i t v : Nat) (h : i < l.length) : (l.set i v).getD t 0 = if i = t then v else l.getD t 0 := by
  by_cases hit : i = t
  · subst hit; simp [List.getD, h]
  · simp [List.getD, hit]
theorem Half.step {xs ys : List Nat} {k : Nat} (h : Half xs ys k) (hk : k < xs.length - 1 - k) :
    Half xs ((ys.set k (ys.getD (xs.length - 1 - k) 0)).set (xs.length - 1 - k) (ys.getD k 0)) (k + 1) := by
  obtain ⟨hl, h2⟩ := h
  have hk1 : ys.getD k 0 = xs.getD k 0 := by rw [h2 k (by omega), if_neg (by omega)]
  have hk2 : ys.getD (xs.length - 1 - k) 0 = xs.getD (xs.length - 1 - k) 0 := by rw [h2 _ (by omega), if_neg (by omega)]
  refine ⟨by simp [hl], fun t ht => ?_⟩
  rw [getD_set _ _ _ _ (by rw [List.length_set]; omega), getD_set _ _ _ _ (by omega), hk1, hk2]
  by_cases h3 : xs.length - 1 - k = t
  · subst h3
    rw [if_pos rfl, if_pos (by omega), show xs.length - 1 - (xs.length - 1 - k) = k by omega]
  · rw [if_neg h3]
    by_cases h4 : k = t
    · subst h4; rw [if_pos rfl, if_pos (by omega)]
    · rw [if_neg h4, h2 t ht]
      by_cases h5 : t < k ∨ xs.length - k ≤ t
      · rw [if_pos h5, if_pos (by omega)]
      · rw [if_neg h5, if_neg (by omega)]
theorem Half.done {xs ys : List Nat} {k : Nat} (h : Half xs ys k) (hk : xs.length ≤ 2 * k + 1) : ys = xs.reverse := by
  obtain ⟨hl, h2⟩ := h
  apply List.ext_getElem (by simp [hl])
  intro i h1 h3
  have h4 := h2 i (by omega)
  have h5 : ys[i] = ys.getD i 0 := by simp [List.getD, h1]
  rw [h5, h4, List.getElem_reverse]
  by_cases h6 : i < k ∨ xs.length - k ≤ i
  · rw [if_pos h6]; simp [List.getD, show xs.length - 1 - i < xs.length by omega]
  · rw [if_neg h6]
    have h7 : xs.length - 1 - i = i := by omega
    simp only [h7]
    simp [List.getD, show i < xs.length by omega]

def RevRel (g n : Nat) (xs : List Nat) (r : List Value) (w : World) (i j : Value) (wr : World) : Prop :=
  ∃ k q ys, i = .int .i64 ((k : Nat) : Int) ∧ j = .int .i64 ((n : Int) - 1 - (k : Int)) ∧ 2 * k ≤ n ∧ Okb ys ∧ Half xs ys k ∧ wr = (putb g ys r w).drewN q

set_option maxHeartbeats 4000000 in
theorem reverse_any (g n cap : Nat) (xs : List Nat) (r : List Value) (w : World) (hn : xs.length = n) (hm : n ≤ 1000000000000) (ho : Okb xs) (hb : Bkb w g xs r) :
    Calls Tryd.prog 53 #[.slice (some ⟨g, 0, none⟩) n cap] w fun e w' => e = .returned (.tuple #[]) ∧ ∃ q, w' = (putb g xs.reverse r w).drewN q := by
  have HN := Lib.hid hn; clear hn
  go_enter Tryd.func53, Tryd.ntmps53
  go_wp2
  go_loopw [2, 3] (fun i j wr => RevRel g n xs r w i j wr) (fun i _ _ => n - (intOf i).toNat)
  case atStart => exact ⟨0, 0, xs, rfl, by go_num, by omega, ho, Half.zero xs, by rw [putb_same hb]; rfl⟩
  case round =>
    obtain ⟨k, q, ys, rfl, rfl, hk, hoy, hh, rfl⟩ := hrel
    have hbk : Bkb (putb g ys r w) g ys r := putb_blk _ _ hb.lt
    have hyl : ys.length = n := by rw [hh.1, HN.out]
    have HY := Lib.hid hyl; clear hyl
    by_cases hlt : k < n - 1 - k
    · have hj : (n : Int) - 1 - (k : Int) = ((n - 1 - k : Nat) : Int) := by omega
      rw [hj]
      have hst := hh.step (by rw [HN.out]; exact hlt)
      rw [HN.out] at hst
      have hc1 := hbk.cell k (by rw [HY.out]; omega)
      have hc2 := hbk.cell (n - 1 - k) (by rw [HY.out]; omega)
      have hf1 := hbk.free k
      have hf2 := hbk.free (n - 1 - k)
      have hxb := hoy.getD k
      have hyb := hoy.getD (n - 1 - k)
      generalize hJ : n - 1 - k = j at *
      have HJ := Lib.hid hJ; clear hJ hj
      generalize ys.getD k 0 = x at *
      generalize ys.getD j 0 = y at *
      have hkn : (k : Int) < (n : Int) := by have := HJ.out; omega
      have hjn : (j : Int) < (n : Int) := by have := HJ.out; omega
      have hkj : (k : Int) < (j : Int) := by omega
      have e1 : ((putb g ys r w).setCell ⟨g, k, none⟩ (.int .u8 (y : Int))).setCell ⟨g, j, none⟩ (.int .u8 (x : Int)) = putb g ((ys.set k y).set j x) r w := by
        rw [setb_blk hbk k y (by rw [HY.out]; omega), putb_put, setb_blk (putb_blk _ _ hb.lt) j x (by rw [List.length_set, HY.out]; omega), putb_put]
      have E1 := Lib.hid e1; clear e1
      have HST := Lib.hid hst; clear hst
      go_wp2
      go_region
      go_wp2
      go_roundw
      case rel =>
        refine ⟨k + 1, q + 1, (ys.set k y).set j x, by go_num, by have := HJ.out; go_num, by have := HJ.out; omega, (hoy.set _ _ hyb).set _ _ hxb, HST.out, ?_⟩
        rw [← E1.out]; rfl
      case measure => simp [intOf]; omega
    · have hd := hh.done (by rw [HN.out]; omega)
      have HD := Lib.hid hd; clear hd
      go_wp2
      go_end0
      exact ⟨rfl, q, by rw [HD.out]⟩
end Go.Proofs.YtolmmpdgbkbcmaaDoor
