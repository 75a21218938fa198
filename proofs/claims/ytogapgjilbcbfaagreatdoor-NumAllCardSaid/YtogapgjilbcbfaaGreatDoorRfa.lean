/- The walks of the reference's Norm, limb, Cmp. -/
import Derived.Test.YtogapgjilbcbfaaGreatDoorB2
namespace Go.Proofs.YtogapgjilbcbfaaGreatDoor
open Go.RowKit
set_option linter.unusedVariables false
set_option linter.unusedSimpArgs false

set_option maxHeartbeats 1000000 in
theorem refNorm_any (ad : Option Addr) (n cap : Nat) (xs : List Nat) (w : World) (hn : xs.length = n) (hcap : n ≤ cap) (hm : n ≤ 100000000) (ho : Okl xs) (hr : Rd w ad xs) :
    Calls Tryz.prog 55 #[.slice ad n cap] w (Gives (val xs) w) := by
  have hcl := cutLen_le xs n
  have hcv := cut_limbs ho
  rw [hn] at hcv
  have hr' := hr.take (cutLen xs n)
  have hlc : (xs.take (cutLen xs n)).length = cutLen xs n := by rw [List.length_take]; omega
  have hot := ho.take (cutLen xs n)
  have HN := Lib.hid hn; clear hn
  have HF : Hid (∀ v w1, Own w.heap.size w1 v ([] ++ xs.take (cutLen xs n)) → Below w.heap.size w w1 → Gives (val xs) w (.returned v) w1) := fun v w1 h1 h2 => ⟨v, rfl, by rw [← hcv]; simpa using h1, h2⟩
  clear hcv
  have HC := Lib.hid (rfl : cutLen xs n = cutLen xs n)
  generalize hc0 : cutLen xs n = c at *
  have HC0 := Lib.hid hc0; clear hc0 HC
  generalize hY : xs.take c = Y at *
  clear hY
  have HLC := Lib.hid hlc; clear hlc
  go_enter Tryz.func55, Tryz.ntmps55
  go_wp2
  go_loop [3] (fun i => ∃ k : Nat, k ≤ n ∧ i = .int .i64 k ∧ cutLen xs k = c) (fun i => (intOf i).toNat)
  case atStart => exact ⟨n, Nat.le_refl _, rfl, HC0.out⟩
  case round =>
    obtain ⟨k, hk, rfl, he⟩ := hrel
    have HE := Lib.hid he; clear he
    rcases k with _ | k
    · have h0 : c = 0 := by rw [← HE.out]; rfl
      subst h0
      go_wp2_with (at_builtin; refine wpl_append_rd rfl _ _ rfl w.heap.size _ [] rfl (Own.nil _ _) _ _ _ Y rfl hot HLC.out hr' (by simp) (Nat.le_refl _) ?_; intro v' w' hv hb)
      go_ret
      exact HF.out _ _ hv hb
    · obtain ⟨b, o, hadd, _, hc⟩ := hr k (by rw [HN.out]; omega)
      subst hadd
      generalize hx : xs.getD k 0 = x at *
      have HX := Lib.hid hx; clear hx
      by_cases hz : x = 0
      · go_wp2
        go_round
        case rel => exact ⟨k, by omega, rfl, by rw [← HE.out]; simp only [cutLen]; rw [if_pos (by rw [HX.out]; exact hz)]⟩
        case measure => simp [intOf]
      · have h0 : c = k + 1 := by rw [← HE.out]; simp only [cutLen]; rw [if_neg (by rw [HX.out]; exact hz)]
        subst h0
        go_wp2_with (at_builtin; refine wpl_append_rd rfl _ _ rfl w.heap.size _ [] rfl (Own.nil _ _) _ _ _ Y rfl hot HLC.out hr' (by simp; omega) (Nat.le_refl _) ?_; intro v' w' hv hb)
        go_ret
        exact HF.out _ _ hv hb

set_option maxHeartbeats 1000000 in
theorem limb_any (ad : Option Addr) (n cap : Nat) (xs : List Nat) (i : Nat) (w : World) (hn : xs.length = n) (hcap : n ≤ cap) (hm : n ≤ 1000000000) (hi : i ≤ 1000000000) (ho : Okl xs) (hr : Rd w ad xs) :
    Calls Tryz.prog 61 #[.slice ad n cap, .int .i64 (i : Int)] w fun e w' => e = .returned (.int .u64 ((xs.getD i 0 : Nat) : Int)) ∧ w' = w := by
  by_cases hin : i < n
  · obtain ⟨b, o, rfl, _, hc⟩ := hr i (by omega)
    have hin' : (i : Int) < (n : Int) := by omega
    have hx : xs.getD i 0 < 4294967296 := ho.getD i
    generalize xs.getD i 0 = x at *
    go_enter Tryz.func61, Tryz.ntmps61
    go_wp2
    go_ret
    exact ⟨rfl, rfl⟩
  · have hin' : ¬ ((i : Int) < (n : Int)) := by omega
    have hx : xs.getD i 0 = 0 := getD_out (by omega)
    rw [hx]
    go_enter Tryz.func61, Tryz.ntmps61
    go_wp2
    go_ret
    exact ⟨rfl, rfl⟩

/-- Lists of two lengths, filled up with noughts to one. -/
def pad (xs : List Nat) (m : Nat) : List Nat := xs ++ List.replicate (m - xs.length) 0
theorem pad_len {xs : List Nat} {m : Nat} (h : xs.length ≤ m) : (pad xs m).length = m := by simp [pad]; omega
theorem pad_ok {xs : List Nat} (h : Okl xs) (m : Nat) : Okl (pad xs m) := h.append (Okl.replicate _)
theorem pad_val (xs : List Nat) (m : Nat) : val (pad xs m) = val xs := val_behind xs _
theorem pad_getD (xs : List Nat) (m i : Nat) : (pad xs m).getD i 0 = xs.getD i 0 := by
  unfold pad
  simp only [List.getD, List.getElem?_append, List.getElem?_replicate]
  by_cases h : i < xs.length
  · simp [h]
  · simp only [h, if_false]
    split <;> simp [List.getElem?_eq_none (by omega : xs.length ≤ i)]
theorem val_top_pad {xs ys : List Nat} (hx : Okl xs) (hy : Okl ys) {m : Nat} (h1 : xs.length ≤ m) (h2 : ys.length ≤ m) (j : Nat) (hj : j < m) (hs : ∀ i, j + 1 ≤ i → xs.getD i 0 = ys.getD i 0) (h : xs.getD j 0 < ys.getD j 0) : val xs < val ys := by
  rw [← pad_val xs m, ← pad_val ys m]
  exact val_top_lt (pad_ok hx m) (pad_ok hy m) (by rw [pad_len h1, pad_len h2]) j (by rw [pad_len h1]; exact hj) (fun i hi => by rw [pad_getD, pad_getD]; exact hs i hi) (by rw [pad_getD, pad_getD]; exact h)
theorem val_same_pad {xs ys : List Nat} {m : Nat} (h1 : xs.length ≤ m) (h2 : ys.length ≤ m) (hs : ∀ i, 0 ≤ i → xs.getD i 0 = ys.getD i 0) : val xs = val ys := by
  rw [← pad_val xs m, ← pad_val ys m]
  exact congrArg val (list_eq_of_getD (xs := pad xs m) (ys := pad ys m) (by rw [pad_len h1, pad_len h2]) (fun i hi => by rw [pad_getD, pad_getD]; exact hs i hi))

set_option maxHeartbeats 2000000 in
theorem refCmp_any (ad : Option Addr) (n cap : Nat) (xs : List Nat) (ad' : Option Addr) (n' cap' : Nat) (ys : List Nat) (w : World) (hn : xs.length = n) (hcap : n ≤ cap) (hm : n ≤ 100000000) (ho : Okl xs) (hr : Rd w ad xs)
    (hn' : ys.length = n') (hcap' : n' ≤ cap') (hm' : n' ≤ 100000000) (ho' : Okl ys) (hr' : Rd w ad' ys) :
    Calls Tryz.prog 42 #[.slice ad n cap, .slice ad' n' cap'] w (CmpPost (val xs) (val ys) w) := by
  have KA := Lib.hid (fun (i : Nat) q (hi : i ≤ 1000000000) => limb_any ad n cap xs i (w.drewN q) hn hcap (by omega) hi ho (hr.drewN q))
  have KB := Lib.hid (fun (i : Nat) q (hi : i ≤ 1000000000) => limb_any ad' n' cap' ys i (w.drewN q) hn' hcap' (by omega) hi ho' (hr'.drewN q))
  obtain ⟨m, hmm⟩ : ∃ m, m = max n n' := ⟨_, rfl⟩
  have hl1 : xs.length ≤ m := by omega
  have hl2 : ys.length ≤ m := by omega
  have hm9 : m ≤ 100000000 := by omega
  have HV1 := Lib.hid (fun j hj hs => val_top_pad ho ho' hl1 hl2 j hj hs)
  have HV2 := Lib.hid (fun j hj hs => val_top_pad ho' ho hl2 hl1 j hj hs)
  have HV3 := Lib.hid (val_same_pad (xs := xs) (ys := ys) hl1 hl2)
  have HA := Lib.hid ho
  have HB := Lib.hid ho'
  have H1 := Lib.hid (fun j (h : m ≤ j) => getD_out (xs := xs) (j := j) (by omega))
  have H2 := Lib.hid (fun j (h : m ≤ j) => getD_out (xs := ys) (j := j) (by omega))
  have HM := Lib.hid (show max (n : Int) (n' : Int) = (m : Int) by omega)
  clear hn hn' ho ho' hr hr' hl1 hl2 hmm
  generalize val xs = a at *
  generalize val ys = b at *
  go_enter Tryz.func42, Tryz.ntmps42
  go_wp2_with fail
  rw [HM.out]
  go_loopw [5] (fun i wr => CmpRel xs ys m w i wr) (fun i _ => (intOf i + 1).toNat)
  case atStart => exact ⟨m, 0, Nat.le_refl _, rfl, fun j hj => by rw [H1.out j hj, H2.out j hj], rfl⟩
  case round =>
    obtain ⟨k, q, hk, rfl, hs, rfl⟩ := hrel
    have HS := Lib.hid hs; clear hs
    rcases k with _ | j
    · have hab : a = b := HV3.out HS.out
      have H := Lib.hid (show CmpPost a b w (.returned (.int .i64 0)) (w.drewN q) from ⟨by rw [hab, cmpN_eq], q, rfl⟩)
      clear hab
      rw [show (((0 : Nat) : Int) - 1) = -1 from rfl]
      go_wp2
      go_ret
      exact H.out
    · rw [show (((j + 1 : Nat) : Int) - 1) = (j : Int) by omega]
      have hv1 := Lib.hid (HV1.out j (by omega) HS.out)
      have hv2 := Lib.hid (HV2.out j (by omega) (fun i hi => (HS.out i hi).symm))
      have HJ : Hid (xs.getD j 0 = ys.getD j 0 → ∀ i, j ≤ i → xs.getD i 0 = ys.getD i 0) := fun h0 i hi => by
        by_cases hij : i = j
        · subst hij; exact h0
        · exact HS.out i (by omega)
      have KA' := Lib.hid (fun q => KA.out j q (by omega))
      have KB' := Lib.hid (fun q => KB.out j q (by omega))
      clear KA KB HV1 HV2
      generalize xs.getD j 0 = x at *
      generalize ys.getD j 0 = y at *
      rcases Nat.lt_trichotomy x y with hxy | hxy | hxy
      · have hab := hv1.out hxy
        have hxy' : (x : Int) < (y : Int) := by omega
        have H := Lib.hid (cmpN_lt hab)
        clear hab HJ
        go_wp2_with fail
        refine (KA'.out q).mono ?_
        rintro e w' ⟨rfl, rfl⟩
        go_wp2_with fail
        refine (KB'.out _).mono ?_
        rintro e w' ⟨rfl, rfl⟩
        go_wp2

        go_ret
        exact ⟨by rw [H.out]; rfl, _, rfl⟩
      · subst hxy
        go_wp2_with fail
        refine (KA'.out q).mono ?_
        rintro e w' ⟨rfl, rfl⟩
        go_wp2_with fail
        refine (KB'.out _).mono ?_
        rintro e w' ⟨rfl, rfl⟩
        go_wp2_with fail
        refine (KA'.out q).mono ?_
        rintro e w' ⟨rfl, rfl⟩
        go_wp2_with fail
        refine (KB'.out _).mono ?_
        rintro e w' ⟨rfl, rfl⟩
        go_wp2
        go_roundw
        case rel => exact ⟨j, _, by omega, by go_num, by first | exact HJ.out rfl | exact HJ.out trivial, rfl⟩
        case measure => simp [intOf]
      · have hab := hv2.out hxy
        have hxy' : (y : Int) < (x : Int) := by omega
        have H := Lib.hid (cmpN_gt hab)
        clear hab HJ
        go_wp2_with fail
        refine (KA'.out q).mono ?_
        rintro e w' ⟨rfl, rfl⟩
        go_wp2_with fail
        refine (KB'.out _).mono ?_
        rintro e w' ⟨rfl, rfl⟩
        go_wp2_with fail
        refine (KA'.out q).mono ?_
        rintro e w' ⟨rfl, rfl⟩
        go_wp2_with fail
        refine (KB'.out _).mono ?_
        rintro e w' ⟨rfl, rfl⟩
        go_wp2
        go_ret
        exact ⟨by rw [H.out]; rfl, _, rfl⟩
end Go.Proofs.YtogapgjilbcbfaaGreatDoor
