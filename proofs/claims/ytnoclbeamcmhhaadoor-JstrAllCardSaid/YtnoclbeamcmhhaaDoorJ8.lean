/- The walks of jstr's reader: half. -/
import Derived.Test.YtnoclbeamcmhhaaDoorJ7
namespace Go.Proofs.YtnoclbeamcmhhaaDoor
open Go.RowKit Go.Shelf Go.Lib
set_option linter.unusedVariables false
set_option linter.unusedSimpArgs false

theorem i32_or16 (x y : Int) (hx : 0 ≤ x) (hx2 : x ≤ 1000000) (hm : x % 16 = 0) (h₀ : 0 ≤ y) (h₁ : y < 16) : bits .or .i32 x y = x + y :=
  bits_join .i32 31 (by decide) wraps_i32 4 x y hx (by simpa using hm) (by simpa using (show x < 2147483648 by omega)) h₀ (by simpa using h₁) (by simpa using (show y < 2147483648 by omega))
theorem tail_cons {s : ByteArray} {n : Nat} (h : n < s.size) : tailL s n = s[n]'h :: tailL s (n + 1) := by
  unfold tailL
  rw [List.drop_eq_getElem_cons (by simpa using h)]
  congr 1

def HalfPost (g : Nat) (r : Option Nat) (n : Nat) (w : World) (e : Ending) (w' : World) : Prop :=
  match r with
  | some r => e = .returned (.int .i32 ((r : Nat) : Int)) ∧ Stepd g ((n + 4 : Nat) : Int) w w'
  | none => ThrowsR g w e w'
/-- What holds from round to round of half. -/
def HR (g : Nat) (s : ByteArray) (n : Nat) (w : World) (k : Nat) (v i : Value) (wr : World) : Prop :=
  ∃ j x : Nat, j ≤ 4 ∧ 4 - j ≤ k ∧ i = .int .i64 (j : Int) ∧ v = .int .i32 (x : Int) ∧ x < 16 ^ j ∧ hexF (4 - j) x (tailL s (n + j)) = fourL (tailL s n) ∧ Stepd g ((n + j : Nat) : Int) w wr
set_option maxHeartbeats 1000000 in
theorem half_any (g : Nat) (s : ByteArray) (n : Nat) (w : World) (hs : s.size ≤ 1000000) (hr : Rdr g s n w) (hn : n ≤ 2000000) :
    Calls Tryd.prog 91 #[.pointer (some ⟨g, 0, none⟩)] w (HalfPost g (fourL (tailL s n)) n w) := by
  have HRD := Lib.hid (fun (k : Nat) W (h : Stepd g (k : Int) w W) => h.rdr hr)
  have HST := Lib.hid (show HR g s n w 4 (.int .i32 0) (.int .i64 0) w from ⟨0, 0, by omega, by omega, rfl, rfl, by decide, rfl, Stepd.of_below hr (Below.refl _ _)⟩)
  clear hr
  go_enter Tryd.func91, Tryd.ntmps91
  go_wp2
  go_loopg [3, 4] 4 (fun k v i wr => HR g s n w k v i wr)
  case atStart => exact HST.out
  case round =>
    obtain ⟨j, x, hj, hk, rfl, rfl, hx, he, hst⟩ := hrel
    have HE := Lib.hid he; have HS := Lib.hid hst; have HX := Lib.hid hx
    have hr := HRD.out _ _ hst
    clear he hst
    by_cases h4 : j < 4
    · obtain ⟨k, rfl⟩ : ∃ k, gk = k + 1 := ⟨gk - 1, by omega⟩
      have hjz : (j : Int) < 4 := by omega
      have hxb : x < 4096 := by
        have : 16 ^ j ≤ 16 ^ 3 := Nat.pow_le_pow_right (by decide) (by omega)
        omega
      clear hx
      by_cases hl : n + j < s.size
      · have HT := Lib.hid (tail_cons hl)
        have KT := Lib.hid (take_yes g s (n + j) wr hs hr hl _ rfl)
        generalize s[n + j] = c at *
        have hc := c.toNat_lt
        cases hd : hexN c.toNat with
        | none =>
          have HN := Lib.hid (show fourL (tailL s n) = none by
            rw [← HE.out, HT.out, show 4 - j = (3 - j) + 1 by omega]; simp only [hexF, hd])
          have KD := Lib.hid (fun W => digit_no c.toNat W hc hd)
          clear hd hr
          unfold ThrowsW at KD
          go_wp2_with fail
          refine KT.out.mono ?_
          rintro r w1 ⟨rfl, h1⟩
          have H1 := Lib.hid (HS.out.trans h1); clear h1
          go_wp2_with fail
          refine (KD.out _).mono ?_
          rintro r w2 ⟨rfl, rfl⟩
          go_wp2
          unfold HalfPost
          rw [HN.out]
          exact ⟨rfl, rfl, _, H1.out⟩
        | some d =>
          have hdl := hexN_lt hd
          have HN := Lib.hid (show hexF (4 - (j + 1)) (x * 16 + d) (tailL s (n + (j + 1))) = fourL (tailL s n) by
            rw [← HE.out, HT.out, show 4 - j = (4 - (j + 1)) + 1 by omega]; simp only [hexF, hd]; rfl)
          have KD := Lib.hid (fun W => digit_yes c.toNat d W hc hd)
          have hor := i32_or16 ((x : Int) * 16) (d : Int) (by omega) (by omega) (by omega) (by omega) (by omega)
          have HP := Lib.hid (show x * 16 + d < 16 ^ (j + 1) by have := HX.out; rw [Nat.pow_succ]; omega)
          clear hd hr
          go_wp2_with fail
          refine KT.out.mono ?_
          rintro r w1 ⟨rfl, h1⟩
          have H1 := Lib.hid (HS.out.trans h1); clear h1
          go_wp2_with fail
          refine (KD.out _).mono ?_
          rintro r w2 ⟨rfl, rfl⟩
          go_wp2
          go_roundg k
          case rel => exact ⟨j + 1, x * 16 + d, by omega, by omega, by go_num, by first | rfl | (congr 1) | skip, HP.out, HN.out, H1.out⟩
          case measure => omega
      · have HN := Lib.hid (show fourL (tailL s n) = none by
          rw [← HE.out, tailL_end (by omega), show 4 - j = (3 - j) + 1 by omega]; rfl)
        have KT := Lib.hid (take_no g s ((n + j : Nat) : Int) wr hs hr (by omega) (by omega))
        clear hr
        go_wp2_with fail
        refine KT.out.mono ?_
        rintro r w1 ⟨rfl, q, h1⟩
        have H1 := Lib.hid (HS.out.trans h1); clear h1
        go_wp2
        unfold HalfPost
        rw [HN.out]
        exact ⟨rfl, rfl, _, H1.out⟩
    · obtain rfl : j = 4 := by omega
      have HN := Lib.hid (show fourL (tailL s n) = some x by rw [← HE.out]; rfl)
      clear hr hx
      go_wp2
      go_ret
      unfold HalfPost
      rw [HN.out]
      exact ⟨rfl, HS.out⟩
end Go.Proofs.YtnoclbeamcmhhaaDoor
