/- The walks of the reference's run and exponent (package erratumref02). -/
import Derived.Test.YtokppjfaihkkcaaDoorC5
import Derived.Deep.LoopGhost
import Derived.Deep.DeepCutAuto
namespace Go.Proofs.YtokppjfaihkkcaaDoor
open Go.RowKit Go.Sort
set_option linter.unusedVariables false
set_option linter.unusedSimpArgs false

theorem txt_slice (l : List Nat) (a b : Nat) : (txt l).extract a b = txt ((l.drop a).take (b - a)) := by
  apply ByteArray.ext
  simp [txt, ByteArray.data_extract, List.map_take, List.map_drop, List.extract_eq_take_drop]
theorem getD_drop2 (l : List Nat) (a k : Nat) : (l.drop a).getD k 0 = l.getD (a + k) 0 := by
  simp [List.getD, List.getElem?_drop]
theorem slice_digs (l : List Nat) (a : Nat) : (txt l).extract a (a + (digs (l.drop a)).length) = txt (digs (l.drop a)) := by
  rw [txt_slice, Nat.add_sub_cancel_left, (digs_split (l.drop a)).1]

def RunLoop (a D : Nat) (w : World) (g : Nat) (i : Value) (wr : World) : Prop := g ≤ D ∧ i = .int .i64 ((a + (D - g) : Nat) : Int) ∧ wr = w
def RunPost (l : List Nat) (a : Nat) (w : World) (e : Ending) (w' : World) : Prop :=
  e = .returned (.tuple #[.string (txt (digs (l.drop a))), .int .i64 ((a + (digs (l.drop a)).length : Nat) : Int)]) ∧ w' = w

set_option maxHeartbeats 4000000 in
theorem refRun_any (l : List Nat) (a : Nat) (w : World) (ho : Okb l) (hl : l.length ≤ 100000) (ha : a ≤ l.length) :
    Calls Tryd.prog 34 #[.string (txt l), .int .i64 (a : Int)] w (RunPost l a w) := by
  have hsz : (txt l).size = l.length := txt_size l
  have hDl : (digs (l.drop a)).length ≤ l.length - a := by have := digs_len (l.drop a); simpa using this
  have HEND : Hid ((digs (l.drop a)).length < l.length - a → ¬ (48 ≤ l.getD (a + (digs (l.drop a)).length) 0 ∧ l.getD (a + (digs (l.drop a)).length) 0 ≤ 57)) := fun h => by
    have := @digs_end (l.drop a) (by rw [List.length_drop]; exact h)
    rwa [getD_drop2] at this
  have HAT := Lib.hid (txt_at l ho)
  have HDA : Hid (∀ k, k < (digs (l.drop a)).length → 48 ≤ l.getD (a + k) 0 ∧ l.getD (a + k) 0 ≤ 57) := fun k h => by
    have := @digs_at (l.drop a) k h
    rw [getD_drop2] at this
    exact ⟨this.1, this.2.1⟩
  have HT := Lib.hid (slice_digs l a)
  have HOB := Lib.hid ho; clear ho
  unfold RunPost
  generalize hdd : digs (l.drop a) = dd at *
  have HDD := Lib.hid hdd; clear hdd
  generalize hD : dd.length = D at *
  generalize hL : l.length = n at *
  have HDl := Lib.hid hD; clear hD
  have HLL := Lib.hid hL; clear hL
  go_enter Tryd.func34, Tryd.ntmps34
  go_wp2
  go_loopg [6] D (fun k i wr => RunLoop a D w k i wr)
  case atStart => exact ⟨Nat.le_refl _, by rw [Nat.sub_self]; rfl, rfl⟩
  case round =>
    obtain ⟨hk, rfl, rfl⟩ := hrel
    rcases gk with _ | m
    · rw [Nat.sub_zero]
      have hqn : a + D ≤ n := by omega
      have haq : a ≤ a + D := by omega
      have HE2 : Hid (a + D < n → ¬ (48 ≤ l.getD (a + D) 0 ∧ l.getD (a + D) 0 ≤ 57)) := fun h => HEND.out (by omega)
      generalize hq : a + D = q at *
      have HQ : Hid ((q : Int) = (a : Int) + (D : Int)) := by show _ = _; omega
      clear hq
      have haqz : (a : Int) ≤ (q : Int) := by omega
      have hqnz : (q : Int) ≤ (n : Int) := by omega
      by_cases hend : q < n
      · have hlt : (q : Int) < (n : Int) := by omega
        have h0 : q < (txt l).size := by rw [hsz]; exact hend
        have hx := HAT.out q h0
        have hn := HE2.out hend
        generalize hs : txt l = s at *
        have HSS := Lib.hid hs; clear hs
        generalize l.getD q 0 = x at *
        by_cases h1 : x < 48
        · have h1z : ¬ (48 : Int) ≤ (x : Int) := by omega
          have h1d : decide ((48 : Int) ≤ (x : Int)) = false := decide_eq_false h1z
          clear hn
          go_wp2
          go_ret2
          exact ⟨by rw [HT.out, HQ.out]; rfl, rfl⟩
        · have h1z : (48 : Int) ≤ (x : Int) := by omega
          have h1d : decide ((48 : Int) ≤ (x : Int)) = true := decide_eq_true h1z
          have h2z : ¬ (x : Int) ≤ (57 : Int) := by omega
          have h2d : decide ((x : Int) ≤ (57 : Int)) = false := decide_eq_false h2z
          clear hn
          go_wp2
          go_ret2
          exact ⟨by rw [HT.out, HQ.out]; rfl, rfl⟩
      · obtain rfl : q = n := by omega
        have hlt : ¬ ((q : Int) < (q : Int)) := by omega
        generalize hs : txt l = s at *
        have HSS := Lib.hid hs; clear hs
        go_wp2
        go_ret2
        exact ⟨by rw [HT.out, HQ.out]; rfl, rfl⟩
    · obtain ⟨d1, d2⟩ := HDA.out (D - (m + 1)) (by omega)
      have hqn : a + (D - (m + 1)) < n := by omega
      have hnx : ((a + (D - (m + 1)) : Nat) : Int) + 1 = ((a + (D - m) : Nat) : Int) := by omega
      have HNX := Lib.hid hnx; clear hnx
      have HM : Hid (m ≤ D) := by show m ≤ D; omega
      generalize a + (D - (m + 1)) = q at *
      have hlt : (q : Int) < (n : Int) := by omega
      have h0 : q < (txt l).size := by rw [hsz]; exact hqn
      have hx := HAT.out q h0
      generalize hs : txt l = s at *
      have HSS := Lib.hid hs; clear hs
      generalize l.getD q 0 = x at *
      have h1z : (48 : Int) ≤ (x : Int) := by omega
      have h1d : decide ((48 : Int) ≤ (x : Int)) = true := decide_eq_true h1z
      have h2z : (x : Int) ≤ (57 : Int) := by omega
      have h2d : decide ((x : Int) ≤ (57 : Int)) = true := decide_eq_true h2z
      go_wp2
      go_roundg m
      case measure => omega
      case rel => exact ⟨HM.out, by rw [← HNX.out], rfl⟩

def ExpPost (T : List Nat) (neg : Bool) (w : World) (e : Ending) (w' : World) : Prop :=
  e = .returned (.tuple (if T.length ≤ 6 then #[.int .i64 (if neg = true then -(hval T : Int) else (hval T : Int)), .bool true] else #[.int .i64 0, .bool false])) ∧ w' = w
def ExpLoop (T : List Nat) (w : World) (g : Nat) (i : Value) (wr : World) : Prop := ∃ l, l.length = g ∧ Okd l ∧ l.dropWhile (· == 48) = T ∧ i = .string (txt l) ∧ wr = w
theorem take_snoc3 (l : List Nat) (k : Nat) (h : k < l.length) : hval (l.take (k + 1)) = 10 * hval (l.take k) + (l.getD k 0 - 48) := by rw [take_snoc' l k h, hval_snoc]
theorem txt_drop1 (x : Nat) (l : List Nat) : (txt (x :: l)).extract 1 (l.length + 1) = txt l := by
  have := txt_drop (x :: l) 1
  rw [txt_size] at this
  exact this

set_option maxHeartbeats 4000000 in
theorem refExp_any (x : List Nat) (neg : Bool) (w : World) (hx : Okd x) (hl : x.length ≤ 100000) :
    Calls Tryd.prog 36 #[.string (txt x), .bool neg] w (ExpPost (x.dropWhile (· == 48)) neg w) := by
  have hTl : (x.dropWhile (· == 48)).length ≤ 100000 := Nat.le_trans (List.dropWhile_sublist _).length_le hl
  have hTo : Okd (x.dropWhile (· == 48)) := okd_drop hx
  generalize hT : x.dropWhile (· == 48) = T at *
  have HPO : Hid (ExpPost T neg w = fun e w' => e = .returned (.tuple (if T.length ≤ 6 then #[.int .i64 (if neg = true then -(hval T : Int) else (hval T : Int)), .bool true] else #[.int .i64 0, .bool false])) ∧ w' = w) := rfl
  rw [HPO.out]
  have HX0 := Lib.hid (show ExpLoop T w x.length (.string (txt x)) w from ⟨x, rfl, hx, hT, rfl, rfl⟩)
  have HL := Lib.hid hl
  go_enter Tryd.func36, Tryd.ntmps36
  go_wp2
  go_loopg [0] x.length (fun g i wr => g ≤ x.length ∧ ExpLoop T w g i wr)
  case atStart => exact ⟨Nat.le_refl _, HX0.out⟩
  case round =>
    obtain ⟨hgx, l, hlg, hol, hdl, rfl, rfl⟩ := hrel
    have hsz : (txt l).size = l.length := txt_size l
    have hll : l.length ≤ 100000 := by omega
    have HAT := Lib.hid (txt_at l hol.b)
    by_cases hz : ∃ l', l = 48 :: l'
    · obtain ⟨l', rfl⟩ := hz
      have hgk : gk = l'.length + 1 := by rw [← hlg]; rfl
      have hdl' : l'.dropWhile (· == 48) = T := by rw [← hdl]; rfl
      have hol' : Okd l' := hol.tail
      have HR := Lib.hid (show ExpLoop T wr l'.length (.string (txt l')) wr from ⟨l', rfl, hol', hdl', rfl, rfl⟩)
      have HD := Lib.hid (txt_drop1 48 l')
      have hsz1 : (txt (48 :: l')).size = l'.length + 1 := hsz
      have h0 : 0 < (txt (48 :: l')).size := by rw [hsz1]; omega
      have hat := HAT.out 0 h0
      have hgt : (0 : Int) < ((l'.length + 1 : Nat) : Int) := by omega
      have hx48 : ((48 :: l').getD 0 0) = 48 := rfl
      rw [hx48] at hat
      clear hdl hol hlg hsz hdl' hol' hx48 hx hT
      have hln : l'.length ≤ 100000 := by omega
      generalize hs : txt (48 :: l') = s at *
      generalize txt l' = s' at *
      have HSS := Lib.hid hs; clear hs
      subst hgk
      go_wp2
      go_roundg l'.length
      case measure => omega
      case rel => exact ⟨by omega, by have := HR.out; rw [← HD.out] at this; exact this⟩
    · have hlT : l = T := by
        rw [← hdl]
        rcases l with _ | ⟨y, t⟩
        · rfl
        · have : (y == 48) = false := by rw [beq_eq_false_iff_ne]; intro h; exact hz ⟨t, by rw [h]⟩
          rw [List.dropWhile_cons, this]; rfl
      subst hlT
      have hhead : ∀ h0 : 0 < l.length, l.getD 0 0 ≠ 48 := by
        intro h0 h
        rcases l with _ | ⟨y, t⟩
        · simp at h0
        · exact hz ⟨t, by rw [show y = 48 from h]⟩
      have HOL := Lib.hid hol
      clear hz hdl hx hT hlg hol hTo
      by_cases h6 : 6 < l.length
      · have h6z : (6 : Int) < (l.length : Int) := by omega
        have h0 : 0 < (txt l).size := by rw [hsz]; omega
        have hgt : (0 : Int) < (l.length : Int) := by omega
        have hat := HAT.out 0 h0
        have hne := hhead (by omega)
        have HIF : Hid (¬ l.length ≤ 6) := by show ¬ _; omega
        clear hhead
        generalize l.getD 0 0 = y at *
        have hne2 : ((y : Int) == 48) = false := by rw [beq_eq_false_iff_ne]; omega
        generalize hs : txt l = s at *
        have HSS := Lib.hid hs; clear hs
        go_wp2
        go_ret2
        exact ⟨rfl, rfl⟩
      · have h6z : ¬ (6 : Int) < (l.length : Int) := by omega
        have HIF : Hid (l.length ≤ 6) := by show _ ≤ _; omega
        clear HPO
        rcases Nat.eq_zero_or_pos l.length with h0 | h0
        · have hgt : ¬ (0 : Int) < (l.length : Int) := by omega
          clear hhead h0
          go_wp2
          go_loop [6, 7] (fun v i => ∃ (k x : Nat), k ≤ l.length ∧ i = .int .i64 (k : Int) ∧ v = .int .i64 (x : Int) ∧ x = hval (l.take k)) (fun _ i => l.length - (intOf i).toNat)
          case atStart => exact ⟨0, 0, Nat.zero_le _, rfl, rfl, rfl⟩
          case round =>
            obtain ⟨k, x, hk, rfl, rfl, hxv⟩ := hrel
            have HX := Lib.hid hxv; clear hxv
            by_cases hlt : k < l.length
            · have hlt' : (k : Int) < (l.length : Int) := by omega
              have hxb : x < 1000000 := by
                have h1 := hval_lt (HOL.out.take k)
                rw [← HX.out, List.length_take, Nat.min_eq_left hk] at h1
                have h2 := tenN_le (show k ≤ 6 by have := HIF.out; omega)
                have h3 : tenN 6 = 1000000 := by decide
                omega
              have h0 : k < (txt l).size := by rw [hsz]; exact hlt
              have hat := HAT.out k h0
              have hok : 48 ≤ l.getD k 0 ∧ l.getD k 0 ≤ 57 := by
                have := HOL.out l[k] (List.getElem_mem hlt)
                simpa [List.getD, hlt] using this
              have HS := Lib.hid (take_snoc3 l k hlt)
              generalize l.getD k 0 = y at *
              obtain ⟨hy1, hy2⟩ := hok
              generalize txt l = s at *
              go_wp2
              go_round
              case rel => exact ⟨k + 1, 10 * x + (y - 48), by omega, by go_num, by first | go_num | (congr 1; omega), by rw [HS.out, HX.out]⟩
              case measure => simp [intOf]; omega
            · obtain rfl : k = l.length := by omega
              have hlt' : ¬ ((l.length : Int) < (l.length : Int)) := by omega
              have hxv := HX.out
              rw [List.take_length] at hxv
              have hxb : x < 1000000 := by
                have h1 := hval_lt HOL.out
                rw [← hxv] at h1
                have h2 := tenN_le (show l.length ≤ 6 by exact HIF.out)
                have h3 : tenN 6 = 1000000 := by decide
                omega
              have HXV := Lib.hid hxv; clear hxv
              cases neg
              · go_wp2
                go_ret2
                exact ⟨by first | (rw [if_pos HIF.out, ← HXV.out]; rfl) | (rw [← HXV.out]; rfl), rfl⟩
              · go_wp2
                go_ret2
                exact ⟨by first | (rw [if_pos HIF.out, ← HXV.out]; rfl) | (rw [← HXV.out]; rfl), rfl⟩
        · have h00 : 0 < (txt l).size := by rw [hsz]; omega
          have hgt : (0 : Int) < (l.length : Int) := by omega
          have hat := HAT.out 0 h00
          have hne := hhead h0
          have hne2 : ((l.getD 0 0 : Int) == 48) = false := by rw [beq_eq_false_iff_ne]; omega
          have hyl := (HOL.out.b).getD 0
          generalize l.getD 0 0 = y at *
          clear hhead h0
          go_wp2
          go_loop [6, 7] (fun v i => ∃ (k x : Nat), k ≤ l.length ∧ i = .int .i64 (k : Int) ∧ v = .int .i64 (x : Int) ∧ x = hval (l.take k)) (fun _ i => l.length - (intOf i).toNat)
          case atStart => exact ⟨0, 0, Nat.zero_le _, rfl, rfl, rfl⟩
          case round =>
            obtain ⟨k, x, hk, rfl, rfl, hxv⟩ := hrel
            have HX := Lib.hid hxv; clear hxv
            by_cases hlt : k < l.length
            · have hlt' : (k : Int) < (l.length : Int) := by omega
              have hxb : x < 1000000 := by
                have h1 := hval_lt (HOL.out.take k)
                rw [← HX.out, List.length_take, Nat.min_eq_left hk] at h1
                have h2 := tenN_le (show k ≤ 6 by have := HIF.out; omega)
                have h3 : tenN 6 = 1000000 := by decide
                omega
              have h0 : k < (txt l).size := by rw [hsz]; exact hlt
              have hat := HAT.out k h0
              have hok : 48 ≤ l.getD k 0 ∧ l.getD k 0 ≤ 57 := by
                have := HOL.out l[k] (List.getElem_mem hlt)
                simpa [List.getD, hlt] using this
              have HS := Lib.hid (take_snoc3 l k hlt)
              generalize l.getD k 0 = y at *
              obtain ⟨hy1, hy2⟩ := hok
              generalize txt l = s at *
              go_wp2
              go_round
              case rel => exact ⟨k + 1, 10 * x + (y - 48), by omega, by go_num, by first | go_num | (congr 1; omega), by rw [HS.out, HX.out]⟩
              case measure => simp [intOf]; omega
            · obtain rfl : k = l.length := by omega
              have hlt' : ¬ ((l.length : Int) < (l.length : Int)) := by omega
              have hxv := HX.out
              rw [List.take_length] at hxv
              have hxb : x < 1000000 := by
                have h1 := hval_lt HOL.out
                rw [← hxv] at h1
                have h2 := tenN_le (show l.length ≤ 6 by exact HIF.out)
                have h3 : tenN 6 = 1000000 := by decide
                omega
              have HXV := Lib.hid hxv; clear hxv
              cases neg
              · go_wp2
                go_ret2
                exact ⟨by first | (rw [if_pos HIF.out, ← HXV.out]; rfl) | (rw [← HXV.out]; rfl), rfl⟩
              · go_wp2
                go_ret2
                exact ⟨by first | (rw [if_pos HIF.out, ← HXV.out]; rfl) | (rw [← HXV.out]; rfl), rfl⟩
end Go.Proofs.YtokppjfaihkkcaaDoor
