/- Chapter 7's own Unquote; the law JstrAll. -/
import Derived.Test.YtnoclbeamcmhhaaDoorJk
namespace Go.Proofs.YtnoclbeamcmhhaaDoor
open Go.RowKit Go.Shelf Go.Lib
set_option linter.unusedVariables false
set_option linter.unusedSimpArgs false

theorem UqPost.none {w w' : World} {r : Option (List UInt8 × Nat)} (h : r = none) (hb : Below w.heap.size w w') : UqPost r w (.returned (.tuple #[.string ⟨#[]⟩, .int .i64 0, .int .i64 2])) w' := by
  subst h; exact ⟨rfl, hb⟩
theorem UqPost.some {m : Nat} {w w' : World} {r : Option (List UInt8 × Nat)} {S : ByteArray} {z : Int} (l : List UInt8) (h : r = some (l, m)) (hS : S = ⟨l.toArray⟩) (hz : z = (m : Int)) (hb : Below w.heap.size w w') : UqPost r w (.returned (.tuple #[.string S, .int .i64 z, .int .i64 0])) w' := by
  subst h hS hz; exact ⟨rfl, hb⟩
/-- What holds from round to round of Unquote. -/
def UR (s : ByteArray) (n0 : Nat) (k : Nat) (t i : Value) (w wr : World) : Prop :=
  ∃ (T : ByteArray) (n : Nat), n ≤ s.size ∧ s.size - n ≤ k ∧ n0 ≤ n ∧ t = .string T ∧ i = .int .i64 (n : Int) ∧ T.size ≤ 4 * n ∧ unqL (tailL s n0) = glue T.data.toList (n - n0) (unqL (tailL s n)) ∧ Below w.heap.size w wr
theorem UR.step {s : ByteArray} {n0 k n m : Nat} {T X : ByteArray} {x : List UInt8} {w wr : World} (hn : n + m ≤ s.size) (hm : 1 ≤ m) (hk : s.size - n ≤ k + 1) (h0 : n0 ≤ n) (hT : T.size ≤ 4 * n) (hX : X.data.toList = x) (hx : x.length ≤ 4 * m) (he : unqL (tailL s n0) = glue T.data.toList (n - n0) (unqL (tailL s n)))
    (hu : unqL (tailL s n) = glue x m (unqL (tailL s (n + m)))) (hb : Below w.heap.size w wr) : UR s n0 k (.string (T ++ X)) (.int .i64 ((n : Int) + (m : Int))) w wr := by
  have hxs : X.size = x.length := by rw [← hX]; simp
  refine ⟨_, n + m, hn, by omega, by omega, rfl, rfl, by rw [ByteArray.size_append]; omega, ?_, hb⟩
  rw [he, hu, glue_glue, ByteArray.toList_data_append, hX]
  congr 1; omega

set_option maxHeartbeats 4000000 in
set_option maxRecDepth 1000000 in
theorem refUnquote_any (s : ByteArray) (k0 : Int) (w : World) (hs : s.size ≤ 10000) (hk0 : -9223372036854775808 ≤ k0 ∧ k0 ≤ 9223372036854775807) :
    Calls Tryd.prog 25 #[.string s, .int .i64 k0] w (UqPost (unqAt s k0) w) := by
  by_cases h0 : k0 < 0
  · have HE := Lib.hid (show unqAt s k0 = none by unfold unqAt; rw [if_neg (by omega)])
    have d0 : decide (k0 < 0) = true := decide_eq_true h0
    go_enter Tryd.func25, Tryd.ntmps25
    go_wp2
    go_ret3
    exact UqPost.none HE.out (Below.refl _ _)
  · have d0 : decide (k0 < 0) = false := decide_eq_false h0
    obtain ⟨p, rfl⟩ : ∃ p : Nat, k0 = p := ⟨k0.toNat, by omega⟩
    by_cases h1 : p < s.size
    · have d1 : ¬ (s.size : Int) ≤ (p : Int) := by omega
      have d1' : (p : Int) < (s.size : Int) := by omega
      have hp : s.data.toList[p]? = some (s[p]'h1) := by rw [List.getElem?_eq_getElem (by simpa using h1)]; rfl
      generalize hc : s[p]'h1 = c at *
      by_cases h34 : c.toNat = 34
      · have hcu : c = 34 := UInt8.toNat_inj.1 h34
        subst hcu
        have HU := Lib.hid (show unqAt s (p : Int) = (unqL (tailL s (p + 1))).map fun q => (q.1, p + 1 + q.2) by
          unfold unqAt; rw [if_pos ⟨by omega, by rw [Int.toNat_natCast]; exact hp⟩, Int.toNat_natCast])
        have HST := Lib.hid (show UR s (p + 1) s.size (.string ⟨#[]⟩) (.int .i64 ((p : Int) + 1)) w w from ⟨_, p + 1, by omega, by omega, Nat.le_refl _, rfl, rfl, by show 0 ≤ _; omega, by rw [Nat.sub_self]; exact (glue_nil _).symm, Below.refl _ _⟩)
        clear hp h34
        go_enter Tryd.func25, Tryd.ntmps25
        go_wp2
        clear d1 d1' hc
        generalize hn0 : p + 1 = n0 at *
        have HN0 := Lib.hid hn0; clear hn0
        go_loopg [7, 8] s.size (fun k t i wr => UR s n0 k t i w wr)
        case atStart => exact HST.out
        case round =>
          obtain ⟨T, n, hn, hk, hn00, rfl, rfl, hT, he, hb⟩ := hrel
          have HE := Lib.hid he; have HB := Lib.hid hb
          clear he hb
          have hTs : T.size ≤ 1000000 := by omega
          by_cases hl : n < s.size
          · have dl : ¬ (s.size : Int) ≤ (n : Int) := by omega
            have dl' : (n : Int) < (s.size : Int) := by omega
            have HT := Lib.hid (tail_cons hl)
            have KE := Lib.hid (fun W => refEscape_any s (n + 1) W (by omega) (by omega))
            have KR := Lib.hid (fun W => (refRune_in s n W (by omega) hl).mono fun _ _ h => h.below)
            rw [show (((n + 1 : Nat) : Int)) = (n : Int) + 1 from rfl] at KE
            generalize hx : s[n]'hl = x at *
            by_cases x34 : x.toNat = 34
            · have hxu : x = 34 := UInt8.toNat_inj.1 x34
              subst hxu
              have HF := Lib.hid (show unqAt s (p : Int) = some (T.data.toList, n + 1) by
                rw [HU.out, HE.out, HT.out, unqL_end rfl]
                simp only [glue, Option.map_some, List.append_nil, Option.some.injEq, Prod.mk.injEq, true_and]
                have := HN0.out; omega)
              clear x34
              go_wp2
              go_ret3
              exact UqPost.some T.data.toList HF.out (by cases T; rfl) rfl HB.out
            · have b1 : ((x.toNat : Int) == 34) = false := by rw [beq_eq_false_iff_ne]; omega
              have b1' : ((x.toNat : Int) != 34) = true := by rw [bne_iff_ne]; omega
              by_cases x92 : x.toNat = 92
              · have hxu : x = 92 := UInt8.toNat_inj.1 x92
                subst hxu
                clear x34 x92 b1 b1' KR
                cases hes : escL (tailL s (n + 1)) with
                | none =>
                  have HF := Lib.hid (show unqAt s (p : Int) = none by
                    rw [HU.out, HE.out, HT.out, unqL_noesc rfl hes]; rfl)
                  rw [hes] at KE
                  unfold ExPost at KE
                  clear hes
                  go_wp2_with fail
                  refine (KE.out _).mono ?_
                  rintro y w1 ⟨rfl, h1⟩
                  have H1 := Lib.hid (below_on HB.out h1); clear h1
                  go_wp2
                  go_ret3
                  exact UqPost.none HF.out H1.out
                | some q =>
                  obtain ⟨xs, m⟩ := q
                  have hxl := escL_xlen hes
                  have hql := escL_len hes
                  rw [tailL_length] at hql
                  obtain ⟨k, rfl⟩ : ∃ k, gk = k + 1 := ⟨gk - 1, by omega⟩
                  have HF := Lib.hid (fun W (h : Below w.heap.size w W) => UR.step (s := s) (n0 := n0) (k := k) (n := n) (m := 1 + m) (T := T) (X := ⟨xs.toArray⟩) (x := xs) (w := w) (wr := W) (by omega) (by omega) hk hn00 hT rfl (by omega) HE.out (by
                    rw [HT.out, unqL_esc rfl hes, tailL_drop]; congr 3; omega) h)
                  rw [hes] at KE
                  unfold ExPost at KE
                  simp only at KE
                  have hne : ((n + 1 + m : Nat) : Int) = (n : Int) + ((1 + m : Nat) : Int) := by omega
                  have hXs : (⟨xs.toArray⟩ : ByteArray).size ≤ 4 := by rw [arr_size]; exact hxl
                  rw [hne] at KE
                  generalize (⟨xs.toArray⟩ : ByteArray) = X at *
                  have hm1 : 1 ≤ 1 + m := by omega
                  generalize 1 + m = m2 at *
                  have hnz : (((n : Int) + (m2 : Int)) == 0) = false := by rw [beq_eq_false_iff_ne]; omega
                  clear hes hne hql
                  go_wp2_with fail
                  refine (KE.out _).mono ?_
                  rintro y w1 ⟨rfl, h1⟩
                  have H1 := Lib.hid (HF.out _ (below_on HB.out h1)); clear h1
                  go_wp2
                  go_roundg k
                  case rel => exact H1.out
                  case measure => omega
              · have b2 : ((x.toNat : Int) == 92) = false := by rw [beq_eq_false_iff_ne]; omega
                clear KE
                have hw := runeL_width (tailL s n) (tailL_ne hl)
                rw [tailL_length] at hw
                by_cases hr : (runeL (tailL s n)).1 < 32
                · have b3 : decide ((runeL (tailL s n)).1 < 32) = true := decide_eq_true hr
                  have HF := Lib.hid (show unqAt s (p : Int) = none by
                    rw [HT.out] at hr
                    rw [HU.out, HE.out, HT.out, unqL_bad x34 x92 hr]; rfl)
                  clear x34 x92 hr
                  generalize (runeL (tailL s n)).1 = r at *
                  generalize (runeL (tailL s n)).2 = m at *
                  go_wp2_with fail
                  refine (KR.out _).mono ?_
                  rintro y w1 ⟨rfl, h1⟩
                  have H1 := Lib.hid (below_on HB.out h1); clear h1
                  go_wp2
                  go_ret3
                  exact UqPost.none HF.out H1.out
                · have b3 : decide ((runeL (tailL s n)).1 < 32) = false := decide_eq_false hr
                  obtain ⟨k, rfl⟩ : ∃ k, gk = k + 1 := ⟨gk - 1, by omega⟩
                  have hrun := run_list s n (runeL (tailL s n)).2
                  have HF := Lib.hid (fun W (h : Below w.heap.size w W) => UR.step (s := s) (n0 := n0) (k := k) (n := n) (m := (runeL (tailL s n)).2) (T := T) (X := s.extract n (n + (runeL (tailL s n)).2)) (x := (tailL s n).take (runeL (tailL s n)).2) (w := w) (wr := W) (by omega) hw.1 hk hn00 hT hrun (by rw [List.length_take]; omega) HE.out (by
                    have hr2 := hr
                    rw [HT.out] at hr2
                    have := unqL_rune x34 x92 hr2
                    rw [← HT.out, tailL_drop] at this
                    exact this) h)
                  have hXs : (s.extract n (n + (runeL (tailL s n)).2)).size ≤ 10000 := by rw [ByteArray.size_extract]; omega
                  clear x34 x92 hr hrun
                  generalize (runeL (tailL s n)).1 = r at *
                  generalize (runeL (tailL s n)).2 = m at *
                  have hnm : (n : Int) + (m : Int) ≤ (s.size : Int) := by omega
                  go_wp2_with fail
                  refine (KR.out _).mono ?_
                  rintro y w1 ⟨rfl, h1⟩
                  have H1 := Lib.hid (HF.out _ (below_on HB.out h1)); clear h1
                  go_wp2
                  go_roundg k
                  case rel => exact H1.out
                  case measure => omega
          · have dl : (s.size : Int) ≤ (n : Int) := by omega
            have HF := Lib.hid (show unqAt s (p : Int) = none by rw [HU.out, HE.out, tailL_end (by omega)]; rfl)
            go_wp2
            go_ret3
            exact UqPost.none HF.out HB.out
      · have HE := Lib.hid (show unqAt s (p : Int) = none by
          unfold unqAt; rw [if_neg]
          intro h; rw [Int.toNat_natCast, hp] at h
          have := h.2
          simp only [Option.some.injEq] at this
          exact h34 (by rw [this]; rfl))
        have b1 : ((c.toNat : Int) == 34) = false := by rw [beq_eq_false_iff_ne]; omega
        have b1' : ((c.toNat : Int) != 34) = true := by rw [bne_iff_ne]; omega
        clear hp h34
        go_enter Tryd.func25, Tryd.ntmps25
        go_wp2
        go_ret3
        exact UqPost.none HE.out (Below.refl _ _)
    · have HE := Lib.hid (show unqAt s (p : Int) = none by
        unfold unqAt; rw [if_neg]
        intro h; rw [Int.toNat_natCast] at h
        obtain ⟨h2, _⟩ := get_some h.2
        exact h1 h2)
      have d1 : (s.size : Int) ≤ (p : Int) := by omega
      go_enter Tryd.func25, Tryd.ntmps25
      go_wp2
      go_ret3
      exact UqPost.none HE.out (Below.refl _ _)
end Go.Proofs.YtnoclbeamcmhhaaDoor
