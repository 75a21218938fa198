/- Chapter 7's own escape. -/
import Derived.Test.YtnoclbeamcmhhaaDoorJj
namespace Go.Proofs.YtnoclbeamcmhhaaDoor
open Go.RowKit Go.Shelf Go.Lib
set_option linter.unusedVariables false
set_option linter.unusedSimpArgs false

def ExPost (r : Option (List UInt8 × Nat)) (n : Nat) (w : World) (e : Ending) (w' : World) : Prop :=
  match r with
  | some p => e = .returned (.tuple #[.string ⟨p.1.toArray⟩, .int .i64 ((n + p.2 : Nat) : Int)]) ∧ Below w.heap.size w w'
  | none => e = .returned (.tuple #[.string ⟨#[]⟩, .int .i64 0]) ∧ Below w.heap.size w w'
theorem ExPost.none {n : Nat} {w w' : World} {r : Option (List UInt8 × Nat)} (h : r = none) (hb : Below w.heap.size w w') : ExPost r n w (.returned (.tuple #[.string ⟨#[]⟩, .int .i64 0])) w' := by
  subst h; exact ⟨rfl, hb⟩
theorem ExPost.some {n m : Nat} {w w' : World} {r : Option (List UInt8 × Nat)} {S : ByteArray} (l : List UInt8) (h : r = some (l, m)) (hS : S = ⟨l.toArray⟩) (hb : Below w.heap.size w w') : ExPost r n w (.returned (.tuple #[.string S, .int .i64 ((n : Int) + (m : Int))])) w' := by
  subst h hS; exact ⟨rfl, hb⟩
/-- The signs so far are not the one there. -/
def EL (c : Nat) (k : Nat) (i : Value) (w wr : World) : Prop := Below w.heap.size w wr ∧ (
  (k = 8 ∧ i = .int .i64 0) ∨
  (k = 7 ∧ i = .int .i64 1 ∧ c ≠ 34) ∨
  (k = 6 ∧ i = .int .i64 2 ∧ c ≠ 34 ∧ c ≠ 92) ∨
  (k = 5 ∧ i = .int .i64 3 ∧ c ≠ 34 ∧ c ≠ 92 ∧ c ≠ 47) ∨
  (k = 4 ∧ i = .int .i64 4 ∧ c ≠ 34 ∧ c ≠ 92 ∧ c ≠ 47 ∧ c ≠ 98) ∨
  (k = 3 ∧ i = .int .i64 5 ∧ c ≠ 34 ∧ c ≠ 92 ∧ c ≠ 47 ∧ c ≠ 98 ∧ c ≠ 102) ∨
  (k = 2 ∧ i = .int .i64 6 ∧ c ≠ 34 ∧ c ≠ 92 ∧ c ≠ 47 ∧ c ≠ 98 ∧ c ≠ 102 ∧ c ≠ 110) ∨
  (k = 1 ∧ i = .int .i64 7 ∧ c ≠ 34 ∧ c ≠ 92 ∧ c ≠ 47 ∧ c ≠ 98 ∧ c ≠ 102 ∧ c ≠ 110 ∧ c ≠ 114) ∨
  (k = 0 ∧ i = .int .i64 8 ∧ c ≠ 34 ∧ c ≠ 92 ∧ c ≠ 47 ∧ c ≠ 98 ∧ c ≠ 102 ∧ c ≠ 110 ∧ c ≠ 114 ∧ c ≠ 116))
theorem simple_not {c : Nat} (h1 : c ≠ 34) (h2 : c ≠ 92) (h3 : c ≠ 47) (h4 : c ≠ 98) (h5 : c ≠ 102) (h6 : c ≠ 110) (h7 : c ≠ 114) (h8 : c ≠ 116) : simpleE c = none := by
  unfold simpleE; rw [if_neg h1, if_neg h2, if_neg h3, if_neg h4, if_neg h5, if_neg h6, if_neg h7, if_neg h8]
/-- Behind the sign u: what the digits say, in the order in which it is asked. -/
theorem escL_surr {l : List UInt8} {r : Nat} (hf : fourL l = some r) (hs : ¬ (r < 55296 ∨ 57343 < r)) (h : 56320 ≤ r ∨ lowL (l.drop 4) = none) : escL (117 :: l) = none := by
  rw [escL_u rfl, cpL, hf]
  simp only [if_neg hs]
  split
  · rfl
  · rename_i h5
    rcases h with h | h
    · exact absurd h h5
    · rw [h]; rfl
theorem escL_pairs {l : List UInt8} {r low : Nat} (hf : fourL l = some r) (hs : ¬ (r < 55296 ∨ 57343 < r)) (h5 : ¬ 56320 ≤ r) (hl : lowL (l.drop 4) = some low) : escL (117 :: l) = some (enc ((65536 + (r - 55296) * 1024 + (low - 56320) : Nat) : Int), 11) := by
  rw [escL_u rfl, cpL, hf]
  simp only [if_neg hs, if_neg h5, hl]; rfl
theorem escL_plain {l : List UInt8} {r : Nat} (hf : fourL l = some r) (hs : r < 55296 ∨ 57343 < r) : escL (117 :: l) = some (enc (r : Int), 5) := by
  rw [escL_u rfl, cpL, hf]
  simp only [if_pos hs]; rfl
theorem escL_nodig {l : List UInt8} (hf : fourL l = none) : escL (117 :: l) = none := by
  rw [escL_u rfl, cpL, hf]; rfl

set_option maxHeartbeats 8000000 in
set_option maxRecDepth 100000 in
theorem refEscape_any (s : ByteArray) (n : Nat) (w : World) (hs : s.size ≤ 100000) (hn : n ≤ s.size) :
    Calls Tryd.prog 47 #[.string s, .int .i64 (n : Int)] w (ExPost (escL (tailL s n)) n w) := by
  by_cases hl : n < s.size
  · have HT := Lib.hid (tail_cons hl)
    have K4 := Lib.hid (fun W => four_any s (n + 1) W (by omega) (by omega))
    have K7 := Lib.hid (fun W => four_any s (n + 7) W (by omega) (by omega))
    have hnz : ¬ (s.size : Int) ≤ (n : Int) := by omega
    have hnz2 : (n : Int) < (s.size : Int) := by omega
    generalize hc : s[n]'hl = c at *
    rw [HT.out]
    go_enter Tryd.func47, Tryd.ntmps47
    go_wp2
    go_loopg [8] 8 (fun k i wr => EL c.toNat k i w wr)
    case atStart => exact ⟨Below.refl _ _, .inl ⟨rfl, rfl⟩⟩
    case round =>
      obtain ⟨hb, h⟩ := hrel
      have HB := Lib.hid hb; clear hb
      rcases h with h | h | h | h | h | h | h | h | h
      · obtain ⟨rfl, rfl⟩ := h
        have hI : ({ data := #[34, 92, 47, 98, 102, 110, 114, 116] } : ByteArray)[0]'(by decide) = 34 := rfl
        by_cases a0 : c.toNat = 34
        · have HE := Lib.hid (show escL (c :: tailL s (n + 1)) = some ([34], 1) by
            simp only [escL, if_neg (show ¬ c.toNat = 117 by omega)]; rw [a0]; rfl)
          have d0 : ((c.toNat : Int) == 34) = true := by rw [beq_iff_eq]; omega
          have hcu : c = 34 := UInt8.toNat_inj.1 a0
          clear a0
          subst hcu
          go_wp2
          go_region
          go_wp2
          go_ret2
          exact ExPost.some [34] HE.out rfl HB.out.drew
        · have d0 : ((c.toNat : Int) == 34) = false := by rw [beq_eq_false_iff_ne]; omega
          have HA := Lib.hid (show EL c.toNat 7 (.int .i64 1) w wr.drew from ⟨HB.out.drew, .inr (.inl ⟨rfl, rfl, a0⟩)⟩)
          clear a0
          go_wp2
          go_region
          go_wp2
          go_roundg 7
          case rel => exact HA.out
          case measure => omega
      · obtain ⟨rfl, rfl, a0⟩ := h
        have hI : ({ data := #[34, 92, 47, 98, 102, 110, 114, 116] } : ByteArray)[1]'(by decide) = 92 := rfl
        by_cases a1 : c.toNat = 92
        · have HE := Lib.hid (show escL (c :: tailL s (n + 1)) = some ([92], 1) by
            simp only [escL, if_neg (show ¬ c.toNat = 117 by omega)]; rw [a1]; rfl)
          have d0 : ((c.toNat : Int) == 92) = true := by rw [beq_iff_eq]; omega
          have hcu : c = 92 := UInt8.toNat_inj.1 a1
          clear a0 a1
          subst hcu
          go_wp2
          go_region
          go_wp2
          go_ret2
          exact ExPost.some [92] HE.out rfl HB.out.drew
        · have d0 : ((c.toNat : Int) == 92) = false := by rw [beq_eq_false_iff_ne]; omega
          have HA := Lib.hid (show EL c.toNat 6 (.int .i64 2) w wr.drew from ⟨HB.out.drew, .inr (.inr (.inl ⟨rfl, rfl, a0, a1⟩))⟩)
          clear a0 a1
          go_wp2
          go_region
          go_wp2
          go_roundg 6
          case rel => exact HA.out
          case measure => omega
      · obtain ⟨rfl, rfl, a0, a1⟩ := h
        have hI : ({ data := #[34, 92, 47, 98, 102, 110, 114, 116] } : ByteArray)[2]'(by decide) = 47 := rfl
        by_cases a2 : c.toNat = 47
        · have HE := Lib.hid (show escL (c :: tailL s (n + 1)) = some ([47], 1) by
            simp only [escL, if_neg (show ¬ c.toNat = 117 by omega)]; rw [a2]; rfl)
          have d0 : ((c.toNat : Int) == 47) = true := by rw [beq_iff_eq]; omega
          have hcu : c = 47 := UInt8.toNat_inj.1 a2
          clear a0 a1 a2
          subst hcu
          go_wp2
          go_region
          go_wp2
          go_ret2
          exact ExPost.some [47] HE.out rfl HB.out.drew
        · have d0 : ((c.toNat : Int) == 47) = false := by rw [beq_eq_false_iff_ne]; omega
          have HA := Lib.hid (show EL c.toNat 5 (.int .i64 3) w wr.drew from ⟨HB.out.drew, .inr (.inr (.inr (.inl ⟨rfl, rfl, a0, a1, a2⟩)))⟩)
          clear a0 a1 a2
          go_wp2
          go_region
          go_wp2
          go_roundg 5
          case rel => exact HA.out
          case measure => omega
      · obtain ⟨rfl, rfl, a0, a1, a2⟩ := h
        have hI : ({ data := #[34, 92, 47, 98, 102, 110, 114, 116] } : ByteArray)[3]'(by decide) = 98 := rfl
        by_cases a3 : c.toNat = 98
        · have HE := Lib.hid (show escL (c :: tailL s (n + 1)) = some ([8], 1) by
            simp only [escL, if_neg (show ¬ c.toNat = 117 by omega)]; rw [a3]; rfl)
          have d0 : ((c.toNat : Int) == 98) = true := by rw [beq_iff_eq]; omega
          have hcu : c = 98 := UInt8.toNat_inj.1 a3
          clear a0 a1 a2 a3
          subst hcu
          go_wp2
          go_region
          go_wp2
          go_ret2
          exact ExPost.some [8] HE.out rfl HB.out.drew
        · have d0 : ((c.toNat : Int) == 98) = false := by rw [beq_eq_false_iff_ne]; omega
          have HA := Lib.hid (show EL c.toNat 4 (.int .i64 4) w wr.drew from ⟨HB.out.drew, .inr (.inr (.inr (.inr (.inl ⟨rfl, rfl, a0, a1, a2, a3⟩))))⟩)
          clear a0 a1 a2 a3
          go_wp2
          go_region
          go_wp2
          go_roundg 4
          case rel => exact HA.out
          case measure => omega
      · obtain ⟨rfl, rfl, a0, a1, a2, a3⟩ := h
        have hI : ({ data := #[34, 92, 47, 98, 102, 110, 114, 116] } : ByteArray)[4]'(by decide) = 102 := rfl
        by_cases a4 : c.toNat = 102
        · have HE := Lib.hid (show escL (c :: tailL s (n + 1)) = some ([12], 1) by
            simp only [escL, if_neg (show ¬ c.toNat = 117 by omega)]; rw [a4]; rfl)
          have d0 : ((c.toNat : Int) == 102) = true := by rw [beq_iff_eq]; omega
          have hcu : c = 102 := UInt8.toNat_inj.1 a4
          clear a0 a1 a2 a3 a4
          subst hcu
          go_wp2
          go_region
          go_wp2
          go_ret2
          exact ExPost.some [12] HE.out rfl HB.out.drew
        · have d0 : ((c.toNat : Int) == 102) = false := by rw [beq_eq_false_iff_ne]; omega
          have HA := Lib.hid (show EL c.toNat 3 (.int .i64 5) w wr.drew from ⟨HB.out.drew, .inr (.inr (.inr (.inr (.inr (.inl ⟨rfl, rfl, a0, a1, a2, a3, a4⟩)))))⟩)
          clear a0 a1 a2 a3 a4
          go_wp2
          go_region
          go_wp2
          go_roundg 3
          case rel => exact HA.out
          case measure => omega
      · obtain ⟨rfl, rfl, a0, a1, a2, a3, a4⟩ := h
        have hI : ({ data := #[34, 92, 47, 98, 102, 110, 114, 116] } : ByteArray)[5]'(by decide) = 110 := rfl
        by_cases a5 : c.toNat = 110
        · have HE := Lib.hid (show escL (c :: tailL s (n + 1)) = some ([10], 1) by
            simp only [escL, if_neg (show ¬ c.toNat = 117 by omega)]; rw [a5]; rfl)
          have d0 : ((c.toNat : Int) == 110) = true := by rw [beq_iff_eq]; omega
          have hcu : c = 110 := UInt8.toNat_inj.1 a5
          clear a0 a1 a2 a3 a4 a5
          subst hcu
          go_wp2
          go_region
          go_wp2
          go_ret2
          exact ExPost.some [10] HE.out rfl HB.out.drew
        · have d0 : ((c.toNat : Int) == 110) = false := by rw [beq_eq_false_iff_ne]; omega
          have HA := Lib.hid (show EL c.toNat 2 (.int .i64 6) w wr.drew from ⟨HB.out.drew, .inr (.inr (.inr (.inr (.inr (.inr (.inl ⟨rfl, rfl, a0, a1, a2, a3, a4, a5⟩))))))⟩)
          clear a0 a1 a2 a3 a4 a5
          go_wp2
          go_region
          go_wp2
          go_roundg 2
          case rel => exact HA.out
          case measure => omega
      · obtain ⟨rfl, rfl, a0, a1, a2, a3, a4, a5⟩ := h
        have hI : ({ data := #[34, 92, 47, 98, 102, 110, 114, 116] } : ByteArray)[6]'(by decide) = 114 := rfl
        by_cases a6 : c.toNat = 114
        · have HE := Lib.hid (show escL (c :: tailL s (n + 1)) = some ([13], 1) by
            simp only [escL, if_neg (show ¬ c.toNat = 117 by omega)]; rw [a6]; rfl)
          have d0 : ((c.toNat : Int) == 114) = true := by rw [beq_iff_eq]; omega
          have hcu : c = 114 := UInt8.toNat_inj.1 a6
          clear a0 a1 a2 a3 a4 a5 a6
          subst hcu
          go_wp2
          go_region
          go_wp2
          go_ret2
          exact ExPost.some [13] HE.out rfl HB.out.drew
        · have d0 : ((c.toNat : Int) == 114) = false := by rw [beq_eq_false_iff_ne]; omega
          have HA := Lib.hid (show EL c.toNat 1 (.int .i64 7) w wr.drew from ⟨HB.out.drew, .inr (.inr (.inr (.inr (.inr (.inr (.inr (.inl ⟨rfl, rfl, a0, a1, a2, a3, a4, a5, a6⟩)))))))⟩)
          clear a0 a1 a2 a3 a4 a5 a6
          go_wp2
          go_region
          go_wp2
          go_roundg 1
          case rel => exact HA.out
          case measure => omega
      · obtain ⟨rfl, rfl, a0, a1, a2, a3, a4, a5, a6⟩ := h
        have hI : ({ data := #[34, 92, 47, 98, 102, 110, 114, 116] } : ByteArray)[7]'(by decide) = 116 := rfl
        by_cases a7 : c.toNat = 116
        · have HE := Lib.hid (show escL (c :: tailL s (n + 1)) = some ([9], 1) by
            simp only [escL, if_neg (show ¬ c.toNat = 117 by omega)]; rw [a7]; rfl)
          have d0 : ((c.toNat : Int) == 116) = true := by rw [beq_iff_eq]; omega
          have hcu : c = 116 := UInt8.toNat_inj.1 a7
          clear a0 a1 a2 a3 a4 a5 a6 a7
          subst hcu
          go_wp2
          go_region
          go_wp2
          go_ret2
          exact ExPost.some [9] HE.out rfl HB.out.drew
        · have d0 : ((c.toNat : Int) == 116) = false := by rw [beq_eq_false_iff_ne]; omega
          have HA := Lib.hid (show EL c.toNat 0 (.int .i64 8) w wr.drew from ⟨HB.out.drew, .inr (.inr (.inr (.inr (.inr (.inr (.inr (.inr (⟨rfl, rfl, a0, a1, a2, a3, a4, a5, a6, a7⟩))))))))⟩)
          clear a0 a1 a2 a3 a4 a5 a6 a7
          go_wp2
          go_region
          go_wp2
          go_roundg 0
          case rel => exact HA.out
          case measure => omega
      · obtain ⟨rfl, rfl, a0, a1, a2, a3, a4, a5, a6, a7⟩ := h
        have HN := Lib.hid (fun (h : c.toNat ≠ 117) => (by simp only [escL, if_neg h, simple_not a0 a1 a2 a3 a4 a5 a6 a7] : escL (c :: tailL s (n + 1)) = none))
        clear a0 a1 a2 a3 a4 a5 a6 a7
        by_cases hu : c.toNat = 117
        · have hcu : c = 117 := UInt8.toNat_inj.1 hu
          subst hcu
          clear hu HN
          have hn1 : (((n + 1 : Nat) : Int)) = (n : Int) + 1 := rfl
          rw [hn1] at K4
          have hn7 : (((n + 7 : Nat) : Int)) = (n : Int) + 7 := rfl
          rw [hn7] at K7
          clear hn1 hn7
          cases hf : fourL (tailL s (n + 1)) with
          | none =>
            have HE := Lib.hid (escL_nodig hf)
            rw [hf] at K4
            unfold fv at K4
            clear hf
            go_wp2_with fail
            refine (K4.out _).mono ?_
            rintro x w1 ⟨rfl, rfl⟩
            go_wp2
            go_ret2
            exact ExPost.none HE.out HB.out
          | some r =>
            have hlt := fourL_lt hf
            have hlen := fourL_len hf
            rw [tailL_length] at hlen
            have HF := Lib.hid hf
            rw [hf] at K4
            unfold fv at K4
            simp only at K4
            clear hf
            have b0 : decide ((r : Int) < 0) = false := decide_eq_false (by omega)
            by_cases hs1 : 56320 ≤ r ∧ r ≤ 57343
            · have HE := Lib.hid (escL_surr HF.out (by omega) (.inl hs1.1))
              have b1 : decide ((56320 : Int) ≤ (r : Int)) = true := decide_eq_true (by omega)
              have b2 : decide ((r : Int) ≤ 57343) = true := decide_eq_true (by omega)
              clear hs1
              go_wp2_with fail
              refine (K4.out _).mono ?_
              rintro x w1 ⟨rfl, rfl⟩
              go_wp2
              go_ret2
              exact ExPost.none HE.out HB.out
            · by_cases hs2 : 55296 ≤ r ∧ r < 56320
              · have b1 : decide ((56320 : Int) ≤ (r : Int)) = false := decide_eq_false (by omega)
                have b3 : decide ((55296 : Int) ≤ (r : Int)) = true := decide_eq_true (by omega)
                have b4 : decide ((r : Int) < 56320) = true := decide_eq_true (by omega)
                have HNO := Lib.hid (fun (h : lowL (tailL s (n + 5)) = none) => escL_surr HF.out (by omega) (.inr (by rw [tailL_drop]; exact h)))
                have HYE := Lib.hid (fun low (h : lowL (tailL s (n + 5)) = some low) => escL_pairs HF.out (by omega) (by omega) (by rw [tailL_drop]; exact h))
                have l1 : (55296 : Int) ≤ (r : Int) := by omega
                have l2 : (r : Int) < 56320 := by omega
                clear hs1 hs2
                by_cases e6 : n + 6 < s.size
                · have c1 : ¬ (s.size : Int) ≤ (n : Int) + 6 := by omega
                  have c2 : (n : Int) + 6 < (s.size : Int) := by omega
                  have c3 : (n : Int) + 5 < (s.size : Int) := by omega
                  have e5 : n + 5 < s.size := by omega
                  have hy : s.data.toList[n + 5]? = some (s[n + 5]'e5) := by rw [List.getElem?_eq_getElem (by simpa using e5)]; rfl
                  have hz : s.data.toList[n + 6]? = some (s[n + 6]'e6) := by rw [List.getElem?_eq_getElem (by simpa using e6)]; rfl
                  generalize hY : s[n + 5]'e5 = y at *
                  generalize hZ : s[n + 6]'e6 = z at *
                  have HLO := Lib.hid (show lowL (tailL s (n + 5)) = if y.toNat = 92 ∧ z.toNat = 117 then (match fourL (tailL s (n + 7)) with | none => none | some r => if 56320 ≤ r ∧ r ≤ 57343 then some r else none) else none by
                    have q0 : bt (tailL s (n + 5)) 0 = y.toNat := by
                      simp only [bt, tailL, List.getD, List.getElem?_drop, Nat.add_zero]; rw [hy]; rfl
                    have q1 : bt (tailL s (n + 5)) 1 = z.toNat := by
                      simp only [bt, tailL, List.getD, List.getElem?_drop]; rw [show n + 5 + 1 = n + 6 from rfl, hz]; rfl
                    unfold lowL
                    rw [q0, q1, tailL_drop]
                    rfl)
                  clear hY hZ
                  obtain ⟨p5, hp5⟩ : ∃ p5 : Nat, n + 5 = p5 := ⟨_, rfl⟩
                  obtain ⟨p6, hp6⟩ : ∃ p6 : Nat, n + 6 = p6 := ⟨_, rfl⟩
                  have q5 : (n : Int) + 5 = (p5 : Int) := by omega
                  have q6 : (n : Int) + 6 = (p6 : Int) := by omega
                  rw [q6] at c1 c2
                  rw [q5] at c3
                  rw [hp5] at hy HLO HNO HYE e5
                  rw [hp6] at hz e6
                  obtain ⟨e5', hY⟩ := get_some hy
                  obtain ⟨e6', hZ⟩ := get_some hz
                  clear hp5 hp6 hy hz
                  by_cases y92 : y.toNat = 92
                  · have d1 : ((y.toNat : Int) == 92) = true := by rw [beq_iff_eq]; omega
                    have d1' : ((y.toNat : Int) != 92) = false := by rw [bne_eq_false_iff_eq]; omega
                    by_cases z117 : z.toNat = 117
                    · have d2 : ((z.toNat : Int) == 117) = true := by rw [beq_iff_eq]; omega
                      have d2' : ((z.toNat : Int) != 117) = false := by rw [bne_eq_false_iff_eq]; omega
                      have hlo := HLO.out
                      rw [if_pos ⟨y92, z117⟩] at hlo
                      cases hf2 : fourL (tailL s (n + 7)) with
                      | none =>
                        rw [hf2] at hlo K7
                        unfold fv at K7
                        have HE := Lib.hid (HNO.out hlo)
                        clear hlo hf2 y92 z117
                        go_wp2_with fail
                        refine (K4.out _).mono ?_
                        rintro x w1 ⟨rfl, rfl⟩
                        go_wp2_with fail
                        refine (K7.out _).mono ?_
                        rintro x w1 ⟨rfl, rfl⟩
                        go_wp2
                        go_ret2
                        exact ExPost.none HE.out HB.out
                      | some low =>
                        have hll := fourL_lt hf2
                        rw [hf2] at hlo K7
                        unfold fv at K7
                        simp only at hlo K7
                        by_cases lo : low < 56320
                        · rw [if_neg (by omega)] at hlo
                          have HE := Lib.hid (HNO.out hlo)
                          have d3 : decide ((low : Int) < 56320) = true := decide_eq_true (by omega)
                          clear hlo hf2 y92 z117
                          go_wp2_with fail
                          refine (K4.out _).mono ?_
                          rintro x w1 ⟨rfl, rfl⟩
                          go_wp2_with fail
                          refine (K7.out _).mono ?_
                          rintro x w1 ⟨rfl, rfl⟩
                          go_wp2
                          go_ret2
                          exact ExPost.none HE.out HB.out
                        · have d3 : decide ((low : Int) < 56320) = false := decide_eq_false (by omega)
                          by_cases hi : 57343 < low
                          · rw [if_neg (by omega)] at hlo
                            have HE := Lib.hid (HNO.out hlo)
                            have d4 : decide ((57343 : Int) < (low : Int)) = true := decide_eq_true (by omega)
                            clear hlo hf2 y92 z117
                            go_wp2_with fail
                            refine (K4.out _).mono ?_
                            rintro x w1 ⟨rfl, rfl⟩
                            go_wp2_with fail
                            refine (K7.out _).mono ?_
                            rintro x w1 ⟨rfl, rfl⟩
                            go_wp2
                            go_ret2
                            exact ExPost.none HE.out HB.out
                          · rw [if_pos (by omega)] at hlo
                            have HE := Lib.hid (HYE.out low hlo)
                            have d4 : decide ((57343 : Int) < (low : Int)) = false := decide_eq_false (by omega)
                            have hval : (65536 : Int) + ((r : Int) - 55296) * 1024 + (low : Int) - 56320 = ((65536 + (r - 55296) * 1024 + (low - 56320) : Nat) : Int) := by omega
                            have hok : okR ((65536 + (r - 55296) * 1024 + (low - 56320) : Nat) : Int) = true := okR_iff.2 (by omega)
                            have hcb : 65536 + (r - 55296) * 1024 + (low - 56320) ≤ 1114111 := by omega
                            generalize (65536 + (r - 55296) * 1024 + (low - 56320) : Nat) = cp at *
                            have HP := Lib.hid (putS_ok hok)
                            have KP := Lib.hid (fun W => refPut_any (cp : Int) W (by omega))
                            unfold PutPost at KP
                            rw [HP.out, ← hval] at KP
                            have m1 : (56320 : Int) ≤ (low : Int) := by omega
                            have m2 : (low : Int) ≤ 57343 := by omega
                            have HVAL := Lib.hid hval
                            clear hlo hf2 y92 z117 hval hok HP
                            generalize (low : Int) = qi at *
                            generalize (r : Int) = ri at *
                            go_wp2_with fail
                            refine (K4.out _).mono ?_
                            rintro x w1 ⟨rfl, rfl⟩
                            go_wp2_with fail
                            refine (K7.out _).mono ?_
                            rintro x w1 ⟨rfl, rfl⟩
                            go_wp2_with fail
                            refine (KP.out _).mono ?_
                            rintro x w2 ⟨rfl, h2⟩
                            have H2 := Lib.hid (below_on HB.out h2); clear h2
                            go_wp2
                            go_ret2
                            exact ExPost.some _ HE.out (by rw [HVAL.out]) H2.out
                    · have d2 : ((z.toNat : Int) == 117) = false := by rw [beq_eq_false_iff_ne]; omega
                      have d2' : ((z.toNat : Int) != 117) = true := by rw [bne_iff_ne]; omega
                      have HE := Lib.hid (HNO.out (by rw [HLO.out, if_neg (fun h => z117 h.2)]))
                      clear y92 z117
                      go_wp2_with fail
                      refine (K4.out _).mono ?_
                      rintro x w1 ⟨rfl, rfl⟩
                      go_wp2_with fail
                      refine (K7.out _).mono ?_
                      rintro x w1 ⟨rfl, rfl⟩
                      go_wp2
                      go_ret2
                      exact ExPost.none HE.out HB.out
                  · have d1 : ((y.toNat : Int) == 92) = false := by rw [beq_eq_false_iff_ne]; omega
                    have d1' : ((y.toNat : Int) != 92) = true := by rw [bne_iff_ne]; omega
                    have HE := Lib.hid (HNO.out (by rw [HLO.out, if_neg (fun h => y92 h.1)]))
                    clear y92
                    go_wp2_with fail
                    refine (K4.out _).mono ?_
                    rintro x w1 ⟨rfl, rfl⟩
                    go_wp2_with fail
                    refine (K7.out _).mono ?_
                    rintro x w1 ⟨rfl, rfl⟩
                    go_wp2
                    go_ret2
                    exact ExPost.none HE.out HB.out
                · have c1 : (s.size : Int) ≤ (n : Int) + 6 := by omega
                  have HE := Lib.hid (HNO.out (by
                    unfold lowL; rw [if_neg]
                    intro h
                    have h1 := (bt_tail (s := s) (k := n + 5) (j := 1) (c := 117) (by decide)).1 h.2
                    obtain ⟨h2, _⟩ := get_some h1
                    omega))
                  go_wp2_with fail
                  refine (K4.out _).mono ?_
                  rintro x w1 ⟨rfl, rfl⟩
                  go_wp2_with fail
                  refine (K7.out _).mono ?_
                  rintro x w1 ⟨rfl, rfl⟩
                  go_wp2
                  go_ret2
                  exact ExPost.none HE.out HB.out
              · have hsur : r < 55296 ∨ 57343 < r := by omega
                have HE := Lib.hid (escL_plain HF.out hsur)
                have hok : okR (r : Int) = true := okR_iff.2 (by omega)
                have HP := Lib.hid (putS_ok hok)
                have KP := Lib.hid (fun W => refPut_any (r : Int) W (by omega))
                unfold PutPost at KP
                rw [HP.out] at KP
                by_cases r1 : r < 55296
                · have b1 : decide ((56320 : Int) ≤ (r : Int)) = false := decide_eq_false (by omega)
                  have b3 : decide ((55296 : Int) ≤ (r : Int)) = false := decide_eq_false (by omega)
                  clear hs1 hs2 hsur hok
                  go_wp2_with fail
                  refine (K4.out _).mono ?_
                  rintro x w1 ⟨rfl, rfl⟩
                  go_wp2_with fail
                  refine (KP.out _).mono ?_
                  rintro x w2 ⟨rfl, h2⟩
                  have H2 := Lib.hid (below_on HB.out h2); clear h2
                  go_wp2
                  go_ret2
                  exact ExPost.some _ HE.out rfl H2.out
                · have b1 : decide ((56320 : Int) ≤ (r : Int)) = true := decide_eq_true (by omega)
                  have b2 : decide ((r : Int) ≤ 57343) = false := decide_eq_false (by omega)
                  have b3 : decide ((55296 : Int) ≤ (r : Int)) = true := decide_eq_true (by omega)
                  have b4 : decide ((r : Int) < 56320) = false := decide_eq_false (by omega)
                  clear hs1 hs2 hsur hok
                  go_wp2_with fail
                  refine (K4.out _).mono ?_
                  rintro x w1 ⟨rfl, rfl⟩
                  go_wp2_with fail
                  refine (KP.out _).mono ?_
                  rintro x w2 ⟨rfl, h2⟩
                  have H2 := Lib.hid (below_on HB.out h2); clear h2
                  go_wp2
                  go_ret2
                  exact ExPost.some _ HE.out rfl H2.out
        · have HE := Lib.hid (HN.out hu)
          have d0 : ((c.toNat : Int) == 117) = false := by rw [beq_eq_false_iff_ne]; omega
          have d0' : ((c.toNat : Int) != 117) = true := by rw [bne_iff_ne]; omega
          have hn1 : (((n + 1 : Nat) : Int)) = (n : Int) + 1 := rfl
          rw [hn1] at K4
          clear hn1 HN hu
          go_wp2_with fail
          refine (K4.out _).mono ?_
          rintro x w1 ⟨rfl, rfl⟩
          generalize fv (fourL (tailL s (n + 1))) = q at *
          go_wp2
          go_ret2
          exact ExPost.none HE.out HB.out
  · have HE := Lib.hid (show escL (tailL s n) = none by rw [tailL_end (by omega)]; rfl)
    have hnz : (s.size : Int) ≤ (n : Int) := by omega
    go_enter Tryd.func47, Tryd.ntmps47
    go_wp2
    go_ret2
    exact ExPost.none HE.out (Below.refl _ _)
end Go.Proofs.YtnoclbeamcmhhaaDoor
