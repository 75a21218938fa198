/- Chapter 7's own Quote. -/
import Derived.Test.YtnoclbeamcmhhaaDoorJh
namespace Go.Proofs.YtnoclbeamcmhhaaDoor
open Go.RowKit Go.Shelf Go.Lib
set_option linter.unusedVariables false
set_option linter.unusedSimpArgs false

theorem ext_01 (k : Nat) (h : k < 2) : ({ data := #[48, 49] } : ByteArray).extract k (k + 1) = ⟨#[hexd k]⟩ := by
  have key : ∀ x : Fin 2, ({ data := #[48, 49] } : ByteArray).extract x.val (x.val + 1) = ⟨#[hexd x.val]⟩ := by decide
  exact key ⟨k, h⟩
/-- What holds from round to round of Quote. -/
def RQ (s : ByteArray) (k : Nat) (q i : Value) (w wr : World) : Prop :=
  ∃ (Q : ByteArray) (j : Nat), j ≤ s.size ∧ s.size - j ≤ k ∧ q = .string Q ∧ i = .int .i64 (j : Int) ∧ Q.data.toList = 34 :: bodyL (s.data.toList.take j) ∧ Q.size ≤ 6 * j + 1 ∧ Below w.heap.size w wr
theorem RQ.step {s : ByteArray} {k j : Nat} {Q Q' : ByteArray} {w wr : World} (hj : j < s.size) (hk : s.size - j ≤ k + 1) (hQ : Q.data.toList = 34 :: bodyL (s.data.toList.take j)) (hz : Q.size ≤ 6 * j + 1) (hb : Below w.heap.size w wr)
    (h : Q'.data.toList = Q.data.toList ++ qb (s[j]'hj)) : RQ s k (.string Q') (.int .i64 ((j + 1 : Nat) : Int)) w wr := by
  have hl := qb_len (s[j]'hj)
  have hs : Q'.size = Q.size + (qb (s[j]'hj)).length := by
    have := congrArg List.length h
    simpa using this
  refine ⟨Q', j + 1, by omega, by omega, rfl, rfl, ?_, by omega, hb⟩
  rw [h, hQ, List.take_succ_eq_append_getElem (by simpa using hj), bodyL_append, List.cons_append]
  congr 2
  simp [bodyL]; rfl
theorem ext_one (s : ByteArray) (j : Nat) (h : j < s.size) : (s.extract j (j + 1)).data.toList = [s[j]'h] := by
  rw [ByteArray.data_extract, Array.toList_extract, List.extract_eq_take_drop]
  rw [List.drop_eq_getElem_cons (by simpa using h)]
  simp; rfl
theorem qb_plain {c : UInt8} (h : 32 ≤ c.toNat ∧ c.toNat ≠ 34 ∧ c.toNat ≠ 92) : qb c = [c] := by unfold qb; rw [plainB_iff.2 h]; rfl
theorem qb_esc {c : UInt8} (h : ¬ (32 ≤ c.toNat ∧ c.toNat ≠ 34 ∧ c.toNat ≠ 92)) : qb c = escB c := by
  unfold qb
  cases hp : plainB c
  · rfl
  · exact absurd (plainB_iff.1 hp) h

set_option maxHeartbeats 4000000 in
set_option maxRecDepth 100000 in
theorem refQuote_any (s : ByteArray) (w : World) (hs : s.size ≤ 100000) :
    Calls Tryd.prog 27 #[.string s] w (QuotePost s.data.toList w) := by
  have KV := Lib.hid (refValid_any s w (by omega))
  cases hv : validL s.data.toList
  · have HQ := Lib.hid (show quoteL s.data.toList = [] by unfold quoteL; rw [hv]; rfl)
    rw [hv] at KV
    clear hv
    go_enter Tryd.func27, Tryd.ntmps27
    go_wp2_with fail
    refine KV.out.mono ?_
    rintro r w1 ⟨rfl, hb⟩
    have HB := Lib.hid hb; clear hb
    go_wp2
    go_ret
    exact ⟨by rw [HQ.out]; rfl, HB.out⟩
  · have HQ := Lib.hid (show quoteL s.data.toList = 34 :: (bodyL s.data.toList ++ [34]) by unfold quoteL; rw [hv]; rfl)
    rw [hv] at KV
    clear hv
    go_enter Tryd.func27, Tryd.ntmps27
    go_wp2_with fail
    refine KV.out.mono ?_
    rintro r w1 ⟨rfl, hb⟩
    have HST := Lib.hid (show RQ s s.size (.string ⟨#[34]⟩) (.int .i64 0) w w1 from ⟨_, 0, Nat.zero_le _, by omega, rfl, rfl, rfl, by decide, hb⟩)
    clear hb
    go_wp2
    go_loopg [3, 4] s.size (fun k q i wr => RQ s k q i w wr)
    case atStart => exact HST.out
    case round =>
      obtain ⟨Q, j, hj, hk, rfl, rfl, hQ, hz, hb⟩ := hrel
      have HB := Lib.hid hb; have HL := Lib.hid hQ
      clear hb hQ
      by_cases hlt : j < s.size
      · obtain ⟨k, rfl⟩ : ∃ k, gk = k + 1 := ⟨gk - 1, by omega⟩
        have hjz : (j : Int) < (s.size : Int) := by omega
        have HS := Lib.hid (fun (Q' : ByteArray) W (h1 : Below w.heap.size w W) (h2 : Q'.data.toList = Q.data.toList ++ qb (s[j]'hlt)) => RQ.step (w := w) (wr := W) hlt hk HL.out hz h1 h2)
        have HX := Lib.hid (ext_one s j hlt)
        have hex : (s.extract j (j + 1)).size ≤ 1 := by rw [ByteArray.size_extract]; omega
        generalize hx : s[j]'hlt = x at *
        have hxl := x.toNat_lt
        have hqs : Q.size ≤ 1000000 := by omega
        generalize hE : s.extract j (j + 1) = E at *
        by_cases a34 : x.toNat = 34
        · have hc : x = 34 := UInt8.toNat_inj.1 a34
          subst hc
          clear a34
          go_wp2
          go_roundg k
          case rel => exact HS.out _ _ HB.out (by simp only [ByteArray.toList_data_append]; rw [HX.out, List.append_assoc]; rfl)
          case measure => omega
        by_cases a92 : x.toNat = 92
        · have hc : x = 92 := UInt8.toNat_inj.1 a92
          subst hc
          clear a34 a92
          go_wp2
          go_roundg k
          case rel => exact HS.out _ _ HB.out (by simp only [ByteArray.toList_data_append]; rw [HX.out, List.append_assoc]; rfl)
          case measure => omega
        by_cases a8 : x.toNat = 8
        · have hc : x = 8 := UInt8.toNat_inj.1 a8
          subst hc
          clear a34 a92 a8
          go_wp2
          go_roundg k
          case rel => exact HS.out _ _ HB.out (by simp only [ByteArray.toList_data_append]; rfl)
          case measure => omega
        by_cases a9 : x.toNat = 9
        · have hc : x = 9 := UInt8.toNat_inj.1 a9
          subst hc
          clear a34 a92 a8 a9
          go_wp2
          go_roundg k
          case rel => exact HS.out _ _ HB.out (by simp only [ByteArray.toList_data_append]; rfl)
          case measure => omega
        by_cases a10 : x.toNat = 10
        · have hc : x = 10 := UInt8.toNat_inj.1 a10
          subst hc
          clear a34 a92 a8 a9 a10
          go_wp2
          go_roundg k
          case rel => exact HS.out _ _ HB.out (by simp only [ByteArray.toList_data_append]; rfl)
          case measure => omega
        by_cases a12 : x.toNat = 12
        · have hc : x = 12 := UInt8.toNat_inj.1 a12
          subst hc
          clear a34 a92 a8 a9 a10 a12
          go_wp2
          go_roundg k
          case rel => exact HS.out _ _ HB.out (by simp only [ByteArray.toList_data_append]; rfl)
          case measure => omega
        by_cases a13 : x.toNat = 13
        · have hc : x = 13 := UInt8.toNat_inj.1 a13
          subst hc
          clear a34 a92 a8 a9 a10 a12 a13
          go_wp2
          go_roundg k
          case rel => exact HS.out _ _ HB.out (by simp only [ByteArray.toList_data_append]; rfl)
          case measure => omega
        have b34 : ((x.toNat : Int) == 34) = false := by rw [beq_eq_false_iff_ne]; omega
        have b92 : ((x.toNat : Int) == 92) = false := by rw [beq_eq_false_iff_ne]; omega
        have b8 : ((x.toNat : Int) == 8) = false := by rw [beq_eq_false_iff_ne]; omega
        have b9 : ((x.toNat : Int) == 9) = false := by rw [beq_eq_false_iff_ne]; omega
        have b10 : ((x.toNat : Int) == 10) = false := by rw [beq_eq_false_iff_ne]; omega
        have b12 : ((x.toNat : Int) == 12) = false := by rw [beq_eq_false_iff_ne]; omega
        have b13 : ((x.toNat : Int) == 13) = false := by rw [beq_eq_false_iff_ne]; omega
        by_cases a32 : x.toNat < 32
        · have b32 : decide ((x.toNat : Int) < 32) = true := decide_eq_true (by omega)
          have HQX := Lib.hid (show qb x = [92, 117, 48, 48, hexd (x.toNat / 16), hexd (x.toNat % 16)] by
            rw [qb_esc (by omega)]; unfold escB; simp only [if_neg a34, if_neg a92, if_neg a8, if_neg a9, if_neg a10, if_neg a12, if_neg a13])
          clear a34 a92 a8 a9 a10 a12 a13
          have la : x.toNat / 16 < 2 := by omega
          have lb : x.toNat % 16 < 16 := Nat.mod_lt _ (by decide)
          have qa : (x.toNat : Int) / 16 = ((x.toNat / 16 : Nat) : Int) := by omega
          have qm : (x.toNat : Int) % 16 = ((x.toNat % 16 : Nat) : Int) := by omega
          have xa := ext_01 _ la
          have xb := ext_low _ lb
          generalize x.toNat / 16 = a at *
          generalize x.toNat % 16 = b at *
          have la2 : (a : Int) < 2 := by omega
          have lb2 : (b : Int) < 16 := by omega
          go_wp2
          go_region
          clear xa xb qa qm
          go_wp2
          go_roundg k
          case rel => exact HS.out _ _ HB.out.drew (by simp only [ByteArray.toList_data_append]; rw [HQX.out, List.append_assoc, List.append_assoc]; rfl)
          case measure => omega
        · have b32 : decide ((x.toNat : Int) < 32) = false := decide_eq_false (by omega)
          have HQX := Lib.hid (qb_plain (c := x) (by omega))
          clear a34 a92 a8 a9 a10 a12 a13 a32
          go_wp2
          go_roundg k
          case rel => exact HS.out _ _ HB.out (by simp only [ByteArray.toList_data_append]; rw [HX.out, HQX.out])
          case measure => omega
      · have hjz : ¬ (j : Int) < (s.size : Int) := by omega
        have HE := Lib.hid (show Q = ⟨(34 :: bodyL s.data.toList).toArray⟩ by
          apply ByteArray.ext; apply Array.toList_inj.1
          rw [HL.out, List.take_of_length_le (by simp; omega)])
        have hqs : Q.size ≤ 1000000 := by omega
        go_wp2
        go_ret
        refine ⟨?_, HB.out⟩
        rw [HQ.out]
        refine congrArg Ending.returned ?_
        show Value.string (Q ++ ⟨#[34]⟩) = _
        refine congrArg Value.string ?_
        rw [HE.out]
        apply ByteArray.ext; simp
end Go.Proofs.YtnoclbeamcmhhaaDoor
