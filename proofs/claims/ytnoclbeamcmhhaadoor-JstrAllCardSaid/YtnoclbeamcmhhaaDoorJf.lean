/- The walk of the law JstrBack. -/
import Derived.Test.YtnoclbeamcmhhaaDoorJe
namespace Go.Proofs.YtnoclbeamcmhhaaDoor
open Go.RowKit Go.Shelf Go.Lib
set_option linter.unusedVariables false
set_option linter.unusedSimpArgs false

theorem get_appJ (a b : List UInt8) (k : Nat) (h : k = a.length) : (a ++ b)[k]? = b[0]? := by
  subst h; rw [List.getElem?_append_right (Nat.le_refl _), Nat.sub_self]
/-- What is quoted, behind anything, is unquoted as it was. -/
theorem unqAt_back {s head more S q : ByteArray} (hv : validL s.data.toList = true) (hq : q = ⟨(quoteL s.data.toList).toArray⟩) (hS : S = head ++ q ++ more) :
    unqAt S (head.size : Int) = some (s.data.toList, head.size + q.size) := by
  have e : S.data.toList = head.data.toList ++ (34 :: (bodyL s.data.toList ++ 34 :: more.data.toList)) := by
    rw [hS, hq]; unfold quoteL; rw [hv]; simp [ByteArray.toList_data_append]
  have hl : head.data.toList.length = head.size := by simp
  have hqs : q.size = (bodyL s.data.toList).length + 2 := by
    rw [hq, arr_size]; unfold quoteL; rw [hv]; simp
  have h34 : S.data.toList[head.size]? = some 34 := by rw [e, get_appJ _ _ _ hl.symm]; rfl
  have ht : tailL S (head.size + 1) = bodyL s.data.toList ++ 34 :: more.data.toList := by
    unfold tailL
    rw [e, ← hl, ← List.drop_drop, List.drop_left]; rfl
  unfold unqAt
  rw [if_pos ⟨by omega, by rw [Int.toNat_natCast]; exact h34⟩, Int.toNat_natCast, ht, unqL_quoted hv, hqs]
  simp only [Option.map_some, Option.some.injEq, Prod.mk.injEq, true_and]
  omega
/-- .. cut it is none. -/
theorem unqAt_cut {s q : ByteArray} (hv : validL s.data.toList = true) (hq : q = ⟨(quoteL s.data.toList).toArray⟩) {k : Nat} (hk : k < q.size) : unqAt (q.extract 0 k) 0 = none := by
  have hqs : q.size = (bodyL s.data.toList).length + 2 := by
    rw [hq, arr_size]; unfold quoteL; rw [hv]; simp
  have e : (q.extract 0 k).data.toList = (34 :: (bodyL s.data.toList ++ [34])).take k := by
    rw [take_list, hq]; unfold quoteL; rw [hv]; rfl
  unfold unqAt
  split
  · rename_i h
    cases k with
    | zero => rw [e] at h; simp at h
    | succ j =>
      have ht : tailL (q.extract 0 (j + 1)) ((0 : Int).toNat + 1) = (bodyL s.data.toList ++ [34]).take j := by
        unfold tailL; rw [e, List.take_succ_cons]; rfl
      rw [ht, unqL_cut hv (by omega)]; rfl
  · rfl

set_option maxHeartbeats 4000000 in
set_option maxRecDepth 100000 in
theorem jstrBack_main (s head more : ByteArray) (k0 : Int) (w : World) (h1 : s.size ≤ 500) (h2 : head.size ≤ 100) (h3 : more.size ≤ 100) (hk0 : -9223372036854775808 ≤ k0 ∧ k0 ≤ 9223372036854775807) (hT : UT w) :
    Calls Tryd.prog 8 #[.string s, .string head, .string more, .int .i64 k0] w (BoolBelow true w) := by
  have HA := Lib.hid (fun W (h : Below w.heap.size w W) => awake7_any W (hT.below h))
  have KQ := Lib.hid (quote_any s w (by omega) hT)
  unfold QuotePost at KQ
  have KV := Lib.hid (fun W => refValid_any s W (by omega))
  have c1 : ¬ (500 : Int) < (s.size : Int) := by omega
  have c2 : ¬ (100 : Int) < (head.size : Int) := by omega
  have c3 : ¬ (100 : Int) < (more.size : Int) := by omega
  cases hv : validL s.data.toList
  · rw [hv] at KV
    rw [show quoteL s.data.toList = [] by unfold quoteL; rw [hv]; rfl] at KQ
    clear hv hT
    go_enter Tryd.func8, Tryd.ntmps8
    go_wp2_with fail
    refine KQ.out.mono ?_
    rintro x w1 ⟨rfl, hb1⟩
    have B1 := Lib.hid hb1; clear hb1
    go_wp2_with fail
    refine (KV.out w1).mono ?_
    rintro x w2 ⟨rfl, hb2⟩
    have B2 := Lib.hid (below_on B1.out hb2); clear hb2
    go_wp2_with fail
    refine (HA.out _ B2.out).mono ?_
    rintro x w3 ⟨rfl, hb3⟩
    have B3 := Lib.hid (below_on B2.out hb3); clear hb3
    go_wp2
    go_ret
    exact BoolBelow.mk rfl B3.out
  · rw [hv] at KV
    generalize hq : (⟨(quoteL s.data.toList).toArray⟩ : ByteArray) = q at *
    have hqs : q.size = (bodyL s.data.toList).length + 2 := by
      rw [← hq, arr_size]; unfold quoteL; rw [hv]; simp
    have hql : 2 ≤ q.size ∧ q.size ≤ 3002 := by
      have := bodyL_len s.data.toList
      have h : s.data.toList.length = s.size := by simp
      omega
    have hz : (head ++ q ++ more).size = head.size + q.size + more.size := by rw [ByteArray.size_append, ByteArray.size_append]
    have hz1 : (head ++ q).size = head.size + q.size := by rw [ByteArray.size_append]
    have HB := unqAt_back hv hq.symm (S := head ++ q ++ more) rfl
    have KU := Lib.hid (fun W (h : Below w.heap.size w W) => unquote_some (head ++ q ++ more) (head.size : Int) W (by omega) (by omega) (hT.below h) HB)
    have KP := Lib.hid (fun W => place_any k0 (q.size : Int) W hk0 ⟨by omega, by omega⟩)
    have hp1 := Int.emod_nonneg k0 (show (q.size : Int) ≠ 0 by omega)
    have hp2 := Int.emod_lt_of_pos k0 (show (0 : Int) < (q.size : Int) by omega)
    generalize k0 % (q.size : Int) = r at *
    obtain ⟨k, rfl⟩ : ∃ k : Nat, r = k := ⟨r.toNat, by omega⟩
    have hk : k < q.size := by omega
    have HC := unqAt_cut hv hq.symm hk
    have KC := Lib.hid (fun W (h : Below w.heap.size w W) => unquote_none (q.extract 0 k) 0 W (by rw [ByteArray.size_extract]; omega) (by decide) (hT.below h) HC)
    have hkz : (k : Int) ≤ (q.size : Int) := by omega
    have d1 : ¬ (q.size : Int) < 2 := by omega
    have hlA : head.size ≤ 1000000 := by omega
    have hlB : q.size ≤ 1000000 := by omega
    have hlC : (head ++ q).size ≤ 1000000 := by omega
    clear hv hT hq hqs HB HC hp1 hp2 hk0 hz hz1 hk hql
    go_enter Tryd.func8, Tryd.ntmps8
    go_wp2_with fail
    refine KQ.out.mono ?_
    rintro x w1 ⟨rfl, hb1⟩
    have B1 := Lib.hid hb1; clear hb1
    go_wp2_with fail
    refine (KV.out w1).mono ?_
    rintro x w2 ⟨rfl, hb2⟩
    have B2 := Lib.hid (below_on B1.out hb2); clear hb2
    clear c1 c2 c3 
    go_wp2_with fail
    refine (KU.out _ B2.out).mono ?_
    rintro x w3 ⟨rfl, hb3⟩
    have B3 := Lib.hid (below_on B2.out hb3); clear hb3
    go_wp2_with fail
    refine (KP.out _).mono ?_
    rintro x w' ⟨rfl, rfl⟩
    go_wp2_with fail
    refine (KC.out _ B3.out).mono ?_
    rintro x w4 ⟨rfl, hb4⟩
    have B4 := Lib.hid (below_on B3.out hb4); clear hb4
    go_wp2_with fail
    refine (HA.out _ B4.out).mono ?_
    rintro x w5 ⟨rfl, hb5⟩
    have B5 := Lib.hid (below_on B4.out hb5); clear hb5
    go_wp2
    go_ret
    exact BoolBelow.mk rfl B5.out

set_option maxHeartbeats 4000000 in
theorem jstrBack_walk (s head more : ByteArray) (k0 : Int) (w : World) (hs : s.size ≤ maxLen) (hh : head.size ≤ maxLen) (hm : more.size ≤ maxLen) (hk0 : -9223372036854775808 ≤ k0 ∧ k0 ≤ 9223372036854775807) (hT : UT w) :
    Calls Tryd.prog 8 #[.string s, .string head, .string more, .int .i64 k0] w (BoolBelow true w) := by
  unfold maxLen at hs hh hm
  have HA := Lib.hid (fun W (h : Below w.heap.size w W) => awake7_any W (hT.below h))
  by_cases h1 : s.size ≤ 500
  · have c1 : ¬ (500 : Int) < (s.size : Int) := by omega
    by_cases h2 : head.size ≤ 100
    · have c2 : ¬ (100 : Int) < (head.size : Int) := by omega
      by_cases h3 : more.size ≤ 100
      · exact jstrBack_main s head more k0 w h1 h2 h3 hk0 hT
      · have c3 : (100 : Int) < (more.size : Int) := by omega
        clear hT
        go_enter Tryd.func8, Tryd.ntmps8
        go_wp2_with fail
        refine (HA.out _ (Below.refl _ _)).mono ?_
        rintro x w3 ⟨rfl, hb3⟩
        have B3 := Lib.hid hb3; clear hb3
        go_wp2
        go_ret
        exact BoolBelow.mk rfl B3.out
    · have c2 : (100 : Int) < (head.size : Int) := by omega
      clear hT
      go_enter Tryd.func8, Tryd.ntmps8
      go_wp2_with fail
      refine (HA.out _ (Below.refl _ _)).mono ?_
      rintro x w3 ⟨rfl, hb3⟩
      have B3 := Lib.hid hb3; clear hb3
      go_wp2
      go_ret
      exact BoolBelow.mk rfl B3.out
  · have c1 : (500 : Int) < (s.size : Int) := by omega
    clear hT
    go_enter Tryd.func8, Tryd.ntmps8
    go_wp2_with fail
    refine (HA.out _ (Below.refl _ _)).mono ?_
    rintro x w3 ⟨rfl, hb3⟩
    have B3 := Lib.hid hb3; clear hb3
    go_wp2
    go_ret
    exact BoolBelow.mk rfl B3.out
end Go.Proofs.YtnoclbeamcmhhaaDoor
