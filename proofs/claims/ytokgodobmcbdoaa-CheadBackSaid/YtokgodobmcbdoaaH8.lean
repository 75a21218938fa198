/- Chapter 9's own Get. -/
import Derived.Test.YtokgodobmcbdoaaH7
namespace Go.Proofs.Ytokgodobmcbdoaa
open Go.RowKit Go.Lib
set_option linter.unusedVariables false
set_option linter.unusedSimpArgs false
theorem natB_snoc (l : List Nat) (x : Nat) : natB (l ++ [x]) = natB l * 256 + x := by simp [natB]
theorem natB_lt : ∀ (n : Nat) (l : List Nat), l.length = n → (∀ x ∈ l, x < 256) → natB l < 256 ^ n := by
  intro n
  induction n with
  | zero => intro l h _; rw [List.eq_nil_of_length_eq_zero h]; decide
  | succ n ih =>
    intro l h hb
    have hne : l ≠ [] := by intro e; subst e; cases h
    obtain ⟨k, x, rfl⟩ : ∃ k x, l = k ++ [x] := ⟨l.dropLast, l.getLast hne, (List.dropLast_concat_getLast hne).symm⟩
    have h1 := ih k (by simpa using h) (fun y hy => hb y (by simp [hy]))
    have h2 := hb x (by simp)
    rw [natB_snoc, Nat.pow_succ]
    omega
theorem pow7 {j : Nat} (hj : j ≤ 7) : 256 ^ j ≤ 72057594037927936 := Nat.le_trans (Nat.pow_le_pow_right (by decide) hj) (by decide)
set_option maxHeartbeats 1000000 in
set_option maxRecDepth 100000 in
theorem refGet_arg (ad : Option Addr) (n cap : Nat) (l : List Nat) (k : Int) (w : World) (hl : l.length = n) (hn : n ≤ 1000000) (hk : -9223372036854775808 ≤ k ∧ k ≤ 9223372036854775807) (h : k < 0 ∨ (n : Int) < k) :
    Calls Try.prog 10 #[.slice ad n cap, .int .i64 k] w (GetR l k w) := by
  have e : getN l k = (0, 0, 0, 0, 1) := by unfold getN; rw [if_pos (by omega)]
  have E := Lib.hid e
  clear e hl
  rcases h with h | h
  · have e1 : decide (k < 0) = true := decide_eq_true h
    go_enter Try.func10, Try.ntmps10
    go_wp2_with fail
    refine bodyPost_ret (results_tmp5 rfl _ _ _) rfl ?_
    exact ⟨by rw [E.out]; rfl, Below.refl _ _⟩
  · have e1 : decide (k < 0) = false := decide_eq_false (by omega)
    have e2 : decide ((n : Int) < k) = true := decide_eq_true h
    go_enter Try.func10, Try.ntmps10
    go_wp2_with fail
    refine bodyPost_ret (results_tmp5 rfl _ _ _) rfl ?_
    exact ⟨by rw [E.out]; rfl, Below.refl _ _⟩
set_option maxHeartbeats 1000000 in
set_option maxRecDepth 100000 in
theorem refGet_end (ad : Option Addr) (n cap : Nat) (l : List Nat) (w : World) (hl : l.length = n) (hn : n ≤ 1000000) :
    Calls Try.prog 10 #[.slice ad n cap, .int .i64 (n : Int)] w (GetR l (n : Int) w) := by
  have e : getN l (n : Int) = (0, 0, 0, 0, 2) := by unfold getN; rw [if_neg (by omega), if_pos (by omega)]
  have E := Lib.hid e
  clear e hl
  have e1 : decide ((n : Int) < 0) = false := decide_eq_false (by omega)
  have e2 : decide ((n : Int) < (n : Int)) = false := decide_eq_false (by omega)
  go_enter Try.func10, Try.ntmps10
  go_wp2_with fail
  refine bodyPost_ret (results_tmp5 rfl _ _ _) rfl ?_
  exact ⟨by rw [E.out]; rfl, Below.refl _ _⟩
set_option maxHeartbeats 2000000 in
set_option maxRecDepth 100000 in
/-- What needs no more bytes, or is none. -/
theorem refGet_few (b o n cap k f : Nat) (l : List Nat) (w : World) (hl : l.length = n) (hn : n ≤ 1000000) (hc : n ≤ cap) (hk : k < n) (hf : l.getD k 0 = f) (hf2 : f < 256) (hr : RdV w (some ⟨b, o, none⟩) (bv l)) (hs : f % 32 < 24 ∨ 27 < f % 32) :
    Calls Try.prog 10 #[.slice (some ⟨b, o, none⟩) n cap, .int .i64 (k : Int)] w (GetR l (k : Int) w) := by
  have E := Lib.hid (getN_in l k f (by omega) hf)
  have c0 : w.cell? ⟨b, o + k, none⟩ = some (.int .u8 (f : Int)) := by rw [hr.at k (by rw [bv_len]; omega), bv_get l k (by omega), hf]
  have e31 : bits .and .u8 (f : Int) 31 = ((f % 32 : Nat) : Int) := by rw [u8_and31 (x := (f : Int)) (by omega) (by omega)]; omega
  have e1 : decide ((k : Int) < 0) = false := decide_eq_false (by omega)
  have e2 : ¬ n < k := by omega
  have e3 : ((k : Int) == (n : Int)) = false := by rw [beq_eq_false_iff_ne]; omega
  clear hr hf hl
  rcases hs with h | h
  · rw [show sizeN (f % 32) = some 0 by unfold sizeN; rw [if_pos (.inl h)]] at E
    simp only [Nat.not_lt_zero, if_false, if_pos h] at E
    have e4 : decide ((f : Int) % 32 < 24) = true := decide_eq_true (by omega)
    go_enter Try.func10, Try.ntmps10
    go_wp2_with fail
    go_quiet (fail)
    go_wp2_with fail
    refine bodyPost_ret (results_tmp5 rfl _ _ _) rfl ?_
    exact ⟨by rw [E.out]; rfl, below_drewN (Below.refl _ _) _⟩
  · have e4 : decide ((f : Int) % 32 < 24) = false := decide_eq_false (by omega)
    by_cases h31 : f % 32 = 31
    · rw [h31, show sizeN 31 = some 0 by rfl] at E
      simp only [Nat.not_lt_zero, if_false] at E
      have e5 : (f : Int) % 32 = 31 := by omega
      go_enter Try.func10, Try.ntmps10
      go_wp2_with fail
      go_quiet (fail)
      go_wp2_with fail
      refine bodyPost_ret (results_tmp5 rfl _ _ _) rfl ?_
      exact ⟨by rw [E.out]; rfl, below_drewN (Below.refl _ _) _⟩
    · rw [show sizeN (f % 32) = none by unfold sizeN; rw [if_neg (by omega), if_neg (by omega)]] at E
      have e5 : ((f : Int) % 32 == 31) = false := by rw [beq_eq_false_iff_ne]; omega
      have e6 : decide ((27 : Int) < (f : Int) % 32) = true := decide_eq_true (by omega)
      go_enter Try.func10, Try.ntmps10
      go_wp2_with fail
      go_quiet (fail)
      go_wp2_with fail
      refine bodyPost_ret (results_tmp5 rfl _ _ _) rfl ?_
      exact ⟨by rw [E.out]; rfl, below_drewN (Below.refl _ _) _⟩
-- MORE
set_option maxHeartbeats 2000000 in
set_option maxRecDepth 100000 in
theorem refGet_24 (b o n cap k f : Nat) (l : List Nat) (w : World) (hl : l.length = n) (hn : n ≤ 1000000) (hc : n ≤ cap) (hk : k < n) (hf : l.getD k 0 = f) (hf2 : f < 256) (hb : ∀ x ∈ l, x < 256) (hr : RdV w (some ⟨b, o, none⟩) (bv l)) (hi : f % 32 = 24) :
    Calls Try.prog 10 #[.slice (some ⟨b, o, none⟩) n cap, .int .i64 (k : Int)] w (GetR l (k : Int) w) := by
  have E := Lib.hid (getN_in l k f (by omega) hf)
  rw [hi, show sizeN 24 = some 1 by rfl] at E
  simp only [if_neg (show ¬ 24 < 24 by omega)] at E
  have c0 : w.cell? ⟨b, o + k, none⟩ = some (.int .u8 (f : Int)) := by rw [hr.at k (by rw [bv_len]; omega), bv_get l k (by omega), hf]
  have e31 : bits .and .u8 (f : Int) 31 = 24 := by rw [u8_and31 (x := (f : Int)) (by omega) (by omega)]; omega
  have e32 : (f : Int) % 32 = 24 := by omega
  have e1 : decide ((k : Int) < 0) = false := decide_eq_false (by omega)
  have e2 : ¬ n < k := by omega
  have e3 : ((k : Int) == (n : Int)) = false := by rw [beq_eq_false_iff_ne]; omega
  by_cases hg : n - k - 1 < 1
  · rw [if_pos (by omega)] at E
    have e4 : (n : Int) - (k : Int) - 1 < 1 := by omega
    clear hr hf hl hb
    go_enter Try.func10, Try.ntmps10
    go_wp2_with fail
    go_quiet (fail)
    go_wp2_with fail
    refine bodyPost_ret (results_tmp5 rfl _ _ _) rfl ?_
    exact ⟨by rw [E.out]; rfl, below_drewN (Below.refl _ _) _⟩
  · rw [if_neg (by omega)] at E
    have e4 : ¬ (n : Int) - (k : Int) - 1 < 1 := by omega
    have hlen : ((l.drop (k + 1)).take 1).length = 1 := by rw [List.length_take, List.length_drop]; omega
    have HM := Lib.hid (fun j (hj : j < 1) => show (∃ x : Nat, x < 256 ∧ w.cell? ⟨b, o + (k + 1 + j), none⟩ = some (.int .u8 (x : Int)) ∧ natB (((l.drop (k + 1)).take 1).take (j + 1)) = natB (((l.drop (k + 1)).take 1).take j) * 256 + x ∧ natB (((l.drop (k + 1)).take 1).take j) < 72057594037927936) from by
      have hj2 : k + 1 + j < l.length := by omega
      refine ⟨l[k + 1 + j], hb _ (List.getElem_mem _), ?_, ?_, ?_⟩
      · rw [hr.at (k + 1 + j) (by rw [bv_len]; omega), bv_get l _ hj2]
        simp [List.getD, hj2]
      · rw [← natB_snoc]
        congr 1
        rw [List.take_add_one, List.getElem?_take, if_pos hj, List.getElem?_drop, List.getElem?_eq_getElem hj2]
        rfl
      · refine Nat.lt_of_lt_of_le (natB_lt j _ (by rw [List.length_take, hlen]; omega) (fun x hx => hb x (List.mem_of_mem_drop (List.mem_of_mem_take (List.mem_of_mem_take hx))))) (pow7 (by omega)))
    have HT := Lib.hid (show natB (((l.drop (k + 1)).take 1).take 1) = natB ((l.drop (k + 1)).take 1) by rw [List.take_of_length_le (by omega)])
    generalize natB ((l.drop (k + 1)).take 1) = V at E HT
    have H0 := Lib.hid (show natB (((l.drop (k + 1)).take 1).take 0) = 0 by rfl)
    generalize hNB : (fun j => natB (((l.drop (k + 1)).take 1).take j)) = NB
    have HNB := Lib.hid (show ∀ j, natB (((l.drop (k + 1)).take 1).take j) = NB j from fun j => by rw [← hNB])
    simp only [HNB.out] at HM HT H0
    clear hNB HNB
    clear hr hf hl hb hlen
    go_enter Try.func10, Try.ntmps10
    go_wp2_with fail
    go_quiet (fail)
    go_wp2_with fail
    go_loopw [12, 13] (fun v i wr => ∃ j q : Nat, j ≤ 1 ∧ i = .int .i64 (j : Int) ∧ v = .int .u64 ((NB j : Nat) : Int) ∧ wr = w.drewN q) (fun _ i _ => 1 - (intOf i).toNat)
    case atStart => exact ⟨0, _, by omega, rfl, by rw [H0.out]; rfl, rfl⟩
    case round =>
      obtain ⟨j, q, hj, rfl, rfl, rfl⟩ := hrel
      by_cases hlt : j < 1
      · obtain ⟨x, hx, hcx, hnx, hvx⟩ := HM.out j hlt
        have HNX := Lib.hid hnx
        clear hnx
        have h1 : (j : Int) < 1 := by omega
        generalize NB j = Vj at *
        go_wp2
        go_roundw
        case rel => exact ⟨j + 1, _, by omega, by go_num, by rw [HNX.out]; go_num, rfl⟩
        case measure => simp [intOf]; omega
      · obtain rfl : j = 1 := by omega
        rw [HT.out]
        go_wp2
        refine bodyPost_ret (results_tmp5 rfl _ _ _) rfl ?_
        exact ⟨by rw [E.out]; rfl, below_drewN (Below.refl _ _) _⟩
set_option maxHeartbeats 2000000 in
set_option maxRecDepth 100000 in
theorem refGet_25 (b o n cap k f : Nat) (l : List Nat) (w : World) (hl : l.length = n) (hn : n ≤ 1000000) (hc : n ≤ cap) (hk : k < n) (hf : l.getD k 0 = f) (hf2 : f < 256) (hb : ∀ x ∈ l, x < 256) (hr : RdV w (some ⟨b, o, none⟩) (bv l)) (hi : f % 32 = 25) :
    Calls Try.prog 10 #[.slice (some ⟨b, o, none⟩) n cap, .int .i64 (k : Int)] w (GetR l (k : Int) w) := by
  have E := Lib.hid (getN_in l k f (by omega) hf)
  rw [hi, show sizeN 25 = some 2 by rfl] at E
  simp only [if_neg (show ¬ 25 < 24 by omega)] at E
  have c0 : w.cell? ⟨b, o + k, none⟩ = some (.int .u8 (f : Int)) := by rw [hr.at k (by rw [bv_len]; omega), bv_get l k (by omega), hf]
  have e31 : bits .and .u8 (f : Int) 31 = 25 := by rw [u8_and31 (x := (f : Int)) (by omega) (by omega)]; omega
  have e32 : (f : Int) % 32 = 25 := by omega
  have e1 : decide ((k : Int) < 0) = false := decide_eq_false (by omega)
  have e2 : ¬ n < k := by omega
  have e3 : ((k : Int) == (n : Int)) = false := by rw [beq_eq_false_iff_ne]; omega
  by_cases hg : n - k - 1 < 2
  · rw [if_pos (by omega)] at E
    have e4 : (n : Int) - (k : Int) - 1 < 2 := by omega
    clear hr hf hl hb
    go_enter Try.func10, Try.ntmps10
    go_wp2_with fail
    go_quiet (fail)
    go_wp2_with fail
    refine bodyPost_ret (results_tmp5 rfl _ _ _) rfl ?_
    exact ⟨by rw [E.out]; rfl, below_drewN (Below.refl _ _) _⟩
  · rw [if_neg (by omega)] at E
    have e4 : ¬ (n : Int) - (k : Int) - 1 < 2 := by omega
    have hlen : ((l.drop (k + 1)).take 2).length = 2 := by rw [List.length_take, List.length_drop]; omega
    have HM := Lib.hid (fun j (hj : j < 2) => show (∃ x : Nat, x < 256 ∧ w.cell? ⟨b, o + (k + 1 + j), none⟩ = some (.int .u8 (x : Int)) ∧ natB (((l.drop (k + 1)).take 2).take (j + 1)) = natB (((l.drop (k + 1)).take 2).take j) * 256 + x ∧ natB (((l.drop (k + 1)).take 2).take j) < 72057594037927936) from by
      have hj2 : k + 1 + j < l.length := by omega
      refine ⟨l[k + 1 + j], hb _ (List.getElem_mem _), ?_, ?_, ?_⟩
      · rw [hr.at (k + 1 + j) (by rw [bv_len]; omega), bv_get l _ hj2]
        simp [List.getD, hj2]
      · rw [← natB_snoc]
        congr 1
        rw [List.take_add_one, List.getElem?_take, if_pos hj, List.getElem?_drop, List.getElem?_eq_getElem hj2]
        rfl
      · refine Nat.lt_of_lt_of_le (natB_lt j _ (by rw [List.length_take, hlen]; omega) (fun x hx => hb x (List.mem_of_mem_drop (List.mem_of_mem_take (List.mem_of_mem_take hx))))) (pow7 (by omega)))
    have HT := Lib.hid (show natB (((l.drop (k + 1)).take 2).take 2) = natB ((l.drop (k + 1)).take 2) by rw [List.take_of_length_le (by omega)])
    generalize natB ((l.drop (k + 1)).take 2) = V at E HT
    have H0 := Lib.hid (show natB (((l.drop (k + 1)).take 2).take 0) = 0 by rfl)
    generalize hNB : (fun j => natB (((l.drop (k + 1)).take 2).take j)) = NB
    have HNB := Lib.hid (show ∀ j, natB (((l.drop (k + 1)).take 2).take j) = NB j from fun j => by rw [← hNB])
    simp only [HNB.out] at HM HT H0
    clear hNB HNB
    clear hr hf hl hb hlen
    go_enter Try.func10, Try.ntmps10
    go_wp2_with fail
    go_quiet (fail)
    go_wp2_with fail
    go_loopw [12, 13] (fun v i wr => ∃ j q : Nat, j ≤ 2 ∧ i = .int .i64 (j : Int) ∧ v = .int .u64 ((NB j : Nat) : Int) ∧ wr = w.drewN q) (fun _ i _ => 2 - (intOf i).toNat)
    case atStart => exact ⟨0, _, by omega, rfl, by rw [H0.out]; rfl, rfl⟩
    case round =>
      obtain ⟨j, q, hj, rfl, rfl, rfl⟩ := hrel
      by_cases hlt : j < 2
      · obtain ⟨x, hx, hcx, hnx, hvx⟩ := HM.out j hlt
        have HNX := Lib.hid hnx
        clear hnx
        have h1 : (j : Int) < 2 := by omega
        generalize NB j = Vj at *
        go_wp2
        go_roundw
        case rel => exact ⟨j + 1, _, by omega, by go_num, by rw [HNX.out]; go_num, rfl⟩
        case measure => simp [intOf]; omega
      · obtain rfl : j = 2 := by omega
        rw [HT.out]
        go_wp2
        refine bodyPost_ret (results_tmp5 rfl _ _ _) rfl ?_
        exact ⟨by rw [E.out]; rfl, below_drewN (Below.refl _ _) _⟩
set_option maxHeartbeats 2000000 in
set_option maxRecDepth 100000 in
theorem refGet_26 (b o n cap k f : Nat) (l : List Nat) (w : World) (hl : l.length = n) (hn : n ≤ 1000000) (hc : n ≤ cap) (hk : k < n) (hf : l.getD k 0 = f) (hf2 : f < 256) (hb : ∀ x ∈ l, x < 256) (hr : RdV w (some ⟨b, o, none⟩) (bv l)) (hi : f % 32 = 26) :
    Calls Try.prog 10 #[.slice (some ⟨b, o, none⟩) n cap, .int .i64 (k : Int)] w (GetR l (k : Int) w) := by
  have E := Lib.hid (getN_in l k f (by omega) hf)
  rw [hi, show sizeN 26 = some 4 by rfl] at E
  simp only [if_neg (show ¬ 26 < 24 by omega)] at E
  have c0 : w.cell? ⟨b, o + k, none⟩ = some (.int .u8 (f : Int)) := by rw [hr.at k (by rw [bv_len]; omega), bv_get l k (by omega), hf]
  have e31 : bits .and .u8 (f : Int) 31 = 26 := by rw [u8_and31 (x := (f : Int)) (by omega) (by omega)]; omega
  have e32 : (f : Int) % 32 = 26 := by omega
  have e1 : decide ((k : Int) < 0) = false := decide_eq_false (by omega)
  have e2 : ¬ n < k := by omega
  have e3 : ((k : Int) == (n : Int)) = false := by rw [beq_eq_false_iff_ne]; omega
  by_cases hg : n - k - 1 < 4
  · rw [if_pos (by omega)] at E
    have e4 : (n : Int) - (k : Int) - 1 < 4 := by omega
    clear hr hf hl hb
    go_enter Try.func10, Try.ntmps10
    go_wp2_with fail
    go_quiet (fail)
    go_wp2_with fail
    refine bodyPost_ret (results_tmp5 rfl _ _ _) rfl ?_
    exact ⟨by rw [E.out]; rfl, below_drewN (Below.refl _ _) _⟩
  · rw [if_neg (by omega)] at E
    have e4 : ¬ (n : Int) - (k : Int) - 1 < 4 := by omega
    have hlen : ((l.drop (k + 1)).take 4).length = 4 := by rw [List.length_take, List.length_drop]; omega
    have HM := Lib.hid (fun j (hj : j < 4) => show (∃ x : Nat, x < 256 ∧ w.cell? ⟨b, o + (k + 1 + j), none⟩ = some (.int .u8 (x : Int)) ∧ natB (((l.drop (k + 1)).take 4).take (j + 1)) = natB (((l.drop (k + 1)).take 4).take j) * 256 + x ∧ natB (((l.drop (k + 1)).take 4).take j) < 72057594037927936) from by
      have hj2 : k + 1 + j < l.length := by omega
      refine ⟨l[k + 1 + j], hb _ (List.getElem_mem _), ?_, ?_, ?_⟩
      · rw [hr.at (k + 1 + j) (by rw [bv_len]; omega), bv_get l _ hj2]
        simp [List.getD, hj2]
      · rw [← natB_snoc]
        congr 1
        rw [List.take_add_one, List.getElem?_take, if_pos hj, List.getElem?_drop, List.getElem?_eq_getElem hj2]
        rfl
      · refine Nat.lt_of_lt_of_le (natB_lt j _ (by rw [List.length_take, hlen]; omega) (fun x hx => hb x (List.mem_of_mem_drop (List.mem_of_mem_take (List.mem_of_mem_take hx))))) (pow7 (by omega)))
    have HT := Lib.hid (show natB (((l.drop (k + 1)).take 4).take 4) = natB ((l.drop (k + 1)).take 4) by rw [List.take_of_length_le (by omega)])
    generalize natB ((l.drop (k + 1)).take 4) = V at E HT
    have H0 := Lib.hid (show natB (((l.drop (k + 1)).take 4).take 0) = 0 by rfl)
    generalize hNB : (fun j => natB (((l.drop (k + 1)).take 4).take j)) = NB
    have HNB := Lib.hid (show ∀ j, natB (((l.drop (k + 1)).take 4).take j) = NB j from fun j => by rw [← hNB])
    simp only [HNB.out] at HM HT H0
    clear hNB HNB
    clear hr hf hl hb hlen
    go_enter Try.func10, Try.ntmps10
    go_wp2_with fail
    go_quiet (fail)
    go_wp2_with fail
    go_loopw [12, 13] (fun v i wr => ∃ j q : Nat, j ≤ 4 ∧ i = .int .i64 (j : Int) ∧ v = .int .u64 ((NB j : Nat) : Int) ∧ wr = w.drewN q) (fun _ i _ => 4 - (intOf i).toNat)
    case atStart => exact ⟨0, _, by omega, rfl, by rw [H0.out]; rfl, rfl⟩
    case round =>
      obtain ⟨j, q, hj, rfl, rfl, rfl⟩ := hrel
      by_cases hlt : j < 4
      · obtain ⟨x, hx, hcx, hnx, hvx⟩ := HM.out j hlt
        have HNX := Lib.hid hnx
        clear hnx
        have h1 : (j : Int) < 4 := by omega
        generalize NB j = Vj at *
        go_wp2
        go_roundw
        case rel => exact ⟨j + 1, _, by omega, by go_num, by rw [HNX.out]; go_num, rfl⟩
        case measure => simp [intOf]; omega
      · obtain rfl : j = 4 := by omega
        rw [HT.out]
        go_wp2
        refine bodyPost_ret (results_tmp5 rfl _ _ _) rfl ?_
        exact ⟨by rw [E.out]; rfl, below_drewN (Below.refl _ _) _⟩
set_option maxHeartbeats 2000000 in
set_option maxRecDepth 100000 in
theorem refGet_27 (b o n cap k f : Nat) (l : List Nat) (w : World) (hl : l.length = n) (hn : n ≤ 1000000) (hc : n ≤ cap) (hk : k < n) (hf : l.getD k 0 = f) (hf2 : f < 256) (hb : ∀ x ∈ l, x < 256) (hr : RdV w (some ⟨b, o, none⟩) (bv l)) (hi : f % 32 = 27) :
    Calls Try.prog 10 #[.slice (some ⟨b, o, none⟩) n cap, .int .i64 (k : Int)] w (GetR l (k : Int) w) := by
  have E := Lib.hid (getN_in l k f (by omega) hf)
  rw [hi, show sizeN 27 = some 8 by rfl] at E
  simp only [if_neg (show ¬ 27 < 24 by omega)] at E
  have c0 : w.cell? ⟨b, o + k, none⟩ = some (.int .u8 (f : Int)) := by rw [hr.at k (by rw [bv_len]; omega), bv_get l k (by omega), hf]
  have e31 : bits .and .u8 (f : Int) 31 = 27 := by rw [u8_and31 (x := (f : Int)) (by omega) (by omega)]; omega
  have e32 : (f : Int) % 32 = 27 := by omega
  have e1 : decide ((k : Int) < 0) = false := decide_eq_false (by omega)
  have e2 : ¬ n < k := by omega
  have e3 : ((k : Int) == (n : Int)) = false := by rw [beq_eq_false_iff_ne]; omega
  by_cases hg : n - k - 1 < 8
  · rw [if_pos (by omega)] at E
    have e4 : (n : Int) - (k : Int) - 1 < 8 := by omega
    clear hr hf hl hb
    go_enter Try.func10, Try.ntmps10
    go_wp2_with fail
    go_quiet (fail)
    go_wp2_with fail
    refine bodyPost_ret (results_tmp5 rfl _ _ _) rfl ?_
    exact ⟨by rw [E.out]; rfl, below_drewN (Below.refl _ _) _⟩
  · rw [if_neg (by omega)] at E
    have e4 : ¬ (n : Int) - (k : Int) - 1 < 8 := by omega
    have hlen : ((l.drop (k + 1)).take 8).length = 8 := by rw [List.length_take, List.length_drop]; omega
    have HM := Lib.hid (fun j (hj : j < 8) => show (∃ x : Nat, x < 256 ∧ w.cell? ⟨b, o + (k + 1 + j), none⟩ = some (.int .u8 (x : Int)) ∧ natB (((l.drop (k + 1)).take 8).take (j + 1)) = natB (((l.drop (k + 1)).take 8).take j) * 256 + x ∧ natB (((l.drop (k + 1)).take 8).take j) < 72057594037927936) from by
      have hj2 : k + 1 + j < l.length := by omega
      refine ⟨l[k + 1 + j], hb _ (List.getElem_mem _), ?_, ?_, ?_⟩
      · rw [hr.at (k + 1 + j) (by rw [bv_len]; omega), bv_get l _ hj2]
        simp [List.getD, hj2]
      · rw [← natB_snoc]
        congr 1
        rw [List.take_add_one, List.getElem?_take, if_pos hj, List.getElem?_drop, List.getElem?_eq_getElem hj2]
        rfl
      · refine Nat.lt_of_lt_of_le (natB_lt j _ (by rw [List.length_take, hlen]; omega) (fun x hx => hb x (List.mem_of_mem_drop (List.mem_of_mem_take (List.mem_of_mem_take hx))))) (pow7 (by omega)))
    have HT := Lib.hid (show natB (((l.drop (k + 1)).take 8).take 8) = natB ((l.drop (k + 1)).take 8) by rw [List.take_of_length_le (by omega)])
    generalize natB ((l.drop (k + 1)).take 8) = V at E HT
    have H0 := Lib.hid (show natB (((l.drop (k + 1)).take 8).take 0) = 0 by rfl)
    generalize hNB : (fun j => natB (((l.drop (k + 1)).take 8).take j)) = NB
    have HNB := Lib.hid (show ∀ j, natB (((l.drop (k + 1)).take 8).take j) = NB j from fun j => by rw [← hNB])
    simp only [HNB.out] at HM HT H0
    clear hNB HNB
    clear hr hf hl hb hlen
    go_enter Try.func10, Try.ntmps10
    go_wp2_with fail
    go_quiet (fail)
    go_wp2_with fail
    go_loopw [12, 13] (fun v i wr => ∃ j q : Nat, j ≤ 8 ∧ i = .int .i64 (j : Int) ∧ v = .int .u64 ((NB j : Nat) : Int) ∧ wr = w.drewN q) (fun _ i _ => 8 - (intOf i).toNat)
    case atStart => exact ⟨0, _, by omega, rfl, by rw [H0.out]; rfl, rfl⟩
    case round =>
      obtain ⟨j, q, hj, rfl, rfl, rfl⟩ := hrel
      by_cases hlt : j < 8
      · obtain ⟨x, hx, hcx, hnx, hvx⟩ := HM.out j hlt
        have HNX := Lib.hid hnx
        clear hnx
        have h1 : (j : Int) < 8 := by omega
        generalize NB j = Vj at *
        go_wp2
        go_roundw
        case rel => exact ⟨j + 1, _, by omega, by go_num, by rw [HNX.out]; go_num, rfl⟩
        case measure => simp [intOf]; omega
      · obtain rfl : j = 8 := by omega
        rw [HT.out]
        go_wp2
        refine bodyPost_ret (results_tmp5 rfl _ _ _) rfl ?_
        exact ⟨by rw [E.out]; rfl, below_drewN (Below.refl _ _) _⟩
theorem refGet_any (ad : Option Addr) (n cap : Nat) (l : List Nat) (k : Int) (w : World) (hl : l.length = n) (hn : n ≤ 1000000) (hc : n ≤ cap) (hb : ∀ x ∈ l, x < 256) (hr : RdV w ad (bv l)) (hk : -9223372036854775808 ≤ k ∧ k ≤ 9223372036854775807) :
    Calls Try.prog 10 #[.slice ad n cap, .int .i64 k] w (GetR l k w) := by
  by_cases h1 : k < 0 ∨ (n : Int) < k
  · exact refGet_arg ad n cap l k w hl hn hk h1
  by_cases h2 : k = (n : Int)
  · subst h2; exact refGet_end ad n cap l w hl hn
  obtain ⟨j, rfl⟩ : ∃ j : Nat, k = j := ⟨k.toNat, by omega⟩
  have hj : j < n := by omega
  obtain ⟨b, o, rfl, _⟩ := hr.shape (by rw [bv_len]; omega)
  have hf2 : l.getD j 0 < 256 := by
    rw [List.getD_eq_getElem?_getD, List.getElem?_eq_getElem (by omega)]
    exact hb _ (List.getElem_mem _)
  by_cases h3 : l.getD j 0 % 32 < 24 ∨ 27 < l.getD j 0 % 32
  · exact refGet_few b o n cap j _ l w hl hn hc hj rfl hf2 hr h3
  have h4 : l.getD j 0 % 32 = 24 ∨ l.getD j 0 % 32 = 25 ∨ l.getD j 0 % 32 = 26 ∨ l.getD j 0 % 32 = 27 := by omega
  rcases h4 with h4 | h4 | h4 | h4
  · exact refGet_24 b o n cap j _ l w hl hn hc hj rfl hf2 hb hr h4
  · exact refGet_25 b o n cap j _ l w hl hn hc hj rfl hf2 hb hr h4
  · exact refGet_26 b o n cap j _ l w hl hn hc hj rfl hf2 hb hr h4
  · exact refGet_27 b o n cap j _ l w hl hn hc hj rfl hf2 hb hr h4
end Go.Proofs.Ytokgodobmcbdoaa
