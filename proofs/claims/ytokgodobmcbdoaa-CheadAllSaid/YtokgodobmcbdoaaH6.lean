/- Get of heads, walked. -/
import Derived.Test.YtokgodobmcbdoaaH5
namespace Go.Proofs.Ytokgodobmcbdoaa
open Go.RowKit Go.Lib
set_option linter.unusedVariables false
set_option linter.unusedSimpArgs false

theorem number_any (i s : Nat) (ad : Option Addr) (c : Nat) (L : List Nat) (w : World) (hs : sizeN i = some s) (hl : L.length = s) (hb : ∀ x ∈ L, x < 256) (hr : RdV w ad (bv L)) :
    Calls Try.prog 16 #[.int .i64 (i : Int), .slice ad s c] w fun e w' => e = .returned (.int .u64 ((if i < 24 then i else natB L : Nat) : Int)) ∧ Below w.heap.size w w' := by
  unfold sizeN at hs
  by_cases h1 : i < 24
  · rw [if_pos h1]; exact number_short i _ w h1
  rw [if_neg h1]
  by_cases h2 : i = 31
  · subst h2
    simp at hs
    subst hs
    obtain rfl : L = [] := List.eq_nil_of_length_eq_zero hl
    exact number_open ad c w
  by_cases h3 : i ≤ 27
  · rw [if_neg (by omega), if_pos h3] at hs
    have hq : i = 24 ∨ i = 25 ∨ i = 26 ∨ i = 27 := by omega
    rcases hq with rfl | rfl | rfl | rfl <;> simp at hs <;> subst hs
    · match L, hl with
      | [x0], _ =>
        obtain ⟨b, o, rfl, _⟩ := hr.shape (by simp [bv])
        exact number_1 b o c x0 w hr (hb _ (by simp))
    · match L, hl with
      | [x0, x1], _ =>
        obtain ⟨b, o, rfl, _⟩ := hr.shape (by simp [bv])
        exact number_2 b o c x0 x1 w hr (hb _ (by simp)) (hb _ (by simp))
    · match L, hl with
      | [x0, x1, x2, x3], _ =>
        obtain ⟨b, o, rfl, _⟩ := hr.shape (by simp [bv])
        exact number_4 b o c x0 x1 x2 x3 w hr (hb _ (by simp)) (hb _ (by simp)) (hb _ (by simp)) (hb _ (by simp))
    · match L, hl with
      | [x0, x1, x2, x3, x4, x5, x6, x7], _ =>
        obtain ⟨b, o, rfl, _⟩ := hr.shape (by simp [bv])
        exact number_8 b o c x0 x1 x2 x3 x4 x5 x6 x7 w hr (hb _ (by simp)) (hb _ (by simp)) (hb _ (by simp)) (hb _ (by simp)) (hb _ (by simp)) (hb _ (by simp)) (hb _ (by simp)) (hb _ (by simp))
  · rw [if_neg (by omega), if_neg h3] at hs; cases hs

/-- What Get leaves. -/
def GetR (l : List Nat) (k : Int) (w : World) (e : Ending) (w' : World) : Prop := e = .returned (tup (getN l k)) ∧ Below w.heap.size w w'
set_option maxHeartbeats 1000000 in
set_option maxRecDepth 100000 in
theorem get_arg (ad : Option Addr) (n cap : Nat) (l : List Nat) (k : Int) (w : World) (hl : l.length = n) (hn : n ≤ 1000000) (hk : -9223372036854775808 ≤ k ∧ k ≤ 9223372036854775807) (h : k < 0 ∨ (n : Int) < k) :
    Calls Try.prog 9 #[.slice ad n cap, .int .i64 k] w (GetR l k w) := by
  have e : getN l k = (0, 0, 0, 0, 1) := by unfold getN; rw [if_pos (by omega)]
  have E := Lib.hid e
  clear e hl
  rcases h with h | h
  · have e1 : decide (k < 0) = true := decide_eq_true h
    go_enter Try.func9, Try.ntmps9
    go_wp2_with fail
    refine bodyPost_ret (results_tmp5 rfl _ _ _) rfl ?_
    exact ⟨by rw [E.out]; rfl, Below.refl _ _⟩
  · have e1 : decide (k < 0) = false := decide_eq_false (by omega)
    have e2 : decide ((n : Int) < k) = true := decide_eq_true h
    go_enter Try.func9, Try.ntmps9
    go_wp2_with fail
    refine bodyPost_ret (results_tmp5 rfl _ _ _) rfl ?_
    exact ⟨by rw [E.out]; rfl, Below.refl _ _⟩
set_option maxHeartbeats 1000000 in
set_option maxRecDepth 100000 in
theorem get_end (ad : Option Addr) (n cap : Nat) (l : List Nat) (w : World) (hl : l.length = n) (hn : n ≤ 1000000) :
    Calls Try.prog 9 #[.slice ad n cap, .int .i64 (n : Int)] w (GetR l (n : Int) w) := by
  have e : getN l (n : Int) = (0, 0, 0, 0, 2) := by unfold getN; rw [if_neg (by omega), if_pos (by omega)]
  have E := Lib.hid e
  clear e hl
  have e1 : decide ((n : Int) < 0) = false := decide_eq_false (by omega)
  have e2 : decide ((n : Int) < (n : Int)) = false := decide_eq_false (by omega)
  go_enter Try.func9, Try.ntmps9
  go_wp2_with fail
  refine bodyPost_ret (results_tmp5 rfl _ _ _) rfl ?_
  exact ⟨by rw [E.out]; rfl, Below.refl _ _⟩
theorem getN_in (l : List Nat) (k f : Nat) (hk : k < l.length) (hf : l.getD k 0 = f) : getN l (k : Int) = match sizeN (f % 32) with
    | none => (0, 0, 0, 0, 2)
    | some s => if l.length - k - 1 < s then (0, 0, 0, 0, 2)
      else (f / 32, f % 32, if f % 32 < 24 then f % 32 else natB ((l.drop (k + 1)).take s), k + 1 + s, 0) := by
  unfold getN
  rw [if_neg (by omega), if_neg (by omega)]
  simp only [Int.toNat_natCast, hf]
  rfl
set_option maxHeartbeats 2000000 in
set_option maxRecDepth 100000 in
theorem get_none (b o n cap k f : Nat) (l : List Nat) (w : World) (hl : l.length = n) (hn : n ≤ 1000000) (hc : n ≤ cap) (hk : k < n) (hf : l.getD k 0 = f) (hf2 : f < 256) (hr : RdV w (some ⟨b, o, none⟩) (bv l)) (hs : sizeN (f % 32) = none) :
    Calls Try.prog 9 #[.slice (some ⟨b, o, none⟩) n cap, .int .i64 (k : Int)] w (GetR l (k : Int) w) := by
  have E := Lib.hid (getN_in l k f (by omega) hf)
  rw [hs] at E
  have c0 : w.cell? ⟨b, o + k, none⟩ = some (.int .u8 (f : Int)) := by rw [hr.at k (by rw [bv_len]; omega), bv_get l k (by omega), hf]
  have e31 : bits .and .u8 (f : Int) 31 = ((f % 32 : Nat) : Int) := by rw [u8_and31 (x := (f : Int)) (by omega) (by omega)]; omega
  have hi : 28 ≤ f % 32 ∧ f % 32 ≤ 30 := by unfold sizeN at hs; split at hs <;> try cases hs
                                            split at hs <;> try cases hs
                                            omega
  have KS := Lib.hid (fun W => sizeOf_no (f % 32) W hi.1 hi.2)
  have e1 : decide ((k : Int) < 0) = false := decide_eq_false (by omega)
  have e2 : ¬ n < k := by omega
  have e3 : ((k : Int) == (n : Int)) = false := by rw [beq_eq_false_iff_ne]; omega
  clear hr hf hs hi hl
  go_enter Try.func9, Try.ntmps9
  go_wp2_with fail
  go_quiet (fail)
  try simp only [e31]
  go_wp2_with fail
  refine (KS.out _).mono ?_
  rintro x w1 ⟨rfl, rfl⟩
  go_wp2_with fail
  all_goals
    refine bodyPost_ret (results_tmp5 rfl _ _ _) rfl ?_
    exact ⟨by rw [E.out]; rfl, below_drewN (Below.refl _ _) _⟩
theorem sizeOf_some (i s : Nat) (w : World) (hs : sizeN i = some s) : Calls Try.prog 15 #[.int .i64 (i : Int)] w fun e w' => e = .returned (.tuple #[.int .i64 (s : Int), .bool true]) ∧ w' = w := by
  unfold sizeN at hs
  split at hs
  · next h => cases hs; exact sizeOf_0 i w h
  · next h =>
    split at hs
    · next h2 => cases hs; exact sizeOf_1 i w (by omega) h2
    · cases hs
theorem sizeN_le {i s : Nat} (hs : sizeN i = some s) : s ≤ 8 := by
  unfold sizeN at hs
  split at hs
  · cases hs; omega
  · split at hs
    · next h2 =>
      cases hs
      exact Nat.le_trans (Nat.pow_le_pow_right (n := 2) (by decide) (show i - 24 ≤ 3 by omega)) (by decide)
    · cases hs
set_option maxHeartbeats 2000000 in
set_option maxRecDepth 100000 in
theorem get_short (b o n cap k f s : Nat) (l : List Nat) (w : World) (hl : l.length = n) (hn : n ≤ 1000000) (hc : n ≤ cap) (hk : k < n) (hf : l.getD k 0 = f) (hf2 : f < 256) (hr : RdV w (some ⟨b, o, none⟩) (bv l)) (hs : sizeN (f % 32) = some s) (hg : n - k - 1 < s) :
    Calls Try.prog 9 #[.slice (some ⟨b, o, none⟩) n cap, .int .i64 (k : Int)] w (GetR l (k : Int) w) := by
  have E := Lib.hid (show getN l (k : Int) = (0, 0, 0, 0, 2) by rw [getN_in l k f (by omega) hf, hs]; simp only []; rw [if_pos (by omega)])
  have c0 : w.cell? ⟨b, o + k, none⟩ = some (.int .u8 (f : Int)) := by rw [hr.at k (by rw [bv_len]; omega), bv_get l k (by omega), hf]
  have e31 : bits .and .u8 (f : Int) 31 = ((f % 32 : Nat) : Int) := by rw [u8_and31 (x := (f : Int)) (by omega) (by omega)]; omega
  have KS := Lib.hid (fun W => sizeOf_some (f % 32) s W hs)
  have hs8 := sizeN_le hs
  have e1 : decide ((k : Int) < 0) = false := decide_eq_false (by omega)
  have e2 : ¬ n < k := by omega
  have e3 : ((k : Int) == (n : Int)) = false := by rw [beq_eq_false_iff_ne]; omega
  have e4 : n - (k + 1) < s := by omega
  have e5 : ((n - (k + 1) : Nat) : Int) < (s : Int) := by omega
  clear hr hf hs hl
  go_enter Try.func9, Try.ntmps9
  go_wp2_with fail
  go_quiet (fail)
  try simp only [e31]
  go_wp2_with fail
  refine (KS.out _).mono ?_
  rintro x w1 ⟨rfl, rfl⟩
  go_wp2_with fail
  all_goals
    refine bodyPost_ret (results_tmp5 rfl _ _ _) rfl ?_
    exact ⟨by rw [E.out]; rfl, below_drewN (Below.refl _ _) _⟩
set_option maxHeartbeats 2000000 in
set_option maxRecDepth 100000 in
theorem get_ok (b o n cap k f s : Nat) (l : List Nat) (w : World) (hl : l.length = n) (hn : n ≤ 1000000) (hc : n ≤ cap) (hk : k < n) (hf : l.getD k 0 = f) (hf2 : f < 256) (hb : ∀ x ∈ l, x < 256) (hr : RdV w (some ⟨b, o, none⟩) (bv l)) (hs : sizeN (f % 32) = some s) (hg : ¬ n - k - 1 < s) :
    Calls Try.prog 9 #[.slice (some ⟨b, o, none⟩) n cap, .int .i64 (k : Int)] w (GetR l (k : Int) w) := by
  have E := Lib.hid (show getN l (k : Int) = (f / 32, f % 32, (if f % 32 < 24 then f % 32 else natB ((l.drop (k + 1)).take s)), k + 1 + s, 0) by rw [getN_in l k f (by omega) hf, hs]; simp only []; rw [if_neg (by omega)])
  have c0 : w.cell? ⟨b, o + k, none⟩ = some (.int .u8 (f : Int)) := by rw [hr.at k (by rw [bv_len]; omega), bv_get l k (by omega), hf]
  have e31 : bits .and .u8 (f : Int) 31 = ((f % 32 : Nat) : Int) := by rw [u8_and31 (x := (f : Int)) (by omega) (by omega)]; omega
  have KS := Lib.hid (fun W => sizeOf_some (f % 32) s W hs)
  have hs8 := sizeN_le hs
  have KN := Lib.hid (fun W c ad (h : RdV W ad (bv ((l.drop (k + 1)).take s))) => number_any (f % 32) s ad c ((l.drop (k + 1)).take s) W hs (by rw [List.length_take, List.length_drop]; omega) (fun x hx => hb x (List.mem_of_mem_drop (List.mem_of_mem_take hx))) h)
  have HR := Lib.hid hr
  generalize (if f % 32 < 24 then f % 32 else natB ((l.drop (k + 1)).take s)) = V at E KN
  have e1 : decide ((k : Int) < 0) = false := decide_eq_false (by omega)
  have e2 : ¬ n < k := by omega
  have e3 : ((k : Int) == (n : Int)) = false := by rw [beq_eq_false_iff_ne]; omega
  have e4 : ¬ n - (k + 1) < s := by omega
  have e5 : ¬ ((n - (k + 1) : Nat) : Int) < (s : Int) := by omega
  have e6 : s ≤ cap - (k + 1) := by omega
  clear hr hf hs hl hb
  go_enter Try.func9, Try.ntmps9
  go_wp2_with fail
  go_quiet (fail)
  try simp only [e31]
  go_wp2_with fail
  refine (KS.out _).mono ?_
  rintro x w1 ⟨rfl, rfl⟩
  go_wp2_with fail
  all_goals
    refine (KN.out _ _ _ ?_).mono ?_
    · first
      | (have h := (HR.out.drop (k + 1)).take s
         rw [bv_drop, bv_take] at h
         exact h)
      | (rw [show (l.drop (k + 1)).take s = [] from by rw [show s = 0 by omega]; rfl]; exact RdV.nil _ _)
    rintro x w2 ⟨rfl, h2⟩
    have B2 := Lib.hid h2
    clear h2
    go_wp2_with fail
    refine bodyPost_ret (results_tmp5 rfl _ _ _) rfl ?_
    exact ⟨by rw [E.out]; rfl, below_on (below_drewN (Below.refl _ _) _) B2.out⟩
theorem get_any (ad : Option Addr) (n cap : Nat) (l : List Nat) (k : Int) (w : World) (hl : l.length = n) (hn : n ≤ 1000000) (hc : n ≤ cap) (hb : ∀ x ∈ l, x < 256) (hr : RdV w ad (bv l)) (hk : -9223372036854775808 ≤ k ∧ k ≤ 9223372036854775807) :
    Calls Try.prog 9 #[.slice ad n cap, .int .i64 k] w (GetR l k w) := by
  by_cases h1 : k < 0 ∨ (n : Int) < k
  · exact get_arg ad n cap l k w hl hn hk h1
  by_cases h2 : k = (n : Int)
  · subst h2; exact get_end ad n cap l w hl hn
  obtain ⟨j, rfl⟩ : ∃ j : Nat, k = j := ⟨k.toNat, by omega⟩
  have hj : j < n := by omega
  obtain ⟨b, o, rfl, _⟩ := hr.shape (by rw [bv_len]; omega)
  have hf2 : l.getD j 0 < 256 := by
    rw [List.getD_eq_getElem?_getD, List.getElem?_eq_getElem (by omega)]
    exact hb _ (List.getElem_mem _)
  cases hs : sizeN (l.getD j 0 % 32) with
  | none => exact get_none b o n cap j _ l w hl hn hc hj rfl hf2 hr hs
  | some s =>
    by_cases hg : n - j - 1 < s
    · exact get_short b o n cap j _ s l w hl hn hc hj rfl hf2 hr hs hg
    · exact get_ok b o n cap j _ s l w hl hn hc hj rfl hf2 hb hr hs hg
end Go.Proofs.Ytokgodobmcbdoaa
