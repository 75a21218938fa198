/- Get of heads of MessagePack, walked: the whole. -/
import Derived.Test.YtmnaccojekojkaaE4
import Derived.Deep.QuietTactic
namespace Go.Proofs.Ytmnaccojekojkaa
open Go.RowKit Go.Lib
set_option linter.unusedVariables false
set_option linter.unusedSimpArgs false
theorem results_tmp4 {fn : Func} {t u v x : Tmp} (h : fn.results = #[.tmp t, .tmp u, .tmp v, .tmp x]) (tmps : Array Value) (P : Program) (w : World) :
    (results fn tmps).run P w = .ok (.tuple #[tmps.getD t undef, tmps.getD u undef, tmps.getD v undef, tmps.getD x undef]) w := by
  simp [results, h]
/-- What Get leaves. -/
def GetM (l : List Nat) (k : Int) (w : World) (e : Ending) (w' : World) : Prop := e = .returned (tup4 (getM l k)) ∧ Below w.heap.size w w'

set_option maxHeartbeats 2000000 in
set_option maxRecDepth 100000 in
theorem getM_arg (ad : Option Addr) (n cap : Nat) (l : List Nat) (k : Int) (w : World) (hl : l.length = n) (hn : n ≤ 1000000) (hk : -9223372036854775808 ≤ k ∧ k ≤ 9223372036854775807) (h : k < 0 ∨ (n : Int) < k) :
    Calls Try.prog 9 #[.slice ad n cap, .int .i64 k] w (GetM l k w) := by
  have e : getM l k = (0, 0, 0, 1) := by unfold getM; rw [if_pos (by omega)]
  have E := Lib.hid e
  clear e hl
  rcases h with h | h
  · have e1 : decide (k < 0) = true := decide_eq_true h
    go_enter Try.func9, Try.ntmps9
    go_wp2_with fail
    refine bodyPost_ret (results_tmp4 rfl _ _ _) rfl ?_
    exact ⟨by rw [E.out]; rfl, Below.refl _ _⟩
  
  · have e1 : decide (k < 0) = false := decide_eq_false (by omega)
    have e2 : decide ((n : Int) < k) = true := decide_eq_true h
    go_enter Try.func9, Try.ntmps9
    go_wp2_with fail
    refine bodyPost_ret (results_tmp4 rfl _ _ _) rfl ?_
    exact ⟨by rw [E.out]; rfl, Below.refl _ _⟩
  
set_option maxHeartbeats 2000000 in
set_option maxRecDepth 100000 in
theorem getM_end (ad : Option Addr) (n cap : Nat) (l : List Nat) (w : World) (hl : l.length = n) (hn : n ≤ 1000000) :
    Calls Try.prog 9 #[.slice ad n cap, .int .i64 (n : Int)] w (GetM l (n : Int) w) := by
  have e : getM l (n : Int) = (0, 0, 0, 2) := by unfold getM; rw [if_neg (by omega), if_pos (by omega)]
  have E := Lib.hid e
  clear e hl
  have e1 : decide ((n : Int) < 0) = false := decide_eq_false (by omega)
  have e2 : decide ((n : Int) < (n : Int)) = false := decide_eq_false (by omega)
  go_enter Try.func9, Try.ntmps9
  go_wp2_with fail
  refine bodyPost_ret (results_tmp4 rfl _ _ _) rfl ?_
  exact ⟨by rw [E.out]; rfl, Below.refl _ _⟩

set_option maxHeartbeats 2000000 in
set_option maxRecDepth 100000 in
theorem getM_193 (b o n cap k f : Nat) (l : List Nat) (w : World) (hl : l.length = n) (hn : n ≤ 1000000) (hc : n ≤ cap) (hk : k < n) (hf : l.getD k 0 = f) (hf2 : f < 256) (hb : ∀ x ∈ l, x < 256) (hr : RdV w (some ⟨b, o, none⟩) (bv l)) (h193 : f = 193) :
    Calls Try.prog 9 #[.slice (some ⟨b, o, none⟩) n cap, .int .i64 (k : Int)] w (GetM l (k : Int) w) := by
  have E := Lib.hid (show getM l (k : Int) = (0, 0, 0, 3) by rw [getM_in l k f (by omega) hf, if_pos h193])
  have c0 : w.cell? ⟨b, o + k, none⟩ = some (.int .u8 (f : Int)) := by rw [hr.at k (by rw [bv_len]; omega), bv_get l k (by omega), hf]
  have KK := Lib.hid (fun W => kindOf_any f W hf2)
  have KS := Lib.hid (fun W => sizeOf_any f W hf2)
  have hs8 := sizeB_le f
  have e1 : decide ((k : Int) < 0) = false := decide_eq_false (by omega)
  have e2 : ¬ n < k := by omega
  have e3 : ((k : Int) == (n : Int)) = false := by rw [beq_eq_false_iff_ne]; omega
  rw [show kindB f = 0 by rw [h193]; rfl] at KK
  rw [show sizeB f = 0 by rw [h193]; rfl] at KS
  simp only [Int.natCast_zero] at KK KS
  clear hr hf hl h193 hb hs8
  go_enter Try.func9, Try.ntmps9
  go_wp2_with fail
  refine (KK.out _).mono ?_
  rintro x w1 ⟨rfl, rfl⟩
  go_wp2_with fail
  refine (KS.out _).mono ?_
  rintro x w2 ⟨rfl, rfl⟩
  go_wp2_with fail
  refine bodyPost_ret (results_tmp4 rfl _ _ _) rfl ?_
  exact ⟨by rw [E.out]; rfl, Below.refl _ _⟩

set_option maxHeartbeats 2000000 in
set_option maxRecDepth 100000 in
theorem getM_short1 (b o n cap k f : Nat) (l : List Nat) (w : World) (hl : l.length = n) (hn : n ≤ 1000000) (hc : n ≤ cap) (hk : k < n) (hf : l.getD k 0 = f) (hf2 : f < 256) (hb : ∀ x ∈ l, x < 256) (hr : RdV w (some ⟨b, o, none⟩) (bv l)) (h193 : f ≠ 193) (hm : kindB f = 11) (hg : n < k + 1 + sizeB f + 1) :
    Calls Try.prog 9 #[.slice (some ⟨b, o, none⟩) n cap, .int .i64 (k : Int)] w (GetM l (k : Int) w) := by
  have hmo : moreB f = 1 := by unfold moreB; rw [if_pos hm]
  have E := Lib.hid (show getM l (k : Int) = (0, 0, 0, 2) by rw [getM_in l k f (by omega) hf, if_neg h193, if_pos (by rw [hmo]; omega)])
  have c0 : w.cell? ⟨b, o + k, none⟩ = some (.int .u8 (f : Int)) := by rw [hr.at k (by rw [bv_len]; omega), bv_get l k (by omega), hf]
  have KK := Lib.hid (fun W => kindOf_any f W hf2)
  have KS := Lib.hid (fun W => sizeOf_any f W hf2)
  have hs8 := sizeB_le f
  have e1 : decide ((k : Int) < 0) = false := decide_eq_false (by omega)
  have e2 : ¬ n < k := by omega
  have e3 : ((k : Int) == (n : Int)) = false := by rw [beq_eq_false_iff_ne]; omega
  rw [hm] at KK
  rw [show ((11 : Nat) : Int) = 11 from rfl] at KK
  generalize sizeB f = S at *
  have e4 : (n : Int) < (k : Int) + 1 + (S : Int) + 1 := by omega
  clear hr hf hl h193 hb hm hmo
  go_enter Try.func9, Try.ntmps9
  go_wp2_with fail
  refine (KK.out _).mono ?_
  rintro x w1 ⟨rfl, rfl⟩
  go_wp2_with fail
  refine (KS.out _).mono ?_
  rintro x w2 ⟨rfl, rfl⟩
  go_wp2_with fail
  refine bodyPost_ret (results_tmp4 rfl _ _ _) rfl ?_
  exact ⟨by rw [E.out]; rfl, Below.refl _ _⟩

set_option maxHeartbeats 2000000 in
set_option maxRecDepth 100000 in
theorem getM_short0 (b o n cap k f : Nat) (l : List Nat) (w : World) (hl : l.length = n) (hn : n ≤ 1000000) (hc : n ≤ cap) (hk : k < n) (hf : l.getD k 0 = f) (hf2 : f < 256) (hb : ∀ x ∈ l, x < 256) (hr : RdV w (some ⟨b, o, none⟩) (bv l)) (h193 : f ≠ 193) (hm : kindB f ≠ 11) (hg : n < k + 1 + sizeB f + 0) :
    Calls Try.prog 9 #[.slice (some ⟨b, o, none⟩) n cap, .int .i64 (k : Int)] w (GetM l (k : Int) w) := by
  have hmo : moreB f = 0 := by unfold moreB; rw [if_neg hm]
  have E := Lib.hid (show getM l (k : Int) = (0, 0, 0, 2) by rw [getM_in l k f (by omega) hf, if_neg h193, if_pos (by rw [hmo]; omega)])
  have c0 : w.cell? ⟨b, o + k, none⟩ = some (.int .u8 (f : Int)) := by rw [hr.at k (by rw [bv_len]; omega), bv_get l k (by omega), hf]
  have KK := Lib.hid (fun W => kindOf_any f W hf2)
  have KS := Lib.hid (fun W => sizeOf_any f W hf2)
  have hs8 := sizeB_le f
  have e1 : decide ((k : Int) < 0) = false := decide_eq_false (by omega)
  have e2 : ¬ n < k := by omega
  have e3 : ((k : Int) == (n : Int)) = false := by rw [beq_eq_false_iff_ne]; omega
  have hk0 : kindB f ≠ 0 := fun h => h193 ((kindB_0 f hf2).1 h)
  generalize kindB f = kd at *
  have z1 : decide ((kd : Int) = 11) = false := decide_eq_false (by omega)
  have z2 : ((kd : Int) == 11) = false := by rw [beq_eq_false_iff_ne]; omega
  have z3 : decide ((kd : Int) = 0) = false := decide_eq_false (by omega)
  have z4 : ((kd : Int) == 0) = false := by rw [beq_eq_false_iff_ne]; omega
  generalize sizeB f = S at *
  have e4 : (n : Int) < (k : Int) + 1 + (S : Int) := by omega
  clear hr hf hl h193 hb hm hk0 hmo
  go_enter Try.func9, Try.ntmps9
  go_wp2_with fail
  refine (KK.out _).mono ?_
  rintro x w1 ⟨rfl, rfl⟩
  go_wp2_with fail
  refine (KS.out _).mono ?_
  rintro x w2 ⟨rfl, rfl⟩
  go_wp2_with fail
  refine bodyPost_ret (results_tmp4 rfl _ _ _) rfl ?_
  exact ⟨by rw [E.out]; rfl, Below.refl _ _⟩

set_option maxHeartbeats 2000000 in
set_option maxRecDepth 100000 in
theorem getM_none1 (b o n cap k f : Nat) (l : List Nat) (w : World) (hl : l.length = n) (hn : n ≤ 1000000) (hc : n ≤ cap) (hk : k < n) (hf : l.getD k 0 = f) (hf2 : f < 256) (hb : ∀ x ∈ l, x < 256) (hr : RdV w (some ⟨b, o, none⟩) (bv l)) (h193 : f ≠ 193) (hm : kindB f = 11) (hs : sizeB f = 0) (hg : ¬ n < k + 1 + 1) :
    Calls Try.prog 9 #[.slice (some ⟨b, o, none⟩) n cap, .int .i64 (k : Int)] w (GetM l (k : Int) w) := by
  have hmo : moreB f = 1 := by unfold moreB; rw [if_pos hm]
  have E := Lib.hid (show getM l (k : Int) = (kindB f, shortB f, k + 1 + 1, 0) by rw [getM_in l k f (by omega) hf, if_neg h193, if_neg (by rw [hmo, hs]; omega), if_pos hs, hs, hmo])
  have c0 : w.cell? ⟨b, o + k, none⟩ = some (.int .u8 (f : Int)) := by rw [hr.at k (by rw [bv_len]; omega), bv_get l k (by omega), hf]
  have KK := Lib.hid (fun W => kindOf_any f W hf2)
  have KS := Lib.hid (fun W => sizeOf_any f W hf2)
  have hs8 := sizeB_le f
  have e1 : decide ((k : Int) < 0) = false := decide_eq_false (by omega)
  have e2 : ¬ n < k := by omega
  have e3 : ((k : Int) == (n : Int)) = false := by rw [beq_eq_false_iff_ne]; omega
  rw [hs] at KS
  simp only [Int.natCast_zero] at KS
  have KN := Lib.hid (fun W => short_any f W hf2 h193 hs)
  generalize shortB f = V at *
  rw [hm] at KK E KN
  rw [show ((11 : Nat) : Int) = 11 from rfl] at KK KN
  have e4 : ¬ (n : Int) < (k : Int) + 1 + 1 := by omega
  clear hr hf hl h193 hb hm hmo hs
  go_enter Try.func9, Try.ntmps9
  go_wp2_with fail
  refine (KK.out _).mono ?_
  rintro x w1 ⟨rfl, rfl⟩
  go_wp2_with fail
  refine (KS.out _).mono ?_
  rintro x w2 ⟨rfl, rfl⟩
  go_wp2_with fail
  refine (KN.out _).mono ?_
  rintro x w3 ⟨rfl, rfl⟩
  go_wp2_with fail
  refine bodyPost_ret (results_tmp4 rfl _ _ _) rfl ?_
  exact ⟨by rw [E.out]; rfl, Below.refl _ _⟩

set_option maxHeartbeats 2000000 in
set_option maxRecDepth 100000 in
theorem getM_none0 (b o n cap k f : Nat) (l : List Nat) (w : World) (hl : l.length = n) (hn : n ≤ 1000000) (hc : n ≤ cap) (hk : k < n) (hf : l.getD k 0 = f) (hf2 : f < 256) (hb : ∀ x ∈ l, x < 256) (hr : RdV w (some ⟨b, o, none⟩) (bv l)) (h193 : f ≠ 193) (hm : kindB f ≠ 11) (hs : sizeB f = 0) (hg : ¬ n < k + 1 + 0) :
    Calls Try.prog 9 #[.slice (some ⟨b, o, none⟩) n cap, .int .i64 (k : Int)] w (GetM l (k : Int) w) := by
  have hmo : moreB f = 0 := by unfold moreB; rw [if_neg hm]
  have E := Lib.hid (show getM l (k : Int) = (kindB f, shortB f, k + 1 + 0, 0) by rw [getM_in l k f (by omega) hf, if_neg h193, if_neg (by rw [hmo, hs]; omega), if_pos hs, hs, hmo])
  have c0 : w.cell? ⟨b, o + k, none⟩ = some (.int .u8 (f : Int)) := by rw [hr.at k (by rw [bv_len]; omega), bv_get l k (by omega), hf]
  have KK := Lib.hid (fun W => kindOf_any f W hf2)
  have KS := Lib.hid (fun W => sizeOf_any f W hf2)
  have hs8 := sizeB_le f
  have e1 : decide ((k : Int) < 0) = false := decide_eq_false (by omega)
  have e2 : ¬ n < k := by omega
  have e3 : ((k : Int) == (n : Int)) = false := by rw [beq_eq_false_iff_ne]; omega
  rw [hs] at KS
  simp only [Int.natCast_zero] at KS
  have KN := Lib.hid (fun W => short_any f W hf2 h193 hs)
  generalize shortB f = V at *
  have hk0 : kindB f ≠ 0 := fun h => h193 ((kindB_0 f hf2).1 h)
  generalize kindB f = kd at *
  have z1 : decide ((kd : Int) = 11) = false := decide_eq_false (by omega)
  have z2 : ((kd : Int) == 11) = false := by rw [beq_eq_false_iff_ne]; omega
  have z3 : decide ((kd : Int) = 0) = false := decide_eq_false (by omega)
  have z4 : ((kd : Int) == 0) = false := by rw [beq_eq_false_iff_ne]; omega
  have e4 : ¬ (n : Int) < (k : Int) + 1 := by omega
  clear hr hf hl h193 hb hm hk0 hmo hs
  go_enter Try.func9, Try.ntmps9
  go_wp2_with fail
  refine (KK.out _).mono ?_
  rintro x w1 ⟨rfl, rfl⟩
  go_wp2_with fail
  refine (KS.out _).mono ?_
  rintro x w2 ⟨rfl, rfl⟩
  go_wp2_with fail
  refine (KN.out _).mono ?_
  rintro x w3 ⟨rfl, rfl⟩
  go_wp2_with fail
  refine bodyPost_ret (results_tmp4 rfl _ _ _) rfl ?_
  exact ⟨by rw [E.out]; rfl, Below.refl _ _⟩

set_option maxHeartbeats 2000000 in
set_option maxRecDepth 100000 in
theorem getM_num1 (b o n cap k f : Nat) (l : List Nat) (w : World) (hl : l.length = n) (hn : n ≤ 1000000) (hc : n ≤ cap) (hk : k < n) (hf : l.getD k 0 = f) (hf2 : f < 256) (hb : ∀ x ∈ l, x < 256) (hr : RdV w (some ⟨b, o, none⟩) (bv l)) (h193 : f ≠ 193) (hm : kindB f = 11) (hs : sizeB f ≠ 0) (hg : ¬ n < k + 1 + sizeB f + 1) :
    Calls Try.prog 9 #[.slice (some ⟨b, o, none⟩) n cap, .int .i64 (k : Int)] w (GetM l (k : Int) w) := by
  have hmo : moreB f = 1 := by unfold moreB; rw [if_pos hm]
  have E := Lib.hid (show getM l (k : Int) = (kindB f, numB (kindB f) ((l.drop (k + 1)).take (sizeB f)), k + 1 + sizeB f + 1, 0) by rw [getM_in l k f (by omega) hf, if_neg h193, if_neg (by rw [hmo]; omega), if_neg hs, hmo])
  have c0 : w.cell? ⟨b, o + k, none⟩ = some (.int .u8 (f : Int)) := by rw [hr.at k (by rw [bv_len]; omega), bv_get l k (by omega), hf]
  have KK := Lib.hid (fun W => kindOf_any f W hf2)
  have KS := Lib.hid (fun W => sizeOf_any f W hf2)
  have hs8 := sizeB_le f
  have e1 : decide ((k : Int) < 0) = false := decide_eq_false (by omega)
  have e2 : ¬ n < k := by omega
  have e3 : ((k : Int) == (n : Int)) = false := by rw [beq_eq_false_iff_ne]; omega
  have h5 := sizeB_five f
  generalize sizeB f = S at *
  have KN := Lib.hid (fun W c ad (h : RdV W ad (bv ((l.drop (k + 1)).take S))) => numberM_any (kindB f) S ad c ((l.drop (k + 1)).take S) W (by rw [List.length_take, List.length_drop]; omega) (by omega) (fun x hx => hb x (List.mem_of_mem_drop (List.mem_of_mem_take hx))) h)
  have HR := Lib.hid hr
  generalize numB (kindB f) ((l.drop (k + 1)).take S) = V at E KN
  rw [hm] at KK E KN
  rw [show ((11 : Nat) : Int) = 11 from rfl] at KK KN
  have e4 : ¬ (n : Int) < (k : Int) + 1 + (S : Int) + 1 := by omega
  have e5 : decide ((S : Int) = 0) = false := decide_eq_false (by omega)
  have e6 : ((S : Int) == 0) = false := by rw [beq_eq_false_iff_ne]; omega
  have e7 : k + 1 ≤ k + 1 + S := by omega
  have e8 : k + 1 + S ≤ cap := by omega
  have hSp : 0 < S := by omega
  clear hr hf hl h193 hb hm hmo hs h5
  go_enter Try.func9, Try.ntmps9
  go_wp2_with fail
  refine (KK.out _).mono ?_
  rintro x w1 ⟨rfl, rfl⟩
  go_wp2_with fail
  refine (KS.out _).mono ?_
  rintro x w2 ⟨rfl, rfl⟩
  go_wp2_with fail
  refine (KN.out _ _ _ ?_).mono ?_
  · have h := (HR.out.drop (k + 1)).take S
    rw [bv_drop, bv_take] at h
    exact h
  rintro x w3 ⟨rfl, h2⟩
  have B2 := Lib.hid h2
  clear h2
  go_wp2_with fail
  refine bodyPost_ret (results_tmp4 rfl _ _ _) rfl ?_
  exact ⟨by rw [E.out]; rfl, B2.out⟩

set_option maxHeartbeats 2000000 in
set_option maxRecDepth 100000 in
theorem getM_num0 (b o n cap k f : Nat) (l : List Nat) (w : World) (hl : l.length = n) (hn : n ≤ 1000000) (hc : n ≤ cap) (hk : k < n) (hf : l.getD k 0 = f) (hf2 : f < 256) (hb : ∀ x ∈ l, x < 256) (hr : RdV w (some ⟨b, o, none⟩) (bv l)) (h193 : f ≠ 193) (hm : kindB f ≠ 11) (hs : sizeB f ≠ 0) (hg : ¬ n < k + 1 + sizeB f + 0) :
    Calls Try.prog 9 #[.slice (some ⟨b, o, none⟩) n cap, .int .i64 (k : Int)] w (GetM l (k : Int) w) := by
  have hmo : moreB f = 0 := by unfold moreB; rw [if_neg hm]
  have E := Lib.hid (show getM l (k : Int) = (kindB f, numB (kindB f) ((l.drop (k + 1)).take (sizeB f)), k + 1 + sizeB f + 0, 0) by rw [getM_in l k f (by omega) hf, if_neg h193, if_neg (by rw [hmo]; omega), if_neg hs, hmo])
  have c0 : w.cell? ⟨b, o + k, none⟩ = some (.int .u8 (f : Int)) := by rw [hr.at k (by rw [bv_len]; omega), bv_get l k (by omega), hf]
  have KK := Lib.hid (fun W => kindOf_any f W hf2)
  have KS := Lib.hid (fun W => sizeOf_any f W hf2)
  have hs8 := sizeB_le f
  have e1 : decide ((k : Int) < 0) = false := decide_eq_false (by omega)
  have e2 : ¬ n < k := by omega
  have e3 : ((k : Int) == (n : Int)) = false := by rw [beq_eq_false_iff_ne]; omega
  have h5 := sizeB_five f
  generalize sizeB f = S at *
  have KN := Lib.hid (fun W c ad (h : RdV W ad (bv ((l.drop (k + 1)).take S))) => numberM_any (kindB f) S ad c ((l.drop (k + 1)).take S) W (by rw [List.length_take, List.length_drop]; omega) (by omega) (fun x hx => hb x (List.mem_of_mem_drop (List.mem_of_mem_take hx))) h)
  have HR := Lib.hid hr
  generalize numB (kindB f) ((l.drop (k + 1)).take S) = V at E KN
  have hk0 : kindB f ≠ 0 := fun h => h193 ((kindB_0 f hf2).1 h)
  generalize kindB f = kd at *
  have z1 : decide ((kd : Int) = 11) = false := decide_eq_false (by omega)
  have z2 : ((kd : Int) == 11) = false := by rw [beq_eq_false_iff_ne]; omega
  have z3 : decide ((kd : Int) = 0) = false := decide_eq_false (by omega)
  have z4 : ((kd : Int) == 0) = false := by rw [beq_eq_false_iff_ne]; omega
  have e4 : ¬ (n : Int) < (k : Int) + 1 + (S : Int) := by omega
  have e5 : decide ((S : Int) = 0) = false := decide_eq_false (by omega)
  have e6 : ((S : Int) == 0) = false := by rw [beq_eq_false_iff_ne]; omega
  have e7 : k + 1 ≤ k + 1 + S := by omega
  have e8 : k + 1 + S ≤ cap := by omega
  have hSp : 0 < S := by omega
  clear hr hf hl h193 hb hm hk0 hmo hs h5
  go_enter Try.func9, Try.ntmps9
  go_wp2_with fail
  refine (KK.out _).mono ?_
  rintro x w1 ⟨rfl, rfl⟩
  go_wp2_with fail
  refine (KS.out _).mono ?_
  rintro x w2 ⟨rfl, rfl⟩
  go_wp2_with fail
  refine (KN.out _ _ _ ?_).mono ?_
  · have h := (HR.out.drop (k + 1)).take S
    rw [bv_drop, bv_take] at h
    exact h
  rintro x w3 ⟨rfl, h2⟩
  have B2 := Lib.hid h2
  clear h2
  go_wp2_with fail
  refine bodyPost_ret (results_tmp4 rfl _ _ _) rfl ?_
  exact ⟨by rw [E.out]; rfl, B2.out⟩

theorem getM_any (ad : Option Addr) (n cap : Nat) (l : List Nat) (k : Int) (w : World) (hl : l.length = n) (hn : n ≤ 1000000) (hc : n ≤ cap) (hb : ∀ x ∈ l, x < 256) (hr : RdV w ad (bv l)) (hk : -9223372036854775808 ≤ k ∧ k ≤ 9223372036854775807) :
    Calls Try.prog 9 #[.slice ad n cap, .int .i64 k] w (GetM l k w) := by
  by_cases h1 : k < 0 ∨ (n : Int) < k
  · exact getM_arg ad n cap l k w hl hn hk h1
  by_cases h2 : k = (n : Int)
  · subst h2; exact getM_end ad n cap l w hl hn
  obtain ⟨j, rfl⟩ : ∃ j : Nat, k = j := ⟨k.toNat, by omega⟩
  have hj : j < n := by omega
  obtain ⟨b, o, rfl, _⟩ := hr.shape (by rw [bv_len]; omega)
  have hf2 : l.getD j 0 < 256 := by
    rw [List.getD_eq_getElem?_getD, List.getElem?_eq_getElem (by omega)]
    exact hb _ (List.getElem_mem _)
  generalize hf : l.getD j 0 = f at hf2
  by_cases h193 : f = 193
  · exact getM_193 b o n cap j f l w hl hn hc hj hf hf2 hb hr h193
  by_cases hm : kindB f = 11
  · by_cases hg : n < j + 1 + sizeB f + 1
    · exact getM_short1 b o n cap j f l w hl hn hc hj hf hf2 hb hr h193 hm hg
    · by_cases hs : sizeB f = 0
      · exact getM_none1 b o n cap j f l w hl hn hc hj hf hf2 hb hr h193 hm hs (by omega)
      · exact getM_num1 b o n cap j f l w hl hn hc hj hf hf2 hb hr h193 hm hs hg
  · by_cases hg : n < j + 1 + sizeB f + 0
    · exact getM_short0 b o n cap j f l w hl hn hc hj hf hf2 hb hr h193 hm hg
    · by_cases hs : sizeB f = 0
      · exact getM_none0 b o n cap j f l w hl hn hc hj hf hf2 hb hr h193 hm hs (by omega)
      · exact getM_num0 b o n cap j f l w hl hn hc hj hf hf2 hb hr h193 hm hs hg
end Go.Proofs.Ytmnaccojekojkaa

