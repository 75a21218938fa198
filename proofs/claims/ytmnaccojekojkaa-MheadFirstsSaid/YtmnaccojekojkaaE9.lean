/- Chapter 11's own Get. -/
import Derived.Test.YtmnaccojekojkaaE8
namespace Go.Proofs.Ytmnaccojekojkaa
open Go.RowKit Go.Lib
set_option linter.unusedVariables false
set_option linter.unusedSimpArgs false
theorem numB_five (L : List Nat) (S : Nat) (hl : L.length = S + 1) (hb : ∀ x ∈ L, x < 256) : numB 5 L = if 128 * 256 ^ S ≤ natB L then 18446744073709551616 - 256 ^ (S + 1) + natB L else natB L := by
  match L, hl with
  | a :: t, hl =>
    have ht : t.length = S := by simpa using hl
    have h1 := natB_lt S t ht (fun x hx => hb x (by simp [hx]))
    have h2 : natB (a :: t) = a * 256 ^ S + natB t := by rw [natB_cons, ht]
    unfold numB
    rw [hl]
    by_cases h : 127 < a
    · have h3 : 128 * 256 ^ S ≤ a * 256 ^ S := Nat.mul_le_mul_right _ h
      rw [if_pos ⟨rfl, h⟩, if_pos (by omega)]
    · have h3 : a * 256 ^ S ≤ 127 * 256 ^ S := Nat.mul_le_mul_right _ (by omega)
      rw [if_neg (fun hh => h hh.2), if_neg (by omega)]

set_option maxHeartbeats 2000000 in
set_option maxRecDepth 100000 in
theorem refM_arg (ad : Option Addr) (n cap : Nat) (l : List Nat) (k : Int) (w : World) (hl : l.length = n) (hn : n ≤ 1000000) (hk : -9223372036854775808 ≤ k ∧ k ≤ 9223372036854775807) (h : k < 0 ∨ (n : Int) < k) :
    Calls Try.prog 10 #[.slice ad n cap, .int .i64 k] w (GetM l k w) := by
  have e : getM l k = (0, 0, 0, 1) := by unfold getM; rw [if_pos (by omega)]
  have E := Lib.hid e
  clear e hl
  rcases h with h | h
  · have e1 : decide (k < 0) = true := decide_eq_true h
    go_enter Try.func10, Try.ntmps10
    go_wp2_with fail
    refine bodyPost_ret (results_tmp4 rfl _ _ _) rfl ?_
    exact ⟨by rw [E.out]; rfl, Below.refl _ _⟩
  
  · have e1 : decide (k < 0) = false := decide_eq_false (by omega)
    have e2 : decide ((n : Int) < k) = true := decide_eq_true h
    go_enter Try.func10, Try.ntmps10
    go_wp2_with fail
    refine bodyPost_ret (results_tmp4 rfl _ _ _) rfl ?_
    exact ⟨by rw [E.out]; rfl, Below.refl _ _⟩
  
set_option maxHeartbeats 2000000 in
set_option maxRecDepth 100000 in
theorem refM_end (ad : Option Addr) (n cap : Nat) (l : List Nat) (w : World) (hl : l.length = n) (hn : n ≤ 1000000) :
    Calls Try.prog 10 #[.slice ad n cap, .int .i64 (n : Int)] w (GetM l (n : Int) w) := by
  have e : getM l (n : Int) = (0, 0, 0, 2) := by unfold getM; rw [if_neg (by omega), if_pos (by omega)]
  have E := Lib.hid e
  clear e hl
  have e1 : decide ((n : Int) < 0) = false := decide_eq_false (by omega)
  have e2 : decide ((n : Int) < (n : Int)) = false := decide_eq_false (by omega)
  go_enter Try.func10, Try.ntmps10
  go_wp2_with fail
  refine bodyPost_ret (results_tmp4 rfl _ _ _) rfl ?_
  exact ⟨by rw [E.out]; rfl, Below.refl _ _⟩

set_option maxHeartbeats 2000000 in
set_option maxRecDepth 100000 in
theorem refM_0 (b o n cap k f : Nat) (l : List Nat) (w : World) (hl : l.length = n) (hn : n ≤ 1000000) (hc : n ≤ cap) (hk : k < n) (hf : l.getD k 0 = f) (hf2 : f < 256) (hb : ∀ x ∈ l, x < 256) (hr : RdV w (some ⟨b, o, none⟩) (bv l)) (h0 : 0 ≤ f) (h1 : f < 128) :
    Calls Try.prog 10 #[.slice (some ⟨b, o, none⟩) n cap, .int .i64 (k : Int)] w (GetM l (k : Int) w) := by
  have hkd : kindB f = 4 := by unfold kindB; rw [if_pos (by omega)]
  have hsz : sizeB f = 0 := by unfold sizeB; rw [if_pos (by omega)]
  have hmo : moreB f = 0 := by unfold moreB; rw [hkd]; rfl
  have hsh : shortB f = f := by unfold shortB; rw [if_pos (by omega)]
  have E := Lib.hid (show getM l (k : Int) = (4, f, k + 1, 0) by rw [getM_in l k f (by omega) hf, if_neg (by omega), hsz, hmo, if_neg (by omega), if_pos rfl, hkd, hsh])
  have V := Lib.hid (show (f : Nat) < 18446744073709551616 by omega)
  have c0 : w.cell? ⟨b, o + k, none⟩ = some (.int .u8 (f : Int)) := by rw [hr.at k (by rw [bv_len]; omega), bv_get l k (by omega), hf]
  have e1 : decide ((k : Int) < 0) = false := decide_eq_false (by omega)
  have e2 : ¬ n < k := by omega
  have e3 : ((k : Int) == (n : Int)) = false := by rw [beq_eq_false_iff_ne]; omega
  have z128 : decide ((f : Int) < 128) = true := decide_eq_true (by omega)
  have HF : (((f : Nat)) : Int) = (f : Int) := by omega
  have HF := Lib.hid HF
  have HB := Lib.hid (show 0 ≤ f ∧ f < 128 from ⟨h0, h1⟩)
  clear hr hf hl hb h0 h1 hkd hsz hmo hsh
  go_enter Try.func10, Try.ntmps10
  go_wp2_with fail
  refine bodyPost_ret (results_tmp4 rfl _ _ _) rfl ?_
  refine ⟨?_, Below.refl _ _⟩
  rw [E.out]
  show _ = Ending.returned (Value.tuple #[_, .int .u64 _, _, _])
  have hff := HF.out; have hbb := HB.out
  first
  | rfl
  | (rw [hff]; rfl)
  | (refine congrArg (fun z => Ending.returned (Value.tuple #[.int .i64 4, .int .u64 z, .int .i64 ((k : Int) + 1), .int .i64 0])) (?_ : _ = (((f : Nat)) : Int)); rw [hff]; first | omega | (rw [IntKind.wrap_u64]; omega))

set_option maxHeartbeats 2000000 in
set_option maxRecDepth 100000 in
theorem refM_128 (b o n cap k f : Nat) (l : List Nat) (w : World) (hl : l.length = n) (hn : n ≤ 1000000) (hc : n ≤ cap) (hk : k < n) (hf : l.getD k 0 = f) (hf2 : f < 256) (hb : ∀ x ∈ l, x < 256) (hr : RdV w (some ⟨b, o, none⟩) (bv l)) (h0 : 128 ≤ f) (h1 : f < 144) :
    Calls Try.prog 10 #[.slice (some ⟨b, o, none⟩) n cap, .int .i64 (k : Int)] w (GetM l (k : Int) w) := by
  have hkd : kindB f = 10 := by unfold kindB; rw [if_neg (by omega), if_pos (by omega)]
  have hsz : sizeB f = 0 := by unfold sizeB; rw [if_pos (by omega)]
  have hmo : moreB f = 0 := by unfold moreB; rw [hkd]; rfl
  have hsh : shortB f = f - 128 := by unfold shortB; rw [if_neg (by omega), if_pos (by omega)]
  have E := Lib.hid (show getM l (k : Int) = (10, f - 128, k + 1, 0) by rw [getM_in l k f (by omega) hf, if_neg (by omega), hsz, hmo, if_neg (by omega), if_pos rfl, hkd, hsh])
  have V := Lib.hid (show (f - 128 : Nat) < 18446744073709551616 by omega)
  have c0 : w.cell? ⟨b, o + k, none⟩ = some (.int .u8 (f : Int)) := by rw [hr.at k (by rw [bv_len]; omega), bv_get l k (by omega), hf]
  have e1 : decide ((k : Int) < 0) = false := decide_eq_false (by omega)
  have e2 : ¬ n < k := by omega
  have e3 : ((k : Int) == (n : Int)) = false := by rw [beq_eq_false_iff_ne]; omega
  have z128 : decide ((f : Int) < 128) = false := decide_eq_false (by omega)
  have z144 : decide ((f : Int) < 144) = true := decide_eq_true (by omega)
  have HF : (((f - 128 : Nat)) : Int) = (f : Int) - 128 := by omega
  have HF := Lib.hid HF
  have HB := Lib.hid (show 128 ≤ f ∧ f < 144 from ⟨h0, h1⟩)
  clear hr hf hl hb h0 h1 hkd hsz hmo hsh
  go_enter Try.func10, Try.ntmps10
  go_wp2_with fail
  refine bodyPost_ret (results_tmp4 rfl _ _ _) rfl ?_
  refine ⟨?_, Below.refl _ _⟩
  rw [E.out]
  show _ = Ending.returned (Value.tuple #[_, .int .u64 _, _, _])
  have hff := HF.out; have hbb := HB.out
  first
  | rfl
  | (rw [hff]; rfl)
  | (refine congrArg (fun z => Ending.returned (Value.tuple #[.int .i64 10, .int .u64 z, .int .i64 ((k : Int) + 1), .int .i64 0])) (?_ : _ = (((f - 128 : Nat)) : Int)); rw [hff]; first | omega | (rw [IntKind.wrap_u64]; omega))

set_option maxHeartbeats 2000000 in
set_option maxRecDepth 100000 in
theorem refM_144 (b o n cap k f : Nat) (l : List Nat) (w : World) (hl : l.length = n) (hn : n ≤ 1000000) (hc : n ≤ cap) (hk : k < n) (hf : l.getD k 0 = f) (hf2 : f < 256) (hb : ∀ x ∈ l, x < 256) (hr : RdV w (some ⟨b, o, none⟩) (bv l)) (h0 : 144 ≤ f) (h1 : f < 160) :
    Calls Try.prog 10 #[.slice (some ⟨b, o, none⟩) n cap, .int .i64 (k : Int)] w (GetM l (k : Int) w) := by
  have hkd : kindB f = 9 := by unfold kindB; rw [if_neg (by omega), if_neg (by omega), if_pos (by omega)]
  have hsz : sizeB f = 0 := by unfold sizeB; rw [if_pos (by omega)]
  have hmo : moreB f = 0 := by unfold moreB; rw [hkd]; rfl
  have hsh : shortB f = f - 144 := by unfold shortB; rw [if_neg (by omega), if_neg (by omega), if_pos (by omega)]
  have E := Lib.hid (show getM l (k : Int) = (9, f - 144, k + 1, 0) by rw [getM_in l k f (by omega) hf, if_neg (by omega), hsz, hmo, if_neg (by omega), if_pos rfl, hkd, hsh])
  have V := Lib.hid (show (f - 144 : Nat) < 18446744073709551616 by omega)
  have c0 : w.cell? ⟨b, o + k, none⟩ = some (.int .u8 (f : Int)) := by rw [hr.at k (by rw [bv_len]; omega), bv_get l k (by omega), hf]
  have e1 : decide ((k : Int) < 0) = false := decide_eq_false (by omega)
  have e2 : ¬ n < k := by omega
  have e3 : ((k : Int) == (n : Int)) = false := by rw [beq_eq_false_iff_ne]; omega
  have z128 : decide ((f : Int) < 128) = false := decide_eq_false (by omega)
  have z144 : decide ((f : Int) < 144) = false := decide_eq_false (by omega)
  have z160 : decide ((f : Int) < 160) = true := decide_eq_true (by omega)
  have HF : (((f - 144 : Nat)) : Int) = (f : Int) - 144 := by omega
  have HF := Lib.hid HF
  have HB := Lib.hid (show 144 ≤ f ∧ f < 160 from ⟨h0, h1⟩)
  clear hr hf hl hb h0 h1 hkd hsz hmo hsh
  go_enter Try.func10, Try.ntmps10
  go_wp2_with fail
  refine bodyPost_ret (results_tmp4 rfl _ _ _) rfl ?_
  refine ⟨?_, Below.refl _ _⟩
  rw [E.out]
  show _ = Ending.returned (Value.tuple #[_, .int .u64 _, _, _])
  have hff := HF.out; have hbb := HB.out
  first
  | rfl
  | (rw [hff]; rfl)
  | (refine congrArg (fun z => Ending.returned (Value.tuple #[.int .i64 9, .int .u64 z, .int .i64 ((k : Int) + 1), .int .i64 0])) (?_ : _ = (((f - 144 : Nat)) : Int)); rw [hff]; first | omega | (rw [IntKind.wrap_u64]; omega))

set_option maxHeartbeats 2000000 in
set_option maxRecDepth 100000 in
theorem refM_160 (b o n cap k f : Nat) (l : List Nat) (w : World) (hl : l.length = n) (hn : n ≤ 1000000) (hc : n ≤ cap) (hk : k < n) (hf : l.getD k 0 = f) (hf2 : f < 256) (hb : ∀ x ∈ l, x < 256) (hr : RdV w (some ⟨b, o, none⟩) (bv l)) (h0 : 160 ≤ f) (h1 : f < 192) :
    Calls Try.prog 10 #[.slice (some ⟨b, o, none⟩) n cap, .int .i64 (k : Int)] w (GetM l (k : Int) w) := by
  have hkd : kindB f = 7 := by unfold kindB; rw [if_neg (by omega), if_neg (by omega), if_neg (by omega), if_pos (by omega)]
  have hsz : sizeB f = 0 := by unfold sizeB; rw [if_pos (by omega)]
  have hmo : moreB f = 0 := by unfold moreB; rw [hkd]; rfl
  have hsh : shortB f = f - 160 := by unfold shortB; rw [if_neg (by omega), if_neg (by omega), if_neg (by omega), if_pos (by omega)]
  have E := Lib.hid (show getM l (k : Int) = (7, f - 160, k + 1, 0) by rw [getM_in l k f (by omega) hf, if_neg (by omega), hsz, hmo, if_neg (by omega), if_pos rfl, hkd, hsh])
  have V := Lib.hid (show (f - 160 : Nat) < 18446744073709551616 by omega)
  have c0 : w.cell? ⟨b, o + k, none⟩ = some (.int .u8 (f : Int)) := by rw [hr.at k (by rw [bv_len]; omega), bv_get l k (by omega), hf]
  have e1 : decide ((k : Int) < 0) = false := decide_eq_false (by omega)
  have e2 : ¬ n < k := by omega
  have e3 : ((k : Int) == (n : Int)) = false := by rw [beq_eq_false_iff_ne]; omega
  have z128 : decide ((f : Int) < 128) = false := decide_eq_false (by omega)
  have z144 : decide ((f : Int) < 144) = false := decide_eq_false (by omega)
  have z160 : decide ((f : Int) < 160) = false := decide_eq_false (by omega)
  have z192 : decide ((f : Int) < 192) = true := decide_eq_true (by omega)
  have HF : (((f - 160 : Nat)) : Int) = (f : Int) - 160 := by omega
  have HF := Lib.hid HF
  have HB := Lib.hid (show 160 ≤ f ∧ f < 192 from ⟨h0, h1⟩)
  clear hr hf hl hb h0 h1 hkd hsz hmo hsh
  go_enter Try.func10, Try.ntmps10
  go_wp2_with fail
  refine bodyPost_ret (results_tmp4 rfl _ _ _) rfl ?_
  refine ⟨?_, Below.refl _ _⟩
  rw [E.out]
  show _ = Ending.returned (Value.tuple #[_, .int .u64 _, _, _])
  have hff := HF.out; have hbb := HB.out
  first
  | rfl
  | (rw [hff]; rfl)
  | (refine congrArg (fun z => Ending.returned (Value.tuple #[.int .i64 7, .int .u64 z, .int .i64 ((k : Int) + 1), .int .i64 0])) (?_ : _ = (((f - 160 : Nat)) : Int)); rw [hff]; first | omega | (rw [IntKind.wrap_u64]; omega))

set_option maxHeartbeats 2000000 in
set_option maxRecDepth 100000 in
theorem refM_224 (b o n cap k f : Nat) (l : List Nat) (w : World) (hl : l.length = n) (hn : n ≤ 1000000) (hc : n ≤ cap) (hk : k < n) (hf : l.getD k 0 = f) (hf2 : f < 256) (hb : ∀ x ∈ l, x < 256) (hr : RdV w (some ⟨b, o, none⟩) (bv l)) (h0 : 224 ≤ f) (h1 : f < 256) :
    Calls Try.prog 10 #[.slice (some ⟨b, o, none⟩) n cap, .int .i64 (k : Int)] w (GetM l (k : Int) w) := by
  have hkd : kindB f = 5 := by unfold kindB; rw [if_neg (by omega), if_neg (by omega), if_neg (by omega), if_neg (by omega), if_pos (by omega)]
  have hsz : sizeB f = 0 := by unfold sizeB; rw [if_pos (by omega)]
  have hmo : moreB f = 0 := by unfold moreB; rw [hkd]; rfl
  have hsh : shortB f = 18446744073709551360 + f := by unfold shortB; rw [if_neg (by omega), if_neg (by omega), if_neg (by omega), if_neg (by omega), if_pos (by omega)]
  have E := Lib.hid (show getM l (k : Int) = (5, 18446744073709551360 + f, k + 1, 0) by rw [getM_in l k f (by omega) hf, if_neg (by omega), hsz, hmo, if_neg (by omega), if_pos rfl, hkd, hsh])
  have V := Lib.hid (show (18446744073709551360 + f : Nat) < 18446744073709551616 by omega)
  have c0 : w.cell? ⟨b, o + k, none⟩ = some (.int .u8 (f : Int)) := by rw [hr.at k (by rw [bv_len]; omega), bv_get l k (by omega), hf]
  have e1 : decide ((k : Int) < 0) = false := decide_eq_false (by omega)
  have e2 : ¬ n < k := by omega
  have e3 : ((k : Int) == (n : Int)) = false := by rw [beq_eq_false_iff_ne]; omega
  have z128 : decide ((f : Int) < 128) = false := decide_eq_false (by omega)
  have z144 : decide ((f : Int) < 144) = false := decide_eq_false (by omega)
  have z160 : decide ((f : Int) < 160) = false := decide_eq_false (by omega)
  have z192 : decide ((f : Int) < 192) = false := decide_eq_false (by omega)
  have z224 : decide ((224 : Int) ≤ (f : Int)) = true := decide_eq_true (by omega)
  have HF : (((18446744073709551360 + f : Nat)) : Int) = 18446744073709551360 + (f : Int) := by omega
  have HF := Lib.hid HF
  have HB := Lib.hid (show 224 ≤ f ∧ f < 256 from ⟨h0, h1⟩)
  clear hr hf hl hb h0 h1 hkd hsz hmo hsh
  go_enter Try.func10, Try.ntmps10
  go_wp2_with fail
  refine bodyPost_ret (results_tmp4 rfl _ _ _) rfl ?_
  refine ⟨?_, Below.refl _ _⟩
  rw [E.out]
  show _ = Ending.returned (Value.tuple #[_, .int .u64 _, _, _])
  have hff := HF.out; have hbb := HB.out
  first
  | rfl
  | (rw [hff]; rfl)
  | (refine congrArg (fun z => Ending.returned (Value.tuple #[.int .i64 5, .int .u64 z, .int .i64 ((k : Int) + 1), .int .i64 0])) (?_ : _ = (((18446744073709551360 + f : Nat)) : Int)); rw [hff]; first | omega | (rw [IntKind.wrap_u64]; omega))

set_option maxHeartbeats 2000000 in
set_option maxRecDepth 100000 in
theorem refM_193 (b o n cap k f : Nat) (l : List Nat) (w : World) (hl : l.length = n) (hn : n ≤ 1000000) (hc : n ≤ cap) (hk : k < n) (hf : l.getD k 0 = f) (hf2 : f < 256) (hb : ∀ x ∈ l, x < 256) (hr : RdV w (some ⟨b, o, none⟩) (bv l)) (h193 : f = 193) :
    Calls Try.prog 10 #[.slice (some ⟨b, o, none⟩) n cap, .int .i64 (k : Int)] w (GetM l (k : Int) w) := by
  have E := Lib.hid (show getM l (k : Int) = (0, 0, 0, 3) by rw [getM_in l k f (by omega) hf, if_pos h193])
  have c0 : w.cell? ⟨b, o + k, none⟩ = some (.int .u8 (f : Int)) := by rw [hr.at k (by rw [bv_len]; omega), bv_get l k (by omega), hf]
  have e1 : decide ((k : Int) < 0) = false := decide_eq_false (by omega)
  have e2 : ¬ n < k := by omega
  have e3 : ((k : Int) == (n : Int)) = false := by rw [beq_eq_false_iff_ne]; omega
  subst h193
  clear hr hf hl hb
  go_enter Try.func10, Try.ntmps10
  go_wp2_with fail
  refine bodyPost_ret (results_tmp4 rfl _ _ _) rfl ?_
  exact ⟨by rw [E.out]; rfl, Below.refl _ _⟩

theorem row_f (f : Nat) (w : World) (h0 : 192 ≤ f) (h1 : f < 224) : Calls Try.prog 24 #[.int .i64 (f : Int)] w fun e w' => e = .returned (.tuple #[.int .i64 ((kindB f : Nat) : Int), .int .i64 ((sizeB f : Nat) : Int), .int .i64 ((moreB f : Nat) : Int)]) ∧ Below w.heap.size w w' := by
  obtain ⟨j, rfl, hj⟩ := f32 f h0 h1
  have := row_any j ((192 + j : Nat) : Int) w hj (by omega)
  exact this

set_option maxHeartbeats 2000000 in
set_option maxRecDepth 100000 in
theorem refM_short (b o n cap k f : Nat) (l : List Nat) (w : World) (hl : l.length = n) (hn : n ≤ 1000000) (hc : n ≤ cap) (hk : k < n) (hf : l.getD k 0 = f) (hf2 : f < 256) (hb : ∀ x ∈ l, x < 256) (hr : RdV w (some ⟨b, o, none⟩) (bv l)) (h0 : 192 ≤ f) (h1 : f < 224) (h193 : f ≠ 193) (hg : n < k + 1 + sizeB f + moreB f) :
    Calls Try.prog 10 #[.slice (some ⟨b, o, none⟩) n cap, .int .i64 (k : Int)] w (GetM l (k : Int) w) := by
  have E := Lib.hid (show getM l (k : Int) = (0, 0, 0, 2) by rw [getM_in l k f (by omega) hf, if_neg h193, if_pos (by omega)])
  have KR := Lib.hid (fun W => row_f f W h0 h1)
  have hs8 := sizeB_le f
  have hm1 : moreB f ≤ 1 := by unfold moreB; split <;> omega
  have c0 : w.cell? ⟨b, o + k, none⟩ = some (.int .u8 (f : Int)) := by rw [hr.at k (by rw [bv_len]; omega), bv_get l k (by omega), hf]
  have e1 : decide ((k : Int) < 0) = false := decide_eq_false (by omega)
  have e2 : ¬ n < k := by omega
  have e3 : ((k : Int) == (n : Int)) = false := by rw [beq_eq_false_iff_ne]; omega
  have z128 : decide ((f : Int) < 128) = false := decide_eq_false (by omega)
  have z144 : decide ((f : Int) < 144) = false := decide_eq_false (by omega)
  have z160 : decide ((f : Int) < 160) = false := decide_eq_false (by omega)
  have z192 : decide ((f : Int) < 192) = false := decide_eq_false (by omega)
  have z224 : decide ((224 : Int) ≤ (f : Int)) = false := decide_eq_false (by omega)
  have z193 : decide ((f : Int) = 193) = false := decide_eq_false (by omega)
  have y193 : ((f : Int) == 193) = false := by rw [beq_eq_false_iff_ne]; omega
  generalize kindB f = kd at *
  generalize sizeB f = S at *
  generalize moreB f = mo at *
  have e4 : (n : Int) - (k : Int) - 1 < (S : Int) + (mo : Int) := by omega
  clear hr hf hl hb h0 h1 h193 hg
  go_enter Try.func10, Try.ntmps10
  go_wp2_with fail
  refine (KR.out _).mono ?_
  rintro x w2 ⟨rfl, hb2⟩
  have HB2 := Lib.hid hb2
  clear hb2
  go_wp2_with fail
  refine bodyPost_ret (results_tmp4 rfl _ _ _) rfl ?_
  exact ⟨by rw [E.out]; rfl, HB2.out⟩

set_option maxHeartbeats 2000000 in
set_option maxRecDepth 100000 in
theorem refM_plain (b o n cap k f : Nat) (l : List Nat) (w : World) (hl : l.length = n) (hn : n ≤ 1000000) (hc : n ≤ cap) (hk : k < n) (hf : l.getD k 0 = f) (hf2 : f < 256) (hb : ∀ x ∈ l, x < 256) (hr : RdV w (some ⟨b, o, none⟩) (bv l)) (h0 : 192 ≤ f) (h1 : f < 224) (h193 : f ≠ 193) (h5 : kindB f ≠ 5) (h11 : kindB f ≠ 11) (hg : ¬ n < k + 1 + sizeB f + moreB f) :
    Calls Try.prog 10 #[.slice (some ⟨b, o, none⟩) n cap, .int .i64 (k : Int)] w (GetM l (k : Int) w) := by
  have hmo : moreB f = 0 := by unfold moreB; rw [if_neg h11]
  have hsh : sizeB f = 0 → shortB f = 0 := fun hs => by
    unfold shortB
    have : ¬ (212 ≤ f ∧ f ≤ 216) := fun ⟨a, b⟩ => by
      have : f = 212 ∨ f = 213 ∨ f = 214 ∨ f = 215 ∨ f = 216 := by omega
      rcases this with rfl | rfl | rfl | rfl | rfl <;> exact h11 rfl
    rw [if_neg (by omega), if_neg (by omega), if_neg (by omega), if_neg (by omega), if_neg (by omega), if_neg this]
  have E := Lib.hid (show getM l (k : Int) = (kindB f, natB ((l.drop (k + 1)).take (sizeB f)), k + 1 + sizeB f, 0) by
    rw [getM_in l k f (by omega) hf, if_neg h193, if_neg (by omega), hmo]
    by_cases hs : sizeB f = 0
    · rw [if_pos hs, hsh hs, hs]; rfl
    · rw [if_neg hs]; unfold numB; rw [if_neg (fun h => h5 h.1)]; rfl)
  have KR := Lib.hid (fun W => row_f f W h0 h1)
  rw [hmo] at KR
  simp only [Int.natCast_zero] at KR
  have hs8 := sizeB_le f
  have c0 : w.cell? ⟨b, o + k, none⟩ = some (.int .u8 (f : Int)) := by rw [hr.at k (by rw [bv_len]; omega), bv_get l k (by omega), hf]
  have e1 : decide ((k : Int) < 0) = false := decide_eq_false (by omega)
  have e2 : ¬ n < k := by omega
  have e3 : ((k : Int) == (n : Int)) = false := by rw [beq_eq_false_iff_ne]; omega
  have z128 : decide ((f : Int) < 128) = false := decide_eq_false (by omega)
  have z144 : decide ((f : Int) < 144) = false := decide_eq_false (by omega)
  have z160 : decide ((f : Int) < 160) = false := decide_eq_false (by omega)
  have z192 : decide ((f : Int) < 192) = false := decide_eq_false (by omega)
  have z224 : decide ((224 : Int) ≤ (f : Int)) = false := decide_eq_false (by omega)
  have z193 : decide ((f : Int) = 193) = false := decide_eq_false (by omega)
  have y193 : ((f : Int) == 193) = false := by rw [beq_eq_false_iff_ne]; omega
  rw [hmo] at hg
  clear hsh hmo
  generalize kindB f = kd at *
  generalize sizeB f = S at *
  have hlen : ((l.drop (k + 1)).take S).length = S := by rw [List.length_take, List.length_drop]; omega
  have HM := Lib.hid (fun W (hW : Below w.heap.size w W) j (hj : j < S) => show (∃ x : Nat, x < 256 ∧ W.cell? ⟨b, o + (k + 1 + j), none⟩ = some (.int .u8 (x : Int)) ∧ natB (((l.drop (k + 1)).take S).take (j + 1)) = natB (((l.drop (k + 1)).take S).take j) * 256 + x ∧ natB (((l.drop (k + 1)).take S).take j) < 72057594037927936) from by
    have hj2 : k + 1 + j < l.length := by omega
    refine ⟨l[k + 1 + j], hb _ (List.getElem_mem _), ?_, ?_, ?_⟩
    · rw [(hr.on hW).at (k + 1 + j) (by rw [bv_len]; omega), bv_get l _ hj2]
      simp [List.getD, hj2]
    · rw [← natB_snoc]
      congr 1
      rw [List.take_add_one, List.getElem?_take, if_pos hj, List.getElem?_drop, List.getElem?_eq_getElem hj2]
      rfl
    · refine Nat.lt_of_lt_of_le (natB_lt j _ (by rw [List.length_take, hlen]; omega) (fun x hx => hb x (List.mem_of_mem_drop (List.mem_of_mem_take (List.mem_of_mem_take hx))))) (pow7 (by omega)))
  have HT := Lib.hid (show natB (((l.drop (k + 1)).take S).take S) = natB ((l.drop (k + 1)).take S) by rw [List.take_of_length_le (by omega)])
  have H0 := Lib.hid (show natB (((l.drop (k + 1)).take S).take 0) = 0 by rfl)
  have HLT := Lib.hid (show natB ((l.drop (k + 1)).take S) < 256 ^ S from natB_lt S _ hlen (fun x hx => hb x (List.mem_of_mem_drop (List.mem_of_mem_take hx))))
  generalize natB ((l.drop (k + 1)).take S) = V at E HT HLT
  generalize hNB : (fun j => natB (((l.drop (k + 1)).take S).take j)) = NB
  have HNB := Lib.hid (show ∀ j, natB (((l.drop (k + 1)).take S).take j) = NB j from fun j => by rw [← hNB])
  simp only [HNB.out] at HM HT H0
  clear hNB HNB
  have e4 : ¬ (n : Int) - (k : Int) - 1 < (S : Int) := by omega
  have z5 : decide ((kd : Int) = 5) = false := decide_eq_false (by omega)
  have y5 : ((kd : Int) == 5) = false := by rw [beq_eq_false_iff_ne]; omega
  have z11 : decide ((kd : Int) = 11) = false := decide_eq_false (by omega)
  have y11 : ((kd : Int) == 11) = false := by rw [beq_eq_false_iff_ne]; omega
  clear hr hf hl hb h0 h1 h193 h5 h11 hlen
  go_enter Try.func10, Try.ntmps10
  go_wp2_with fail
  refine (KR.out _).mono ?_
  rintro x w2 ⟨rfl, hb2⟩
  have HB2 := Lib.hid hb2
  clear hb2
  go_wp2_with fail
  go_loopw [12, 13] (fun v i wr => ∃ j q : Nat, j ≤ S ∧ i = .int .i64 (j : Int) ∧ v = .int .u64 ((NB j : Nat) : Int) ∧ wr = w2.drewN q) (fun _ i _ => S - (intOf i).toNat)
  case atStart => exact ⟨0, 0, by omega, rfl, by rw [H0.out]; rfl, rfl⟩
  case round =>
    obtain ⟨j, q, hj, rfl, rfl, rfl⟩ := hrel
    by_cases hlt : j < S
    · obtain ⟨x, hx, hcx, hnx, hvx⟩ := HM.out _ HB2.out j hlt
      have HNX := Lib.hid hnx
      clear hnx
      have h1 : (j : Int) < (S : Int) := by omega
      generalize NB j = Vj at *
      go_wp2
      go_roundw
      case rel => exact ⟨j + 1, _, by omega, by go_num, by rw [HNX.out]; go_num, rfl⟩
      case measure => simp [intOf]; omega
    · obtain rfl : j = S := by omega
      rw [HT.out]
      go_wp2
      refine bodyPost_ret (results_tmp4 rfl _ _ _) rfl ?_
      exact ⟨by rw [E.out]; rfl, below_drewN HB2.out _⟩

set_option maxHeartbeats 2000000 in
set_option maxRecDepth 100000 in
theorem refM_f199 (b o n cap k : Nat) (l : List Nat) (w : World) (hl : l.length = n) (hn : n ≤ 1000000) (hc : n ≤ cap) (hk : k < n) (hf : l.getD k 0 = 199) (hb : ∀ x ∈ l, x < 256) (hr : RdV w (some ⟨b, o, none⟩) (bv l)) (hg : ¬ n < k + 1 + 1 + 1) :
    Calls Try.prog 10 #[.slice (some ⟨b, o, none⟩) n cap, .int .i64 (k : Int)] w (GetM l (k : Int) w) := by
  have hlen : ((l.drop (k + 1)).take 1).length = 1 := by rw [List.length_take, List.length_drop]; omega
  have E := Lib.hid (show getM l (k : Int) = (11, natB ((l.drop (k + 1)).take 1), k + 1 + 1 + 1, 0) by
    rw [getM_in l k 199 (by omega) hf, if_neg (by decide), show sizeB 199 = 1 by rfl, show moreB 199 = 1 by rfl, if_neg (by omega), if_neg (by decide), show kindB 199 = 11 by rfl]; rfl)
  have KR := Lib.hid (fun W => show Calls Try.prog 24 #[.int .i64 199] W fun e w' => e = .returned (.tuple #[.int .i64 11, .int .i64 1, .int .i64 1]) ∧ Below W.heap.size W w' from row_f 199 W (by decide) (by decide))
  have c0 : w.cell? ⟨b, o + k, none⟩ = some (.int .u8 199) := by rw [hr.at k (by rw [bv_len]; omega), bv_get l k (by omega), hf]; rfl
  have e1 : decide ((k : Int) < 0) = false := decide_eq_false (by omega)
  have e2 : ¬ n < k := by omega
  have e3 : ((k : Int) == (n : Int)) = false := by rw [beq_eq_false_iff_ne]; omega
  have HM := Lib.hid (fun W (hW : Below w.heap.size w W) j (hj : j < 1) => show (∃ x : Nat, x < 256 ∧ W.cell? ⟨b, o + (k + 1 + j), none⟩ = some (.int .u8 (x : Int)) ∧ natB (((l.drop (k + 1)).take 1).take (j + 1)) = natB (((l.drop (k + 1)).take 1).take j) * 256 + x ∧ natB (((l.drop (k + 1)).take 1).take j) < 72057594037927936) from by
    have hj2 : k + 1 + j < l.length := by omega
    refine ⟨l[k + 1 + j], hb _ (List.getElem_mem _), ?_, ?_, ?_⟩
    · rw [(hr.on hW).at (k + 1 + j) (by rw [bv_len]; omega), bv_get l _ hj2]
      simp [List.getD, hj2]
    · rw [← natB_snoc]
      congr 1
      rw [List.take_add_one, List.getElem?_take, if_pos hj, List.getElem?_drop, List.getElem?_eq_getElem hj2]
      rfl
    · refine Nat.lt_of_lt_of_le (natB_lt j _ (by rw [List.length_take, hlen]; omega) (fun x hx => hb x (List.mem_of_mem_drop (List.mem_of_mem_take (List.mem_of_mem_take hx))))) (pow7 (by omega)))
  have HT := Lib.hid (show natB (((l.drop (k + 1)).take 1).take 1) = natB ((l.drop (k + 1)).take 1) by rw [List.take_of_length_le (by omega)])
  have H0 := Lib.hid (show natB (((l.drop (k + 1)).take 1).take 0) = 0 by rfl)
  have HLT := Lib.hid (show natB ((l.drop (k + 1)).take 1) < 256 ^ 1 from natB_lt 1 _ hlen (fun x hx => hb x (List.mem_of_mem_drop (List.mem_of_mem_take hx))))
  generalize natB ((l.drop (k + 1)).take 1) = V at E HT HLT
  generalize hNB : (fun j => natB (((l.drop (k + 1)).take 1).take j)) = NB
  have HNB := Lib.hid (show ∀ j, natB (((l.drop (k + 1)).take 1).take j) = NB j from fun j => by rw [← hNB])
  simp only [HNB.out] at HM HT H0
  clear hNB HNB
  have e4 : ¬ (n : Int) - (k : Int) - 1 < 2 := by omega
  clear hr hf hl hb hlen
  go_enter Try.func10, Try.ntmps10
  go_wp2_with fail
  refine (KR.out _).mono ?_
  rintro x w2 ⟨rfl, hb2⟩
  have HB2 := Lib.hid hb2
  clear hb2
  go_wp2_with fail
  go_loopw [12, 13] (fun v i wr => ∃ j q : Nat, j ≤ 1 ∧ i = .int .i64 (j : Int) ∧ v = .int .u64 ((NB j : Nat) : Int) ∧ wr = w2.drewN q) (fun _ i _ => 1 - (intOf i).toNat)
  case atStart => exact ⟨0, 0, by omega, rfl, by rw [H0.out]; rfl, rfl⟩
  case round =>
    obtain ⟨j, q, hj, rfl, rfl, rfl⟩ := hrel
    by_cases hlt : j < 1
    · obtain ⟨x, hx, hcx, hnx, hvx⟩ := HM.out _ HB2.out j hlt
      have HNX := Lib.hid hnx
      clear hnx
      have h1 : (j : Int) < 1 := by omega
      generalize NB j = Vj at *
      go_wp2
      go_roundw
      case rel => exact ⟨j + 1, _, by omega, by go_num, by rw [HNX.out]; go_num, rfl⟩
      case measure => simp [intOf]; omega
    · obtain rfl : j = 1 := by omega
      rw [HT.out]
      go_wp2
      refine bodyPost_ret (results_tmp4 rfl _ _ _) rfl ?_
      exact ⟨by rw [E.out]; rfl, below_drewN HB2.out _⟩

set_option maxHeartbeats 2000000 in
set_option maxRecDepth 100000 in
theorem refM_f200 (b o n cap k : Nat) (l : List Nat) (w : World) (hl : l.length = n) (hn : n ≤ 1000000) (hc : n ≤ cap) (hk : k < n) (hf : l.getD k 0 = 200) (hb : ∀ x ∈ l, x < 256) (hr : RdV w (some ⟨b, o, none⟩) (bv l)) (hg : ¬ n < k + 1 + 2 + 1) :
    Calls Try.prog 10 #[.slice (some ⟨b, o, none⟩) n cap, .int .i64 (k : Int)] w (GetM l (k : Int) w) := by
  have hlen : ((l.drop (k + 1)).take 2).length = 2 := by rw [List.length_take, List.length_drop]; omega
  have E := Lib.hid (show getM l (k : Int) = (11, natB ((l.drop (k + 1)).take 2), k + 1 + 2 + 1, 0) by
    rw [getM_in l k 200 (by omega) hf, if_neg (by decide), show sizeB 200 = 2 by rfl, show moreB 200 = 1 by rfl, if_neg (by omega), if_neg (by decide), show kindB 200 = 11 by rfl]; rfl)
  have KR := Lib.hid (fun W => show Calls Try.prog 24 #[.int .i64 200] W fun e w' => e = .returned (.tuple #[.int .i64 11, .int .i64 2, .int .i64 1]) ∧ Below W.heap.size W w' from row_f 200 W (by decide) (by decide))
  have c0 : w.cell? ⟨b, o + k, none⟩ = some (.int .u8 200) := by rw [hr.at k (by rw [bv_len]; omega), bv_get l k (by omega), hf]; rfl
  have e1 : decide ((k : Int) < 0) = false := decide_eq_false (by omega)
  have e2 : ¬ n < k := by omega
  have e3 : ((k : Int) == (n : Int)) = false := by rw [beq_eq_false_iff_ne]; omega
  have HM := Lib.hid (fun W (hW : Below w.heap.size w W) j (hj : j < 2) => show (∃ x : Nat, x < 256 ∧ W.cell? ⟨b, o + (k + 1 + j), none⟩ = some (.int .u8 (x : Int)) ∧ natB (((l.drop (k + 1)).take 2).take (j + 1)) = natB (((l.drop (k + 1)).take 2).take j) * 256 + x ∧ natB (((l.drop (k + 1)).take 2).take j) < 72057594037927936) from by
    have hj2 : k + 1 + j < l.length := by omega
    refine ⟨l[k + 1 + j], hb _ (List.getElem_mem _), ?_, ?_, ?_⟩
    · rw [(hr.on hW).at (k + 1 + j) (by rw [bv_len]; omega), bv_get l _ hj2]
      simp [List.getD, hj2]
    · rw [← natB_snoc]
      congr 1
      rw [List.take_add_one, List.getElem?_take, if_pos hj, List.getElem?_drop, List.getElem?_eq_getElem hj2]
      rfl
    · refine Nat.lt_of_lt_of_le (natB_lt j _ (by rw [List.length_take, hlen]; omega) (fun x hx => hb x (List.mem_of_mem_drop (List.mem_of_mem_take (List.mem_of_mem_take hx))))) (pow7 (by omega)))
  have HT := Lib.hid (show natB (((l.drop (k + 1)).take 2).take 2) = natB ((l.drop (k + 1)).take 2) by rw [List.take_of_length_le (by omega)])
  have H0 := Lib.hid (show natB (((l.drop (k + 1)).take 2).take 0) = 0 by rfl)
  have HLT := Lib.hid (show natB ((l.drop (k + 1)).take 2) < 256 ^ 2 from natB_lt 2 _ hlen (fun x hx => hb x (List.mem_of_mem_drop (List.mem_of_mem_take hx))))
  generalize natB ((l.drop (k + 1)).take 2) = V at E HT HLT
  generalize hNB : (fun j => natB (((l.drop (k + 1)).take 2).take j)) = NB
  have HNB := Lib.hid (show ∀ j, natB (((l.drop (k + 1)).take 2).take j) = NB j from fun j => by rw [← hNB])
  simp only [HNB.out] at HM HT H0
  clear hNB HNB
  have e4 : ¬ (n : Int) - (k : Int) - 1 < 3 := by omega
  clear hr hf hl hb hlen
  go_enter Try.func10, Try.ntmps10
  go_wp2_with fail
  refine (KR.out _).mono ?_
  rintro x w2 ⟨rfl, hb2⟩
  have HB2 := Lib.hid hb2
  clear hb2
  go_wp2_with fail
  go_loopw [12, 13] (fun v i wr => ∃ j q : Nat, j ≤ 2 ∧ i = .int .i64 (j : Int) ∧ v = .int .u64 ((NB j : Nat) : Int) ∧ wr = w2.drewN q) (fun _ i _ => 2 - (intOf i).toNat)
  case atStart => exact ⟨0, 0, by omega, rfl, by rw [H0.out]; rfl, rfl⟩
  case round =>
    obtain ⟨j, q, hj, rfl, rfl, rfl⟩ := hrel
    by_cases hlt : j < 2
    · obtain ⟨x, hx, hcx, hnx, hvx⟩ := HM.out _ HB2.out j hlt
      have HNX := Lib.hid hnx
      clear hnx
      have h1 : (j : Int) < 2 := by omega
      generalize NB j = Vj at *
      go_wp2
      go_roundw
      case rel => exact ⟨j + 1, _, by omega, by go_num, by rw [HNX.out]; go_num, rfl⟩
      case measure => simp [intOf]; omega
    · obtain rfl : j = 2 := by omega
      rw [HT.out]
      go_wp2
      refine bodyPost_ret (results_tmp4 rfl _ _ _) rfl ?_
      exact ⟨by rw [E.out]; rfl, below_drewN HB2.out _⟩

set_option maxHeartbeats 2000000 in
set_option maxRecDepth 100000 in
theorem refM_f201 (b o n cap k : Nat) (l : List Nat) (w : World) (hl : l.length = n) (hn : n ≤ 1000000) (hc : n ≤ cap) (hk : k < n) (hf : l.getD k 0 = 201) (hb : ∀ x ∈ l, x < 256) (hr : RdV w (some ⟨b, o, none⟩) (bv l)) (hg : ¬ n < k + 1 + 4 + 1) :
    Calls Try.prog 10 #[.slice (some ⟨b, o, none⟩) n cap, .int .i64 (k : Int)] w (GetM l (k : Int) w) := by
  have hlen : ((l.drop (k + 1)).take 4).length = 4 := by rw [List.length_take, List.length_drop]; omega
  have E := Lib.hid (show getM l (k : Int) = (11, natB ((l.drop (k + 1)).take 4), k + 1 + 4 + 1, 0) by
    rw [getM_in l k 201 (by omega) hf, if_neg (by decide), show sizeB 201 = 4 by rfl, show moreB 201 = 1 by rfl, if_neg (by omega), if_neg (by decide), show kindB 201 = 11 by rfl]; rfl)
  have KR := Lib.hid (fun W => show Calls Try.prog 24 #[.int .i64 201] W fun e w' => e = .returned (.tuple #[.int .i64 11, .int .i64 4, .int .i64 1]) ∧ Below W.heap.size W w' from row_f 201 W (by decide) (by decide))
  have c0 : w.cell? ⟨b, o + k, none⟩ = some (.int .u8 201) := by rw [hr.at k (by rw [bv_len]; omega), bv_get l k (by omega), hf]; rfl
  have e1 : decide ((k : Int) < 0) = false := decide_eq_false (by omega)
  have e2 : ¬ n < k := by omega
  have e3 : ((k : Int) == (n : Int)) = false := by rw [beq_eq_false_iff_ne]; omega
  have HM := Lib.hid (fun W (hW : Below w.heap.size w W) j (hj : j < 4) => show (∃ x : Nat, x < 256 ∧ W.cell? ⟨b, o + (k + 1 + j), none⟩ = some (.int .u8 (x : Int)) ∧ natB (((l.drop (k + 1)).take 4).take (j + 1)) = natB (((l.drop (k + 1)).take 4).take j) * 256 + x ∧ natB (((l.drop (k + 1)).take 4).take j) < 72057594037927936) from by
    have hj2 : k + 1 + j < l.length := by omega
    refine ⟨l[k + 1 + j], hb _ (List.getElem_mem _), ?_, ?_, ?_⟩
    · rw [(hr.on hW).at (k + 1 + j) (by rw [bv_len]; omega), bv_get l _ hj2]
      simp [List.getD, hj2]
    · rw [← natB_snoc]
      congr 1
      rw [List.take_add_one, List.getElem?_take, if_pos hj, List.getElem?_drop, List.getElem?_eq_getElem hj2]
      rfl
    · refine Nat.lt_of_lt_of_le (natB_lt j _ (by rw [List.length_take, hlen]; omega) (fun x hx => hb x (List.mem_of_mem_drop (List.mem_of_mem_take (List.mem_of_mem_take hx))))) (pow7 (by omega)))
  have HT := Lib.hid (show natB (((l.drop (k + 1)).take 4).take 4) = natB ((l.drop (k + 1)).take 4) by rw [List.take_of_length_le (by omega)])
  have H0 := Lib.hid (show natB (((l.drop (k + 1)).take 4).take 0) = 0 by rfl)
  have HLT := Lib.hid (show natB ((l.drop (k + 1)).take 4) < 256 ^ 4 from natB_lt 4 _ hlen (fun x hx => hb x (List.mem_of_mem_drop (List.mem_of_mem_take hx))))
  generalize natB ((l.drop (k + 1)).take 4) = V at E HT HLT
  generalize hNB : (fun j => natB (((l.drop (k + 1)).take 4).take j)) = NB
  have HNB := Lib.hid (show ∀ j, natB (((l.drop (k + 1)).take 4).take j) = NB j from fun j => by rw [← hNB])
  simp only [HNB.out] at HM HT H0
  clear hNB HNB
  have e4 : ¬ (n : Int) - (k : Int) - 1 < 5 := by omega
  clear hr hf hl hb hlen
  go_enter Try.func10, Try.ntmps10
  go_wp2_with fail
  refine (KR.out _).mono ?_
  rintro x w2 ⟨rfl, hb2⟩
  have HB2 := Lib.hid hb2
  clear hb2
  go_wp2_with fail
  go_loopw [12, 13] (fun v i wr => ∃ j q : Nat, j ≤ 4 ∧ i = .int .i64 (j : Int) ∧ v = .int .u64 ((NB j : Nat) : Int) ∧ wr = w2.drewN q) (fun _ i _ => 4 - (intOf i).toNat)
  case atStart => exact ⟨0, 0, by omega, rfl, by rw [H0.out]; rfl, rfl⟩
  case round =>
    obtain ⟨j, q, hj, rfl, rfl, rfl⟩ := hrel
    by_cases hlt : j < 4
    · obtain ⟨x, hx, hcx, hnx, hvx⟩ := HM.out _ HB2.out j hlt
      have HNX := Lib.hid hnx
      clear hnx
      have h1 : (j : Int) < 4 := by omega
      generalize NB j = Vj at *
      go_wp2
      go_roundw
      case rel => exact ⟨j + 1, _, by omega, by go_num, by rw [HNX.out]; go_num, rfl⟩
      case measure => simp [intOf]; omega
    · obtain rfl : j = 4 := by omega
      rw [HT.out]
      go_wp2
      refine bodyPost_ret (results_tmp4 rfl _ _ _) rfl ?_
      exact ⟨by rw [E.out]; rfl, below_drewN HB2.out _⟩

set_option maxHeartbeats 2000000 in
set_option maxRecDepth 100000 in
theorem refM_f208 (b o n cap k : Nat) (l : List Nat) (w : World) (hl : l.length = n) (hn : n ≤ 1000000) (hc : n ≤ cap) (hk : k < n) (hf : l.getD k 0 = 208) (hb : ∀ x ∈ l, x < 256) (hr : RdV w (some ⟨b, o, none⟩) (bv l)) (hg : ¬ n < k + 1 + 1 + 0) :
    Calls Try.prog 10 #[.slice (some ⟨b, o, none⟩) n cap, .int .i64 (k : Int)] w (GetM l (k : Int) w) := by
  have hlen : ((l.drop (k + 1)).take 1).length = 1 := by rw [List.length_take, List.length_drop]; omega
  have E := Lib.hid (show getM l (k : Int) = (5, (if 128 * 256 ^ 0 ≤ natB ((l.drop (k + 1)).take 1) then 18446744073709551616 - 256 ^ 1 + natB ((l.drop (k + 1)).take 1) else natB ((l.drop (k + 1)).take 1)), k + 1 + 1 + 0, 0) by
    rw [getM_in l k 208 (by omega) hf, if_neg (by decide), show sizeB 208 = 1 by rfl, show moreB 208 = 0 by rfl, if_neg (by omega), if_neg (by decide), show kindB 208 = 5 by rfl, numB_five _ 0 hlen (fun x hx => hb x (List.mem_of_mem_drop (List.mem_of_mem_take hx)))])
  have KR := Lib.hid (fun W => show Calls Try.prog 24 #[.int .i64 208] W fun e w' => e = .returned (.tuple #[.int .i64 5, .int .i64 1, .int .i64 0]) ∧ Below W.heap.size W w' from row_f 208 W (by decide) (by decide))
  have c0 : w.cell? ⟨b, o + k, none⟩ = some (.int .u8 208) := by rw [hr.at k (by rw [bv_len]; omega), bv_get l k (by omega), hf]; rfl
  have e1 : decide ((k : Int) < 0) = false := decide_eq_false (by omega)
  have e2 : ¬ n < k := by omega
  have e3 : ((k : Int) == (n : Int)) = false := by rw [beq_eq_false_iff_ne]; omega
  have HM := Lib.hid (fun W (hW : Below w.heap.size w W) j (hj : j < 1) => show (∃ x : Nat, x < 256 ∧ W.cell? ⟨b, o + (k + 1 + j), none⟩ = some (.int .u8 (x : Int)) ∧ natB (((l.drop (k + 1)).take 1).take (j + 1)) = natB (((l.drop (k + 1)).take 1).take j) * 256 + x ∧ natB (((l.drop (k + 1)).take 1).take j) < 72057594037927936) from by
    have hj2 : k + 1 + j < l.length := by omega
    refine ⟨l[k + 1 + j], hb _ (List.getElem_mem _), ?_, ?_, ?_⟩
    · rw [(hr.on hW).at (k + 1 + j) (by rw [bv_len]; omega), bv_get l _ hj2]
      simp [List.getD, hj2]
    · rw [← natB_snoc]
      congr 1
      rw [List.take_add_one, List.getElem?_take, if_pos hj, List.getElem?_drop, List.getElem?_eq_getElem hj2]
      rfl
    · refine Nat.lt_of_lt_of_le (natB_lt j _ (by rw [List.length_take, hlen]; omega) (fun x hx => hb x (List.mem_of_mem_drop (List.mem_of_mem_take (List.mem_of_mem_take hx))))) (pow7 (by omega)))
  have HT := Lib.hid (show natB (((l.drop (k + 1)).take 1).take 1) = natB ((l.drop (k + 1)).take 1) by rw [List.take_of_length_le (by omega)])
  have H0 := Lib.hid (show natB (((l.drop (k + 1)).take 1).take 0) = 0 by rfl)
  have HLT := Lib.hid (show natB ((l.drop (k + 1)).take 1) < 256 ^ 1 from natB_lt 1 _ hlen (fun x hx => hb x (List.mem_of_mem_drop (List.mem_of_mem_take hx))))
  generalize natB ((l.drop (k + 1)).take 1) = V at E HT HLT
  generalize hNB : (fun j => natB (((l.drop (k + 1)).take 1).take j)) = NB
  have HNB := Lib.hid (show ∀ j, natB (((l.drop (k + 1)).take 1).take j) = NB j from fun j => by rw [← hNB])
  simp only [HNB.out] at HM HT H0
  clear hNB HNB
  have e4 : ¬ (n : Int) - (k : Int) - 1 < 1 := by omega
  clear hr hf hl hb hlen
  go_enter Try.func10, Try.ntmps10
  go_wp2_with fail
  refine (KR.out _).mono ?_
  rintro x w2 ⟨rfl, hb2⟩
  have HB2 := Lib.hid hb2
  clear hb2
  go_wp2_with fail
  go_loopw [12, 13] (fun v i wr => ∃ j q : Nat, j ≤ 1 ∧ i = .int .i64 (j : Int) ∧ v = .int .u64 ((NB j : Nat) : Int) ∧ wr = w2.drewN q) (fun _ i _ => 1 - (intOf i).toNat)
  case atStart => exact ⟨0, 0, by omega, rfl, by rw [H0.out]; rfl, rfl⟩
  case round =>
    obtain ⟨j, q, hj, rfl, rfl, rfl⟩ := hrel
    by_cases hlt : j < 1
    · obtain ⟨x, hx, hcx, hnx, hvx⟩ := HM.out _ HB2.out j hlt
      have HNX := Lib.hid hnx
      clear hnx
      have h1 : (j : Int) < 1 := by omega
      generalize NB j = Vj at *
      go_wp2
      go_roundw
      case rel => exact ⟨j + 1, _, by omega, by go_num, by rw [HNX.out]; go_num, rfl⟩
      case measure => simp [intOf]; omega
    · obtain rfl : j = 1 := by omega
      rw [HT.out]
      go_wp2
      refine bodyPost_ret (results_tmp4 rfl _ _ _) rfl ?_
      have hv := HLT.out
      have he := E.out
      simp only [Nat.reducePow, Nat.reduceMul, Nat.reduceSub] at hv he
      refine ⟨?_, below_drewN HB2.out _⟩
      rw [he]
      refine congrArg (fun z => Ending.returned (Value.tuple #[.int .i64 5, .int .u64 z, .int .i64 ((k : Int) + 1 + 1), .int .i64 0])) (?_ : _ = (((if 128 ≤ V then 18446744073709551360 + V else V : Nat)) : Int))
      clear he E HLT HT HM H0
      simp only [wrap64, IntKind.wrap_u64]
      split <;> omega

set_option maxHeartbeats 2000000 in
set_option maxRecDepth 100000 in
theorem refM_f209 (b o n cap k : Nat) (l : List Nat) (w : World) (hl : l.length = n) (hn : n ≤ 1000000) (hc : n ≤ cap) (hk : k < n) (hf : l.getD k 0 = 209) (hb : ∀ x ∈ l, x < 256) (hr : RdV w (some ⟨b, o, none⟩) (bv l)) (hg : ¬ n < k + 1 + 2 + 0) :
    Calls Try.prog 10 #[.slice (some ⟨b, o, none⟩) n cap, .int .i64 (k : Int)] w (GetM l (k : Int) w) := by
  have hlen : ((l.drop (k + 1)).take 2).length = 2 := by rw [List.length_take, List.length_drop]; omega
  have E := Lib.hid (show getM l (k : Int) = (5, (if 128 * 256 ^ 1 ≤ natB ((l.drop (k + 1)).take 2) then 18446744073709551616 - 256 ^ 2 + natB ((l.drop (k + 1)).take 2) else natB ((l.drop (k + 1)).take 2)), k + 1 + 2 + 0, 0) by
    rw [getM_in l k 209 (by omega) hf, if_neg (by decide), show sizeB 209 = 2 by rfl, show moreB 209 = 0 by rfl, if_neg (by omega), if_neg (by decide), show kindB 209 = 5 by rfl, numB_five _ 1 hlen (fun x hx => hb x (List.mem_of_mem_drop (List.mem_of_mem_take hx)))])
  have KR := Lib.hid (fun W => show Calls Try.prog 24 #[.int .i64 209] W fun e w' => e = .returned (.tuple #[.int .i64 5, .int .i64 2, .int .i64 0]) ∧ Below W.heap.size W w' from row_f 209 W (by decide) (by decide))
  have c0 : w.cell? ⟨b, o + k, none⟩ = some (.int .u8 209) := by rw [hr.at k (by rw [bv_len]; omega), bv_get l k (by omega), hf]; rfl
  have e1 : decide ((k : Int) < 0) = false := decide_eq_false (by omega)
  have e2 : ¬ n < k := by omega
  have e3 : ((k : Int) == (n : Int)) = false := by rw [beq_eq_false_iff_ne]; omega
  have HM := Lib.hid (fun W (hW : Below w.heap.size w W) j (hj : j < 2) => show (∃ x : Nat, x < 256 ∧ W.cell? ⟨b, o + (k + 1 + j), none⟩ = some (.int .u8 (x : Int)) ∧ natB (((l.drop (k + 1)).take 2).take (j + 1)) = natB (((l.drop (k + 1)).take 2).take j) * 256 + x ∧ natB (((l.drop (k + 1)).take 2).take j) < 72057594037927936) from by
    have hj2 : k + 1 + j < l.length := by omega
    refine ⟨l[k + 1 + j], hb _ (List.getElem_mem _), ?_, ?_, ?_⟩
    · rw [(hr.on hW).at (k + 1 + j) (by rw [bv_len]; omega), bv_get l _ hj2]
      simp [List.getD, hj2]
    · rw [← natB_snoc]
      congr 1
      rw [List.take_add_one, List.getElem?_take, if_pos hj, List.getElem?_drop, List.getElem?_eq_getElem hj2]
      rfl
    · refine Nat.lt_of_lt_of_le (natB_lt j _ (by rw [List.length_take, hlen]; omega) (fun x hx => hb x (List.mem_of_mem_drop (List.mem_of_mem_take (List.mem_of_mem_take hx))))) (pow7 (by omega)))
  have HT := Lib.hid (show natB (((l.drop (k + 1)).take 2).take 2) = natB ((l.drop (k + 1)).take 2) by rw [List.take_of_length_le (by omega)])
  have H0 := Lib.hid (show natB (((l.drop (k + 1)).take 2).take 0) = 0 by rfl)
  have HLT := Lib.hid (show natB ((l.drop (k + 1)).take 2) < 256 ^ 2 from natB_lt 2 _ hlen (fun x hx => hb x (List.mem_of_mem_drop (List.mem_of_mem_take hx))))
  generalize natB ((l.drop (k + 1)).take 2) = V at E HT HLT
  generalize hNB : (fun j => natB (((l.drop (k + 1)).take 2).take j)) = NB
  have HNB := Lib.hid (show ∀ j, natB (((l.drop (k + 1)).take 2).take j) = NB j from fun j => by rw [← hNB])
  simp only [HNB.out] at HM HT H0
  clear hNB HNB
  have e4 : ¬ (n : Int) - (k : Int) - 1 < 2 := by omega
  clear hr hf hl hb hlen
  go_enter Try.func10, Try.ntmps10
  go_wp2_with fail
  refine (KR.out _).mono ?_
  rintro x w2 ⟨rfl, hb2⟩
  have HB2 := Lib.hid hb2
  clear hb2
  go_wp2_with fail
  go_loopw [12, 13] (fun v i wr => ∃ j q : Nat, j ≤ 2 ∧ i = .int .i64 (j : Int) ∧ v = .int .u64 ((NB j : Nat) : Int) ∧ wr = w2.drewN q) (fun _ i _ => 2 - (intOf i).toNat)
  case atStart => exact ⟨0, 0, by omega, rfl, by rw [H0.out]; rfl, rfl⟩
  case round =>
    obtain ⟨j, q, hj, rfl, rfl, rfl⟩ := hrel
    by_cases hlt : j < 2
    · obtain ⟨x, hx, hcx, hnx, hvx⟩ := HM.out _ HB2.out j hlt
      have HNX := Lib.hid hnx
      clear hnx
      have h1 : (j : Int) < 2 := by omega
      generalize NB j = Vj at *
      go_wp2
      go_roundw
      case rel => exact ⟨j + 1, _, by omega, by go_num, by rw [HNX.out]; go_num, rfl⟩
      case measure => simp [intOf]; omega
    · obtain rfl : j = 2 := by omega
      rw [HT.out]
      go_wp2
      refine bodyPost_ret (results_tmp4 rfl _ _ _) rfl ?_
      have hv := HLT.out
      have he := E.out
      simp only [Nat.reducePow, Nat.reduceMul, Nat.reduceSub] at hv he
      refine ⟨?_, below_drewN HB2.out _⟩
      rw [he]
      refine congrArg (fun z => Ending.returned (Value.tuple #[.int .i64 5, .int .u64 z, .int .i64 ((k : Int) + 1 + 2), .int .i64 0])) (?_ : _ = (((if 32768 ≤ V then 18446744073709486080 + V else V : Nat)) : Int))
      clear he E HLT HT HM H0
      simp only [wrap64, IntKind.wrap_u64]
      split <;> omega

set_option maxHeartbeats 2000000 in
set_option maxRecDepth 100000 in
theorem refM_f210 (b o n cap k : Nat) (l : List Nat) (w : World) (hl : l.length = n) (hn : n ≤ 1000000) (hc : n ≤ cap) (hk : k < n) (hf : l.getD k 0 = 210) (hb : ∀ x ∈ l, x < 256) (hr : RdV w (some ⟨b, o, none⟩) (bv l)) (hg : ¬ n < k + 1 + 4 + 0) :
    Calls Try.prog 10 #[.slice (some ⟨b, o, none⟩) n cap, .int .i64 (k : Int)] w (GetM l (k : Int) w) := by
  have hlen : ((l.drop (k + 1)).take 4).length = 4 := by rw [List.length_take, List.length_drop]; omega
  have E := Lib.hid (show getM l (k : Int) = (5, (if 128 * 256 ^ 3 ≤ natB ((l.drop (k + 1)).take 4) then 18446744073709551616 - 256 ^ 4 + natB ((l.drop (k + 1)).take 4) else natB ((l.drop (k + 1)).take 4)), k + 1 + 4 + 0, 0) by
    rw [getM_in l k 210 (by omega) hf, if_neg (by decide), show sizeB 210 = 4 by rfl, show moreB 210 = 0 by rfl, if_neg (by omega), if_neg (by decide), show kindB 210 = 5 by rfl, numB_five _ 3 hlen (fun x hx => hb x (List.mem_of_mem_drop (List.mem_of_mem_take hx)))])
  have KR := Lib.hid (fun W => show Calls Try.prog 24 #[.int .i64 210] W fun e w' => e = .returned (.tuple #[.int .i64 5, .int .i64 4, .int .i64 0]) ∧ Below W.heap.size W w' from row_f 210 W (by decide) (by decide))
  have c0 : w.cell? ⟨b, o + k, none⟩ = some (.int .u8 210) := by rw [hr.at k (by rw [bv_len]; omega), bv_get l k (by omega), hf]; rfl
  have e1 : decide ((k : Int) < 0) = false := decide_eq_false (by omega)
  have e2 : ¬ n < k := by omega
  have e3 : ((k : Int) == (n : Int)) = false := by rw [beq_eq_false_iff_ne]; omega
  have HM := Lib.hid (fun W (hW : Below w.heap.size w W) j (hj : j < 4) => show (∃ x : Nat, x < 256 ∧ W.cell? ⟨b, o + (k + 1 + j), none⟩ = some (.int .u8 (x : Int)) ∧ natB (((l.drop (k + 1)).take 4).take (j + 1)) = natB (((l.drop (k + 1)).take 4).take j) * 256 + x ∧ natB (((l.drop (k + 1)).take 4).take j) < 72057594037927936) from by
    have hj2 : k + 1 + j < l.length := by omega
    refine ⟨l[k + 1 + j], hb _ (List.getElem_mem _), ?_, ?_, ?_⟩
    · rw [(hr.on hW).at (k + 1 + j) (by rw [bv_len]; omega), bv_get l _ hj2]
      simp [List.getD, hj2]
    · rw [← natB_snoc]
      congr 1
      rw [List.take_add_one, List.getElem?_take, if_pos hj, List.getElem?_drop, List.getElem?_eq_getElem hj2]
      rfl
    · refine Nat.lt_of_lt_of_le (natB_lt j _ (by rw [List.length_take, hlen]; omega) (fun x hx => hb x (List.mem_of_mem_drop (List.mem_of_mem_take (List.mem_of_mem_take hx))))) (pow7 (by omega)))
  have HT := Lib.hid (show natB (((l.drop (k + 1)).take 4).take 4) = natB ((l.drop (k + 1)).take 4) by rw [List.take_of_length_le (by omega)])
  have H0 := Lib.hid (show natB (((l.drop (k + 1)).take 4).take 0) = 0 by rfl)
  have HLT := Lib.hid (show natB ((l.drop (k + 1)).take 4) < 256 ^ 4 from natB_lt 4 _ hlen (fun x hx => hb x (List.mem_of_mem_drop (List.mem_of_mem_take hx))))
  generalize natB ((l.drop (k + 1)).take 4) = V at E HT HLT
  generalize hNB : (fun j => natB (((l.drop (k + 1)).take 4).take j)) = NB
  have HNB := Lib.hid (show ∀ j, natB (((l.drop (k + 1)).take 4).take j) = NB j from fun j => by rw [← hNB])
  simp only [HNB.out] at HM HT H0
  clear hNB HNB
  have e4 : ¬ (n : Int) - (k : Int) - 1 < 4 := by omega
  clear hr hf hl hb hlen
  go_enter Try.func10, Try.ntmps10
  go_wp2_with fail
  refine (KR.out _).mono ?_
  rintro x w2 ⟨rfl, hb2⟩
  have HB2 := Lib.hid hb2
  clear hb2
  go_wp2_with fail
  go_loopw [12, 13] (fun v i wr => ∃ j q : Nat, j ≤ 4 ∧ i = .int .i64 (j : Int) ∧ v = .int .u64 ((NB j : Nat) : Int) ∧ wr = w2.drewN q) (fun _ i _ => 4 - (intOf i).toNat)
  case atStart => exact ⟨0, 0, by omega, rfl, by rw [H0.out]; rfl, rfl⟩
  case round =>
    obtain ⟨j, q, hj, rfl, rfl, rfl⟩ := hrel
    by_cases hlt : j < 4
    · obtain ⟨x, hx, hcx, hnx, hvx⟩ := HM.out _ HB2.out j hlt
      have HNX := Lib.hid hnx
      clear hnx
      have h1 : (j : Int) < 4 := by omega
      generalize NB j = Vj at *
      go_wp2
      go_roundw
      case rel => exact ⟨j + 1, _, by omega, by go_num, by rw [HNX.out]; go_num, rfl⟩
      case measure => simp [intOf]; omega
    · obtain rfl : j = 4 := by omega
      rw [HT.out]
      go_wp2
      refine bodyPost_ret (results_tmp4 rfl _ _ _) rfl ?_
      have hv := HLT.out
      have he := E.out
      simp only [Nat.reducePow, Nat.reduceMul, Nat.reduceSub] at hv he
      refine ⟨?_, below_drewN HB2.out _⟩
      rw [he]
      refine congrArg (fun z => Ending.returned (Value.tuple #[.int .i64 5, .int .u64 z, .int .i64 ((k : Int) + 1 + 4), .int .i64 0])) (?_ : _ = (((if 2147483648 ≤ V then 18446744069414584320 + V else V : Nat)) : Int))
      clear he E HLT HT HM H0
      simp only [wrap64, IntKind.wrap_u64]
      split <;> omega

set_option maxHeartbeats 2000000 in
set_option maxRecDepth 100000 in
theorem refM_f211 (b o n cap k : Nat) (l : List Nat) (w : World) (hl : l.length = n) (hn : n ≤ 1000000) (hc : n ≤ cap) (hk : k < n) (hf : l.getD k 0 = 211) (hb : ∀ x ∈ l, x < 256) (hr : RdV w (some ⟨b, o, none⟩) (bv l)) (hg : ¬ n < k + 1 + 8 + 0) :
    Calls Try.prog 10 #[.slice (some ⟨b, o, none⟩) n cap, .int .i64 (k : Int)] w (GetM l (k : Int) w) := by
  have hlen : ((l.drop (k + 1)).take 8).length = 8 := by rw [List.length_take, List.length_drop]; omega
  have E := Lib.hid (show getM l (k : Int) = (5, (if 128 * 256 ^ 7 ≤ natB ((l.drop (k + 1)).take 8) then 18446744073709551616 - 256 ^ 8 + natB ((l.drop (k + 1)).take 8) else natB ((l.drop (k + 1)).take 8)), k + 1 + 8 + 0, 0) by
    rw [getM_in l k 211 (by omega) hf, if_neg (by decide), show sizeB 211 = 8 by rfl, show moreB 211 = 0 by rfl, if_neg (by omega), if_neg (by decide), show kindB 211 = 5 by rfl, numB_five _ 7 hlen (fun x hx => hb x (List.mem_of_mem_drop (List.mem_of_mem_take hx)))])
  have KR := Lib.hid (fun W => show Calls Try.prog 24 #[.int .i64 211] W fun e w' => e = .returned (.tuple #[.int .i64 5, .int .i64 8, .int .i64 0]) ∧ Below W.heap.size W w' from row_f 211 W (by decide) (by decide))
  have c0 : w.cell? ⟨b, o + k, none⟩ = some (.int .u8 211) := by rw [hr.at k (by rw [bv_len]; omega), bv_get l k (by omega), hf]; rfl
  have e1 : decide ((k : Int) < 0) = false := decide_eq_false (by omega)
  have e2 : ¬ n < k := by omega
  have e3 : ((k : Int) == (n : Int)) = false := by rw [beq_eq_false_iff_ne]; omega
  have HM := Lib.hid (fun W (hW : Below w.heap.size w W) j (hj : j < 8) => show (∃ x : Nat, x < 256 ∧ W.cell? ⟨b, o + (k + 1 + j), none⟩ = some (.int .u8 (x : Int)) ∧ natB (((l.drop (k + 1)).take 8).take (j + 1)) = natB (((l.drop (k + 1)).take 8).take j) * 256 + x ∧ natB (((l.drop (k + 1)).take 8).take j) < 72057594037927936) from by
    have hj2 : k + 1 + j < l.length := by omega
    refine ⟨l[k + 1 + j], hb _ (List.getElem_mem _), ?_, ?_, ?_⟩
    · rw [(hr.on hW).at (k + 1 + j) (by rw [bv_len]; omega), bv_get l _ hj2]
      simp [List.getD, hj2]
    · rw [← natB_snoc]
      congr 1
      rw [List.take_add_one, List.getElem?_take, if_pos hj, List.getElem?_drop, List.getElem?_eq_getElem hj2]
      rfl
    · refine Nat.lt_of_lt_of_le (natB_lt j _ (by rw [List.length_take, hlen]; omega) (fun x hx => hb x (List.mem_of_mem_drop (List.mem_of_mem_take (List.mem_of_mem_take hx))))) (pow7 (by omega)))
  have HT := Lib.hid (show natB (((l.drop (k + 1)).take 8).take 8) = natB ((l.drop (k + 1)).take 8) by rw [List.take_of_length_le (by omega)])
  have H0 := Lib.hid (show natB (((l.drop (k + 1)).take 8).take 0) = 0 by rfl)
  have HLT := Lib.hid (show natB ((l.drop (k + 1)).take 8) < 256 ^ 8 from natB_lt 8 _ hlen (fun x hx => hb x (List.mem_of_mem_drop (List.mem_of_mem_take hx))))
  generalize natB ((l.drop (k + 1)).take 8) = V at E HT HLT
  generalize hNB : (fun j => natB (((l.drop (k + 1)).take 8).take j)) = NB
  have HNB := Lib.hid (show ∀ j, natB (((l.drop (k + 1)).take 8).take j) = NB j from fun j => by rw [← hNB])
  simp only [HNB.out] at HM HT H0
  clear hNB HNB
  have e4 : ¬ (n : Int) - (k : Int) - 1 < 8 := by omega
  clear hr hf hl hb hlen
  go_enter Try.func10, Try.ntmps10
  go_wp2_with fail
  refine (KR.out _).mono ?_
  rintro x w2 ⟨rfl, hb2⟩
  have HB2 := Lib.hid hb2
  clear hb2
  go_wp2_with fail
  go_loopw [12, 13] (fun v i wr => ∃ j q : Nat, j ≤ 8 ∧ i = .int .i64 (j : Int) ∧ v = .int .u64 ((NB j : Nat) : Int) ∧ wr = w2.drewN q) (fun _ i _ => 8 - (intOf i).toNat)
  case atStart => exact ⟨0, 0, by omega, rfl, by rw [H0.out]; rfl, rfl⟩
  case round =>
    obtain ⟨j, q, hj, rfl, rfl, rfl⟩ := hrel
    by_cases hlt : j < 8
    · obtain ⟨x, hx, hcx, hnx, hvx⟩ := HM.out _ HB2.out j hlt
      have HNX := Lib.hid hnx
      clear hnx
      have h1 : (j : Int) < 8 := by omega
      generalize NB j = Vj at *
      go_wp2
      go_roundw
      case rel => exact ⟨j + 1, _, by omega, by go_num, by rw [HNX.out]; go_num, rfl⟩
      case measure => simp [intOf]; omega
    · obtain rfl : j = 8 := by omega
      rw [HT.out]
      go_wp2
      refine bodyPost_ret (results_tmp4 rfl _ _ _) rfl ?_
      have hv := HLT.out
      have he := E.out
      simp only [Nat.reducePow, Nat.reduceMul, Nat.reduceSub] at hv he
      refine ⟨?_, below_drewN HB2.out _⟩
      rw [he]
      refine congrArg (fun z => Ending.returned (Value.tuple #[.int .i64 5, .int .u64 z, .int .i64 ((k : Int) + 1 + 8), .int .i64 0])) (?_ : _ = (((if 9223372036854775808 ≤ V then 0 + V else V : Nat)) : Int))
      clear he E HLT HT HM H0
      simp only [wrap64, IntKind.wrap_u64]
      split <;> omega

set_option maxHeartbeats 2000000 in
set_option maxRecDepth 100000 in
theorem refM_f212 (b o n cap k : Nat) (l : List Nat) (w : World) (hl : l.length = n) (hn : n ≤ 1000000) (hc : n ≤ cap) (hk : k < n) (hf : l.getD k 0 = 212) (hb : ∀ x ∈ l, x < 256) (hr : RdV w (some ⟨b, o, none⟩) (bv l)) (hg : ¬ n < k + 1 + 0 + 1) :
    Calls Try.prog 10 #[.slice (some ⟨b, o, none⟩) n cap, .int .i64 (k : Int)] w (GetM l (k : Int) w) := by
  have hlen : ((l.drop (k + 1)).take 0).length = 0 := by rw [List.length_take, List.length_drop]; omega
  have E := Lib.hid (show getM l (k : Int) = (11, 1, k + 1 + 0 + 1, 0) by
    rw [getM_in l k 212 (by omega) hf, if_neg (by decide), show sizeB 212 = 0 by rfl, show moreB 212 = 1 by rfl, if_neg (by omega), if_pos rfl, show kindB 212 = 11 by rfl, show shortB 212 = 1 by rfl])
  have KR := Lib.hid (fun W => show Calls Try.prog 24 #[.int .i64 212] W fun e w' => e = .returned (.tuple #[.int .i64 11, .int .i64 0, .int .i64 1]) ∧ Below W.heap.size W w' from row_f 212 W (by decide) (by decide))
  have c0 : w.cell? ⟨b, o + k, none⟩ = some (.int .u8 212) := by rw [hr.at k (by rw [bv_len]; omega), bv_get l k (by omega), hf]; rfl
  have e1 : decide ((k : Int) < 0) = false := decide_eq_false (by omega)
  have e2 : ¬ n < k := by omega
  have e3 : ((k : Int) == (n : Int)) = false := by rw [beq_eq_false_iff_ne]; omega
  have HM := Lib.hid (fun W (hW : Below w.heap.size w W) j (hj : j < 0) => show (∃ x : Nat, x < 256 ∧ W.cell? ⟨b, o + (k + 1 + j), none⟩ = some (.int .u8 (x : Int)) ∧ natB (((l.drop (k + 1)).take 0).take (j + 1)) = natB (((l.drop (k + 1)).take 0).take j) * 256 + x ∧ natB (((l.drop (k + 1)).take 0).take j) < 72057594037927936) from by
    have hj2 : k + 1 + j < l.length := by omega
    refine ⟨l[k + 1 + j], hb _ (List.getElem_mem _), ?_, ?_, ?_⟩
    · rw [(hr.on hW).at (k + 1 + j) (by rw [bv_len]; omega), bv_get l _ hj2]
      simp [List.getD, hj2]
    · rw [← natB_snoc]
      congr 1
      rw [List.take_add_one, List.getElem?_take, if_pos hj, List.getElem?_drop, List.getElem?_eq_getElem hj2]
      rfl
    · refine Nat.lt_of_lt_of_le (natB_lt j _ (by rw [List.length_take, hlen]; omega) (fun x hx => hb x (List.mem_of_mem_drop (List.mem_of_mem_take (List.mem_of_mem_take hx))))) (pow7 (by omega)))
  have HT := Lib.hid (show natB (((l.drop (k + 1)).take 0).take 0) = natB ((l.drop (k + 1)).take 0) by rw [List.take_of_length_le (by omega)])
  have H0 := Lib.hid (show natB (((l.drop (k + 1)).take 0).take 0) = 0 by rfl)
  have HLT := Lib.hid (show natB ((l.drop (k + 1)).take 0) < 256 ^ 0 from natB_lt 0 _ hlen (fun x hx => hb x (List.mem_of_mem_drop (List.mem_of_mem_take hx))))
  generalize natB ((l.drop (k + 1)).take 0) = V at HT HLT
  generalize hNB : (fun j => natB (((l.drop (k + 1)).take 0).take j)) = NB
  have HNB := Lib.hid (show ∀ j, natB (((l.drop (k + 1)).take 0).take j) = NB j from fun j => by rw [← hNB])
  simp only [HNB.out] at HM HT H0
  clear hNB HNB
  have e4 : ¬ (n : Int) - (k : Int) - 1 < 1 := by omega
  clear hr hf hl hb hlen
  go_enter Try.func10, Try.ntmps10
  go_wp2_with fail
  refine (KR.out _).mono ?_
  rintro x w2 ⟨rfl, hb2⟩
  have HB2 := Lib.hid hb2
  clear hb2
  go_wp2_with fail
  go_loopw [12, 13] (fun v i wr => ∃ j q : Nat, j ≤ 0 ∧ i = .int .i64 (j : Int) ∧ v = .int .u64 ((NB j : Nat) : Int) ∧ wr = w2.drewN q) (fun _ i _ => 0 - (intOf i).toNat)
  case atStart => exact ⟨0, 0, by omega, rfl, by rw [H0.out]; rfl, rfl⟩
  case round =>
    obtain ⟨j, q, hj, rfl, rfl, rfl⟩ := hrel
    by_cases hlt : j < 0
    · obtain ⟨x, hx, hcx, hnx, hvx⟩ := HM.out _ HB2.out j hlt
      have HNX := Lib.hid hnx
      clear hnx
      have h1 : (j : Int) < 0 := by omega
      generalize NB j = Vj at *
      go_wp2
      go_roundw
      case rel => exact ⟨j + 1, _, by omega, by go_num, by rw [HNX.out]; go_num, rfl⟩
      case measure => simp [intOf]; omega
    · obtain rfl : j = 0 := by omega
      rw [HT.out]
      go_wp2
      refine bodyPost_ret (results_tmp4 rfl _ _ _) rfl ?_
      exact ⟨by rw [E.out]; rfl, below_drewN HB2.out _⟩

set_option maxHeartbeats 2000000 in
set_option maxRecDepth 100000 in
theorem refM_f213 (b o n cap k : Nat) (l : List Nat) (w : World) (hl : l.length = n) (hn : n ≤ 1000000) (hc : n ≤ cap) (hk : k < n) (hf : l.getD k 0 = 213) (hb : ∀ x ∈ l, x < 256) (hr : RdV w (some ⟨b, o, none⟩) (bv l)) (hg : ¬ n < k + 1 + 0 + 1) :
    Calls Try.prog 10 #[.slice (some ⟨b, o, none⟩) n cap, .int .i64 (k : Int)] w (GetM l (k : Int) w) := by
  have hlen : ((l.drop (k + 1)).take 0).length = 0 := by rw [List.length_take, List.length_drop]; omega
  have E := Lib.hid (show getM l (k : Int) = (11, 2, k + 1 + 0 + 1, 0) by
    rw [getM_in l k 213 (by omega) hf, if_neg (by decide), show sizeB 213 = 0 by rfl, show moreB 213 = 1 by rfl, if_neg (by omega), if_pos rfl, show kindB 213 = 11 by rfl, show shortB 213 = 2 by rfl])
  have KR := Lib.hid (fun W => show Calls Try.prog 24 #[.int .i64 213] W fun e w' => e = .returned (.tuple #[.int .i64 11, .int .i64 0, .int .i64 1]) ∧ Below W.heap.size W w' from row_f 213 W (by decide) (by decide))
  have c0 : w.cell? ⟨b, o + k, none⟩ = some (.int .u8 213) := by rw [hr.at k (by rw [bv_len]; omega), bv_get l k (by omega), hf]; rfl
  have e1 : decide ((k : Int) < 0) = false := decide_eq_false (by omega)
  have e2 : ¬ n < k := by omega
  have e3 : ((k : Int) == (n : Int)) = false := by rw [beq_eq_false_iff_ne]; omega
  have HM := Lib.hid (fun W (hW : Below w.heap.size w W) j (hj : j < 0) => show (∃ x : Nat, x < 256 ∧ W.cell? ⟨b, o + (k + 1 + j), none⟩ = some (.int .u8 (x : Int)) ∧ natB (((l.drop (k + 1)).take 0).take (j + 1)) = natB (((l.drop (k + 1)).take 0).take j) * 256 + x ∧ natB (((l.drop (k + 1)).take 0).take j) < 72057594037927936) from by
    have hj2 : k + 1 + j < l.length := by omega
    refine ⟨l[k + 1 + j], hb _ (List.getElem_mem _), ?_, ?_, ?_⟩
    · rw [(hr.on hW).at (k + 1 + j) (by rw [bv_len]; omega), bv_get l _ hj2]
      simp [List.getD, hj2]
    · rw [← natB_snoc]
      congr 1
      rw [List.take_add_one, List.getElem?_take, if_pos hj, List.getElem?_drop, List.getElem?_eq_getElem hj2]
      rfl
    · refine Nat.lt_of_lt_of_le (natB_lt j _ (by rw [List.length_take, hlen]; omega) (fun x hx => hb x (List.mem_of_mem_drop (List.mem_of_mem_take (List.mem_of_mem_take hx))))) (pow7 (by omega)))
  have HT := Lib.hid (show natB (((l.drop (k + 1)).take 0).take 0) = natB ((l.drop (k + 1)).take 0) by rw [List.take_of_length_le (by omega)])
  have H0 := Lib.hid (show natB (((l.drop (k + 1)).take 0).take 0) = 0 by rfl)
  have HLT := Lib.hid (show natB ((l.drop (k + 1)).take 0) < 256 ^ 0 from natB_lt 0 _ hlen (fun x hx => hb x (List.mem_of_mem_drop (List.mem_of_mem_take hx))))
  generalize natB ((l.drop (k + 1)).take 0) = V at HT HLT
  generalize hNB : (fun j => natB (((l.drop (k + 1)).take 0).take j)) = NB
  have HNB := Lib.hid (show ∀ j, natB (((l.drop (k + 1)).take 0).take j) = NB j from fun j => by rw [← hNB])
  simp only [HNB.out] at HM HT H0
  clear hNB HNB
  have e4 : ¬ (n : Int) - (k : Int) - 1 < 1 := by omega
  clear hr hf hl hb hlen
  go_enter Try.func10, Try.ntmps10
  go_wp2_with fail
  refine (KR.out _).mono ?_
  rintro x w2 ⟨rfl, hb2⟩
  have HB2 := Lib.hid hb2
  clear hb2
  go_wp2_with fail
  go_loopw [12, 13] (fun v i wr => ∃ j q : Nat, j ≤ 0 ∧ i = .int .i64 (j : Int) ∧ v = .int .u64 ((NB j : Nat) : Int) ∧ wr = w2.drewN q) (fun _ i _ => 0 - (intOf i).toNat)
  case atStart => exact ⟨0, 0, by omega, rfl, by rw [H0.out]; rfl, rfl⟩
  case round =>
    obtain ⟨j, q, hj, rfl, rfl, rfl⟩ := hrel
    by_cases hlt : j < 0
    · obtain ⟨x, hx, hcx, hnx, hvx⟩ := HM.out _ HB2.out j hlt
      have HNX := Lib.hid hnx
      clear hnx
      have h1 : (j : Int) < 0 := by omega
      generalize NB j = Vj at *
      go_wp2
      go_roundw
      case rel => exact ⟨j + 1, _, by omega, by go_num, by rw [HNX.out]; go_num, rfl⟩
      case measure => simp [intOf]; omega
    · obtain rfl : j = 0 := by omega
      rw [HT.out]
      go_wp2
      refine bodyPost_ret (results_tmp4 rfl _ _ _) rfl ?_
      exact ⟨by rw [E.out]; rfl, below_drewN HB2.out _⟩

set_option maxHeartbeats 2000000 in
set_option maxRecDepth 100000 in
theorem refM_f214 (b o n cap k : Nat) (l : List Nat) (w : World) (hl : l.length = n) (hn : n ≤ 1000000) (hc : n ≤ cap) (hk : k < n) (hf : l.getD k 0 = 214) (hb : ∀ x ∈ l, x < 256) (hr : RdV w (some ⟨b, o, none⟩) (bv l)) (hg : ¬ n < k + 1 + 0 + 1) :
    Calls Try.prog 10 #[.slice (some ⟨b, o, none⟩) n cap, .int .i64 (k : Int)] w (GetM l (k : Int) w) := by
  have hlen : ((l.drop (k + 1)).take 0).length = 0 := by rw [List.length_take, List.length_drop]; omega
  have E := Lib.hid (show getM l (k : Int) = (11, 4, k + 1 + 0 + 1, 0) by
    rw [getM_in l k 214 (by omega) hf, if_neg (by decide), show sizeB 214 = 0 by rfl, show moreB 214 = 1 by rfl, if_neg (by omega), if_pos rfl, show kindB 214 = 11 by rfl, show shortB 214 = 4 by rfl])
  have KR := Lib.hid (fun W => show Calls Try.prog 24 #[.int .i64 214] W fun e w' => e = .returned (.tuple #[.int .i64 11, .int .i64 0, .int .i64 1]) ∧ Below W.heap.size W w' from row_f 214 W (by decide) (by decide))
  have c0 : w.cell? ⟨b, o + k, none⟩ = some (.int .u8 214) := by rw [hr.at k (by rw [bv_len]; omega), bv_get l k (by omega), hf]; rfl
  have e1 : decide ((k : Int) < 0) = false := decide_eq_false (by omega)
  have e2 : ¬ n < k := by omega
  have e3 : ((k : Int) == (n : Int)) = false := by rw [beq_eq_false_iff_ne]; omega
  have HM := Lib.hid (fun W (hW : Below w.heap.size w W) j (hj : j < 0) => show (∃ x : Nat, x < 256 ∧ W.cell? ⟨b, o + (k + 1 + j), none⟩ = some (.int .u8 (x : Int)) ∧ natB (((l.drop (k + 1)).take 0).take (j + 1)) = natB (((l.drop (k + 1)).take 0).take j) * 256 + x ∧ natB (((l.drop (k + 1)).take 0).take j) < 72057594037927936) from by
    have hj2 : k + 1 + j < l.length := by omega
    refine ⟨l[k + 1 + j], hb _ (List.getElem_mem _), ?_, ?_, ?_⟩
    · rw [(hr.on hW).at (k + 1 + j) (by rw [bv_len]; omega), bv_get l _ hj2]
      simp [List.getD, hj2]
    · rw [← natB_snoc]
      congr 1
      rw [List.take_add_one, List.getElem?_take, if_pos hj, List.getElem?_drop, List.getElem?_eq_getElem hj2]
      rfl
    · refine Nat.lt_of_lt_of_le (natB_lt j _ (by rw [List.length_take, hlen]; omega) (fun x hx => hb x (List.mem_of_mem_drop (List.mem_of_mem_take (List.mem_of_mem_take hx))))) (pow7 (by omega)))
  have HT := Lib.hid (show natB (((l.drop (k + 1)).take 0).take 0) = natB ((l.drop (k + 1)).take 0) by rw [List.take_of_length_le (by omega)])
  have H0 := Lib.hid (show natB (((l.drop (k + 1)).take 0).take 0) = 0 by rfl)
  have HLT := Lib.hid (show natB ((l.drop (k + 1)).take 0) < 256 ^ 0 from natB_lt 0 _ hlen (fun x hx => hb x (List.mem_of_mem_drop (List.mem_of_mem_take hx))))
  generalize natB ((l.drop (k + 1)).take 0) = V at HT HLT
  generalize hNB : (fun j => natB (((l.drop (k + 1)).take 0).take j)) = NB
  have HNB := Lib.hid (show ∀ j, natB (((l.drop (k + 1)).take 0).take j) = NB j from fun j => by rw [← hNB])
  simp only [HNB.out] at HM HT H0
  clear hNB HNB
  have e4 : ¬ (n : Int) - (k : Int) - 1 < 1 := by omega
  clear hr hf hl hb hlen
  go_enter Try.func10, Try.ntmps10
  go_wp2_with fail
  refine (KR.out _).mono ?_
  rintro x w2 ⟨rfl, hb2⟩
  have HB2 := Lib.hid hb2
  clear hb2
  go_wp2_with fail
  go_loopw [12, 13] (fun v i wr => ∃ j q : Nat, j ≤ 0 ∧ i = .int .i64 (j : Int) ∧ v = .int .u64 ((NB j : Nat) : Int) ∧ wr = w2.drewN q) (fun _ i _ => 0 - (intOf i).toNat)
  case atStart => exact ⟨0, 0, by omega, rfl, by rw [H0.out]; rfl, rfl⟩
  case round =>
    obtain ⟨j, q, hj, rfl, rfl, rfl⟩ := hrel
    by_cases hlt : j < 0
    · obtain ⟨x, hx, hcx, hnx, hvx⟩ := HM.out _ HB2.out j hlt
      have HNX := Lib.hid hnx
      clear hnx
      have h1 : (j : Int) < 0 := by omega
      generalize NB j = Vj at *
      go_wp2
      go_roundw
      case rel => exact ⟨j + 1, _, by omega, by go_num, by rw [HNX.out]; go_num, rfl⟩
      case measure => simp [intOf]; omega
    · obtain rfl : j = 0 := by omega
      rw [HT.out]
      go_wp2
      refine bodyPost_ret (results_tmp4 rfl _ _ _) rfl ?_
      exact ⟨by rw [E.out]; rfl, below_drewN HB2.out _⟩

set_option maxHeartbeats 2000000 in
set_option maxRecDepth 100000 in
theorem refM_f215 (b o n cap k : Nat) (l : List Nat) (w : World) (hl : l.length = n) (hn : n ≤ 1000000) (hc : n ≤ cap) (hk : k < n) (hf : l.getD k 0 = 215) (hb : ∀ x ∈ l, x < 256) (hr : RdV w (some ⟨b, o, none⟩) (bv l)) (hg : ¬ n < k + 1 + 0 + 1) :
    Calls Try.prog 10 #[.slice (some ⟨b, o, none⟩) n cap, .int .i64 (k : Int)] w (GetM l (k : Int) w) := by
  have hlen : ((l.drop (k + 1)).take 0).length = 0 := by rw [List.length_take, List.length_drop]; omega
  have E := Lib.hid (show getM l (k : Int) = (11, 8, k + 1 + 0 + 1, 0) by
    rw [getM_in l k 215 (by omega) hf, if_neg (by decide), show sizeB 215 = 0 by rfl, show moreB 215 = 1 by rfl, if_neg (by omega), if_pos rfl, show kindB 215 = 11 by rfl, show shortB 215 = 8 by rfl])
  have KR := Lib.hid (fun W => show Calls Try.prog 24 #[.int .i64 215] W fun e w' => e = .returned (.tuple #[.int .i64 11, .int .i64 0, .int .i64 1]) ∧ Below W.heap.size W w' from row_f 215 W (by decide) (by decide))
  have c0 : w.cell? ⟨b, o + k, none⟩ = some (.int .u8 215) := by rw [hr.at k (by rw [bv_len]; omega), bv_get l k (by omega), hf]; rfl
  have e1 : decide ((k : Int) < 0) = false := decide_eq_false (by omega)
  have e2 : ¬ n < k := by omega
  have e3 : ((k : Int) == (n : Int)) = false := by rw [beq_eq_false_iff_ne]; omega
  have HM := Lib.hid (fun W (hW : Below w.heap.size w W) j (hj : j < 0) => show (∃ x : Nat, x < 256 ∧ W.cell? ⟨b, o + (k + 1 + j), none⟩ = some (.int .u8 (x : Int)) ∧ natB (((l.drop (k + 1)).take 0).take (j + 1)) = natB (((l.drop (k + 1)).take 0).take j) * 256 + x ∧ natB (((l.drop (k + 1)).take 0).take j) < 72057594037927936) from by
    have hj2 : k + 1 + j < l.length := by omega
    refine ⟨l[k + 1 + j], hb _ (List.getElem_mem _), ?_, ?_, ?_⟩
    · rw [(hr.on hW).at (k + 1 + j) (by rw [bv_len]; omega), bv_get l _ hj2]
      simp [List.getD, hj2]
    · rw [← natB_snoc]
      congr 1
      rw [List.take_add_one, List.getElem?_take, if_pos hj, List.getElem?_drop, List.getElem?_eq_getElem hj2]
      rfl
    · refine Nat.lt_of_lt_of_le (natB_lt j _ (by rw [List.length_take, hlen]; omega) (fun x hx => hb x (List.mem_of_mem_drop (List.mem_of_mem_take (List.mem_of_mem_take hx))))) (pow7 (by omega)))
  have HT := Lib.hid (show natB (((l.drop (k + 1)).take 0).take 0) = natB ((l.drop (k + 1)).take 0) by rw [List.take_of_length_le (by omega)])
  have H0 := Lib.hid (show natB (((l.drop (k + 1)).take 0).take 0) = 0 by rfl)
  have HLT := Lib.hid (show natB ((l.drop (k + 1)).take 0) < 256 ^ 0 from natB_lt 0 _ hlen (fun x hx => hb x (List.mem_of_mem_drop (List.mem_of_mem_take hx))))
  generalize natB ((l.drop (k + 1)).take 0) = V at HT HLT
  generalize hNB : (fun j => natB (((l.drop (k + 1)).take 0).take j)) = NB
  have HNB := Lib.hid (show ∀ j, natB (((l.drop (k + 1)).take 0).take j) = NB j from fun j => by rw [← hNB])
  simp only [HNB.out] at HM HT H0
  clear hNB HNB
  have e4 : ¬ (n : Int) - (k : Int) - 1 < 1 := by omega
  clear hr hf hl hb hlen
  go_enter Try.func10, Try.ntmps10
  go_wp2_with fail
  refine (KR.out _).mono ?_
  rintro x w2 ⟨rfl, hb2⟩
  have HB2 := Lib.hid hb2
  clear hb2
  go_wp2_with fail
  go_loopw [12, 13] (fun v i wr => ∃ j q : Nat, j ≤ 0 ∧ i = .int .i64 (j : Int) ∧ v = .int .u64 ((NB j : Nat) : Int) ∧ wr = w2.drewN q) (fun _ i _ => 0 - (intOf i).toNat)
  case atStart => exact ⟨0, 0, by omega, rfl, by rw [H0.out]; rfl, rfl⟩
  case round =>
    obtain ⟨j, q, hj, rfl, rfl, rfl⟩ := hrel
    by_cases hlt : j < 0
    · obtain ⟨x, hx, hcx, hnx, hvx⟩ := HM.out _ HB2.out j hlt
      have HNX := Lib.hid hnx
      clear hnx
      have h1 : (j : Int) < 0 := by omega
      generalize NB j = Vj at *
      go_wp2
      go_roundw
      case rel => exact ⟨j + 1, _, by omega, by go_num, by rw [HNX.out]; go_num, rfl⟩
      case measure => simp [intOf]; omega
    · obtain rfl : j = 0 := by omega
      rw [HT.out]
      go_wp2
      refine bodyPost_ret (results_tmp4 rfl _ _ _) rfl ?_
      exact ⟨by rw [E.out]; rfl, below_drewN HB2.out _⟩

set_option maxHeartbeats 2000000 in
set_option maxRecDepth 100000 in
theorem refM_f216 (b o n cap k : Nat) (l : List Nat) (w : World) (hl : l.length = n) (hn : n ≤ 1000000) (hc : n ≤ cap) (hk : k < n) (hf : l.getD k 0 = 216) (hb : ∀ x ∈ l, x < 256) (hr : RdV w (some ⟨b, o, none⟩) (bv l)) (hg : ¬ n < k + 1 + 0 + 1) :
    Calls Try.prog 10 #[.slice (some ⟨b, o, none⟩) n cap, .int .i64 (k : Int)] w (GetM l (k : Int) w) := by
  have hlen : ((l.drop (k + 1)).take 0).length = 0 := by rw [List.length_take, List.length_drop]; omega
  have E := Lib.hid (show getM l (k : Int) = (11, 16, k + 1 + 0 + 1, 0) by
    rw [getM_in l k 216 (by omega) hf, if_neg (by decide), show sizeB 216 = 0 by rfl, show moreB 216 = 1 by rfl, if_neg (by omega), if_pos rfl, show kindB 216 = 11 by rfl, show shortB 216 = 16 by rfl])
  have KR := Lib.hid (fun W => show Calls Try.prog 24 #[.int .i64 216] W fun e w' => e = .returned (.tuple #[.int .i64 11, .int .i64 0, .int .i64 1]) ∧ Below W.heap.size W w' from row_f 216 W (by decide) (by decide))
  have c0 : w.cell? ⟨b, o + k, none⟩ = some (.int .u8 216) := by rw [hr.at k (by rw [bv_len]; omega), bv_get l k (by omega), hf]; rfl
  have e1 : decide ((k : Int) < 0) = false := decide_eq_false (by omega)
  have e2 : ¬ n < k := by omega
  have e3 : ((k : Int) == (n : Int)) = false := by rw [beq_eq_false_iff_ne]; omega
  have HM := Lib.hid (fun W (hW : Below w.heap.size w W) j (hj : j < 0) => show (∃ x : Nat, x < 256 ∧ W.cell? ⟨b, o + (k + 1 + j), none⟩ = some (.int .u8 (x : Int)) ∧ natB (((l.drop (k + 1)).take 0).take (j + 1)) = natB (((l.drop (k + 1)).take 0).take j) * 256 + x ∧ natB (((l.drop (k + 1)).take 0).take j) < 72057594037927936) from by
    have hj2 : k + 1 + j < l.length := by omega
    refine ⟨l[k + 1 + j], hb _ (List.getElem_mem _), ?_, ?_, ?_⟩
    · rw [(hr.on hW).at (k + 1 + j) (by rw [bv_len]; omega), bv_get l _ hj2]
      simp [List.getD, hj2]
    · rw [← natB_snoc]
      congr 1
      rw [List.take_add_one, List.getElem?_take, if_pos hj, List.getElem?_drop, List.getElem?_eq_getElem hj2]
      rfl
    · refine Nat.lt_of_lt_of_le (natB_lt j _ (by rw [List.length_take, hlen]; omega) (fun x hx => hb x (List.mem_of_mem_drop (List.mem_of_mem_take (List.mem_of_mem_take hx))))) (pow7 (by omega)))
  have HT := Lib.hid (show natB (((l.drop (k + 1)).take 0).take 0) = natB ((l.drop (k + 1)).take 0) by rw [List.take_of_length_le (by omega)])
  have H0 := Lib.hid (show natB (((l.drop (k + 1)).take 0).take 0) = 0 by rfl)
  have HLT := Lib.hid (show natB ((l.drop (k + 1)).take 0) < 256 ^ 0 from natB_lt 0 _ hlen (fun x hx => hb x (List.mem_of_mem_drop (List.mem_of_mem_take hx))))
  generalize natB ((l.drop (k + 1)).take 0) = V at HT HLT
  generalize hNB : (fun j => natB (((l.drop (k + 1)).take 0).take j)) = NB
  have HNB := Lib.hid (show ∀ j, natB (((l.drop (k + 1)).take 0).take j) = NB j from fun j => by rw [← hNB])
  simp only [HNB.out] at HM HT H0
  clear hNB HNB
  have e4 : ¬ (n : Int) - (k : Int) - 1 < 1 := by omega
  clear hr hf hl hb hlen
  go_enter Try.func10, Try.ntmps10
  go_wp2_with fail
  refine (KR.out _).mono ?_
  rintro x w2 ⟨rfl, hb2⟩
  have HB2 := Lib.hid hb2
  clear hb2
  go_wp2_with fail
  go_loopw [12, 13] (fun v i wr => ∃ j q : Nat, j ≤ 0 ∧ i = .int .i64 (j : Int) ∧ v = .int .u64 ((NB j : Nat) : Int) ∧ wr = w2.drewN q) (fun _ i _ => 0 - (intOf i).toNat)
  case atStart => exact ⟨0, 0, by omega, rfl, by rw [H0.out]; rfl, rfl⟩
  case round =>
    obtain ⟨j, q, hj, rfl, rfl, rfl⟩ := hrel
    by_cases hlt : j < 0
    · obtain ⟨x, hx, hcx, hnx, hvx⟩ := HM.out _ HB2.out j hlt
      have HNX := Lib.hid hnx
      clear hnx
      have h1 : (j : Int) < 0 := by omega
      generalize NB j = Vj at *
      go_wp2
      go_roundw
      case rel => exact ⟨j + 1, _, by omega, by go_num, by rw [HNX.out]; go_num, rfl⟩
      case measure => simp [intOf]; omega
    · obtain rfl : j = 0 := by omega
      rw [HT.out]
      go_wp2
      refine bodyPost_ret (results_tmp4 rfl _ _ _) rfl ?_
      exact ⟨by rw [E.out]; rfl, below_drewN HB2.out _⟩

theorem kd5_11 : ∀ f, f < 256 → 192 ≤ f → f < 224 → (kindB f = 5 ∨ kindB f = 11) → f = 199 ∨ f = 200 ∨ f = 201 ∨ f = 208 ∨ f = 209 ∨ f = 210 ∨ f = 211 ∨ f = 212 ∨ f = 213 ∨ f = 214 ∨ f = 215 ∨ f = 216 := by
  intro f _ h0 h1
  obtain ⟨j, rfl, hj⟩ := f32 f h0 h1
  have h : j = 0 ∨ j = 1 ∨ j = 2 ∨ j = 3 ∨ j = 4 ∨ j = 5 ∨ j = 6 ∨ j = 7 ∨ j = 8 ∨ j = 9 ∨ j = 10 ∨ j = 11 ∨ j = 12 ∨ j = 13 ∨ j = 14 ∨ j = 15 ∨ j = 16 ∨ j = 17 ∨ j = 18 ∨ j = 19 ∨ j = 20 ∨ j = 21 ∨ j = 22 ∨ j = 23 ∨ j = 24 ∨ j = 25 ∨ j = 26 ∨ j = 27 ∨ j = 28 ∨ j = 29 ∨ j = 30 ∨ j = 31 := by omega
  rcases h with rfl | rfl | rfl | rfl | rfl | rfl | rfl | rfl | rfl | rfl | rfl | rfl | rfl | rfl | rfl | rfl | rfl | rfl | rfl | rfl | rfl | rfl | rfl | rfl | rfl | rfl | rfl | rfl | rfl | rfl | rfl | rfl <;> first | (intro _; omega) | (intro h; exfalso; rcases h with h | h <;> cases h)
theorem refM_any (ad : Option Addr) (n cap : Nat) (l : List Nat) (k : Int) (w : World) (hl : l.length = n) (hn : n ≤ 1000000) (hc : n ≤ cap) (hb : ∀ x ∈ l, x < 256) (hr : RdV w ad (bv l)) (hk : -9223372036854775808 ≤ k ∧ k ≤ 9223372036854775807) :
    Calls Try.prog 10 #[.slice ad n cap, .int .i64 k] w (GetM l k w) := by
  by_cases h1 : k < 0 ∨ (n : Int) < k
  · exact refM_arg ad n cap l k w hl hn hk h1
  by_cases h2 : k = (n : Int)
  · subst h2; exact refM_end ad n cap l w hl hn
  obtain ⟨j, rfl⟩ : ∃ j : Nat, k = j := ⟨k.toNat, by omega⟩
  have hj : j < n := by omega
  obtain ⟨b, o, rfl, _⟩ := hr.shape (by rw [bv_len]; omega)
  have hf2 : l.getD j 0 < 256 := by
    rw [List.getD_eq_getElem?_getD, List.getElem?_eq_getElem (by omega)]
    exact hb _ (List.getElem_mem _)
  generalize hf : l.getD j 0 = f at hf2
  by_cases h0 : 0 ≤ f ∧ f < 128
  · exact refM_0 b o n cap j f l w hl hn hc hj hf hf2 hb hr h0.1 h0.2
  by_cases h128 : 128 ≤ f ∧ f < 144
  · exact refM_128 b o n cap j f l w hl hn hc hj hf hf2 hb hr h128.1 h128.2
  by_cases h144 : 144 ≤ f ∧ f < 160
  · exact refM_144 b o n cap j f l w hl hn hc hj hf hf2 hb hr h144.1 h144.2
  by_cases h160 : 160 ≤ f ∧ f < 192
  · exact refM_160 b o n cap j f l w hl hn hc hj hf hf2 hb hr h160.1 h160.2
  by_cases h224 : 224 ≤ f ∧ f < 256
  · exact refM_224 b o n cap j f l w hl hn hc hj hf hf2 hb hr h224.1 h224.2
  by_cases h193 : f = 193
  · exact refM_193 b o n cap j f l w hl hn hc hj hf hf2 hb hr h193
  have a0 : 192 ≤ f := by omega
  have a1 : f < 224 := by omega
  by_cases hg : n < j + 1 + sizeB f + moreB f
  · exact refM_short b o n cap j f l w hl hn hc hj hf hf2 hb hr a0 a1 h193 hg
  by_cases hq : kindB f = 5 ∨ kindB f = 11
  · rcases kd5_11 f hf2 a0 a1 hq with rfl | rfl | rfl | rfl | rfl | rfl | rfl | rfl | rfl | rfl | rfl | rfl
    · exact refM_f199 b o n cap j l w hl hn hc hj hf hb hr hg
    · exact refM_f200 b o n cap j l w hl hn hc hj hf hb hr hg
    · exact refM_f201 b o n cap j l w hl hn hc hj hf hb hr hg
    · exact refM_f208 b o n cap j l w hl hn hc hj hf hb hr hg
    · exact refM_f209 b o n cap j l w hl hn hc hj hf hb hr hg
    · exact refM_f210 b o n cap j l w hl hn hc hj hf hb hr hg
    · exact refM_f211 b o n cap j l w hl hn hc hj hf hb hr hg
    · exact refM_f212 b o n cap j l w hl hn hc hj hf hb hr hg
    · exact refM_f213 b o n cap j l w hl hn hc hj hf hb hr hg
    · exact refM_f214 b o n cap j l w hl hn hc hj hf hb hr hg
    · exact refM_f215 b o n cap j l w hl hn hc hj hf hb hr hg
    · exact refM_f216 b o n cap j l w hl hn hc hj hf hb hr hg
  · exact refM_plain b o n cap j f l w hl hn hc hj hf hf2 hb hr a0 a1 h193 (fun h => hq (.inl h)) (fun h => hq (.inr h)) hg
end Go.Proofs.Ytmnaccojekojkaa
