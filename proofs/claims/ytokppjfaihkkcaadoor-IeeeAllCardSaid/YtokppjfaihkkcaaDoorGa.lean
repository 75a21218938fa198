/- The walks of layer 3's reference: parts, split, Kind. -/
import Derived.Test.YtokppjfaihkkcaaDoorFs
namespace Go.Proofs.YtokppjfaihkkcaaDoor
open Go.RowKit Go.Sort
set_option linter.unusedVariables false
set_option linter.unusedSimpArgs false

def pE (width : Int) : Int := match layOf width with | some (e, _) => (e : Int) | none => 0
def pF (width : Int) : Int := match layOf width with | some (_, f) => (f : Int) | none => 0
set_option maxHeartbeats 2000000 in
theorem rparts_any (width : Int) (w : World) : Calls Tryd.prog 42 #[.int .i64 width] w fun r w' => r = .returned (.tuple #[.int .i64 (pE width), .int .i64 (pF width)]) ∧ w' = w := by
  by_cases h16 : width = 16
  · subst h16
    go_enter Tryd.func42, Tryd.ntmps42
    go_wp2
    go_ret2
    exact ⟨rfl, rfl⟩
  by_cases h32 : width = 32
  · subst h32
    go_enter Tryd.func42, Tryd.ntmps42
    go_wp2
    go_ret2
    exact ⟨rfl, rfl⟩
  by_cases h64 : width = 64
  · subst h64
    go_enter Tryd.func42, Tryd.ntmps42
    go_wp2
    go_ret2
    exact ⟨rfl, rfl⟩
  · have H : Hid (layOf width = none) := by unfold layOf; rw [if_neg h16, if_neg h32, if_neg h64]; rfl
    have b1 : (width == 16) = false := by rw [beq_eq_false_iff_ne]; exact h16
    have b2 : (width == 32) = false := by rw [beq_eq_false_iff_ne]; exact h32
    have b3 : (width == 64) = false := by rw [beq_eq_false_iff_ne]; exact h64
    go_enter Tryd.func42, Tryd.ntmps42
    go_wp2
    go_ret2
    exact ⟨by unfold pE pF; rw [H.out]; rfl, rfl⟩
theorem lay_w {width : Int} {e f : Nat} (h : layOf width = some (e, f)) : (width = 16 ∧ e = 5 ∧ f = 10) ∨ (width = 32 ∧ e = 8 ∧ f = 23) ∨ (width = 64 ∧ e = 11 ∧ f = 52) := by
  unfold layOf at h
  split at h
  · injection h with h; injection h with h1 h2; exact .inl ⟨by assumption, h1.symm, h2.symm⟩
  · split at h
    · injection h with h; injection h with h1 h2; exact .inr (.inl ⟨by assumption, h1.symm, h2.symm⟩)
    · split at h
      · injection h with h; injection h with h1 h2; exact .inr (.inr ⟨by assumption, h1.symm, h2.symm⟩)
      · cases h
def spV (e f x : Nat) : Value := .tuple #[.bool (fNeg e f x), .int .u64 (fEx e f x : Int), .int .u64 (fFr f x : Int)]
set_option maxHeartbeats 4000000 in
theorem rsplit_any {width : Int} {e f : Nat} (hl : layOf width = some (e, f)) (x : Nat) (hx : x < 18446744073709551616) (w : World) : Calls Tryd.prog 43 #[.int .i64 width, .int .u64 (x : Int)] w fun r w' => r = .returned (spV e f x) ∧ w' = w := by
  rcases lay_w hl with ⟨rfl, rfl, rfl⟩ | ⟨rfl, rfl, rfl⟩ | ⟨rfl, rfl, rfl⟩
  · have KP := Lib.hid (fun W => rparts_any 16 W)
    have m1 : bits BinOp.and IntKind.u64 ((x : Int) / 1024) 31 = ((x / 2 ^ 10 % 2 ^ 5 : Nat) : Int) := mask_and (x / 1024) 5 (by omega) (by omega)
    have m2 : bits BinOp.and IntKind.u64 (x : Int) 1023 = ((x % 2 ^ 10 : Nat) : Int) := mask_and x 10 hx (by omega)
    have m3 : bits BinOp.and IntKind.u64 ((x : Int) / 32768) 1 = ((x / 2 ^ (5 + 10) % 2 : Nat) : Int) := mask_and (x / 32768) 1 (by omega) (by omega)
    have h1 : x / 2 ^ 10 % 2 ^ 5 < 32 := Nat.mod_lt _ (by decide)
    have h2 : x / 2 ^ (5 + 10) % 2 < 2 := Nat.mod_lt _ (by decide)
    unfold spV fNeg fEx fFr
    generalize x / 2 ^ 10 % 2 ^ 5 = a at *
    generalize x % 2 ^ 10 = b at *
    generalize x / 2 ^ (5 + 10) % 2 = c at *
    have h3 := Lib.hid (int_beq1 c)
    have e4 : IntKind.u64.wrap 1024 = 1024 := by decide
    have e2 : IntKind.u64.wrap 32 = 32 := by decide
    go_enter Tryd.func43, Tryd.ntmps43
    go_wp2_with fail
    refine (KP.out _).mono ?_
    rintro r w' ⟨rfl, rfl⟩
    rw [show pE 16 = 5 from rfl, show pF 16 = 10 from rfl]
    go_wp2_with fail
    go_ret3
    exact ⟨by rw [← h3.out]; rfl, rfl⟩
  · have KP := Lib.hid (fun W => rparts_any 32 W)
    have m1 : bits BinOp.and IntKind.u64 ((x : Int) / 8388608) 255 = ((x / 2 ^ 23 % 2 ^ 8 : Nat) : Int) := mask_and (x / 8388608) 8 (by omega) (by omega)
    have m2 : bits BinOp.and IntKind.u64 (x : Int) 8388607 = ((x % 2 ^ 23 : Nat) : Int) := mask_and x 23 hx (by omega)
    have m3 : bits BinOp.and IntKind.u64 ((x : Int) / 2147483648) 1 = ((x / 2 ^ (8 + 23) % 2 : Nat) : Int) := mask_and (x / 2147483648) 1 (by omega) (by omega)
    have h1 : x / 2 ^ 23 % 2 ^ 8 < 256 := Nat.mod_lt _ (by decide)
    have h2 : x / 2 ^ (8 + 23) % 2 < 2 := Nat.mod_lt _ (by decide)
    unfold spV fNeg fEx fFr
    generalize x / 2 ^ 23 % 2 ^ 8 = a at *
    generalize x % 2 ^ 23 = b at *
    generalize x / 2 ^ (8 + 23) % 2 = c at *
    have h3 := Lib.hid (int_beq1 c)
    have e4 : IntKind.u64.wrap 8388608 = 8388608 := by decide
    have e2 : IntKind.u64.wrap 256 = 256 := by decide
    go_enter Tryd.func43, Tryd.ntmps43
    go_wp2_with fail
    refine (KP.out _).mono ?_
    rintro r w' ⟨rfl, rfl⟩
    rw [show pE 32 = 8 from rfl, show pF 32 = 23 from rfl]
    go_wp2_with fail
    go_ret3
    exact ⟨by rw [← h3.out]; rfl, rfl⟩
  · have KP := Lib.hid (fun W => rparts_any 64 W)
    have m1 : bits BinOp.and IntKind.u64 ((x : Int) / 4503599627370496) 2047 = ((x / 2 ^ 52 % 2 ^ 11 : Nat) : Int) := mask_and (x / 4503599627370496) 11 (by omega) (by omega)
    have m2 : bits BinOp.and IntKind.u64 (x : Int) 4503599627370495 = ((x % 2 ^ 52 : Nat) : Int) := mask_and x 52 hx (by omega)
    have m3 : bits BinOp.and IntKind.u64 ((x : Int) / 9223372036854775808) 1 = ((x / 2 ^ (11 + 52) % 2 : Nat) : Int) := mask_and (x / 9223372036854775808) 1 (by omega) (by omega)
    have h1 : x / 2 ^ 52 % 2 ^ 11 < 2048 := Nat.mod_lt _ (by decide)
    have h2 : x / 2 ^ (11 + 52) % 2 < 2 := Nat.mod_lt _ (by decide)
    unfold spV fNeg fEx fFr
    generalize x / 2 ^ 52 % 2 ^ 11 = a at *
    generalize x % 2 ^ 52 = b at *
    generalize x / 2 ^ (11 + 52) % 2 = c at *
    have h3 := Lib.hid (int_beq1 c)
    have e4 : IntKind.u64.wrap 4503599627370496 = 4503599627370496 := by decide
    have e2 : IntKind.u64.wrap 2048 = 2048 := by decide
    go_enter Tryd.func43, Tryd.ntmps43
    go_wp2_with fail
    refine (KP.out _).mono ?_
    rintro r w' ⟨rfl, rfl⟩
    rw [show pE 64 = 11 from rfl, show pF 64 = 52 from rfl]
    go_wp2_with fail
    go_ret3
    exact ⟨by rw [← h3.out]; rfl, rfl⟩

set_option maxHeartbeats 4000000 in
theorem rkind_any (width : Int) (x : Nat) (hx : x < 18446744073709551616) (w : World) : Calls Tryd.prog 20 #[.int .i64 width, .int .u64 (x : Int)] w fun r w' => r = .returned (.int .i64 (kindW width x)) ∧ w' = w := by
  have KP := Lib.hid (fun W => rparts_any width W)
  cases hlo : layOf width with
  | none =>
    have e1 : pE width = 0 := by unfold pE; rw [hlo]
    have HK : Hid (kindW width x = 0) := by show _ = _; unfold kindW; rw [hlo]
    rw [e1] at KP
    go_enter Tryd.func20, Tryd.ntmps20
    go_wp2_with fail
    refine (KP.out _).mono ?_
    rintro r w' ⟨rfl, rfl⟩
    go_wp2_with fail
    go_ret
    exact ⟨by rw [HK.out]; rfl, rfl⟩
  | some q =>
    obtain ⟨e, f⟩ := q
    have KS := Lib.hid (fun W => rsplit_any hlo x hx W)
    have hk : kindW width x = kindB (decide (fEx e f x = 2 ^ e - 1)) (decide (fFr f x = 0)) (decide (fEx e f x = 0)) := by unfold kindW; rw [hlo]; exact kindF_eq e f x
    have HK := Lib.hid hk
    have he : fEx e f x < 2 ^ e := Nat.mod_lt _ (twop_pos e)
    unfold spV at KS
    clear hk
    generalize kindW width x = K at *
    generalize fNeg e f x = ng at *
    generalize fEx e f x = ex at *
    generalize fFr f x = fr at *
    have b3 : ((ex : Int) == 0) = decide (ex = 0) := by
      by_cases h : ex = 0
      · subst h; rfl
      · rw [decide_eq_false h, beq_eq_false_iff_ne]; omega
    have b2 : ((fr : Int) == 0) = decide (fr = 0) := by
      by_cases h : fr = 0
      · subst h; rfl
      · rw [decide_eq_false h, beq_eq_false_iff_ne]; omega
    rcases lay_w hlo with ⟨rfl, rfl, rfl⟩ | ⟨rfl, rfl, rfl⟩ | ⟨rfl, rfl, rfl⟩
    · have b1 : ((ex : Int) == 31) = decide (ex = 2 ^ 5 - 1) := by
        by_cases h : ex = 2 ^ 5 - 1
        · subst h; rfl
        · rw [decide_eq_false h, beq_eq_false_iff_ne]; omega
      rw [show pE 16 = 5 from rfl, show pF 16 = 10 from rfl] at KP
      have e2 : IntKind.u64.wrap 32 = 32 := by decide
      generalize decide (ex = 2 ^ 5 - 1) = c1 at *
      generalize decide (fr = 0) = c2 at *
      generalize decide (ex = 0) = c3 at *
      go_enter Tryd.func20, Tryd.ntmps20
      go_wp2_with fail
      refine (KP.out _).mono ?_
      rintro r w' ⟨rfl, rfl⟩
      go_wp2_with fail
      refine (KS.out _).mono ?_
      rintro r w' ⟨rfl, rfl⟩
      cases c1 <;> cases c2 <;> cases c3 <;> (go_wp2_with fail; go_ret; exact ⟨by rw [HK.out]; rfl, rfl⟩)
    · have b1 : ((ex : Int) == 255) = decide (ex = 2 ^ 8 - 1) := by
        by_cases h : ex = 2 ^ 8 - 1
        · subst h; rfl
        · rw [decide_eq_false h, beq_eq_false_iff_ne]; omega
      rw [show pE 32 = 8 from rfl, show pF 32 = 23 from rfl] at KP
      have e2 : IntKind.u64.wrap 256 = 256 := by decide
      generalize decide (ex = 2 ^ 8 - 1) = c1 at *
      generalize decide (fr = 0) = c2 at *
      generalize decide (ex = 0) = c3 at *
      go_enter Tryd.func20, Tryd.ntmps20
      go_wp2_with fail
      refine (KP.out _).mono ?_
      rintro r w' ⟨rfl, rfl⟩
      go_wp2_with fail
      refine (KS.out _).mono ?_
      rintro r w' ⟨rfl, rfl⟩
      cases c1 <;> cases c2 <;> cases c3 <;> (go_wp2_with fail; go_ret; exact ⟨by rw [HK.out]; rfl, rfl⟩)
    · have b1 : ((ex : Int) == 2047) = decide (ex = 2 ^ 11 - 1) := by
        by_cases h : ex = 2 ^ 11 - 1
        · subst h; rfl
        · rw [decide_eq_false h, beq_eq_false_iff_ne]; omega
      rw [show pE 64 = 11 from rfl, show pF 64 = 52 from rfl] at KP
      have e2 : IntKind.u64.wrap 2048 = 2048 := by decide
      generalize decide (ex = 2 ^ 11 - 1) = c1 at *
      generalize decide (fr = 0) = c2 at *
      generalize decide (ex = 0) = c3 at *
      go_enter Tryd.func20, Tryd.ntmps20
      go_wp2_with fail
      refine (KP.out _).mono ?_
      rintro r w' ⟨rfl, rfl⟩
      go_wp2_with fail
      refine (KS.out _).mono ?_
      rintro r w' ⟨rfl, rfl⟩
      cases c1 <;> cases c2 <;> cases c3 <;> (go_wp2_with fail; go_ret; exact ⟨by rw [HK.out]; rfl, rfl⟩)
end Go.Proofs.YtokppjfaihkkcaaDoor
