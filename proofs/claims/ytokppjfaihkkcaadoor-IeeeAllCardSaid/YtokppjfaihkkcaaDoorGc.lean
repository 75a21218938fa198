/- The walks of layer 3's reference: halves, odd. -/
import Derived.Test.YtokppjfaihkkcaaDoorGb
import Derived.Test.YtokppjfaihkkcaaDoorRs
import Derived.Deep.LoopGhost
namespace Go.Proofs.YtokppjfaihkkcaaDoor
open Go.RowKit Go.Sort
set_option linter.unusedVariables false
set_option linter.unusedSimpArgs false

theorem and_one32 (x : Nat) (hx : x < 4294967296) : bits BinOp.and IntKind.u32 (x : Int) 1 = ((x % 2 : Nat) : Int) := by
  have h := u32_and_nat x 1 hx (by decide)
  rw [Nat.and_one_is_mod] at h
  exact h
def HvRel (w0 : World) (l : List Ent) (L N : Nat) (g : Nat) (m k : Value) (wr : World) : Prop :=
  ∃ N' j : Nat, N' ≤ g ∧ N' ≠ 0 ∧ N = N' * 2 ^ j ∧ k = .int .i64 (j : Int) ∧ Ctx w0 wr (⟨m, L, N', limbs N'⟩ :: l)
def HvPost (w0 : World) (l : List Ent) (L N : Nat) (r : Ending) (w' : World) : Prop :=
  ∃ v, r = .returned (.tuple #[v, .int .i64 ((tz N : Nat) : Int)]) ∧ Ctx w0 w' (⟨v, L, odd N, limbs (odd N)⟩ :: l)

set_option maxHeartbeats 4000000 in
theorem rhalves_any {w0 w : World} {l : List Ent} {v : Value} {L N : Nat} (h : Ctx w0 w l) (i : Nat) (hi : l[i]? = some ⟨v, L, N, limbs N⟩) (hL : L ≤ 10000) (h0 : N ≠ 0) :
    Calls Tryd.prog 80 #[v] w (HvPost w0 l L N) := by
  have hv := h.get i hi
  have hst : HvRel w0 l L N N v (.int .i64 0) w := ⟨N, 0, Nat.le_refl _, h0, by simp, rfl, h.push hv⟩
  obtain ⟨ad, cap, rfl, a2, a3, a4, a5, a6⟩ := hv
  have hNB : N < 2 ^ (32 * L) := by
    have h1 := val_lt a4
    rw [val_limbs] at h1
    refine Nat.lt_of_lt_of_le h1 ?_
    rw [B32_eq, show (4294967296 : Nat) = 2 ^ 32 from rfl, ← Nat.pow_mul]
    exact Nat.pow_le_pow_right (by decide) (Nat.mul_le_mul_left _ a3)
  have HST := Lib.hid hst
  have HNB := Lib.hid hNB
  clear hst a2 a3 a4 a5 a6 hNB h hi h0
  generalize (limbs N).length = n at *
  go_enter Tryd.func80, Tryd.ntmps80
  go_wp2_with fail
  go_loopg [0, 4] N (fun g m k wr => HvRel w0 l L N g m k wr)
  case atStart => exact HST.out
  case round =>
    obtain ⟨N', j, hg, h0, hN, rfl, hC⟩ := hrel
    obtain ⟨ad1, cap1, rfl, a2, a3, a4, a5, a6⟩ := hC.get 0 rfl
    have hlen : 0 < (limbs N').length := Nat.pos_of_ne_zero (fun h1 => h0 ((limbs_nil_iff N').1 (List.eq_nil_of_length_eq_zero h1)))
    have hj : j < 32 * L := by
      have h1 : 2 ^ j ≤ N := by rw [hN]; exact Nat.le_mul_of_pos_left _ (Nat.pos_of_ne_zero h0)
      exact two_lt_iff.1 (Nat.lt_of_le_of_lt h1 HNB.out)
    have KSM := Lib.hid (refSmall_any ad1 _ cap1 (limbs N') 2 wr rfl a2 (by omega) a4 a5 (by decide) (by decide))
    rw [val_limbs] at KSM
    obtain ⟨b, o, rfl, hbl, hc⟩ := a5 0 hlen
    have hx : (limbs N').getD 0 0 = N' % 4294967296 := by rw [← val_mod _ a4, val_limbs]; rfl
    rw [hx, Nat.add_zero] at hc
    have hxb : N' % 4294967296 < 4294967296 := Nat.mod_lt _ (by decide)
    have hand := and_one32 _ hxb
    have hm2 : N' % 4294967296 % 2 = N' % 2 := by omega
    rw [hm2] at hand
    have HC := Lib.hid hC
    have HN := Lib.hid hN
    have hlz : (0 : Int) < ((limbs N').length : Int) := by omega
    have hl1 : (limbs N').length ≤ 10000 := by omega
    clear hC hx hm2 a2 a3 a4 a5 a6 hN hlen
    generalize N' % 4294967296 = x0 at *
    generalize (limbs N').length = n' at *
    by_cases hev : N' % 2 = 0
    · rw [hev] at hand
      have HEV := Lib.hid hev
      clear hev
      go_wp2_with fail
      refine KSM.out.mono ?_
      rintro r w2 ⟨v2, rfl, ho2, hb2⟩
      have hC2 := HC.out.step hb2
      have hl2 : (limbs (N' / 2)).length ≤ L := by
        obtain ⟨_, _, _, _, q3, q4, _, q6⟩ := HC.out.get 0 rfl
        exact len_leq q4 (by rw [val_limbs]; exact Nat.div_le_self _ _) q3
      have HR := Lib.hid (hC2.drop1.push (ent_own ho2 hl2))
      clear ho2 hb2 hC2 hl2 KSM
      go_wp2_with fail
      go_roundg (N' / 2)
      case rel => exact ⟨N' / 2, j + 1, Nat.le_refl _, by have := HEV.out; omega, by rw [HN.out, Nat.pow_succ]; have := HEV.out; rw [show N' = N' / 2 * 2 by omega]; simp [Nat.mul_assoc, Nat.mul_comm, Nat.mul_left_comm], by go_num, HR.out⟩
      case measure => omega
    · have hod : N' % 2 = 1 := by omega
      rw [hod] at hand
      obtain ⟨t1, t2⟩ := tz_unique HN.out hod
      have HT1 := Lib.hid t1; have HT2 := Lib.hid t2
      clear t1 t2 hev hod KSM
      go_wp2_with fail
      go_ret2
      exact ⟨_, by rw [HT1.out]; rfl, by rw [HT2.out]; exact HC.out⟩
/-- What odd tells: the odd part of so many fives, and its place. -/
def oddA (M : Nat) (E : Int) : Value := match fives M E with
  | none => .tuple #[.int .u64 0, .int .i64 0, .bool false]
  | some P => if odd P < 18446744073709551616 then .tuple #[.int .u64 ((odd P : Nat) : Int), .int .i64 (E + (tz P : Int)), .bool true] else .tuple #[.int .u64 0, .int .i64 0, .bool false]
def OdPost (w0 : World) (l : List Ent) (M : Nat) (E : Int) (r : Ending) (w' : World) : Prop := r = .returned (oddA M E) ∧ Ctx w0 w' l
def OUp (w0 : World) (l : List Ent) (M : Nat) (E : Int) (gb : Nat) (ng : Bool) (v : Value) (m k : Value) (wr : World) : Prop :=
  ∃ i : Nat, ((i : Int) ≤ E ∨ i = 0) ∧ k = .int .i64 (i : Int) ∧ Ctx w0 wr (⟨m, 2000, M * 5 ^ i, limbs (M * 5 ^ i)⟩ :: l) ∧ Bx wr gb ng v E
def ODn (w0 : World) (l : List Ent) (M : Nat) (E : Int) (gb : Nat) (ng : Bool) (v : Value) (m k : Value) (wr : World) : Prop :=
  ∃ i : Nat, ((i : Int) ≤ -E ∨ i = 0) ∧ k = .int .i64 (i : Int) ∧ M % 5 ^ i = 0 ∧ Ctx w0 wr (⟨m, 2000, M / 5 ^ i, limbs (M / 5 ^ i)⟩ :: l) ∧ Bx wr gb ng v E
theorem five_len {M i : Nat} (hM : M < B32 ^ 90) (hi : i ≤ 1200) : (limbs (M * 5 ^ i)).length ≤ 2000 := by
  have h5 : 5 ^ i ≤ B32 ^ i := Nat.pow_le_pow_left (by rw [B32_eq]; decide) i
  have h : M * 5 ^ i < B32 ^ (90 + i) := by
    rw [Nat.pow_add]
    exact Nat.mul_lt_mul_of_lt_of_le hM h5 (Nat.pow_pos (by rw [B32_eq]; decide))
  have := limbs_length_le h
  omega
theorem div_step {M i : Nat} (h : M % 5 ^ i = 0) : M / 5 ^ i / 5 = M / 5 ^ (i + 1) ∧ (M / 5 ^ i % 5 = 0 → M % 5 ^ (i + 1) = 0) ∧ (M % 5 ^ (i + 1) = 0 → M / 5 ^ i % 5 = 0) := by
  refine ⟨by rw [Nat.div_div_eq_div_mul, Nat.pow_succ], fun h1 => ?_, fun h1 => ?_⟩
  · rw [Nat.pow_succ, Nat.mod_mul, h, h1]; simp
  · rw [Nat.pow_succ, Nat.mod_mul, h] at h1
    have := five_pos i
    rw [Nat.zero_add] at h1
    exact (Nat.mul_eq_zero.1 h1).resolve_left (by omega)
theorem mod_more {M i k : Nat} (h : M % 5 ^ k = 0) (hik : i ≤ k) : M % 5 ^ i = 0 :=
  Nat.mod_eq_zero_of_dvd (Nat.dvd_trans (Nat.pow_dvd_pow 5 hik) (Nat.dvd_of_mod_eq_zero h))
end Go.Proofs.YtokppjfaihkkcaaDoor
