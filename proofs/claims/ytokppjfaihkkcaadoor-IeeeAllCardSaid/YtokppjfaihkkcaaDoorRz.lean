/- The walks of the reference's Shift, Bits. -/
import Derived.Test.YtokppjfaihkkcaaDoorRx
import Derived.Laws.BitsAllLaws
import Derived.IntWalk
namespace Go.Proofs.YtokppjfaihkkcaaDoor
open Go.RowKit
set_option linter.unusedVariables false
set_option linter.unusedSimpArgs false

theorem or_small {z t r : Nat} (hz : z < 2 ^ r) (ht : t % 2 ^ r = 0) (hz2 : z < 4294967296) (ht2 : t < 4294967296) : bits .or .u32 (z : Int) (t : Int) = ((z + t : Nat) : Int) := by
  rw [u32_or_nat z t hz2 ht2, Nat.or_comm, nat_join r t z ht hz, Nat.add_comm]
theorem or_none {t : Nat} (ht2 : t < 4294967296) : bits .or .u32 0 (t : Int) = (t : Int) := by
  have := u32_or_nat 0 t (by omega) ht2
  simpa using this
def ShRel (G B : Nat) (xs : List Nat) (n : Nat) (w : World) (g : Nat) (i : Value) (wr : World) : Prop :=
  ∃ (j : Nat) (zs : List Nat), xs.length - j ≤ g ∧ j ≤ xs.length ∧ i = .int .i64 (j : Int) ∧ RHInv xs zs n j ∧ Blk wr G zs [] ∧ Below B w wr

set_option maxHeartbeats 4000000 in
set_option maxRecDepth 100000 in
theorem refShift_any (ad : Option Addr) (n cap : Nat) (xs : List Nat) (m : Nat) (w : World) (hn : xs.length = n) (hcap : n ≤ cap) (hm : n ≤ 1000000) (hmm : m ≤ 1000000) (ho : Okl xs) (hr : Rd w ad xs) :
    Calls Tryd.prog 44 #[.slice ad n cap, .int .i64 (m : Int)] w (Gives (val xs * 2 ^ m) w) := by
  have HO := Lib.hid ho
  have HN := Lib.hid hn
  have HS0 := Lib.hid (RHInv.start xs m)
  have HR := Lib.hid (fun W (h : Below w.heap.size w W) => hr.below h)
  clear hn ho hr
  have hq : (m : Int).tdiv 32 = ((m / 32 : Nat) : Int) := by rw [Int.tdiv_eq_ediv_of_nonneg (by omega)]; omega
  have hq0 : (m : Int) / 32 = ((m / 32 : Nat) : Int) := by omega
  have hr0 : (m : Int) % 32 = ((m % 32 : Nat) : Int) := by omega
  have hqb : m / 32 ≤ 40000 := by omega
  have hrb : m % 32 < 32 := by omega
  generalize hQ : m / 32 = Q at *
  generalize hR : m % 32 = R at *
  go_enter Tryd.func44, Tryd.ntmps44
  go_wp2_with (at_make; refine wpl_make _ rfl _ _ rfl _ _ _ _ (n + Q + 1) rfl rfl (by omega) (by omega) (by omega) ?_; intro w1 hB1 hb1)
  have HST := Lib.hid (show ShRel w.heap.size w.heap.size xs m w n (.int .i64 0) w1 from ⟨0, _, by rw [HN.out]; omega, by omega, rfl, HS0.out, by rw [HN.out]; exact hB1, hb1⟩)
  generalize hB : w.heap.size = B at *
  have HB := Lib.hid hB; clear hB
  clear hB1 hb1
  go_wp2
  go_loopg [6] n (fun g i wr => ShRel B B xs m w g i wr)
  case atStart => exact HST.out
  case round =>
    obtain ⟨i, zs, hk, hi, rfl, hinv, hbk, hbl⟩ := hrel
    rw [HN.out] at hk hi
    by_cases hp : i < n
    · obtain ⟨g, rfl⟩ : ∃ g, gk = g + 1 := ⟨gk - 1, by omega⟩
      obtain ⟨b1, o1, hd1, _, c1⟩ := HR.out wr hbl i (by rw [HN.out]; exact hp)
      subst hd1
      have hx : xs.getD i 0 < 4294967296 := HO.out.getD i
      have hpz : (i : Int) < (n : Int) := by omega
      have hzl := hinv.len
      rw [HN.out, hQ] at hzl
      have hzlt := hinv.lt
      rw [hQ, hR] at hzlt
      have hz1 := hinv.zero (Q + i + 1) (by rw [hQ]; omega)
      have hc0 := hbk.cell (i + Q) (by rw [hzl]; omega)
      have hc1 := hbk.cell (i + Q + 1) (by rw [hzl]; omega)
      rw [show i + Q + 1 = Q + i + 1 by omega, hz1, show Q + i + 1 = i + Q + 1 by omega] at hc1
      rw [show i + Q = Q + i by omega] at hc0
      have hf0 := hbk.free (i + Q)
      have hf1 := hbk.free (i + Q + 1)
      have hxx : ∃ x, xs.getD i 0 = x := ⟨_, rfl⟩
      obtain ⟨x, hxe⟩ := hxx
      obtain ⟨z, hze⟩ : ∃ z, zs.getD (Q + i) 0 = z := ⟨_, rfl⟩
      rw [hxe] at hx c1
      rw [hze] at hzlt hc0
      rw [show Q + i = i + Q by omega] at hc0
      have h2R : 2 ^ R ≤ 2147483648 := by
        have : 2 ^ R ≤ 2 ^ 31 := Nat.pow_le_pow_right (by decide) (by omega)
        simpa using this
      obtain ⟨S, hS⟩ : ∃ S, x * 2 ^ R = S := ⟨_, rfl⟩
      have hSb : S ≤ 4294967295 * 2147483648 := by rw [← hS]; exact Nat.mul_le_mul (by omega) h2R
      have hwS : IntKind.u64.wrap ((x : Int) * 2 ^ R) = (S : Int) := by
        have e : ((x : Int) * 2 ^ R) = (S : Int) := by rw [← hS]; simp
        have e2 : IntKind.u64.wrap (S : Int) = (S : Int) % 18446744073709551616 := by simp [IntKind.wrap, IntKind.bits, IntKind.signed]
        rw [e, e2]; omega
      have hSR : S % 4294967296 % 2 ^ R = 0 := by
        have hd : (4294967296 : Nat) = 2 ^ R * 2 ^ (32 - R) := by rw [← Nat.pow_add, show R + (32 - R) = 32 by omega]
        rw [hd, Nat.mod_mul_right_mod, ← hS, Nat.mul_mod_left]
      have hzS : z + S % 4294967296 < 4294967296 := by
        have hd : (4294967296 : Nat) = 2 ^ R * 2 ^ (32 - R) := by rw [← Nat.pow_add, show R + (32 - R) = 32 by omega]
        obtain ⟨t, ht⟩ : ∃ t, S % 4294967296 = 2 ^ R * t := ⟨_, (Nat.mul_div_cancel' (Nat.dvd_of_mod_eq_zero hSR)).symm⟩
        have hlt : 2 ^ R * t < 2 ^ R * 2 ^ (32 - R) := by rw [← ht, ← hd]; exact Nat.mod_lt _ (by decide)
        have htl := Nat.lt_of_mul_lt_mul_left hlt
        have h3 : 2 ^ R * (t + 1) ≤ 2 ^ R * 2 ^ (32 - R) := Nat.mul_le_mul_left _ htl
        rw [← hd, Nat.mul_add] at h3
        rw [ht]; omega
      have hor : bits .or .u32 (z : Int) ((S % 4294967296 : Nat) : Int) = ((z + S % 4294967296 : Nat) : Int) := or_small hzlt hSR (by omega) (Nat.mod_lt _ (by decide))
      have hor2 : bits .or .u32 0 ((S / 4294967296 : Nat) : Int) = ((S / 4294967296 : Nat) : Int) := or_none (by omega)
      have HNX := Lib.hid (hinv.next (x := x) (z := z) (S := S) HO.out (by rw [HN.out]; exact hp) hxe (by rw [hQ]; exact hze) (by rw [hR]; exact hS.symm) (by rw [B32_eq]; exact hzS))
      rw [hQ] at HNX
      have HBK := Lib.hid hbk; have HBL := Lib.hid hbl
      have hm1 : (S : Int) % 4294967296 = ((S % 4294967296 : Nat) : Int) := by omega
      have hm2 : (S : Int) / 4294967296 = ((S / 4294967296 : Nat) : Int) := by omega
      have hs1 : S % 4294967296 < 4294967296 := Nat.mod_lt _ (by decide)
      have hs2 : S / 4294967296 < 4294967296 := by omega
      have HNX2 := Lib.hid (show RHInv xs ((zs.set (Q + i) (z + S % 4294967296)).set (Q + i + 1) (S / 4294967296)) m (i + 1) from HNX.out)
      clear HNX
      clear hinv hbk hbl hSb hS hSR hzS hxe hze hz1 hzlt h2R
      generalize S % 4294967296 = S1 at *
      generalize S / 4294967296 = S2 at *
      generalize hZ1 : z + S1 = Z1 at *
      clear hZ1
      go_wp2
      go_roundg g
      case rel =>
        rw [set_blk HBK.out _ _ (by rw [hzl]; omega), set_blk (put_blk _ _ HBK.out.lt) _ _ (by rw [List.length_set, hzl]; omega), put_put]
        have e := HNX2.out
        rw [show Q + i = i + Q by omega] at e
        exact ⟨i + 1, _, by rw [HN.out]; omega, by rw [HN.out]; omega, rfl, e, put_blk _ _ HBK.out.lt, put_below HBL.out (Nat.le_refl _) _ _⟩
      case measure => omega
    · have hpz : ¬ (i : Int) < (n : Int) := by omega
      have hi2 : i = xs.length := by rw [HN.out]; omega
      have hval := (hi2 ▸ hinv : RHInv xs zs m xs.length).done
      have hown := hbk.own (B := B) (Nat.le_refl _) hinv.ok zs.length zs.length (Nat.le_refl _) (by simp) (by have := hinv.len; rw [HN.out, hQ] at this; unfold maxLen; omega)
      rw [List.take_length] at hown
      have KN := Lib.hid (refNorm_own hown hbl (by exact HB.out.symm) (by have := hinv.len; rw [HN.out, hQ] at this; omega))
      rw [hval, hinv.len, HN.out, hQ] at KN
      clear hval hown hi2 hinv hbk hbl
      go_wp2_with fail
      refine KN.out.mono ?_
      rintro e w' hg
      obtain ⟨v, rfl, h1, h2⟩ := hg
      have H1 := Lib.hid h1; have H2 := Lib.hid h2
      clear h1 h2
      go_wp2
      go_ret
      exact ⟨v, rfl, H1.out, H2.out⟩
end Go.Proofs.YtokppjfaihkkcaaDoor
