/- The walks of the reference's Add, Sub. -/
import Derived.Test.YtogapgjilbcbfaaGreatDoorRq
import Derived.Deep.LoopGhost
import Derived.Deep.DeepCutAuto
namespace Go.Proofs.YtogapgjilbcbfaaGreatDoor
open Go.RowKit
set_option linter.unusedVariables false
set_option linter.unusedSimpArgs false

/-- The reference's Norm of a list that the call owns. -/
theorem refNorm_own {B : Nat} {v : Value} {zs : List Nat} {w0 w : World} (h : Own B w v zs) (hb : Below B w0 w) (hB : B = w0.heap.size) (hl : zs.length ≤ 100000000) :
    Calls Tryz.prog 55 #[v] w (Gives (val zs) w0) := by
  obtain ⟨ad, cap, rfl, hc, hr, _⟩ := h.view
  refine (refNorm_any ad zs.length cap zs w rfl hc hl h.1 hr).mono ?_
  rintro e w' ⟨v', rfl, ho, hb2⟩
  subst hB
  exact ⟨v', rfl, ho.mono hb.size, hb.trans (hb2.mono hb.size)⟩

theorem limb_keep (ad : Option Addr) (n cap : Nat) (xs : List Nat) (i : Nat) (w : World) (hn : xs.length = n) (hcap : n ≤ cap) (hm : n ≤ 1000000000) (hi : i ≤ 1000000000) (ho : Okl xs) (hr : Rd w ad xs) :
    Calls Tryz.prog 61 #[.slice ad n cap, .int .i64 (i : Int)] w fun e w' => e = .returned (.int .u64 ((xs.getD i 0 : Nat) : Int)) ∧ w = w' :=
  (limb_any ad n cap xs i w hn hcap hm hi ho hr).mono fun _ _ ⟨h1, h2⟩ => ⟨h1, h2.symm⟩
def AddRel (G m : Nat) (xs ys : List Nat) (w : World) (g : Nat) (l c i : Value) (wr : World) : Prop :=
  ∃ (k cy : Nat) (zs : List Nat), m + 1 - k ≤ g ∧ k ≤ m + 1 ∧ i = .int .i64 (k : Int) ∧ c = .int .u64 (cy : Int) ∧ RAInv xs ys zs k cy ∧ Own G wr l zs ∧ Below G w wr

def SubRel (G m : Nat) (xs ys : List Nat) (w : World) (g : Nat) (l c i : Value) (wr : World) : Prop :=
  ∃ (k cy : Nat) (zs : List Nat), m - k ≤ g ∧ k ≤ m ∧ i = .int .i64 (k : Int) ∧ c = .int .u64 (cy : Int) ∧ RSInv xs ys zs k cy ∧ Own G wr l zs ∧ Below G w wr
/-- The difference of two limbs and a carry, in 64 bits. -/
theorem sub_wrap {x y c : Nat} (hx : x < 4294967296) (hy : y < 4294967296) (hc : c ≤ 1) :
    ∃ D d b : Nat, d < 4294967296 ∧ b ≤ 1 ∧ x + 4294967296 * b = d + y + c ∧ IntKind.u64.wrap (IntKind.u64.wrap ((x : Int) - (y : Int)) - (c : Int)) = (D : Int) ∧ (D : Int) % 4294967296 = (d : Int) ∧ (D : Int) / 9223372036854775808 = (b : Int) ∧ D < 18446744073709551616 := by
  have e : ∀ z : Int, IntKind.u64.wrap z = z % 18446744073709551616 := fun z => by simp [IntKind.wrap, IntKind.bits, IntKind.signed]
  rw [e, e]
  by_cases h : y + c ≤ x
  · exact ⟨x - (y + c), x - (y + c), 0, by omega, by omega, by omega, by omega, by omega, by omega, by omega⟩
  · exact ⟨x + 18446744073709551616 - (y + c), x + 4294967296 - (y + c), 1, by omega, by omega, by omega, by omega, by omega, by omega, by omega⟩

end Go.Proofs.YtogapgjilbcbfaaGreatDoor
