/- The walks of num's cmpSizes, Cmp. The walks of slices.Equal at limbs, of num's Same. -/
import Derived.Test.YtokppjfaihkkcaaDoorC2
import Derived.Test.YtokppjfaihkkcaaDoorShelf
import Derived.Lib.QuietBelow
namespace Go.Proofs.YtokppjfaihkkcaaDoor
open Go.RowKit Go.Sort
set_option linter.unusedVariables false
set_option linter.unusedSimpArgs false

theorem txt_list (l : List Nat) : (txt l).data.toList = l.map UInt8.ofNat := by simp [txt]
theorem cmpD_unf (N : Nat) (e : Int) (M : Nat) (f : Int) :
    cmpD N e M f = if Lib.compareInt (((dec N).length : Int) + e) (((dec M).length : Int) + f) = 0 then Lib.compareBytes (txt (dec N)).data.toList (txt (dec M)).data.toList else Lib.compareInt (((dec N).length : Int) + e) (((dec M).length : Int) + f) := by
  unfold cmpD Lib.compareInt
  rw [txt_list, txt_list]
  repeat' split
  all_goals first | rfl | omega

theorem ten_pow (k : Nat) : tenN (10 * k) = (10 ^ 10) ^ k := Nat.pow_mul _ _ _
theorem dec_len90 {xs : List Nat} (ho : Okl xs) (h : xs.length ≤ 90) : (dec (val xs)).length ≤ 900 := by
  refine dec_len_le (by omega) ?_
  have h1 := val_lt ho
  have h2 : B32 ^ xs.length ≤ B32 ^ 90 := Nat.pow_le_pow_right B32_pos h
  have h3 : B32 ^ 90 ≤ tenN (10 * 90) := by
    rw [ten_pow]
    exact Nat.pow_le_pow_left (by decide) 90
  exact Nat.lt_of_lt_of_le h1 (Nat.le_trans h2 h3)

/-- A number in the world: its value, its sign, its limbs, its tens; it may be. -/
structure NumOk (w : World) (neg : Bool) (ad : Option Addr) (n cap : Nat) (xs : List Nat) (e : Int) : Prop where
  len : xs.length = n
  cap : n ≤ cap
  ok : Okl xs
  rd : Rd w ad xs
  chk : chkB neg xs e = true
theorem NumOk.below {w w' : World} {neg : Bool} {ad : Option Addr} {n cap : Nat} {xs : List Nat} {e : Int} (h : NumOk w neg ad n cap xs e) (hb : Below w.heap.size w w') : NumOk w' neg ad n cap xs e :=
  ⟨h.len, h.cap, h.ok, h.rd.below hb, h.chk⟩
theorem NumOk.n90 {w : World} {neg : Bool} {ad : Option Addr} {n cap : Nat} {xs : List Nat} {e : Int} (h : NumOk w neg ad n cap xs e) : n ≤ 90 := by have := (chkB_bounds h.chk).1; have := h.len; omega
theorem NumOk.lo {w : World} {neg : Bool} {ad : Option Addr} {n cap : Nat} {xs : List Nat} {e : Int} (h : NumOk w neg ad n cap xs e) : -1200 ≤ e ∧ e ≤ 1200 := (chkB_bounds h.chk).2
theorem NumOk.same {w : World} {neg : Bool} {ad : Option Addr} {n cap : Nat} {xs : List Nat} {e : Int} (h : NumOk w neg ad n cap xs e) (W : World) (hb : Below w.heap.size w W) :
    Calls Tryd.prog 57 #[.agg #[.bool neg, .slice ad n cap, .int .i64 e]] W (NumBelow neg (.slice ad n cap) e W) :=
  orZero_yes neg ad n cap xs e W h.len h.cap (by have := h.n90; omega) h.ok (h.rd.below hb) h.chk

theorem sideN_cmp {na nb : Bool} {xs ys : List Nat} {e f : Int} {n n' : Nat} (hn : xs.length = n) (hn' : ys.length = n') (ha : chkB na xs e = true) (hb : chkB nb ys f = true) (ho : Okl xs) (ho' : Okl ys) :
    cmpZ (valZ na (val xs) e) (valZ nb (val ys) f) = if Lib.compareInt (sideN na n) (sideN nb n') = 0 then sideN na n * cmpD (val xs) e (val ys) f else Lib.compareInt (sideN na n) (sideN nb n') := by
  have key : ∀ {neg : Bool} {zs : List Nat} {g : Int} {m : Nat}, zs.length = m → chkB neg zs g = true → Okl zs → (m = 0 ∧ sideN neg m = 0 ∧ valZ neg (val zs) g = 0) ∨ (m ≠ 0 ∧ val zs % 10 ≠ 0 ∧ -1200 ≤ g ∧ ((neg = true ∧ sideN neg m = -1 ∧ valZ neg (val zs) g = -(sizeN (val zs) g : Int)) ∨ (neg = false ∧ sideN neg m = 1 ∧ valZ neg (val zs) g = (sizeN (val zs) g : Int))) ∧ 0 < sizeN (val zs) g) := by
    intro neg zs g m hm hc hz
    by_cases h0 : m = 0
    · left
      have hz0 : zs = [] := List.eq_nil_of_length_eq_zero (by omega)
      subst hz0
      refine ⟨h0, by unfold sideN; rw [if_pos h0], ?_⟩
      simp [valZ, val, sizeN_zero]
    · right
      have hz0 : zs ≠ [] := fun h => h0 (by rw [← hm, h]; rfl)
      obtain ⟨_, _, a, _, b⟩ := chkB_some hz0 hc
      have hv : val zs ≠ 0 := fun h => by rw [h] at b; exact b rfl
      refine ⟨h0, b, a, ?_, sizeN_pos hv⟩
      cases neg
      · right; exact ⟨rfl, by unfold sideN; rw [if_neg h0]; rfl, rfl⟩
      · left; exact ⟨rfl, by unfold sideN; rw [if_neg h0]; rfl, rfl⟩
  rcases key hn ha ho with ⟨_, h2, h3⟩ | ⟨_, b1, b2, (⟨_, h2, h3⟩ | ⟨_, h2, h3⟩), h4⟩ <;> rcases key hn' hb ho' with ⟨_, g2, g3⟩ | ⟨_, c1, c2, (⟨_, g2, g3⟩ | ⟨_, g2, g3⟩), g4⟩ <;> rw [h2, g2, h3, g3]
  · simp [Lib.compareInt, cmpZ]
  · rw [cmpZ_gt (by omega)]; simp [Lib.compareInt]
  · rw [cmpZ_lt (by omega)]; simp [Lib.compareInt]
  · rw [cmpZ_lt (by omega)]; simp [Lib.compareInt]
  · rw [cmpZ_neg, cmpZ_nat, cmpD_eq b1 c1 b2 c2]; simp [Lib.compareInt]
  · rw [cmpZ_lt (by omega)]; simp [Lib.compareInt]
  · rw [cmpZ_gt (by omega)]; simp [Lib.compareInt]
  · rw [cmpZ_gt (by omega)]; simp [Lib.compareInt]
  · rw [cmpZ_nat, cmpD_eq b1 c1 b2 c2]; simp [Lib.compareInt]

theorem below_drew {B : Nat} {a w : World} (h : Below B a w) : Below B a w.drew := h.trans ⟨rfl, rfl, rfl, Nat.le_refl _, fun _ _ => rfl⟩
theorem cmpD_bd (N : Nat) (e : Int) (M : Nat) (f : Int) : -1 ≤ cmpD N e M f ∧ cmpD N e M f ≤ 1 := by
  have key : ∀ a b : List UInt8, -1 ≤ Lib.compareBytes a b ∧ Lib.compareBytes a b ≤ 1 := by
    intro a
    induction a with
    | nil => intro b; cases b <;> simp [Lib.compareBytes]
    | cons x a ih =>
      intro b
      cases b with
      | nil => simp [Lib.compareBytes]
      | cons y b =>
        simp only [Lib.compareBytes]
        have := ih b
        repeat' split
        all_goals omega
  unfold cmpD
  have := key ((dec N).map UInt8.ofNat) ((dec M).map UInt8.ofNat)
  repeat' split
  all_goals omega
theorem mul_small {a b : Int} (h : -1 ≤ a ∧ a ≤ 1) (k : -1 ≤ b ∧ b ≤ 1) : -9223372036854775808 ≤ a * b ∧ a * b ≤ 9223372036854775807 := by
  obtain rfl | rfl | rfl : a = -1 ∨ a = 0 ∨ a = 1 := by omega
  all_goals omega
def CmpCut (w wx : World) (na : Bool) (va : Value) (e : Int) (nb : Bool) (vb : Value) (f : Int) : Prop :=
  Below w.heap.size w wx ∧ w.heap.size + 1 < wx.heap.size ∧ (wx.cell? ⟨w.heap.size, 0, none⟩ = some (.bool na) ∧ wx.cell? ⟨w.heap.size, 1, none⟩ = some va ∧ wx.cell? ⟨w.heap.size, 2, none⟩ = some (.int .i64 e)) ∧
    (wx.cell? ⟨w.heap.size + 1, 0, none⟩ = some (.bool nb) ∧ wx.cell? ⟨w.heap.size + 1, 1, none⟩ = some vb ∧ wx.cell? ⟨w.heap.size + 1, 2, none⟩ = some (.int .i64 f))

end Go.Proofs.YtokppjfaihkkcaaDoor
namespace Go.Proofs.YtokppjfaihkkcaaDoor
open Go.RowKit Go.Sort
set_option linter.unusedVariables false
set_option linter.unusedSimpArgs false

def EqRel (n : Nat) (xs ys : List Nat) (w : World) (i : Value) (wr : World) : Prop := ∃ (k q : Nat), k ≤ n ∧ i = .int .i64 (k : Int) ∧ (∀ j, j < k → xs.getD j 0 = ys.getD j 0) ∧ wr = w.drewN q
def EqPost (b : Bool) (w : World) (e : Ending) (w' : World) : Prop := e = .returned (.bool b) ∧ ∃ q, w' = w.drewN q

theorem getD_of_ne {xs ys : List Nat} {j : Nat} (h : xs.getD j 0 ≠ ys.getD j 0) : xs ≠ ys := fun h0 => h (by rw [h0])

theorem same_eq {na nb : Bool} {xs ys : List Nat} {e f : Int} : decide ((na = nb ∧ e = f) ∧ xs = ys) = ((decide (na = nb) && decide (e = f)) && decide (xs = ys)) := by simp

end Go.Proofs.YtokppjfaihkkcaaDoor
