/- The walks of Norm, Cmp, Add, Sub, Mul, Bits. The walks of Add, Sub, Mul, Bits. -/
import Derived.Test.YtogapgjilbcbfaaGreatDoorA3
namespace Go.Proofs.YtogapgjilbcbfaaGreatDoor
open Go.RowKit
set_option linter.unusedVariables false
set_option linter.unusedSimpArgs false

/-- The call answers the limbs of a natural, in new memory; what was there stays. -/
def Gives (N : Nat) (w : World) (e : Ending) (w' : World) : Prop :=
  ∃ v, e = .returned v ∧ Own w.heap.size w' v (limbs N) ∧ Below w.heap.size w w'

set_option maxHeartbeats 1000000 in
theorem norm_any (ad : Option Addr) (n cap : Nat) (xs : List Nat) (w : World) (hn : xs.length = n) (hcap : n ≤ cap) (hm : n ≤ 1000000000) (ho : Okl xs) (hr : Rd w ad xs) :
    Calls Tryz.prog 51 #[.slice ad n cap] w (Gives (val xs) w) := by
  have hcl := cutLen_le xs n
  have hce := cutLen_eq ho
  have hcv := cut_limbs ho
  rw [hn] at hce hcv
  have hr' : Rd w ad (limbs (val xs)) := by rw [← hcv]; exact hr.take _
  have HC := Lib.hid hcv; clear hcv
  generalize hc : cutLen xs n = c at *
  have HCC := Lib.hid hc; clear hc
  have HCE := Lib.hid hce.symm; clear hce
  have hr1 : ∀ w1, Below w.heap.size w w1 → Rd w1 ad (limbs (val xs)) := fun w1 hb => hr'.below hb
  have HR1 := Lib.hid hr1; clear hr1
  go_enter Tryz.func51, Tryz.ntmps51
  go_wp2_with (first
    | (go_at_call 56; refine (cut_any ad n cap xs w hn hcap (by omega) hr).mono ?_; rw [HCC.out]; rintro e w' ⟨rfl, rfl⟩)
    | (at_make; refine wpl_make _ rfl _ _ rfl _ _ _ _ c rfl rfl rfl rfl (by omega) ?_; intro w1 hB1 hb1)
    | (with_reducible refine wpl_copy rfl (.tmp 10) (.tmp 11) rfl _ _ _ _ _ _ rfl rfl _ (limbs (val xs)) _ hB1 List.length_replicate HCE.out (Nat.le_refl _) (HR1.out _ hb1) ?_))
  go_ret
  have hbk := put_blk (limbs (val xs)) [] hB1.lt
  refine ⟨_, rfl, ?_, put_below hb1 (Nat.le_refl _) _ _⟩
  have := hbk.own (Nat.le_refl _) (limbs_ok _) c c (by rw [HCE.out]; exact Nat.le_refl _) (by simp [HCE.out]) (by unfold maxLen; omega)
  rwa [List.take_of_length_le (by rw [HCE.out]; exact Nat.le_refl _)] at this

/-- The order of two naturals, as Cmp says it. -/
def cmpN (a b : Nat) : Int := if a < b then -1 else if a = b then 0 else 1
theorem cmpN_lt {a b : Nat} (h : a < b) : cmpN a b = -1 := by unfold cmpN; rw [if_pos h]
theorem cmpN_gt {a b : Nat} (h : b < a) : cmpN a b = 1 := by unfold cmpN; rw [if_neg (by omega), if_neg (by omega)]
theorem cmpN_eq (a : Nat) : cmpN a a = 0 := by unfold cmpN; rw [if_neg (by omega), if_pos rfl]
theorem cmpN_sign {a b : Nat} (h : a ≠ b) : cmpN a b = sgn (decide (a < b)) := by
  unfold sgn
  by_cases h1 : a < b
  · rw [cmpN_lt h1]; simp [h1]
  · rw [cmpN_gt (by omega)]; simp [h1]

theorem limbs_len_lt {a b : Nat} (h : (limbs a).length < (limbs b).length) : a < b := by
  rcases Nat.lt_or_ge a b with h1 | h1
  · exact h1
  · have := limbs_length_le (n := (limbs a).length) (N := b) (Nat.lt_of_le_of_lt h1 (limbs_lt_pow a))
    omega
theorem val_top_lt {xs ys : List Nat} (hx : Okl xs) (hy : Okl ys) (hl : xs.length = ys.length) (j : Nat) (hj : j < xs.length) (hs : ∀ i, j + 1 ≤ i → xs.getD i 0 = ys.getD i 0) (h : xs.getD j 0 < ys.getD j 0) : val xs < val ys := by
  have e : ∀ n, j + 1 ≤ n → n ≤ xs.length → val (xs.take n) < val (ys.take n) := by
    intro n
    induction n with
    | zero => intro h0; omega
    | succ n ih =>
      intro h1 h2
      rw [val_take_succ xs n (by omega), val_take_succ ys n (by omega)]
      by_cases hn : n = j
      · subst hn
        have b1 := val_lt (hx.take n)
        rw [List.length_take, Nat.min_eq_left (by omega)] at b1
        have : B32 ^ n * (xs.getD n 0 + 1) ≤ B32 ^ n * ys.getD n 0 := Nat.mul_le_mul_left _ h
        rw [Nat.mul_add, Nat.mul_one] at this
        omega
      · rw [hs n (by omega)]
        have := ih (by omega) (by omega)
        omega
  have := e xs.length (by omega) (Nat.le_refl _)
  rw [List.take_length, hl, List.take_length] at this
  exact this
theorem getD_out {xs : List Nat} {j : Nat} (h : xs.length ≤ j) : xs.getD j 0 = 0 := by simp [List.getD, h]
theorem list_eq_of_getD {xs ys : List Nat} (hl : xs.length = ys.length) (h : ∀ j, 0 ≤ j → xs.getD j 0 = ys.getD j 0) : xs = ys := by
  apply List.ext_getElem hl
  intro i h1 h2
  have := h i (by omega)
  simpa [List.getD, h1, h2] using this

theorem Calls.turn {P : Program} {f : FuncId} {args : Array Value} {w : World} {r : Ending} (h : Calls P f args w fun e w' => e = r ∧ w = w') : Calls P f args w fun e w' => e = r ∧ w' = w :=
  h.mono fun _ _ ⟨a, b⟩ => ⟨a, b.symm⟩

def CmpPost (a b : Nat) (w : World) (e : Ending) (w' : World) : Prop := e = .returned (.int .i64 (cmpN a b)) ∧ ∃ q, w' = w.drewN q

/-- Cmp at two lists of one length, none 0 at the top. -/
def CmpRel (X Y : List Nat) (c : Nat) (w : World) (i : Value) (wr : World) : Prop := ∃ (k q : Nat), k ≤ c ∧ i = .int .i64 ((k : Int) - 1) ∧ (∀ j, k ≤ j → X.getD j 0 = Y.getD j 0) ∧ wr = w.drewN q

end Go.Proofs.YtogapgjilbcbfaaGreatDoor
namespace Go.Proofs.YtogapgjilbcbfaaGreatDoor
open Go.RowKit
set_option linter.unusedVariables false
set_option linter.unusedSimpArgs false

/-- The contract of cut, told by the limbs of the natural. -/
theorem cut_nat (ad : Option Addr) (n cap : Nat) (xs : List Nat) (w : World) (hn : xs.length = n) (hcap : n ≤ cap) (hm : n ≤ 1000000000) (ho : Okl xs) (hr : Rd w ad xs) :
    Calls Tryz.prog 56 #[.slice ad n cap] w fun e w' => e = .returned (.slice ad (limbs (val xs)).length cap) ∧ w = w' := by
  have h := cutLen_eq ho
  rw [hn] at h
  rw [← h]
  exact cut_any ad n cap xs w hn hcap (by omega) hr
theorem rd_limbs {w : World} {ad : Option Addr} {xs : List Nat} (ho : Okl xs) (hr : Rd w ad xs) : Rd w ad (limbs (val xs)) := by
  rw [← cut_limbs ho]; exact hr.take _
theorem limbs_len_le {xs : List Nat} (ho : Okl xs) : (limbs (val xs)).length ≤ xs.length := by
  rw [← cutLen_eq ho]; exact cutLen_le _ _

/-- A block that the call made, cut, is the limbs of its natural. -/
theorem gives_cut {g cap : Nat} {ys : List Nat} {r : List Value} {w w' : World} (hb : Blk w' g ys r) (ho : Okl ys) (hc : cap = ys.length + r.length) (hm : cap ≤ maxLen) (hg : w.heap.size ≤ g) (hbl : Below w.heap.size w w') :
    Gives (val ys) w (.returned (.slice (some ⟨g, 0, none⟩) (limbs (val ys)).length cap)) w' := by
  refine ⟨_, rfl, ?_, hbl⟩
  have := hb.own hg ho (limbs (val ys)).length cap (limbs_len_le ho) hc hm
  rw [← cutLen_eq ho, cut_limbs ho, cutLen_eq ho] at this
  exact this

theorem win_full {ys zs : List Nat} {n : Nat} (hl : ys.length = n) (h : Win ys zs 0 n) : zs.length = n ∧ wv zs 0 n = val zs := by
  have h1 : zs.length = n := by rw [h.len, hl]
  refine ⟨h1, ?_⟩
  unfold wv; rw [List.drop_zero, List.take_of_length_le (by omega)]
theorem wv_full {ys : List Nat} {n : Nat} (hl : ys.length = n) : wv ys 0 n = val ys := by
  unfold wv; rw [List.drop_zero, List.take_of_length_le (by omega)]

/-- Add, where the first one has at least as many limbs. -/
theorem add_tail {X Y zs ys : List Nat} {cy : Nat} {n : Nat} (hn : ys.length = n + 1) (hX : X.length = n) (hY : val Y < B32 ^ n) (hoX : Okl X) (hys : ys = X ++ [0])
    (hw : Win ys zs 0 (n + 1)) (h : wv zs 0 (n + 1) + B32 ^ (n + 1) * cy = wv ys 0 (n + 1) + val Y) : val zs = val X + val Y := by
  obtain ⟨hl, hv⟩ := win_full hn hw
  rw [hv, wv_full hn, hys, val_append] at h
  simp only [val, Nat.mul_zero, Nat.add_zero] at h
  have hx := val_lt hoX
  rw [hX] at hx
  exact (no_carry h hx hY (pow_two_le n)).2

theorem sub_tail {X Y zs : List Nat} {q n : Nat} (hn : X.length = n) (hoz : Okl zs) (hw : Win X zs 0 n) (h : wv zs 0 n + 1 * val Y = wv X 0 n + B32 ^ n * q) (hle : val Y ≤ val X) : val zs = val X - val Y := by
  obtain ⟨hl, hv⟩ := win_full hn hw
  rw [hv, wv_full hn, Nat.one_mul] at h
  have hz := val_lt hoz
  rw [hl] at hz
  have : q = 0 := by
    rcases Nat.eq_zero_or_pos q with h0 | h0
    · exact h0
    · have h1 : B32 ^ n * 1 ≤ B32 ^ n * q := Nat.mul_le_mul_left _ h0
      omega
  rw [this] at h
  omega

theorem below_drewN' {B : Nat} {a w : World} (h : Below B a w) (n : Nat) : Below B a (w.drewN n) := h.trans ⟨rfl, rfl, rfl, Nat.le_refl _, fun _ _ => rfl⟩

theorem cmpN_le {a b : Nat} : (cmpN a b ≤ 0) ↔ a ≤ b := by unfold cmpN; split <;> (try split) <;> omega

end Go.Proofs.YtogapgjilbcbfaaGreatDoor
