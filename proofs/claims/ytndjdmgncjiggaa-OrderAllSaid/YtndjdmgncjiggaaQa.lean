/- Naturals by limbs of 32 bits: plain lists, no program. Slices of limbs in the world: read, owned, written. -/
import Derived.Test.YtndjdmgncjiggaaRows
import Derived.Below
import Derived.WalkKit
import Derived.WalkSpells
import Derived.WalkLawsBesides
import Derived.Deep.QuietTactic
import Derived.BigQuiet
import Derived.Lib.Hide
import Derived.Lib.Strings
import Derived.Lib.Slices
import Derived.Lib.Small
import Derived.Lib.Walk
import Derived.Lib.BitFns
import Derived.Laws.CopyOwn
import Derived.Deep.LoopGhost
namespace Go.Proofs.Ytndjdmgncjiggaa
open Go.RowKit
set_option linter.unusedVariables false
set_option linter.unusedSimpArgs false

/-- The base. -/
def B32 : Nat := 4294967296
theorem B32_eq : B32 = 4294967296 := rfl
theorem B32_pos : 0 < B32 := by decide

def val : List Nat → Nat
  | [] => 0
  | x :: xs => x + B32 * val xs

def Okl (xs : List Nat) : Prop := ∀ x ∈ xs, x < B32

theorem Okl.nil : Okl [] := by intro x h; cases h
theorem Okl.cons {x : Nat} {xs : List Nat} (h : x < B32) (hs : Okl xs) : Okl (x :: xs) := by
  intro y hy; rcases List.mem_cons.1 hy with rfl | hy
  · exact h
  · exact hs y hy
theorem Okl.head {x : Nat} {xs : List Nat} (h : Okl (x :: xs)) : x < B32 := h x (by simp)
theorem Okl.tail {x : Nat} {xs : List Nat} (h : Okl (x :: xs)) : Okl xs := fun y hy => h y (by simp [hy])
theorem Okl.take {xs : List Nat} (h : Okl xs) (n : Nat) : Okl (xs.take n) := fun y hy => h y (List.mem_of_mem_take hy)
theorem Okl.drop {xs : List Nat} (h : Okl xs) (n : Nat) : Okl (xs.drop n) := fun y hy => h y (List.mem_of_mem_drop hy)
theorem Okl.append {xs ys : List Nat} (h : Okl xs) (k : Okl ys) : Okl (xs ++ ys) := by
  intro y hy; rcases List.mem_append.1 hy with hy | hy
  · exact h y hy
  · exact k y hy
theorem Okl.set {xs : List Nat} (h : Okl xs) (i v : Nat) (hv : v < B32) : Okl (xs.set i v) := by
  intro y hy; rcases List.mem_or_eq_of_mem_set hy with hy | hy
  · exact h y hy
  · exact hy ▸ hv
theorem Okl.getD {xs : List Nat} (h : Okl xs) (i : Nat) : xs.getD i 0 < B32 := by
  by_cases hi : i < xs.length
  · simp only [List.getD, List.getElem?_eq_getElem hi, Option.getD_some]; exact h _ (List.getElem_mem hi)
  · simp only [List.getD, List.getElem?_eq_none (Nat.le_of_not_lt hi), Option.getD_none]; exact B32_pos
theorem Okl.replicate (n : Nat) : Okl (List.replicate n 0) := by
  intro y hy; rw [(List.mem_replicate.1 hy).2]; exact B32_pos

theorem val_append (xs ys : List Nat) : val (xs ++ ys) = val xs + B32 ^ xs.length * val ys := by
  induction xs with
  | nil => simp [val]
  | cons x xs ih => simp only [List.cons_append, val, ih, List.length_cons, Nat.pow_succ]; grind
theorem val_replicate (n : Nat) : val (List.replicate n 0) = 0 := by
  induction n with
  | zero => rfl
  | succ n ih => simp [List.replicate_succ, val, ih]
theorem val_lt {xs : List Nat} (h : Okl xs) : val xs < B32 ^ xs.length := by
  induction xs with
  | nil => simp [val]
  | cons x xs ih =>
    have h1 := h.head
    have h2 := ih h.tail
    simp only [val, List.length_cons, Nat.pow_succ]
    have : B32 * (val xs + 1) ≤ B32 * B32 ^ xs.length := Nat.mul_le_mul_left _ h2
    rw [Nat.mul_comm (B32 ^ xs.length)]
    rw [Nat.mul_add] at this; omega
theorem val_take_drop (xs : List Nat) (n : Nat) (h : n ≤ xs.length) : val xs = val (xs.take n) + B32 ^ n * val (xs.drop n) := by
  conv => lhs; rw [← List.take_append_drop n xs]
  rw [val_append, List.length_take, Nat.min_eq_left h]
theorem val_take_succ (xs : List Nat) (n : Nat) (h : n < xs.length) : val (xs.take (n + 1)) = val (xs.take n) + B32 ^ n * xs.getD n 0 := by
  rw [List.take_succ_eq_append_getElem h, val_append, List.length_take, Nat.min_eq_left (by omega)]
  simp [val, List.getD, h]
theorem val_set_take (xs : List Nat) (n v : Nat) (h : n < xs.length) : val ((xs.set n v).take (n + 1)) = val (xs.take n) + B32 ^ n * v := by
  rw [val_take_succ _ _ (by simpa using h), List.take_set_of_le (Nat.le_refl _)]
  simp [List.getD, h]

theorem two_le_B32 : 2 ≤ B32 := by decide
theorem pow_two_le (n : Nat) : 2 * B32 ^ n ≤ B32 ^ (n + 1) := by
  rw [Nat.pow_succ, Nat.mul_comm]; exact Nat.mul_le_mul_left _ two_le_B32
/-- A carry out of a number that is too small for it is none. -/
theorem no_carry {v x y P Q c : Nat} (h : v + Q * c = x + y) (hx : x < P) (hy : y < P) (hQ : 2 * P ≤ Q) : c = 0 ∧ v = x + y := by
  rcases Nat.eq_zero_or_pos c with h0 | h0
  · subst h0; exact ⟨rfl, by omega⟩
  · have h1 : Q * 1 ≤ Q * c := Nat.mul_le_mul_left Q h0
    omega

/-- The limbs of a natural: none 0 at the top. -/
def limbsF : Nat → Nat → List Nat
  | 0, _ => []
  | f + 1, N => if N = 0 then [] else N % B32 :: limbsF f (N / B32)
def limbs (N : Nat) : List Nat := limbsF N N

theorem limbsF_eq : ∀ (f g N : Nat), N ≤ f → N ≤ g → limbsF f N = limbsF g N := by
  intro f
  induction f with
  | zero => intro g N h _; obtain rfl : N = 0 := by omega
            cases g <;> simp [limbsF]
  | succ f ih =>
    intro g N h k
    cases g with
    | zero => obtain rfl : N = 0 := by omega
              simp [limbsF]
    | succ g =>
      simp only [limbsF]
      split
      · rfl
      · rename_i hN
        have : N / B32 < N := Nat.div_lt_self (by omega) (by decide)
        rw [ih g (N / B32) (by omega) (by omega)]
theorem limbs_zero : limbs 0 = [] := rfl
theorem limbs_pos {N : Nat} (h : N ≠ 0) : limbs N = N % B32 :: limbs (N / B32) := by
  unfold limbs
  obtain ⟨f, rfl⟩ : ∃ f, N = f + 1 := ⟨N - 1, by omega⟩
  conv => lhs; rw [limbsF, if_neg h]
  have : (f + 1) / B32 < f + 1 := Nat.div_lt_self (by omega) (by decide)
  rw [limbsF_eq f ((f + 1) / B32) _ (by omega) (Nat.le_refl _)]

theorem limbs_ind {P : Nat → Prop} (z : P 0) (s : ∀ N, N ≠ 0 → P (N / B32) → P N) : ∀ N, P N := by
  intro N
  induction N using Nat.strongRecOn with
  | _ N ih =>
    by_cases h : N = 0
    · subst h; exact z
    · exact s N h (ih _ (Nat.div_lt_self (by omega) (by decide)))

theorem limbs_ok (N : Nat) : Okl (limbs N) := by
  refine limbs_ind (P := fun N => Okl (limbs N)) ?_ ?_ N
  · exact Okl.nil
  · intro N h ih; rw [limbs_pos h]; exact Okl.cons (Nat.mod_lt _ B32_pos) ih
theorem val_limbs (N : Nat) : val (limbs N) = N := by
  refine limbs_ind (P := fun N => val (limbs N) = N) rfl ?_ N
  intro N h ih; rw [limbs_pos h, val, ih]; exact Nat.mod_add_div N B32
theorem limbs_nil_iff (N : Nat) : limbs N = [] ↔ N = 0 := by
  constructor
  · intro h; rw [← val_limbs N, h]; rfl
  · rintro rfl; rfl
theorem limbs_length_le {n N : Nat} (h : N < B32 ^ n) : (limbs N).length ≤ n := by
  induction n generalizing N with
  | zero => obtain rfl : N = 0 := by simp at h; exact h
            simp [limbs_zero]
  | succ n ih =>
    by_cases h0 : N = 0
    · subst h0; simp [limbs_zero]
    · rw [limbs_pos h0, List.length_cons]
      have : N / B32 < B32 ^ n := by rw [Nat.div_lt_iff_lt_mul B32_pos, ← Nat.pow_succ]; exact h
      have := ih this; omega
theorem limbs_lt_pow (N : Nat) : N < B32 ^ (limbs N).length := by
  have := val_lt (limbs_ok N); rwa [val_limbs] at this

/-- A list whose top is no 0 is the limbs of its natural. -/
theorem limbs_val {xs : List Nat} (h : Okl xs) (ht : ∀ n, xs.length = n + 1 → xs.getD n 0 ≠ 0) : limbs (val xs) = xs := by
  induction xs with
  | nil => rfl
  | cons x xs ih =>
    have hx : limbs (val xs) = xs := ih h.tail (fun n hn => by have := ht (n + 1) (by simp [hn]); simpa using this)
    have hne : val (x :: xs) ≠ 0 := by
      cases xs with
      | nil => have := ht 0 rfl; simp at this; simp [val]; omega
      | cons y ys =>
        intro h0
        simp only [val] at h0
        have h1 : B32 * (y + B32 * val ys) = 0 := by omega
        have h2 : val (y :: ys) = 0 := by
          simp only [val]; rcases Nat.mul_eq_zero.1 h1 with h | h
          · exact absurd h (by decide)
          · exact h
        rw [h2] at hx; cases hx
    rw [limbs_pos hne]
    have hm : val (x :: xs) % B32 = x := by simp only [val, Nat.add_mul_mod_self_left]; exact Nat.mod_eq_of_lt h.head
    have hd : val (x :: xs) / B32 = val xs := by simp only [val]; rw [Nat.add_mul_div_left _ _ B32_pos, Nat.div_eq_of_lt h.head, Nat.zero_add]
    rw [hm, hd, hx]

/-- How many limbs are left when the noughts at the top are cut. -/
def cutLen (xs : List Nat) : Nat → Nat
  | 0 => 0
  | n + 1 => if xs.getD n 0 = 0 then cutLen xs n else n + 1

theorem cutLen_le (xs : List Nat) : ∀ n, cutLen xs n ≤ n
  | 0 => Nat.le_refl _
  | n + 1 => by unfold cutLen; split; exact Nat.le_succ_of_le (cutLen_le xs n); exact Nat.le_refl _
theorem val_cut (xs : List Nat) : ∀ n, n ≤ xs.length → val (xs.take (cutLen xs n)) = val (xs.take n)
  | 0, _ => rfl
  | n + 1, h => by
    unfold cutLen; split
    · rename_i h0; rw [val_cut xs n (by omega), val_take_succ _ _ (by omega), h0]; simp
    · rfl
theorem cut_top (xs : List Nat) : ∀ n m, cutLen xs n = m + 1 → xs.getD m 0 ≠ 0
  | 0, m, h => by simp [cutLen] at h
  | n + 1, m, h => by
    unfold cutLen at h; split at h
    · exact cut_top xs n m h
    · rename_i h0; obtain rfl : n = m := by omega
      exact h0
theorem cut_limbs {xs : List Nat} (h : Okl xs) : xs.take (cutLen xs xs.length) = limbs (val xs) := by
  have hl := cutLen_le xs xs.length
  have e : val (xs.take (cutLen xs xs.length)) = val xs := by rw [val_cut _ _ (Nat.le_refl _), List.take_length]
  rw [← e]
  refine (limbs_val (h.take _) ?_).symm
  intro n hn
  rw [List.length_take, Nat.min_eq_left hl] at hn
  have := cut_top xs _ n hn
  simpa [List.getD, List.getElem?_take, hn] using this
theorem cutLen_eq {xs : List Nat} (h : Okl xs) : cutLen xs xs.length = (limbs (val xs)).length := by
  rw [← cut_limbs h, List.length_take, Nat.min_eq_left (cutLen_le _ _)]
theorem limbs_cutLen (N : Nat) : cutLen (limbs N) (limbs N).length = (limbs N).length := by
  rw [cutLen_eq (limbs_ok N), val_limbs]
end Go.Proofs.Ytndjdmgncjiggaa
namespace Go.Proofs.Ytndjdmgncjiggaa
open Go.RowKit
set_option linter.unusedVariables false
set_option linter.unusedSimpArgs false

/-- A limb as a value. -/
def lv (n : Nat) : Value := .int .u32 (n : Int)

/-- The cells that a slice's address leads to read as these limbs. -/
def Rd (w : World) (ad : Option Addr) (xs : List Nat) : Prop :=
  ∀ i, i < xs.length → ∃ b o, ad = some ⟨b, o, none⟩ ∧ b < w.heap.size ∧ w.cell? ⟨b, o + i, none⟩ = some (.int .u32 ((xs.getD i 0 : Nat) : Int))

theorem Rd.at {w : World} {b o : Nat} {xs : List Nat} (h : Rd w (some ⟨b, o, none⟩) xs) (i : Nat) (hi : i < xs.length) :
    w.cell? ⟨b, o + i, none⟩ = some (.int .u32 ((xs.getD i 0 : Nat) : Int)) := by
  obtain ⟨b', o', e, _, hc⟩ := h i hi
  cases e; exact hc
theorem Rd.lt {w : World} {ad : Option Addr} {xs : List Nat} (h : Rd w ad xs) (a : Addr) (e : ad = some a) (hx : 0 < xs.length) : a.block < w.heap.size := by
  obtain ⟨b, o, e', hb, _⟩ := h 0 hx
  rw [e] at e'; cases e'; exact hb
theorem Rd.apart {w : World} {ad : Option Addr} {xs : List Nat} (h : Rd w ad xs) {g : Nat} (hg : w.heap.size ≤ g) (a : Addr) (e : ad = some a) (hx : 0 < xs.length) : a.block ≠ g := by
  have := h.lt a e hx; omega
theorem Rd.nil (w : World) (ad : Option Addr) : Rd w ad [] := by intro i h; simp at h
theorem Rd.take {w : World} {ad : Option Addr} {xs : List Nat} (h : Rd w ad xs) (n : Nat) : Rd w ad (xs.take n) := by
  intro i hi
  rw [List.length_take] at hi
  obtain ⟨b, o, e, hb, hc⟩ := h i (by omega)
  exact ⟨b, o, e, hb, by rw [hc]; simp [List.getD, show i < n by omega]⟩
theorem Rd.below {w w' : World} {ad : Option Addr} {xs : List Nat} (h : Rd w ad xs) (hb : Below w.heap.size w w') : Rd w' ad xs := by
  intro i hi
  obtain ⟨b, o, e, hlt, hc⟩ := h i hi
  exact ⟨b, o, e, Nat.lt_of_lt_of_le hlt hb.size, by rw [hb.cell (p := ⟨b, o + i, none⟩) hlt]; exact hc⟩
/-- Block g holds these limbs, and then what r says; none of it frozen. -/
def Blk (w : World) (g : Nat) (ys : List Nat) (r : List Value) : Prop := w.heap[g]? = some (.cells (ys.map lv ++ r).toArray 59 (0, 0))
/-- The world with other limbs in block g. -/
def put (g : Nat) (ys : List Nat) (r : List Value) (w : World) : World := { w with heap := w.heap.setIfInBounds g (.cells (ys.map lv ++ r).toArray 59 (0, 0)) }

theorem Blk.lt {w : World} {g : Nat} {ys : List Nat} {r : List Value} (h : Blk w g ys r) : g < w.heap.size := by
  rcases Nat.lt_or_ge g w.heap.size with h1 | h1
  · exact h1
  · rw [Blk, Array.getElem?_eq_none h1] at h; cases h
theorem Blk.cell {w : World} {g : Nat} {ys : List Nat} {r : List Value} (h : Blk w g ys r) (i : Nat) (hi : i < ys.length) :
    w.cell? ⟨g, i, none⟩ = some (.int .u32 ((ys.getD i 0 : Nat) : Int)) := by
  unfold Blk at h
  have e : (List.map lv ys ++ r)[i]? = some (lv (ys.getD i 0)) := by
    rw [List.getElem?_append_left (by simpa using hi)]
    simp [List.getD, hi]
  simp only [World.cell?, h]
  simpa [lv] using e
theorem Blk.free {w : World} {g : Nat} {ys : List Nat} {r : List Value} (h : Blk w g ys r) (i : Nat) : w.frozen? ⟨g, i, none⟩ = false := by
  unfold Blk at h
  simp [World.frozen?, h]
theorem Blk.rd {w : World} {g : Nat} {ys : List Nat} {r : List Value} (h : Blk w g ys r) (o n : Nat) (hn : o + n ≤ ys.length) : Rd w (some ⟨g, o, none⟩) ((ys.drop o).take n) := by
  intro i hi
  rw [List.length_take, List.length_drop] at hi
  refine ⟨g, o, rfl, h.lt, ?_⟩
  rw [h.cell (o + i) (by omega)]
  simp [List.getD, show i < n by omega]
theorem Blk.rd_all {w : World} {g : Nat} {ys : List Nat} {r : List Value} (h : Blk w g ys r) : Rd w (some ⟨g, 0, none⟩) ys := by
  have := h.rd 0 ys.length (by omega)
  simpa using this
theorem put_heap (g : Nat) (ys : List Nat) (r : List Value) (w : World) : (put g ys r w).heap.size = w.heap.size := by simp [put]
theorem put_blk {w : World} {g : Nat} (ys : List Nat) (r : List Value) (h : g < w.heap.size) : Blk (put g ys r w) g ys r := by
  simp [Blk, put, h]
theorem put_put (g : Nat) (ys zs : List Nat) (r r' : List Value) (w : World) : put g ys r (put g zs r' w) = put g ys r w := by
  simp [put]
theorem put_other (g : Nat) (ys : List Nat) (r : List Value) (w : World) (k : Nat) (h : k ≠ g) : (put g ys r w).heap[k]? = w.heap[k]? := by
  simp only [put]; rw [Array.getElem?_setIfInBounds_ne (by omega)]
theorem put_cell (g : Nat) (ys : List Nat) (r : List Value) (w : World) (a : Addr) (h : a.block ≠ g) : (put g ys r w).cell? a = w.cell? a :=
  World.cell?_of_block (put_other g ys r w _ h)
theorem put_same {w : World} {g : Nat} {ys : List Nat} {r : List Value} (h : Blk w g ys r) : put g ys r w = w := by
  have hlt := h.lt
  unfold Blk at h
  have e : w.heap.setIfInBounds g (.cells (ys.map lv ++ r).toArray 59 (0, 0)) = w.heap := by
    apply Array.ext_getElem?
    intro k
    by_cases hk : k = g
    · subst hk; rw [Array.getElem?_setIfInBounds_self_of_lt hlt, h]
    · rw [Array.getElem?_setIfInBounds_ne (by omega)]
  simp only [put]; rw [e]
theorem set_blk {w : World} {g : Nat} {ys : List Nat} {r : List Value} (h : Blk w g ys r) (i v : Nat) (hi : i < ys.length) : w.setCell ⟨g, i, none⟩ (.int .u32 (v : Int)) = put g (ys.set i v) r w := by
  have hlt := h.lt
  unfold Blk at h
  have e : (w.setCell ⟨g, i, none⟩ (.int .u32 (v : Int))).heap = w.heap.setIfInBounds g (.cells ((ys.set i v).map lv ++ r).toArray 59 (0, 0)) := by
    apply Array.ext_getElem?
    intro k
    simp only [World.setCell, Array.getElem?_modify]
    by_cases hk : g = k
    · subst hk; rw [Array.getElem?_setIfInBounds_self_of_lt hlt, h]; simp [lv, hi]
    · rw [if_neg hk, Array.getElem?_setIfInBounds_ne hk]
  unfold put; rw [← e]; rfl
theorem put_below {B : Nat} {a w : World} (h : Below B a w) {g : Nat} (hg : B ≤ g) (ys : List Nat) (r : List Value) : Below B a (put g ys r w) :=
  h.trans ⟨rfl, rfl, rfl, by rw [put_heap]; exact Nat.le_refl _, fun k hk => put_other g ys r w k (by omega)⟩
theorem Rd.put {w : World} {ad : Option Addr} {xs : List Nat} (h : Rd w ad xs) {g : Nat} (hne : ∀ a, ad = some a → 0 < xs.length → a.block ≠ g) (ys : List Nat) (r : List Value) : Rd (put g ys r w) ad xs := by
  intro i hi
  obtain ⟨b, o, e, hb, hc⟩ := h i hi
  exact ⟨b, o, e, by rw [put_heap]; exact hb, by rw [put_cell g ys r w ⟨b, o + i, none⟩ (hne ⟨b, o, none⟩ e (by omega))]; exact hc⟩
theorem Rd.drewN {w : World} {ad : Option Addr} {xs : List Nat} (h : Rd w ad xs) (q : Nat) : Rd (w.drewN q) ad xs := h
theorem Blk.drewN {w : World} {g : Nat} {ys : List Nat} {r : List Value} (h : Blk w g ys r) (q : Nat) : Blk (w.drewN q) g ys r := h
theorem Blk.below {w w' : World} {g : Nat} {ys : List Nat} {r : List Value} (h : Blk w g ys r) {B : Nat} (hb : Below B w w') (hg : g < B) : Blk w' g ys r := by
  unfold Blk; rw [hb.block g hg]; exact h

/-- A slice of limbs that the call owns: at the head of a block from B on, or none. -/
def Own (B : Nat) (w : World) (v : Value) (xs : List Nat) : Prop :=
  Okl xs ∧ ((v = .slice none 0 0 ∧ xs = []) ∨ ∃ g cap r, v = .slice (some ⟨g, 0, none⟩) xs.length cap ∧ B ≤ g ∧ Blk w g xs r ∧ cap = xs.length + r.length ∧ cap ≤ maxLen)
theorem Own.nil (B : Nat) (w : World) : Own B w (.slice none 0 0) [] := ⟨Okl.nil, .inl ⟨rfl, rfl⟩⟩
/-- What is owned can be read; its address lies from B on. -/
theorem Own.view {B : Nat} {w : World} {v : Value} {xs : List Nat} (h : Own B w v xs) :
    ∃ ad cap, v = .slice ad xs.length cap ∧ xs.length ≤ cap ∧ Rd w ad xs ∧ ∀ a, ad = some a → B ≤ a.block ∧ a.block < w.heap.size := by
  obtain ⟨_, ⟨rfl, rfl⟩ | ⟨g, cap, r, rfl, hg, hb, hc, _⟩⟩ := h
  · exact ⟨none, 0, rfl, Nat.le_refl _, Rd.nil _ _, fun a h => by cases h⟩
  · exact ⟨_, cap, rfl, by omega, hb.rd_all, fun a h => by cases h; exact ⟨hg, hb.lt⟩⟩
theorem Own.mono {B B' : Nat} {w : World} {v : Value} {xs : List Nat} (h : Own B w v xs) (hB : B' ≤ B) : Own B' w v xs := by
  obtain ⟨ho, h | ⟨g, cap, r, e, hg, hb, hc⟩⟩ := h
  · exact ⟨ho, .inl h⟩
  · exact ⟨ho, .inr ⟨g, cap, r, e, by omega, hb, hc⟩⟩
theorem Own.below {B : Nat} {w w' : World} {v : Value} {xs : List Nat} (h : Own B w v xs) (hb : Below w.heap.size w w') : Own B w' v xs := by
  obtain ⟨ho, h | ⟨g, cap, r, e, hg, hk, hc⟩⟩ := h
  · exact ⟨ho, .inl h⟩
  · exact ⟨ho, .inr ⟨g, cap, r, e, hg, hk.below hb hk.lt, hc⟩⟩
theorem Own.drewN {B : Nat} {w : World} {v : Value} {xs : List Nat} (h : Own B w v xs) (q : Nat) : Own B (w.drewN q) v xs := h
theorem Okl.of_cut {xs : List Nat} (h : Okl xs) (n : Nat) : Okl (xs.take n) := h.take n
/-- A piece at the head of what is owned is owned. -/
theorem Blk.own {w : World} {g B : Nat} {ys : List Nat} {r : List Value} (h : Blk w g ys r) (hg : B ≤ g) (ho : Okl ys) (n cap : Nat) (hn : n ≤ ys.length) (hc : cap = ys.length + r.length) (hm : cap ≤ maxLen) :
    Own B w (.slice (some ⟨g, 0, none⟩) n cap) (ys.take n) := by
  refine ⟨ho.take n, .inr ⟨g, cap, (ys.drop n).map lv ++ r, ?_, hg, ?_, ?_, hm⟩⟩
  · rw [List.length_take, Nat.min_eq_left hn]
  · unfold Blk at h ⊢; rw [h, ← List.append_assoc, ← List.map_append, List.take_append_drop]
  · simp; omega
end Go.Proofs.Ytndjdmgncjiggaa
/- The walks of nat's small functions: cut, sign. The walk of addTimes. The walks of the functions of math bits that nat calls. -/
namespace Go.Proofs.Ytndjdmgncjiggaa
open Go.RowKit
set_option linter.unusedVariables false
set_option linter.unusedSimpArgs false

/-- What sign answers. -/
def sgn (b : Bool) : Int := if b then -1 else 1

end Go.Proofs.Ytndjdmgncjiggaa
namespace Go.Proofs.Ytndjdmgncjiggaa
open Go.RowKit
set_option linter.unusedVariables false
set_option linter.unusedSimpArgs false

/-- Two lists of one length that part in a window alone. -/
structure Win (ys zs : List Nat) (o m : Nat) : Prop where
  len : zs.length = ys.length
  lo : zs.take o = ys.take o
  hi : zs.drop (o + m) = ys.drop (o + m)
theorem Win.refl (ys : List Nat) (o m : Nat) : Win ys ys o m := ⟨rfl, rfl, rfl⟩
theorem Win.set {ys zs : List Nat} {o m : Nat} (h : Win ys zs o m) (k v : Nat) (hk : k < m) : Win ys (zs.set (o + k) v) o m := by
  refine ⟨by rw [List.length_set]; exact h.len, ?_, ?_⟩
  · rw [List.take_set_of_le (by omega)]; exact h.lo
  · rw [List.drop_set_of_lt (by omega)]; exact h.hi

/-- The value of a window. -/
def wv (ys : List Nat) (o k : Nat) : Nat := val ((ys.drop o).take k)
theorem wv_zero (ys : List Nat) (o : Nat) : wv ys o 0 = 0 := by simp [wv, val]
theorem wv_succ (ys : List Nat) (o k : Nat) (h : o + k < ys.length) : wv ys o (k + 1) = wv ys o k + B32 ^ k * ys.getD (o + k) 0 := by
  unfold wv
  rw [val_take_succ _ _ (by rw [List.length_drop]; omega)]
  simp [List.getD]
theorem wv_set (ys : List Nat) (o k v : Nat) (h : o + k < ys.length) : wv (ys.set (o + k) v) o (k + 1) = wv ys o k + B32 ^ k * v := by
  rw [wv_succ _ _ _ (by rw [List.length_set]; exact h)]
  have e : wv (ys.set (o + k) v) o k = wv ys o k := by
    unfold wv; rw [List.drop_set, if_neg (by omega), List.take_set_of_le (by omega)]
  rw [e]; simp [List.getD, h]

theorem mul_bd {x f : Nat} (hx : x < B32) (hf : f < B32) : 0 ≤ (x : Int) * (f : Int) ∧ (x : Int) * (f : Int) ≤ 18446744065119617025 := by
  rw [B32_eq] at hx hf
  have h := Nat.mul_le_mul (Nat.le_of_lt_succ hx) (Nat.le_of_lt_succ hf)
  have e : (x : Int) * (f : Int) = ((x * f : Nat) : Int) := by push_cast; rfl
  rw [e]; omega

def AddTimesPost (g o m : Nat) (ys xs : List Nat) (f : Nat) (r : List Value) (w : World) (e : Ending) (w' : World) : Prop :=
  e = .returned (.tuple #[]) ∧ ∃ zs, Win ys zs o (m + 1) ∧ Okl zs ∧ wv zs o (m + 1) = wv ys o m + f * val xs ∧ w' = put g zs r w

def ATRel (g o m : Nat) (ys xs : List Nat) (f : Nat) (r : List Value) (w : World) (c i : Value) (wr : World) : Prop :=
  ∃ (k cy : Nat) (zs : List Nat), k ≤ m ∧ i = .int .i64 k ∧ c = .int .u64 cy ∧ cy < B32 ∧ Win ys zs o (m + 1) ∧ Okl zs ∧ (∀ j, k ≤ j → zs.getD (o + j) 0 = ys.getD (o + j) 0) ∧
    wv zs o k + B32 ^ k * cy = wv ys o k + f * val (xs.take k) ∧ wr = put g zs r w

theorem win_ext {zs ys : List Nat} {o k : Nat} {v : Nat} (h : ∀ j, k ≤ j → zs.getD (o + j) 0 = ys.getD (o + j) 0) : ∀ j, k + 1 ≤ j → (zs.set (o + k) v).getD (o + j) 0 = ys.getD (o + j) 0 := by
  intro j hj
  rw [← h j (by omega)]
  simp only [List.getD]
  rw [List.getElem?_set_ne (by omega)]

theorem at_num {x f z cy B a P W V : Nat} (h : a + P * cy = W + f * V) (_hB : 0 < B) : a + P * ((x * f + z + cy) % B) + P * B * ((x * f + z + cy) / B) = W + P * z + f * (V + P * x) := by
  have h2 := Nat.mod_add_div (x * f + z + cy) B
  generalize (x * f + z + cy) % B = r at *
  generalize (x * f + z + cy) / B = q at *
  have h3 : P * (r + B * q) = P * (x * f + z + cy) := by rw [h2]
  grind

theorem at_step {g o m k cy f x z : Nat} {ys xs zs : List Nat} {r : List Value} {w : World} (hxl : xs.length = m) (hyl : o + m + 1 ≤ ys.length) (hk : k < m) (hcy : cy < B32) (hf : f < B32) (hx : xs.getD k 0 = x) (hz : zs.getD (o + k) 0 = z) (hxb : x < B32) (hzb : z < B32)
    (hb : Blk w g ys r) (hwin : Win ys zs o (m + 1)) (hoz : Okl zs) (hs : ∀ j, k ≤ j → zs.getD (o + j) 0 = ys.getD (o + j) 0) (he : wv zs o k + B32 ^ k * cy = wv ys o k + f * val (xs.take k)) :
    ATRel g o m ys xs f r w (.int .u64 (((x : Int) * (f : Int) + (z : Int) + (cy : Int)) / 4294967296)) (.int .i64 ((k : Int) + 1)) ((put g zs r w).setCell ⟨g, o + k, none⟩ (.int .u32 (((x : Int) * (f : Int) + (z : Int) + (cy : Int)) % 4294967296))) := by
  have e1 : ((x : Int) * (f : Int) + (z : Int) + (cy : Int)) / 4294967296 = (((x * f + z + cy) / B32 : Nat) : Int) := by rw [B32_eq]; omega
  have e2 : ((x : Int) * (f : Int) + (z : Int) + (cy : Int)) % 4294967296 = (((x * f + z + cy) % B32 : Nat) : Int) := by rw [B32_eq]; omega
  rw [e1, e2, set_blk (put_blk _ _ hb.lt) _ _ (by rw [hwin.len]; omega), put_put]
  have hbd : x * f ≤ 18446744065119617025 := by
    rw [B32_eq] at hxb hf
    exact Nat.mul_le_mul (Nat.le_of_lt_succ hxb) (Nat.le_of_lt_succ hf)
  refine ⟨k + 1, _, zs.set (o + k) ((x * f + z + cy) % B32), hk, rfl, rfl, ?_, hwin.set _ _ (by omega), hoz.set _ _ (Nat.mod_lt _ B32_pos), win_ext hs, ?_, rfl⟩
  · rw [Nat.div_lt_iff_lt_mul B32_pos]; rw [B32_eq] at *; omega
  · rw [wv_set _ _ _ _ (by rw [hwin.len]; omega), wv_succ ys o k (by omega), ← hs k (Nat.le_refl _), hz, val_take_succ xs k (by omega), hx, Nat.pow_succ]
    exact at_num he B32_pos

theorem at_end {g o m cy f : Nat} {ys xs zs : List Nat} {r : List Value} {w : World} (hxl : xs.length = m) (hyl : o + m + 1 ≤ ys.length) (hcy : cy < B32)
    (hb : Blk w g ys r) (hwin : Win ys zs o (m + 1)) (hoz : Okl zs) (he : wv zs o m + B32 ^ m * cy = wv ys o m + f * val (xs.take m)) :
    AddTimesPost g o m ys xs f r w (.returned (.tuple #[])) ((put g zs r w).setCell ⟨g, o + m, none⟩ (.int .u32 ((cy : Int) % 4294967296))) := by
  have e2 : (cy : Int) % 4294967296 = (cy : Int) := by rw [B32_eq] at hcy; omega
  rw [e2, set_blk (put_blk _ _ hb.lt) _ _ (by rw [hwin.len]; omega), put_put]
  refine ⟨rfl, zs.set (o + m) cy, hwin.set _ _ (by omega), hoz.set _ _ hcy, ?_, rfl⟩
  rw [wv_set _ _ _ _ (by rw [hwin.len]; omega), he, List.take_of_length_le (by omega)]

end Go.Proofs.Ytndjdmgncjiggaa
namespace Go.Proofs.Ytndjdmgncjiggaa
open Go.RowKit
set_option linter.unusedVariables false
set_option linter.unusedSimpArgs false

def smd (x y c : Nat) : Nat := (x + y + c) % 4294967296
def cry (x y c : Nat) : Nat := (x + y + c) / 4294967296
theorem smd_lt (x y c : Nat) : smd x y c < 4294967296 := Nat.mod_lt _ (by decide)
theorem cry_le {x y c : Nat} (hx : x < 4294967296) (hy : y < 4294967296) (hc : c ≤ 1) : cry x y c ≤ 1 := by unfold cry; omega
theorem smd_eq (x y c : Nat) : smd x y c + 4294967296 * cry x y c = x + y + c := by unfold smd cry; omega

theorem ret1_eq {k1 : IntKind} {a a' : Int} (h1 : a = a') : Ending.returned (.int k1 a) = .returned (.int k1 a') := by rw [h1]
theorem ret2_eq {k1 k2 : IntKind} {a a' b b' : Int} (h1 : a = a') (h2 : b = b') : Ending.returned (.tuple #[.int k1 a, .int k2 b]) = .returned (.tuple #[.int k1 a', .int k2 b']) := by rw [h1, h2]

/-- What is borrowed. -/
def brw (x y c : Nat) : Nat := if x < y + c then 1 else 0
theorem brw_le (x y c : Nat) : brw x y c ≤ 1 := by unfold brw; split <;> omega
def dif (x y c : Nat) : Nat := (x + 4294967296 - y - c) % 4294967296
theorem dif_lt (x y c : Nat) : dif x y c < 4294967296 := Nat.mod_lt _ (by decide)
theorem dif_eq {x y c : Nat} (hx : x < 4294967296) (hy : y < 4294967296) (hc : c ≤ 1) : x + 4294967296 * brw x y c = dif x y c + y + c := by
  unfold brw dif; split <;> omega

theorem top_bit (n : Nat) (h : n < 4294967296) : n / 2147483648 = (n.testBit 31).toNat := by
  rw [Nat.testBit_eq_decide_div_mod_eq]
  have : n / 2 ^ 31 = n / 2147483648 := rfl
  rw [this]
  by_cases h1 : n / 2147483648 % 2 = 1
  · simp [h1]; omega
  · simp [h1]; omega
theorem tb_ge (n : Nat) (h : n < 4294967296) : n.testBit 31 = decide (2147483648 ≤ n) := by
  have h1 := top_bit n h
  by_cases h2 : 2147483648 ≤ n
  · have : n / 2147483648 = 1 := by omega
    rw [this] at h1
    cases hb : n.testBit 31
    · rw [hb] at h1; simp at h1
    · simp [h2]
  · have : n / 2147483648 = 0 := by omega
    rw [this] at h1
    cases hb : n.testBit 31
    · simp [h2]
    · rw [hb] at h1; simp at h1
theorem borrow_nat {x y c : Nat} (hx : x < 4294967296) (hy : y < 4294967296) (hc : c ≤ 1) :
    (((4294967295 ^^^ x) &&& y) ||| ((4294967295 ^^^ (x ^^^ y)) &&& dif x y c)) / 2147483648 = brw x y c := by
  have hd := dif_lt x y c
  have hM : (4294967295 : Nat) < 2 ^ 32 := by decide
  have b1 : (4294967295 ^^^ x) &&& y < 2 ^ 32 := Nat.and_lt_two_pow _ hy
  have b2 : (4294967295 ^^^ (x ^^^ y)) &&& dif x y c < 2 ^ 32 := Nat.and_lt_two_pow _ hd
  rw [top_bit _ (Nat.or_lt_two_pow b1 b2)]
  simp only [Nat.testBit_or, Nat.testBit_and, Nat.testBit_xor]
  rw [tb_ge x hx, tb_ge y hy, tb_ge _ hd, show Nat.testBit 4294967295 31 = true by decide]
  have he := dif_eq hx hy hc
  have hb := brw_le x y c
  generalize brw x y c = q at *
  generalize dif x y c = d at *
  clear b1 b2 hM
  by_cases h1 : 2147483648 ≤ x <;> by_cases h2 : 2147483648 ≤ y <;> by_cases h3 : 2147483648 ≤ d <;> simp [h1, h2, h3] <;> omega
theorem borrow_int {x y c : Nat} (hx : x < 4294967296) (hy : y < 4294967296) (hc : c ≤ 1) :
    bits BinOp.or IntKind.u32 (bits BinOp.and IntKind.u32 (bits BinOp.xor IntKind.u32 IntKind.u32.max ↑x) ↑y)
      (bits BinOp.and IntKind.u32 (bits BinOp.xor IntKind.u32 IntKind.u32.max (bits BinOp.xor IntKind.u32 ↑x ↑y)) (((x : Int) - ↑y - ↑c) % 4294967296)) / 2147483648 = ((brw x y c : Nat) : Int) := by
  have hd := dif_lt x y c
  have hM : (4294967295 : Nat) < 2 ^ 32 := by decide
  have ed : ((x : Int) - ↑y - ↑c) % 4294967296 = ((dif x y c : Nat) : Int) := by unfold dif; omega
  have em : IntKind.u32.max = ((4294967295 : Nat) : Int) := by decide
  have x1 : 4294967295 ^^^ x < 2 ^ 32 := Nat.xor_lt_two_pow hM hx
  have x2 : x ^^^ y < 2 ^ 32 := Nat.xor_lt_two_pow hx hy
  have x3 : 4294967295 ^^^ (x ^^^ y) < 2 ^ 32 := Nat.xor_lt_two_pow hM x2
  have b1 : (4294967295 ^^^ x) &&& y < 2 ^ 32 := Nat.and_lt_two_pow _ hy
  have b2 : (4294967295 ^^^ (x ^^^ y)) &&& dif x y c < 2 ^ 32 := Nat.and_lt_two_pow _ hd
  rw [ed, em, u32_xor_nat _ _ (by decide) hx, u32_xor_nat _ _ hx hy, u32_xor_nat _ _ (by decide) x2, u32_and_nat _ _ x1 hy, u32_and_nat _ _ x3 hd, u32_or_nat _ _ b1 b2, ← borrow_nat hx hy hc]
  omega

/-- How many bits a limb has. -/
def blen (x : Nat) : Nat := Lib.bitLen x

theorem blen_le (x : Nat) (hx : x < 4294967296) : blen x ≤ 32 := Lib.bitLen_le x 32 (by decide) hx

end Go.Proofs.Ytndjdmgncjiggaa
/- The walks of addTo and takeTimes. The walk of takeTimes. make and copy of limbs, as laws of the walk. -/
namespace Go.Proofs.Ytndjdmgncjiggaa
open Go.RowKit
set_option linter.unusedVariables false
set_option linter.unusedSimpArgs false

theorem wv_ext {zs ys : List Nat} {o k : Nat} (hl : zs.length = ys.length) (h : ∀ j, k ≤ j → zs.getD (o + j) 0 = ys.getD (o + j) 0) :
    ∀ n, k ≤ n → o + n ≤ ys.length → wv zs o n + wv ys o k = wv ys o n + wv zs o k := by
  intro n
  induction n with
  | zero => intro h0 _; obtain rfl : k = 0 := by omega
            omega
  | succ n ih =>
    intro hk hn
    by_cases hkn : k = n + 1
    · subst hkn; omega
    · have := ih (by omega) (by omega)
      rw [wv_succ zs o n (by omega), wv_succ ys o n (by omega), h n (by omega)]; omega

/-- What addTo and its like leave: the list in block g, parted in the window alone. -/
def AddToPost (g o n : Nat) (ys xs : List Nat) (r : List Value) (w : World) (e : Ending) (w' : World) : Prop :=
  ∃ zs cy, e = .returned (.int .u32 ((cy : Nat) : Int)) ∧ cy ≤ 1 ∧ Win ys zs o n ∧ Okl zs ∧ wv zs o n + B32 ^ n * cy = wv ys o n + val xs ∧ w' = put g zs r w

def ADRel (g o n : Nat) (ys xs : List Nat) (k0 : Nat) (r : List Value) (w : World) (c i : Value) (wr : World) : Prop :=
  ∃ (k cy : Nat) (zs : List Nat), k ≤ n ∧ k0 ≤ k ∧ i = .int .i64 k ∧ c = .int .u32 cy ∧ cy ≤ 1 ∧ Win ys zs o n ∧ Okl zs ∧ (∀ j, k ≤ j → zs.getD (o + j) 0 = ys.getD (o + j) 0) ∧
    wv zs o k + B32 ^ k * cy = wv ys o k + val (xs.take k) ∧ wr = put g zs r w

theorem ad_num {x z cy B a P W V s q : Nat} (h : a + P * cy = W + V) (e : s + B * q = z + x + cy) : a + P * s + P * B * q = W + P * z + (V + P * x) := by
  have h3 : P * (s + B * q) = P * (z + x + cy) := by rw [e]
  grind

theorem ad_step {g o n k cy x z : Nat} {ys xs zs : List Nat} {r : List Value} {w : World} {k0 : Nat} (hyl : o + n ≤ ys.length) (hk : k < n) (hk0 : k0 ≤ k) (hcy : cy ≤ 1) (hx : val (xs.take (k + 1)) = val (xs.take k) + B32 ^ k * x) (hz : zs.getD (o + k) 0 = z) (hxb : x < B32) (hzb : z < B32)
    (hb : Blk w g ys r) (hwin : Win ys zs o n) (hoz : Okl zs) (hs : ∀ j, k ≤ j → zs.getD (o + j) 0 = ys.getD (o + j) 0) (he : wv zs o k + B32 ^ k * cy = wv ys o k + val (xs.take k)) :
    ADRel g o n ys xs k0 r w (.int .u32 ((cry z x cy : Nat) : Int)) (.int .i64 ((k : Int) + 1)) ((put g zs r w).setCell ⟨g, o + k, none⟩ (.int .u32 ((smd z x cy : Nat) : Int))) := by
  rw [set_blk (put_blk _ _ hb.lt) _ _ (by rw [hwin.len]; omega), put_put]
  refine ⟨k + 1, _, zs.set (o + k) (smd z x cy), hk, by omega, rfl, rfl, cry_le hzb hxb hcy, hwin.set _ _ (by omega), hoz.set _ _ (smd_lt _ _ _), win_ext hs, ?_, rfl⟩
  rw [wv_set _ _ _ _ (by rw [hwin.len]; omega), wv_succ ys o k (by omega), ← hs k (Nat.le_refl _), hz, hx, Nat.pow_succ]
  exact ad_num he (smd_eq z x cy)

theorem ad_end {g o n k cy : Nat} {ys xs zs : List Nat} {r : List Value} {w : World} (hyl : o + n ≤ ys.length) (hk : k ≤ n) (hm : xs.length ≤ k) (hcy : cy ≤ 1) (hout : k = n ∨ cy = 0)
    (hwin : Win ys zs o n) (hoz : Okl zs) (hs : ∀ j, k ≤ j → zs.getD (o + j) 0 = ys.getD (o + j) 0) (he : wv zs o k + B32 ^ k * cy = wv ys o k + val (xs.take k)) :
    AddToPost g o n ys xs r w (.returned (.int .u32 (cy : Int))) (put g zs r w) := by
  refine ⟨zs, cy, rfl, hcy, hwin, hoz, ?_, rfl⟩
  rw [List.take_of_length_le hm] at he
  rcases hout with rfl | rfl
  · exact he
  · have := wv_ext hwin.len hs n hk hyl
    simp only [Nat.mul_zero, Nat.add_zero] at he ⊢
    omega

end Go.Proofs.Ytndjdmgncjiggaa
namespace Go.Proofs.Ytndjdmgncjiggaa
open Go.RowKit
set_option linter.unusedVariables false
set_option linter.unusedSimpArgs false

/-- What takeTimes leaves: what was too much is q, times the base as often as the list has limbs. -/
def TakePost (g o n : Nat) (ys xs : List Nat) (f : Nat) (r : List Value) (w : World) (e : Ending) (w' : World) : Prop :=
  ∃ zs q, e = .returned (.bool (decide ((0 : Int) < (q : Nat)))) ∧ Win ys zs o n ∧ Okl zs ∧ wv zs o n + f * val xs = wv ys o n + B32 ^ n * q ∧ w' = put g zs r w

def TKRel (g o n : Nat) (ys xs : List Nat) (f k0 : Nat) (r : List Value) (w : World) (c br i : Value) (wr : World) : Prop :=
  ∃ (k cy bo : Nat) (zs : List Nat), k ≤ n ∧ k0 ≤ k ∧ i = .int .i64 k ∧ c = .int .u64 cy ∧ br = .int .u32 bo ∧ cy < B32 ∧ bo ≤ 1 ∧ Win ys zs o n ∧ Okl zs ∧ (∀ j, k ≤ j → zs.getD (o + j) 0 = ys.getD (o + j) 0) ∧
    wv zs o k + f * val (xs.take k) = wv ys o k + B32 ^ k * (cy + bo) ∧ wr = put g zs r w

theorem tk_num {x z c b c' b' B a P W V f d l : Nat} (h : a + f * V = W + P * (c + b)) (e1 : l + B * c' = x * f + c) (e2 : z + B * b' = d + l + b) : a + P * d + f * (V + P * x) = W + P * z + P * B * (c' + b') := by
  have h3 : P * (l + B * c') = P * (x * f + c) := by rw [e1]
  have h4 : P * (z + B * b') = P * (d + l + b) := by rw [e2]
  grind

theorem tk_step {g o n k k0 cy bo x z f c' l : Nat} {ys xs zs : List Nat} {r : List Value} {w : World} (hyl : o + n ≤ ys.length) (hk : k < n) (hk0 : k0 ≤ k) (hbo : bo ≤ 1) (hx : val (xs.take (k + 1)) = val (xs.take k) + B32 ^ k * x) (hz : zs.getD (o + k) 0 = z) (hzb : z < B32)
    (hc' : c' < B32) (hl : l < B32) (el : l + B32 * c' = x * f + cy)
    (hb : Blk w g ys r) (hwin : Win ys zs o n) (hoz : Okl zs) (hs : ∀ j, k ≤ j → zs.getD (o + j) 0 = ys.getD (o + j) 0) (he : wv zs o k + f * val (xs.take k) = wv ys o k + B32 ^ k * (cy + bo)) :
    TKRel g o n ys xs f k0 r w (.int .u64 ((c' : Nat) : Int)) (.int .u32 ((brw z l bo : Nat) : Int)) (.int .i64 ((k : Int) + 1)) ((put g zs r w).setCell ⟨g, o + k, none⟩ (.int .u32 ((dif z l bo : Nat) : Int))) := by
  rw [set_blk (put_blk _ _ hb.lt) _ _ (by rw [hwin.len]; omega), put_put]
  refine ⟨k + 1, c', brw z l bo, zs.set (o + k) (dif z l bo), hk, by omega, rfl, rfl, rfl, hc', brw_le _ _ _, hwin.set _ _ (by omega), hoz.set _ _ (dif_lt _ _ _), win_ext hs, ?_, rfl⟩
  rw [wv_set _ _ _ _ (by rw [hwin.len]; omega), wv_succ ys o k (by omega), ← hs k (Nat.le_refl _), hz, hx, Nat.pow_succ]
  exact tk_num he el (dif_eq hzb hl hbo)

theorem tk_end {g o n k cy bo f : Nat} {ys xs zs : List Nat} {r : List Value} {w : World} (hyl : o + n ≤ ys.length) (hk : k ≤ n) (hm : xs.length ≤ k) (hout : k = n ∨ cy + bo = 0)
    (hwin : Win ys zs o n) (hoz : Okl zs) (hs : ∀ j, k ≤ j → zs.getD (o + j) 0 = ys.getD (o + j) 0) (he : wv zs o k + f * val (xs.take k) = wv ys o k + B32 ^ k * (cy + bo)) :
    TakePost g o n ys xs f r w (.returned (.bool (decide ((0 : Int) < (cy : Int) + (bo : Int))))) (put g zs r w) := by
  refine ⟨zs, cy + bo, by rw [Int.natCast_add], hwin, hoz, ?_, rfl⟩
  rw [List.take_of_length_le hm] at he
  rcases hout with rfl | h0
  · exact he
  · have := wv_ext hwin.len hs n hk hyl
    rw [h0] at he ⊢
    simp only [Nat.mul_zero, Nat.add_zero] at he ⊢
    omega

end Go.Proofs.Ytndjdmgncjiggaa
namespace Go.Proofs.Ytndjdmgncjiggaa
open Go.RowKit
set_option linter.unusedVariables false
set_option linter.unusedSimpArgs false

theorem info_u32 : (Try.prog.info? 59).map (fun i => (i.zero, i.size, i.bytes)) = some (some (.int .u32 0), 1, 4) := by kernel_rfl
theorem lv_zero : lv 0 = .int .u32 0 := rfl

theorem made_zero (n : Nat) : (madeCells (Value.cells (.int .u32 0)) n).toList = (List.replicate n 0).map lv ++ [] := by
  simp only [madeCells, List.append_nil]
  apply List.ext_getElem
  · simp
  · intro i h1 h2; simp [Value.cells, lv, Nat.mod_one]

theorem wpl_make (w : World) {ops : Array Oper} {rest : List Oper} {o : Oper} {a : Act} {Q : Exit → Act → World → Prop}
    (hg : o.guard = none) (l c : Operand) (hop : o.op = Op.makeSlice 27 l c) (kl kc : IntKind) (L C : Int) (n : Nat)
    (hl : a.eval l = .int kl L) (hc : a.eval c = .int kc C) (hL : L = (n : Int)) (hC : C = (n : Int)) (hn : n ≤ 1000000000000)
    (hK : ∀ w', Blk w' w.heap.size (List.replicate n 0) [] → Below w.heap.size w w' → wpList Try.prog ops Q rest (a.put o.dst (.slice (some ⟨w.heap.size, 0, none⟩) n n)) w') :
    wpList Try.prog ops Q (o :: rest) a w := by
  obtain ⟨i0, hi, hz0, hz1, hz2⟩ := info_parts info_u32
  refine wpList_make_full w hg l c 27 hop w.heap.size 59 i0 (.int .u32 0) 1 Try.underlying27 hi hz0 hz1 kl kc L C n hl hc hL hC (by rw [hz2]; omega) (by unfold maxLen; omega) (Nat.le_refl _) ?_
  intro w' ho hgr
  refine hK w' ?_ ((Below.refl _ _).grown hgr (Nat.le_refl _) (fun k h => by cases h))
  obtain ⟨hl', h | ⟨g, cap, cur, e, _, hh, _, _, hs, ht⟩⟩ := ho
  · exact absurd h.1 (by simp)
  · simp only [Value.slice.injEq, Option.some.injEq, Addr.mk.injEq] at e
    obtain ⟨⟨rfl, _⟩, _, rfl⟩ := e
    unfold Blk
    rw [hh, ← made_zero]
    have : cur.toList = (madeCells (Value.cells (.int .u32 0)) n).toList := by
      have h2 := ht
      rw [List.take_of_length_le (by simp [hs])] at h2
      simpa using h2
    rw [← this]

theorem wpl_copy {w : World} {ops : Array Oper} {rest : List Oper} {o : Oper} {a : Act} {Q : Exit → Act → World → Prop} (hgd : o.guard = none) (d s : Operand)
    (ho : o.op = .call { callee := .builtin .copy, args := #[d, s], argTypes := #[27, 27] }) (g n cap : Nat) (ad : Option Addr) (m cap' : Nat)
    (hd : a.eval d = .slice (some ⟨g, 0, none⟩) n cap) (hs : a.eval s = .slice ad m cap') (ys xs : List Nat) (r : List Value) (hb : Blk w g ys r) (hy : ys.length = n) (hx : xs.length = m) (hmn : m ≤ n) (hr : Rd w ad xs)
    (h : wpList Try.prog ops Q rest (a.put o.dst (goInt m)) (put g (xs ++ ys.drop m) r w)) : wpList Try.prog ops Q (o :: rest) a w := by
  have hsz : (Try.prog.info? 59).map (·.size) = some 1 := by kernel_rfl
  by_cases h0 : m = 0
  · subst h0
    obtain rfl : xs = [] := List.eq_nil_of_length_eq_zero hx
    refine wpList_copy_nothing hgd d s _ _ ho 59 Try.underlying27 hsz _ _ _ _ _ _ hd hs (by simp) ?_
    rw [List.nil_append, List.drop_zero, put_same hb] at h
    exact h
  · obtain ⟨b, o', e, _, _⟩ := hr 0 (by omega)
    subst e
    refine wpList_copy_own hgd d s _ _ ho 59 Try.underlying27 hsz g 0 n cap ⟨b, o', none⟩ m cap' hd hs _ _ hb (xs.map lv) (by rw [List.length_map, hx]; exact (Nat.min_eq_left hmn).symm) ?_ (by simp; omega) ?_ ?_
    · intro j v hj
      have hjl : j < xs.length := by
        rcases Nat.lt_or_ge j xs.length with h1 | h1
        · exact h1
        · rw [List.getElem?_eq_none (by simpa using h1)] at hj; cases hj
      have hc := hr.at j hjl
      have e : (Addr.add ⟨b, o', none⟩ j) = ⟨b, o' + j, none⟩ := by unfold Addr.add; split <;> simp_all
      rw [e, hc]
      rw [List.getElem?_map, List.getElem?_eq_getElem hjl] at hj
      simp only [Option.map_some, Option.some.injEq] at hj
      rw [← hj]; simp [lv, List.getD, hjl]
    · intro v hv
      obtain ⟨x, _, rfl⟩ := List.mem_map.1 hv
      rfl
    · have e : w.setRow g ((List.map lv ys ++ r).toArray.toList.take 0 ++ (xs.map lv ++ (List.map lv ys ++ r).toArray.toList.drop (0 + (xs.map lv).length))).toArray = put g (xs ++ ys.drop m) r w := by
        have hlt := hb.lt
        unfold Blk at hb
        have e2 : (w.setRow g ((List.map lv ys ++ r).toArray.toList.take 0 ++ (xs.map lv ++ (List.map lv ys ++ r).toArray.toList.drop (0 + (xs.map lv).length))).toArray).heap = (put g (xs ++ ys.drop m) r w).heap := by
          apply Array.ext_getElem?
          intro k
          by_cases hk : k = g
          · subst hk
            rw [setRow_heap _ _ _ _ _ _ hb]
            simp only [put]
            rw [Array.getElem?_setIfInBounds_self_of_lt hlt]
            simp only [List.take_zero, List.nil_append, List.length_map, Nat.zero_add, hx, List.map_append, List.map_drop, List.append_assoc]
            rw [List.drop_append_of_le_length (by simp; omega)]
          · rw [setRow_other _ _ _ _ hk, put_other _ _ _ _ _ hk]
        unfold World.setRow at e2 ⊢
        unfold put at e2 ⊢
        simp only at e2
        rw [e2]
      rw [e]
      rw [List.length_map, hx]
      exact h

theorem Own.row {B : Nat} {w : World} {v : Value} {xs : List Nat} (h : Own B w v xs) : w.ownsRow B 59 1 v xs.length (xs.map lv) := by
  obtain ⟨_, ⟨rfl, rfl⟩ | ⟨g, cap, r, rfl, hg, hb, hc, hm⟩⟩ := h
  · exact ⟨by simp, .inl ⟨rfl, rfl⟩⟩
  · refine ⟨by simp, .inr ⟨g, cap, _, rfl, hg, hb, by omega, hm, by simp; omega, ?_⟩⟩
    simp
theorem own_of_row {B : Nat} {w : World} {v : Value} {n : Nat} {xs : List Nat} (h : w.ownsRow B 59 1 v n (xs.map lv)) (ho : Okl xs) : Own B w v xs := by
  obtain ⟨hl, ⟨rfl, rfl⟩ | ⟨g, cap, cur, rfl, hg, hb, hc, hm, hs, ht⟩⟩ := h
  · have : xs = [] := List.eq_nil_of_length_eq_zero (by simpa using hl)
    subst this
    exact Own.nil _ _
  · simp only [List.length_map, Nat.mul_one] at hl
    subst hl
    refine ⟨ho, .inr ⟨g, cap, cur.toList.drop xs.length, rfl, hg, ?_, ?_, hm⟩⟩
    · unfold Blk; rw [hb]
      have : cur = (xs.map lv ++ cur.toList.drop xs.length).toArray := by
        rw [← ht, Nat.mul_one, List.take_append_drop]
      rw [← this]
    · have : cur.toList.length = cap := by simpa using hs
      rw [List.length_drop, this]; omega
theorem Own.blockGe {B : Nat} {w : World} {v : Value} {xs : List Nat} (h : Own B w v xs) : ∀ k, v.ownBlock = some k → B ≤ k := by
  obtain ⟨_, ⟨rfl, rfl⟩ | ⟨g, cap, r, rfl, hg, _⟩⟩ := h
  · intro k e; cases e
  · intro k e; cases e; exact hg

theorem wpl_append {w : World} {ops : Array Oper} {rest : List Oper} {o : Oper} {a : Act} {Q : Exit → Act → World → Prop} (hgd : o.guard = none) (s x : Operand)
    (ho : o.op = .call { callee := .builtin .append, args := #[s, x], argTypes := #[27, 27] }) (B : Nat) (v : Value) (xs : List Nat) (hs : a.eval s = v) (hown : Own B w v xs)
    (ad : Addr) (c : Nat) (y : Nat) (hx : a.eval x = .slice (some ad) 1 c) (hy : y < B32) (hc : w.cell? ad = some (.int .u32 (y : Int))) (hl : xs.length ≤ 1000000000) (hB : B ≤ w.heap.size)
    (h : ∀ v' w', Own B w' v' (xs ++ [y]) → Below B w w' → w.grownBy w' v.ownBlock → wpList Try.prog ops Q rest (a.put o.dst v') w') : wpList Try.prog ops Q (o :: rest) a w := by
  obtain ⟨i0, hi, hz0, hz1, hz2⟩ := info_parts info_u32
  refine wpList_append_own w hgd s x 27 ho B 59 i0 (.int .u32 0) 1 4 Try.underlying27 hi hz0 hz1 hz2 rfl (by decide) v xs.length (xs.map lv) hs hown.row ad 1 c [lv y] hx rfl ?_ ?_ (by unfold maxLen; omega) (by omega) hB ?_
  · intro j u hj
    rcases j with _ | j
    · simp only [List.getElem?_cons_zero, Option.some.injEq] at hj
      subst hj; simpa [Addr.add, lv] using hc
    · simp at hj
  · intro u hu; simp only [List.mem_singleton] at hu; subst hu; rfl
  · intro v' w' hown' hgr _
    refine h v' w' ?_ ((Below.refl _ _).grown hgr hB hown.blockGe) hgr
    have e : xs.map lv ++ [lv y] = (xs ++ [y]).map lv := by simp
    rw [e] at hown'
    exact own_of_row hown' (hown.1.append (Okl.cons hy Okl.nil))
end Go.Proofs.Ytndjdmgncjiggaa
/- The walks of Norm, Cmp, Add, Sub, Mul, Bits. The walks of Add, Sub, Mul, Bits. -/
namespace Go.Proofs.Ytndjdmgncjiggaa
open Go.RowKit
set_option linter.unusedVariables false
set_option linter.unusedSimpArgs false

/-- The call answers the limbs of a natural, in new memory; what was there stays. -/
def Gives (N : Nat) (w : World) (e : Ending) (w' : World) : Prop :=
  ∃ v, e = .returned v ∧ Own w.heap.size w' v (limbs N) ∧ Below w.heap.size w w'

/-- The order of two naturals, as Cmp says it. -/
def cmpN (a b : Nat) : Int := if a < b then -1 else if a = b then 0 else 1
theorem cmpN_lt {a b : Nat} (h : a < b) : cmpN a b = -1 := by unfold cmpN; rw [if_pos h]
theorem cmpN_gt {a b : Nat} (h : b < a) : cmpN a b = 1 := by unfold cmpN; rw [if_neg (by omega), if_neg (by omega)]
theorem cmpN_eq (a : Nat) : cmpN a a = 0 := by unfold cmpN; rw [if_neg (by omega), if_pos rfl]
theorem cmpN_sign {a b : Nat} (h : a ≠ b) : cmpN a b = sgn (decide (a < b)) := by
  unfold sgn
  by_cases h1 : a < b
  · rw [cmpN_lt h1]; simp [h1]
  · rw [cmpN_gt (by omega)]; simp [h1]

theorem limbs_len_lt {a b : Nat} (h : (limbs a).length < (limbs b).length) : a < b := by
  rcases Nat.lt_or_ge a b with h1 | h1
  · exact h1
  · have := limbs_length_le (n := (limbs a).length) (N := b) (Nat.lt_of_le_of_lt h1 (limbs_lt_pow a))
    omega
theorem val_top_lt {xs ys : List Nat} (hx : Okl xs) (hy : Okl ys) (hl : xs.length = ys.length) (j : Nat) (hj : j < xs.length) (hs : ∀ i, j + 1 ≤ i → xs.getD i 0 = ys.getD i 0) (h : xs.getD j 0 < ys.getD j 0) : val xs < val ys := by
  have e : ∀ n, j + 1 ≤ n → n ≤ xs.length → val (xs.take n) < val (ys.take n) := by
    intro n
    induction n with
    | zero => intro h0; omega
    | succ n ih =>
      intro h1 h2
      rw [val_take_succ xs n (by omega), val_take_succ ys n (by omega)]
      by_cases hn : n = j
      · subst hn
        have b1 := val_lt (hx.take n)
        rw [List.length_take, Nat.min_eq_left (by omega)] at b1
        have : B32 ^ n * (xs.getD n 0 + 1) ≤ B32 ^ n * ys.getD n 0 := Nat.mul_le_mul_left _ h
        rw [Nat.mul_add, Nat.mul_one] at this
        omega
      · rw [hs n (by omega)]
        have := ih (by omega) (by omega)
        omega
  have := e xs.length (by omega) (Nat.le_refl _)
  rw [List.take_length, hl, List.take_length] at this
  exact this
theorem getD_out {xs : List Nat} {j : Nat} (h : xs.length ≤ j) : xs.getD j 0 = 0 := by simp [List.getD, h]
theorem list_eq_of_getD {xs ys : List Nat} (hl : xs.length = ys.length) (h : ∀ j, 0 ≤ j → xs.getD j 0 = ys.getD j 0) : xs = ys := by
  apply List.ext_getElem hl
  intro i h1 h2
  have := h i (by omega)
  simpa [List.getD, h1, h2] using this

theorem Calls.turn {P : Program} {f : FuncId} {args : Array Value} {w : World} {r : Ending} (h : Calls P f args w fun e w' => e = r ∧ w = w') : Calls P f args w fun e w' => e = r ∧ w' = w :=
  h.mono fun _ _ ⟨a, b⟩ => ⟨a, b.symm⟩

def CmpPost (a b : Nat) (w : World) (e : Ending) (w' : World) : Prop := e = .returned (.int .i64 (cmpN a b)) ∧ ∃ q, w' = w.drewN q

/-- Cmp at two lists of one length, none 0 at the top. -/
def CmpRel (X Y : List Nat) (c : Nat) (w : World) (i : Value) (wr : World) : Prop := ∃ (k q : Nat), k ≤ c ∧ i = .int .i64 ((k : Int) - 1) ∧ (∀ j, k ≤ j → X.getD j 0 = Y.getD j 0) ∧ wr = w.drewN q

end Go.Proofs.Ytndjdmgncjiggaa
namespace Go.Proofs.Ytndjdmgncjiggaa
open Go.RowKit
set_option linter.unusedVariables false
set_option linter.unusedSimpArgs false

theorem rd_limbs {w : World} {ad : Option Addr} {xs : List Nat} (ho : Okl xs) (hr : Rd w ad xs) : Rd w ad (limbs (val xs)) := by
  rw [← cut_limbs ho]; exact hr.take _
theorem limbs_len_le {xs : List Nat} (ho : Okl xs) : (limbs (val xs)).length ≤ xs.length := by
  rw [← cutLen_eq ho]; exact cutLen_le _ _

/-- A block that the call made, cut, is the limbs of its natural. -/
theorem gives_cut {g cap : Nat} {ys : List Nat} {r : List Value} {w w' : World} (hb : Blk w' g ys r) (ho : Okl ys) (hc : cap = ys.length + r.length) (hm : cap ≤ maxLen) (hg : w.heap.size ≤ g) (hbl : Below w.heap.size w w') :
    Gives (val ys) w (.returned (.slice (some ⟨g, 0, none⟩) (limbs (val ys)).length cap)) w' := by
  refine ⟨_, rfl, ?_, hbl⟩
  have := hb.own hg ho (limbs (val ys)).length cap (limbs_len_le ho) hc hm
  rw [← cutLen_eq ho, cut_limbs ho, cutLen_eq ho] at this
  exact this

theorem win_full {ys zs : List Nat} {n : Nat} (hl : ys.length = n) (h : Win ys zs 0 n) : zs.length = n ∧ wv zs 0 n = val zs := by
  have h1 : zs.length = n := by rw [h.len, hl]
  refine ⟨h1, ?_⟩
  unfold wv; rw [List.drop_zero, List.take_of_length_le (by omega)]
theorem wv_full {ys : List Nat} {n : Nat} (hl : ys.length = n) : wv ys 0 n = val ys := by
  unfold wv; rw [List.drop_zero, List.take_of_length_le (by omega)]

/-- Add, where the first one has at least as many limbs. -/
theorem add_tail {X Y zs ys : List Nat} {cy : Nat} {n : Nat} (hn : ys.length = n + 1) (hX : X.length = n) (hY : val Y < B32 ^ n) (hoX : Okl X) (hys : ys = X ++ [0])
    (hw : Win ys zs 0 (n + 1)) (h : wv zs 0 (n + 1) + B32 ^ (n + 1) * cy = wv ys 0 (n + 1) + val Y) : val zs = val X + val Y := by
  obtain ⟨hl, hv⟩ := win_full hn hw
  rw [hv, wv_full hn, hys, val_append] at h
  simp only [val, Nat.mul_zero, Nat.add_zero] at h
  have hx := val_lt hoX
  rw [hX] at hx
  exact (no_carry h hx hY (pow_two_le n)).2

theorem sub_tail {X Y zs : List Nat} {q n : Nat} (hn : X.length = n) (hoz : Okl zs) (hw : Win X zs 0 n) (h : wv zs 0 n + 1 * val Y = wv X 0 n + B32 ^ n * q) (hle : val Y ≤ val X) : val zs = val X - val Y := by
  obtain ⟨hl, hv⟩ := win_full hn hw
  rw [hv, wv_full hn, Nat.one_mul] at h
  have hz := val_lt hoz
  rw [hl] at hz
  have : q = 0 := by
    rcases Nat.eq_zero_or_pos q with h0 | h0
    · exact h0
    · have h1 : B32 ^ n * 1 ≤ B32 ^ n * q := Nat.mul_le_mul_left _ h0
      omega
  rw [this] at h
  omega

theorem below_drewN' {B : Nat} {a w : World} (h : Below B a w) (n : Nat) : Below B a (w.drewN n) := h.trans ⟨rfl, rfl, rfl, Nat.le_refl _, fun _ _ => rfl⟩

theorem cmpN_le {a b : Nat} : (cmpN a b ≤ 0) ↔ a ≤ b := by unfold cmpN; split <;> (try split) <;> omega

end Go.Proofs.Ytndjdmgncjiggaa
/- The walks of Mul, Bits. The walk of timesPlus. The walks of shrink, guess. -/
namespace Go.Proofs.Ytndjdmgncjiggaa
open Go.RowKit
set_option linter.unusedVariables false
set_option linter.unusedSimpArgs false

theorem val_take_add (l : List Nat) (k m : Nat) (h : k + m ≤ l.length) : val (l.take (k + m)) = val (l.take k) + B32 ^ k * wv l k m := by
  rw [List.take_add, val_append, List.length_take, Nat.min_eq_left (by omega)]; rfl
theorem mul_num {A x P Y T : Nat} (h : T = A * Y) : T + P * (x * Y) = (A + P * x) * Y := by subst h; grind

def MulRel (g c c' : Nat) (X Y : List Nat) (w1 : World) (i : Value) (wr : World) : Prop :=
  ∃ (k : Nat) (zs : List Nat), k ≤ c ∧ i = .int .i64 k ∧ zs.length = c + c' ∧ Okl zs ∧ val (zs.take (k + c')) = val (X.take k) * val Y ∧ wr = put g zs [] w1

theorem mul_step {g c c' k x : Nat} {X Y zs zs' : List Nat} {w1 : World} (hX : X.length = c) (hk : k < c) (hx : X.getD k 0 = x) (hl : zs.length = c + c') (hoz : Okl zs') (hw : Win zs zs' k (c' + 1))
    (h : wv zs' k (c' + 1) = wv zs k c' + x * val Y) (he : val (zs.take (k + c')) = val (X.take k) * val Y) : MulRel g c c' X Y w1 (.int .i64 ((k : Int) + 1)) (put g zs' [] w1) := by
  refine ⟨k + 1, zs', hk, rfl, by rw [hw.len, hl], hoz, ?_, rfl⟩
  rw [show k + 1 + c' = k + (c' + 1) by omega, val_take_add zs' k (c' + 1) (by rw [hw.len]; omega), h, hw.lo, Nat.mul_add, ← Nat.add_assoc, ← val_take_add zs k c' (by omega), val_take_succ X k (by omega), hx]
  exact mul_num he

/-- How many bits a natural has. -/
def bitsN (N : Nat) : Nat := match limbs N with
  | [] => 0
  | x :: l => 32 * l.length + blen ((x :: l).getD l.length 0)

theorem bitsN_zero {N : Nat} (h : limbs N = []) : bitsN N = 0 := by unfold bitsN; rw [h]
theorem bitsN_top {N t : Nat} (h : (limbs N).length = t + 1) : bitsN N = 32 * t + blen ((limbs N).getD t 0) := by
  unfold bitsN
  match hl : limbs N with
  | [] => rw [hl] at h; simp at h
  | x :: l => rw [hl] at h; simp only [List.length_cons] at h; obtain rfl : t = l.length := by omega
              rfl

end Go.Proofs.Ytndjdmgncjiggaa
namespace Go.Proofs.Ytndjdmgncjiggaa
open Go.RowKit
set_option linter.unusedVariables false
set_option linter.unusedSimpArgs false

/-- The call answers these limbs in memory of its own, from block B on; what lies below stays. -/
def Makes (B N : Nat) (w : World) (e : Ending) (w' : World) : Prop := ∃ v, e = .returned v ∧ Own B w' v (limbs N) ∧ Below B w w'

theorem own_cut {B : Nat} {w : World} {v : Value} {xs : List Nat} (h : Own B w v xs) : ∃ ad cap, v = .slice ad xs.length cap ∧ xs.length ≤ cap ∧ Rd w ad xs ∧ Own B w (.slice ad (limbs (val xs)).length cap) (limbs (val xs)) := by
  obtain ⟨ho, ⟨rfl, rfl⟩ | ⟨g, cap, r, rfl, hg, hb, hc, hm⟩⟩ := h
  · exact ⟨none, 0, rfl, Nat.le_refl _, Rd.nil _ _, Own.nil _ _⟩
  · refine ⟨_, cap, rfl, by omega, hb.rd_all, ?_⟩
    have := hb.own hg ho (limbs (val xs)).length cap (limbs_len_le ho) hc hm
    rw [← cutLen_eq ho, cut_limbs ho, cutLen_eq ho] at this
    exact this

def TPRel (g n : Nat) (ys : List Nat) (f p : Nat) (r : List Value) (w : World) (c i : Value) (wr : World) : Prop :=
  ∃ (k cy : Nat) (zs : List Nat), k ≤ n ∧ i = .int .i64 k ∧ c = .int .u64 cy ∧ cy < B32 ∧ Win ys zs 0 n ∧ Okl zs ∧ (∀ j, k ≤ j → zs.getD (0 + j) 0 = ys.getD (0 + j) 0) ∧
    wv zs 0 k + B32 ^ k * cy = f * wv ys 0 k + p ∧ wr = put g zs r w

theorem tp_num {x f cy B a P W p s q : Nat} (h : a + P * cy = f * W + p) (e : s + B * q = x * f + cy) : a + P * s + P * B * q = f * (W + P * x) + p := by
  have h3 : P * (s + B * q) = P * (x * f + cy) := by rw [e]
  grind

theorem tp_step {g n k cy f p x : Nat} {ys zs : List Nat} {r : List Value} {w : World} (hyl : ys.length = n) (hk : k < n) (hcy : cy < B32) (hf : f < B32) (hx : zs.getD (0 + k) 0 = x) (hxb : x < B32)
    (hb : Blk w g ys r) (hwin : Win ys zs 0 n) (hoz : Okl zs) (hs : ∀ j, k ≤ j → zs.getD (0 + j) 0 = ys.getD (0 + j) 0) (he : wv zs 0 k + B32 ^ k * cy = f * wv ys 0 k + p) :
    TPRel g n ys f p r w (.int .u64 (((x : Int) * (f : Int) + (cy : Int)) / 4294967296)) (.int .i64 ((k : Int) + 1)) ((put g zs r w).setCell ⟨g, k, none⟩ (.int .u32 (((x : Int) * (f : Int) + (cy : Int)) % 4294967296))) := by
  have e1 : ((x : Int) * (f : Int) + (cy : Int)) / 4294967296 = (((x * f + cy) / B32 : Nat) : Int) := by rw [B32_eq]; omega
  have e2 : ((x : Int) * (f : Int) + (cy : Int)) % 4294967296 = (((x * f + cy) % B32 : Nat) : Int) := by rw [B32_eq]; omega
  rw [e1, e2, set_blk (put_blk _ _ hb.lt) _ _ (by rw [hwin.len]; omega), put_put]
  have hbd : x * f ≤ 18446744065119617025 := by
    rw [B32_eq] at hxb hf
    exact Nat.mul_le_mul (Nat.le_of_lt_succ hxb) (Nat.le_of_lt_succ hf)
  have hw := hwin.set k ((x * f + cy) % B32) hk
  have hext := win_ext (v := (x * f + cy) % B32) hs
  have hset := wv_set zs 0 k ((x * f + cy) % B32) (by rw [hwin.len]; omega)
  rw [Nat.zero_add] at hw hext hset
  refine ⟨k + 1, _, zs.set k ((x * f + cy) % B32), hk, rfl, rfl, ?_, hw, hoz.set _ _ (Nat.mod_lt _ B32_pos), hext, ?_, rfl⟩
  · rw [Nat.div_lt_iff_lt_mul B32_pos]; rw [B32_eq] at *; omega
  · rw [hset, wv_succ ys 0 k (by omega), ← hs k (Nat.le_refl _), hx, Nat.pow_succ]
    exact tp_num he (Nat.mod_add_div _ _)

end Go.Proofs.Ytndjdmgncjiggaa
namespace Go.Proofs.Ytndjdmgncjiggaa
open Go.RowKit
set_option linter.unusedVariables false
set_option linter.unusedSimpArgs false

/-- Two limbs as one number. -/
def wd (h l : Nat) : Nat := h * B32 + l
theorem wd_lt {h l : Nat} (hh : h < B32) (hl : l < B32) : wd h l < 18446744073709551616 := by
  unfold wd; rw [B32_eq] at *; omega
theorem wd_or {h l : Nat} (hh : h < B32) (hl : l < B32) : bits BinOp.or IntKind.u64 ((h : Int) * 4294967296) (l : Int) = ((wd h l : Nat) : Int) := by
  have e : (h : Int) * 4294967296 = ((h * 4294967296 : Nat) : Int) := by omega
  rw [B32_eq] at hh hl
  rw [e, u64_or_nat _ _ (by omega) (by omega), nat_join 32 _ _ (by omega) (by omega)]
  unfold wd; rw [B32_eq]

def SHRel (g n : Nat) (ys : List Nat) (d : Nat) (r : List Value) (w : World) (rm i : Value) (wr : World) : Prop :=
  ∃ (k q : Nat) (zs : List Nat), k ≤ n ∧ i = .int .i64 ((k : Int) - 1) ∧ rm = .int .u32 q ∧ q < d ∧ zs.length = n ∧ Okl zs ∧ zs.take k = ys.take k ∧
    val (zs.drop k) * d + q = val (ys.drop k) ∧ wr = put g zs r w

theorem val_drop_succ (l : List Nat) (j : Nat) (h : j < l.length) : val (l.drop j) = l.getD j 0 + B32 * val (l.drop (j + 1)) := by
  rw [List.drop_eq_getElem_cons h]; simp [val, List.getD, h]

theorem sh_num {a q d x R s t B : Nat} (he : a * d + q = R) (hw : d * s + t = q * B + x) : (s + B * a) * d + t = x + B * R := by
  subst he; grind

theorem sh_step {g n d j q x : Nat} {ys zs : List Nat} {r : List Value} {w : World} (hl : zs.length = n) (hyl : ys.length = n) (hj : j + 1 ≤ n) (hd : d < B32) (hd0 : 0 < d) (hq : q < d) (hoz : Okl zs) (ht : zs.take (j + 1) = ys.take (j + 1)) (hx : zs.getD j 0 = x) (hxb : x < B32)
    (he : val (zs.drop (j + 1)) * d + q = val (ys.drop (j + 1))) (hb : Blk w g ys r) :
    SHRel g n ys d r w (.int .u32 (((wd q x : Nat) : Int) % (d : Int) % 4294967296)) (.int .i64 ((j : Int) - 1)) ((put g zs r w).setCell ⟨g, j, none⟩ (.int .u32 (IntKind.u64.wrap (((wd q x : Nat) : Int) / (d : Int)) % 4294967296))) := by
  have hwl := wd_lt (Nat.lt_trans hq hd) hxb
  have hql : wd q x / d < B32 := by
    rw [Nat.div_lt_iff_lt_mul hd0]; unfold wd
    have : (q + 1) * B32 ≤ d * B32 := Nat.mul_le_mul_right _ hq
    rw [Nat.add_mul, Nat.one_mul] at this
    rw [Nat.mul_comm B32 d]; omega
  have hml : wd q x % d < d := Nat.mod_lt _ hd0
  have e1 : ((wd q x : Nat) : Int) % (d : Int) % 4294967296 = ((wd q x % d : Nat) : Int) := by
    rw [← Int.natCast_emod]
    generalize wd q x % d = Q at *
    rw [B32_eq] at hd; omega
  have e2 : IntKind.u64.wrap (((wd q x : Nat) : Int) / (d : Int)) % 4294967296 = ((wd q x / d : Nat) : Int) := by
    rw [← Int.natCast_ediv]
    generalize wd q x / d = Q at *
    rw [B32_eq] at hql
    rw [IntWalk.u64_in _ (by omega)]; omega
  rw [e1, e2, set_blk (put_blk _ _ hb.lt) _ _ (by omega), put_put]
  have hg : ys.getD j 0 = x := by
    have h1 : (zs.take (j + 1)).getD j 0 = (ys.take (j + 1)).getD j 0 := by rw [ht]
    simp only [List.getD, List.getElem?_take, Nat.lt_succ_self, if_true] at h1
    simp only [List.getD] at hx ⊢
    rw [← h1]; exact hx
  refine ⟨j, _, zs.set j (wd q x / d), by omega, rfl, rfl, hml, by rw [List.length_set]; exact hl, hoz.set _ _ hql, ?_, ?_, rfl⟩
  · rw [List.take_set_of_le (Nat.le_refl _)]
    have h1 : (zs.take (j + 1)).take j = (ys.take (j + 1)).take j := by rw [ht]
    simpa [List.take_take] using h1
  · rw [val_drop_succ _ j (by rw [List.length_set]; omega), val_drop_succ ys j (by omega), hg, List.drop_set_of_lt (by omega)]
    have e3 : (zs.set j (wd q x / d)).getD j 0 = wd q x / d := by simp [List.getD, show j < zs.length by omega]
    rw [e3]
    exact sh_num he (Nat.div_add_mod _ _)

def ShrinkPost (B N d : Nat) (row : Option Nat) (w : World) (e : Ending) (w' : World) : Prop :=
  ∃ v, e = .returned (.tuple #[v, .int .u32 ((N % d : Nat) : Int)]) ∧ Own B w' v (limbs (N / d)) ∧ Below B w w' ∧ ∀ k, some k ≠ row → w'.heap[k]? = w.heap[k]?

end Go.Proofs.Ytndjdmgncjiggaa
/- The walks of shiftUp, shiftDown. The walks of shiftDown, guess. The long division, as naturals: no walk. The long division, as naturals: its beginning, its guess. No walk. -/
namespace Go.Proofs.Ytndjdmgncjiggaa
open Go.RowKit
set_option linter.unusedVariables false
set_option linter.unusedSimpArgs false

def shl (x s : Nat) : Nat := x * 2 ^ s
def shr (x s : Nat) : Nat := x / 2 ^ s
theorem pow_le_31 {s : Nat} (hs : s < 32) : 2 ^ s ≤ 2147483648 := by
  have : 2 ^ s ≤ 2 ^ 31 := Nat.pow_le_pow_right (by decide) (by omega)
  exact this
theorem shl_lt {x s : Nat} (hx : x < B32) (hs : s < 32) : shl x s < 9223372036854775808 := by
  unfold shl
  have h1 := pow_le_31 hs
  rw [B32_eq] at hx
  have : x * 2 ^ s ≤ 4294967295 * 2147483648 := Nat.mul_le_mul (by omega) h1
  omega
theorem shl_wrap {x s : Nat} (hx : x < B32) (hs : s < 32) : IntKind.u64.wrap ((x : Int) * 2 ^ s) = ((shl x s : Nat) : Int) := by
  have h1 := shl_lt hx hs
  have e : (x : Int) * 2 ^ s = ((shl x s : Nat) : Int) := by unfold shl; push_cast; rfl
  rw [e, IntWalk.u64_in _ (by omega)]
theorem shl_or {z S s : Nat} (hz : z < 2 ^ s) (hs : s < 32) (hS : S % 2 ^ s = 0) : bits BinOp.or IntKind.u32 (z : Int) ((S : Int) % 4294967296) = ((z + S % B32 : Nat) : Int) ∧ z + S % B32 < B32 := by
  have hp := pow_le_31 hs
  have e : (S : Int) % 4294967296 = ((S % B32 : Nat) : Int) := by rw [B32_eq]; omega
  have hB : B32 % 2 ^ s = 0 := by
    have : B32 = 2 ^ s * 2 ^ (32 - s) := by rw [← Nat.pow_add]; rw [show s + (32 - s) = 32 by omega]; rfl
    rw [this]; exact Nat.mul_mod_right _ _
  have hm : (S % B32) % 2 ^ s = 0 := by rw [Nat.mod_mod_of_dvd _ (Nat.dvd_of_mod_eq_zero hB)]; exact hS
  have hl : S % B32 < B32 := Nat.mod_lt _ B32_pos
  have hsum : z + S % B32 < B32 := by
    generalize S % B32 = m at *
    obtain ⟨q, rfl⟩ := Nat.dvd_of_mod_eq_zero hm
    obtain ⟨t, ht⟩ := Nat.dvd_of_mod_eq_zero hB
    rw [ht] at hl ⊢
    have : q < t := Nat.lt_of_mul_lt_mul_left hl
    have : 2 ^ s * (q + 1) ≤ 2 ^ s * t := Nat.mul_le_mul_left _ this
    rw [Nat.mul_add, Nat.mul_one] at this
    omega
  refine ⟨?_, hsum⟩
  rw [e]
  rw [B32_eq] at hl
  rw [u32_or_nat _ _ (by omega) (by rw [B32_eq]; exact hl), Nat.or_comm, nat_join s _ _ hm hz, Nat.add_comm]

def SURel (g n : Nat) (xs : List Nat) (s : Nat) (w1 : World) (i : Value) (wr : World) : Prop :=
  ∃ (k : Nat) (zs : List Nat), k ≤ n ∧ i = .int .i64 k ∧ zs.length = n + 1 ∧ Okl zs ∧ zs.getD k 0 < 2 ^ s ∧ val (zs.take k) + B32 ^ k * zs.getD k 0 = val (xs.take k) * 2 ^ s ∧ wr = put g zs [] w1

theorem su_num {a P z B S V T x m q : Nat} (h : a + P * z = V * T) (e : m + B * q = S) (hS : S = x * T) : a + P * (z + m) + P * B * q = (V + P * x) * T := by
  have h3 : P * (m + B * q) = P * (x * T) := by rw [e, hS]
  grind

theorem su_step {g n k s x z : Nat} {xs zs : List Nat} {w1 : World} (hxl : xs.length = n) (hl : zs.length = n + 1) (hk : k < n) (hs : s < 32) (hx : xs.getD k 0 = x) (hz : zs.getD k 0 = z) (hxb : x < B32) (hoz : Okl zs) (hzs : z < 2 ^ s)
    (he : val (zs.take k) + B32 ^ k * z = val (xs.take k) * 2 ^ s) (hg : g < w1.heap.size) :
    SURel g n xs s w1 (.int .i64 ((k : Int) + 1)) (((put g zs [] w1).setCell ⟨g, k, none⟩ (.int .u32 (bits BinOp.or IntKind.u32 (z : Int) (IntKind.u64.wrap ((x : Int) * 2 ^ s) % 4294967296)))).setCell ⟨g, k + 1, none⟩ (.int .u32 (IntKind.u64.wrap ((x : Int) * 2 ^ s) / 4294967296 % 4294967296))) := by
  have hlt := shl_lt hxb hs
  have hdv : shl x s % 2 ^ s = 0 := Nat.mul_mod_left _ _
  obtain ⟨ho, hob⟩ := shl_or hzs hs hdv
  have hq : shl x s / B32 < 2 ^ s := by
    rw [Nat.div_lt_iff_lt_mul B32_pos]; unfold shl
    rw [Nat.mul_comm]
    exact Nat.mul_lt_mul_of_pos_left hxb (Nat.pow_pos (by decide))
  have hqb : shl x s / B32 < B32 := by have := pow_le_31 hs; rw [B32_eq] at *; omega
  have e3 : ((shl x s : Nat) : Int) / 4294967296 % 4294967296 = ((shl x s / B32 : Nat) : Int) := by rw [B32_eq] at *; omega
  rw [shl_wrap hxb hs, ho, e3, set_blk (put_blk _ _ hg) _ _ (by omega), put_put, set_blk (put_blk _ _ hg) _ _ (by rw [List.length_set]; omega), put_put]
  refine ⟨k + 1, _, hk, rfl, by simp [hl], (hoz.set _ _ hob).set _ _ hqb, ?_, ?_, rfl⟩
  · simp [List.getD, hl, hk]; exact hq
  · have e4 : (((zs.set k (z + shl x s % B32)).set (k + 1) (shl x s / B32)).take (k + 1)) = (zs.set k (z + shl x s % B32)).take (k + 1) := List.take_set_of_le (Nat.le_refl _)
    have e5 : (((zs.set k (z + shl x s % B32)).set (k + 1) (shl x s / B32))).getD (k + 1) 0 = shl x s / B32 := by simp [List.getD, hl, hk]
    rw [e4, e5, val_set_take _ _ _ (by omega), val_take_succ xs k (by omega), hx, Nat.pow_succ]
    exact su_num he (Nat.mod_add_div _ _) rfl

/-- The call answers all of a block that it has made: these limbs. -/
def Blocks (N n : Nat) (w : World) (e : Ending) (w' : World) : Prop :=
  ∃ zs, e = .returned (.slice (some ⟨w.heap.size, 0, none⟩) n n) ∧ zs.length = n ∧ Okl zs ∧ val zs = N ∧ Blk w' w.heap.size zs [] ∧ Below w.heap.size w w'

end Go.Proofs.Ytndjdmgncjiggaa
namespace Go.Proofs.Ytndjdmgncjiggaa
open Go.RowKit
set_option linter.unusedVariables false
set_option linter.unusedSimpArgs false

theorem Below.heap_cell (w : World) (a b : Addr) (v : Value) (h : b.block ≠ a.block) : (w.setCell a v).cell? b = w.cell? b := World.cell?_of_block (Below.heap_setCell w a v b.block h)

def SDRel (g n : Nat) (xs : List Nat) (s : Nat) (w1 : World) (ab i : Value) (wr : World) : Prop :=
  ∃ (k a : Nat) (zs : List Nat), k ≤ n ∧ i = .int .i64 ((k : Int) - 1) ∧ ab = .int .u32 a ∧ a = xs.getD k 0 ∧ zs.length = n ∧ Okl zs ∧ val (zs.drop k) = val (xs.drop k) / 2 ^ s ∧ wr = put g zs [] w1

/-- What stands at the place: of the two limbs, shifted down. -/
theorem sd_num {a l B T D Q : Nat} (hT : 0 < T) (hTB : B = T * Q) (hl : l < B) (hD : D % B = a) :
    ((a * B + l) / T) % B + B * (D / T) = (l + B * D) / T := by
  have hB : 0 < B := Nat.lt_of_le_of_lt (Nat.zero_le _) hl
  have e1 : D % T = a % T := by rw [← hD, hTB]; exact (Nat.mod_mul_right_mod D T Q).symm
  have e2 : l + B * D = (l + B * (D % T)) + T * (B * (D / T)) := by
    have := Nat.mod_add_div D T
    have h3 : B * D = B * (D % T + T * (D / T)) := by rw [this]
    rw [h3]; grind
  have e3 : a * B + l = (l + B * (a % T)) + T * (B * (a / T)) := by
    have := Nat.mod_add_div a T
    have h3 : B * a = B * (a % T + T * (a / T)) := by rw [this]
    rw [Nat.mul_comm a B, h3]; grind
  have hlt : (l + B * (a % T)) / T < B := by
    rw [Nat.div_lt_iff_lt_mul hT]
    have h1 : a % T < T := Nat.mod_lt _ hT
    have h2 : B * (a % T + 1) ≤ B * T := Nat.mul_le_mul_left _ h1
    rw [Nat.mul_add, Nat.mul_one] at h2
    omega
  rw [e2, e3, Nat.add_mul_div_left _ _ hT, Nat.add_mul_div_left _ _ hT, Nat.add_mul_mod_self_left, Nat.mod_eq_of_lt hlt, e1]

theorem val_mod_nil : val [] % B32 = 0 := by rw [show val [] = 0 from rfl, Nat.zero_mod]
theorem val_mod_cons (x : Nat) (xs : List Nat) (h : x < B32) : val (x :: xs) % B32 = x := by
  rw [show val (x :: xs) = x + B32 * val xs from rfl, Nat.add_mul_mod_self_left]
  exact Nat.mod_eq_of_lt h
theorem val_mod (l : List Nat) (h : Okl l) : val l % B32 = l.getD 0 0 := by
  cases l with
  | nil => exact val_mod_nil
  | cons x xs => exact val_mod_cons x xs h.head

theorem wd_eq (a l : Nat) : wd a l = a * B32 + l := rfl
theorem B32_split {s : Nat} (hs : s < 32) : B32 = 2 ^ s * 2 ^ (32 - s) := by
  rw [← Nat.pow_add, show s + (32 - s) = 32 by omega]; rfl
theorem sd_wd {a l D s : Nat} (hs : s < 32) (hl : l < B32) (hD : D % B32 = a) :
    (wd a l / 2 ^ s) % B32 + B32 * (D / 2 ^ s) = (l + B32 * D) / 2 ^ s := by
  rw [wd_eq]
  exact sd_num (Nat.pow_pos (by decide)) (B32_split hs) hl hD
theorem wd_shr (a x s : Nat) : ((wd a x : Nat) : Int) / 2 ^ s = ((wd a x / 2 ^ s : Nat) : Int) := by push_cast; rfl
theorem mod_B32 (Q : Nat) : (Q : Int) % 4294967296 = ((Q % B32 : Nat) : Int) := by rw [B32_eq]; omega
theorem wd_shr_mod (a x s : Nat) : ((wd a x : Nat) : Int) / 2 ^ s % 4294967296 = ((wd a x / 2 ^ s % B32 : Nat) : Int) := by
  rw [wd_shr]; exact mod_B32 _
theorem getD_set_self (zs : List Nat) (j v : Nat) (h : j < zs.length) : (zs.set j v).getD j 0 = v := by simp [List.getD, h]
theorem getD_drop_zero (xs : List Nat) (j : Nat) : (xs.drop j).getD 0 0 = xs.getD j 0 := by simp [List.getD]

theorem sd_step {g n j s x : Nat} {xs zs : List Nat} {w1 : World} (hxl : xs.length = n) (hl : zs.length = n) (hj : j + 1 ≤ n) (hs : s < 32) (hox : Okl xs) (hoz : Okl zs) (hx : xs.getD j 0 = x) (a : Nat) (ha : a = xs.getD (j + 1) 0)
    (he : val (zs.drop (j + 1)) = val (xs.drop (j + 1)) / 2 ^ s) (hg : g < w1.heap.size) :
    SDRel g n xs s w1 (.int .u32 (x : Int)) (.int .i64 ((j : Int) - 1)) ((put g zs [] w1).setCell ⟨g, j, none⟩ (.int .u32 (((wd a x : Nat) : Int) / 2 ^ s % 4294967296))) := by
  have hxb : x < B32 := by rw [← hx]; exact hox.getD j
  have hD : val (xs.drop (j + 1)) % B32 = a := by rw [val_mod _ (hox.drop _), ha, getD_drop_zero]
  have hq := sd_wd hs hxb hD
  have hv : wd a x / 2 ^ s % B32 < B32 := Nat.mod_lt _ B32_pos
  rw [wd_shr_mod, set_blk (put_blk _ _ hg) _ _ (by omega), put_put]
  generalize wd a x / 2 ^ s % B32 = v at *
  refine ⟨j, x, zs.set j v, by omega, rfl, rfl, hx.symm, by rw [List.length_set]; exact hl, hoz.set _ _ hv, ?_, rfl⟩
  rw [val_drop_succ _ j (by rw [List.length_set]; omega), val_drop_succ xs j (by omega), hx, List.drop_set_of_lt (by omega), he, getD_set_self _ _ _ (by omega)]
  exact hq

/-- The first guess at a limb of the quotient. -/
def gs (h l d : Nat) : Nat := min (wd h l / d) 4294967295
theorem gs_lt (h l d : Nat) : gs h l d < B32 := by unfold gs; rw [B32_eq]; omega

end Go.Proofs.Ytndjdmgncjiggaa
namespace Go.Proofs.Ytndjdmgncjiggaa
open Go.RowKit
set_option linter.unusedVariables false
set_option linter.unusedSimpArgs false

theorem bitLen_zero : Lib.bitLen 0 = 0 := by decide
theorem bitLen_bounds : ∀ (f x : Nat), x ≤ f → x < 2 ^ 64 → x ≠ 0 → 1 ≤ Lib.bitLen x ∧ 2 ^ (Lib.bitLen x - 1) ≤ x ∧ x < 2 ^ Lib.bitLen x := by
  intro f
  induction f with
  | zero => intro x h _ h0; omega
  | succ f ih =>
    intro x h h64 h0
    rw [Lib.bitLen_half x h0 h64]
    by_cases h1 : x / 2 = 0
    · rw [h1, bitLen_zero]
      have : x = 1 := by omega
      subst this; simp
    · obtain ⟨a, b, c⟩ := ih (x / 2) (by omega) (by omega) h1
      generalize Lib.bitLen (x / 2) = t at *
      obtain ⟨u, rfl⟩ : ∃ u, t = u + 1 := ⟨t - 1, by omega⟩
      rw [show 1 + (u + 1) - 1 = u + 1 by omega, show 1 + (u + 1) = u + 2 by omega, Nat.pow_succ, Nat.pow_succ 2 (u + 1), Nat.pow_succ 2 u]
      rw [Nat.add_sub_cancel] at b
      rw [Nat.pow_succ] at c
      omega

/-- By how much a limb is shifted till its highest bit is set. -/
theorem lz_spec {x : Nat} (hx : x < B32) (h0 : x ≠ 0) : 32 - blen x < 32 ∧ B32 ≤ 2 * (x * 2 ^ (32 - blen x)) ∧ x * 2 ^ (32 - blen x) < B32 := by
  have hx' := hx
  rw [B32_eq] at hx'
  obtain ⟨a, b, c⟩ := bitLen_bounds x x (Nat.le_refl _) (by omega) h0
  have d := blen_le x hx'
  unfold blen at *
  generalize Lib.bitLen x = t at *
  have e : B32 = 2 ^ t * 2 ^ (32 - t) := by rw [← Nat.pow_add, show t + (32 - t) = 32 by omega]; rfl
  have e2 : 2 ^ t = 2 * 2 ^ (t - 1) := by rw [Nat.mul_comm, ← Nat.pow_succ]; congr 1; omega
  have hp : 0 < 2 ^ (32 - t) := Nat.pow_pos (by decide)
  generalize 2 ^ (32 - t) = T at *
  refine ⟨by omega, ?_, ?_⟩
  · rw [e, e2, Nat.mul_assoc]
    exact Nat.mul_le_mul_left _ (Nat.mul_le_mul_right _ b)
  · rw [e]; exact Nat.mul_lt_mul_of_pos_right c hp

theorem guess_low {P d D0 wd W0 q : Nat} (hP : 0 < P) (hW : W0 < P) (h : q * (d * P + D0) ≤ wd * P + W0) : q * d ≤ wd := by
  have h1 : q * (d * P) ≤ q * (d * P + D0) := Nat.mul_le_mul_left _ (Nat.le_add_right _ _)
  have h2 : (q * d) * P < (wd + 1) * P := by rw [Nat.mul_assoc, Nat.add_mul, Nat.one_mul]; omega
  have := Nat.lt_of_mul_lt_mul_right h2
  omega
theorem guess_high {B P d D0 wd W0 g : Nat} (hD : D0 ≤ P) (hg : g * d ≤ wd) (hgB : g ≤ B) (hd : B ≤ 2 * d) : g * (d * P + D0) ≤ wd * P + W0 + 2 * (d * P + D0) := by
  have h1 : g * (d * P) ≤ wd * P := by rw [← Nat.mul_assoc]; exact Nat.mul_le_mul_right _ hg
  have h2 : g * D0 ≤ g * P := Nat.mul_le_mul_left _ hD
  have h3 : g * P ≤ (2 * d) * P := Nat.mul_le_mul_right _ (Nat.le_trans hgB hd)
  rw [Nat.mul_assoc] at h3
  rw [Nat.mul_add]
  omega

/-- The guess is the quotient, or at most 2 more. -/
theorem guess_ok {P d D0 h l W0 D W : Nat} (hP : 0 < P) (hW0 : W0 < P) (hD0 : D0 < P) (hd0 : 0 < d) (hd : B32 ≤ 2 * d) (hDe : D = d * P + D0) (hWe : W = wd h l * P + W0) (hlt : W < B32 * D) :
    W / D ≤ gs h l d ∧ gs h l d ≤ W / D + 2 := by
  have hDp : 0 < D := by rw [hDe]; have := Nat.mul_pos hd0 hP; omega
  have hq1 : W / D * D ≤ W := Nat.div_mul_le_self _ _
  have hq2 : W / D < B32 := by rw [Nat.div_lt_iff_lt_mul hDp]; exact hlt
  constructor
  · unfold gs
    rw [Nat.le_min]
    refine ⟨?_, by rw [B32_eq] at hq2; omega⟩
    rw [Nat.le_div_iff_mul_le hd0]
    refine guess_low (P := P) (D0 := D0) (W0 := W0) hP hW0 ?_
    rw [← hDe, ← hWe]; exact hq1
  · have hg1 : gs h l d * d ≤ wd h l := by
      have : gs h l d ≤ wd h l / d := Nat.min_le_left _ _
      exact Nat.le_trans (Nat.mul_le_mul_right _ this) (Nat.div_mul_le_self _ _)
    have hg2 : gs h l d ≤ B32 := Nat.le_of_lt (gs_lt h l d)
    have h3 := guess_high (P := P) (D0 := D0) (W0 := W0) (Nat.le_of_lt hD0) hg1 hg2 hd
    rw [← hDe, ← hWe] at h3
    generalize gs h l d = g at *
    rcases Nat.lt_or_ge g 2 with h4 | h4
    · exact Nat.le_trans (Nat.le_of_lt h4) (Nat.le_add_left _ _)
    · have h5 : (g - 2) * D ≤ W := by rw [Nat.sub_mul]; omega
      have h6 : g - 2 ≤ W / D := by rw [Nat.le_div_iff_mul_le hDp]; exact h5
      clear hq1 hq2 h3 h5 hDe hWe hg1 hg2
      generalize W / D = t at *
      omega

theorem val_drop_add (l : List Nat) (i m : Nat) (h : i + m ≤ l.length) : val (l.drop i) = wv l i m + B32 ^ m * val (l.drop (i + m)) := by
  rw [val_take_drop (l.drop i) m (by rw [List.length_drop]; omega), List.drop_drop]; rfl

/-- What holds of the long division with k places still to come. -/
structure DvInv (n m k : Nat) (Z Q : List Nat) (D V : Nat) : Prop where
  zl : Z.length = n + 1
  zo : Okl Z
  ql : Q.length = n + 1 - m
  qo : Okl Q
  lt : val (Z.drop k) < D
  eq : val Z + D * (B32 ^ k * val (Q.drop k)) = V

theorem tail_zero {Z : List Nat} {i m D : Nat} (hl : i + 1 + m ≤ Z.length) (hlt : val (Z.drop (i + 1)) < D) (hD : D < B32 ^ m) : val (Z.drop (i + (m + 1))) = 0 := by
  rw [val_drop_add Z (i + 1) m hl] at hlt
  rw [show i + (m + 1) = i + 1 + m by omega]
  rcases Nat.eq_zero_or_pos (val (Z.drop (i + 1 + m))) with h | h
  · exact h
  · have := Nat.mul_le_mul_left (B32 ^ m) h
    omega
theorem win_val {Z : List Nat} {i m D : Nat} (hl : i + 1 + m ≤ Z.length) (hlt : val (Z.drop (i + 1)) < D) (hD : D < B32 ^ m) : val (Z.drop i) = wv Z i (m + 1) := by
  rw [val_drop_add Z i (m + 1) (by omega), tail_zero hl hlt hD, Nat.mul_zero, Nat.add_zero]
theorem lt_num {B a x D : Nat} (h1 : a < B) (h2 : x < D) : a + B * x < B * D := by
  have h3 : B * (x + 1) ≤ B * D := Nat.mul_le_mul_left _ h2
  rw [Nat.mul_add, Nat.mul_one] at h3
  omega
theorem win_lt {Z : List Nat} {i D : Nat} (ho : Okl Z) (hl : i < Z.length) (hlt : val (Z.drop (i + 1)) < D) : val (Z.drop i) < B32 * D := by
  rw [val_drop_succ Z i hl]
  exact lt_num (ho.getD i) hlt

theorem dv_num {a z z' P Q D V B q : Nat} (h : a + P * z + D * (P * B * Q) = V) (hz : z' + q * D = z) : a + P * z' + D * (P * (q + B * Q)) = V := by
  subst hz; rw [← h]; grind

theorem dv_step {n m i : Nat} {Z Z' Q : List Nat} {D V q : Nat} (hm : i + 1 + m ≤ n + 1) (hD : D < B32 ^ m) (h : DvInv n m (i + 1) Z Q D V) (hw : Win Z Z' i (m + 1)) (hzo : Okl Z') (hq : q < B32) (he : wv Z' i (m + 1) + q * D = wv Z i (m + 1)) (hlt : wv Z' i (m + 1) < D) :
    DvInv n m i Z' (Q.set i q) D V := by
  have hl' : Z'.length = n + 1 := by rw [hw.len, h.zl]
  have ht := tail_zero (by rw [h.zl]; exact hm) h.lt hD
  have hv := win_val (by rw [h.zl]; exact hm) h.lt hD
  have hv' : val (Z'.drop i) = wv Z' i (m + 1) := by
    rw [val_drop_add Z' i (m + 1) (by omega), hw.hi, ht, Nat.mul_zero, Nat.add_zero]
  refine ⟨hl', hzo, by rw [List.length_set]; exact h.ql, h.qo.set _ _ hq, by rw [hv']; exact hlt, ?_⟩
  have e1 : val Z = val (Z.take i) + B32 ^ i * wv Z i (m + 1) := by rw [val_take_drop Z i (by rw [h.zl]; omega), hv]
  have e2 : val Z' = val (Z.take i) + B32 ^ i * wv Z' i (m + 1) := by rw [val_take_drop Z' i (by omega), hw.lo, hv']
  have e3 : val ((Q.set i q).drop i) = q + B32 * val (Q.drop (i + 1)) := by
    rw [val_drop_succ _ i (by rw [List.length_set, h.ql]; omega), List.drop_set_of_lt (by omega), getD_set_self _ _ _ (by rw [h.ql]; omega)]
  have e4 : B32 ^ (i + 1) = B32 ^ i * B32 := Nat.pow_succ _ _
  have he0 := h.eq
  rw [e1, e4] at he0
  rw [e2, e3]
  clear e1 e2 e3 e4 hv hv' ht hl' h hw hD hlt hq hzo hm
  revert he0
  generalize B32 ^ i = P
  generalize B32 = B
  intro he0
  exact dv_num he0 he

/-- Too much was taken, or just what was to be taken. -/
theorem take_case {W D g v Q q : Nat} (hD : 0 < D) (h1 : W / D ≤ g) (h2 : g ≤ W / D + 2) (hv : v < Q) (hDQ : 2 * D ≤ Q) (h : v + g * D = W + Q * q) : (q = 0 ∧ g = W / D ∧ v < D) ∨ (q = 1 ∧ W / D < g) := by
  have hdm := Nat.div_add_mod W D
  have hml : W % D < D := Nat.mod_lt _ hD
  generalize W / D = t at *
  generalize W % D = r at *
  rw [Nat.mul_comm D t] at hdm
  rcases Nat.eq_zero_or_pos q with h0 | h0
  · left
    subst h0
    rw [Nat.mul_zero, Nat.add_zero] at h
    have : g = t := by
      rcases Nat.lt_or_ge t g with h3 | h3
      · have := Nat.mul_le_mul_right D h3
        rw [Nat.succ_mul] at this
        omega
      · omega
    subst this
    exact ⟨rfl, rfl, by omega⟩
  · right
    have hq : q = 1 := by
      rcases Nat.lt_or_ge 1 q with h3 | h3
      · have h4 := Nat.mul_le_mul_left Q h3
        have h5 := Nat.mul_le_mul_right D h2
        rw [Nat.add_mul] at h5
        omega
      · omega
    subst hq
    refine ⟨rfl, ?_⟩
    rcases Nat.lt_or_ge t g with h3 | h3
    · exact h3
    · have h5 := Nat.mul_le_mul_right D h3
      omega

/-- One was given back. -/
theorem back_case {W D g v v2 Q cy : Nat} (hD : 0 < D) (hg : W / D < g) (hv2 : v2 < Q) (h : v + g * D = W + Q) (hc : cy ≤ 1) (he : v2 + Q * cy = v + D) :
    (cy = 1 ∧ g - 1 = W / D ∧ v2 + (g - 1) * D = W ∧ v2 < D) ∨ (cy = 0 ∧ W / D < g - 1 ∧ v2 + (g - 1) * D = W + Q) := by
  have hdm := Nat.div_add_mod W D
  have hml : W % D < D := Nat.mod_lt _ hD
  generalize W / D = t at *
  generalize W % D = r at *
  rw [Nat.mul_comm D t] at hdm
  obtain ⟨u, rfl⟩ : ∃ u, g = u + 1 := ⟨g - 1, by omega⟩
  rw [Nat.add_sub_cancel]
  rw [Nat.succ_mul] at h
  rcases Nat.eq_zero_or_pos cy with h0 | h0
  · right
    subst h0
    rw [Nat.mul_zero, Nat.add_zero] at he
    have h3 : v2 + u * D = W + Q := by omega
    refine ⟨rfl, ?_, h3⟩
    rcases Nat.lt_or_ge t u with h4 | h4
    · exact h4
    · have := Nat.mul_le_mul_right D h4
      omega
  · left
    obtain rfl : cy = 1 := by omega
    rw [Nat.mul_one] at he
    have h3 : v2 + u * D = W := by omega
    have h4 : u = t := by
      rcases Nat.lt_or_ge t u with h5 | h5
      · have := Nat.mul_le_mul_right D h5
        rw [Nat.succ_mul] at this
        omega
      · omega
    subst h4
    exact ⟨rfl, rfl, h3, by omega⟩
end Go.Proofs.Ytndjdmgncjiggaa
namespace Go.Proofs.Ytndjdmgncjiggaa
open Go.RowKit
set_option linter.unusedVariables false
set_option linter.unusedSimpArgs false

theorem pre_lt {lo P y T B : Nat} (h1 : lo < P) (h2 : (y + 1) * T ≤ B) (hT : 0 < T) : (lo + P * y) * T < P * B := by
  have h3 : (lo + P * y) * T < (P * (y + 1)) * T := Nat.mul_lt_mul_of_pos_right (by rw [Nat.mul_add]; omega) hT
  have h4 : P * ((y + 1) * T) ≤ P * B := Nat.mul_le_mul_left _ h2
  rw [Nat.mul_assoc] at h3
  omega
theorem pre_ge {lo P y T : Nat} : P * (y * T) ≤ (lo + P * y) * T := by
  rw [Nat.add_mul, Nat.mul_assoc]; omega
theorem top_ge {lo P d t D : Nat} (h1 : lo < P) (h2 : D = lo + P * d) (h3 : P * t ≤ D) : t ≤ d := by
  have h4 : P * t < P * (d + 1) := by rw [Nat.mul_add]; omega
  have := Nat.lt_of_mul_lt_mul_left h4
  omega
theorem up_mult {y T Q B : Nat} (hB : B = T * Q) (h : y * T < B) : (y + 1) * T ≤ B := by
  subst hB
  rw [Nat.mul_comm y T] at h
  have := Nat.lt_of_mul_lt_mul_left h
  rw [Nat.mul_comm]
  exact Nat.mul_le_mul_left _ this

theorem B32_mono {a b : Nat} (h : a ≤ b) : B32 ^ a ≤ B32 ^ b := Nat.pow_le_pow_right B32_pos h
theorem B32_pow_pos (a : Nat) : 0 < B32 ^ a := Nat.pow_pos B32_pos
theorem B32_succ (a : Nat) : B32 ^ (a + 1) = B32 ^ a * B32 := Nat.pow_succ _ _

theorem limbs_len_eq {D j : Nat} (h1 : B32 ^ j ≤ D) (h2 : D < B32 ^ (j + 1)) : (limbs D).length = j + 1 := by
  have a := limbs_length_le h2
  have b := limbs_lt_pow D
  rcases Nat.lt_or_ge (limbs D).length (j + 1) with h | h
  · have := B32_mono (show (limbs D).length ≤ j by omega)
    omega
  · omega

/-- The divisor, shifted. -/
structure DvPre (D j : Nat) : Prop where
  lt : D < B32 ^ (j + 1)
  len : (limbs D).length = j + 1
  top : B32 ≤ 2 * (limbs D).getD j 0
  pos : 0 < D

theorem div_pre {Y : List Nat} {j s y : Nat} (hl : Y.length = j + 1) (ho : Okl Y) (hy : Y.getD j 0 = y) (hs : s < 32) (h2 : B32 ≤ 2 * (y * 2 ^ s)) (h3 : y * 2 ^ s < B32) :
    DvPre (val Y * 2 ^ s) j ∧ B32 ^ j * (y * 2 ^ s) ≤ val Y * 2 ^ s := by
  have hT : 0 < 2 ^ s := Nat.pow_pos (by decide)
  have hv : val Y = val (Y.take j) + B32 ^ j * y := by
    have h := val_take_succ Y j (by omega)
    rw [List.take_of_length_le (by omega), hy] at h
    exact h
  have hlo : val (Y.take j) < B32 ^ j := by
    have h := val_lt (ho.take j)
    rwa [List.length_take, Nat.min_eq_left (by omega)] at h
  have hup := up_mult (B32_split hs) h3
  have hlt : val Y * 2 ^ s < B32 ^ (j + 1) := by rw [hv, B32_succ]; exact pre_lt hlo hup hT
  have hge : B32 ^ j * (y * 2 ^ s) ≤ val Y * 2 ^ s := by rw [hv]; exact pre_ge
  have hy1 : 1 ≤ y * 2 ^ s := by have := B32_pos; omega
  have hge1 : B32 ^ j ≤ val Y * 2 ^ s := by
    have : B32 ^ j * 1 ≤ B32 ^ j * (y * 2 ^ s) := Nat.mul_le_mul_left _ hy1
    rw [Nat.mul_one] at this
    exact Nat.le_trans this hge
  refine ⟨⟨hlt, limbs_len_eq hge1 hlt, ?_, Nat.lt_of_lt_of_le (B32_pow_pos j) hge1⟩, hge⟩
  have hlen := limbs_len_eq hge1 hlt
  have hvl := val_limbs (val Y * 2 ^ s)
  have hol := limbs_ok (val Y * 2 ^ s)
  generalize val Y * 2 ^ s = D at *
  generalize limbs D = L at *
  have hv2 : D = val (L.take j) + B32 ^ j * L.getD j 0 := by
    have h := val_take_succ L j (by omega)
    rw [List.take_of_length_le (by omega), hvl] at h
    exact h
  have hlo2 : val (L.take j) < B32 ^ j := by
    have h := val_lt (hol.take j)
    rwa [List.length_take, Nat.min_eq_left (by omega)] at h
  have := top_ge hlo2 hv2 hge
  omega

theorem drop_lt_num {a P v D X Pn T t : Nat} (h1 : a + P * v = X * T) (h2 : X < P * Pn) (hT : 0 < T) (h3 : Pn * t ≤ D) (h4 : T ≤ t) (hP : 0 < P) : v < D := by
  have h5 : P * v < P * (Pn * T) := by
    have h6 : X * T < P * Pn * T := Nat.mul_lt_mul_of_pos_right h2 hT
    rw [Nat.mul_assoc] at h6
    omega
  have h7 := Nat.lt_of_mul_lt_mul_left h5
  have h8 : Pn * T ≤ Pn * t := Nat.mul_le_mul_left _ h4
  omega

/-- The beginning of the long division. -/
theorem dv_start {X Z Q : List Nat} {n j s y D : Nat} (hX : X.length = n) (hoX : Okl X) (hjn : j + 1 ≤ n) (hZ : Z.length = n + 1) (hoZ : Okl Z) (hv : val Z = val X * 2 ^ s) (hy : y ≠ 0) (hD : B32 ^ j * (y * 2 ^ s) ≤ D) (hQ : Q = List.replicate (n - j) 0) :
    DvInv n (j + 1) (n - j) Z Q D (val X * 2 ^ s) := by
  subst hQ
  refine ⟨hZ, hoZ, by rw [List.length_replicate]; omega, Okl.replicate _, ?_, ?_⟩
  · have h1 := val_take_drop Z (n - j) (by omega)
    rw [hv] at h1
    have h2 := val_lt hoX
    rw [hX] at h2
    have e : B32 ^ n = B32 ^ (n - j) * B32 ^ j := by rw [← Nat.pow_add, Nat.sub_add_cancel (by omega)]
    rw [e] at h2
    have hT : 0 < 2 ^ s := Nat.pow_pos (by decide)
    refine drop_lt_num h1.symm h2 hT hD ?_ (B32_pow_pos _)
    exact Nat.le_mul_of_pos_left _ (by omega)
  · rw [List.drop_of_length_le (by rw [List.length_replicate]; exact Nat.le_refl _), hv]
    rw [show val [] = 0 from rfl, Nat.mul_zero, Nat.mul_zero, Nat.add_zero]

theorem wd_num {a P l h B : Nat} : a + P * l + P * B * h = (h * B + l) * P + a := by grind

theorem guess_win {Z L : List Nat} {i j n D V : Nat} {Q : List Nat} (hi : i + (j + 1) ≤ n) (hp : DvPre D j) (hL : limbs D = L) (h : DvInv n (j + 1) (i + 1) Z Q D V) :
    wv Z i (j + 2) / D ≤ gs (Z.getD (i + (j + 1)) 0) (Z.getD (i + j) 0) (L.getD j 0) ∧ gs (Z.getD (i + (j + 1)) 0) (Z.getD (i + j) 0) (L.getD j 0) ≤ wv Z i (j + 2) / D + 2 := by
  have hzl := h.zl
  have hlen := hp.len
  have htop := hp.top
  have hol := limbs_ok D
  have hvl := val_limbs D
  rw [hL] at hlen htop hol hvl
  have hDe : D = L.getD j 0 * B32 ^ j + val (L.take j) := by
    have h1 := val_take_succ L j (by omega)
    rw [List.take_of_length_le (by omega), hvl, Nat.mul_comm (B32 ^ j), Nat.add_comm] at h1
    exact h1
  have hD0 : val (L.take j) < B32 ^ j := by
    have h1 := val_lt (hol.take j)
    rwa [List.length_take, Nat.min_eq_left (by omega)] at h1
  have hW0 : wv Z i j < B32 ^ j := by
    have h1 := val_lt ((h.zo.drop i).take j)
    rwa [List.length_take, List.length_drop, Nat.min_eq_left (by omega)] at h1
  have hWe : wv Z i (j + 2) = wd (Z.getD (i + (j + 1)) 0) (Z.getD (i + j) 0) * B32 ^ j + wv Z i j := by
    rw [show j + 2 = j + 1 + 1 from rfl, wv_succ Z i (j + 1) (by omega), wv_succ Z i j (by omega), B32_succ, wd_eq]
    exact wd_num
  have hlt : wv Z i (j + 2) < B32 * D := by
    have h1 := win_lt h.zo (show i < Z.length by omega) h.lt
    rwa [win_val (m := j + 1) (by omega) h.lt hp.lt] at h1
  have hd0 : 0 < L.getD j 0 := by have := B32_pos; omega
  exact guess_ok (B32_pow_pos j) hW0 hD0 hd0 htop hDe hWe hlt

/-- The end of the long division. -/
theorem dv_end {n m a b T : Nat} {Z Q : List Nat} {V : Nat} (hT : 0 < T) (hb : 0 < b) (h : DvInv n m 0 Z Q (b * T) V) (hV : V = a * T) : val Q = a / b ∧ val Z / T = a % b ∧ val Z < b * T := by
  have he := h.eq
  have hl := h.lt
  simp only [List.drop_zero, Nat.pow_zero, Nat.one_mul] at he hl
  subst hV
  generalize val Q = q at *
  generalize val Z = z at *
  have hD : 0 < b * T := Nat.mul_pos hb hT
  have hz : z = (a - b * q) * T := by
    have e : b * T * q = (b * q) * T := by grind
    rw [e] at he
    rw [Nat.sub_mul]; omega
  have hq : b * q ≤ a := by
    have e : b * T * q = (b * q) * T := by grind
    rw [e] at he
    exact Nat.le_of_mul_le_mul_right (by omega : (b * q) * T ≤ a * T) hT
  have hr : a - b * q < b := by rw [hz] at hl; exact Nat.lt_of_mul_lt_mul_right hl
  have hdq : a / b = q := by
    rw [Nat.div_eq_of_lt_le (by rw [Nat.mul_comm]; exact hq) (by rw [Nat.succ_mul, Nat.mul_comm q b]; omega)]
  have hmr : a % b = a - b * q := by
    have := Nat.div_add_mod a b
    rw [hdq] at this
    omega
  refine ⟨hdq.symm, ?_, hl⟩
  rw [hz, hmr, Nat.mul_div_cancel _ hT]

theorem val_take_all {Z : List Nat} {m D : Nat} (hm : m ≤ Z.length) (hlt : val Z < D) (hD : D < B32 ^ m) : val (Z.take m) = val Z := by
  have h := val_take_drop Z m hm
  rcases Nat.eq_zero_or_pos (val (Z.drop m)) with h0 | h0
  · rw [h0, Nat.mul_zero, Nat.add_zero] at h; exact h.symm
  · have := Nat.mul_le_mul_left (B32 ^ m) h0
    omega
end Go.Proofs.Ytndjdmgncjiggaa
/- The walk of divide. -/
namespace Go.Proofs.Ytndjdmgncjiggaa
open Go.RowKit
set_option linter.unusedVariables false
set_option linter.unusedSimpArgs false

def DivPost (a b : Nat) (w : World) (e : Ending) (w' : World) : Prop :=
  ∃ v1 v2, e = .returned (.tuple #[v1, v2]) ∧ Own w.heap.size w' v1 (limbs (a / b)) ∧ Own w.heap.size w' v2 (limbs (a % b)) ∧ Below w.heap.size w w'

/-- What holds of the long division's memory with k places to come. -/
def DLRel (n j D V : Nat) (L : List Nat) (G1 G2 G3 : Nat) (w : World) (k : Nat) (i : Value) (wr : World) : Prop :=
  ∃ Z Q, k ≤ n - j ∧ i = .int .i64 ((k : Int) - 1) ∧ DvInv n (j + 1) k Z Q D V ∧ Blk wr G1 Z [] ∧ Rd wr (some ⟨G2, 0, none⟩) L ∧ Blk wr G3 Q [] ∧ Below G1 w wr

theorem Blk.put_ne {w : World} {g g' : Nat} {ys zs : List Nat} {r r' : List Value} (h : Blk w g ys r) (hne : g ≠ g') : Blk (put g' zs r' w) g ys r := by
  unfold Blk; rw [put_other _ _ _ _ _ hne]; exact h

/-- What holds inside, when too much was taken. -/
def DMRel (n j i D : Nat) (L Z Q : List Nat) (G1 G2 G3 : Nat) (w : World) (k : Nat) (wr : World) : Prop :=
  ∃ g Zc, g = wv Z i (j + 2) / D + k ∧ 0 < k ∧ g < B32 ∧ Win Z Zc i (j + 2) ∧ Okl Zc ∧ wv Zc i (j + 2) + g * D = wv Z i (j + 2) + B32 ^ (j + 2) ∧ Blk wr G1 Zc [] ∧ Rd wr (some ⟨G2, 0, none⟩) L ∧ Blk wr G3 (Q.set i g) [] ∧ Below G1 w wr

theorem win_val_lt {Z : List Nat} {i m : Nat} (ho : Okl Z) (h : i + m ≤ Z.length) : wv Z i m < B32 ^ m := by
  have h1 := val_lt ((ho.drop i).take m)
  rwa [List.length_take, List.length_drop, Nat.min_eq_left (by omega)] at h1

theorem pos_of_mul {a b : Nat} (h : 0 < a * b) : 0 < a := by
  rcases Nat.eq_zero_or_pos a with h0 | h0
  · subst h0; simp at h
  · exact h0
theorem dm_pos {g t k : Nat} (h : g = t + k) (h2 : t < g - 1) : 0 < k - 1 := by omega

theorem win_getD (Z : List Nat) (i m t : Nat) (h : t < m) : ((Z.drop i).take m).getD t 0 = Z.getD (i + t) 0 := by simp [List.getD, h]

end Go.Proofs.Ytndjdmgncjiggaa
/- The walks of Div, zeros, tens, Pow. The walks of Trim, Pow. The walk of Pow. -/
namespace Go.Proofs.Ytndjdmgncjiggaa
open Go.RowKit
set_option linter.unusedVariables false
set_option linter.unusedSimpArgs false

theorem limbs_top {N t : Nat} (h : (limbs N).length = t + 1) : (limbs N).getD t 0 ≠ 0 := by
  have hc := limbs_cutLen N
  rw [h] at hc
  exact cut_top _ _ _ hc
theorem limbs_len_mono {a b : Nat} (h : b ≤ a) : (limbs b).length ≤ (limbs a).length := by
  rcases Nat.lt_or_ge (limbs a).length (limbs b).length with h1 | h1
  · have := limbs_len_lt h1; omega
  · exact h1

/-- What Div leaves over: nothing, if the divisor is 0. -/
def rmN (a b : Nat) : Nat := if b = 0 then 0 else a % b
def QuoPost (a b : Nat) (w : World) (e : Ending) (w' : World) : Prop :=
  ∃ v1 v2, e = .returned (.tuple #[v1, v2]) ∧ Own w.heap.size w' v1 (limbs (a / b)) ∧ Own w.heap.size w' v2 (limbs (rmN a b)) ∧ Below w.heap.size w w'

theorem cmpN_neg {a b : Nat} : (cmpN a b < 0) ↔ a < b := by unfold cmpN; split <;> (try split) <;> omega

/-- A power of ten. -/
def tenN (n : Nat) : Nat := 10 ^ n
theorem tenN_zero : tenN 0 = 1 := rfl
theorem tenN_succ (n : Nat) : tenN (n + 1) = tenN n * 10 := Nat.pow_succ _ _
theorem tenN_pos (n : Nat) : 0 < tenN n := Nat.pow_pos (by decide)
theorem tenN_le {n m : Nat} (h : n ≤ m) : tenN n ≤ tenN m := Nat.pow_le_pow_right (by decide) h
theorem tenN_9 : tenN 9 = 1000000000 := by decide
theorem tenN_add (a b : Nat) : tenN (a + b) = tenN a * tenN b := Nat.pow_add _ _ _

def ZerosPost (v : Nat) (w : World) (e : Ending) (w' : World) : Prop :=
  ∃ z m, e = .returned (.int .i64 ((z : Nat) : Int)) ∧ v = m * tenN z ∧ m % 10 ≠ 0 ∧ z ≤ 8 ∧ w = w'

end Go.Proofs.Ytndjdmgncjiggaa
namespace Go.Proofs.Ytndjdmgncjiggaa
open Go.RowKit
set_option linter.unusedVariables false
set_option linter.unusedSimpArgs false

def TrimPost (a : Nat) (w : World) (e : Ending) (w' : World) : Prop :=
  ∃ v m k, e = .returned (.tuple #[v, .int .i64 ((k : Nat) : Int)]) ∧ Own w.heap.size w' v (limbs m) ∧ Below w.heap.size w w' ∧ a = m * tenN k ∧ (a = 0 → k = 0) ∧ (a ≠ 0 → m % 10 ≠ 0) ∧ k ≤ 400000000

theorem ten_bound {k N n : Nat} (h : tenN k ≤ N) (h2 : N < B32 ^ n) : k < 32 * n := by
  have h1 : 2 ^ k ≤ tenN k := Nat.pow_le_pow_left (by decide) k
  have e : B32 ^ n = 2 ^ (32 * n) := by rw [Nat.pow_mul]; rfl
  rw [e] at h2
  have h3 : 2 ^ k < 2 ^ (32 * n) := by omega
  exact (Nat.pow_lt_pow_iff_right (by decide)).1 h3

theorem trim_last {L m z : Nat} (h : L % 1000000000 = m * tenN z) (hm : m % 10 ≠ 0) (hz : z ≤ 8) : L = L / tenN z * tenN z ∧ (L / tenN z) % 10 ≠ 0 := by
  have e9 : (1000000000 : Nat) = tenN (9 - z) * tenN z := by rw [← tenN_add, Nat.sub_add_cancel (by omega), tenN_9]
  have hd := Nat.div_add_mod L 1000000000
  rw [h] at hd
  generalize L / 1000000000 = q at *
  have hL : L = (tenN (9 - z) * q + m) * tenN z := by
    rw [← hd]; conv => lhs; lhs; rw [e9]
    grind
  have hq : L / tenN z = tenN (9 - z) * q + m := by rw [hL]; exact Nat.mul_div_cancel _ (tenN_pos z)
  refine ⟨by rw [hq]; exact hL, ?_⟩
  rw [hq]
  have : tenN (9 - z) = 10 * tenN (8 - z) := by rw [show 9 - z = (8 - z) + 1 by omega, tenN_succ, Nat.mul_comm]
  rw [this, Nat.mul_assoc, Nat.mul_add_mod]
  exact hm

def TrimRel (G a n : Nat) (w : World) (L : Nat) (lv cnt : Value) (wr : World) : Prop :=
  ∃ c : Nat, L ≠ 0 ∧ cnt = .int .i64 c ∧ Own G wr lv (limbs L) ∧ a = L * tenN c ∧ Below G w wr

end Go.Proofs.Ytndjdmgncjiggaa
namespace Go.Proofs.Ytndjdmgncjiggaa
open Go.RowKit
set_option linter.unusedVariables false
set_option linter.unusedSimpArgs false

/-- n cut to from 0 to 1300. -/
def cutP (n : Int) : Nat := (min (max n 0) 1300).toNat
theorem cutP_le (n : Int) : cutP n ≤ 1300 := by unfold cutP; omega
theorem cutP_eq (n : Int) : min (max n 0) 1300 = (cutP n : Int) := by unfold cutP; omega
theorem cutP_nat {n : Nat} (h : n ≤ 1300) : cutP (n : Int) = n := by unfold cutP; omega

theorem limbs_one : limbs 1 = [1] := by decide
theorem pow_bound {b : Nat} (hb : b < B32) (e : Nat) : b ^ e < B32 ^ (e + 1) := by
  have h1 : b ^ e ≤ B32 ^ e := Nat.pow_le_pow_left (Nat.le_of_lt hb) e
  have h2 : B32 ^ e < B32 ^ (e + 1) := Nat.pow_lt_pow_right (by decide) (Nat.lt_succ_self e)
  exact Nat.lt_of_le_of_lt h1 h2

theorem and_one (m : Nat) (h : m ≤ 1300) : bits BinOp.and IntKind.i64 (m : Int) 1 = ((m % 2 : Nat) : Int) := by
  have := bits_mask .i64 62 (by decide) (fun n h0 h1 => IntWalk.i64_in n (by omega)) 1 (by decide) (m : Int) (by omega) (by omega)
  have e : (2 : Int) ^ 1 - 1 = 1 := by decide
  rw [e] at this
  rw [this]; omega
theorem shr_cast (N j : Nat) : (N : Int) / 2 ^ j = ((N / 2 ^ j : Nat) : Int) := by push_cast; rfl
theorem half_step (N j : Nat) : N / 2 ^ j = 2 * (N / 2 ^ (j + 1)) + N / 2 ^ j % 2 := by
  rw [Nat.pow_succ, ← Nat.div_div_eq_div_mul]; omega

def PowRel (G b N : Nat) (w : World) (pv i : Value) (wr : World) : Prop :=
  ∃ k : Nat, k ≤ 12 ∧ i = .int .i64 ((k : Int) - 1) ∧ Own G wr pv (limbs (b ^ (N / 2 ^ k))) ∧ Below G w wr

end Go.Proofs.Ytndjdmgncjiggaa
/- Slices of bytes in the world: read, owned, written. (As XWorld's for limbs.) append of bytes, as a law of the walk. Decimal digits, as plain lists: no walk. -/
namespace Go.Proofs.Ytndjdmgncjiggaa
open Go.RowKit
set_option linter.unusedVariables false
set_option linter.unusedSimpArgs false

def Okb (xs : List Nat) : Prop := ∀ x ∈ xs, x < 256
theorem Okb.nil : Okb [] := by intro x h; cases h
theorem Okb.take {xs : List Nat} (h : Okb xs) (n : Nat) : Okb (xs.take n) := fun y hy => h y (List.mem_of_mem_take hy)
theorem Okb.append {xs ys : List Nat} (h : Okb xs) (k : Okb ys) : Okb (xs ++ ys) := by
  intro y hy; rcases List.mem_append.1 hy with hy | hy
  · exact h y hy
  · exact k y hy
theorem Okb.one {x : Nat} (h : x < 256) : Okb [x] := by
  intro y hy; rw [List.mem_singleton] at hy; omega
theorem Okb.set {xs : List Nat} (h : Okb xs) (i v : Nat) (hv : v < 256) : Okb (xs.set i v) := by
  intro y hy; rcases List.mem_or_eq_of_mem_set hy with hy | hy
  · exact h y hy
  · exact hy ▸ hv
theorem Okb.getD {xs : List Nat} (h : Okb xs) (i : Nat) : xs.getD i 0 < 256 := by
  by_cases hi : i < xs.length
  · simp only [List.getD, List.getElem?_eq_getElem hi, Option.getD_some]; exact h _ (List.getElem_mem hi)
  · simp only [List.getD, List.getElem?_eq_none (Nat.le_of_not_lt hi), Option.getD_none]; decide

/-- A byte as a value. -/
def bv (n : Nat) : Value := .int .u8 (n : Int)

/-- The cells that a slice's address leads to read as these limbs. -/
def Rdb (w : World) (ad : Option Addr) (xs : List Nat) : Prop :=
  ∀ i, i < xs.length → ∃ b o, ad = some ⟨b, o, none⟩ ∧ b < w.heap.size ∧ w.cell? ⟨b, o + i, none⟩ = some (.int .u8 ((xs.getD i 0 : Nat) : Int))

theorem Rdb.at {w : World} {b o : Nat} {xs : List Nat} (h : Rdb w (some ⟨b, o, none⟩) xs) (i : Nat) (hi : i < xs.length) :
    w.cell? ⟨b, o + i, none⟩ = some (.int .u8 ((xs.getD i 0 : Nat) : Int)) := by
  obtain ⟨b', o', e, _, hc⟩ := h i hi
  cases e; exact hc
theorem Rdb.lt {w : World} {ad : Option Addr} {xs : List Nat} (h : Rdb w ad xs) (a : Addr) (e : ad = some a) (hx : 0 < xs.length) : a.block < w.heap.size := by
  obtain ⟨b, o, e', hb, _⟩ := h 0 hx
  rw [e] at e'; cases e'; exact hb
theorem Rdb.apart {w : World} {ad : Option Addr} {xs : List Nat} (h : Rdb w ad xs) {g : Nat} (hg : w.heap.size ≤ g) (a : Addr) (e : ad = some a) (hx : 0 < xs.length) : a.block ≠ g := by
  have := h.lt a e hx; omega
theorem Rdb.nil (w : World) (ad : Option Addr) : Rdb w ad [] := by intro i h; simp at h
theorem Rdb.take {w : World} {ad : Option Addr} {xs : List Nat} (h : Rdb w ad xs) (n : Nat) : Rdb w ad (xs.take n) := by
  intro i hi
  rw [List.length_take] at hi
  obtain ⟨b, o, e, hb, hc⟩ := h i (by omega)
  exact ⟨b, o, e, hb, by rw [hc]; simp [List.getD, show i < n by omega]⟩
theorem Rdb.below {w w' : World} {ad : Option Addr} {xs : List Nat} (h : Rdb w ad xs) (hb : Below w.heap.size w w') : Rdb w' ad xs := by
  intro i hi
  obtain ⟨b, o, e, hlt, hc⟩ := h i hi
  exact ⟨b, o, e, Nat.lt_of_lt_of_le hlt hb.size, by rw [hb.cell (p := ⟨b, o + i, none⟩) hlt]; exact hc⟩
/-- Block g holds these limbs, and then what r says; none of it frozen. -/
def Bkb (w : World) (g : Nat) (ys : List Nat) (r : List Value) : Prop := w.heap[g]? = some (.cells (ys.map bv ++ r).toArray 5 (0, 0))
/-- The world with other limbs in block g. -/
def putb (g : Nat) (ys : List Nat) (r : List Value) (w : World) : World := { w with heap := w.heap.setIfInBounds g (.cells (ys.map bv ++ r).toArray 5 (0, 0)) }

theorem Bkb.lt {w : World} {g : Nat} {ys : List Nat} {r : List Value} (h : Bkb w g ys r) : g < w.heap.size := by
  rcases Nat.lt_or_ge g w.heap.size with h1 | h1
  · exact h1
  · rw [Bkb, Array.getElem?_eq_none h1] at h; cases h
theorem Bkb.cell {w : World} {g : Nat} {ys : List Nat} {r : List Value} (h : Bkb w g ys r) (i : Nat) (hi : i < ys.length) :
    w.cell? ⟨g, i, none⟩ = some (.int .u8 ((ys.getD i 0 : Nat) : Int)) := by
  unfold Bkb at h
  have e : (List.map bv ys ++ r)[i]? = some (bv (ys.getD i 0)) := by
    rw [List.getElem?_append_left (by simpa using hi)]
    simp [List.getD, hi]
  simp only [World.cell?, h]
  simpa [bv] using e
theorem Bkb.free {w : World} {g : Nat} {ys : List Nat} {r : List Value} (h : Bkb w g ys r) (i : Nat) : w.frozen? ⟨g, i, none⟩ = false := by
  unfold Bkb at h
  simp [World.frozen?, h]
theorem Bkb.rd {w : World} {g : Nat} {ys : List Nat} {r : List Value} (h : Bkb w g ys r) (o n : Nat) (hn : o + n ≤ ys.length) : Rdb w (some ⟨g, o, none⟩) ((ys.drop o).take n) := by
  intro i hi
  rw [List.length_take, List.length_drop] at hi
  refine ⟨g, o, rfl, h.lt, ?_⟩
  rw [h.cell (o + i) (by omega)]
  simp [List.getD, show i < n by omega]
theorem Bkb.rd_all {w : World} {g : Nat} {ys : List Nat} {r : List Value} (h : Bkb w g ys r) : Rdb w (some ⟨g, 0, none⟩) ys := by
  have := h.rd 0 ys.length (by omega)
  simpa using this
theorem putb_heap (g : Nat) (ys : List Nat) (r : List Value) (w : World) : (putb g ys r w).heap.size = w.heap.size := by simp [putb]
theorem putb_blk {w : World} {g : Nat} (ys : List Nat) (r : List Value) (h : g < w.heap.size) : Bkb (putb g ys r w) g ys r := by
  simp [Bkb, putb, h]
theorem putb_put (g : Nat) (ys zs : List Nat) (r r' : List Value) (w : World) : putb g ys r (putb g zs r' w) = putb g ys r w := by
  simp [putb]
theorem putb_other (g : Nat) (ys : List Nat) (r : List Value) (w : World) (k : Nat) (h : k ≠ g) : (putb g ys r w).heap[k]? = w.heap[k]? := by
  simp only [putb]; rw [Array.getElem?_setIfInBounds_ne (by omega)]
theorem putb_cell (g : Nat) (ys : List Nat) (r : List Value) (w : World) (a : Addr) (h : a.block ≠ g) : (putb g ys r w).cell? a = w.cell? a :=
  World.cell?_of_block (putb_other g ys r w _ h)
theorem putb_same {w : World} {g : Nat} {ys : List Nat} {r : List Value} (h : Bkb w g ys r) : putb g ys r w = w := by
  have hlt := h.lt
  unfold Bkb at h
  have e : w.heap.setIfInBounds g (.cells (ys.map bv ++ r).toArray 5 (0, 0)) = w.heap := by
    apply Array.ext_getElem?
    intro k
    by_cases hk : k = g
    · subst hk; rw [Array.getElem?_setIfInBounds_self_of_lt hlt, h]
    · rw [Array.getElem?_setIfInBounds_ne (by omega)]
  simp only [putb]; rw [e]
theorem setb_blk {w : World} {g : Nat} {ys : List Nat} {r : List Value} (h : Bkb w g ys r) (i v : Nat) (hi : i < ys.length) : w.setCell ⟨g, i, none⟩ (.int .u8 (v : Int)) = putb g (ys.set i v) r w := by
  have hlt := h.lt
  unfold Bkb at h
  have e : (w.setCell ⟨g, i, none⟩ (.int .u8 (v : Int))).heap = w.heap.setIfInBounds g (.cells ((ys.set i v).map bv ++ r).toArray 5 (0, 0)) := by
    apply Array.ext_getElem?
    intro k
    simp only [World.setCell, Array.getElem?_modify]
    by_cases hk : g = k
    · subst hk; rw [Array.getElem?_setIfInBounds_self_of_lt hlt, h]; simp [bv, hi]
    · rw [if_neg hk, Array.getElem?_setIfInBounds_ne hk]
  unfold putb; rw [← e]; rfl
theorem putb_below {B : Nat} {a w : World} (h : Below B a w) {g : Nat} (hg : B ≤ g) (ys : List Nat) (r : List Value) : Below B a (putb g ys r w) :=
  h.trans ⟨rfl, rfl, rfl, by rw [putb_heap]; exact Nat.le_refl _, fun k hk => putb_other g ys r w k (by omega)⟩
theorem Rdb.putb {w : World} {ad : Option Addr} {xs : List Nat} (h : Rdb w ad xs) {g : Nat} (hne : ∀ a, ad = some a → 0 < xs.length → a.block ≠ g) (ys : List Nat) (r : List Value) : Rdb (putb g ys r w) ad xs := by
  intro i hi
  obtain ⟨b, o, e, hb, hc⟩ := h i hi
  exact ⟨b, o, e, by rw [putb_heap]; exact hb, by rw [putb_cell g ys r w ⟨b, o + i, none⟩ (hne ⟨b, o, none⟩ e (by omega))]; exact hc⟩
theorem Rdb.drewN {w : World} {ad : Option Addr} {xs : List Nat} (h : Rdb w ad xs) (q : Nat) : Rdb (w.drewN q) ad xs := h
theorem Bkb.drewN {w : World} {g : Nat} {ys : List Nat} {r : List Value} (h : Bkb w g ys r) (q : Nat) : Bkb (w.drewN q) g ys r := h
theorem Bkb.below {w w' : World} {g : Nat} {ys : List Nat} {r : List Value} (h : Bkb w g ys r) {B : Nat} (hb : Below B w w') (hg : g < B) : Bkb w' g ys r := by
  unfold Bkb; rw [hb.block g hg]; exact h

/-- A slice of limbs that the call owns: at the head of a block from B on, or none. -/
def Ownb (B : Nat) (w : World) (v : Value) (xs : List Nat) : Prop :=
  Okb xs ∧ ((v = .slice none 0 0 ∧ xs = []) ∨ ∃ g cap r, v = .slice (some ⟨g, 0, none⟩) xs.length cap ∧ B ≤ g ∧ Bkb w g xs r ∧ cap = xs.length + r.length ∧ cap ≤ maxLen)
theorem Ownb.nil (B : Nat) (w : World) : Ownb B w (.slice none 0 0) [] := ⟨Okb.nil, .inl ⟨rfl, rfl⟩⟩
/-- What is owned can be read; its address lies from B on. -/
theorem Ownb.view {B : Nat} {w : World} {v : Value} {xs : List Nat} (h : Ownb B w v xs) :
    ∃ ad cap, v = .slice ad xs.length cap ∧ xs.length ≤ cap ∧ Rdb w ad xs ∧ ∀ a, ad = some a → B ≤ a.block ∧ a.block < w.heap.size := by
  obtain ⟨_, ⟨rfl, rfl⟩ | ⟨g, cap, r, rfl, hg, hb, hc, _⟩⟩ := h
  · exact ⟨none, 0, rfl, Nat.le_refl _, Rdb.nil _ _, fun a h => by cases h⟩
  · exact ⟨_, cap, rfl, by omega, hb.rd_all, fun a h => by cases h; exact ⟨hg, hb.lt⟩⟩
theorem Ownb.mono {B B' : Nat} {w : World} {v : Value} {xs : List Nat} (h : Ownb B w v xs) (hB : B' ≤ B) : Ownb B' w v xs := by
  obtain ⟨ho, h | ⟨g, cap, r, e, hg, hb, hc⟩⟩ := h
  · exact ⟨ho, .inl h⟩
  · exact ⟨ho, .inr ⟨g, cap, r, e, by omega, hb, hc⟩⟩
theorem Ownb.below {B : Nat} {w w' : World} {v : Value} {xs : List Nat} (h : Ownb B w v xs) (hb : Below w.heap.size w w') : Ownb B w' v xs := by
  obtain ⟨ho, h | ⟨g, cap, r, e, hg, hk, hc⟩⟩ := h
  · exact ⟨ho, .inl h⟩
  · exact ⟨ho, .inr ⟨g, cap, r, e, hg, hk.below hb hk.lt, hc⟩⟩
theorem Ownb.drewN {B : Nat} {w : World} {v : Value} {xs : List Nat} (h : Ownb B w v xs) (q : Nat) : Ownb B (w.drewN q) v xs := h
/-- A piece at the head of what is owned is owned. -/
theorem Bkb.own {w : World} {g B : Nat} {ys : List Nat} {r : List Value} (h : Bkb w g ys r) (hg : B ≤ g) (ho : Okb ys) (n cap : Nat) (hn : n ≤ ys.length) (hc : cap = ys.length + r.length) (hm : cap ≤ maxLen) :
    Ownb B w (.slice (some ⟨g, 0, none⟩) n cap) (ys.take n) := by
  refine ⟨ho.take n, .inr ⟨g, cap, (ys.drop n).map bv ++ r, ?_, hg, ?_, ?_, hm⟩⟩
  · rw [List.length_take, Nat.min_eq_left hn]
  · unfold Bkb at h ⊢; rw [h, ← List.append_assoc, ← List.map_append, List.take_append_drop]
  · simp; omega
end Go.Proofs.Ytndjdmgncjiggaa
namespace Go.Proofs.Ytndjdmgncjiggaa
open Go.RowKit
set_option linter.unusedVariables false
set_option linter.unusedSimpArgs false

theorem info_u8 : (Try.prog.info? 5).map (fun i => (i.zero, i.size, i.bytes)) = some (some (.int .u8 0), 1, 1) := by kernel_rfl
theorem Ownb.row {B : Nat} {w : World} {v : Value} {xs : List Nat} (h : Ownb B w v xs) : w.ownsRow B 5 1 v xs.length (xs.map bv) := by
  obtain ⟨_, ⟨rfl, rfl⟩ | ⟨g, cap, r, rfl, hg, hb, hc, hm⟩⟩ := h
  · exact ⟨by simp, .inl ⟨rfl, rfl⟩⟩
  · refine ⟨by simp, .inr ⟨g, cap, _, rfl, hg, hb, by omega, hm, by simp; omega, ?_⟩⟩
    simp
theorem ownb_of_row {B : Nat} {w : World} {v : Value} {n : Nat} {xs : List Nat} (h : w.ownsRow B 5 1 v n (xs.map bv)) (ho : Okb xs) : Ownb B w v xs := by
  obtain ⟨hl, ⟨rfl, rfl⟩ | ⟨g, cap, cur, rfl, hg, hb, hc, hm, hs, ht⟩⟩ := h
  · have : xs = [] := List.eq_nil_of_length_eq_zero (by simpa using hl)
    subst this
    exact Ownb.nil _ _
  · simp only [List.length_map, Nat.mul_one] at hl
    subst hl
    refine ⟨ho, .inr ⟨g, cap, cur.toList.drop xs.length, rfl, hg, ?_, ?_, hm⟩⟩
    · unfold Bkb; rw [hb]
      have : cur = (xs.map bv ++ cur.toList.drop xs.length).toArray := by
        rw [← ht, Nat.mul_one, List.take_append_drop]
      rw [← this]
    · have : cur.toList.length = cap := by simpa using hs
      rw [List.length_drop, this]; omega
theorem Ownb.blockGe {B : Nat} {w : World} {v : Value} {xs : List Nat} (h : Ownb B w v xs) : ∀ k, v.ownBlock = some k → B ≤ k := by
  obtain ⟨_, ⟨rfl, rfl⟩ | ⟨g, cap, r, rfl, hg, _⟩⟩ := h
  · intro k e; cases e
  · intro k e; cases e; exact hg

end Go.Proofs.Ytndjdmgncjiggaa
namespace Go.Proofs.Ytndjdmgncjiggaa
open Go.RowKit
set_option linter.unusedVariables false
set_option linter.unusedSimpArgs false

/-- The value of digits, the lowest first. -/
def dval : List Nat → Nat
  | [] => 0
  | x :: xs => (x - 48) + 10 * dval xs
def Okd (xs : List Nat) : Prop := ∀ x ∈ xs, 48 ≤ x ∧ x ≤ 57
theorem Okd.nil : Okd [] := by intro x h; cases h
theorem Okd.b {xs : List Nat} (h : Okd xs) : Okb xs := fun x hx => by have := h x hx; omega
theorem Okd.snoc {xs : List Nat} {x : Nat} (h : Okd xs) (h1 : 48 ≤ x) (h2 : x ≤ 57) : Okd (xs ++ [x]) := by
  intro y hy; rcases List.mem_append.1 hy with hy | hy
  · exact h y hy
  · rw [List.mem_singleton] at hy; omega
theorem Okd.take {xs : List Nat} (h : Okd xs) (n : Nat) : Okd (xs.take n) := fun y hy => h y (List.mem_of_mem_take hy)
theorem Okd.tail {x : Nat} {xs : List Nat} (h : Okd (x :: xs)) : Okd xs := fun y hy => h y (by simp [hy])
theorem Okd.rev {xs : List Nat} (h : Okd xs) : Okd xs.reverse := fun y hy => h y (List.mem_reverse.1 hy)
theorem dval_snoc (xs : List Nat) (x : Nat) : dval (xs ++ [x]) = dval xs + tenN xs.length * (x - 48) := by
  induction xs with
  | nil => simp [dval, tenN]
  | cons y ys ih => simp only [List.cons_append, dval, ih, List.length_cons, tenN_succ]; grind

/-- The digits of a natural, the lowest first: none for 0. -/
def declF : Nat → Nat → List Nat
  | 0, _ => []
  | f + 1, N => if N = 0 then [] else (48 + N % 10) :: declF f (N / 10)
def decl (N : Nat) : List Nat := declF N N
theorem declF_eq : ∀ (f g N : Nat), N ≤ f → N ≤ g → declF f N = declF g N := by
  intro f
  induction f with
  | zero => intro g N h _; obtain rfl : N = 0 := by omega
            cases g <;> simp [declF]
  | succ f ih =>
    intro g N h k
    cases g with
    | zero => obtain rfl : N = 0 := by omega
              simp [declF]
    | succ g =>
      simp only [declF]
      split
      · rfl
      · rw [ih g (N / 10) (by omega) (by omega)]
theorem decl_zero : decl 0 = [] := rfl
theorem decl_pos {N : Nat} (h : N ≠ 0) : decl N = (48 + N % 10) :: decl (N / 10) := by
  unfold decl
  obtain ⟨f, rfl⟩ : ∃ f, N = f + 1 := ⟨N - 1, by omega⟩
  conv => lhs; rw [declF, if_neg h]
  rw [declF_eq f ((f + 1) / 10) _ (by omega) (Nat.le_refl _)]
theorem decl_ind {P : Nat → Prop} (z : P 0) (s : ∀ N, N ≠ 0 → P (N / 10) → P N) : ∀ N, P N := by
  intro N
  induction N using Nat.strongRecOn with
  | _ N ih =>
    by_cases h : N = 0
    · subst h; exact z
    · exact s N h (ih _ (by omega))
theorem decl_ok (N : Nat) : Okd (decl N) := by
  refine decl_ind (P := fun N => Okd (decl N)) Okd.nil ?_ N
  intro N h ih; rw [decl_pos h]
  intro y hy; rcases List.mem_cons.1 hy with rfl | hy
  · omega
  · exact ih y hy
theorem dval_decl (N : Nat) : dval (decl N) = N := by
  refine decl_ind (P := fun N => dval (decl N) = N) rfl ?_ N
  intro N h ih; rw [decl_pos h, dval, ih]; omega
/-- Digits whose highest is no nought are those of their value. -/
theorem decl_dval {xs : List Nat} (h : Okd xs) (ht : ∀ n, xs.length = n + 1 → xs.getD n 0 ≠ 48) : decl (dval xs) = xs := by
  induction xs with
  | nil => rfl
  | cons x xs ih =>
    have hx : decl (dval xs) = xs := ih h.tail (fun n hn => by have := ht (n + 1) (by simp [hn]); simpa using this)
    have h0 := h x (by simp)
    have hne : dval (x :: xs) ≠ 0 := by
      cases xs with
      | nil => have := ht 0 rfl; simp at this; simp [dval]; omega
      | cons y ys =>
        intro h1
        simp only [dval] at h1
        have h2 : dval (y :: ys) = 0 := by simp only [dval]; omega
        rw [h2] at hx; cases hx
    rw [decl_pos hne]
    have hm : dval (x :: xs) % 10 = x - 48 := by simp only [dval]; omega
    have hd : dval (x :: xs) / 10 = dval xs := by simp only [dval]; omega
    rw [hm, hd, hx, show 48 + (x - 48) = x by omega]
theorem dval_lt (xs : List Nat) (h : Okd xs) : dval xs < tenN xs.length := by
  induction xs with
  | nil => simp [dval, tenN]
  | cons x xs ih =>
    have := ih h.tail
    have h0 := h x (by simp)
    simp only [dval, List.length_cons, tenN_succ]; omega
theorem decl_len_le {n N : Nat} (h : N < tenN n) : (decl N).length ≤ n := by
  induction n generalizing N with
  | zero => obtain rfl : N = 0 := by simpa [tenN] using h
            simp [decl_zero]
  | succ n ih =>
    by_cases h0 : N = 0
    · subst h0; simp [decl_zero]
    · rw [decl_pos h0, List.length_cons]
      rw [tenN_succ] at h
      have := ih (N := N / 10) (by omega)
      omega
theorem decl_ne {N : Nat} (h : N ≠ 0) : decl N ≠ [] := by rw [decl_pos h]; simp

/-- The digits without the noughts at their end. -/
def trimLen (xs : List Nat) : Nat → Nat
  | 0 => 0
  | n + 1 => if xs.getD n 0 = 48 then trimLen xs n else n + 1
theorem trimLen_le (xs : List Nat) : ∀ n, trimLen xs n ≤ n
  | 0 => Nat.le_refl _
  | n + 1 => by unfold trimLen; split; exact Nat.le_succ_of_le (trimLen_le xs n); exact Nat.le_refl _
theorem dval_take_succ (xs : List Nat) (n : Nat) (h : n < xs.length) : dval (xs.take (n + 1)) = dval (xs.take n) + tenN n * (xs.getD n 0 - 48) := by
  rw [List.take_succ_eq_append_getElem h, dval_snoc, List.length_take, Nat.min_eq_left (by omega)]
  simp [List.getD, h]
theorem dval_trim (xs : List Nat) : ∀ n, n ≤ xs.length → dval (xs.take (trimLen xs n)) = dval (xs.take n)
  | 0, _ => rfl
  | n + 1, h => by
    unfold trimLen; split
    · rename_i h0; rw [dval_trim xs n (by omega), dval_take_succ _ _ (by omega), h0]; simp
    · rfl
theorem trim_top (xs : List Nat) : ∀ n m, trimLen xs n = m + 1 → xs.getD m 0 ≠ 48
  | 0, m, h => by simp [trimLen] at h
  | n + 1, m, h => by
    unfold trimLen at h; split at h
    · exact trim_top xs n m h
    · rename_i h0; obtain rfl : n = m := by omega
      exact h0
theorem trim_decl {xs : List Nat} (h : Okd xs) : xs.take (trimLen xs xs.length) = decl (dval xs) := by
  have hl := trimLen_le xs xs.length
  have e : dval (xs.take (trimLen xs xs.length)) = dval xs := by rw [dval_trim _ _ (Nat.le_refl _), List.take_length]
  rw [← e]
  refine (decl_dval (h.take _) ?_).symm
  intro n hn
  rw [List.length_take, Nat.min_eq_left hl] at hn
  have := trim_top xs _ n hn
  simpa [List.getD, List.getElem?_take, hn] using this

/-- The digits as they are told, the highest first. -/
def dec (N : Nat) : List Nat := if N = 0 then [48] else (decl N).reverse
/-- A text of bytes. -/
def txt (l : List Nat) : ByteArray := ⟨(l.map UInt8.ofNat).toArray⟩
theorem txt_size (l : List Nat) : (txt l).size = l.length := by simp [txt, ByteArray.size]
theorem dec_ok (N : Nat) : Okd (dec N) := by
  unfold dec; split
  · intro x hx; rw [List.mem_singleton] at hx; omega
  · exact (decl_ok N).rev
theorem dval_dec (N : Nat) : dval (dec N).reverse = N := by
  unfold dec; split
  · rename_i h; subst h; rfl
  · rw [List.reverse_reverse, dval_decl]
theorem dec_len_le {n N : Nat} (hn : 0 < n) (h : N < tenN n) : (dec N).length ≤ n := by
  unfold dec; split
  · simp; omega
  · rw [List.length_reverse]; exact decl_len_le h
theorem dec_pos (N : Nat) : 0 < (dec N).length := by
  unfold dec; split
  · simp
  · rename_i h; rw [List.length_reverse]; exact List.length_pos_iff.2 (decl_ne h)
end Go.Proofs.Ytndjdmgncjiggaa
/- The walks of bytes TrimRight at one byte, and of slices Reverse at bytes. The walk of Digits. The walks of short, Parse. -/
namespace Go.Proofs.Ytndjdmgncjiggaa
open Go.RowKit
set_option linter.unusedVariables false
set_option linter.unusedSimpArgs false

/-- Half way through a reversal: k from either end are exchanged. -/
def Half (xs ys : List Nat) (k : Nat) : Prop := ys.length = xs.length ∧ ∀ t, t < xs.length → ys.getD t 0 = if t < k ∨ xs.length - k ≤ t then xs.getD (xs.length - 1 - t) 0 else xs.getD t 0
theorem Half.zero (xs : List Nat) : Half xs xs 0 := ⟨rfl, fun t ht => by rw [if_neg (by omega)]⟩
theorem getD_set (l : List Nat) (i t v : Nat) (h : i < l.length) : (l.set i v).getD t 0 = if i = t then v else l.getD t 0 := by
  by_cases hit : i = t
  · subst hit; simp [List.getD, h]
  · simp [List.getD, hit]
theorem Half.step {xs ys : List Nat} {k : Nat} (h : Half xs ys k) (hk : k < xs.length - 1 - k) :
    Half xs ((ys.set k (ys.getD (xs.length - 1 - k) 0)).set (xs.length - 1 - k) (ys.getD k 0)) (k + 1) := by
  obtain ⟨hl, h2⟩ := h
  have hk1 : ys.getD k 0 = xs.getD k 0 := by rw [h2 k (by omega), if_neg (by omega)]
  have hk2 : ys.getD (xs.length - 1 - k) 0 = xs.getD (xs.length - 1 - k) 0 := by rw [h2 _ (by omega), if_neg (by omega)]
  refine ⟨by simp [hl], fun t ht => ?_⟩
  rw [getD_set _ _ _ _ (by rw [List.length_set]; omega), getD_set _ _ _ _ (by omega), hk1, hk2]
  by_cases h3 : xs.length - 1 - k = t
  · subst h3
    rw [if_pos rfl, if_pos (by omega), show xs.length - 1 - (xs.length - 1 - k) = k by omega]
  · rw [if_neg h3]
    by_cases h4 : k = t
    · subst h4; rw [if_pos rfl, if_pos (by omega)]
    · rw [if_neg h4, h2 t ht]
      by_cases h5 : t < k ∨ xs.length - k ≤ t
      · rw [if_pos h5, if_pos (by omega)]
      · rw [if_neg h5, if_neg (by omega)]
theorem Half.done {xs ys : List Nat} {k : Nat} (h : Half xs ys k) (hk : xs.length ≤ 2 * k + 1) : ys = xs.reverse := by
  obtain ⟨hl, h2⟩ := h
  apply List.ext_getElem (by simp [hl])
  intro i h1 h3
  have h4 := h2 i (by omega)
  have h5 : ys[i] = ys.getD i 0 := by simp [List.getD, h1]
  rw [h5, h4, List.getElem_reverse]
  by_cases h6 : i < k ∨ xs.length - k ≤ i
  · rw [if_pos h6]; simp [List.getD, show xs.length - 1 - i < xs.length by omega]
  · rw [if_neg h6]
    have h7 : xs.length - 1 - i = i := by omega
    simp only [h7]
    simp [List.getD, show i < xs.length by omega]

def RevRel (g n : Nat) (xs : List Nat) (r : List Value) (w : World) (i j : Value) (wr : World) : Prop :=
  ∃ k q ys, i = .int .i64 ((k : Nat) : Int) ∧ j = .int .i64 ((n : Int) - 1 - (k : Int)) ∧ 2 * k ≤ n ∧ Okb ys ∧ Half xs ys k ∧ wr = (putb g ys r w).drewN q

end Go.Proofs.Ytndjdmgncjiggaa
namespace Go.Proofs.Ytndjdmgncjiggaa
open Go.RowKit
set_option linter.unusedVariables false
set_option linter.unusedSimpArgs false

theorem Own.kept {B : Nat} {w w' : World} {v : Value} {xs : List Nat} (h : Own B w v xs) (hk : ∀ k, v.ownBlock = some k → w'.heap[k]? = w.heap[k]?) : Own B w' v xs := by
  obtain ⟨ho, h | ⟨g, cap, r, e, hg, hb, hc⟩⟩ := h
  · exact ⟨ho, .inl h⟩
  · exact ⟨ho, .inr ⟨g, cap, r, e, hg, by unfold Blk; rw [hk g (by rw [e]; rfl)]; exact hb, hc⟩⟩
theorem Ownb.kept {B : Nat} {w w' : World} {v : Value} {xs : List Nat} (h : Ownb B w v xs) (hk : ∀ k, v.ownBlock = some k → w'.heap[k]? = w.heap[k]?) : Ownb B w' v xs := by
  obtain ⟨ho, h | ⟨g, cap, r, e, hg, hb, hc⟩⟩ := h
  · exact ⟨ho, .inl h⟩
  · exact ⟨ho, .inr ⟨g, cap, r, e, hg, by unfold Bkb; rw [hk g (by rw [e]; rfl)]; exact hb, hc⟩⟩
theorem Own.blockLt {B : Nat} {w : World} {v : Value} {xs : List Nat} (h : Own B w v xs) : ∀ k, v.ownBlock = some k → k < w.heap.size := by
  obtain ⟨_, ⟨rfl, rfl⟩ | ⟨g, cap, r, rfl, hg, hb, _⟩⟩ := h
  · intro k e; cases e
  · intro k e; cases e; exact hb.lt
theorem Ownb.blockLt {B : Nat} {w : World} {v : Value} {xs : List Nat} (h : Ownb B w v xs) : ∀ k, v.ownBlock = some k → k < w.heap.size := by
  obtain ⟨_, ⟨rfl, rfl⟩ | ⟨g, cap, r, rfl, hg, hb, _⟩⟩ := h
  · intro k e; cases e
  · intro k e; cases e; exact hb.lt
/-- Limbs and bytes lie in two blocks. -/
theorem own_apart {B B' : Nat} {w : World} {v v' : Value} {xs ys : List Nat} (h : Own B w v xs) (h' : Ownb B' w v' ys) (k : Nat) (e : v.ownBlock = some k) : some k ≠ v'.ownBlock := by
  intro e'
  obtain ⟨_, ⟨rfl, _⟩ | ⟨g, cap, r, rfl, _, hb, _⟩⟩ := h
  · cases e
  obtain ⟨_, ⟨rfl, _⟩ | ⟨g', cap', r', rfl, _, hb', _⟩⟩ := h'
  · cases e'
  cases e; cases e'
  unfold Blk at hb; unfold Bkb at hb'
  rw [hb] at hb'
  simp at hb'

def DGIn (G n Q N : Nat) (lv : Value) (w : World) (ov rm i : Value) (wr : World) : Prop :=
  ∃ (j r : Nat) (o : List Nat), j ≤ 9 ∧ i = .int .i64 j ∧ rm = .int .u32 r ∧ r < tenN (9 - j) ∧ Ownb G wr ov o ∧ Okd o ∧ N = (Q * tenN (9 - j) + r) * tenN o.length + dval o ∧ o.length ≤ 32 * n + j ∧ Own G wr lv (limbs Q) ∧ Below G w wr

theorem dg_num {Q N r P V T : Nat} (h : N = (Q * (T * 10) + r) * P + V) : N = (Q * T + r / 10) * (P * 10) + (V + P * (r % 10)) := by
  have := Nat.div_add_mod r 10
  rw [h]
  conv => lhs; rw [← this]
  grind

def DGRel (G n N : Nat) (w : World) (L : Nat) (lv ov : Value) (wr : World) : Prop :=
  ∃ o : List Nat, Own G wr lv (limbs L) ∧ Ownb G wr ov o ∧ Okd o ∧ N = L * tenN o.length + dval o ∧ Below G w wr ∧ o.length ≤ 32 * n + 9

end Go.Proofs.Ytndjdmgncjiggaa
namespace Go.Proofs.Ytndjdmgncjiggaa
open Go.RowKit
set_option linter.unusedVariables false
set_option linter.unusedSimpArgs false

/-- The bytes of a text as numbers. -/
def nums (s : ByteArray) : List Nat := s.data.toList.map UInt8.toNat
theorem nums_len (s : ByteArray) : (nums s).length = s.size := by
  unfold nums; rw [List.length_map]; rfl
theorem nums_at (s : ByteArray) (k : Nat) (h : k < s.size) : (nums s).getD k 0 = s[k].toNat := by
  have h1 : k < s.data.toList.length := h
  unfold nums
  simp only [List.getD, List.getElem?_map, List.getElem?_eq_getElem h1, Option.map_some, Option.getD_some]
  rfl
/-- The natural that digits tell, the highest first. -/
def hval (l : List Nat) : Nat := dval l.reverse
theorem hval_nil : hval [] = 0 := rfl
theorem hval_snoc (l : List Nat) (x : Nat) : hval (l ++ [x]) = 10 * hval l + (x - 48) := by
  unfold hval; rw [List.reverse_append]; simp only [List.reverse_cons, List.reverse_nil, List.nil_append, List.cons_append, dval]; omega
theorem hval_one (x : Nat) : hval [x] = x - 48 := by have := hval_snoc [] x; simpa [hval_nil] using this
theorem hval_append (l m : List Nat) : hval (l ++ m) = hval l * tenN m.length + hval m := by
  induction m generalizing l with
  | nil => simp [tenN, hval_nil]
  | cons x m ih =>
    have e1 : l ++ x :: m = (l ++ [x]) ++ m := by simp
    have e2 : x :: m = [x] ++ m := rfl
    rw [e1, ih, e2, ih [x], hval_snoc, hval_one, List.length_append, List.length_singleton, Nat.add_comm 1, tenN_succ]
    grind
theorem hval_lt {l : List Nat} (h : Okd l) : hval l < tenN l.length := by
  have := dval_lt l.reverse h.rev
  rwa [List.length_reverse] at this
theorem take_snoc' (l : List Nat) (k : Nat) (h : k < l.length) : l.take (k + 1) = l.take k ++ [l.getD k 0] := by
  rw [List.take_succ_eq_append_getElem h]; simp [List.getD, h]

def ShortPost (l : List Nat) (w : World) (e : Ending) (w' : World) : Prop :=
  ((Okd l ∧ e = .returned (.tuple #[.int .u32 ((hval l : Nat) : Int), .bool true])) ∨ (¬ Okd l ∧ e = .returned (.tuple #[.int .u32 0, .bool false]))) ∧ w = w'

theorem nums_take (t : ByteArray) (n : Nat) : nums (t.extract 0 n) = (nums t).take n := by
  unfold nums; simp [ByteArray.data_extract, List.map_take]
theorem nums_drop (t : ByteArray) (n : Nat) : nums (t.extract n t.size) = (nums t).drop n := by
  have e : (nums t).drop n = ((nums t).drop n).take (t.size - n) := by
    rw [List.take_of_length_le]; rw [List.length_drop, nums_len]; exact Nat.le_refl _
  rw [e]
  unfold nums; simp [ByteArray.data_extract, List.map_take, List.map_drop]

/-- What Parse tells of a text's bytes. -/
def ParsePost (l : List Nat) (w : World) (e : Ending) (w' : World) : Prop :=
  ((0 < l.length ∧ l.length ≤ 2000 ∧ Okd l ∧ ∃ v, e = .returned (.tuple #[v, .bool true]) ∧ Own w.heap.size w' v (limbs (hval l))) ∨
   (¬ (0 < l.length ∧ l.length ≤ 2000 ∧ Okd l) ∧ e = .returned (.tuple #[.slice none 0 0, .bool false]))) ∧ Below w.heap.size w w'

def PRel (G : Nat) (s : ByteArray) (w : World) (k : Nat) (sv lvv : Value) (wr : World) : Prop :=
  ∃ (t : ByteArray) (done : List Nat), k = t.size ∧ sv = .string t ∧ nums s = done ++ nums t ∧ Okd done ∧ Own G wr lvv (limbs (hval done)) ∧ Below G w wr

end Go.Proofs.Ytndjdmgncjiggaa
