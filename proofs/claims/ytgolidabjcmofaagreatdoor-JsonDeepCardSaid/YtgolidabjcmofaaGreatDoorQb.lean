/- Texts of the claim. -/
import Derived.Test.YtgolidabjcmofaaGreatDoorRows
import Derived.Below
import Derived.WalkKit
import Derived.WalkSpells
import Derived.WalkLawsBesides
import Derived.Deep.QuietTactic
import Derived.BigQuiet
import Derived.Lib.Hide
import Derived.Lib.Strings
import Derived.Lib.Slices
import Derived.Lib.Small
import Derived.Lib.Walk
import Derived.Lib.BitFns
import Derived.Laws.CopyOwn
import Derived.Deep.LoopGhost
namespace Go.Proofs.YtgolidabjcmofaaGreatDoor
open Go.RowKit
set_option linter.unusedVariables false
set_option linter.unusedSimpArgs false
def B32 : Nat := 4294967296
theorem B32_eq : B32 = 4294967296 := rfl
theorem B32_pos : 0 < B32 := by decide
def val : List Nat → Nat
  | [] => 0
  | x :: xs => x + B32 * val xs
def Okl (xs : List Nat) : Prop := ∀ x ∈ xs, x < B32
theorem Okl.nil : Okl [] := by intro x h; cases h
theorem Okl.cons {x : Nat} {xs : List Nat} (h : x < B32) (hs : Okl xs) : Okl (x :: xs) := by
  intro y hy; rcases List.mem_cons.1 hy with rfl | hy
  · exact h
  · exact hs y hy
theorem Okl.head {x : Nat} {xs : List Nat} (h : Okl (x :: xs)) : x < B32 := h x (by simp)
theorem Okl.tail {x : Nat} {xs : List Nat} (h : Okl (x :: xs)) : Okl xs := fun y hy => h y (by simp [hy])
theorem Okl.take {xs : List Nat} (h : Okl xs) (n : Nat) : Okl (xs.take n) := fun y hy => h y (List.mem_of_mem_take hy)
theorem Okl.drop {xs : List Nat} (h : Okl xs) (n : Nat) : Okl (xs.drop n) := fun y hy => h y (List.mem_of_mem_drop hy)
theorem Okl.append {xs ys : List Nat} (h : Okl xs) (k : Okl ys) : Okl (xs ++ ys) := by
  intro y hy; rcases List.mem_append.1 hy with hy | hy
  · exact h y hy
  · exact k y hy
theorem Okl.set {xs : List Nat} (h : Okl xs) (i v : Nat) (hv : v < B32) : Okl (xs.set i v) := by
  intro y hy; rcases List.mem_or_eq_of_mem_set hy with hy | hy
  · exact h y hy
  · exact hy ▸ hv
theorem Okl.getD {xs : List Nat} (h : Okl xs) (i : Nat) : xs.getD i 0 < B32 := by
  by_cases hi : i < xs.length
  · simp only [List.getD, List.getElem?_eq_getElem hi, Option.getD_some]; exact h _ (List.getElem_mem hi)
  · simp only [List.getD, List.getElem?_eq_none (Nat.le_of_not_lt hi), Option.getD_none]; exact B32_pos
theorem Okl.replicate (n : Nat) : Okl (List.replicate n 0) := by
  intro y hy; rw [(List.mem_replicate.1 hy).2]; exact B32_pos
theorem val_append (xs ys : List Nat) : val (xs ++ ys) = val xs + B32 ^ xs.length * val ys := by
  induction xs with
  | nil => simp [val]
  | cons x xs ih => simp only [List.cons_append, val, ih, List.length_cons, Nat.pow_succ]; grind
theorem val_lt {xs : List Nat} (h : Okl xs) : val xs < B32 ^ xs.length := by
  induction xs with
  | nil => simp [val]
  | cons x xs ih =>
    have h1 := h.head
    have h2 := ih h.tail
    simp only [val, List.length_cons, Nat.pow_succ]
    have : B32 * (val xs + 1) ≤ B32 * B32 ^ xs.length := Nat.mul_le_mul_left _ h2
    rw [Nat.mul_comm (B32 ^ xs.length)]
    rw [Nat.mul_add] at this; omega
theorem val_take_succ (xs : List Nat) (n : Nat) (h : n < xs.length) : val (xs.take (n + 1)) = val (xs.take n) + B32 ^ n * xs.getD n 0 := by
  rw [List.take_succ_eq_append_getElem h, val_append, List.length_take, Nat.min_eq_left (by omega)]
  simp [val, List.getD, h]
def limbsF : Nat → Nat → List Nat
  | 0, _ => []
  | f + 1, N => if N = 0 then [] else N % B32 :: limbsF f (N / B32)
def limbs (N : Nat) : List Nat := limbsF N N
theorem limbsF_eq : ∀ (f g N : Nat), N ≤ f → N ≤ g → limbsF f N = limbsF g N := by
  intro f
  induction f with
  | zero => intro g N h _; obtain rfl : N = 0 := by omega
            cases g <;> simp [limbsF]
  | succ f ih =>
    intro g N h k
    cases g with
    | zero => obtain rfl : N = 0 := by omega
              simp [limbsF]
    | succ g =>
      simp only [limbsF]
      split
      · rfl
      · rename_i hN
        have : N / B32 < N := Nat.div_lt_self (by omega) (by decide)
        rw [ih g (N / B32) (by omega) (by omega)]
theorem limbs_zero : limbs 0 = [] := rfl
theorem limbs_pos {N : Nat} (h : N ≠ 0) : limbs N = N % B32 :: limbs (N / B32) := by
  unfold limbs
  obtain ⟨f, rfl⟩ : ∃ f, N = f + 1 := ⟨N - 1, by omega⟩
  conv => lhs; rw [limbsF, if_neg h]
  have : (f + 1) / B32 < f + 1 := Nat.div_lt_self (by omega) (by decide)
  rw [limbsF_eq f ((f + 1) / B32) _ (by omega) (Nat.le_refl _)]
theorem limbs_ind {P : Nat → Prop} (z : P 0) (s : ∀ N, N ≠ 0 → P (N / B32) → P N) : ∀ N, P N := by
  intro N
  induction N using Nat.strongRecOn with
  | _ N ih =>
    by_cases h : N = 0
    · subst h; exact z
    · exact s N h (ih _ (Nat.div_lt_self (by omega) (by decide)))
theorem limbs_ok (N : Nat) : Okl (limbs N) := by
  refine limbs_ind (P := fun N => Okl (limbs N)) ?_ ?_ N
  · exact Okl.nil
  · intro N h ih; rw [limbs_pos h]; exact Okl.cons (Nat.mod_lt _ B32_pos) ih
theorem val_limbs (N : Nat) : val (limbs N) = N := by
  refine limbs_ind (P := fun N => val (limbs N) = N) rfl ?_ N
  intro N h ih; rw [limbs_pos h, val, ih]; exact Nat.mod_add_div N B32
theorem limbs_nil_iff (N : Nat) : limbs N = [] ↔ N = 0 := by
  constructor
  · intro h; rw [← val_limbs N, h]; rfl
  · rintro rfl; rfl
theorem limbs_length_le {n N : Nat} (h : N < B32 ^ n) : (limbs N).length ≤ n := by
  induction n generalizing N with
  | zero => obtain rfl : N = 0 := by simp at h; exact h
            simp [limbs_zero]
  | succ n ih =>
    by_cases h0 : N = 0
    · subst h0; simp [limbs_zero]
    · rw [limbs_pos h0, List.length_cons]
      have : N / B32 < B32 ^ n := by rw [Nat.div_lt_iff_lt_mul B32_pos, ← Nat.pow_succ]; exact h
      have := ih this; omega
theorem limbs_lt_pow (N : Nat) : N < B32 ^ (limbs N).length := by
  have := val_lt (limbs_ok N); rwa [val_limbs] at this
theorem limbs_val {xs : List Nat} (h : Okl xs) (ht : ∀ n, xs.length = n + 1 → xs.getD n 0 ≠ 0) : limbs (val xs) = xs := by
  induction xs with
  | nil => rfl
  | cons x xs ih =>
    have hx : limbs (val xs) = xs := ih h.tail (fun n hn => by have := ht (n + 1) (by simp [hn]); simpa using this)
    have hne : val (x :: xs) ≠ 0 := by
      cases xs with
      | nil => have := ht 0 rfl; simp at this; simp [val]; omega
      | cons y ys =>
        intro h0
        simp only [val] at h0
        have h1 : B32 * (y + B32 * val ys) = 0 := by omega
        have h2 : val (y :: ys) = 0 := by
          simp only [val]; rcases Nat.mul_eq_zero.1 h1 with h | h
          · exact absurd h (by decide)
          · exact h
        rw [h2] at hx; cases hx
    rw [limbs_pos hne]
    have hm : val (x :: xs) % B32 = x := by simp only [val, Nat.add_mul_mod_self_left]; exact Nat.mod_eq_of_lt h.head
    have hd : val (x :: xs) / B32 = val xs := by simp only [val]; rw [Nat.add_mul_div_left _ _ B32_pos, Nat.div_eq_of_lt h.head, Nat.zero_add]
    rw [hm, hd, hx]
def cutLen (xs : List Nat) : Nat → Nat
  | 0 => 0
  | n + 1 => if xs.getD n 0 = 0 then cutLen xs n else n + 1
theorem cutLen_le (xs : List Nat) : ∀ n, cutLen xs n ≤ n
  | 0 => Nat.le_refl _
  | n + 1 => by unfold cutLen; split; exact Nat.le_succ_of_le (cutLen_le xs n); exact Nat.le_refl _
theorem val_cut (xs : List Nat) : ∀ n, n ≤ xs.length → val (xs.take (cutLen xs n)) = val (xs.take n)
  | 0, _ => rfl
  | n + 1, h => by
    unfold cutLen; split
    · rename_i h0; rw [val_cut xs n (by omega), val_take_succ _ _ (by omega), h0]; simp
    · rfl
theorem cut_top (xs : List Nat) : ∀ n m, cutLen xs n = m + 1 → xs.getD m 0 ≠ 0
  | 0, m, h => by simp [cutLen] at h
  | n + 1, m, h => by
    unfold cutLen at h; split at h
    · exact cut_top xs n m h
    · rename_i h0; obtain rfl : n = m := by omega
      exact h0
theorem cut_limbs {xs : List Nat} (h : Okl xs) : xs.take (cutLen xs xs.length) = limbs (val xs) := by
  have hl := cutLen_le xs xs.length
  have e : val (xs.take (cutLen xs xs.length)) = val xs := by rw [val_cut _ _ (Nat.le_refl _), List.take_length]
  rw [← e]
  refine (limbs_val (h.take _) ?_).symm
  intro n hn
  rw [List.length_take, Nat.min_eq_left hl] at hn
  have := cut_top xs _ n hn
  simpa [List.getD, List.getElem?_take, hn] using this
theorem cutLen_eq {xs : List Nat} (h : Okl xs) : cutLen xs xs.length = (limbs (val xs)).length := by
  rw [← cut_limbs h, List.length_take, Nat.min_eq_left (cutLen_le _ _)]
theorem limbs_cutLen (N : Nat) : cutLen (limbs N) (limbs N).length = (limbs N).length := by
  rw [cutLen_eq (limbs_ok N), val_limbs]
end Go.Proofs.YtgolidabjcmofaaGreatDoor
namespace Go.Proofs.YtgolidabjcmofaaGreatDoor
open Go.RowKit
set_option linter.unusedVariables false
set_option linter.unusedSimpArgs false
def lv (n : Nat) : Value := .int .u32 (n : Int)
def Rd (w : World) (ad : Option Addr) (xs : List Nat) : Prop :=
  ∀ i, i < xs.length → ∃ b o, ad = some ⟨b, o, none⟩ ∧ b < w.heap.size ∧ w.cell? ⟨b, o + i, none⟩ = some (.int .u32 ((xs.getD i 0 : Nat) : Int))
theorem Rd.at {w : World} {b o : Nat} {xs : List Nat} (h : Rd w (some ⟨b, o, none⟩) xs) (i : Nat) (hi : i < xs.length) :
    w.cell? ⟨b, o + i, none⟩ = some (.int .u32 ((xs.getD i 0 : Nat) : Int)) := by
  obtain ⟨b', o', e, _, hc⟩ := h i hi
  cases e; exact hc
theorem Rd.lt {w : World} {ad : Option Addr} {xs : List Nat} (h : Rd w ad xs) (a : Addr) (e : ad = some a) (hx : 0 < xs.length) : a.block < w.heap.size := by
  obtain ⟨b, o, e', hb, _⟩ := h 0 hx
  rw [e] at e'; cases e'; exact hb
theorem Rd.apart {w : World} {ad : Option Addr} {xs : List Nat} (h : Rd w ad xs) {g : Nat} (hg : w.heap.size ≤ g) (a : Addr) (e : ad = some a) (hx : 0 < xs.length) : a.block ≠ g := by
  have := h.lt a e hx; omega
theorem Rd.nil (w : World) (ad : Option Addr) : Rd w ad [] := by intro i h; simp at h
theorem Rd.take {w : World} {ad : Option Addr} {xs : List Nat} (h : Rd w ad xs) (n : Nat) : Rd w ad (xs.take n) := by
  intro i hi
  rw [List.length_take] at hi
  obtain ⟨b, o, e, hb, hc⟩ := h i (by omega)
  exact ⟨b, o, e, hb, by rw [hc]; simp [List.getD, show i < n by omega]⟩
theorem Rd.below {w w' : World} {ad : Option Addr} {xs : List Nat} (h : Rd w ad xs) (hb : Below w.heap.size w w') : Rd w' ad xs := by
  intro i hi
  obtain ⟨b, o, e, hlt, hc⟩ := h i hi
  exact ⟨b, o, e, Nat.lt_of_lt_of_le hlt hb.size, by rw [hb.cell (p := ⟨b, o + i, none⟩) hlt]; exact hc⟩
def Blk (w : World) (g : Nat) (ys : List Nat) (r : List Value) : Prop := w.heap[g]? = some (.cells (ys.map lv ++ r).toArray 130 (0, 0))
def put (g : Nat) (ys : List Nat) (r : List Value) (w : World) : World := { w with heap := w.heap.setIfInBounds g (.cells (ys.map lv ++ r).toArray 130 (0, 0)) }
theorem Blk.lt {w : World} {g : Nat} {ys : List Nat} {r : List Value} (h : Blk w g ys r) : g < w.heap.size := by
  rcases Nat.lt_or_ge g w.heap.size with h1 | h1
  · exact h1
  · rw [Blk, Array.getElem?_eq_none h1] at h; cases h
theorem Blk.cell {w : World} {g : Nat} {ys : List Nat} {r : List Value} (h : Blk w g ys r) (i : Nat) (hi : i < ys.length) :
    w.cell? ⟨g, i, none⟩ = some (.int .u32 ((ys.getD i 0 : Nat) : Int)) := by
  unfold Blk at h
  have e : (List.map lv ys ++ r)[i]? = some (lv (ys.getD i 0)) := by
    rw [List.getElem?_append_left (by simpa using hi)]
    simp [List.getD, hi]
  simp only [World.cell?, h]
  simpa [lv] using e
theorem Blk.free {w : World} {g : Nat} {ys : List Nat} {r : List Value} (h : Blk w g ys r) (i : Nat) : w.frozen? ⟨g, i, none⟩ = false := by
  unfold Blk at h
  simp [World.frozen?, h]
theorem Blk.rd {w : World} {g : Nat} {ys : List Nat} {r : List Value} (h : Blk w g ys r) (o n : Nat) (hn : o + n ≤ ys.length) : Rd w (some ⟨g, o, none⟩) ((ys.drop o).take n) := by
  intro i hi
  rw [List.length_take, List.length_drop] at hi
  refine ⟨g, o, rfl, h.lt, ?_⟩
  rw [h.cell (o + i) (by omega)]
  simp [List.getD, show i < n by omega]
theorem Blk.rd_all {w : World} {g : Nat} {ys : List Nat} {r : List Value} (h : Blk w g ys r) : Rd w (some ⟨g, 0, none⟩) ys := by
  have := h.rd 0 ys.length (by omega)
  simpa using this
theorem put_heap (g : Nat) (ys : List Nat) (r : List Value) (w : World) : (put g ys r w).heap.size = w.heap.size := by simp [put]
theorem put_blk {w : World} {g : Nat} (ys : List Nat) (r : List Value) (h : g < w.heap.size) : Blk (put g ys r w) g ys r := by
  simp [Blk, put, h]
theorem put_put (g : Nat) (ys zs : List Nat) (r r' : List Value) (w : World) : put g ys r (put g zs r' w) = put g ys r w := by
  simp [put]
theorem put_other (g : Nat) (ys : List Nat) (r : List Value) (w : World) (k : Nat) (h : k ≠ g) : (put g ys r w).heap[k]? = w.heap[k]? := by
  simp only [put]; rw [Array.getElem?_setIfInBounds_ne (by omega)]
theorem put_cell (g : Nat) (ys : List Nat) (r : List Value) (w : World) (a : Addr) (h : a.block ≠ g) : (put g ys r w).cell? a = w.cell? a :=
  World.cell?_of_block (put_other g ys r w _ h)
theorem put_same {w : World} {g : Nat} {ys : List Nat} {r : List Value} (h : Blk w g ys r) : put g ys r w = w := by
  have hlt := h.lt
  unfold Blk at h
  have e : w.heap.setIfInBounds g (.cells (ys.map lv ++ r).toArray 130 (0, 0)) = w.heap := by
    apply Array.ext_getElem?
    intro k
    by_cases hk : k = g
    · subst hk; rw [Array.getElem?_setIfInBounds_self_of_lt hlt, h]
    · rw [Array.getElem?_setIfInBounds_ne (by omega)]
  simp only [put]; rw [e]
theorem set_blk {w : World} {g : Nat} {ys : List Nat} {r : List Value} (h : Blk w g ys r) (i v : Nat) (hi : i < ys.length) : w.setCell ⟨g, i, none⟩ (.int .u32 (v : Int)) = put g (ys.set i v) r w := by
  have hlt := h.lt
  unfold Blk at h
  have e : (w.setCell ⟨g, i, none⟩ (.int .u32 (v : Int))).heap = w.heap.setIfInBounds g (.cells ((ys.set i v).map lv ++ r).toArray 130 (0, 0)) := by
    apply Array.ext_getElem?
    intro k
    simp only [World.setCell, Array.getElem?_modify]
    by_cases hk : g = k
    · subst hk; rw [Array.getElem?_setIfInBounds_self_of_lt hlt, h]; simp [lv, hi]
    · rw [if_neg hk, Array.getElem?_setIfInBounds_ne hk]
  unfold put; rw [← e]; rfl
theorem put_below {B : Nat} {a w : World} (h : Below B a w) {g : Nat} (hg : B ≤ g) (ys : List Nat) (r : List Value) : Below B a (put g ys r w) :=
  h.trans ⟨rfl, rfl, rfl, by rw [put_heap]; exact Nat.le_refl _, fun k hk => put_other g ys r w k (by omega)⟩
theorem Rd.put {w : World} {ad : Option Addr} {xs : List Nat} (h : Rd w ad xs) {g : Nat} (hne : ∀ a, ad = some a → 0 < xs.length → a.block ≠ g) (ys : List Nat) (r : List Value) : Rd (put g ys r w) ad xs := by
  intro i hi
  obtain ⟨b, o, e, hb, hc⟩ := h i hi
  exact ⟨b, o, e, by rw [put_heap]; exact hb, by rw [put_cell g ys r w ⟨b, o + i, none⟩ (hne ⟨b, o, none⟩ e (by omega))]; exact hc⟩
theorem Rd.drewN {w : World} {ad : Option Addr} {xs : List Nat} (h : Rd w ad xs) (q : Nat) : Rd (w.drewN q) ad xs := h
theorem Blk.drewN {w : World} {g : Nat} {ys : List Nat} {r : List Value} (h : Blk w g ys r) (q : Nat) : Blk (w.drewN q) g ys r := h
theorem Blk.below {w w' : World} {g : Nat} {ys : List Nat} {r : List Value} (h : Blk w g ys r) {B : Nat} (hb : Below B w w') (hg : g < B) : Blk w' g ys r := by
  unfold Blk; rw [hb.block g hg]; exact h
def Own (B : Nat) (w : World) (v : Value) (xs : List Nat) : Prop :=
  Okl xs ∧ ((v = .slice none 0 0 ∧ xs = []) ∨ ∃ g cap r, v = .slice (some ⟨g, 0, none⟩) xs.length cap ∧ B ≤ g ∧ Blk w g xs r ∧ cap = xs.length + r.length ∧ cap ≤ maxLen)
theorem Own.nil (B : Nat) (w : World) : Own B w (.slice none 0 0) [] := ⟨Okl.nil, .inl ⟨rfl, rfl⟩⟩
theorem Own.view {B : Nat} {w : World} {v : Value} {xs : List Nat} (h : Own B w v xs) :
    ∃ ad cap, v = .slice ad xs.length cap ∧ xs.length ≤ cap ∧ Rd w ad xs ∧ ∀ a, ad = some a → B ≤ a.block ∧ a.block < w.heap.size := by
  obtain ⟨_, ⟨rfl, rfl⟩ | ⟨g, cap, r, rfl, hg, hb, hc, _⟩⟩ := h
  · exact ⟨none, 0, rfl, Nat.le_refl _, Rd.nil _ _, fun a h => by cases h⟩
  · exact ⟨_, cap, rfl, by omega, hb.rd_all, fun a h => by cases h; exact ⟨hg, hb.lt⟩⟩
theorem Own.mono {B B' : Nat} {w : World} {v : Value} {xs : List Nat} (h : Own B w v xs) (hB : B' ≤ B) : Own B' w v xs := by
  obtain ⟨ho, h | ⟨g, cap, r, e, hg, hb, hc⟩⟩ := h
  · exact ⟨ho, .inl h⟩
  · exact ⟨ho, .inr ⟨g, cap, r, e, by omega, hb, hc⟩⟩
theorem Own.below {B : Nat} {w w' : World} {v : Value} {xs : List Nat} (h : Own B w v xs) (hb : Below w.heap.size w w') : Own B w' v xs := by
  obtain ⟨ho, h | ⟨g, cap, r, e, hg, hk, hc⟩⟩ := h
  · exact ⟨ho, .inl h⟩
  · exact ⟨ho, .inr ⟨g, cap, r, e, hg, hk.below hb hk.lt, hc⟩⟩
theorem Own.drewN {B : Nat} {w : World} {v : Value} {xs : List Nat} (h : Own B w v xs) (q : Nat) : Own B (w.drewN q) v xs := h
theorem Blk.own {w : World} {g B : Nat} {ys : List Nat} {r : List Value} (h : Blk w g ys r) (hg : B ≤ g) (ho : Okl ys) (n cap : Nat) (hn : n ≤ ys.length) (hc : cap = ys.length + r.length) (hm : cap ≤ maxLen) :
    Own B w (.slice (some ⟨g, 0, none⟩) n cap) (ys.take n) := by
  refine ⟨ho.take n, .inr ⟨g, cap, (ys.drop n).map lv ++ r, ?_, hg, ?_, ?_, hm⟩⟩
  · rw [List.length_take, Nat.min_eq_left hn]
  · unfold Blk at h ⊢; rw [h, ← List.append_assoc, ← List.map_append, List.take_append_drop]
  · simp; omega
end Go.Proofs.YtgolidabjcmofaaGreatDoor
namespace Go.Proofs.YtgolidabjcmofaaGreatDoor
open Go.RowKit
set_option linter.unusedVariables false
set_option linter.unusedSimpArgs false
set_option maxHeartbeats 400000 in
theorem cut_any (ad : Option Addr) (n cap : Nat) (xs : List Nat) (w : World) (hn : xs.length = n) (hcap : n ≤ cap) (hm : n ≤ 1000000000000) (hr : Rd w ad xs) :
    Calls Tryz.prog 181 #[.slice ad n cap] w fun e w' => e = .returned (.slice ad (cutLen xs n) cap) ∧ w = w' := by
  go_enter Tryz.func181, Tryz.ntmps181
  go_wp2
  go_loop [3] (fun i => ∃ k : Nat, k ≤ n ∧ i = .int .i64 k ∧ cutLen xs k = cutLen xs n) (fun i => (intOf i).toNat)
  case atStart => exact ⟨n, Nat.le_refl _, rfl, rfl⟩
  case round =>
    obtain ⟨k, hk, rfl, he⟩ := hrel
    have HE := Lib.hid he; clear he
    rcases k with _ | k
    · have h0 : cutLen xs n = 0 := by rw [← HE.out]; rfl
      have H0 := Lib.hid h0; clear h0
      go_wp2
      go_ret
      rw [H0.out]; exact ⟨rfl, rfl⟩
    · obtain ⟨b, o, hadd, _, hc⟩ := hr k (by omega)
      subst hadd
      generalize hx : xs.getD k 0 = x at *
      have HX := Lib.hid hx; clear hx
      by_cases hz : x = 0
      · go_wp2
        go_round
        case rel => exact ⟨k, by omega, rfl, by rw [← HE.out]; simp only [cutLen]; rw [if_pos (by rw [HX.out]; exact hz)]⟩
        case measure => simp [intOf]
      · have h0 : cutLen xs n = k + 1 := by rw [← HE.out]; simp only [cutLen]; rw [if_neg (by rw [HX.out]; exact hz)]
        have H0 := Lib.hid h0; clear h0
        go_wp2
        go_ret
        rw [H0.out]; exact ⟨rfl, rfl⟩
end Go.Proofs.YtgolidabjcmofaaGreatDoor
namespace Go.Proofs.YtgolidabjcmofaaGreatDoor
open Go.RowKit
set_option linter.unusedVariables false
set_option linter.unusedSimpArgs false
structure Win (ys zs : List Nat) (o m : Nat) : Prop where
  len : zs.length = ys.length
  lo : zs.take o = ys.take o
  hi : zs.drop (o + m) = ys.drop (o + m)
theorem Win.refl (ys : List Nat) (o m : Nat) : Win ys ys o m := ⟨rfl, rfl, rfl⟩
theorem Win.set {ys zs : List Nat} {o m : Nat} (h : Win ys zs o m) (k v : Nat) (hk : k < m) : Win ys (zs.set (o + k) v) o m := by
  refine ⟨by rw [List.length_set]; exact h.len, ?_, ?_⟩
  · rw [List.take_set_of_le (by omega)]; exact h.lo
  · rw [List.drop_set_of_lt (by omega)]; exact h.hi
def wv (ys : List Nat) (o k : Nat) : Nat := val ((ys.drop o).take k)
theorem wv_succ (ys : List Nat) (o k : Nat) (h : o + k < ys.length) : wv ys o (k + 1) = wv ys o k + B32 ^ k * ys.getD (o + k) 0 := by
  unfold wv
  rw [val_take_succ _ _ (by rw [List.length_drop]; omega)]
  simp [List.getD]
theorem wv_set (ys : List Nat) (o k v : Nat) (h : o + k < ys.length) : wv (ys.set (o + k) v) o (k + 1) = wv ys o k + B32 ^ k * v := by
  rw [wv_succ _ _ _ (by rw [List.length_set]; exact h)]
  have e : wv (ys.set (o + k) v) o k = wv ys o k := by
    unfold wv; rw [List.drop_set, if_neg (by omega), List.take_set_of_le (by omega)]
  rw [e]; simp [List.getD, h]
theorem mul_bd {x f : Nat} (hx : x < B32) (hf : f < B32) : 0 ≤ (x : Int) * (f : Int) ∧ (x : Int) * (f : Int) ≤ 18446744065119617025 := by
  rw [B32_eq] at hx hf
  have h := Nat.mul_le_mul (Nat.le_of_lt_succ hx) (Nat.le_of_lt_succ hf)
  have e : (x : Int) * (f : Int) = ((x * f : Nat) : Int) := by push_cast; rfl
  rw [e]; omega
theorem win_ext {zs ys : List Nat} {o k : Nat} {v : Nat} (h : ∀ j, k ≤ j → zs.getD (o + j) 0 = ys.getD (o + j) 0) : ∀ j, k + 1 ≤ j → (zs.set (o + k) v).getD (o + j) 0 = ys.getD (o + j) 0 := by
  intro j hj
  rw [← h j (by omega)]
  simp only [List.getD]
  rw [List.getElem?_set_ne (by omega)]
end Go.Proofs.YtgolidabjcmofaaGreatDoor
namespace Go.Proofs.YtgolidabjcmofaaGreatDoor
open Go.RowKit
set_option linter.unusedVariables false
set_option linter.unusedSimpArgs false
end Go.Proofs.YtgolidabjcmofaaGreatDoor
namespace Go.Proofs.YtgolidabjcmofaaGreatDoor
open Go.RowKit
set_option linter.unusedVariables false
set_option linter.unusedSimpArgs false
end Go.Proofs.YtgolidabjcmofaaGreatDoor
namespace Go.Proofs.YtgolidabjcmofaaGreatDoor
open Go.RowKit
set_option linter.unusedVariables false
set_option linter.unusedSimpArgs false
end Go.Proofs.YtgolidabjcmofaaGreatDoor
namespace Go.Proofs.YtgolidabjcmofaaGreatDoor
open Go.RowKit
set_option linter.unusedVariables false
set_option linter.unusedSimpArgs false
theorem info_u32 : (Tryz.prog.info? 130).map (fun i => (i.zero, i.size, i.bytes)) = some (some (.int .u32 0), 1, 4) := by kernel_rfl
theorem made_zero (n : Nat) : (madeCells (Value.cells (.int .u32 0)) n).toList = (List.replicate n 0).map lv ++ [] := by
  simp only [madeCells, List.append_nil]
  apply List.ext_getElem
  · simp
  · intro i h1 h2; simp [Value.cells, lv, Nat.mod_one]
theorem wpl_make (w : World) {ops : Array Oper} {rest : List Oper} {o : Oper} {a : Act} {Q : Exit → Act → World → Prop}
    (hg : o.guard = none) (l c : Operand) (hop : o.op = Op.makeSlice 22 l c) (kl kc : IntKind) (L C : Int) (n : Nat)
    (hl : a.eval l = .int kl L) (hc : a.eval c = .int kc C) (hL : L = (n : Int)) (hC : C = (n : Int)) (hn : n ≤ 1000000000000)
    (hK : ∀ w', Blk w' w.heap.size (List.replicate n 0) [] → Below w.heap.size w w' → wpList Tryz.prog ops Q rest (a.put o.dst (.slice (some ⟨w.heap.size, 0, none⟩) n n)) w') :
    wpList Tryz.prog ops Q (o :: rest) a w := by
  obtain ⟨i0, hi, hz0, hz1, hz2⟩ := info_parts info_u32
  refine wpList_make_full w hg l c 22 hop w.heap.size 130 i0 (.int .u32 0) 1 Tryz.underlying22 hi hz0 hz1 kl kc L C n hl hc hL hC (by rw [hz2]; omega) (by unfold maxLen; omega) (Nat.le_refl _) ?_
  intro w' ho hgr
  refine hK w' ?_ ((Below.refl _ _).grown hgr (Nat.le_refl _) (fun k h => by cases h))
  obtain ⟨hl', h | ⟨g, cap, cur, e, _, hh, _, _, hs, ht⟩⟩ := ho
  · exact absurd h.1 (by simp)
  · simp only [Value.slice.injEq, Option.some.injEq, Addr.mk.injEq] at e
    obtain ⟨⟨rfl, _⟩, _, rfl⟩ := e
    unfold Blk
    rw [hh, ← made_zero]
    have : cur.toList = (madeCells (Value.cells (.int .u32 0)) n).toList := by
      have h2 := ht
      rw [List.take_of_length_le (by simp [hs])] at h2
      simpa using h2
    rw [← this]
theorem wpl_copy {w : World} {ops : Array Oper} {rest : List Oper} {o : Oper} {a : Act} {Q : Exit → Act → World → Prop} (hgd : o.guard = none) (d s : Operand)
    (ho : o.op = .call { callee := .builtin .copy, args := #[d, s], argTypes := #[22, 22] }) (g n cap : Nat) (ad : Option Addr) (m cap' : Nat)
    (hd : a.eval d = .slice (some ⟨g, 0, none⟩) n cap) (hs : a.eval s = .slice ad m cap') (ys xs : List Nat) (r : List Value) (hb : Blk w g ys r) (hy : ys.length = n) (hx : xs.length = m) (hmn : m ≤ n) (hr : Rd w ad xs)
    (h : wpList Tryz.prog ops Q rest (a.put o.dst (goInt m)) (put g (xs ++ ys.drop m) r w)) : wpList Tryz.prog ops Q (o :: rest) a w := by
  have hsz : (Tryz.prog.info? 130).map (·.size) = some 1 := by kernel_rfl
  by_cases h0 : m = 0
  · subst h0
    obtain rfl : xs = [] := List.eq_nil_of_length_eq_zero hx
    refine wpList_copy_nothing hgd d s _ _ ho 130 Tryz.underlying22 hsz _ _ _ _ _ _ hd hs (by simp) ?_
    rw [List.nil_append, List.drop_zero, put_same hb] at h
    exact h
  · obtain ⟨b, o', e, _, _⟩ := hr 0 (by omega)
    subst e
    refine wpList_copy_own hgd d s _ _ ho 130 Tryz.underlying22 hsz g 0 n cap ⟨b, o', none⟩ m cap' hd hs _ _ hb (xs.map lv) (by rw [List.length_map, hx]; exact (Nat.min_eq_left hmn).symm) ?_ (by simp; omega) ?_ ?_
    · intro j v hj
      have hjl : j < xs.length := by
        rcases Nat.lt_or_ge j xs.length with h1 | h1
        · exact h1
        · rw [List.getElem?_eq_none (by simpa using h1)] at hj; cases hj
      have hc := hr.at j hjl
      have e : (Addr.add ⟨b, o', none⟩ j) = ⟨b, o' + j, none⟩ := by unfold Addr.add; split <;> simp_all
      rw [e, hc]
      rw [List.getElem?_map, List.getElem?_eq_getElem hjl] at hj
      simp only [Option.map_some, Option.some.injEq] at hj
      rw [← hj]; simp [lv, List.getD, hjl]
    · intro v hv
      obtain ⟨x, _, rfl⟩ := List.mem_map.1 hv
      rfl
    · have e : w.setRow g ((List.map lv ys ++ r).toArray.toList.take 0 ++ (xs.map lv ++ (List.map lv ys ++ r).toArray.toList.drop (0 + (xs.map lv).length))).toArray = put g (xs ++ ys.drop m) r w := by
        have hlt := hb.lt
        unfold Blk at hb
        have e2 : (w.setRow g ((List.map lv ys ++ r).toArray.toList.take 0 ++ (xs.map lv ++ (List.map lv ys ++ r).toArray.toList.drop (0 + (xs.map lv).length))).toArray).heap = (put g (xs ++ ys.drop m) r w).heap := by
          apply Array.ext_getElem?
          intro k
          by_cases hk : k = g
          · subst hk
            rw [setRow_heap _ _ _ _ _ _ hb]
            simp only [put]
            rw [Array.getElem?_setIfInBounds_self_of_lt hlt]
            simp only [List.take_zero, List.nil_append, List.length_map, Nat.zero_add, hx, List.map_append, List.map_drop, List.append_assoc]
            rw [List.drop_append_of_le_length (by simp; omega)]
          · rw [setRow_other _ _ _ _ hk, put_other _ _ _ _ _ hk]
        unfold World.setRow at e2 ⊢
        unfold put at e2 ⊢
        simp only at e2
        rw [e2]
      rw [e]
      rw [List.length_map, hx]
      exact h
theorem Own.row {B : Nat} {w : World} {v : Value} {xs : List Nat} (h : Own B w v xs) : w.ownsRow B 130 1 v xs.length (xs.map lv) := by
  obtain ⟨_, ⟨rfl, rfl⟩ | ⟨g, cap, r, rfl, hg, hb, hc, hm⟩⟩ := h
  · exact ⟨by simp, .inl ⟨rfl, rfl⟩⟩
  · refine ⟨by simp, .inr ⟨g, cap, _, rfl, hg, hb, by omega, hm, by simp; omega, ?_⟩⟩
    simp
theorem own_of_row {B : Nat} {w : World} {v : Value} {n : Nat} {xs : List Nat} (h : w.ownsRow B 130 1 v n (xs.map lv)) (ho : Okl xs) : Own B w v xs := by
  obtain ⟨hl, ⟨rfl, rfl⟩ | ⟨g, cap, cur, rfl, hg, hb, hc, hm, hs, ht⟩⟩ := h
  · have : xs = [] := List.eq_nil_of_length_eq_zero (by simpa using hl)
    subst this
    exact Own.nil _ _
  · simp only [List.length_map, Nat.mul_one] at hl
    subst hl
    refine ⟨ho, .inr ⟨g, cap, cur.toList.drop xs.length, rfl, hg, ?_, ?_, hm⟩⟩
    · unfold Blk; rw [hb]
      have : cur = (xs.map lv ++ cur.toList.drop xs.length).toArray := by
        rw [← ht, Nat.mul_one, List.take_append_drop]
      rw [← this]
    · have : cur.toList.length = cap := by simpa using hs
      rw [List.length_drop, this]; omega
theorem Own.blockGe {B : Nat} {w : World} {v : Value} {xs : List Nat} (h : Own B w v xs) : ∀ k, v.ownBlock = some k → B ≤ k := by
  obtain ⟨_, ⟨rfl, rfl⟩ | ⟨g, cap, r, rfl, hg, _⟩⟩ := h
  · intro k e; cases e
  · intro k e; cases e; exact hg
theorem wpl_append {w : World} {ops : Array Oper} {rest : List Oper} {o : Oper} {a : Act} {Q : Exit → Act → World → Prop} (hgd : o.guard = none) (s x : Operand)
    (ho : o.op = .call { callee := .builtin .append, args := #[s, x], argTypes := #[22, 22] }) (B : Nat) (v : Value) (xs : List Nat) (hs : a.eval s = v) (hown : Own B w v xs)
    (ad : Addr) (c : Nat) (y : Nat) (hx : a.eval x = .slice (some ad) 1 c) (hy : y < B32) (hc : w.cell? ad = some (.int .u32 (y : Int))) (hl : xs.length ≤ 1000000000) (hB : B ≤ w.heap.size)
    (h : ∀ v' w', Own B w' v' (xs ++ [y]) → Below B w w' → w.grownBy w' v.ownBlock → wpList Tryz.prog ops Q rest (a.put o.dst v') w') : wpList Tryz.prog ops Q (o :: rest) a w := by
  obtain ⟨i0, hi, hz0, hz1, hz2⟩ := info_parts info_u32
  refine wpList_append_own w hgd s x 22 ho B 130 i0 (.int .u32 0) 1 4 Tryz.underlying22 hi hz0 hz1 hz2 rfl (by decide) v xs.length (xs.map lv) hs hown.row ad 1 c [lv y] hx rfl ?_ ?_ (by unfold maxLen; omega) (by omega) hB ?_
  · intro j u hj
    rcases j with _ | j
    · simp only [List.getElem?_cons_zero, Option.some.injEq] at hj
      subst hj; simpa [Addr.add, lv] using hc
    · simp at hj
  · intro u hu; simp only [List.mem_singleton] at hu; subst hu; rfl
  · intro v' w' hown' hgr _
    refine h v' w' ?_ ((Below.refl _ _).grown hgr hB hown.blockGe) hgr
    have e : xs.map lv ++ [lv y] = (xs ++ [y]).map lv := by simp
    rw [e] at hown'
    exact own_of_row hown' (hown.1.append (Okl.cons hy Okl.nil))
end Go.Proofs.YtgolidabjcmofaaGreatDoor
namespace Go.Proofs.YtgolidabjcmofaaGreatDoor
open Go.RowKit
set_option linter.unusedVariables false
set_option linter.unusedSimpArgs false
def Gives (N : Nat) (w : World) (e : Ending) (w' : World) : Prop :=
  ∃ v, e = .returned v ∧ Own w.heap.size w' v (limbs N) ∧ Below w.heap.size w w'
set_option maxHeartbeats 1000000 in
theorem norm_any (ad : Option Addr) (n cap : Nat) (xs : List Nat) (w : World) (hn : xs.length = n) (hcap : n ≤ cap) (hm : n ≤ 1000000000) (ho : Okl xs) (hr : Rd w ad xs) :
    Calls Tryz.prog 144 #[.slice ad n cap] w (Gives (val xs) w) := by
  have hcl := cutLen_le xs n
  have hce := cutLen_eq ho
  have hcv := cut_limbs ho
  rw [hn] at hce hcv
  have hr' : Rd w ad (limbs (val xs)) := by rw [← hcv]; exact hr.take _
  have HC := Lib.hid hcv; clear hcv
  generalize hc : cutLen xs n = c at *
  have HCC := Lib.hid hc; clear hc
  have HCE := Lib.hid hce.symm; clear hce
  have hr1 : ∀ w1, Below w.heap.size w w1 → Rd w1 ad (limbs (val xs)) := fun w1 hb => hr'.below hb
  have HR1 := Lib.hid hr1; clear hr1
  go_enter Tryz.func144, Tryz.ntmps144
  go_wp2_with (first
    | (go_at_call 181; refine (cut_any ad n cap xs w hn hcap (by omega) hr).mono ?_; rw [HCC.out]; rintro e w' ⟨rfl, rfl⟩)
    | (at_make; refine wpl_make _ rfl _ _ rfl _ _ _ _ c rfl rfl rfl rfl (by omega) ?_; intro w1 hB1 hb1)
    | (with_reducible refine wpl_copy rfl (.tmp 10) (.tmp 11) rfl _ _ _ _ _ _ rfl rfl _ (limbs (val xs)) _ hB1 List.length_replicate HCE.out (Nat.le_refl _) (HR1.out _ hb1) ?_))
  go_ret
  have hbk := put_blk (limbs (val xs)) [] hB1.lt
  refine ⟨_, rfl, ?_, put_below hb1 (Nat.le_refl _) _ _⟩
  have := hbk.own (Nat.le_refl _) (limbs_ok _) c c (by rw [HCE.out]; exact Nat.le_refl _) (by simp [HCE.out]) (by unfold maxLen; omega)
  rwa [List.take_of_length_le (by rw [HCE.out]; exact Nat.le_refl _)] at this
theorem limbs_len_lt {a b : Nat} (h : (limbs a).length < (limbs b).length) : a < b := by
  rcases Nat.lt_or_ge a b with h1 | h1
  · exact h1
  · have := limbs_length_le (n := (limbs a).length) (N := b) (Nat.lt_of_le_of_lt h1 (limbs_lt_pow a))
    omega
end Go.Proofs.YtgolidabjcmofaaGreatDoor
namespace Go.Proofs.YtgolidabjcmofaaGreatDoor
open Go.RowKit
set_option linter.unusedVariables false
set_option linter.unusedSimpArgs false
theorem cut_nat (ad : Option Addr) (n cap : Nat) (xs : List Nat) (w : World) (hn : xs.length = n) (hcap : n ≤ cap) (hm : n ≤ 1000000000) (ho : Okl xs) (hr : Rd w ad xs) :
    Calls Tryz.prog 181 #[.slice ad n cap] w fun e w' => e = .returned (.slice ad (limbs (val xs)).length cap) ∧ w = w' := by
  have h := cutLen_eq ho
  rw [hn] at h
  rw [← h]
  exact cut_any ad n cap xs w hn hcap (by omega) hr
theorem limbs_len_le {xs : List Nat} (ho : Okl xs) : (limbs (val xs)).length ≤ xs.length := by
  rw [← cutLen_eq ho]; exact cutLen_le _ _
theorem win_full {ys zs : List Nat} {n : Nat} (hl : ys.length = n) (h : Win ys zs 0 n) : zs.length = n ∧ wv zs 0 n = val zs := by
  have h1 : zs.length = n := by rw [h.len, hl]
  refine ⟨h1, ?_⟩
  unfold wv; rw [List.drop_zero, List.take_of_length_le (by omega)]
theorem wv_full {ys : List Nat} {n : Nat} (hl : ys.length = n) : wv ys 0 n = val ys := by
  unfold wv; rw [List.drop_zero, List.take_of_length_le (by omega)]
theorem below_drewN' {B : Nat} {a w : World} (h : Below B a w) (n : Nat) : Below B a (w.drewN n) := h.trans ⟨rfl, rfl, rfl, Nat.le_refl _, fun _ _ => rfl⟩
end Go.Proofs.YtgolidabjcmofaaGreatDoor
namespace Go.Proofs.YtgolidabjcmofaaGreatDoor
open Go.RowKit
set_option linter.unusedVariables false
set_option linter.unusedSimpArgs false
end Go.Proofs.YtgolidabjcmofaaGreatDoor
namespace Go.Proofs.YtgolidabjcmofaaGreatDoor
open Go.RowKit
set_option linter.unusedVariables false
set_option linter.unusedSimpArgs false
def Makes (B N : Nat) (w : World) (e : Ending) (w' : World) : Prop := ∃ v, e = .returned v ∧ Own B w' v (limbs N) ∧ Below B w w'
theorem own_cut {B : Nat} {w : World} {v : Value} {xs : List Nat} (h : Own B w v xs) : ∃ ad cap, v = .slice ad xs.length cap ∧ xs.length ≤ cap ∧ Rd w ad xs ∧ Own B w (.slice ad (limbs (val xs)).length cap) (limbs (val xs)) := by
  obtain ⟨ho, ⟨rfl, rfl⟩ | ⟨g, cap, r, rfl, hg, hb, hc, hm⟩⟩ := h
  · exact ⟨none, 0, rfl, Nat.le_refl _, Rd.nil _ _, Own.nil _ _⟩
  · refine ⟨_, cap, rfl, by omega, hb.rd_all, ?_⟩
    have := hb.own hg ho (limbs (val xs)).length cap (limbs_len_le ho) hc hm
    rw [← cutLen_eq ho, cut_limbs ho, cutLen_eq ho] at this
    exact this
theorem cut_own (B : Nat) (v : Value) (xs : List Nat) (w : World) (h : Own B w v xs) (hm : xs.length ≤ 1000000000) :
    Calls Tryz.prog 181 #[v] w fun e w' => (∃ v', e = .returned v' ∧ Own B w v' (limbs (val xs))) ∧ w = w' := by
  obtain ⟨ad, cap, rfl, hc, hr, ho⟩ := own_cut h
  refine (cut_nat ad xs.length cap xs w rfl hc hm h.1 hr).mono ?_
  rintro e w' ⟨rfl, rfl⟩
  exact ⟨⟨_, rfl, ho⟩, rfl⟩
def TPRel (g n : Nat) (ys : List Nat) (f p : Nat) (r : List Value) (w : World) (c i : Value) (wr : World) : Prop :=
  ∃ (k cy : Nat) (zs : List Nat), k ≤ n ∧ i = .int .i64 k ∧ c = .int .u64 cy ∧ cy < B32 ∧ Win ys zs 0 n ∧ Okl zs ∧ (∀ j, k ≤ j → zs.getD (0 + j) 0 = ys.getD (0 + j) 0) ∧
    wv zs 0 k + B32 ^ k * cy = f * wv ys 0 k + p ∧ wr = put g zs r w
theorem tp_num {x f cy B a P W p s q : Nat} (h : a + P * cy = f * W + p) (e : s + B * q = x * f + cy) : a + P * s + P * B * q = f * (W + P * x) + p := by
  have h3 : P * (s + B * q) = P * (x * f + cy) := by rw [e]
  grind
theorem tp_step {g n k cy f p x : Nat} {ys zs : List Nat} {r : List Value} {w : World} (hyl : ys.length = n) (hk : k < n) (hcy : cy < B32) (hf : f < B32) (hx : zs.getD (0 + k) 0 = x) (hxb : x < B32)
    (hb : Blk w g ys r) (hwin : Win ys zs 0 n) (hoz : Okl zs) (hs : ∀ j, k ≤ j → zs.getD (0 + j) 0 = ys.getD (0 + j) 0) (he : wv zs 0 k + B32 ^ k * cy = f * wv ys 0 k + p) :
    TPRel g n ys f p r w (.int .u64 (((x : Int) * (f : Int) + (cy : Int)) / 4294967296)) (.int .i64 ((k : Int) + 1)) ((put g zs r w).setCell ⟨g, k, none⟩ (.int .u32 (((x : Int) * (f : Int) + (cy : Int)) % 4294967296))) := by
  have e1 : ((x : Int) * (f : Int) + (cy : Int)) / 4294967296 = (((x * f + cy) / B32 : Nat) : Int) := by rw [B32_eq]; omega
  have e2 : ((x : Int) * (f : Int) + (cy : Int)) % 4294967296 = (((x * f + cy) % B32 : Nat) : Int) := by rw [B32_eq]; omega
  rw [e1, e2, set_blk (put_blk _ _ hb.lt) _ _ (by rw [hwin.len]; omega), put_put]
  have hbd : x * f ≤ 18446744065119617025 := by
    rw [B32_eq] at hxb hf
    exact Nat.mul_le_mul (Nat.le_of_lt_succ hxb) (Nat.le_of_lt_succ hf)
  have hw := hwin.set k ((x * f + cy) % B32) hk
  have hext := win_ext (v := (x * f + cy) % B32) hs
  have hset := wv_set zs 0 k ((x * f + cy) % B32) (by rw [hwin.len]; omega)
  rw [Nat.zero_add] at hw hext hset
  refine ⟨k + 1, _, zs.set k ((x * f + cy) % B32), hk, rfl, rfl, ?_, hw, hoz.set _ _ (Nat.mod_lt _ B32_pos), hext, ?_, rfl⟩
  · rw [Nat.div_lt_iff_lt_mul B32_pos]; rw [B32_eq] at *; omega
  · rw [hset, wv_succ ys 0 k (by omega), ← hs k (Nat.le_refl _), hx, Nat.pow_succ]
    exact tp_num he (Nat.mod_add_div _ _)
set_option maxHeartbeats 2000000 in
theorem timesPlus_any (B : Nat) (v : Value) (xs : List Nat) (f p : Nat) (w : World) (hown : Own B w v xs) (hB : B ≤ w.heap.size) (hm : xs.length ≤ 100000000) (hf : f < B32) (hp : p < B32) :
    Calls Tryz.prog 189 #[v, .int .u32 (f : Int), .int .u32 (p : Int)] w (Makes B (val xs * f + p) w) := by
  obtain ⟨hox, ⟨rfl, rfl⟩ | ⟨g, cap, r, rfl, hg, hb, hc, hmx⟩⟩ := hown
  · have hp' := hp
    rw [B32_eq] at hp'
    by_cases h0 : p = 0
    · subst h0
      have K := Lib.hid (cut_own B (.slice none 0 0) [] w (Own.nil _ _) (by simp))
      go_enter Tryz.func189, Tryz.ntmps189
      go_wp2
      refine wp_loop_rounds 1 ?_
      rw [rounds_succ]
      go_wp2_with fail
      refine K.out.mono ?_
      rintro e w' ⟨⟨v', rfl, hv'⟩, rfl⟩
      go_wp2
      go_ret
      exact ⟨v', rfl, by simpa [val] using hv', Below.refl _ _⟩
    · have hpos : (0 : Int) < (p : Int) := by omega
      go_enter Tryz.func189, Tryz.ntmps189
      go_wp2
      refine wp_loop_rounds 1 ?_
      rw [rounds_succ]
      go_wp2_with (at_builtin; refine wpl_append rfl (.tmp 37) (.tmp 40) rfl B (.slice none 0 0) [] rfl (Own.nil _ _) ⟨w.heap.size, 0, none⟩ 1 p rfl hp ?hcell (by simp) ?hbase ?_)
      case hcell => simp
      case hbase => simp; omega
      intro v1 w1 hown1 hbl1 _
      go_wp2_with fail
      refine (cut_own B v1 ([] ++ [p]) w1 hown1 (by simp)).mono ?_
      rintro e w' ⟨⟨v', rfl, hv'⟩, rfl⟩
      go_wp2
      go_ret
      exact ⟨v', rfl, by simpa [val] using hv', ((Below.refl _ _).alloc hB _).trans hbl1⟩
  · have hp' := hp
    rw [B32_eq] at hp'
    generalize hn : xs.length = n at *
    have HN := Lib.hid hn; clear hn
    have HC := Lib.hid hc; clear hc
    go_enter Tryz.func189, Tryz.ntmps189
    go_wp2
    go_loopw [7, 15] (fun c i wr => TPRel g n xs f p r w c i wr) (fun _ i _ => n - (intOf i).toNat)
    case atStart => exact ⟨0, p, xs, by omega, rfl, rfl, hp, Win.refl _ _ _, hox, fun _ _ => rfl, by simp [wv, val], (put_same hb).symm⟩
    case round =>
      obtain ⟨k, cy, zs, hk, rfl, rfl, hcy, hwin, hoz, hsame, heq, rfl⟩ := hrel
      have HS := Lib.hid hsame; clear hsame
      have HE := Lib.hid heq; clear heq
      have hbz : Blk (put g zs r w) g zs r := put_blk _ _ hb.lt
      by_cases hlt : k < n
      · have hcz := hbz.cell k (by rw [hwin.len, HN.out]; exact hlt)
        have hfz := hbz.free k
        have hzb := hoz.getD k
        generalize hz : zs.getD k 0 = z at *
        have R := Lib.hid (tp_step (f := f) HN.out hlt hcy hf (by rw [Nat.zero_add]; exact hz) hzb hb hwin hoz HS.out HE.out)
        clear hz
        have hbd := mul_bd hzb hf
        have hcy' := hcy
        have hf' := hf
        rw [B32_eq] at hzb hcy' hf'
        go_wp2
        go_roundw
        case rel => exact R.out
        case measure => simp [intOf]; omega
      · obtain rfl : k = n := by omega
        have hown : Own B (put g zs r w) (.slice (some ⟨g, 0, none⟩) k cap) zs :=
          ⟨hoz, .inr ⟨g, cap, r, by rw [hwin.len, HN.out], hg, hbz, by rw [hwin.len, HN.out]; exact HC.out, hmx⟩⟩
        have hv : val zs + B32 ^ k * cy = val xs * f + p := by
          have h := HE.out
          rw [(win_full HN.out hwin).2, wv_full HN.out, Nat.mul_comm f] at h
          exact h
        have HV := Lib.hid hv; clear hv
        have hlz := hwin.len
        rw [HN.out] at hlz
        have HZ := Lib.hid hlz; clear hlz
        have hbl : Below B w (put g zs r w) := put_below (Below.refl _ _) hg _ _
        have hBp : B ≤ (put g zs r w).heap.size := by rw [put_heap]; exact hB
        clear hwin
        by_cases h0 : cy = 0
        · subst h0
          have hv := HV.out
          rw [Nat.mul_zero, Nat.add_zero] at hv
          have HW := Lib.hid hv; clear hv
          go_wp2_with fail
          refine (cut_own B _ zs _ hown (by rw [HZ.out]; omega)).mono ?_
          rintro e w' ⟨⟨v', rfl, hv'⟩, rfl⟩
          go_wp2
          go_ret
          exact ⟨v', rfl, by rw [← HW.out]; exact hv', hbl⟩
        · have hpos : (0 : Int) < (cy : Int) := by omega
          have hcy' := hcy
          rw [B32_eq] at hcy'
          generalize hW : put g zs r w = W at *
          clear hW
          go_wp2_with (at_builtin; refine wpl_append rfl (.tmp 37) (.tmp 40) rfl B (.slice (some ⟨g, 0, none⟩) k cap) zs rfl (hown.below ((Below.refl _ _).alloc (Nat.le_refl _) _)) ⟨W.heap.size, 0, none⟩ 1 cy rfl hcy ?hcell (by rw [HZ.out]; omega) ?hbase ?_)
          case hcell => simp
          case hbase => simp; omega
          intro v1 w1 hown1 hbl1 _
          go_wp2_with fail
          refine (cut_own B v1 (zs ++ [cy]) w1 hown1 (by simp [HZ.out]; omega)).mono ?_
          rintro e w' ⟨⟨v', rfl, hv'⟩, rfl⟩
          go_wp2
          go_ret
          refine ⟨v', rfl, ?_, hbl.trans (((Below.refl _ _).alloc hBp _).trans hbl1)⟩
          rw [← HV.out]
          rw [val_append, HZ.out] at hv'
          simpa [val] using hv'
end Go.Proofs.YtgolidabjcmofaaGreatDoor
namespace Go.Proofs.YtgolidabjcmofaaGreatDoor
open Go.RowKit
set_option linter.unusedVariables false
set_option linter.unusedSimpArgs false
def wd (h l : Nat) : Nat := h * B32 + l
theorem wd_lt {h l : Nat} (hh : h < B32) (hl : l < B32) : wd h l < 18446744073709551616 := by
  unfold wd; rw [B32_eq] at *; omega
theorem wd_or {h l : Nat} (hh : h < B32) (hl : l < B32) : bits BinOp.or IntKind.u64 ((h : Int) * 4294967296) (l : Int) = ((wd h l : Nat) : Int) := by
  have e : (h : Int) * 4294967296 = ((h * 4294967296 : Nat) : Int) := by omega
  rw [B32_eq] at hh hl
  rw [e, u64_or_nat _ _ (by omega) (by omega), nat_join 32 _ _ (by omega) (by omega)]
  unfold wd; rw [B32_eq]
def SHRel (g n : Nat) (ys : List Nat) (d : Nat) (r : List Value) (w : World) (rm i : Value) (wr : World) : Prop :=
  ∃ (k q : Nat) (zs : List Nat), k ≤ n ∧ i = .int .i64 ((k : Int) - 1) ∧ rm = .int .u32 q ∧ q < d ∧ zs.length = n ∧ Okl zs ∧ zs.take k = ys.take k ∧
    val (zs.drop k) * d + q = val (ys.drop k) ∧ wr = put g zs r w
theorem val_drop_succ (l : List Nat) (j : Nat) (h : j < l.length) : val (l.drop j) = l.getD j 0 + B32 * val (l.drop (j + 1)) := by
  rw [List.drop_eq_getElem_cons h]; simp [val, List.getD, h]
theorem sh_num {a q d x R s t B : Nat} (he : a * d + q = R) (hw : d * s + t = q * B + x) : (s + B * a) * d + t = x + B * R := by
  subst he; grind
theorem sh_step {g n d j q x : Nat} {ys zs : List Nat} {r : List Value} {w : World} (hl : zs.length = n) (hyl : ys.length = n) (hj : j + 1 ≤ n) (hd : d < B32) (hd0 : 0 < d) (hq : q < d) (hoz : Okl zs) (ht : zs.take (j + 1) = ys.take (j + 1)) (hx : zs.getD j 0 = x) (hxb : x < B32)
    (he : val (zs.drop (j + 1)) * d + q = val (ys.drop (j + 1))) (hb : Blk w g ys r) :
    SHRel g n ys d r w (.int .u32 (((wd q x : Nat) : Int) % (d : Int) % 4294967296)) (.int .i64 ((j : Int) - 1)) ((put g zs r w).setCell ⟨g, j, none⟩ (.int .u32 (IntKind.u64.wrap (((wd q x : Nat) : Int) / (d : Int)) % 4294967296))) := by
  have hwl := wd_lt (Nat.lt_trans hq hd) hxb
  have hql : wd q x / d < B32 := by
    rw [Nat.div_lt_iff_lt_mul hd0]; unfold wd
    have : (q + 1) * B32 ≤ d * B32 := Nat.mul_le_mul_right _ hq
    rw [Nat.add_mul, Nat.one_mul] at this
    rw [Nat.mul_comm B32 d]; omega
  have hml : wd q x % d < d := Nat.mod_lt _ hd0
  have e1 : ((wd q x : Nat) : Int) % (d : Int) % 4294967296 = ((wd q x % d : Nat) : Int) := by
    rw [← Int.natCast_emod]
    generalize wd q x % d = Q at *
    rw [B32_eq] at hd; omega
  have e2 : IntKind.u64.wrap (((wd q x : Nat) : Int) / (d : Int)) % 4294967296 = ((wd q x / d : Nat) : Int) := by
    rw [← Int.natCast_ediv]
    generalize wd q x / d = Q at *
    rw [B32_eq] at hql
    rw [IntWalk.u64_in _ (by omega)]; omega
  rw [e1, e2, set_blk (put_blk _ _ hb.lt) _ _ (by omega), put_put]
  have hg : ys.getD j 0 = x := by
    have h1 : (zs.take (j + 1)).getD j 0 = (ys.take (j + 1)).getD j 0 := by rw [ht]
    simp only [List.getD, List.getElem?_take, Nat.lt_succ_self, if_true] at h1
    simp only [List.getD] at hx ⊢
    rw [← h1]; exact hx
  refine ⟨j, _, zs.set j (wd q x / d), by omega, rfl, rfl, hml, by rw [List.length_set]; exact hl, hoz.set _ _ hql, ?_, ?_, rfl⟩
  · rw [List.take_set_of_le (Nat.le_refl _)]
    have h1 : (zs.take (j + 1)).take j = (ys.take (j + 1)).take j := by rw [ht]
    simpa [List.take_take] using h1
  · rw [val_drop_succ _ j (by rw [List.length_set]; omega), val_drop_succ ys j (by omega), hg, List.drop_set_of_lt (by omega)]
    have e3 : (zs.set j (wd q x / d)).getD j 0 = wd q x / d := by simp [List.getD, show j < zs.length by omega]
    rw [e3]
    exact sh_num he (Nat.div_add_mod _ _)
def ShrinkPost (B N d : Nat) (row : Option Nat) (w : World) (e : Ending) (w' : World) : Prop :=
  ∃ v, e = .returned (.tuple #[v, .int .u32 ((N % d : Nat) : Int)]) ∧ Own B w' v (limbs (N / d)) ∧ Below B w w' ∧ ∀ k, some k ≠ row → w'.heap[k]? = w.heap[k]?
set_option maxHeartbeats 2000000 in
theorem shrink_any (B : Nat) (v : Value) (xs : List Nat) (d : Nat) (w : World) (hown : Own B w v xs) (hB : B ≤ w.heap.size) (hm : xs.length ≤ 100000000) (hd : d < B32) (hd0 : 0 < d) :
    Calls Tryz.prog 145 #[v, .int .u32 (d : Int)] w (ShrinkPost B (val xs) d v.ownBlock w) := by
  obtain ⟨hox, ⟨rfl, rfl⟩ | ⟨g, cap, r, rfl, hg, hb, hc, hmx⟩⟩ := hown
  · have K := Lib.hid (cut_own B (.slice none 0 0) [] w (Own.nil _ _) (by simp))
    go_enter Tryz.func145, Tryz.ntmps145
    go_wp2
    refine wp_loop_rounds 1 ?_
    rw [rounds_succ]
    go_wp2_with fail
    refine K.out.mono ?_
    rintro e w' ⟨⟨v', rfl, hv'⟩, rfl⟩
    go_wp2
    go_ret2
    refine ⟨v', ?_, by simpa [val, limbs_zero] using hv', Below.refl _ _, fun _ _ => rfl⟩
    simp [val]
  · have HC := Lib.hid hc; clear hc
    generalize hn : xs.length = n at *
    have HN := Lib.hid hn; clear hn
    have hd' := hd
    rw [B32_eq] at hd'
    go_enter Tryz.func145, Tryz.ntmps145
    go_wp2
    go_loopw [5, 6] (fun q i wr => SHRel g n xs d r w q i wr) (fun _ i _ => (intOf i + 1).toNat)
    case atStart => exact ⟨n, 0, xs, Nat.le_refl _, by go_num, rfl, hd0, HN.out, hox, rfl, by rw [List.drop_of_length_le (by rw [HN.out]; exact Nat.le_refl _)]; simp [val], (put_same hb).symm⟩
    case round =>
      obtain ⟨k, q, zs, hk, rfl, rfl, hq, hl, hoz, htk, he, rfl⟩ := hrel
      have HL := Lib.hid hl; clear hl
      have HT := Lib.hid htk; clear htk
      have HE := Lib.hid he; clear he
      have hbz : Blk (put g zs r w) g zs r := put_blk _ _ hb.lt
      rcases k with _ | j
      · have hown : Own B (put g zs r w) (.slice (some ⟨g, 0, none⟩) n cap) zs :=
          ⟨hoz, .inr ⟨g, cap, r, by rw [HL.out], hg, hbz, by rw [HL.out]; exact HC.out, hmx⟩⟩
        have hv := HE.out
        simp only [List.drop_zero] at hv
        have hdv : val xs / d = val zs := by
          rw [← hv, Nat.mul_comm, Nat.mul_add_div hd0, Nat.div_eq_of_lt hq, Nat.add_zero]
        have hmd : val xs % d = q := by
          rw [← hv, Nat.mul_comm, Nat.mul_add_mod, Nat.mod_eq_of_lt hq]
        have HD := Lib.hid hdv; clear hdv
        have HM := Lib.hid hmd; clear hmd hv
        have hbl : Below B w (put g zs r w) := put_below (Below.refl _ _) hg _ _
        have hoth : ∀ k, some k ≠ (Value.slice (some ⟨g, 0, none⟩) n cap).ownBlock → (put g zs r w).heap[k]? = w.heap[k]? := fun k hk => put_other _ _ _ _ _ (fun e => hk (by rw [e]; rfl))
        have HOTH := Lib.hid hoth; clear hoth
        rw [show (((0 : Nat) : Int) - 1) = -1 from rfl]
        generalize put g zs r w = W at *
        go_wp2_with fail
        refine (cut_own B _ zs W hown (by rw [HL.out]; exact Nat.le_trans hm (by decide))).mono ?_
        rintro e w' ⟨⟨v', rfl, hv'⟩, rfl⟩
        go_wp2
        go_ret2
        exact ⟨v', by rw [HM.out]; rfl, by rw [HD.out]; exact hv', hbl, HOTH.out⟩
      · rw [show (((j + 1 : Nat) : Int) - 1) = (j : Int) by omega]
        have hcz := hbz.cell j (by rw [HL.out]; omega)
        have hfz := hbz.free j
        have hzb := hoz.getD j
        generalize hx : zs.getD j 0 = x at *
        have R := Lib.hid (sh_step (g := g) (r := r) (w := w) HL.out HN.out hk hd hd0 hq hoz HT.out hx hzb HE.out hb)
        clear hx
        have hor := wd_or (Nat.lt_trans hq hd) hzb
        have hq' : q < 4294967296 := by omega
        have hwl := wd_lt (Nat.lt_trans hq hd) hzb
        rw [B32_eq] at hzb
        go_wp2
        go_roundw
        case rel => exact R.out
        case measure => simp [intOf]
end Go.Proofs.YtgolidabjcmofaaGreatDoor
namespace Go.Proofs.YtgolidabjcmofaaGreatDoor
open Go.RowKit
set_option linter.unusedVariables false
set_option linter.unusedSimpArgs false
end Go.Proofs.YtgolidabjcmofaaGreatDoor
namespace Go.Proofs.YtgolidabjcmofaaGreatDoor
open Go.RowKit
set_option linter.unusedVariables false
set_option linter.unusedSimpArgs false
def gs (h l d : Nat) : Nat := min (wd h l / d) 4294967295
end Go.Proofs.YtgolidabjcmofaaGreatDoor
namespace Go.Proofs.YtgolidabjcmofaaGreatDoor
open Go.RowKit
set_option linter.unusedVariables false
set_option linter.unusedSimpArgs false
end Go.Proofs.YtgolidabjcmofaaGreatDoor
namespace Go.Proofs.YtgolidabjcmofaaGreatDoor
open Go.RowKit
set_option linter.unusedVariables false
set_option linter.unusedSimpArgs false
end Go.Proofs.YtgolidabjcmofaaGreatDoor
namespace Go.Proofs.YtgolidabjcmofaaGreatDoor
open Go.RowKit
set_option linter.unusedVariables false
set_option linter.unusedSimpArgs false
end Go.Proofs.YtgolidabjcmofaaGreatDoor
namespace Go.Proofs.YtgolidabjcmofaaGreatDoor
open Go.RowKit
set_option linter.unusedVariables false
set_option linter.unusedSimpArgs false
theorem limbs_top {N t : Nat} (h : (limbs N).length = t + 1) : (limbs N).getD t 0 ≠ 0 := by
  have hc := limbs_cutLen N
  rw [h] at hc
  exact cut_top _ _ _ hc
theorem limbs_len_mono {a b : Nat} (h : b ≤ a) : (limbs b).length ≤ (limbs a).length := by
  rcases Nat.lt_or_ge (limbs a).length (limbs b).length with h1 | h1
  · have := limbs_len_lt h1; omega
  · exact h1
def tenN (n : Nat) : Nat := 10 ^ n
theorem tenN_zero : tenN 0 = 1 := rfl
theorem tenN_succ (n : Nat) : tenN (n + 1) = tenN n * 10 := Nat.pow_succ _ _
theorem tenN_pos (n : Nat) : 0 < tenN n := Nat.pow_pos (by decide)
theorem tenN_le {n m : Nat} (h : n ≤ m) : tenN n ≤ tenN m := Nat.pow_le_pow_right (by decide) h
theorem tenN_9 : tenN 9 = 1000000000 := by decide
theorem tenN_add (a b : Nat) : tenN (a + b) = tenN a * tenN b := Nat.pow_add _ _ _
set_option maxHeartbeats 1000000 in
theorem tens_any (n : Nat) (w : World) (hn : n ≤ 9) :
    Calls Tryz.prog 190 #[.int .i64 (n : Int)] w fun e w' => e = .returned (.int .u32 ((tenN n : Nat) : Int)) ∧ w = w' := by
  go_enter Tryz.func190, Tryz.ntmps190
  go_wp2
  go_loop [3, 5] (fun p i => ∃ (k : Nat), k ≤ n ∧ i = .int .i64 k ∧ p = .int .u32 (tenN k)) (fun _ i => n - (intOf i).toNat)
  case atStart => exact ⟨0, by omega, rfl, rfl⟩
  case round =>
    obtain ⟨k, hk, rfl, rfl⟩ := hrel
    by_cases hlt : k < n
    · have hb : tenN k * 10 ≤ 1000000000 := by rw [← tenN_succ, ← tenN_9]; exact tenN_le (by omega)
      have HX := Lib.hid (tenN_succ k)
      go_wp2
      go_round
      case rel => exact ⟨k + 1, by omega, by go_num, by rw [HX.out]; go_num⟩
      case measure => simp [intOf]; omega
    · obtain rfl : k = n := by omega
      go_wp2
      go_ret
      exact ⟨rfl, rfl⟩
def ZerosPost (v : Nat) (w : World) (e : Ending) (w' : World) : Prop :=
  ∃ z m, e = .returned (.int .i64 ((z : Nat) : Int)) ∧ v = m * tenN z ∧ m % 10 ≠ 0 ∧ z ≤ 8 ∧ w = w'
set_option maxHeartbeats 1000000 in
theorem zeros_any (v : Nat) (w : World) (h0 : v ≠ 0) (hv : v < 1000000000) :
    Calls Tryz.prog 208 #[.int .u32 (v : Int)] w (ZerosPost v w) := by
  go_enter Tryz.func208, Tryz.ntmps208
  go_wp2
  go_loop [0, 3] (fun p i => ∃ (k x : Nat), i = .int .i64 k ∧ p = .int .u32 x ∧ v = x * tenN k ∧ x ≠ 0 ∧ x ≤ v ∧ k ≤ 8) (fun p _ => (intOf p).toNat)
  case atStart => exact ⟨0, v, rfl, rfl, by rw [tenN_zero, Nat.mul_one], h0, Nat.le_refl _, by omega⟩
  case round =>
    obtain ⟨k, x, rfl, rfl, hx, hx0, hxv, hk8⟩ := hrel
    have HX := Lib.hid hx; clear hx
    by_cases hm : x % 10 = 0
    · have hmb : (((x : Int) % 10) == 0) = true := by rw [beq_iff_eq]; omega
      have hx' : v = x / 10 * tenN (k + 1) := by
        have e := Nat.div_add_mod x 10
        rw [hm, Nat.add_zero] at e
        rw [HX.out]
        conv => lhs; rw [← e]
        rw [tenN_succ, Nat.mul_comm (tenN k), ← Nat.mul_assoc, Nat.mul_comm (x / 10) 10]
      have hk9 : k + 1 ≤ 8 := by
        rcases Nat.lt_or_ge k 8 with h1 | h1
        · exact h1
        · exfalso
          have h2 : tenN 9 ≤ tenN (k + 1) := tenN_le (by omega)
          have h3 : 1 * tenN (k + 1) ≤ x / 10 * tenN (k + 1) := Nat.mul_le_mul_right _ (by omega)
          rw [tenN_9] at h2
          omega
      have H2 := Lib.hid hx'; clear hx'
      go_wp2
      go_round
      case rel => exact ⟨k + 1, x / 10, by go_num, by go_num, H2.out, by omega, by omega, hk9⟩
      case measure => simp [intOf]; omega
    · have hmb : (((x : Int) % 10) == 0) = false := by rw [beq_eq_false_iff_ne]; omega
      go_wp2
      go_ret
      exact ⟨k, x, rfl, HX.out, hm, hk8, rfl⟩
end Go.Proofs.YtgolidabjcmofaaGreatDoor
namespace Go.Proofs.YtgolidabjcmofaaGreatDoor
open Go.RowKit
set_option linter.unusedVariables false
set_option linter.unusedSimpArgs false
def TrimPost (a : Nat) (w : World) (e : Ending) (w' : World) : Prop :=
  ∃ v m k, e = .returned (.tuple #[v, .int .i64 ((k : Nat) : Int)]) ∧ Own w.heap.size w' v (limbs m) ∧ Below w.heap.size w w' ∧ a = m * tenN k ∧ (a = 0 → k = 0) ∧ (a ≠ 0 → m % 10 ≠ 0) ∧ k ≤ 400000000
theorem ten_bound {k N n : Nat} (h : tenN k ≤ N) (h2 : N < B32 ^ n) : k < 32 * n := by
  have h1 : 2 ^ k ≤ tenN k := Nat.pow_le_pow_left (by decide) k
  have e : B32 ^ n = 2 ^ (32 * n) := by rw [Nat.pow_mul]; rfl
  rw [e] at h2
  have h3 : 2 ^ k < 2 ^ (32 * n) := by omega
  exact (Nat.pow_lt_pow_iff_right (by decide)).1 h3
theorem trim_last {L m z : Nat} (h : L % 1000000000 = m * tenN z) (hm : m % 10 ≠ 0) (hz : z ≤ 8) : L = L / tenN z * tenN z ∧ (L / tenN z) % 10 ≠ 0 := by
  have e9 : (1000000000 : Nat) = tenN (9 - z) * tenN z := by rw [← tenN_add, Nat.sub_add_cancel (by omega), tenN_9]
  have hd := Nat.div_add_mod L 1000000000
  rw [h] at hd
  generalize L / 1000000000 = q at *
  have hL : L = (tenN (9 - z) * q + m) * tenN z := by
    rw [← hd]; conv => lhs; lhs; rw [e9]
    grind
  have hq : L / tenN z = tenN (9 - z) * q + m := by rw [hL]; exact Nat.mul_div_cancel _ (tenN_pos z)
  refine ⟨by rw [hq]; exact hL, ?_⟩
  rw [hq]
  have : tenN (9 - z) = 10 * tenN (8 - z) := by rw [show 9 - z = (8 - z) + 1 by omega, tenN_succ, Nat.mul_comm]
  rw [this, Nat.mul_assoc, Nat.mul_add_mod]
  exact hm
def TrimRel (G a n : Nat) (w : World) (L : Nat) (lv cnt : Value) (wr : World) : Prop :=
  ∃ c : Nat, L ≠ 0 ∧ cnt = .int .i64 c ∧ Own G wr lv (limbs L) ∧ a = L * tenN c ∧ Below G w wr
theorem shrink_chunk (B : Nat) (v : Value) (xs : List Nat) (w : World) (hown : Own B w v xs) (hB : B ≤ w.heap.size) (hm : xs.length ≤ 100000000) :
    Calls Tryz.prog 145 #[v, .int .u32 1000000000] w (ShrinkPost B (val xs) 1000000000 v.ownBlock w) :=
  shrink_any B v xs 1000000000 w hown hB hm (by decide) (by decide)
set_option maxHeartbeats 4000000 in
theorem trim_any (ad : Option Addr) (n cap : Nat) (xs : List Nat) (w : World) (hn : xs.length = n) (hcap : n ≤ cap) (hm : n ≤ 10000000) (ho : Okl xs) (hr : Rd w ad xs) :
    Calls Tryz.prog 191 #[.slice ad n cap] w (TrimPost (val xs) w) := by
  have KN := Lib.hid (norm_any ad n cap xs w hn hcap (by omega) ho hr)
  have hlt := val_lt ho
  rw [hn] at hlt
  have hlen := limbs_len_le ho
  rw [hn] at hlen
  generalize val xs = a at *
  clear ho hr hn
  have HLT := Lib.hid hlt; clear hlt
  by_cases h0 : a = 0
  · subst h0
    go_enter Tryz.func191, Tryz.ntmps191
    go_wp2_with fail
    refine KN.out.mono ?_
    rintro e w' ⟨v, rfl, hv, hbl⟩
    obtain ⟨ad1, cap1, rfl, _, _, _⟩ := hv.view
    rw [limbs_zero] at hv ⊢
    go_wp2_with fail
    go_wp2
    go_ret2
    exact ⟨_, 0, 0, rfl, Own.nil _ _, hbl, by rw [Nat.zero_mul], fun _ => rfl, fun h => absurd rfl h, by omega⟩
  · have hne : (limbs a).length ≠ 0 := fun h => h0 ((limbs_nil_iff a).1 (List.eq_nil_of_length_eq_zero h))
    have hnb : (((limbs a).length : Int) == 0) = false := by rw [beq_eq_false_iff_ne]; omega
    have HNB := Lib.hid hnb
    clear hnb
    generalize hG : w.heap.size = G at *
    go_enter Tryz.func191, Tryz.ntmps191
    go_wp2_with fail
    refine KN.out.mono ?_
    rintro e w' ⟨v, rfl, hv, hbl⟩
    rw [hG] at hv hbl
    obtain ⟨ad1, cap1, hve, _, _, _⟩ := hv.view
    subst hve
    have hnb := HNB.out
    go_wp2
    clear hnb
    go_loopg [4, 5] a (fun L lv cnt wr => TrimRel G a n w L lv cnt wr)
    case atStart => exact ⟨0, h0, rfl, hv, by rw [tenN_zero, Nat.mul_one], hbl⟩
    case round =>
      clear hv hbl
      obtain ⟨c, hL0, rfl, hown, ha, hbl⟩ := hrel
      have hLa : gk ≤ a := by rw [ha]; exact Nat.le_mul_of_pos_right _ (tenN_pos c)
      have hcb : c < 32 * n := ten_bound (N := a) (by rw [ha]; exact Nat.le_mul_of_pos_left _ (by omega)) HLT.out
      have hll : (limbs gk).length ≤ n := Nat.le_trans (limbs_len_mono hLa) hlen
      have HA := Lib.hid ha; clear ha
      obtain ⟨ad2, cap2, rfl, hle, hrd, hadd⟩ := hown.view
      have K2 := norm_any ad2 (limbs gk).length cap2 (limbs gk) wr rfl hle (by omega) (limbs_ok gk) hrd
      rw [val_limbs] at K2
      have hsG : G ≤ wr.heap.size := Nat.le_trans (by rw [← hG]; exact Nat.le_refl _) hbl.size
      have K2H := Lib.hid K2
      have HADD := Lib.hid hadd
      clear K2 hadd hrd hle
      go_wp2_with fail
      refine K2H.out.mono ?_
      rintro e w1 ⟨v1, rfl, hv1, hb1⟩
      go_wp2_with fail
      have K3 := shrink_chunk wr.heap.size v1 (limbs gk) w1 hv1 hb1.size (by omega)
      rw [val_limbs] at K3
      refine K3.mono ?_
      clear K3
      rintro e w2 ⟨v2, rfl, hv2, hb2, _⟩
      have hb12 : Below wr.heap.size wr w2 := hb1.trans hb2
      have hown2 := hown.below hb12
      have hbl2 : Below G w w2 := hbl.trans (hb12.mono hsG)
      have hsG2 : G ≤ w2.heap.size := Nat.le_trans hsG hb12.size
      have hrl : gk % 1000000000 < 1000000000 := Nat.mod_lt _ (by decide)
      generalize hrm : gk % 1000000000 = rm at *
      have HRM := Lib.hid hrm; clear hrm
      clear hv1 hb1 hb2 hown hb12
      by_cases hr0 : rm = 0
      · subst hr0
        have hdv : gk = gk / 1000000000 * 1000000000 := by have h1 := HRM.out; omega
        have HDV := Lib.hid hdv; clear hdv
        have hq0 : gk / 1000000000 ≠ 0 := by intro h1; have := HDV.out; rw [h1] at this; omega
        have hql : gk / 1000000000 < gk := by omega
        have hv3 := hv2.mono hsG
        generalize hQ : gk / 1000000000 = Q at *
        have HQ := Lib.hid hQ; clear hQ
        go_wp2
        go_roundg Q
        case measure => exact hql
        case rel => exact ⟨c + 9, hq0, by go_num, hv3, by rw [HA.out, HDV.out, tenN_add, tenN_9, Nat.mul_assoc, Nat.mul_comm 1000000000], hbl2⟩
      · have hpos : (0 : Int) < (rm : Int) := by omega
        go_wp2_with fail
        refine (zeros_any rm w2 hr0 hrl).mono ?_
        rintro e w' ⟨z, m, rfl, hzm, hm10, hz8, rfl⟩
        have htl := trim_last (by rw [HRM.out]; exact hzm) hm10 hz8
        have HTL := Lib.hid htl
        clear htl hzm hm10
        go_wp2_with fail
        refine (tens_any z _ (by omega)).mono ?_
        rintro e w' ⟨rfl, rfl⟩
        go_wp2_with fail
        have K4 := shrink_any G _ (limbs gk) (tenN z) w2 hown2 hsG2 (by omega) (by have := tenN_le (show z ≤ 9 by omega); rw [tenN_9] at this; rw [B32_eq]; omega) (tenN_pos z)
        rw [val_limbs] at K4
        refine K4.mono ?_
        clear K4
        rintro e w3 ⟨v3, rfl, hv3, hb3, _⟩
        go_wp2
        go_ret2
        exact ⟨v3, gk / tenN z, c + z, by go_num, by rw [hG]; exact hv3, by rw [hG]; exact hbl2.trans hb3,
          by rw [HA.out, Nat.add_comm, tenN_add, ← Nat.mul_assoc, ← HTL.out.1], fun h => absurd h h0, fun _ => HTL.out.2, by omega⟩
end Go.Proofs.YtgolidabjcmofaaGreatDoor
namespace Go.Proofs.YtgolidabjcmofaaGreatDoor
open Go.RowKit
set_option linter.unusedVariables false
set_option linter.unusedSimpArgs false
end Go.Proofs.YtgolidabjcmofaaGreatDoor
namespace Go.Proofs.YtgolidabjcmofaaGreatDoor
open Go.RowKit
set_option linter.unusedVariables false
set_option linter.unusedSimpArgs false
def Okb (xs : List Nat) : Prop := ∀ x ∈ xs, x < 256
theorem Okb.nil : Okb [] := by intro x h; cases h
theorem Okb.take {xs : List Nat} (h : Okb xs) (n : Nat) : Okb (xs.take n) := fun y hy => h y (List.mem_of_mem_take hy)
theorem Okb.append {xs ys : List Nat} (h : Okb xs) (k : Okb ys) : Okb (xs ++ ys) := by
  intro y hy; rcases List.mem_append.1 hy with hy | hy
  · exact h y hy
  · exact k y hy
theorem Okb.one {x : Nat} (h : x < 256) : Okb [x] := by
  intro y hy; rw [List.mem_singleton] at hy; omega
theorem Okb.set {xs : List Nat} (h : Okb xs) (i v : Nat) (hv : v < 256) : Okb (xs.set i v) := by
  intro y hy; rcases List.mem_or_eq_of_mem_set hy with hy | hy
  · exact h y hy
  · exact hy ▸ hv
theorem Okb.getD {xs : List Nat} (h : Okb xs) (i : Nat) : xs.getD i 0 < 256 := by
  by_cases hi : i < xs.length
  · simp only [List.getD, List.getElem?_eq_getElem hi, Option.getD_some]; exact h _ (List.getElem_mem hi)
  · simp only [List.getD, List.getElem?_eq_none (Nat.le_of_not_lt hi), Option.getD_none]; decide
def bv (n : Nat) : Value := .int .u8 (n : Int)
def Rdb (w : World) (ad : Option Addr) (xs : List Nat) : Prop :=
  ∀ i, i < xs.length → ∃ b o, ad = some ⟨b, o, none⟩ ∧ b < w.heap.size ∧ w.cell? ⟨b, o + i, none⟩ = some (.int .u8 ((xs.getD i 0 : Nat) : Int))
theorem Rdb.at {w : World} {b o : Nat} {xs : List Nat} (h : Rdb w (some ⟨b, o, none⟩) xs) (i : Nat) (hi : i < xs.length) :
    w.cell? ⟨b, o + i, none⟩ = some (.int .u8 ((xs.getD i 0 : Nat) : Int)) := by
  obtain ⟨b', o', e, _, hc⟩ := h i hi
  cases e; exact hc
theorem Rdb.lt {w : World} {ad : Option Addr} {xs : List Nat} (h : Rdb w ad xs) (a : Addr) (e : ad = some a) (hx : 0 < xs.length) : a.block < w.heap.size := by
  obtain ⟨b, o, e', hb, _⟩ := h 0 hx
  rw [e] at e'; cases e'; exact hb
theorem Rdb.apart {w : World} {ad : Option Addr} {xs : List Nat} (h : Rdb w ad xs) {g : Nat} (hg : w.heap.size ≤ g) (a : Addr) (e : ad = some a) (hx : 0 < xs.length) : a.block ≠ g := by
  have := h.lt a e hx; omega
theorem Rdb.nil (w : World) (ad : Option Addr) : Rdb w ad [] := by intro i h; simp at h
theorem Rdb.take {w : World} {ad : Option Addr} {xs : List Nat} (h : Rdb w ad xs) (n : Nat) : Rdb w ad (xs.take n) := by
  intro i hi
  rw [List.length_take] at hi
  obtain ⟨b, o, e, hb, hc⟩ := h i (by omega)
  exact ⟨b, o, e, hb, by rw [hc]; simp [List.getD, show i < n by omega]⟩
theorem Rdb.below {w w' : World} {ad : Option Addr} {xs : List Nat} (h : Rdb w ad xs) (hb : Below w.heap.size w w') : Rdb w' ad xs := by
  intro i hi
  obtain ⟨b, o, e, hlt, hc⟩ := h i hi
  exact ⟨b, o, e, Nat.lt_of_lt_of_le hlt hb.size, by rw [hb.cell (p := ⟨b, o + i, none⟩) hlt]; exact hc⟩
def Bkb (w : World) (g : Nat) (ys : List Nat) (r : List Value) : Prop := w.heap[g]? = some (.cells (ys.map bv ++ r).toArray 5 (0, 0))
def putb (g : Nat) (ys : List Nat) (r : List Value) (w : World) : World := { w with heap := w.heap.setIfInBounds g (.cells (ys.map bv ++ r).toArray 5 (0, 0)) }
theorem Bkb.lt {w : World} {g : Nat} {ys : List Nat} {r : List Value} (h : Bkb w g ys r) : g < w.heap.size := by
  rcases Nat.lt_or_ge g w.heap.size with h1 | h1
  · exact h1
  · rw [Bkb, Array.getElem?_eq_none h1] at h; cases h
theorem Bkb.cell {w : World} {g : Nat} {ys : List Nat} {r : List Value} (h : Bkb w g ys r) (i : Nat) (hi : i < ys.length) :
    w.cell? ⟨g, i, none⟩ = some (.int .u8 ((ys.getD i 0 : Nat) : Int)) := by
  unfold Bkb at h
  have e : (List.map bv ys ++ r)[i]? = some (bv (ys.getD i 0)) := by
    rw [List.getElem?_append_left (by simpa using hi)]
    simp [List.getD, hi]
  simp only [World.cell?, h]
  simpa [bv] using e
theorem Bkb.free {w : World} {g : Nat} {ys : List Nat} {r : List Value} (h : Bkb w g ys r) (i : Nat) : w.frozen? ⟨g, i, none⟩ = false := by
  unfold Bkb at h
  simp [World.frozen?, h]
theorem Bkb.rd {w : World} {g : Nat} {ys : List Nat} {r : List Value} (h : Bkb w g ys r) (o n : Nat) (hn : o + n ≤ ys.length) : Rdb w (some ⟨g, o, none⟩) ((ys.drop o).take n) := by
  intro i hi
  rw [List.length_take, List.length_drop] at hi
  refine ⟨g, o, rfl, h.lt, ?_⟩
  rw [h.cell (o + i) (by omega)]
  simp [List.getD, show i < n by omega]
theorem Bkb.rd_all {w : World} {g : Nat} {ys : List Nat} {r : List Value} (h : Bkb w g ys r) : Rdb w (some ⟨g, 0, none⟩) ys := by
  have := h.rd 0 ys.length (by omega)
  simpa using this
theorem putb_heap (g : Nat) (ys : List Nat) (r : List Value) (w : World) : (putb g ys r w).heap.size = w.heap.size := by simp [putb]
theorem putb_blk {w : World} {g : Nat} (ys : List Nat) (r : List Value) (h : g < w.heap.size) : Bkb (putb g ys r w) g ys r := by
  simp [Bkb, putb, h]
theorem putb_put (g : Nat) (ys zs : List Nat) (r r' : List Value) (w : World) : putb g ys r (putb g zs r' w) = putb g ys r w := by
  simp [putb]
theorem putb_other (g : Nat) (ys : List Nat) (r : List Value) (w : World) (k : Nat) (h : k ≠ g) : (putb g ys r w).heap[k]? = w.heap[k]? := by
  simp only [putb]; rw [Array.getElem?_setIfInBounds_ne (by omega)]
theorem putb_cell (g : Nat) (ys : List Nat) (r : List Value) (w : World) (a : Addr) (h : a.block ≠ g) : (putb g ys r w).cell? a = w.cell? a :=
  World.cell?_of_block (putb_other g ys r w _ h)
theorem putb_same {w : World} {g : Nat} {ys : List Nat} {r : List Value} (h : Bkb w g ys r) : putb g ys r w = w := by
  have hlt := h.lt
  unfold Bkb at h
  have e : w.heap.setIfInBounds g (.cells (ys.map bv ++ r).toArray 5 (0, 0)) = w.heap := by
    apply Array.ext_getElem?
    intro k
    by_cases hk : k = g
    · subst hk; rw [Array.getElem?_setIfInBounds_self_of_lt hlt, h]
    · rw [Array.getElem?_setIfInBounds_ne (by omega)]
  simp only [putb]; rw [e]
theorem setb_blk {w : World} {g : Nat} {ys : List Nat} {r : List Value} (h : Bkb w g ys r) (i v : Nat) (hi : i < ys.length) : w.setCell ⟨g, i, none⟩ (.int .u8 (v : Int)) = putb g (ys.set i v) r w := by
  have hlt := h.lt
  unfold Bkb at h
  have e : (w.setCell ⟨g, i, none⟩ (.int .u8 (v : Int))).heap = w.heap.setIfInBounds g (.cells ((ys.set i v).map bv ++ r).toArray 5 (0, 0)) := by
    apply Array.ext_getElem?
    intro k
    simp only [World.setCell, Array.getElem?_modify]
    by_cases hk : g = k
    · subst hk; rw [Array.getElem?_setIfInBounds_self_of_lt hlt, h]; simp [bv, hi]
    · rw [if_neg hk, Array.getElem?_setIfInBounds_ne hk]
  unfold putb; rw [← e]; rfl
theorem putb_below {B : Nat} {a w : World} (h : Below B a w) {g : Nat} (hg : B ≤ g) (ys : List Nat) (r : List Value) : Below B a (putb g ys r w) :=
  h.trans ⟨rfl, rfl, rfl, by rw [putb_heap]; exact Nat.le_refl _, fun k hk => putb_other g ys r w k (by omega)⟩
theorem Rdb.putb {w : World} {ad : Option Addr} {xs : List Nat} (h : Rdb w ad xs) {g : Nat} (hne : ∀ a, ad = some a → 0 < xs.length → a.block ≠ g) (ys : List Nat) (r : List Value) : Rdb (putb g ys r w) ad xs := by
  intro i hi
  obtain ⟨b, o, e, hb, hc⟩ := h i hi
  exact ⟨b, o, e, by rw [putb_heap]; exact hb, by rw [putb_cell g ys r w ⟨b, o + i, none⟩ (hne ⟨b, o, none⟩ e (by omega))]; exact hc⟩
theorem Rdb.drewN {w : World} {ad : Option Addr} {xs : List Nat} (h : Rdb w ad xs) (q : Nat) : Rdb (w.drewN q) ad xs := h
theorem Bkb.drewN {w : World} {g : Nat} {ys : List Nat} {r : List Value} (h : Bkb w g ys r) (q : Nat) : Bkb (w.drewN q) g ys r := h
theorem Bkb.below {w w' : World} {g : Nat} {ys : List Nat} {r : List Value} (h : Bkb w g ys r) {B : Nat} (hb : Below B w w') (hg : g < B) : Bkb w' g ys r := by
  unfold Bkb; rw [hb.block g hg]; exact h
def Ownb (B : Nat) (w : World) (v : Value) (xs : List Nat) : Prop :=
  Okb xs ∧ ((v = .slice none 0 0 ∧ xs = []) ∨ ∃ g cap r, v = .slice (some ⟨g, 0, none⟩) xs.length cap ∧ B ≤ g ∧ Bkb w g xs r ∧ cap = xs.length + r.length ∧ cap ≤ maxLen)
theorem Ownb.nil (B : Nat) (w : World) : Ownb B w (.slice none 0 0) [] := ⟨Okb.nil, .inl ⟨rfl, rfl⟩⟩
theorem Ownb.view {B : Nat} {w : World} {v : Value} {xs : List Nat} (h : Ownb B w v xs) :
    ∃ ad cap, v = .slice ad xs.length cap ∧ xs.length ≤ cap ∧ Rdb w ad xs ∧ ∀ a, ad = some a → B ≤ a.block ∧ a.block < w.heap.size := by
  obtain ⟨_, ⟨rfl, rfl⟩ | ⟨g, cap, r, rfl, hg, hb, hc, _⟩⟩ := h
  · exact ⟨none, 0, rfl, Nat.le_refl _, Rdb.nil _ _, fun a h => by cases h⟩
  · exact ⟨_, cap, rfl, by omega, hb.rd_all, fun a h => by cases h; exact ⟨hg, hb.lt⟩⟩
theorem Ownb.mono {B B' : Nat} {w : World} {v : Value} {xs : List Nat} (h : Ownb B w v xs) (hB : B' ≤ B) : Ownb B' w v xs := by
  obtain ⟨ho, h | ⟨g, cap, r, e, hg, hb, hc⟩⟩ := h
  · exact ⟨ho, .inl h⟩
  · exact ⟨ho, .inr ⟨g, cap, r, e, by omega, hb, hc⟩⟩
theorem Ownb.below {B : Nat} {w w' : World} {v : Value} {xs : List Nat} (h : Ownb B w v xs) (hb : Below w.heap.size w w') : Ownb B w' v xs := by
  obtain ⟨ho, h | ⟨g, cap, r, e, hg, hk, hc⟩⟩ := h
  · exact ⟨ho, .inl h⟩
  · exact ⟨ho, .inr ⟨g, cap, r, e, hg, hk.below hb hk.lt, hc⟩⟩
theorem Ownb.drewN {B : Nat} {w : World} {v : Value} {xs : List Nat} (h : Ownb B w v xs) (q : Nat) : Ownb B (w.drewN q) v xs := h
theorem Bkb.own {w : World} {g B : Nat} {ys : List Nat} {r : List Value} (h : Bkb w g ys r) (hg : B ≤ g) (ho : Okb ys) (n cap : Nat) (hn : n ≤ ys.length) (hc : cap = ys.length + r.length) (hm : cap ≤ maxLen) :
    Ownb B w (.slice (some ⟨g, 0, none⟩) n cap) (ys.take n) := by
  refine ⟨ho.take n, .inr ⟨g, cap, (ys.drop n).map bv ++ r, ?_, hg, ?_, ?_, hm⟩⟩
  · rw [List.length_take, Nat.min_eq_left hn]
  · unfold Bkb at h ⊢; rw [h, ← List.append_assoc, ← List.map_append, List.take_append_drop]
  · simp; omega
end Go.Proofs.YtgolidabjcmofaaGreatDoor
namespace Go.Proofs.YtgolidabjcmofaaGreatDoor
open Go.RowKit
set_option linter.unusedVariables false
set_option linter.unusedSimpArgs false
theorem info_u8 : (Tryz.prog.info? 5).map (fun i => (i.zero, i.size, i.bytes)) = some (some (.int .u8 0), 1, 1) := by kernel_rfl
theorem Ownb.row {B : Nat} {w : World} {v : Value} {xs : List Nat} (h : Ownb B w v xs) : w.ownsRow B 5 1 v xs.length (xs.map bv) := by
  obtain ⟨_, ⟨rfl, rfl⟩ | ⟨g, cap, r, rfl, hg, hb, hc, hm⟩⟩ := h
  · exact ⟨by simp, .inl ⟨rfl, rfl⟩⟩
  · refine ⟨by simp, .inr ⟨g, cap, _, rfl, hg, hb, by omega, hm, by simp; omega, ?_⟩⟩
    simp
theorem ownb_of_row {B : Nat} {w : World} {v : Value} {n : Nat} {xs : List Nat} (h : w.ownsRow B 5 1 v n (xs.map bv)) (ho : Okb xs) : Ownb B w v xs := by
  obtain ⟨hl, ⟨rfl, rfl⟩ | ⟨g, cap, cur, rfl, hg, hb, hc, hm, hs, ht⟩⟩ := h
  · have : xs = [] := List.eq_nil_of_length_eq_zero (by simpa using hl)
    subst this
    exact Ownb.nil _ _
  · simp only [List.length_map, Nat.mul_one] at hl
    subst hl
    refine ⟨ho, .inr ⟨g, cap, cur.toList.drop xs.length, rfl, hg, ?_, ?_, hm⟩⟩
    · unfold Bkb; rw [hb]
      have : cur = (xs.map bv ++ cur.toList.drop xs.length).toArray := by
        rw [← ht, Nat.mul_one, List.take_append_drop]
      rw [← this]
    · have : cur.toList.length = cap := by simpa using hs
      rw [List.length_drop, this]; omega
theorem Ownb.blockGe {B : Nat} {w : World} {v : Value} {xs : List Nat} (h : Ownb B w v xs) : ∀ k, v.ownBlock = some k → B ≤ k := by
  obtain ⟨_, ⟨rfl, rfl⟩ | ⟨g, cap, r, rfl, hg, _⟩⟩ := h
  · intro k e; cases e
  · intro k e; cases e; exact hg
theorem wpl_appendb {w : World} {ops : Array Oper} {rest : List Oper} {o : Oper} {a : Act} {Q : Exit → Act → World → Prop} (hgd : o.guard = none) (s x : Operand)
    (ho : o.op = .call { callee := .builtin .append, args := #[s, x], argTypes := #[60, 60] }) (B : Nat) (v : Value) (xs : List Nat) (hs : a.eval s = v) (hown : Ownb B w v xs)
    (ad : Addr) (c : Nat) (y : Nat) (hx : a.eval x = .slice (some ad) 1 c) (hy : y < 256) (hc : w.cell? ad = some (.int .u8 (y : Int))) (hl : xs.length ≤ 1000000000) (hB : B ≤ w.heap.size)
    (h : ∀ v' w', Ownb B w' v' (xs ++ [y]) → Below B w w' → w.grownBy w' v.ownBlock → wpList Tryz.prog ops Q rest (a.put o.dst v') w') : wpList Tryz.prog ops Q (o :: rest) a w := by
  obtain ⟨i0, hi, hz0, hz1, hz2⟩ := info_parts info_u8
  refine wpList_append_own w hgd s x 60 ho B 5 i0 (.int .u8 0) 1 1 Tryz.underlying60 hi hz0 hz1 hz2 rfl (by decide) v xs.length (xs.map bv) hs hown.row ad 1 c [bv y] hx rfl ?_ ?_ (by unfold maxLen; omega) (by omega) hB ?_
  · intro j u hj
    rcases j with _ | j
    · simp only [List.getElem?_cons_zero, Option.some.injEq] at hj
      subst hj; simpa [Addr.add, bv] using hc
    · simp at hj
  · intro u hu; simp only [List.mem_singleton] at hu; subst hu; rfl
  · intro v' w' hown' hgr _
    refine h v' w' ?_ ((Below.refl _ _).grown hgr hB hown.blockGe) hgr
    have e : xs.map bv ++ [bv y] = (xs ++ [y]).map bv := by simp
    rw [e] at hown'
    exact ownb_of_row hown' (hown.1.append (Okb.one hy))
end Go.Proofs.YtgolidabjcmofaaGreatDoor
namespace Go.Proofs.YtgolidabjcmofaaGreatDoor
open Go.RowKit
set_option linter.unusedVariables false
set_option linter.unusedSimpArgs false
def dval : List Nat → Nat
  | [] => 0
  | x :: xs => (x - 48) + 10 * dval xs
def Okd (xs : List Nat) : Prop := ∀ x ∈ xs, 48 ≤ x ∧ x ≤ 57
theorem Okd.nil : Okd [] := by intro x h; cases h
theorem Okd.b {xs : List Nat} (h : Okd xs) : Okb xs := fun x hx => by have := h x hx; omega
theorem Okd.snoc {xs : List Nat} {x : Nat} (h : Okd xs) (h1 : 48 ≤ x) (h2 : x ≤ 57) : Okd (xs ++ [x]) := by
  intro y hy; rcases List.mem_append.1 hy with hy | hy
  · exact h y hy
  · rw [List.mem_singleton] at hy; omega
theorem Okd.take {xs : List Nat} (h : Okd xs) (n : Nat) : Okd (xs.take n) := fun y hy => h y (List.mem_of_mem_take hy)
theorem Okd.tail {x : Nat} {xs : List Nat} (h : Okd (x :: xs)) : Okd xs := fun y hy => h y (by simp [hy])
theorem Okd.rev {xs : List Nat} (h : Okd xs) : Okd xs.reverse := fun y hy => h y (List.mem_reverse.1 hy)
theorem dval_snoc (xs : List Nat) (x : Nat) : dval (xs ++ [x]) = dval xs + tenN xs.length * (x - 48) := by
  induction xs with
  | nil => simp [dval, tenN]
  | cons y ys ih => simp only [List.cons_append, dval, ih, List.length_cons, tenN_succ]; grind
def declF : Nat → Nat → List Nat
  | 0, _ => []
  | f + 1, N => if N = 0 then [] else (48 + N % 10) :: declF f (N / 10)
def decl (N : Nat) : List Nat := declF N N
theorem declF_eq : ∀ (f g N : Nat), N ≤ f → N ≤ g → declF f N = declF g N := by
  intro f
  induction f with
  | zero => intro g N h _; obtain rfl : N = 0 := by omega
            cases g <;> simp [declF]
  | succ f ih =>
    intro g N h k
    cases g with
    | zero => obtain rfl : N = 0 := by omega
              simp [declF]
    | succ g =>
      simp only [declF]
      split
      · rfl
      · rw [ih g (N / 10) (by omega) (by omega)]
theorem decl_zero : decl 0 = [] := rfl
theorem decl_pos {N : Nat} (h : N ≠ 0) : decl N = (48 + N % 10) :: decl (N / 10) := by
  unfold decl
  obtain ⟨f, rfl⟩ : ∃ f, N = f + 1 := ⟨N - 1, by omega⟩
  conv => lhs; rw [declF, if_neg h]
  rw [declF_eq f ((f + 1) / 10) _ (by omega) (Nat.le_refl _)]
theorem decl_ind {P : Nat → Prop} (z : P 0) (s : ∀ N, N ≠ 0 → P (N / 10) → P N) : ∀ N, P N := by
  intro N
  induction N using Nat.strongRecOn with
  | _ N ih =>
    by_cases h : N = 0
    · subst h; exact z
    · exact s N h (ih _ (by omega))
theorem decl_ok (N : Nat) : Okd (decl N) := by
  refine decl_ind (P := fun N => Okd (decl N)) Okd.nil ?_ N
  intro N h ih; rw [decl_pos h]
  intro y hy; rcases List.mem_cons.1 hy with rfl | hy
  · omega
  · exact ih y hy
theorem decl_dval {xs : List Nat} (h : Okd xs) (ht : ∀ n, xs.length = n + 1 → xs.getD n 0 ≠ 48) : decl (dval xs) = xs := by
  induction xs with
  | nil => rfl
  | cons x xs ih =>
    have hx : decl (dval xs) = xs := ih h.tail (fun n hn => by have := ht (n + 1) (by simp [hn]); simpa using this)
    have h0 := h x (by simp)
    have hne : dval (x :: xs) ≠ 0 := by
      cases xs with
      | nil => have := ht 0 rfl; simp at this; simp [dval]; omega
      | cons y ys =>
        intro h1
        simp only [dval] at h1
        have h2 : dval (y :: ys) = 0 := by simp only [dval]; omega
        rw [h2] at hx; cases hx
    rw [decl_pos hne]
    have hm : dval (x :: xs) % 10 = x - 48 := by simp only [dval]; omega
    have hd : dval (x :: xs) / 10 = dval xs := by simp only [dval]; omega
    rw [hm, hd, hx, show 48 + (x - 48) = x by omega]
theorem dval_lt (xs : List Nat) (h : Okd xs) : dval xs < tenN xs.length := by
  induction xs with
  | nil => simp [dval, tenN]
  | cons x xs ih =>
    have := ih h.tail
    have h0 := h x (by simp)
    simp only [dval, List.length_cons, tenN_succ]; omega
theorem decl_len_le {n N : Nat} (h : N < tenN n) : (decl N).length ≤ n := by
  induction n generalizing N with
  | zero => obtain rfl : N = 0 := by simpa [tenN] using h
            simp [decl_zero]
  | succ n ih =>
    by_cases h0 : N = 0
    · subst h0; simp [decl_zero]
    · rw [decl_pos h0, List.length_cons]
      rw [tenN_succ] at h
      have := ih (N := N / 10) (by omega)
      omega
theorem decl_ne {N : Nat} (h : N ≠ 0) : decl N ≠ [] := by rw [decl_pos h]; simp
def trimLen (xs : List Nat) : Nat → Nat
  | 0 => 0
  | n + 1 => if xs.getD n 0 = 48 then trimLen xs n else n + 1
theorem trimLen_le (xs : List Nat) : ∀ n, trimLen xs n ≤ n
  | 0 => Nat.le_refl _
  | n + 1 => by unfold trimLen; split; exact Nat.le_succ_of_le (trimLen_le xs n); exact Nat.le_refl _
theorem dval_take_succ (xs : List Nat) (n : Nat) (h : n < xs.length) : dval (xs.take (n + 1)) = dval (xs.take n) + tenN n * (xs.getD n 0 - 48) := by
  rw [List.take_succ_eq_append_getElem h, dval_snoc, List.length_take, Nat.min_eq_left (by omega)]
  simp [List.getD, h]
theorem dval_trim (xs : List Nat) : ∀ n, n ≤ xs.length → dval (xs.take (trimLen xs n)) = dval (xs.take n)
  | 0, _ => rfl
  | n + 1, h => by
    unfold trimLen; split
    · rename_i h0; rw [dval_trim xs n (by omega), dval_take_succ _ _ (by omega), h0]; simp
    · rfl
theorem trim_top (xs : List Nat) : ∀ n m, trimLen xs n = m + 1 → xs.getD m 0 ≠ 48
  | 0, m, h => by simp [trimLen] at h
  | n + 1, m, h => by
    unfold trimLen at h; split at h
    · exact trim_top xs n m h
    · rename_i h0; obtain rfl : n = m := by omega
      exact h0
theorem trim_decl {xs : List Nat} (h : Okd xs) : xs.take (trimLen xs xs.length) = decl (dval xs) := by
  have hl := trimLen_le xs xs.length
  have e : dval (xs.take (trimLen xs xs.length)) = dval xs := by rw [dval_trim _ _ (Nat.le_refl _), List.take_length]
  rw [← e]
  refine (decl_dval (h.take _) ?_).symm
  intro n hn
  rw [List.length_take, Nat.min_eq_left hl] at hn
  have := trim_top xs _ n hn
  simpa [List.getD, List.getElem?_take, hn] using this
def dec (N : Nat) : List Nat := if N = 0 then [48] else (decl N).reverse
def txt (l : List Nat) : ByteArray := ⟨(l.map UInt8.ofNat).toArray⟩
theorem txt_size (l : List Nat) : (txt l).size = l.length := by simp [txt, ByteArray.size]
theorem dec_len_le {n N : Nat} (hn : 0 < n) (h : N < tenN n) : (dec N).length ≤ n := by
  unfold dec; split
  · simp; omega
  · rw [List.length_reverse]; exact decl_len_le h
theorem dec_pos (N : Nat) : 0 < (dec N).length := by
  unfold dec; split
  · simp
  · rename_i h; rw [List.length_reverse]; exact List.length_pos_iff.2 (decl_ne h)
end Go.Proofs.YtgolidabjcmofaaGreatDoor
namespace Go.Proofs.YtgolidabjcmofaaGreatDoor
open Go.RowKit
set_option linter.unusedVariables false
set_option linter.unusedSimpArgs false
set_option maxHeartbeats 1000000 in
theorem trimByte_any (ad : Option Addr) (n cap : Nat) (xs : List Nat) (w : World) (hn : xs.length = n) (hcap : n ≤ cap) (hm : n ≤ 1000000000000) (hr : Rdb w ad xs) :
    Calls Tryz.prog 182 #[.slice ad n cap, .int .u8 48] w fun e w' => e = .returned (.slice ad (trimLen xs n) cap) ∧ w = w' := by
  go_enter Tryz.func182, Tryz.ntmps182
  go_wp2
  go_loop [0] (fun v => ∃ k : Nat, k ≤ n ∧ v = .slice ad k cap ∧ trimLen xs k = trimLen xs n) (fun v => match v with | .slice _ k _ => k | _ => 0)
  case atStart => exact ⟨n, Nat.le_refl _, rfl, rfl⟩
  case round =>
    obtain ⟨k, hk, rfl, he⟩ := hrel
    have HE := Lib.hid he; clear he
    rcases k with _ | k
    · have h0 : trimLen xs n = 0 := by rw [← HE.out]; rfl
      have H0 := Lib.hid h0; clear h0
      go_wp2
      go_ret
      rw [H0.out]; exact ⟨rfl, rfl⟩
    · obtain ⟨b, o, hadd, _, hc⟩ := hr k (by omega)
      subst hadd
      generalize hx : xs.getD k 0 = x at *
      have HX := Lib.hid hx; clear hx
      by_cases hz : x = 48
      · have hT : trimLen xs k = trimLen xs n := by rw [← HE.out]; simp only [trimLen]; rw [if_pos (by rw [HX.out]; exact hz)]
        have HT := Lib.hid hT; clear hT
        subst hz
        go_wp2
        go_round
        case rel => exact ⟨k, by omega, rfl, HT.out⟩
        case measure => simp
      · have h0 : trimLen xs n = k + 1 := by rw [← HE.out]; simp only [trimLen]; rw [if_neg (by rw [HX.out]; exact hz)]
        have H0 := Lib.hid h0; clear h0
        have hxb : (((x : Int)) == 48) = false := by rw [beq_eq_false_iff_ne]; omega
        go_wp2
        go_ret
        rw [H0.out]; exact ⟨rfl, rfl⟩
set_option maxRecDepth 100000 in
set_option maxHeartbeats 1000000 in
theorem trimRight_any (ad : Option Addr) (n cap : Nat) (xs : List Nat) (w : World) (hn : xs.length = n) (hn0 : 0 < n) (hcap : n ≤ cap) (hm : n ≤ 1000000000000) (hr : Rdb w ad xs) :
    Calls Tryz.prog 146 #[.slice ad n cap, .string ⟨#[48]⟩] w fun e w' => e = .returned (.slice ad (trimLen xs n) cap) ∧ w = w' := by
  have hnb : ((n : Int) == 0) = false := by rw [beq_eq_false_iff_ne]; omega
  go_enter Tryz.func146, Tryz.ntmps146
  go_wp2_with (go_at_call 182; refine (trimByte_any ad n cap xs w hn hcap hm hr).mono ?_; rintro e w' ⟨rfl, rfl⟩)
  go_ret
  exact ⟨rfl, rfl⟩
def Half (xs ys : List Nat) (k : Nat) : Prop := ys.length = xs.length ∧ ∀ t, t < xs.length → ys.getD t 0 = if t < k ∨ xs.length - k ≤ t then xs.getD (xs.length - 1 - t) 0 else xs.getD t 0
theorem Half.zero (xs : List Nat) : Half xs xs 0 := ⟨rfl, fun t ht => by rw [if_neg (by omega)]⟩
theorem getD_set (l : List Nat) (i t v : Nat) (h : i < l.length) : (l.set i v).getD t 0 = if i = t then v else l.getD t 0 := by
  by_cases hit : i = t
  · subst hit; simp [List.getD, h]
  · simp [List.getD, hit]
theorem Half.step {xs ys : List Nat} {k : Nat} (h : Half xs ys k) (hk : k < xs.length - 1 - k) :
    Half xs ((ys.set k (ys.getD (xs.length - 1 - k) 0)).set (xs.length - 1 - k) (ys.getD k 0)) (k + 1) := by
  obtain ⟨hl, h2⟩ := h
  have hk1 : ys.getD k 0 = xs.getD k 0 := by rw [h2 k (by omega), if_neg (by omega)]
  have hk2 : ys.getD (xs.length - 1 - k) 0 = xs.getD (xs.length - 1 - k) 0 := by rw [h2 _ (by omega), if_neg (by omega)]
  refine ⟨by simp [hl], fun t ht => ?_⟩
  rw [getD_set _ _ _ _ (by rw [List.length_set]; omega), getD_set _ _ _ _ (by omega), hk1, hk2]
  by_cases h3 : xs.length - 1 - k = t
  · subst h3
    rw [if_pos rfl, if_pos (by omega), show xs.length - 1 - (xs.length - 1 - k) = k by omega]
  · rw [if_neg h3]
    by_cases h4 : k = t
    · subst h4; rw [if_pos rfl, if_pos (by omega)]
    · rw [if_neg h4, h2 t ht]
      by_cases h5 : t < k ∨ xs.length - k ≤ t
      · rw [if_pos h5, if_pos (by omega)]
      · rw [if_neg h5, if_neg (by omega)]
theorem Half.done {xs ys : List Nat} {k : Nat} (h : Half xs ys k) (hk : xs.length ≤ 2 * k + 1) : ys = xs.reverse := by
  obtain ⟨hl, h2⟩ := h
  apply List.ext_getElem (by simp [hl])
  intro i h1 h3
  have h4 := h2 i (by omega)
  have h5 : ys[i] = ys.getD i 0 := by simp [List.getD, h1]
  rw [h5, h4, List.getElem_reverse]
  by_cases h6 : i < k ∨ xs.length - k ≤ i
  · rw [if_pos h6]; simp [List.getD, show xs.length - 1 - i < xs.length by omega]
  · rw [if_neg h6]
    have h7 : xs.length - 1 - i = i := by omega
    simp only [h7]
    simp [List.getD, show i < xs.length by omega]
def RevRel (g n : Nat) (xs : List Nat) (r : List Value) (w : World) (i j : Value) (wr : World) : Prop :=
  ∃ k q ys, i = .int .i64 ((k : Nat) : Int) ∧ j = .int .i64 ((n : Int) - 1 - (k : Int)) ∧ 2 * k ≤ n ∧ Okb ys ∧ Half xs ys k ∧ wr = (putb g ys r w).drewN q
set_option maxHeartbeats 4000000 in
theorem reverse_any (g n cap : Nat) (xs : List Nat) (r : List Value) (w : World) (hn : xs.length = n) (hm : n ≤ 1000000000000) (ho : Okb xs) (hb : Bkb w g xs r) :
    Calls Tryz.prog 147 #[.slice (some ⟨g, 0, none⟩) n cap] w fun e w' => e = .returned (.tuple #[]) ∧ ∃ q, w' = (putb g xs.reverse r w).drewN q := by
  have HN := Lib.hid hn; clear hn
  go_enter Tryz.func147, Tryz.ntmps147
  go_wp2
  go_loopw [2, 3] (fun i j wr => RevRel g n xs r w i j wr) (fun i _ _ => n - (intOf i).toNat)
  case atStart => exact ⟨0, 0, xs, rfl, by go_num, by omega, ho, Half.zero xs, by rw [putb_same hb]; rfl⟩
  case round =>
    obtain ⟨k, q, ys, rfl, rfl, hk, hoy, hh, rfl⟩ := hrel
    have hbk : Bkb (putb g ys r w) g ys r := putb_blk _ _ hb.lt
    have hyl : ys.length = n := by rw [hh.1, HN.out]
    have HY := Lib.hid hyl; clear hyl
    by_cases hlt : k < n - 1 - k
    · have hj : (n : Int) - 1 - (k : Int) = ((n - 1 - k : Nat) : Int) := by omega
      rw [hj]
      have hst := hh.step (by rw [HN.out]; exact hlt)
      rw [HN.out] at hst
      have hc1 := hbk.cell k (by rw [HY.out]; omega)
      have hc2 := hbk.cell (n - 1 - k) (by rw [HY.out]; omega)
      have hf1 := hbk.free k
      have hf2 := hbk.free (n - 1 - k)
      have hxb := hoy.getD k
      have hyb := hoy.getD (n - 1 - k)
      generalize hJ : n - 1 - k = j at *
      have HJ := Lib.hid hJ; clear hJ hj
      generalize ys.getD k 0 = x at *
      generalize ys.getD j 0 = y at *
      have hkn : (k : Int) < (n : Int) := by have := HJ.out; omega
      have hjn : (j : Int) < (n : Int) := by have := HJ.out; omega
      have hkj : (k : Int) < (j : Int) := by omega
      have e1 : ((putb g ys r w).setCell ⟨g, k, none⟩ (.int .u8 (y : Int))).setCell ⟨g, j, none⟩ (.int .u8 (x : Int)) = putb g ((ys.set k y).set j x) r w := by
        rw [setb_blk hbk k y (by rw [HY.out]; omega), putb_put, setb_blk (putb_blk _ _ hb.lt) j x (by rw [List.length_set, HY.out]; omega), putb_put]
      have E1 := Lib.hid e1; clear e1
      have HST := Lib.hid hst; clear hst
      go_wp2
      go_region
      go_wp2
      go_roundw
      case rel =>
        refine ⟨k + 1, q + 1, (ys.set k y).set j x, by go_num, by have := HJ.out; go_num, by have := HJ.out; omega, (hoy.set _ _ hyb).set _ _ hxb, HST.out, ?_⟩
        rw [← E1.out]; rfl
      case measure => simp [intOf]; omega
    · have hd := hh.done (by rw [HN.out]; omega)
      have HD := Lib.hid hd; clear hd
      go_wp2
      go_end0
      exact ⟨rfl, q, by rw [HD.out]⟩
end Go.Proofs.YtgolidabjcmofaaGreatDoor
namespace Go.Proofs.YtgolidabjcmofaaGreatDoor
open Go.RowKit
set_option linter.unusedVariables false
set_option linter.unusedSimpArgs false
theorem Own.kept {B : Nat} {w w' : World} {v : Value} {xs : List Nat} (h : Own B w v xs) (hk : ∀ k, v.ownBlock = some k → w'.heap[k]? = w.heap[k]?) : Own B w' v xs := by
  obtain ⟨ho, h | ⟨g, cap, r, e, hg, hb, hc⟩⟩ := h
  · exact ⟨ho, .inl h⟩
  · exact ⟨ho, .inr ⟨g, cap, r, e, hg, by unfold Blk; rw [hk g (by rw [e]; rfl)]; exact hb, hc⟩⟩
theorem Ownb.kept {B : Nat} {w w' : World} {v : Value} {xs : List Nat} (h : Ownb B w v xs) (hk : ∀ k, v.ownBlock = some k → w'.heap[k]? = w.heap[k]?) : Ownb B w' v xs := by
  obtain ⟨ho, h | ⟨g, cap, r, e, hg, hb, hc⟩⟩ := h
  · exact ⟨ho, .inl h⟩
  · exact ⟨ho, .inr ⟨g, cap, r, e, hg, by unfold Bkb; rw [hk g (by rw [e]; rfl)]; exact hb, hc⟩⟩
theorem Own.blockLt {B : Nat} {w : World} {v : Value} {xs : List Nat} (h : Own B w v xs) : ∀ k, v.ownBlock = some k → k < w.heap.size := by
  obtain ⟨_, ⟨rfl, rfl⟩ | ⟨g, cap, r, rfl, hg, hb, _⟩⟩ := h
  · intro k e; cases e
  · intro k e; cases e; exact hb.lt
theorem Ownb.blockLt {B : Nat} {w : World} {v : Value} {xs : List Nat} (h : Ownb B w v xs) : ∀ k, v.ownBlock = some k → k < w.heap.size := by
  obtain ⟨_, ⟨rfl, rfl⟩ | ⟨g, cap, r, rfl, hg, hb, _⟩⟩ := h
  · intro k e; cases e
  · intro k e; cases e; exact hb.lt
theorem own_apart {B B' : Nat} {w : World} {v v' : Value} {xs ys : List Nat} (h : Own B w v xs) (h' : Ownb B' w v' ys) (k : Nat) (e : v.ownBlock = some k) : some k ≠ v'.ownBlock := by
  intro e'
  obtain ⟨_, ⟨rfl, _⟩ | ⟨g, cap, r, rfl, _, hb, _⟩⟩ := h
  · cases e
  obtain ⟨_, ⟨rfl, _⟩ | ⟨g', cap', r', rfl, _, hb', _⟩⟩ := h'
  · cases e'
  cases e; cases e'
  unfold Blk at hb; unfold Bkb at hb'
  rw [hb] at hb'
  simp at hb'
def DGIn (G n Q N : Nat) (lv : Value) (w : World) (ov rm i : Value) (wr : World) : Prop :=
  ∃ (j r : Nat) (o : List Nat), j ≤ 9 ∧ i = .int .i64 j ∧ rm = .int .u32 r ∧ r < tenN (9 - j) ∧ Ownb G wr ov o ∧ Okd o ∧ N = (Q * tenN (9 - j) + r) * tenN o.length + dval o ∧ o.length ≤ 32 * n + j ∧ Own G wr lv (limbs Q) ∧ Below G w wr
theorem dg_num {Q N r P V T : Nat} (h : N = (Q * (T * 10) + r) * P + V) : N = (Q * T + r / 10) * (P * 10) + (V + P * (r % 10)) := by
  have := Nat.div_add_mod r 10
  rw [h]
  conv => lhs; rw [← this]
  grind
def DGRel (G n N : Nat) (w : World) (L : Nat) (lv ov : Value) (wr : World) : Prop :=
  ∃ o : List Nat, Own G wr lv (limbs L) ∧ Ownb G wr ov o ∧ Okd o ∧ N = L * tenN o.length + dval o ∧ Below G w wr ∧ o.length ≤ 32 * n + 9
set_option maxHeartbeats 4000000 in
set_option maxRecDepth 100000 in
theorem digits_any (ad : Option Addr) (n cap : Nat) (xs : List Nat) (w : World) (hn : xs.length = n) (hcap : n ≤ cap) (hm : n ≤ 10000000) (ho : Okl xs) (hr : Rd w ad xs) :
    Calls Tryz.prog 99 #[.slice ad n cap] w fun e w' => e = .returned (.string (txt (dec (val xs)))) ∧ Below w.heap.size w w' := by
  have KN := Lib.hid (norm_any ad n cap xs w hn hcap (by omega) ho hr)
  have hlt := val_lt ho
  rw [hn] at hlt
  have hlen := limbs_len_le ho
  rw [hn] at hlen
  generalize val xs = N at *
  clear ho hr hn
  have HLT := Lib.hid hlt; clear hlt
  by_cases h0 : N = 0
  · subst h0
    go_enter Tryz.func99, Tryz.ntmps99
    go_wp2_with fail
    refine KN.out.mono ?_
    rintro e w' ⟨v, rfl, hv, hbl⟩
    obtain ⟨ad1, cap1, rfl, _, _, _⟩ := hv.view
    rw [limbs_zero] at hv ⊢
    go_wp2
    go_ret
    exact ⟨rfl, hbl⟩
  · have hne : (limbs N).length ≠ 0 := fun h => h0 ((limbs_nil_iff N).1 (List.eq_nil_of_length_eq_zero h))
    have hnb : (((limbs N).length : Int) == 0) = false := by rw [beq_eq_false_iff_ne]; omega
    have HNB := Lib.hid hnb
    clear hnb
    have hdec : dec N = (decl N).reverse := by unfold dec; rw [if_neg h0]
    have HDEC := Lib.hid hdec; clear hdec
    generalize hG : w.heap.size = G at *
    go_enter Tryz.func99, Tryz.ntmps99
    go_wp2_with fail
    refine KN.out.mono ?_
    rintro e w' ⟨v, rfl, hv, hbl⟩
    rw [hG] at hv hbl
    obtain ⟨ad1, cap1, hve, _, _, _⟩ := hv.view
    subst hve
    have hnb := HNB.out
    go_wp2
    clear hnb
    go_loopg [3, 4] N (fun L lv ov wr => DGRel G n N w L lv ov wr)
    case atStart => exact ⟨[], hv, Ownb.nil _ _, Okd.nil, by simp [tenN, dval], hbl, by simp⟩
    case round =>
      clear hv hbl
      obtain ⟨o, hown, hownb, hod, hN, hbl, hol⟩ := hrel
      obtain ⟨ad2, cap2, hve, hle, hrd, hadd⟩ := hown.view
      subst hve
      have HN := Lib.hid hN; clear hN
      have hsG : G ≤ wr.heap.size := Nat.le_trans (by rw [← hG]; exact Nat.le_refl _) hbl.size
      by_cases hL0 : gk = 0
      · subst hL0
        have hN2 := HN.out
        rw [Nat.zero_mul, Nat.zero_add] at hN2
        obtain ⟨hob, ⟨rfl, rfl⟩ | ⟨g, cap3, r3, rfl, hg3, hbk, hc3, hm3⟩⟩ := hownb
        · exact absurd hN2 h0
        · have hop : 0 < o.length := by
            rcases Nat.eq_zero_or_pos o.length with h1 | h1
            · rw [List.eq_nil_of_length_eq_zero h1] at hN2; exact absurd hN2 h0
            · exact h1
          have htr := trim_decl hod
          rw [← hN2] at htr
          have htl := trimLen_le o o.length
          have KT := Lib.hid (trimRight_any (some ⟨g, 0, none⟩) o.length cap3 o wr rfl hop (by omega) (by omega) hbk.rd_all)
          have hbd := hbk.own hg3 hob (trimLen o o.length) cap3 htl hc3 hm3
          rw [htr] at hbd
          have hdl : (decl N).length = trimLen o o.length := by rw [← htr, List.length_take, Nat.min_eq_left htl]
          rw [← hdl] at KT hbd htl
          obtain ⟨_, ⟨h1, _⟩ | ⟨g', cap', r', he', hg', hbk', hcc, hmm⟩⟩ := hbd
          · cases h1
          · cases he'
            have KR := Lib.hid (reverse_any g (decl N).length cap3 (decl N) r' wr rfl (by omega) (decl_ok N).b hbk')
            have hbr : Bkb (putb g (decl N).reverse r' wr) g (decl N).reverse r' := putb_blk _ _ hbk'.lt
            have hbl3 : Below G w (putb g (decl N).reverse r' wr) := putb_below hbl hg3 _ _
            have KC : ∀ q, (convert 60 9 (.slice (some ⟨g, 0, none⟩) (decl N).length cap3)).run Tryz.prog ((putb g (decl N).reverse r' wr).drewN q) = .ok (.string (txt (dec N))) ((putb g (decl N).reverse r' wr).drewN q) := by
              intro q
              have h2 := run_convert_bytes_arg (P := Tryz.prog) ((putb g (decl N).reverse r' wr).drewN q) 60 5 Tryz.underlying60 Tryz.underlying5 g 0 (decl N).length cap3 ((decl N).reverse.map (fun (x : Nat) => (x : Int))) (by simp) ?_ 9 Tryz.underlying9
              · rw [h2]
                have e : strOfNums ((decl N).reverse.map (fun (x : Nat) => (x : Int))) = txt (dec N) := by
                  rw [HDEC.out]; unfold strOfNums txt; simp
                rw [e]
              · intro i hi
                have h3 := (hbr.drewN q).cell i (by simpa using hi)
                rw [Nat.zero_add, h3]
                have hi2 : i < (decl N).reverse.length := by simpa using hi
                simp only [List.getD, List.getElem?_map, List.getElem?_eq_getElem hi2, Option.map_some, Option.getD_some]
            clear hcc hmm hN2 htr htl hdl hbk hbk' hbr hop hob hc3 hm3 hol hod HN
            go_wp2_with fail
            refine KT.out.mono ?_
            rintro e w' ⟨rfl, rfl⟩
            go_wp2_with fail
            refine KR.out.mono ?_
            rintro e w' ⟨rfl, q, rfl⟩
            have kc := KC q
            go_wp2
            go_ret
            exact ⟨rfl, below_drewN' hbl3 q⟩
      · have hLa : gk ≤ N := by rw [HN.out]; exact Nat.le_trans (Nat.le_mul_of_pos_right _ (tenN_pos _)) (Nat.le_add_right _ _)
        have hcb : o.length < 32 * n := ten_bound (N := N) (by rw [HN.out]; exact Nat.le_trans (Nat.le_mul_of_pos_left _ (by omega)) (Nat.le_add_right _ _)) HLT.out
        have hll : (limbs gk).length ≤ n := Nat.le_trans (limbs_len_mono hLa) hlen
        have hlp : 0 < (limbs gk).length := List.length_pos_iff.2 (fun h => hL0 ((limbs_nil_iff gk).1 h))
        have K3 := shrink_chunk G _ (limbs gk) wr hown hsG (by omega)
        rw [val_limbs] at K3
        have K3H := Lib.hid K3; clear K3
        go_wp2_with fail
        refine K3H.out.mono ?_
        rintro e w2 ⟨v2, rfl, hv2, hb2, hoth⟩
        have hownb2 : Ownb G w2 u4 o := hownb.kept (fun k hk => hoth k (fun e => own_apart hown hownb k e.symm hk.symm))
        have hbl2 : Below G w w2 := hbl.trans hb2
        have hrl : gk % 1000000000 < 1000000000 := Nat.mod_lt _ (by decide)
        have hdm := Nat.div_add_mod gk 1000000000
        have hql : gk / 1000000000 < gk := by omega
        generalize hrm : gk % 1000000000 = rm at *
        generalize hQ : gk / 1000000000 = Q at *
        have HDM := Lib.hid hdm
        clear hdm hrm hQ hoth hown hownb hbl hb2
        go_wp2
        go_loopw [4, 5, 19] (fun ov r i wr => DGIn G n Q N v2 w ov r i wr) (fun _ _ i _ => 9 - (intOf i).toNat)
        case atStart => exact ⟨0, rm, o, by omega, rfl, rfl, by rw [tenN_9]; exact hrl, hownb2, hod, by rw [HN.out, tenN_9, ← HDM.out, Nat.mul_comm 1000000000], by omega, hv2, hbl2⟩
        case round =>
          clear hv2 hownb2 hbl2 hod HN hcb hol
          obtain ⟨j, r, o2, hj, rfl, rfl, hr, hownb, hod, hN, hol, hleft, hbl⟩ := hrel
          have HN := Lib.hid hN; clear hN
          by_cases hj9 : j < 9
          · have hrb : r < 1000000000 := by
              have h1 : tenN (9 - j) ≤ tenN 9 := tenN_le (by omega)
              rw [tenN_9] at h1; omega
            have hs : tenN (9 - j) = tenN (9 - (j + 1)) * 10 := by rw [← tenN_succ]; congr 1; omega
            have hN2 := HN.out
            rw [hs] at hN2 hr
            have hN3 := dg_num hN2
            rw [← tenN_succ] at hN3
            have HN3 := Lib.hid hN3
            have HR3 := Lib.hid (show r / 10 < tenN (9 - (j + 1)) by omega)
            clear hN2 hN3 hs hr
            have hsz : G ≤ wr.heap.size := Nat.le_trans (by rw [← hG]; exact Nat.le_refl _) hbl.size
            go_wp2_with (at_builtin; refine wpl_appendb rfl (.tmp 21) (.tmp 26) rfl G u4 o2 rfl (hownb.below ((Below.refl _ _).alloc (Nat.le_refl _) _)) ⟨wr.heap.size, 0, none⟩ 1 (48 + r % 10) rfl ?hlt ?hcell ?hlen ?hbase ?_)
            case hlt => omega
            case hcell => simp
            case hlen => omega
            case hbase => simp; omega
            intro v' w4 hown4 hbl4 hgr
            have hleft4 : Own G w4 v2 (limbs Q) := (hleft.below ((Below.refl _ _).alloc (Nat.le_refl _) _)).kept (fun k hk => hgr.block k (by have := hleft.blockLt k hk; simp; omega) (own_apart hleft hownb k hk))
            have hbl5 : Below G w w4 := (hbl.alloc hsz _).trans hbl4
            clear hgr hleft hbl hbl4 hownb
            go_wp2
            go_roundw
            case rel => exact ⟨j + 1, r / 10, o2 ++ [48 + r % 10], by omega, by go_num, by go_num, HR3.out, hown4, hod.snoc (by omega) (by omega), by rw [dval_snoc, List.length_append, List.length_singleton, Nat.add_sub_cancel_left]; exact HN3.out, by rw [List.length_append, List.length_singleton]; omega, hleft4, hbl5⟩
            case measure => simp [intOf]; omega
          · obtain rfl : j = 9 := by omega
            have hN2 := HN.out
            have hr0 : r = 0 := by
              have : tenN (9 - 9) = 1 := rfl
              omega
            subst hr0
            rw [show tenN (9 - 9) = 1 from rfl, Nat.mul_one, Nat.add_zero] at hN2
            have HN2 := Lib.hid hN2; clear hN2
            go_wp2
            go_roundg Q
            case measure => exact hql
            case rel => exact ⟨o2, hleft, hownb, hod, HN2.out, hbl, by omega⟩
end Go.Proofs.YtgolidabjcmofaaGreatDoor
namespace Go.Proofs.YtgolidabjcmofaaGreatDoor
open Go.RowKit
set_option linter.unusedVariables false
set_option linter.unusedSimpArgs false
def nums (s : ByteArray) : List Nat := s.data.toList.map UInt8.toNat
theorem nums_len (s : ByteArray) : (nums s).length = s.size := by
  unfold nums; rw [List.length_map]; rfl
theorem nums_at (s : ByteArray) (k : Nat) (h : k < s.size) : (nums s).getD k 0 = s[k].toNat := by
  have h1 : k < s.data.toList.length := h
  unfold nums
  simp only [List.getD, List.getElem?_map, List.getElem?_eq_getElem h1, Option.map_some, Option.getD_some]
  rfl
def hval (l : List Nat) : Nat := dval l.reverse
theorem hval_nil : hval [] = 0 := rfl
theorem hval_snoc (l : List Nat) (x : Nat) : hval (l ++ [x]) = 10 * hval l + (x - 48) := by
  unfold hval; rw [List.reverse_append]; simp only [List.reverse_cons, List.reverse_nil, List.nil_append, List.cons_append, dval]; omega
theorem hval_one (x : Nat) : hval [x] = x - 48 := by have := hval_snoc [] x; simpa [hval_nil] using this
theorem hval_append (l m : List Nat) : hval (l ++ m) = hval l * tenN m.length + hval m := by
  induction m generalizing l with
  | nil => simp [tenN, hval_nil]
  | cons x m ih =>
    have e1 : l ++ x :: m = (l ++ [x]) ++ m := by simp
    have e2 : x :: m = [x] ++ m := rfl
    rw [e1, ih, e2, ih [x], hval_snoc, hval_one, List.length_append, List.length_singleton, Nat.add_comm 1, tenN_succ]
    grind
theorem hval_lt {l : List Nat} (h : Okd l) : hval l < tenN l.length := by
  have := dval_lt l.reverse h.rev
  rwa [List.length_reverse] at this
theorem take_snoc' (l : List Nat) (k : Nat) (h : k < l.length) : l.take (k + 1) = l.take k ++ [l.getD k 0] := by
  rw [List.take_succ_eq_append_getElem h]; simp [List.getD, h]
def ShortPost (l : List Nat) (w : World) (e : Ending) (w' : World) : Prop :=
  ((Okd l ∧ e = .returned (.tuple #[.int .u32 ((hval l : Nat) : Int), .bool true])) ∨ (¬ Okd l ∧ e = .returned (.tuple #[.int .u32 0, .bool false]))) ∧ w = w'
set_option maxHeartbeats 1000000 in
theorem short_any (s : ByteArray) (w : World) (hs : s.size ≤ 9) :
    Calls Tryz.prog 188 #[.string s] w (ShortPost (nums s) w) := by
  go_enter Tryz.func188, Tryz.ntmps188
  go_wp2
  go_loop [2, 7] (fun v i => ∃ (k x : Nat), k ≤ s.size ∧ i = .int .i64 k ∧ v = .int .u32 x ∧ x = hval ((nums s).take k) ∧ Okd ((nums s).take k)) (fun _ i => s.size - (intOf i).toNat)
  case atStart => exact ⟨0, 0, by omega, rfl, rfl, rfl, by rw [List.take_zero]; exact Okd.nil⟩
  case round =>
    obtain ⟨k, x, hk, rfl, rfl, hx, hod⟩ := hrel
    have HX := Lib.hid hx; clear hx
    by_cases hlt : k < s.size
    · have hxb : x < 100000000 := by
        have h1 := hval_lt hod
        rw [← HX.out, List.length_take, nums_len, Nat.min_eq_left hk] at h1
        have h2 := tenN_le (show k ≤ 8 by omega)
        have h3 : tenN 8 = 100000000 := by decide
        omega
      have hat := nums_at s k hlt
      have htk := take_snoc' (nums s) k (by rw [nums_len]; exact hlt)
      rw [hat] at htk
      have HT := Lib.hid htk
      have hmem : s[k].toNat ∈ nums s := by
        have h1 : s[k].toNat ∈ (nums s).take (k + 1) := by rw [htk]; simp
        exact List.mem_of_mem_take h1
      have HM := Lib.hid hmem
      clear hat htk hmem
      by_cases h1 : s[k].toNat < 48
      · have hbad : ¬ Okd (nums s) := fun h => by have := h _ HM.out; omega
        go_wp2
        go_ret2
        exact ⟨.inr ⟨hbad, rfl⟩, rfl⟩
      · by_cases h2 : 57 < s[k].toNat
        · have hbad : ¬ Okd (nums s) := fun h => by have := h _ HM.out; omega
          go_wp2
          go_ret2
          exact ⟨.inr ⟨hbad, rfl⟩, rfl⟩
        · have hv : Hid (10 * x + (s[k].toNat - 48) = hval ((nums s).take (k + 1))) := by
            unfold Hid; rw [HT.out, hval_snoc, HX.out]
          have hok : Okd ((nums s).take (k + 1)) := by rw [HT.out]; exact hod.snoc (by omega) (by omega)
          go_wp2
          go_round
          case rel => exact ⟨k + 1, 10 * x + (s[k].toNat - 48), by omega, by go_num, by go_num, hv.out, hok⟩
          case measure => simp [intOf]; omega
    · obtain rfl : k = s.size := by omega
      have e : (nums s).take s.size = nums s := List.take_of_length_le (by rw [nums_len]; exact Nat.le_refl _)
      rw [e] at hod
      have hx := HX.out
      rw [e] at hx
      have HX2 := Lib.hid hx; clear hx e
      go_wp2
      go_ret2
      exact ⟨.inl ⟨hod, by rw [← HX2.out]; rfl⟩, rfl⟩
theorem nums_take (t : ByteArray) (n : Nat) : nums (t.extract 0 n) = (nums t).take n := by
  unfold nums; simp [ByteArray.data_extract, List.map_take]
theorem nums_drop (t : ByteArray) (n : Nat) : nums (t.extract n t.size) = (nums t).drop n := by
  have e : (nums t).drop n = ((nums t).drop n).take (t.size - n) := by
    rw [List.take_of_length_le]; rw [List.length_drop, nums_len]; exact Nat.le_refl _
  rw [e]
  unfold nums; simp [ByteArray.data_extract, List.map_take, List.map_drop]
def ParsePost (l : List Nat) (w : World) (e : Ending) (w' : World) : Prop :=
  ((0 < l.length ∧ l.length ≤ 2000 ∧ Okd l ∧ ∃ v, e = .returned (.tuple #[v, .bool true]) ∧ Own w.heap.size w' v (limbs (hval l))) ∨
   (¬ (0 < l.length ∧ l.length ≤ 2000 ∧ Okd l) ∧ e = .returned (.tuple #[.slice none 0 0, .bool false]))) ∧ Below w.heap.size w w'
def PRel (G : Nat) (s : ByteArray) (w : World) (k : Nat) (sv lvv : Value) (wr : World) : Prop :=
  ∃ (t : ByteArray) (done : List Nat), k = t.size ∧ sv = .string t ∧ nums s = done ++ nums t ∧ Okd done ∧ Own G wr lvv (limbs (hval done)) ∧ Below G w wr
set_option maxHeartbeats 4000000 in
set_option maxRecDepth 100000 in
theorem parse_any (s : ByteArray) (w : World) :
    Calls Tryz.prog 158 #[.string s] w (ParsePost (nums s) w) := by
  by_cases h0 : s.size = 0
  · have hs : s = ByteArray.empty := by
      apply ByteArray.ext; apply Array.eq_empty_of_size_eq_zero; exact h0
    have hbad : ¬ (0 < (nums s).length ∧ (nums s).length ≤ 2000 ∧ Okd (nums s)) := by rw [nums_len]; omega
    have HB := Lib.hid hbad; clear hbad
    go_enter Tryz.func158, Tryz.ntmps158
    go_wp2
    go_ret2
    exact ⟨.inr ⟨HB.out, rfl⟩, Below.refl _ _⟩
  · have hne : ¬ s.toList = [] := fun h => h0 (by
      have h1 : s.data.toList = [] := by simpa [ByteArray.toList_eq] using h
      show s.data.size = 0
      rw [← Array.length_toList, h1]; rfl)
    have hemp : s.toList.isEmpty = false := by
      cases hl : s.toList with
      | nil => exact absurd hl hne
      | cons a l => rfl
    by_cases h2 : 2000 < s.size
    · have hbad : ¬ (0 < (nums s).length ∧ (nums s).length ≤ 2000 ∧ Okd (nums s)) := by rw [nums_len]; omega
      have HB := Lib.hid hbad; clear hbad
      go_enter Tryz.func158, Tryz.ntmps158
      go_wp2
      go_ret2
      exact ⟨.inr ⟨HB.out, rfl⟩, Below.refl _ _⟩
    · generalize hG : w.heap.size = G at *
      go_enter Tryz.func158, Tryz.ntmps158
      go_wp2
      go_loopg [0, 4] s.size (fun k sv lvv wr => PRel G s w k sv lvv wr)
      case atStart => exact ⟨s, [], rfl, rfl, rfl, Okd.nil, Own.nil _ _, Below.refl _ _⟩
      case round =>
        obtain ⟨t, done, rfl, rfl, hs, hod, hown, hbl⟩ := hrel
        have hlen : done.length + t.size = s.size := by
          have := congrArg List.length hs
          rw [List.length_append, nums_len, nums_len] at this; omega
        have HS := Lib.hid hs; clear hs
        have HLN := Lib.hid hlen; clear hlen
        have hsG : G ≤ wr.heap.size := Nat.le_trans (by rw [← hG]; exact Nat.le_refl _) hbl.size
        by_cases ht : t.size = 0
        · have hnt : nums t = [] := List.eq_nil_of_length_eq_zero (by rw [nums_len]; exact ht)
          have hall : nums s = done := by rw [HS.out, hnt, List.append_nil]
          have hgood : 0 < (nums s).length ∧ (nums s).length ≤ 2000 ∧ Okd (nums s) := ⟨by rw [nums_len]; omega, by rw [nums_len]; omega, by rw [hall]; exact hod⟩
          have HGD := Lib.hid hgood
          have HALL := Lib.hid hall
          clear hgood hall hnt
          go_wp2
          go_ret2
          exact ⟨.inl ⟨HGD.out.1, HGD.out.2.1, HGD.out.2.2, u4, rfl, by rw [hG, HALL.out]; exact hown⟩, by rw [hG]; exact hbl⟩
        · have hmin : min (t.size : Int) 9 = ((min t.size 9 : Nat) : Int) := by omega
          have hm1 : min t.size 9 ≤ t.size := Nat.min_le_left _ _
          have hm9 : min t.size 9 ≤ 9 := Nat.min_le_right _ _
          have hm0 : 0 < min t.size 9 := by omega
          generalize min t.size 9 = m at *
          have hes : (t.extract 0 m).size = m := by rw [← nums_len, nums_take, List.length_take, nums_len]; omega
          have hsp : nums t = nums (t.extract 0 m) ++ nums (t.extract m t.size) := by rw [nums_take, nums_drop, List.take_append_drop]
          have hrs : (t.extract m t.size).size = t.size - m := by rw [← nums_len, nums_drop, List.length_drop, nums_len]
          have K1 := Lib.hid (short_any (t.extract 0 m) wr (by omega))
          have HES := Lib.hid hes
          have HSP := Lib.hid hsp
          have HRS := Lib.hid hrs
          clear hes hsp hrs
          go_wp2_with fail
          refine K1.out.mono ?_
          rintro e w' ⟨⟨hok, rfl⟩ | ⟨hbad, rfl⟩, rfl⟩
          · have hvl := hval_lt hok
            rw [nums_len, HES.out] at hvl
            have hvb : hval (nums (t.extract 0 m)) < B32 := by
              have := tenN_le hm9; rw [tenN_9] at this; rw [B32_eq]; omega
            have hll : (limbs (hval done)).length ≤ 2001 := by
              have h1 := hval_lt hod
              have h3 : tenN done.length ≤ B32 ^ done.length := Nat.pow_le_pow_left (by decide) _
              have h4 := limbs_length_le (Nat.lt_of_lt_of_le h1 h3)
              have := HLN.out; omega
            have hap := hval_append done (nums (t.extract 0 m))
            rw [nums_len, HES.out] at hap
            generalize hV : hval (nums (t.extract 0 m)) = V at *
            have hod2 : Okd (done ++ nums (t.extract 0 m)) := fun x hx => by
              rcases List.mem_append.1 hx with h | h
              · exact hod x h
              · exact hok x h
            have K3 := timesPlus_any G u4 (limbs (hval done)) (tenN m) V wr hown hsG (by omega) (by have := tenN_le hm9; rw [tenN_9] at this; rw [B32_eq]; omega) hvb
            rw [val_limbs, ← hap] at K3
            have K3H := Lib.hid K3
            clear K3 hap hV hvl hvb
            go_wp2_with fail
            refine (tens_any m _ hm9).mono ?_
            rintro e w' ⟨rfl, rfl⟩
            go_wp2_with fail
            refine K3H.out.mono ?_
            rintro e w4 ⟨v4, rfl, hv4, hb4⟩
            go_wp2
            go_roundg (t.extract m t.size).size
            case measure => rw [HRS.out]; omega
            case rel => exact ⟨t.extract m t.size, done ++ nums (t.extract 0 m), rfl, rfl, by rw [HS.out, HSP.out, List.append_assoc], hod2, hv4, hbl.trans hb4⟩
          · have hbad2 : ¬ (0 < (nums s).length ∧ (nums s).length ≤ 2000 ∧ Okd (nums s)) := fun h => hbad (fun x hx => h.2.2 x (by rw [HS.out, HSP.out]; simp [hx]))
            have HB := Lib.hid hbad2
            clear hbad2 hbad
            go_wp2
            go_ret2
            exact ⟨.inr ⟨HB.out, rfl⟩, by rw [hG]; exact hbl⟩
end Go.Proofs.YtgolidabjcmofaaGreatDoor
