/- Lemmas for the laws: tens, a new block of limbs, an answer. A context of naturals: what a law's walk keeps of its lists, from call to call. -/
import Derived.Test.YtogapgjilbcbfaaGreatDoorA9
namespace Go.Proofs.YtogapgjilbcbfaaGreatDoor
open Go.RowKit
set_option linter.unusedVariables false
set_option linter.unusedSimpArgs false

theorem ten_unique {m m' k k' : Nat} (h : m * tenN k = m' * tenN k') (hm : m % 10 ≠ 0) (hm' : m' % 10 ≠ 0) : m = m' ∧ k = k' := by
  have key : ∀ {a b x y : Nat}, a * tenN x = b * tenN y → a % 10 ≠ 0 → x < y → False := by
    intro a b x y h1 h2 h3
    obtain ⟨d, rfl⟩ : ∃ d, y = x + (d + 1) := ⟨y - x - 1, by omega⟩
    rw [tenN_add, tenN_succ] at h1
    have h4 : a = b * tenN d * 10 := by
      have h5 : a * tenN x = (b * tenN d * 10) * tenN x := by rw [h1]; grind
      exact Nat.eq_of_mul_eq_mul_right (tenN_pos x) h5
    rw [h4] at h2
    exact h2 (Nat.mul_mod_left _ _)
  rcases Nat.lt_trichotomy k k' with h1 | h1 | h1
  · exact (key h hm h1).elim
  · subst h1; exact ⟨Nat.eq_of_mul_eq_mul_right (tenN_pos k) h, rfl⟩
  · exact (key h.symm hm' h1).elim

theorem limbs_12 : limbs 12 = [12] := by rw [limbs_pos (by decide)]; rw [show 12 / B32 = 0 by decide, limbs_zero]; rfl
theorem dec_base : txt (dec 4294967296) = ⟨#[52, 50, 57, 52, 57, 54, 55, 50, 57, 54]⟩ := by
  have : dec 4294967296 = [52, 50, 57, 52, 57, 54, 55, 50, 57, 54] := by
    unfold dec
    rw [if_neg (by decide)]
    repeat rw [decl_pos (by decide)]
    rw [show 4294967296 / 10 / 10 / 10 / 10 / 10 / 10 / 10 / 10 / 10 / 10 = 0 by decide, decl_zero]
    decide
  rw [this]; rfl

/-- A new block of limbs. -/
theorem alloc_blk (w : World) (xs : List Nat) : Blk (w.alloc (.cells (xs.map lv).toArray 42)) w.heap.size xs [] := by
  unfold Blk; rw [List.append_nil]; exact heap_alloc_new w _

theorem retb {a b : Bool} (h : a = b) : Ending.returned (.bool a) = .returned (.bool b) := by rw [h]
end Go.Proofs.YtogapgjilbcbfaaGreatDoor
namespace Go.Proofs.YtogapgjilbcbfaaGreatDoor
open Go.RowKit
set_option linter.unusedVariables false
set_option linter.unusedSimpArgs false

theorem bitsN_ne {N : Nat} (h : N ≠ 0) : bitsN N ≠ 0 := by
  have hl : (limbs N).length ≠ 0 := fun h0 => h ((limbs_nil_iff N).1 (List.eq_nil_of_length_eq_zero h0))
  obtain ⟨t, ht⟩ : ∃ t, (limbs N).length = t + 1 := ⟨(limbs N).length - 1, by omega⟩
  have hx := (limbs_ok N).getD t
  rw [bitsN_top ht]
  have h1 := limbs_top ht
  rw [B32_eq] at hx
  have := (bitLen_bounds _ _ (Nat.le_refl _) (by omega) h1).1
  unfold blen; omega
theorem bitsN_z : bitsN 0 = 0 := bitsN_zero limbs_zero

/-- A contract's world, told on: from a later world back to the first. -/
theorem below_on {w w1 w2 : World} (h : Below w.heap.size w w1) (h2 : Below w1.heap.size w1 w2) : Below w.heap.size w w2 := h.trans (h2.mono h.size)


/-- A list in the world: its value, a bound of its length, its natural, its limbs. -/
structure Ent where
  v : Value
  len : Nat
  nat : Nat
  xs : List Nat

def ListOk (w : World) (v : Value) (L N : Nat) (xs : List Nat) : Prop := ∃ ad cap, v = .slice ad xs.length cap ∧ xs.length ≤ cap ∧ xs.length ≤ L ∧ Okl xs ∧ Rd w ad xs ∧ val xs = N
def Ent.Ok (w : World) (x : Ent) : Prop := ListOk w x.v x.len x.nat x.xs

structure Ctx (w0 w : World) (l : List Ent) : Prop where
  below : Below w0.heap.size w0 w
  all : ∀ x ∈ l, x.Ok w

theorem Ctx.step {w0 w w' : World} {l : List Ent} (h : Ctx w0 w l) (hb : Below w.heap.size w w') : Ctx w0 w' l :=
  ⟨below_on h.below hb, fun x hx => by
    obtain ⟨ad, cap, h1, h2, h3, h4, h5, h6⟩ := h.all x hx
    exact ⟨ad, cap, h1, h2, h3, h4, h5.below hb, h6⟩⟩
theorem Ctx.drewN {w0 w : World} {l : List Ent} (h : Ctx w0 w l) (q : Nat) : Ctx w0 (w.drewN q) l := h.step (below_drewN' (Below.refl _ _) q)
theorem Ctx.push {w0 w : World} {l : List Ent} (h : Ctx w0 w l) {x : Ent} (hx : x.Ok w) : Ctx w0 w (x :: l) :=
  ⟨h.below, fun y hy => by rcases List.mem_cons.1 hy with rfl | h1 <;> first | exact hx | exact h.all y h1⟩
theorem Ctx.get {w0 w : World} {l : List Ent} (h : Ctx w0 w l) (i : Nat) {v : Value} {L N : Nat} {xs : List Nat} (hi : l[i]? = some ⟨v, L, N, xs⟩) : ListOk w v L N xs := h.all _ (List.mem_of_getElem? hi)
theorem Ctx.begin (w : World) : Ctx w w [] := ⟨Below.refl _ _, fun x hx => by cases hx⟩

theorem ent_arg {w : World} {ad : Option Addr} {n cap : Nat} {xs : List Nat} (hn : xs.length = n) (hcap : n ≤ cap) (ho : Okl xs) (hr : Rd w ad xs) {L N : Nat} (hL : n ≤ L) (hN : val xs = N) : Ent.Ok w ⟨.slice ad n cap, L, N, xs⟩ := by
  subst hn
  exact ⟨ad, cap, rfl, hcap, hL, ho, hr, hN⟩
theorem ent_own {B : Nat} {w : World} {v : Value} {N L : Nat} (h : Own B w v (limbs N)) (hL : (limbs N).length ≤ L) : Ent.Ok w ⟨v, L, N, limbs N⟩ := by
  obtain ⟨ad, cap, rfl, h1, h2, _⟩ := h.view
  exact ⟨ad, cap, rfl, h1, hL, limbs_ok _, h2, val_limbs _⟩
theorem ent_lit (w : World) {x : Nat} (hx : x < B32) : Ent.Ok (w.alloc (.cells #[.int .u32 (x : Int)] 42)) ⟨.slice (some ⟨w.heap.size, 0, none⟩) 1 1, 1, x, [x]⟩ :=
  ⟨_, 1, rfl, Nat.le_refl _, Nat.le_refl _, Okl.cons hx Okl.nil, (alloc_blk w [x]).rd_all, by simp [val]⟩
theorem Ctx.lit {w0 w : World} {l : List Ent} (h : Ctx w0 w l) {x : Nat} (hx : x < B32) :
    Ctx w0 (w.alloc (.cells #[.int .u32 (x : Int)] 42)) (⟨.slice (some ⟨w.heap.size, 0, none⟩) 1 1, 1, x, [x]⟩ :: l) :=
  (h.step ((Below.refl _ _).alloc (Nat.le_refl _) _)).push (ent_lit w hx)

theorem limbs_len_of {N n : Nat} (h : N < B32 ^ n) : (limbs N).length ≤ n := limbs_length_le h
theorem len_sum {xs ys : List Nat} (hx : Okl xs) (hy : Okl ys) {L M : Nat} (h1 : xs.length ≤ L) (h2 : ys.length ≤ M) : (limbs (val xs + val ys)).length ≤ L + M + 1 := by
  apply limbs_length_le
  have a1 := Nat.lt_of_lt_of_le (val_lt hx) (Nat.pow_le_pow_right (by decide) (show xs.length ≤ L + M by omega))
  have a2 := Nat.lt_of_lt_of_le (val_lt hy) (Nat.pow_le_pow_right (by decide) (show ys.length ≤ L + M by omega))
  rw [Nat.pow_succ]
  generalize B32 ^ (L + M) = P at *
  have : P * 2 ≤ P * B32 := Nat.mul_le_mul_left _ (by decide)
  omega
theorem len_prod {xs ys : List Nat} (hx : Okl xs) (hy : Okl ys) {L M : Nat} (h1 : xs.length ≤ L) (h2 : ys.length ≤ M) : (limbs (val xs * val ys)).length ≤ L + M := by
  apply limbs_length_le
  have a1 := Nat.lt_of_lt_of_le (val_lt hx) (Nat.pow_le_pow_right (by decide) h1)
  have a2 := Nat.lt_of_lt_of_le (val_lt hy) (Nat.pow_le_pow_right (by decide) h2)
  rw [Nat.pow_add]
  exact Nat.mul_lt_mul'' a1 a2
theorem len_leq {xs : List Nat} (hx : Okl xs) {N L : Nat} (h : N ≤ val xs) (h1 : xs.length ≤ L) : (limbs N).length ≤ L :=
  Nat.le_trans (limbs_len_mono h) (Nat.le_trans (limbs_len_le hx) h1)

section
variable {w0 w : World} {l : List Ent} {v1 v2 : Value} {L1 L2 N1 N2 : Nat} {xs ys : List Nat}

theorem mul_c (h : Ctx w0 w l) (i j : Nat) (hi : l[i]? = some ⟨v1, L1, N1, xs⟩) (hj : l[j]? = some ⟨v2, L2, N2, ys⟩) (h1 : L1 ≤ 100000000) (h2 : L2 ≤ 100000000) :
    Calls Tryz.prog 28 #[v1, v2] w fun e w' => ∃ v, e = .returned v ∧ Ctx w0 w' (⟨v, L1 + L2, N1 * N2, limbs (N1 * N2)⟩ :: l) := by
  obtain ⟨ad, cap, rfl, a2, a3, a4, a5, rfl⟩ := h.get i hi
  obtain ⟨ad', cap', rfl, b2, b3, b4, b5, rfl⟩ := h.get j hj
  refine (mul_any ad _ cap xs ad' _ cap' ys w rfl a2 (Nat.le_trans a3 h1) a4 a5 rfl b2 (Nat.le_trans b3 h2) b4 b5).mono ?_
  rintro e w' ⟨v, rfl, ho, hb⟩
  exact ⟨v, rfl, (h.step hb).push (ent_own ho (len_prod a4 b4 a3 b3))⟩

theorem rmN_le (a b : Nat) : rmN a b ≤ a := by unfold rmN; split <;> first | exact Nat.zero_le _ | exact Nat.mod_le _ _
theorem norm_c (h : Ctx w0 w l) (i : Nat) (hi : l[i]? = some ⟨v1, L1, N1, xs⟩) (h1 : L1 ≤ 100000000) :
    Calls Tryz.prog 51 #[v1] w fun e w' => ∃ v, e = .returned v ∧ Ctx w0 w' (⟨v, L1, N1, limbs N1⟩ :: l) := by
  obtain ⟨ad, cap, rfl, a2, a3, a4, a5, rfl⟩ := h.get i hi
  refine (norm_any ad _ cap xs w rfl a2 (by omega) a4 a5).mono ?_
  rintro e w' ⟨v, rfl, ho, hb⟩
  exact ⟨v, rfl, (h.step hb).push (ent_own ho (len_leq a4 (Nat.le_refl _) a3))⟩

theorem bits_c (h : Ctx w0 w l) (i : Nat) (hi : l[i]? = some ⟨v1, L1, N1, xs⟩) (h1 : L1 ≤ 100000000) :
    Calls Tryz.prog 30 #[v1] w fun e w' => e = .returned (.int .i64 (bitsN N1 : Int)) ∧ w' = w := by
  obtain ⟨ad, cap, rfl, a2, a3, a4, a5, rfl⟩ := h.get i hi
  refine (bits_any ad _ cap xs w rfl a2 (by omega) a4 a5).mono ?_
  rintro e w' ⟨rfl, rfl⟩
  exact ⟨rfl, rfl⟩

theorem digits_c (h : Ctx w0 w l) (i : Nat) (hi : l[i]? = some ⟨v1, L1, N1, xs⟩) (h1 : L1 ≤ 10000000) :
    Calls Tryz.prog 44 #[v1] w fun e w' => e = .returned (.string (txt (dec N1))) ∧ Ctx w0 w' l := by
  obtain ⟨ad, cap, rfl, a2, a3, a4, a5, rfl⟩ := h.get i hi
  refine (digits_any ad _ cap xs w rfl a2 (by omega) a4 a5).mono ?_
  rintro e w' ⟨rfl, hb⟩
  exact ⟨rfl, h.step hb⟩

theorem trim_c (h : Ctx w0 w l) (i : Nat) (hi : l[i]? = some ⟨v1, L1, N1, xs⟩) (h1 : L1 ≤ 10000000) :
    Calls Tryz.prog 25 #[v1] w fun e w' => ∃ v m k, e = .returned (.tuple #[v, .int .i64 ((k : Nat) : Int)]) ∧ N1 = m * tenN k ∧ (N1 = 0 → k = 0) ∧ (N1 ≠ 0 → m % 10 ≠ 0) ∧ k ≤ 400000000 ∧ Ctx w0 w' (⟨v, L1, m, limbs m⟩ :: l) := by
  obtain ⟨ad, cap, rfl, a2, a3, a4, a5, rfl⟩ := h.get i hi
  refine (trim_any ad _ cap xs w rfl a2 (by omega) a4 a5).mono ?_
  rintro e w' ⟨v, m, k, rfl, ho, hb, q1, q2, q3, q4⟩
  refine ⟨v, m, k, rfl, q1, q2, q3, q4, (h.step hb).push (ent_own ho (len_leq a4 ?_ a3))⟩
  rw [q1]
  exact Nat.le_mul_of_pos_right _ (Nat.pow_pos (by decide))

theorem pow_c (h : Ctx w0 w l) {b : Nat} (hb : b < B32) (n : Int) (k : Nat) (hk : cutP n = k) :
    Calls Tryz.prog 29 #[.int .u32 (b : Int), .int .i64 n] w fun e w' => ∃ v, e = .returned v ∧ Ctx w0 w' (⟨v, k + 1, b ^ k, limbs (b ^ k)⟩ :: l) := by
  refine (pow_any b n w hb).mono ?_
  rw [hk]
  rintro e w' ⟨v, rfl, ho, hb'⟩
  exact ⟨v, rfl, (h.step hb').push (ent_own ho (limbs_length_le (pow_bound hb k)))⟩

end

end Go.Proofs.YtogapgjilbcbfaaGreatDoor
