/- Lemmas for the laws: tens, a new block of limbs, an answer. A context of naturals: what a law's walk keeps of its lists, from call to call. -/
import Derived.Test.YtndjdmgncjiggaaQa
import Derived.Laws.OwnMore
import Derived.Lib.Bytealg
import Derived.Lib.ItoaNum
import Derived.Lib.Repeat
import Derived.Deep.RegionHeld3
import Derived.Deep.DeepCutAuto
import Derived.Test.YtndjdmgncjiggaaShelf
import Derived.Lib.QuietBelow
namespace Go.Proofs.Ytndjdmgncjiggaa
open Go.RowKit
set_option linter.unusedVariables false
set_option linter.unusedSimpArgs false

theorem ten_unique {m m' k k' : Nat} (h : m * tenN k = m' * tenN k') (hm : m % 10 ≠ 0) (hm' : m' % 10 ≠ 0) : m = m' ∧ k = k' := by
  have key : ∀ {a b x y : Nat}, a * tenN x = b * tenN y → a % 10 ≠ 0 → x < y → False := by
    intro a b x y h1 h2 h3
    obtain ⟨d, rfl⟩ : ∃ d, y = x + (d + 1) := ⟨y - x - 1, by omega⟩
    rw [tenN_add, tenN_succ] at h1
    have h4 : a = b * tenN d * 10 := by
      have h5 : a * tenN x = (b * tenN d * 10) * tenN x := by rw [h1]; grind
      exact Nat.eq_of_mul_eq_mul_right (tenN_pos x) h5
    rw [h4] at h2
    exact h2 (Nat.mul_mod_left _ _)
  rcases Nat.lt_trichotomy k k' with h1 | h1 | h1
  · exact (key h hm h1).elim
  · subst h1; exact ⟨Nat.eq_of_mul_eq_mul_right (tenN_pos k) h, rfl⟩
  · exact (key h.symm hm' h1).elim

theorem limbs_12 : limbs 12 = [12] := by rw [limbs_pos (by decide)]; rw [show 12 / B32 = 0 by decide, limbs_zero]; rfl
theorem dec_base : txt (dec 4294967296) = ⟨#[52, 50, 57, 52, 57, 54, 55, 50, 57, 54]⟩ := by
  have : dec 4294967296 = [52, 50, 57, 52, 57, 54, 55, 50, 57, 54] := by
    unfold dec
    rw [if_neg (by decide)]
    repeat rw [decl_pos (by decide)]
    rw [show 4294967296 / 10 / 10 / 10 / 10 / 10 / 10 / 10 / 10 / 10 / 10 = 0 by decide, decl_zero]
    decide
  rw [this]; rfl

/-- A new block of limbs. -/
theorem alloc_blk (w : World) (xs : List Nat) : Blk (w.alloc (.cells (xs.map lv).toArray 59)) w.heap.size xs [] := by
  unfold Blk; rw [List.append_nil]; exact heap_alloc_new w _

theorem retb {a b : Bool} (h : a = b) : Ending.returned (.bool a) = .returned (.bool b) := by rw [h]
end Go.Proofs.Ytndjdmgncjiggaa
namespace Go.Proofs.Ytndjdmgncjiggaa
open Go.RowKit
set_option linter.unusedVariables false
set_option linter.unusedSimpArgs false

theorem bitsN_ne {N : Nat} (h : N ≠ 0) : bitsN N ≠ 0 := by
  have hl : (limbs N).length ≠ 0 := fun h0 => h ((limbs_nil_iff N).1 (List.eq_nil_of_length_eq_zero h0))
  obtain ⟨t, ht⟩ : ∃ t, (limbs N).length = t + 1 := ⟨(limbs N).length - 1, by omega⟩
  have hx := (limbs_ok N).getD t
  rw [bitsN_top ht]
  have h1 := limbs_top ht
  rw [B32_eq] at hx
  have := (bitLen_bounds _ _ (Nat.le_refl _) (by omega) h1).1
  unfold blen; omega
theorem bitsN_z : bitsN 0 = 0 := bitsN_zero limbs_zero

/-- A contract's world, told on: from a later world back to the first. -/
theorem below_on {w w1 w2 : World} (h : Below w.heap.size w w1) (h2 : Below w1.heap.size w1 w2) : Below w.heap.size w w2 := h.trans (h2.mono h.size)


/-- A list in the world: its value, a bound of its length, its natural, its limbs. -/
structure Ent where
  v : Value
  len : Nat
  nat : Nat
  xs : List Nat

def ListOk (w : World) (v : Value) (L N : Nat) (xs : List Nat) : Prop := ∃ ad cap, v = .slice ad xs.length cap ∧ xs.length ≤ cap ∧ xs.length ≤ L ∧ Okl xs ∧ Rd w ad xs ∧ val xs = N
def Ent.Ok (w : World) (x : Ent) : Prop := ListOk w x.v x.len x.nat x.xs

structure Ctx (w0 w : World) (l : List Ent) : Prop where
  below : Below w0.heap.size w0 w
  all : ∀ x ∈ l, x.Ok w

theorem Ctx.step {w0 w w' : World} {l : List Ent} (h : Ctx w0 w l) (hb : Below w.heap.size w w') : Ctx w0 w' l :=
  ⟨below_on h.below hb, fun x hx => by
    obtain ⟨ad, cap, h1, h2, h3, h4, h5, h6⟩ := h.all x hx
    exact ⟨ad, cap, h1, h2, h3, h4, h5.below hb, h6⟩⟩
theorem Ctx.drewN {w0 w : World} {l : List Ent} (h : Ctx w0 w l) (q : Nat) : Ctx w0 (w.drewN q) l := h.step (below_drewN' (Below.refl _ _) q)
theorem Ctx.push {w0 w : World} {l : List Ent} (h : Ctx w0 w l) {x : Ent} (hx : x.Ok w) : Ctx w0 w (x :: l) :=
  ⟨h.below, fun y hy => by rcases List.mem_cons.1 hy with rfl | h1 <;> first | exact hx | exact h.all y h1⟩
theorem Ctx.get {w0 w : World} {l : List Ent} (h : Ctx w0 w l) (i : Nat) {v : Value} {L N : Nat} {xs : List Nat} (hi : l[i]? = some ⟨v, L, N, xs⟩) : ListOk w v L N xs := h.all _ (List.mem_of_getElem? hi)
theorem Ctx.begin (w : World) : Ctx w w [] := ⟨Below.refl _ _, fun x hx => by cases hx⟩

theorem ent_arg {w : World} {ad : Option Addr} {n cap : Nat} {xs : List Nat} (hn : xs.length = n) (hcap : n ≤ cap) (ho : Okl xs) (hr : Rd w ad xs) {L N : Nat} (hL : n ≤ L) (hN : val xs = N) : Ent.Ok w ⟨.slice ad n cap, L, N, xs⟩ := by
  subst hn
  exact ⟨ad, cap, rfl, hcap, hL, ho, hr, hN⟩
theorem ent_own {B : Nat} {w : World} {v : Value} {N L : Nat} (h : Own B w v (limbs N)) (hL : (limbs N).length ≤ L) : Ent.Ok w ⟨v, L, N, limbs N⟩ := by
  obtain ⟨ad, cap, rfl, h1, h2, _⟩ := h.view
  exact ⟨ad, cap, rfl, h1, hL, limbs_ok _, h2, val_limbs _⟩
theorem ent_lit (w : World) {x : Nat} (hx : x < B32) : Ent.Ok (w.alloc (.cells #[.int .u32 (x : Int)] 59)) ⟨.slice (some ⟨w.heap.size, 0, none⟩) 1 1, 1, x, [x]⟩ :=
  ⟨_, 1, rfl, Nat.le_refl _, Nat.le_refl _, Okl.cons hx Okl.nil, (alloc_blk w [x]).rd_all, by simp [val]⟩
theorem Ctx.lit {w0 w : World} {l : List Ent} (h : Ctx w0 w l) {x : Nat} (hx : x < B32) :
    Ctx w0 (w.alloc (.cells #[.int .u32 (x : Int)] 59)) (⟨.slice (some ⟨w.heap.size, 0, none⟩) 1 1, 1, x, [x]⟩ :: l) :=
  (h.step ((Below.refl _ _).alloc (Nat.le_refl _) _)).push (ent_lit w hx)

theorem limbs_len_of {N n : Nat} (h : N < B32 ^ n) : (limbs N).length ≤ n := limbs_length_le h
theorem len_sum {xs ys : List Nat} (hx : Okl xs) (hy : Okl ys) {L M : Nat} (h1 : xs.length ≤ L) (h2 : ys.length ≤ M) : (limbs (val xs + val ys)).length ≤ L + M + 1 := by
  apply limbs_length_le
  have a1 := Nat.lt_of_lt_of_le (val_lt hx) (Nat.pow_le_pow_right (by decide) (show xs.length ≤ L + M by omega))
  have a2 := Nat.lt_of_lt_of_le (val_lt hy) (Nat.pow_le_pow_right (by decide) (show ys.length ≤ L + M by omega))
  rw [Nat.pow_succ]
  generalize B32 ^ (L + M) = P at *
  have : P * 2 ≤ P * B32 := Nat.mul_le_mul_left _ (by decide)
  omega
theorem len_prod {xs ys : List Nat} (hx : Okl xs) (hy : Okl ys) {L M : Nat} (h1 : xs.length ≤ L) (h2 : ys.length ≤ M) : (limbs (val xs * val ys)).length ≤ L + M := by
  apply limbs_length_le
  have a1 := Nat.lt_of_lt_of_le (val_lt hx) (Nat.pow_le_pow_right (by decide) h1)
  have a2 := Nat.lt_of_lt_of_le (val_lt hy) (Nat.pow_le_pow_right (by decide) h2)
  rw [Nat.pow_add]
  exact Nat.mul_lt_mul'' a1 a2
theorem len_leq {xs : List Nat} (hx : Okl xs) {N L : Nat} (h : N ≤ val xs) (h1 : xs.length ≤ L) : (limbs N).length ≤ L :=
  Nat.le_trans (limbs_len_mono h) (Nat.le_trans (limbs_len_le hx) h1)

section
variable {w0 w : World} {l : List Ent} {v1 v2 : Value} {L1 L2 N1 N2 : Nat} {xs ys : List Nat}

theorem rmN_le (a b : Nat) : rmN a b ≤ a := by unfold rmN; split <;> first | exact Nat.zero_le _ | exact Nat.mod_le _ _
end

end Go.Proofs.Ytndjdmgncjiggaa
/- append of a list of limbs to an own one, as a law of the walk. SameLimbs at two lists that are the same. More of the context: SameLimbs, Parse; lemmas on bits, digits, noughts. -/
namespace Go.Proofs.Ytndjdmgncjiggaa
open Go.RowKit
set_option linter.unusedVariables false
set_option linter.unusedSimpArgs false

theorem run_append_none {P : Program} {w : World} (base : Nat) (t ty e : TypeId) (i : TypeInfo) (size : Nat) (ht : P.underlying t = some (.slice e)) (hi : P.info? e = some i)
    (v : Value) (n c : Nat) (xs : List Value) (hown : w.ownsRow base e size v n xs) :
    (Builtin.append_ #[t, t] ty #[v, .slice none 0 c]).run P w = .ok v w := by
  rcases hown.2 with ⟨rfl, rfl⟩ | ⟨g, cap, cur, rfl, _, _, hnc, _⟩
  · simp [Builtin.append_, run_underlying ht, sizeOf, typeInfo, hi, Builtin.lenOf, Builtin.firstCells]
  · simp [Builtin.append_, run_underlying ht, sizeOf, typeInfo, hi, Builtin.lenOf, Builtin.firstCells, hnc, storeCells]

theorem wpl_append_none {P : Program} {w : World} {ops : Array Oper} {rest : List Oper} {o : Oper} {a : Act} {Q : Exit → Act → World → Prop} (hgd : o.guard = none) (s x : Operand) (t : TypeId)
    (ho : o.op = .call { callee := .builtin .append, args := #[s, x], argTypes := #[t, t] })
    (base : Nat) (e : TypeId) (i : TypeInfo) (size : Nat) (ht : P.underlying t = some (.slice e)) (hi : P.info? e = some i)
    (v : Value) (n c : Nat) (xs : List Value) (hs : a.eval s = v) (hown : w.ownsRow base e size v n xs) (hx : a.eval x = .slice none 0 c)
    (h : wpList P ops Q rest (a.put o.dst v) w) : wpList P ops Q (o :: rest) a w := by
  refine wpList_plain hgd fun K hK => ?_
  have hrun := run_append_none (P := P) (w := w) base t o.type e i size ht hi v n c xs hown
  unfold Oper.wp
  simp [execOp, ho, resolve, invoke, builtin, hs, hx, hrun, Result.andThen]
  exact hK _ _ h

theorem wpl_append_rd {w : World} {ops : Array Oper} {rest : List Oper} {o : Oper} {a : Act} {Q : Exit → Act → World → Prop} (hgd : o.guard = none) (s x : Operand)
    (ho : o.op = .call { callee := .builtin .append, args := #[s, x], argTypes := #[27, 27] }) (B : Nat) (v : Value) (xs : List Nat) (hs : a.eval s = v) (hown : Own B w v xs)
    (ad : Option Addr) (m c : Nat) (ys : List Nat) (hx : a.eval x = .slice ad m c) (hy : Okl ys) (hyl : ys.length = m) (hr : Rd w ad ys) (hl : xs.length + m ≤ 1000000000) (hB : B ≤ w.heap.size)
    (h : ∀ v' w', Own B w' v' (xs ++ ys) → Below B w w' → wpList Try.prog ops Q rest (a.put o.dst v') w') : wpList Try.prog ops Q (o :: rest) a w := by
  obtain ⟨i0, hi, hz0, hz1, hz2⟩ := info_parts info_u32
  cases ad with
  | none =>
    have hm : m = 0 := by
      rcases Nat.eq_zero_or_pos m with h0 | h0
      · exact h0
      · obtain ⟨b, o', e, _⟩ := hr 0 (by omega)
        cases e
    subst hm
    obtain rfl : ys = [] := List.eq_nil_of_length_eq_zero hyl
    refine wpl_append_none hgd s x 27 ho B 59 i0 1 Try.underlying27 hi v xs.length c (xs.map lv) hs hown.row hx ?_
    exact h v w (by rw [List.append_nil]; exact hown) (Below.refl _ _)
  | some ad =>
    refine wpList_append_own w hgd s x 27 ho B 59 i0 (.int .u32 0) 1 4 Try.underlying27 hi hz0 hz1 hz2 rfl (by decide) v xs.length (xs.map lv) hs hown.row ad m c (ys.map lv) hx (by simp [hyl]) ?_ ?_ (by unfold maxLen; omega) (by omega) hB ?_
    · intro j u hj
      have hjl : j < ys.length := by
        rcases Nat.lt_or_ge j ys.length with h1 | h1
        · exact h1
        · rw [List.getElem?_eq_none (by simpa using h1)] at hj; cases hj
      obtain ⟨b, o', e, hlt, hc⟩ := hr j hjl
      cases e
      have e2 : (Addr.add ⟨b, o', none⟩ j) = ⟨b, o' + j, none⟩ := by unfold Addr.add; split <;> simp_all
      rw [e2, hc]
      rw [List.getElem?_map, List.getElem?_eq_getElem hjl] at hj
      simp only [Option.map_some, Option.some.injEq] at hj
      rw [← hj]; simp [lv, List.getD, hjl]
    · intro u hu
      obtain ⟨y, _, rfl⟩ := List.mem_map.1 hu
      rfl
    · intro v' w' hown' hgr _
      refine h v' w' ?_ ((Below.refl _ _).grown hgr hB hown.blockGe)
      have e : xs.map lv ++ ys.map lv = (xs ++ ys).map lv := by simp
      rw [e] at hown'
      have hl2 : xs.length + m = (xs ++ ys).length := by simp [hyl]
      exact own_of_row hown' (hown.1.append hy)

theorem limbs_any (ad : Option Addr) (n cap : Nat) (xs : List Nat) (w : World) (hn : xs.length = n) (hm : n ≤ 100000000) (ho : Okl xs) (hr : Rd w ad xs) :
    Calls Try.prog 36 #[.slice ad n cap] w fun e w' => ∃ v, e = .returned v ∧ Own w.heap.size w' v xs ∧ Below w.heap.size w w' := by
  go_enter Try.func36, Try.ntmps36
  go_wp2_with (at_builtin; refine wpl_append_rd rfl _ _ rfl w.heap.size _ [] rfl (Own.nil _ _) _ _ _ xs rfl ho hn hr (by simp; omega) (Nat.le_refl _) ?_; intro v' w' hv hb)
  go_ret
  exact ⟨_, rfl, by simpa using hv, hb⟩
end Go.Proofs.Ytndjdmgncjiggaa
namespace Go.Proofs.Ytndjdmgncjiggaa
open Go.RowKit
set_option linter.unusedVariables false
set_option linter.unusedSimpArgs false

def SameRel (n : Nat) (w : World) (i : Value) (wr : World) : Prop := ∃ (k q : Nat), k ≤ n ∧ i = .int .i64 (k : Int) ∧ wr = w.drewN q

set_option maxHeartbeats 2000000 in
theorem same_any (ad : Option Addr) (n cap : Nat) (xs : List Nat) (ad' : Option Addr) (cap' : Nat) (w : World) (hn : xs.length = n) (hcap : n ≤ cap) (hcap' : n ≤ cap') (hm : n ≤ 1000000000) (hr : Rd w ad xs) (hr' : Rd w ad' xs) :
    Calls Try.prog 35 #[.slice ad n cap, .slice ad' n cap'] w fun e w' => e = .returned (.bool true) ∧ ∃ q, w' = w.drewN q := by
  have HN := Lib.hid hn; clear hn
  go_enter Try.func35, Try.ntmps35
  go_wp2_with fail
  go_loopw [5] (fun i wr => SameRel n w i wr) (fun i _ => n - (intOf i).toNat)
  case atStart => exact ⟨0, 0, Nat.zero_le _, rfl, rfl⟩
  case round =>
    obtain ⟨k, q, hk, rfl, rfl⟩ := hrel
    by_cases hkn : k < n
    · obtain ⟨g1, o1, rfl, _, hc1⟩ := hr k (by rw [HN.out]; exact hkn)
      obtain ⟨g2, o2, rfl, _, hc2⟩ := hr' k (by rw [HN.out]; exact hkn)
      generalize xs.getD k 0 = x at *
      have hkn' : (k : Int) < (n : Int) := by omega
      go_wp2
      go_quiet (fail)
      go_wp2
      go_roundw
      case rel => exact ⟨k + 1, _, hkn, by go_num, rfl⟩
      case measure => simp [intOf]; omega
    · have hkn' : ¬ ((k : Int) < (n : Int)) := by omega
      go_wp2
      go_ret
      exact ⟨rfl, q, rfl⟩
end Go.Proofs.Ytndjdmgncjiggaa
namespace Go.Proofs.Ytndjdmgncjiggaa
open Go.RowKit
set_option linter.unusedVariables false
set_option linter.unusedSimpArgs false

theorem cutP_neg : cutP (-1) = 0 := by decide
theorem ints_eq0 (w : World) : ((0 : Int) == 0) = true := rfl


theorem val_zeros (k : Nat) : val (List.replicate k 0) = 0 := by
  induction k with
  | zero => rfl
  | succ k ih => rw [List.replicate_succ]; simp [val, ih]
theorem val_behind (xs : List Nat) (k : Nat) : val (xs ++ List.replicate k 0) = val xs := by rw [val_append, val_zeros]; simp
theorem cmpN_swap (a b : Nat) : cmpN b a = - cmpN a b := by
  rcases Nat.lt_trichotomy a b with h | h | h
  · rw [cmpN_gt h, cmpN_lt h]; rfl
  · subst h; rw [cmpN_eq]; rfl
  · rw [cmpN_lt h, cmpN_gt h]
theorem cmpN_plus (a b c : Nat) : cmpN (a + c) (c + b) = cmpN a b := by
  rcases Nat.lt_trichotomy a b with h | h | h
  · rw [cmpN_lt h, cmpN_lt (by omega)]
  · subst h; rw [Nat.add_comm c a, cmpN_eq, cmpN_eq]
  · rw [cmpN_gt h, cmpN_gt (by omega)]
theorem cmpN_bd (a b : Nat) : -1 ≤ cmpN a b ∧ cmpN a b ≤ 1 := by unfold cmpN; split <;> (try split) <;> omega
theorem cmpN_pos {a b : Nat} : (0 < cmpN a b) ↔ b < a := by unfold cmpN; split <;> (try split) <;> omega

section
variable {w0 w : World} {l : List Ent} {v1 v2 : Value} {L1 L2 N1 N2 : Nat} {xs ys : List Nat}
theorem same_c (h : Ctx w0 w l) (i j : Nat) (hi : l[i]? = some ⟨v1, L1, N1, xs⟩) (hj : l[j]? = some ⟨v2, L2, N2, xs⟩) (h1 : L1 ≤ 100000000) :
    Calls Try.prog 35 #[v1, v2] w fun e w' => e = .returned (.bool true) ∧ Ctx w0 w' l := by
  obtain ⟨ad, cap, rfl, a2, a3, a4, a5, a6⟩ := h.get i hi
  obtain ⟨ad', cap', rfl, b2, b3, b4, b5, b6⟩ := h.get j hj
  refine (same_any ad _ cap xs ad' cap' w rfl a2 b2 (by omega) a5 b5).mono ?_
  rintro e w' ⟨rfl, q, rfl⟩
  exact ⟨rfl, h.drewN q⟩
end

theorem ent_any {B : Nat} {w : World} {v : Value} {xs : List Nat} {N L : Nat} (h : Own B w v xs) (hL : xs.length ≤ L) (hN : val xs = N) : Ent.Ok w ⟨v, L, N, xs⟩ := by
  have ho := h.1
  obtain ⟨ad, cap, rfl, h1, h2, _⟩ := h.view
  exact ⟨ad, cap, rfl, h1, hL, ho, h2, hN⟩


theorem bitsN_bounds {N : Nat} (h : N ≠ 0) : ∃ t, bitsN N = t + 1 ∧ 2 ^ t ≤ N ∧ N < 2 ^ (t + 1) := by
  have hl : (limbs N).length ≠ 0 := fun h0 => h ((limbs_nil_iff N).1 (List.eq_nil_of_length_eq_zero h0))
  obtain ⟨t, ht⟩ : ∃ t, (limbs N).length = t + 1 := ⟨(limbs N).length - 1, by omega⟩
  have hx := (limbs_ok N).getD t
  rw [bitsN_top ht]
  have h1 := limbs_top ht
  have hv := val_limbs N
  have hs : val (limbs N) = val ((limbs N).take t) + B32 ^ t * (limbs N).getD t 0 := by
    have := val_take_succ (limbs N) t (by omega)
    rw [← ht, List.take_length] at this
    exact this
  have hlow := val_lt ((limbs_ok N).take t)
  rw [List.length_take, Nat.min_eq_left (by omega)] at hlow
  rw [hv] at hs
  generalize (limbs N).getD t 0 = d at *
  generalize val ((limbs N).take t) = lo at *
  rw [B32_eq] at hx
  have hb := bitLen_bounds d d (Nat.le_refl _) (by omega) h1
  have e1 : B32 ^ t = 2 ^ (32 * t) := by rw [Nat.pow_mul]; rfl
  rw [e1] at hlow hs
  unfold blen
  generalize Lib.bitLen d = c at *
  obtain ⟨c', rfl⟩ : ∃ c', c = c' + 1 := ⟨c - 1, by omega⟩
  rw [Nat.add_sub_cancel] at hb
  refine ⟨32 * t + c', by omega, ?_, ?_⟩
  · rw [Nat.pow_add, hs]
    have := Nat.mul_le_mul_left (2 ^ (32 * t)) hb.2.1
    exact Nat.le_trans this (Nat.le_add_left _ _)
  · rw [show 32 * t + c' + 1 = 32 * t + (c' + 1) by omega, Nat.pow_add, hs]
    have := Nat.mul_le_mul_left (2 ^ (32 * t)) (show d + 1 ≤ 2 ^ (c' + 1) from hb.2.2)
    rw [Nat.mul_add, Nat.mul_one] at this
    exact Nat.lt_of_lt_of_le (Nat.add_lt_add_right hlow _) (by rw [Nat.add_comm]; exact this)

theorem two_between {t a : Nat} (h1 : 2 ^ t ≤ 2 ^ a) (h2 : 2 ^ a < 2 ^ (t + 1)) : t = a := by
  have h3 := (Nat.pow_le_pow_iff_right (show 1 < 2 by decide)).1 h1
  have h4 := (Nat.pow_lt_pow_iff_right (show 1 < 2 by decide)).1 h2
  omega
theorem two_ne (a : Nat) : 2 ^ a ≠ 0 := Nat.pos_iff_ne_zero.1 (Nat.pow_pos (by decide))
theorem bits_two (a : Nat) : bitsN (2 ^ a) = a + 1 := by
  obtain ⟨t, h, h1, h2⟩ := bitsN_bounds (two_ne a)
  rw [h, two_between h1 h2]
theorem bits_two_less (a : Nat) : bitsN (2 ^ a - 1) = a := by
  cases a with
  | zero => exact bitsN_z
  | succ a =>
    have e : 2 ^ (a + 1) = 2 * 2 ^ a := by rw [Nat.pow_succ, Nat.mul_comm]
    have hp : 1 ≤ 2 ^ a := Nat.pow_pos (by decide)
    obtain ⟨t, h, h1, h2⟩ := bitsN_bounds (N := 2 ^ (a + 1) - 1) (by omega)
    have h3 : 2 ^ t ≤ 2 ^ (a + 1) := by omega
    have h4 := (Nat.pow_le_pow_iff_right (show 1 < 2 by decide)).1 h3
    have h5 : 2 ^ a < 2 ^ (t + 1) := by omega
    have h6 := (Nat.pow_lt_pow_iff_right (show 1 < 2 by decide)).1 h5
    have h7 : t ≠ a + 1 := by rintro rfl; omega
    omega
theorem two_div {a b : Nat} (h : b ≤ a) : 2 ^ a / 2 ^ b = 2 ^ (a - b) := Nat.pow_div h (by decide)
theorem two_mod {a b : Nat} (h : b ≤ a) : rmN (2 ^ a) (2 ^ b) = 0 := by
  rw [rmN, if_neg (two_ne b)]
  exact Nat.mod_eq_zero_of_dvd (Nat.pow_dvd_pow 2 h)
theorem two_lt {a b : Nat} (h : a < b) : 2 ^ a < 2 ^ b := Nat.pow_lt_pow_right (by decide) h


theorem nums_txt {l : List Nat} (h : Okd l) : nums (txt l) = l := by
  unfold nums txt
  simp only [List.map_map]
  apply List.ext_getElem
  · simp
  · intro i h1 h2
    have hx := h l[i] (List.getElem_mem h2)
    simp only [List.getElem_map, Function.comp_apply, UInt8.toNat_ofNat']
    omega
theorem txt_append (l m : List Nat) : txt l ++ txt m = txt (l ++ m) := by
  apply ByteArray.ext
  simp [txt, ByteArray.data_append]
theorem zeros_ok (k : Nat) : Okd (List.replicate k 48) := by
  intro x hx; rw [List.mem_replicate] at hx; omega
theorem Okd.append {l m : List Nat} (h : Okd l) (k : Okd m) : Okd (l ++ m) := by
  intro y hy; rcases List.mem_append.1 hy with hy | hy
  · exact h y hy
  · exact k y hy
theorem hval_zeros (k : Nat) : hval (List.replicate k 48) = 0 := by
  induction k with
  | zero => rfl
  | succ k ih => rw [List.replicate_succ', hval_snoc, ih]
theorem hval_dec (N : Nat) : hval (dec N) = N := dval_dec N
theorem hval_ahead (N k : Nat) : hval (List.replicate k 48 ++ dec N) = N := by rw [hval_append, hval_zeros, hval_dec]; simp
theorem hval_behind (N k : Nat) : hval (dec N ++ List.replicate k 48) = N * tenN k := by rw [hval_append, hval_zeros, hval_dec, List.length_replicate]; rfl
theorem ten_le (n : Nat) : tenN n ≤ B32 ^ n := Nat.pow_le_pow_left (by decide) n
theorem dec_len25 {N : Nat} (h : N < B32 ^ 25) : (dec N).length ≤ 250 := by
  refine dec_len_le (by omega) (Nat.lt_of_lt_of_le h ?_)
  have e : tenN 250 = (10 ^ 10) ^ 25 := by unfold tenN; rw [← Nat.pow_mul]
  rw [e]
  exact Nat.pow_le_pow_left (by decide) 25

theorem tenN_ne (n : Nat) : tenN n ≠ 0 := Nat.pos_iff_ne_zero.1 (Nat.pow_pos (by decide))

def ZerosRel (k : Nat) (w : World) (z i : Value) (wr : World) : Prop := ∃ j : Nat, j ≤ k ∧ i = .int .i64 (j : Int) ∧ z = .string (txt (List.replicate j 48)) ∧ ∃ q, wr = w.drewN q

end Go.Proofs.Ytndjdmgncjiggaa
/- Exact decimals: their order, as plain numbers; no program. Texts of decimals, as plain lists of bytes; no program. The text of a number read: plain lists of bytes; no program. The text of a number is read as it: plain lists; no program. -/
namespace Go.Proofs.Ytndjdmgncjiggaa
open Go.RowKit
set_option linter.unusedVariables false
set_option linter.unusedSimpArgs false

/-- The order of two whole numbers. -/
def cmpZ (a b : Int) : Int := if a < b then -1 else if a = b then 0 else 1
theorem cmpZ_lt {a b : Int} (h : a < b) : cmpZ a b = -1 := by unfold cmpZ; rw [if_pos h]
theorem cmpZ_gt {a b : Int} (h : b < a) : cmpZ a b = 1 := by unfold cmpZ; rw [if_neg (by omega), if_neg (by omega)]
theorem cmpZ_eq (a : Int) : cmpZ a a = 0 := by unfold cmpZ; rw [if_neg (by omega), if_pos rfl]
theorem cmpZ_nat (a b : Nat) : cmpZ (a : Int) (b : Int) = cmpN a b := by unfold cmpZ cmpN; simp only [Int.ofNat_lt, Int.natCast_inj]
theorem cmpZ_neg (a b : Int) : cmpZ (-a) (-b) = - cmpZ a b := by unfold cmpZ; repeat' split
                                                                 all_goals omega
theorem cmpZ_swap (a b : Int) : cmpZ b a = - cmpZ a b := by unfold cmpZ; repeat' split
                                                            all_goals omega

/-- What a number is, 1200 tens more. -/
def sizeN (N : Nat) (e : Int) : Nat := N * tenN (e + 1200).toNat
def valZ (neg : Bool) (N : Nat) (e : Int) : Int := if neg then - (sizeN N e : Int) else (sizeN N e : Int)

/-- May a number be? By its sign, its limbs and its tens. -/
def chkB (neg : Bool) (xs : List Nat) (e : Int) : Bool :=
  if xs.length = 0 then !neg && decide (e = 0) else decide (xs.length ≤ 90 ∧ xs.getD (xs.length - 1) 0 ≠ 0 ∧ -1200 ≤ e ∧ e ≤ 1200 ∧ val xs % 10 ≠ 0)
theorem chkB_nil {neg : Bool} {e : Int} : chkB neg [] e = (!neg && decide (e = 0)) := rfl
theorem chkB_zero {neg : Bool} {e : Int} (h : chkB neg [] e = true) : neg = false ∧ e = 0 := by
  simpa [chkB] using h
theorem chkB_some {neg : Bool} {xs : List Nat} {e : Int} (h0 : xs ≠ []) (h : chkB neg xs e = true) : xs.length ≤ 90 ∧ xs.getD (xs.length - 1) 0 ≠ 0 ∧ -1200 ≤ e ∧ e ≤ 1200 ∧ val xs % 10 ≠ 0 := by
  unfold chkB at h
  rw [if_neg (fun h1 => h0 (List.eq_nil_of_length_eq_zero h1))] at h
  exact of_decide_eq_true h
theorem chkB_bounds {neg : Bool} {xs : List Nat} {e : Int} (h : chkB neg xs e = true) : xs.length ≤ 90 ∧ -1200 ≤ e ∧ e ≤ 1200 := by
  by_cases h0 : xs = []
  · subst h0; obtain ⟨_, rfl⟩ := chkB_zero h; exact ⟨by simp, by omega, by omega⟩
  · obtain ⟨a, _, b, c, _⟩ := chkB_some h0 h; exact ⟨a, b, c⟩
theorem chkB_limbs {neg : Bool} {xs : List Nat} {e : Int} (ho : Okl xs) (h : chkB neg xs e = true) : limbs (val xs) = xs := by
  by_cases h0 : xs = []
  · subst h0; exact limbs_zero
  · refine limbs_val ho fun n hn => ?_
    have := (chkB_some h0 h).2.1
    rw [hn] at this
    exact this
theorem chkB_mk {neg : Bool} {N : Nat} {e : Int} (h0 : N % 10 ≠ 0) (h1 : (limbs N).length ≤ 90) (h2 : -1200 ≤ e) (h3 : e ≤ 1200) : chkB neg (limbs N) e = true := by
  have hne : N ≠ 0 := by intro h; rw [h] at h0; exact h0 rfl
  have hl : (limbs N).length ≠ 0 := fun h => hne ((limbs_nil_iff N).1 (List.eq_nil_of_length_eq_zero h))
  unfold chkB
  rw [if_neg hl]
  refine decide_eq_true ⟨h1, ?_, h2, h3, by rw [val_limbs]; exact h0⟩
  obtain ⟨t, ht⟩ : ∃ t, (limbs N).length = t + 1 := ⟨(limbs N).length - 1, by omega⟩
  rw [ht]
  exact limbs_top ht

/-- Digits in order, filled up with noughts to one length, are in the order of their numbers. -/
theorem hval_cons (x : Nat) (l : List Nat) : hval (x :: l) = (x - 48) * tenN l.length + hval l := by
  have := hval_append [x] l
  rw [hval_one] at this
  exact this
theorem u8_lt {a b : Nat} (ha : 48 ≤ a ∧ a ≤ 57) (hb : 48 ≤ b ∧ b ≤ 57) : (UInt8.ofNat a < UInt8.ofNat b) ↔ a < b := by
  rw [UInt8.lt_iff_toNat_lt]; simp only [UInt8.toNat_ofNat']; omega
theorem cmp_digits : ∀ (x y : List Nat) (n : Nat), Okd x → Okd y → x.length ≤ n → y.length ≤ n → (∀ a, x.getLast? = some a → a ≠ 48) → (∀ a, y.getLast? = some a → a ≠ 48) →
    Lib.compareBytes (x.map UInt8.ofNat) (y.map UInt8.ofNat) = cmpN (hval x * tenN (n - x.length)) (hval y * tenN (n - y.length)) := by
  intro x
  induction x with
  | nil =>
    intro y n hx hy h1 h2 h3 h4
    cases y with
    | nil => simp [Lib.compareBytes, hval_nil, cmpN_eq]
    | cons d y =>
      have hpos : 0 < hval (d :: y) := hval_pos_of_last hy h4 (by simp)
      have hp : 0 < hval (d :: y) * tenN (n - (d :: y).length) := Nat.mul_pos hpos (tenN_pos _)
      rw [hval_nil, Nat.zero_mul, cmpN_lt hp]
      rfl
  | cons c x ih =>
    intro y n hx hy h1 h2 h3 h4
    cases y with
    | nil =>
      have hpos : 0 < hval (c :: x) := hval_pos_of_last hx h3 (by simp)
      have hp : 0 < hval (c :: x) * tenN (n - (c :: x).length) := Nat.mul_pos hpos (tenN_pos _)
      rw [hval_nil, Nat.zero_mul, cmpN_gt hp]
      rfl
    | cons d y =>
      have hc := hx c (by simp)
      have hd := hy d (by simp)
      obtain ⟨m, rfl⟩ : ∃ m, n = m + 1 := ⟨n - 1, by simp at h1; omega⟩
      simp only [List.length_cons] at h1 h2
      have ex : hval (c :: x) * tenN (m + 1 - (c :: x).length) = (c - 48) * tenN m + hval x * tenN (m - x.length) := by
        rw [hval_cons, List.length_cons, show m + 1 - (x.length + 1) = m - x.length by omega, Nat.add_mul, Nat.mul_assoc, ← tenN_add, show x.length + (m - x.length) = m by omega]
      have ey : hval (d :: y) * tenN (m + 1 - (d :: y).length) = (d - 48) * tenN m + hval y * tenN (m - y.length) := by
        rw [hval_cons, List.length_cons, show m + 1 - (y.length + 1) = m - y.length by omega, Nat.add_mul, Nat.mul_assoc, ← tenN_add, show y.length + (m - y.length) = m by omega]
      rw [ex, ey]
      have bx : hval x * tenN (m - x.length) < tenN m := by
        have := Nat.mul_lt_mul_of_pos_right (hval_lt hx.tail) (tenN_pos (m - x.length))
        rwa [← tenN_add, show x.length + (m - x.length) = m by omega] at this
      have by' : hval y * tenN (m - y.length) < tenN m := by
        have := Nat.mul_lt_mul_of_pos_right (hval_lt hy.tail) (tenN_pos (m - y.length))
        rwa [← tenN_add, show y.length + (m - y.length) = m by omega] at this
      have hih := ih y m hx.tail hy.tail (by omega) (by omega) (last_tail h3) (last_tail h4)
      simp only [List.map_cons, Lib.compareBytes]
      rw [hih]
      generalize hval x * tenN (m - x.length) = X at *
      generalize hval y * tenN (m - y.length) = Y at *
      generalize tenN m = T at *
      rcases Nat.lt_trichotomy c d with h | h | h
      · rw [if_pos ((u8_lt hc hd).2 h)]
        have : (c - 48 + 1) * T ≤ (d - 48) * T := Nat.mul_le_mul_right T (by omega)
        rw [Nat.add_mul, Nat.one_mul] at this
        rw [cmpN_lt (by omega)]
      · subst h
        rw [if_neg (fun h => absurd ((u8_lt hc hc).1 h) (by omega)), if_neg (fun h => absurd ((u8_lt hc hc).1 h) (by omega))]
        unfold cmpN
        simp only [Nat.add_lt_add_iff_left, Nat.add_left_cancel_iff]
      · rw [if_neg (fun h' => absurd ((u8_lt hc hd).1 h') (by omega)), if_pos ((u8_lt hd hc).2 h)]
        have : (d - 48 + 1) * T ≤ (c - 48) * T := Nat.mul_le_mul_right T (by omega)
        rw [Nat.add_mul, Nat.one_mul] at this
        rw [cmpN_gt (by omega)]
where
  hval_pos_of_last {l : List Nat} (h : Okd l) (h4 : ∀ a, l.getLast? = some a → a ≠ 48) (hne : l ≠ []) : 0 < hval l := by
    have e := List.dropLast_concat_getLast hne
    have hl := h4 _ (List.getLast?_eq_some_getLast hne)
    have ho := h _ (List.getLast_mem hne)
    rw [← e, hval_snoc]
    omega
  last_tail {c : Nat} {x : List Nat} (h : ∀ a, (c :: x).getLast? = some a → a ≠ 48) : ∀ a, x.getLast? = some a → a ≠ 48 := by
    intro a ha
    refine h a ?_
    cases x with
    | nil => simp at ha
    | cons b x => rw [List.getLast?_cons_cons]; exact ha

theorem dec_last {N : Nat} (h : N % 10 ≠ 0) : ∀ a, (dec N).getLast? = some a → a ≠ 48 := by
  intro a ha
  have hne : N ≠ 0 := by intro h0; rw [h0] at h; exact h rfl
  unfold dec at ha
  rw [if_neg hne, decl_pos hne, List.reverse_cons, List.getLast?_append] at ha
  simp at ha
  omega
/-- So many digits: between two powers of ten. -/
theorem dec_lower {N : Nat} (h : N ≠ 0) : tenN ((dec N).length - 1) ≤ N := by
  rcases Nat.lt_or_ge N (tenN ((dec N).length - 1)) with h1 | h1
  · exfalso
    have hp := dec_pos N
    by_cases h2 : (dec N).length - 1 = 0
    · rw [h2, tenN_zero] at h1; omega
    · have := dec_len_le (by omega) h1; omega
  · exact h1
theorem dec_upper (N : Nat) : N < tenN (dec N).length := by
  have := hval_lt (dec_ok N)
  rwa [hval_dec] at this

/-- The order of two sizes by their digits. -/
def cmpD (N : Nat) (e : Int) (M : Nat) (f : Int) : Int :=
  if ((dec N).length : Int) + e < ((dec M).length : Int) + f then -1 else if ((dec M).length : Int) + f < ((dec N).length : Int) + e then 1 else Lib.compareBytes ((dec N).map UInt8.ofNat) ((dec M).map UInt8.ofNat)
theorem sizeN_lt {N M : Nat} {e f : Int} (hN : N ≠ 0) (hM : M ≠ 0) (he : -1200 ≤ e) (hf : -1200 ≤ f) (h : ((dec N).length : Int) + e < ((dec M).length : Int) + f) : sizeN N e < sizeN M f := by
  have h1 := dec_upper N
  have h2 := dec_lower hM
  have hp := dec_pos M
  unfold sizeN
  have a1 : N * tenN (e + 1200).toNat < tenN ((dec N).length + (e + 1200).toNat) := by rw [tenN_add]; exact Nat.mul_lt_mul_of_pos_right h1 (tenN_pos _)
  have a2 : tenN ((dec M).length - 1 + (f + 1200).toNat) ≤ M * tenN (f + 1200).toNat := by rw [tenN_add]; exact Nat.mul_le_mul_right _ h2
  exact Nat.lt_of_lt_of_le a1 (Nat.le_trans (tenN_le (by omega)) a2)
theorem cmpD_eq {N M : Nat} {e f : Int} (hN : N % 10 ≠ 0) (hM : M % 10 ≠ 0) (he : -1200 ≤ e) (hf : -1200 ≤ f) : cmpD N e M f = cmpN (sizeN N e) (sizeN M f) := by
  have nN : N ≠ 0 := by intro h0; rw [h0] at hN; exact hN rfl
  have nM : M ≠ 0 := by intro h0; rw [h0] at hM; exact hM rfl
  unfold cmpD
  split
  · rename_i h
    rw [cmpN_lt (sizeN_lt nN nM he hf h)]
  · rename_i h
    split
    · rename_i h'
      rw [cmpN_gt (sizeN_lt nM nN hf he h')]
    · rename_i h'
      have heq : ((dec N).length : Int) + e = ((dec M).length : Int) + f := by omega
      rw [cmp_digits (dec N) (dec M) ((dec N).length + (e + 1200).toNat) (dec_ok N) (dec_ok M) (by omega) (by omega) (dec_last hN) (dec_last hM), hval_dec, hval_dec]
      unfold sizeN
      rw [show (dec N).length + (e + 1200).toNat - (dec N).length = (e + 1200).toNat by omega, show (dec N).length + (e + 1200).toNat - (dec M).length = (f + 1200).toNat by omega]

/-- A number is told by what it is. -/
theorem valZ_inj {neg neg' : Bool} {N M : Nat} {e f : Int} (hN : N % 10 ≠ 0) (hM : M % 10 ≠ 0) (he : -1200 ≤ e) (hf : -1200 ≤ f) (h : valZ neg N e = valZ neg' M f) : neg = neg' ∧ N = M ∧ e = f := by
  have nN : N ≠ 0 := by intro h0; rw [h0] at hN; exact hN rfl
  have nM : M ≠ 0 := by intro h0; rw [h0] at hM; exact hM rfl
  have p1 : 0 < sizeN N e := Nat.mul_pos (by omega) (tenN_pos _)
  have p2 : 0 < sizeN M f := Nat.mul_pos (by omega) (tenN_pos _)
  have key : neg = neg' ∧ sizeN N e = sizeN M f := by
    cases neg <;> cases neg' <;> simp only [valZ] at h <;> simp at h ⊢ <;> omega
  obtain ⟨h1, h2⟩ := ten_unique key.2 hN hM
  exact ⟨key.1, h1, by omega⟩
theorem sizeN_zero (e : Int) : sizeN 0 e = 0 := by simp [sizeN]
theorem sizeN_pos {N : Nat} {e : Int} (h : N ≠ 0) : 0 < sizeN N e := Nat.mul_pos (by omega) (tenN_pos _)
end Go.Proofs.Ytndjdmgncjiggaa
namespace Go.Proofs.Ytndjdmgncjiggaa
open Go.RowKit
set_option linter.unusedVariables false
set_option linter.unusedSimpArgs false

theorem dec_small {N : Nat} (h : N < 10) : dec N = [48 + N] := by
  unfold dec
  by_cases h0 : N = 0
  · subst h0; rfl
  · rw [if_neg h0, decl_pos h0, Nat.mod_eq_of_lt h, Nat.div_eq_of_lt h, decl_zero]; rfl
theorem dec_step {N : Nat} (h : 10 ≤ N) : dec N = dec (N / 10) ++ [48 + N % 10] := by
  unfold dec
  rw [if_neg (by omega), if_neg (by omega), decl_pos (by omega), List.reverse_cons]
theorem decDigits_eq (N : Nat) : Lib.decDigits N = (dec N).map UInt8.ofNat := by
  induction N using Nat.strongRecOn with
  | _ N ih =>
    rw [Lib.decDigits]
    split
    · rename_i h; rw [dec_small h]; rfl
    · rename_i h
      rw [ih (N / 10) (by omega), dec_step (N := N) (by omega), List.map_append]; rfl
theorem itoa_txt (k : Nat) : (⟨(Lib.itoa (k : Int)).toArray⟩ : ByteArray) = txt (dec k) := by
  unfold Lib.itoa
  rw [if_neg (by omega), Int.toNat_natCast, decDigits_eq]; rfl
theorem repeat_txt (k : Nat) : (⟨(Lib.repeatL (txt [48]).data.toList k).toArray⟩ : ByteArray) = txt (List.replicate k 48) := by
  have e : (txt [48]).data.toList = List.replicate 1 (48 : UInt8) := rfl
  rw [e, Lib.repeatL_replicate, Nat.mul_one]
  simp [txt]

/-- The text of digits with an exponent. -/
def expTxt (d : List Nat) (x : Int) : List Nat := d.take 1 ++ ((if 1 < d.length then [46] ++ d.drop 1 else []) ++ ([101, if x < 0 then 45 else 43] ++ dec x.natAbs))
/-- The text of digits with so many tens. -/
def sizeTxt (d : List Nat) (e : Int) : List Nat :=
  if (d.length : Int) + e < -5 ∨ 21 < (d.length : Int) + e then expTxt d ((d.length : Int) + e - 1)
  else if (d.length : Int) + e ≤ 0 then [48, 46] ++ List.replicate (-((d.length : Int) + e)).toNat 48 ++ d
  else if e < 0 then d.take ((d.length : Int) + e).toNat ++ [46] ++ d.drop ((d.length : Int) + e).toNat
  else d ++ List.replicate e.toNat 48
/-- The text of a number. -/
def numTxt (neg : Bool) (N : Nat) (e : Int) : List Nat := if N = 0 then [48] else (if neg then [45] else []) ++ sizeTxt (dec N) e

theorem txt_take (d : List Nat) (k : Nat) (h : k ≤ d.length) : (txt d).extract 0 k = txt (d.take k) := by
  apply ByteArray.ext
  simp [txt, ByteArray.data_extract, List.map_take, List.extract_eq_take_drop]
theorem txt_drop (d : List Nat) (k : Nat) : (txt d).extract k (txt d).size = txt (d.drop k) := by
  apply ByteArray.ext
  simp only [txt, ByteArray.data_extract, ByteArray.size]
  apply Array.ext'
  simp [List.map_drop, List.extract_eq_take_drop]
  exact List.take_of_length_le (by simp)
theorem expTxt_len {d : List Nat} {x : Int} (hd : d.length ≤ 2000) (hx : -1000000 ≤ x ∧ x ≤ 1000000) : (expTxt d x).length ≤ 4000 := by
  have h := dec_len_le (n := 7) (N := x.natAbs) (by omega) (by have : tenN 7 = 10000000 := by decide
                                                               omega)
  unfold expTxt
  split <;> simp <;> omega
theorem sizeTxt_len {d : List Nat} {e : Int} (hd : d.length ≤ 2000) (he : -1200 ≤ e ∧ e ≤ 1200) : (sizeTxt d e).length ≤ 5000 := by
  unfold sizeTxt
  split
  · have := expTxt_len (d := d) (x := (d.length : Int) + e - 1) hd (by omega)
    omega
  · split
    · simp; omega
    · split <;> simp <;> omega
theorem sizeTxt_len2 {d : List Nat} {e : Int} (hd : d.length ≤ 900) (he : -1200 ≤ e ∧ e ≤ 1200) : (sizeTxt d e).length ≤ 1900 := by
  have h := dec_len_le (n := 7) (N := ((d.length : Int) + e - 1).natAbs) (by omega) (by have : tenN 7 = 10000000 := by decide
                                                                                        omega)
  unfold sizeTxt
  split
  · unfold expTxt
    split <;> simp <;> omega
  · split
    · simp; omega
    · split <;> simp <;> omega
end Go.Proofs.Ytndjdmgncjiggaa
namespace Go.Proofs.Ytndjdmgncjiggaa
open Go.RowKit
set_option linter.unusedVariables false
set_option linter.unusedSimpArgs false

/-- The tens that divide a natural. -/
def trimF : Nat → Nat → Nat
  | 0, _ => 0
  | f + 1, N => if N % 10 = 0 then trimF f (N / 10) + 1 else 0
def trimK (N : Nat) : Nat := trimF N N
def trimM (N : Nat) : Nat := N / tenN (trimK N)
theorem trimF_spec : ∀ (f N : Nat), N ≤ f → N ≠ 0 → N = N / tenN (trimF f N) * tenN (trimF f N) ∧ N / tenN (trimF f N) % 10 ≠ 0
  | 0, N, h, h0 => by omega
  | f + 1, N, h, h0 => by
    unfold trimF
    by_cases h1 : N % 10 = 0
    · rw [if_pos h1]
      obtain ⟨a, b⟩ := trimF_spec f (N / 10) (by omega) (by omega)
      have e : tenN (trimF f (N / 10) + 1) = 10 * tenN (trimF f (N / 10)) := by rw [tenN_succ, Nat.mul_comm]
      rw [e, ← Nat.div_div_eq_div_mul]
      refine ⟨?_, b⟩
      generalize N / 10 / tenN (trimF f (N / 10)) = Q at *
      have h2 : N = 10 * (N / 10) := by omega
      rw [Nat.mul_left_comm, ← a]
      exact h2
    · rw [if_neg h1, tenN_zero]
      exact ⟨by simp, by simpa using h1⟩
theorem trim_spec {N : Nat} (h : N ≠ 0) : N = trimM N * tenN (trimK N) ∧ trimM N % 10 ≠ 0 := trimF_spec N N (Nat.le_refl _) h
theorem trim_unique {N m k : Nat} (h : N = m * tenN k) (hm : m % 10 ≠ 0) : trimM N = m ∧ trimK N = k := by
  have hne : N ≠ 0 := by
    rw [h]; exact Nat.mul_ne_zero (fun h0 => by rw [h0] at hm; exact hm rfl) (tenN_ne _)
  obtain ⟨a, b⟩ := trim_spec hne
  exact ten_unique (by rw [← a]; exact h) b hm

def isd (x : Nat) : Bool := decide (48 ≤ x ∧ x ≤ 57)
def digs (l : List Nat) : List Nat := l.takeWhile isd
def undigs (l : List Nat) : List Nat := l.dropWhile isd
def takes (l : List Nat) (c : Nat) : Bool := l.head? == some c
def rest (l : List Nat) (c : Nat) : List Nat := if takes l c then l.tail else l
theorem digs_ok (l : List Nat) : Okd (digs l) := by
  intro x hx
  have := List.all_takeWhile (p := isd) (l := l)
  have h := (List.all_eq_true.1 this) x hx
  simpa [isd] using h
theorem digs_len (l : List Nat) : (digs l).length ≤ l.length := (List.takeWhile_sublist isd).length_le
theorem undigs_len (l : List Nat) : (undigs l).length ≤ l.length := (List.dropWhile_sublist isd).length_le
theorem rest_len (l : List Nat) (c : Nat) : (rest l c).length ≤ l.length := by unfold rest; split <;> simp
theorem takes_cons (x : Nat) (l : List Nat) (c : Nat) : takes (x :: l) c = decide (x = c) := by by_cases h : x = c <;> simp [takes, h]
theorem takes_nil (c : Nat) : takes [] c = false := rfl
theorem takes_true {l : List Nat} {c : Nat} (h : takes l c = true) : ∃ l', l = c :: l' := by
  cases l with
  | nil => cases h
  | cons x l => rw [takes_cons] at h; exact ⟨l, by rw [of_decide_eq_true h]⟩

/-- What a number's text is made of. -/
structure Pt where
  neg : Bool
  whole : List Nat
  frac : List Nat
  down : Bool
  exp : List Nat

def fracL (l : List Nat) : Option (List Nat × List Nat) :=
  if takes l 46 then (if digs l.tail = [] then none else some (digs l.tail, undigs l.tail)) else some ([], l)
def signL (l : List Nat) : List Nat := if takes l 45 then l.tail else rest l 43
def expL (l : List Nat) : Option (Bool × List Nat × List Nat) :=
  if takes l 101 = true ∨ takes l 69 = true then (if digs (signL l.tail) = [] then none else some (takes l.tail 45, digs (signL l.tail), undigs (signL l.tail))) else some (false, [], l)
def wholeBad (d : List Nat) : Prop := d = [] ∨ (1 < d.length ∧ d.head? = some 48)
instance (d : List Nat) : Decidable (wholeBad d) := by unfold wholeBad; infer_instance
/-- The parts of a text; none: it is no number's. -/
def readL (l : List Nat) : Option Pt :=
  if wholeBad (digs (rest l 45)) then none else
  match fracL (undigs (rest l 45)) with
  | none => none
  | some (f, l3) =>
    match expL l3 with
    | none => none
    | some (d, x, l4) => if l4 = [] then some ⟨takes l 45, digs (rest l 45), f, d, x⟩ else none
def expN (p : Pt) : List Nat := p.exp.dropWhile (· == 48)
def expV (p : Pt) : Int := if p.down then -(hval (expN p) : Int) else (hval (expN p) : Int)
/-- The number of the parts; none: it has no room. -/
def numberL (p : Pt) : Option (Bool × Nat × Int) :=
  if hval (p.whole ++ p.frac) = 0 then some (false, 0, 0) else
  if 6 < (expN p).length then none else
  if (limbs (trimM (hval (p.whole ++ p.frac)))).length ≤ 90 ∧ -1200 ≤ expV p - (p.frac.length : Int) + (trimK (hval (p.whole ++ p.frac)) : Int) ∧ expV p - (p.frac.length : Int) + (trimK (hval (p.whole ++ p.frac)) : Int) ≤ 1200
  then some (p.neg, trimM (hval (p.whole ++ p.frac)), expV p - (p.frac.length : Int) + (trimK (hval (p.whole ++ p.frac)) : Int)) else none
/-- What Parse answers: a number, or an error's number. -/
def parseN (l : List Nat) : (Bool × Nat × Int) ⊕ Int :=
  if 2000 < l.length then .inr 4 else
  match readL l with
  | none => .inr 2
  | some p => match numberL p with
    | none => .inr 4
    | some r => .inl r
theorem expV_bd {p : Pt} (h : (expN p).length ≤ 6) (hx : Okd p.exp) : -1000000 ≤ expV p ∧ expV p ≤ 1000000 := by
  have ho : Okd (expN p) := fun a ha => hx a ((List.dropWhile_sublist _).subset ha)
  have h1 := hval_lt ho
  have h2 := tenN_le h
  have h3 : tenN 6 = 1000000 := by decide
  unfold expV
  split <;> omega
end Go.Proofs.Ytndjdmgncjiggaa
namespace Go.Proofs.Ytndjdmgncjiggaa
open Go.RowKit
set_option linter.unusedVariables false
set_option linter.unusedSimpArgs false

theorem digs_all {a : List Nat} (h : Okd a) : digs a = a ∧ undigs a = [] := by
  induction a with
  | nil => exact ⟨rfl, rfl⟩
  | cons x a ih =>
    have hx : isd x = true := by have := h x (by simp); simpa [isd] using this
    obtain ⟨h1, h2⟩ := ih h.tail
    constructor
    · unfold digs at *; rw [List.takeWhile_cons, if_pos hx, h1]
    · unfold undigs at *; rw [List.dropWhile_cons, if_pos hx, h2]
theorem digs_stop {a : List Nat} (h : Okd a) {c : Nat} (hc : isd c = false) (t : List Nat) : digs (a ++ c :: t) = a ∧ undigs (a ++ c :: t) = c :: t := by
  induction a with
  | nil => simp [digs, undigs, hc]
  | cons x a ih =>
    have hx : isd x = true := by have := h x (by simp); simpa [isd] using this
    obtain ⟨h1, h2⟩ := ih h.tail
    constructor
    · unfold digs at *; rw [List.cons_append, List.takeWhile_cons, if_pos hx, h1]
    · unfold undigs at *; rw [List.cons_append, List.dropWhile_cons, if_pos hx, h2]
def signT (neg : Bool) : List Nat := if neg then [45] else []
def fracT (f : List Nat) : List Nat := if f = [] then [] else 46 :: f
theorem takes_digit {l : List Nat} {x : Nat} {c : Nat} (h : 48 ≤ x) (hc : c < 48) : takes (x :: l) c = false := by rw [takes_cons]; exact decide_eq_false (by omega)
theorem sign_takes {neg : Bool} {w t : List Nat} (hw : Okd w) (h0 : w ≠ []) : takes (signT neg ++ (w ++ t)) 45 = neg ∧ rest (signT neg ++ (w ++ t)) 45 = w ++ t := by
  cases neg
  · cases w with
    | nil => exact absurd rfl h0
    | cons x w =>
      have h1 : takes (x :: (w ++ t)) 45 = false := takes_digit (hw x (by simp)).1 (by decide)
      refine ⟨h1, ?_⟩
      show rest (x :: (w ++ t)) 45 = _
      unfold rest; rw [h1]; rfl
  · exact ⟨rfl, rfl⟩
/-- What stands behind the digits of a whole. -/
def tailT (f e : List Nat) : List Nat := fracT f ++ e
theorem tail_head {f e : List Nat} (he : e = [] ∨ ∃ c t, e = c :: t ∧ isd c = false) : tailT f e = [] ∨ ∃ c t, tailT f e = c :: t ∧ isd c = false := by
  unfold tailT fracT
  split
  · simpa using he
  · exact .inr ⟨46, f ++ e, rfl, rfl⟩
theorem digs_tail {w t : List Nat} (hw : Okd w) (ht : t = [] ∨ ∃ c r, t = c :: r ∧ isd c = false) : digs (w ++ t) = w ∧ undigs (w ++ t) = t := by
  rcases ht with rfl | ⟨c, r, rfl, hc⟩
  · rw [List.append_nil]; exact digs_all hw
  · exact digs_stop hw hc r
theorem weak46 {e : List Nat} (he : e = [] ∨ ∃ c t, e = c :: t ∧ isd c = false ∧ c ≠ 46) : e = [] ∨ ∃ c t, e = c :: t ∧ isd c = false := by
  rcases he with h | ⟨c, t, h1, h2, _⟩
  · exact .inl h
  · exact .inr ⟨c, t, h1, h2⟩
theorem frac_tail {f e : List Nat} (hf : Okd f) (he : e = [] ∨ ∃ c t, e = c :: t ∧ isd c = false ∧ c ≠ 46) : fracL (tailT f e) = some (f, e) := by
  unfold tailT fracT
  split
  · rename_i h; subst h
    rw [List.nil_append]
    unfold fracL
    rcases he with rfl | ⟨c, t, rfl, hc, hc2⟩
    · rfl
    · rw [takes_cons, decide_eq_false hc2]; rfl
  · rename_i h
    unfold fracL
    rw [List.cons_append, takes_cons, decide_eq_true rfl, if_pos rfl, List.tail_cons]
    obtain ⟨h1, h2⟩ := digs_tail (t := e) hf (weak46 he)
    rw [h1, h2, if_neg h]
theorem read_form {neg : Bool} {w f e : List Nat} {d : Bool} {x : List Nat} (hw : Okd w) (hb : ¬ wholeBad w) (hf : Okd f) (he : e = [] ∨ ∃ c t, e = c :: t ∧ isd c = false ∧ c ≠ 46) (hx : expL e = some (d, x, [])) :
    readL (signT neg ++ (w ++ tailT f e)) = some ⟨neg, w, f, d, x⟩ := by
  have h0 : w ≠ [] := fun h => hb (.inl h)
  obtain ⟨s1, s2⟩ := sign_takes (neg := neg) (t := tailT f e) hw h0
  have he2 := weak46 he
  obtain ⟨d1, d2⟩ := digs_tail (t := tailT f e) hw (tail_head he2)
  have := readL_ok' (l := signT neg ++ (w ++ tailT f e)) (f := f) (l3 := e) (d := d) (x := x) (by rw [s2, d1]; exact hb) (by rw [s2, d2]; exact frac_tail hf he) hx
  rw [this, s1, s2, d1]
where
  readL_ok' {l : List Nat} {f l3 : List Nat} {d : Bool} {x : List Nat} (h : ¬ wholeBad (digs (rest l 45))) (h2 : fracL (undigs (rest l 45)) = some (f, l3)) (h3 : expL l3 = some (d, x, [])) : readL l = some ⟨takes l 45, digs (rest l 45), f, d, x⟩ := by
    unfold readL; rw [if_neg h, h2]; simp only; rw [h3]; simp
theorem exp_none : expL [] = some (false, [], []) := rfl
theorem exp_down {c : Nat} {x : List Nat} (hc : c = 101 ∨ c = 69) (hx : Okd x) (h0 : x ≠ []) : expL (c :: 45 :: x) = some (true, x, []) := by
  unfold expL
  have h1 : takes (c :: 45 :: x) 101 = true ∨ takes (c :: 45 :: x) 69 = true := by rw [takes_cons, takes_cons]; rcases hc with rfl | rfl <;> simp
  rw [if_pos h1, List.tail_cons]
  have h2 : signL (45 :: x) = x := rfl
  rw [h2, (digs_all hx).1, (digs_all hx).2, if_neg h0]; rfl
theorem exp_up {c : Nat} {x : List Nat} (hc : c = 101 ∨ c = 69) (hx : Okd x) (h0 : x ≠ []) : expL (c :: 43 :: x) = some (false, x, []) := by
  unfold expL
  have h1 : takes (c :: 43 :: x) 101 = true ∨ takes (c :: 43 :: x) 69 = true := by rw [takes_cons, takes_cons]; rcases hc with rfl | rfl <;> simp
  rw [if_pos h1, List.tail_cons]
  have h2 : signL (43 :: x) = x := rfl
  rw [h2, (digs_all hx).1, (digs_all hx).2, if_neg h0]; rfl
theorem exp_plain {c : Nat} {x : List Nat} (hc : c = 101 ∨ c = 69) (hx : Okd x) (h0 : x ≠ []) : expL (c :: x) = some (false, x, []) := by
  unfold expL
  have h1 : takes (c :: x) 101 = true ∨ takes (c :: x) 69 = true := by rw [takes_cons, takes_cons]; rcases hc with rfl | rfl <;> simp
  rw [if_pos h1, List.tail_cons]
  cases x with
  | nil => exact absurd rfl h0
  | cons y x =>
    have hy := hx y (by simp)
    have t1 : takes (y :: x) 45 = false := takes_digit hy.1 (by decide)
    have t2 : takes (y :: x) 43 = false := takes_digit hy.1 (by decide)
    have h2 : signL (y :: x) = y :: x := by unfold signL rest; rw [t1, t2]; rfl
    rw [h2, (digs_all hx).1, (digs_all hx).2, if_neg h0, t1]

/-- The number of parts, by its digits. -/
theorem number_form {p : Pt} {N m j : Nat} (hN : hval (p.whole ++ p.frac) = N) (h0 : N ≠ 0) (h6 : (expN p).length ≤ 6) (hm : N = m * tenN j) (hm0 : m % 10 ≠ 0) (hl : (limbs m).length ≤ 90) (hlo : -1200 ≤ expV p - (p.frac.length : Int) + (j : Int)) (hhi : expV p - (p.frac.length : Int) + (j : Int) ≤ 1200) :
    numberL p = some (p.neg, m, expV p - (p.frac.length : Int) + (j : Int)) := by
  obtain ⟨t1, t2⟩ := trim_unique hm hm0
  unfold numberL
  rw [hN, if_neg h0, if_neg (by omega), t1, t2, if_pos ⟨hl, hlo, hhi⟩]
theorem drop_zeros {k : Nat} : hval ((dec k).dropWhile (· == 48)) = k ∧ ((dec k).dropWhile (· == 48)).length ≤ (dec k).length := by
  refine ⟨?_, (List.dropWhile_sublist _).length_le⟩
  have key : ∀ l : List Nat, hval (l.dropWhile (· == 48)) = hval l := by
    intro l
    induction l with
    | nil => rfl
    | cons x l ih =>
      rw [List.dropWhile_cons]
      split
      · rename_i h
        have hx : x = 48 := by simpa using h
        subst hx
        rw [ih, hval_cons]; simp
      · rfl
  rw [key, hval_dec]
theorem dec_head {N : Nat} (h : N ≠ 0) : (dec N).head? ≠ some 48 := by
  induction N using Nat.strongRecOn with
  | _ N ih =>
    by_cases h1 : N < 10
    · rw [dec_small h1]; simp; omega
    · rw [dec_step (by omega)]
      have h2 := ih (N / 10) (by omega) (by omega)
      cases hd : dec (N / 10) with
      | nil => have := dec_pos (N / 10); rw [hd] at this; simp at this
      | cons a l => rw [hd] at h2; exact h2
theorem good_of_head {w : List Nat} (h0 : w ≠ []) (h : w.head? ≠ some 48) : ¬ wholeBad w := by
  rintro (h1 | ⟨_, h1⟩)
  · exact h0 h1
  · exact h h1

theorem dec_small7 {k : Nat} (h : k < 1000000) : (dec k).length ≤ 6 := dec_len_le (by omega) (by rw [show tenN 6 = 1000000 by decide]; exact h)
theorem ne_of_len {l : List Nat} (h : 0 < l.length) : l ≠ [] := fun h0 => by rw [h0] at h; cases h
theorem expV_no {p : Pt} (h : p.exp = []) : expV p = 0 ∧ (expN p).length = 0 := by
  have : expN p = [] := by unfold expN; rw [h]; rfl
  unfold expV; rw [this]
  exact ⟨by split <;> simp [hval_nil], rfl⟩
theorem expV_dec {p : Pt} {k : Nat} (h : p.exp = dec k) (hk : k < 1000000) : expV p = (if p.down = true then -(k : Int) else (k : Int)) ∧ (expN p).length ≤ 6 := by
  have e : expN p = (dec k).dropWhile (· == 48) := by unfold expN; rw [h]
  obtain ⟨h1, h2⟩ := @drop_zeros k
  have h3 := dec_small7 hk
  unfold expV; rw [e, h1]
  exact ⟨rfl, by omega⟩

set_option maxHeartbeats 1000000 in
/-- P2.4: the text of a number that is not 0 is read as it. -/
theorem parse_text {neg : Bool} {N : Nat} {e : Int} (h0 : N % 10 ≠ 0) (hl : (limbs N).length ≤ 90) (hd : (dec N).length ≤ 900) (hlo : -1200 ≤ e) (hhi : e ≤ 1200) : parseN (numTxt neg N e) = .inl (neg, N, e) := by
  have hne : N ≠ 0 := by intro h; rw [h] at h0; exact h0 rfl
  have hod := dec_ok N
  have hdp := dec_pos N
  have hdv := hval_dec N
  have hdh := dec_head hne
  have hlen : (numTxt neg N e).length ≤ 2000 := by
    have := sizeTxt_len2 (d := dec N) (e := e) hd ⟨hlo, hhi⟩
    unfold numTxt
    rw [if_neg hne]
    cases neg <;> simp <;> omega
  have ht : numTxt neg N e = signT neg ++ sizeTxt (dec N) e := by unfold numTxt signT; rw [if_neg hne]
  have fin : ∀ (p : Pt) (m j : Nat), readL (numTxt neg N e) = some p → p.neg = neg → numberL p = some (p.neg, N, e) → parseN (numTxt neg N e) = .inl (neg, N, e) := by
    intro p m j hr hn hnum
    unfold parseN
    rw [if_neg (by omega), hr]
    simp only
    rw [hnum, hn]
  generalize hdd : dec N = d at *
  rw [ht] at fin ⊢
  clear ht hlen
  have htk1 : d.take 1 ++ d.drop 1 = d := List.take_append_drop 1 d
  unfold sizeTxt at fin ⊢
  by_cases hA : (d.length : Int) + e < -5 ∨ 21 < (d.length : Int) + e
  · rw [if_pos hA] at fin ⊢
    have hsh : expTxt d ((d.length : Int) + e - 1) = d.take 1 ++ tailT (d.drop 1) (101 :: (if (d.length : Int) + e - 1 < 0 then 45 else 43) :: dec ((d.length : Int) + e - 1).natAbs) := by
      unfold expTxt tailT fracT
      by_cases h1 : 1 < d.length
      · have h2 : d.drop 1 ≠ [] := fun h => by have := congrArg List.length h; simp at this; omega
        rw [if_pos h1, if_neg h2]; simp
      · have h2 : d.drop 1 = [] := List.drop_of_length_le (by omega)
        rw [if_neg h1, h2]; simp
    rw [hsh] at fin ⊢
    have hw : Okd (d.take 1) := hod.take 1
    have hwb : ¬ wholeBad (d.take 1) := by
      rintro (h1 | ⟨h1, _⟩)
      · have := congrArg List.length h1; simp at this; rw [this] at hdp; simp at hdp
      · simp at h1; omega
    have hf : Okd (d.drop 1) := fun x hx => hod x (List.mem_of_mem_drop hx)
    obtain ⟨k, hk⟩ : ∃ k, ((d.length : Int) + e - 1).natAbs = k := ⟨_, rfl⟩
    have hkb : k < 1000000 := by omega
    have hk0 : dec k ≠ [] := fun h => by have := dec_pos k; rw [h] at this; simp at this
    rw [hk] at fin ⊢
    by_cases hs : (d.length : Int) + e - 1 < 0
    · rw [if_pos hs] at fin ⊢
      have hr := read_form (neg := neg) hw hwb hf (e := 101 :: 45 :: dec k) (.inr ⟨101, _, rfl, rfl, by decide⟩) (exp_down (.inl rfl) (dec_ok k) hk0)
      refine fin _ N 0 hr rfl ?_
      obtain ⟨v1, v2⟩ := expV_dec (p := ⟨neg, d.take 1, d.drop 1, true, dec k⟩) rfl hkb
      simp only [if_true] at v1
      have hee : expV ⟨neg, d.take 1, d.drop 1, true, dec k⟩ - ((d.drop 1).length : Int) + ((0 : Nat) : Int) = e := by rw [v1]; simp only [List.length_drop]; omega
      have := number_form (p := ⟨neg, d.take 1, d.drop 1, true, dec k⟩) (N := N) (m := N) (j := 0) (by simp only; rw [htk1, hdv]) hne v2 (by rw [tenN_zero, Nat.mul_one]) h0 hl (by rw [hee]; exact hlo) (by rw [hee]; exact hhi)
      rw [this, hee]
    · rw [if_neg hs] at fin ⊢
      have hr := read_form (neg := neg) hw hwb hf (e := 101 :: 43 :: dec k) (.inr ⟨101, _, rfl, rfl, by decide⟩) (exp_up (.inl rfl) (dec_ok k) hk0)
      refine fin _ N 0 hr rfl ?_
      obtain ⟨v1, v2⟩ := expV_dec (p := ⟨neg, d.take 1, d.drop 1, false, dec k⟩) rfl hkb
      simp only [Bool.false_eq_true, if_false] at v1
      have hee : expV ⟨neg, d.take 1, d.drop 1, false, dec k⟩ - ((d.drop 1).length : Int) + ((0 : Nat) : Int) = e := by rw [v1]; simp only [List.length_drop]; omega
      have := number_form (p := ⟨neg, d.take 1, d.drop 1, false, dec k⟩) (N := N) (m := N) (j := 0) (by simp only; rw [htk1, hdv]) hne v2 (by rw [tenN_zero, Nat.mul_one]) h0 hl (by rw [hee]; exact hlo) (by rw [hee]; exact hhi)
      rw [this, hee]
  · rw [if_neg hA] at fin ⊢
    by_cases hB : (d.length : Int) + e ≤ 0
    · rw [if_pos hB] at fin ⊢
      obtain ⟨k, hk⟩ : ∃ k, (-((d.length : Int) + e)).toNat = k := ⟨_, rfl⟩
      rw [hk] at fin ⊢
      have hz0 : List.replicate k 48 ++ d ≠ [] := ne_of_len (by rw [List.length_append]; omega)
      have hsh : [48, 46] ++ List.replicate k 48 ++ d = [48] ++ tailT (List.replicate k 48 ++ d) [] := by unfold tailT fracT; rw [if_neg hz0]; simp
      rw [hsh] at fin ⊢
      have hw : Okd [48] := by intro x hx; simp at hx; omega
      have hwb : ¬ wholeBad [48] := by rintro (h1 | ⟨h1, _⟩) <;> simp at h1
      have hf : Okd (List.replicate k 48 ++ d) := (zeros_ok k).append hod
      have hr := read_form (neg := neg) hw hwb hf (.inl rfl) exp_none
      refine fin _ N 0 hr rfl ?_
      obtain ⟨v1, v2⟩ := expV_no (p := ⟨neg, [48], List.replicate k 48 ++ d, false, []⟩) rfl
      have hv : hval ([48] ++ (List.replicate k 48 ++ d)) = N := by
        rw [hval_append, hval_append, hval_zeros, hdv]
        simp [hval_one]
      have hee : expV ⟨neg, [48], List.replicate k 48 ++ d, false, []⟩ - ((List.replicate k 48 ++ d).length : Int) + ((0 : Nat) : Int) = e := by rw [v1]; simp only [List.length_append, List.length_replicate]; omega
      have := number_form (p := ⟨neg, [48], List.replicate k 48 ++ d, false, []⟩) (N := N) (m := N) (j := 0) hv hne (by omega) (by rw [tenN_zero, Nat.mul_one]) h0 hl (by rw [hee]; exact hlo) (by rw [hee]; exact hhi)
      rw [this, hee]
    · rw [if_neg hB] at fin ⊢
      by_cases hC : e < 0
      · rw [if_pos hC] at fin ⊢
        obtain ⟨k, hk⟩ : ∃ k, ((d.length : Int) + e).toNat = k := ⟨_, rfl⟩
        rw [hk] at fin ⊢
        have hkl : 0 < k ∧ k < d.length := by omega
        have hz0 : d.drop k ≠ [] := ne_of_len (by rw [List.length_drop]; omega)
        have hsh : d.take k ++ [46] ++ d.drop k = d.take k ++ tailT (d.drop k) [] := by unfold tailT fracT; rw [if_neg hz0]; simp
        rw [hsh] at fin ⊢
        have hw : Okd (d.take k) := hod.take k
        have hth : (d.take k).head? = d.head? := by rw [List.head?_take, if_neg (by omega)]
        have hwb : ¬ wholeBad (d.take k) := good_of_head (ne_of_len (by rw [List.length_take]; omega)) (by rw [hth]; exact hdh)
        have hf : Okd (d.drop k) := fun x hx => hod x (List.mem_of_mem_drop hx)
        have hr := read_form (neg := neg) hw hwb hf (.inl rfl) exp_none
        refine fin _ N 0 hr rfl ?_
        obtain ⟨v1, v2⟩ := expV_no (p := ⟨neg, d.take k, d.drop k, false, []⟩) rfl
        have hee : expV ⟨neg, d.take k, d.drop k, false, []⟩ - ((d.drop k).length : Int) + ((0 : Nat) : Int) = e := by rw [v1]; simp only [List.length_drop]; omega
        have := number_form (p := ⟨neg, d.take k, d.drop k, false, []⟩) (N := N) (m := N) (j := 0) (by simp only; rw [List.take_append_drop, hdv]) hne (by omega) (by rw [tenN_zero, Nat.mul_one]) h0 hl (by rw [hee]; exact hlo) (by rw [hee]; exact hhi)
        rw [this, hee]
      · rw [if_neg hC] at fin ⊢
        obtain ⟨k, hk⟩ : ∃ k, e.toNat = k := ⟨_, rfl⟩
        rw [hk] at fin ⊢
        have hsh : d ++ List.replicate k 48 = (d ++ List.replicate k 48) ++ tailT [] [] := by simp [tailT, fracT]
        rw [hsh] at fin ⊢
        have hw : Okd (d ++ List.replicate k 48) := hod.append (zeros_ok k)
        have hth : (d ++ List.replicate k 48).head? = d.head? := by
          cases d with
          | nil => simp at hdp
          | cons a b => rfl
        have hwb : ¬ wholeBad (d ++ List.replicate k 48) := good_of_head (ne_of_len (by rw [List.length_append]; omega)) (by rw [hth]; exact hdh)
        have hr := read_form (neg := neg) hw hwb Okd.nil (.inl rfl) exp_none
        refine fin _ N 0 hr rfl ?_
        obtain ⟨v1, v2⟩ := expV_no (p := ⟨neg, d ++ List.replicate k 48, [], false, []⟩) rfl
        have hv : hval ((d ++ List.replicate k 48) ++ []) = N * tenN k := by rw [List.append_nil, hval_append, hval_zeros, hdv, List.length_replicate]; rfl
        have hee : expV ⟨neg, d ++ List.replicate k 48, [], false, []⟩ - (([] : List Nat).length : Int) + (k : Int) = e := by rw [v1]; simp; omega
        have := number_form (p := ⟨neg, d ++ List.replicate k 48, [], false, []⟩) (N := N * tenN k) (m := N) (j := k) hv (Nat.mul_ne_zero hne (tenN_ne _)) (by omega) rfl h0 hl (by rw [hee]; exact hlo) (by rw [hee]; exact hhi)
        rw [this, hee]
theorem parse_zero {neg : Bool} {e : Int} : parseN (numTxt neg 0 e) = .inl (false, 0, 0) := by
  have : numTxt neg 0 e = [48] := rfl
  rw [this]; decide +kernel
end Go.Proofs.Ytndjdmgncjiggaa
/- The walks of num's tenDivides, Check, orZero, side. The walks of num's orZero, side, Make, in the context of naturals. The walk of num's Make, in the context of naturals. -/
namespace Go.Proofs.Ytndjdmgncjiggaa
open Go.RowKit
set_option linter.unusedVariables false
set_option linter.unusedSimpArgs false

theorem int_beq0 (q : Nat) : ((q : Int) == 0) = decide (q = 0) := by
  by_cases h : q = 0
  · subst h; rfl
  · rw [decide_eq_false h, beq_eq_false_iff_ne]; omega

def TDRel (n : Nat) (xs : List Nat) (r i : Value) : Prop :=
  ∃ (k q : Nat), k ≤ n ∧ i = .int .i64 ((k : Int) - 1) ∧ r = .int .u64 (q : Int) ∧ q < 10 ∧ q = val (xs.drop k) % 10

theorem td_step {V q x j n : Nat} {xs : List Nat} (hj : j < n) (hn : xs.length = n) (hq : q = val (xs.drop (j + 1)) % 10) (hx : xs.getD j 0 = x) : wd q x % 10 = val (xs.drop j) % 10 := by
  rw [val_drop_succ xs j (by omega), hx]
  unfold wd
  rw [B32_eq]
  generalize val (xs.drop (j + 1)) = V at *
  omega

/-- A number as Go has it. -/
def nv (neg : Bool) (v : Value) (e : Int) : Value := .agg #[.bool neg, v, .int .i64 e]

def BoolBelow (b : Bool) (w : World) (e : Ending) (w' : World) : Prop := e = .returned (.bool b) ∧ Below w.heap.size w w'
theorem BoolBelow.mk {a b : Bool} {w w' : World} (h : a = b) (hb : Below w.heap.size w w') : BoolBelow b w (.returned (.bool a)) w' := ⟨by rw [h], hb⟩

theorem chkB_long {neg : Bool} {xs : List Nat} {e : Int} (h : 90 < xs.length) : chkB neg xs e = false := by
  unfold chkB; rw [if_neg (by omega)]; exact decide_eq_false (by omega)
theorem chkB_top {neg : Bool} {xs : List Nat} {e : Int} (h : xs.length ≠ 0) (h0 : xs.getD (xs.length - 1) 0 = 0) : chkB neg xs e = false := by
  unfold chkB; rw [if_neg h]; exact decide_eq_false (fun h1 => h1.2.1 h0)
theorem chkB_out {neg : Bool} {xs : List Nat} {e : Int} (h : xs.length ≠ 0) (h0 : e < -1200 ∨ 1200 < e) : chkB neg xs e = false := by
  unfold chkB; rw [if_neg h]; exact decide_eq_false (by omega)
theorem chkB_tens {neg : Bool} {xs : List Nat} {e : Int} (h : xs.length ≠ 0) (h1 : xs.length ≤ 90) (h2 : xs.getD (xs.length - 1) 0 ≠ 0) (h3 : -1200 ≤ e) (h4 : e ≤ 1200) : chkB neg xs e = !decide (val xs % 10 = 0) := by
  unfold chkB; rw [if_neg h]
  by_cases h5 : val xs % 10 = 0
  · rw [decide_eq_false (fun h6 => h6.2.2.2.2 h5), decide_eq_true h5]; rfl
  · rw [decide_eq_true ⟨h1, h2, h3, h4, h5⟩, decide_eq_false h5]; rfl

end Go.Proofs.Ytndjdmgncjiggaa
namespace Go.Proofs.Ytndjdmgncjiggaa
open Go.RowKit
set_option linter.unusedVariables false
set_option linter.unusedSimpArgs false

theorem bcell {W w1 : World} (hb : Below W.heap.size W w1) : (∀ b o, b < W.heap.size → w1.cell? ⟨b, o, none⟩ = W.cell? ⟨b, o, none⟩) ∧ (∀ b o, b < W.heap.size → w1.frozen? ⟨b, o, none⟩ = W.frozen? ⟨b, o, none⟩) :=
  ⟨fun b o h => hb.cell (p := ⟨b, o, none⟩) h, fun b o h => hb.frozen (p := ⟨b, o, none⟩) h⟩

/-- A struct's answer. -/
def NumBelow (neg : Bool) (v : Value) (x : Int) (w : World) (e : Ending) (w' : World) : Prop := e = .returned (.agg #[.bool neg, v, .int .i64 x]) ∧ Below w.heap.size w w'

/-- Where a number stands. -/
def sideN (neg : Bool) (n : Nat) : Int := if n = 0 then 0 else if neg then -1 else 1
def IntBelow (i : Int) (w : World) (e : Ending) (w' : World) : Prop := e = .returned (.int .i64 i) ∧ Below w.heap.size w w'
end Go.Proofs.Ytndjdmgncjiggaa
namespace Go.Proofs.Ytndjdmgncjiggaa
open Go.RowKit
set_option linter.unusedVariables false
set_option linter.unusedSimpArgs false

/-- What Make answers: a number, its limbs ahead of the context. -/
def MadePost (w0 : World) (l : List Ent) (L : Nat) (neg : Bool) (m : Nat) (e : Int) (ok : Bool) (r : Ending) (w' : World) : Prop :=
  ∃ v, r = .returned (.tuple #[.agg #[.bool neg, v, .int .i64 e], .bool ok]) ∧ Ctx w0 w' (⟨v, L, m, limbs m⟩ :: l)

theorem ent_nil (w : World) (L : Nat) : Ent.Ok w ⟨.slice none 0 0, L, 0, limbs 0⟩ := ⟨none, 0, rfl, Nat.le_refl _, by simp [limbs_zero], by rw [limbs_zero]; exact Okl.nil, by rw [limbs_zero]; exact Rd.nil _ _, by rw [limbs_zero]; rfl⟩
theorem Ctx.drop1 {w0 w : World} {l : List Ent} {x : Ent} (h : Ctx w0 w (x :: l)) : Ctx w0 w l := ⟨h.below, fun y hy => h.all y (List.mem_cons_of_mem _ hy)⟩
theorem Ctx.low {w0 w w1 : World} {l : List Ent} (h : Ctx w0 w l) (h1 : Ctx w w1 l) : Ctx w0 w1 l := ⟨below_on h.below h1.below, h1.all⟩
theorem Ctx.again {w0 w : World} {l : List Ent} (h : Ctx w0 w l) : Ctx w w l := ⟨Below.refl _ _, h.all⟩

theorem Ctx.back {w0 w2 w1 : World} {l : List Ent} (hb : Below w0.heap.size w0 w2) (h2 : Ctx w2 w1 l) : Ctx w0 w1 l := ⟨below_on hb h2.below, h2.all⟩

/-- A store into a cell that holds no limb. -/
theorem Rd.setBox {w : World} {ad : Option Addr} {xs : List Nat} {g j : Nat} {x : Value} (h : Rd w ad xs) (hc : w.cell? ⟨g, j, none⟩ = some x) (hx : ∀ n : Int, x ≠ .int .u32 n) (v : Value) : Rd (w.setCell ⟨g, j, none⟩ v) ad xs := by
  intro i hi
  obtain ⟨b, o, e, hb, hcell⟩ := h i hi
  refine ⟨b, o, e, by simpa [World.setCell] using hb, ?_⟩
  rw [World.cell?_setCell_other (h := ?_)]
  · exact hcell
  · intro heq
    rw [heq, hcell] at hc
    exact hx _ (Option.some.inj hc).symm
theorem Ctx.setBox {w0 w : World} {l : List Ent} {g j : Nat} {x : Value} (h : Ctx w0 w l) (hg : w0.heap.size ≤ g) (hc : w.cell? ⟨g, j, none⟩ = some x) (hx : ∀ n : Int, x ≠ .int .u32 n) (v : Value) : Ctx w0 (w.setCell ⟨g, j, none⟩ v) l :=
  ⟨h.below.setCell hg v, fun y hy => by
    obtain ⟨ad, cap, h1, h2, h3, h4, h5, h6⟩ := h.all y hy
    exact ⟨ad, cap, h1, h2, h3, h4, h5.setBox hc hx v, h6⟩⟩
theorem Ctx.box3 {w0 w : World} {l : List Ent} {g : Nat} {b : Bool} {a : Option Addr} {n c : Nat} {x : Int} (h : Ctx w0 w l) (hg : w0.heap.size ≤ g)
    (c0 : w.cell? ⟨g, 0, none⟩ = some (.bool b)) (c1 : w.cell? ⟨g, 1, none⟩ = some (.slice a n c)) (c2 : w.cell? ⟨g, 2, none⟩ = some (.int .i64 x)) (v0 v1 v2 : Value) :
    Ctx w0 (((w.setCell ⟨g, 0, none⟩ v0).setCell ⟨g, 1, none⟩ v1).setCell ⟨g, 2, none⟩ v2) l := by
  have d1 : (w.setCell ⟨g, 0, none⟩ v0).cell? ⟨g, 1, none⟩ = some (.slice a n c) := by rw [World.cell?_setCell_other (h := by simp)]; exact c1
  have d2 : ((w.setCell ⟨g, 0, none⟩ v0).setCell ⟨g, 1, none⟩ v1).cell? ⟨g, 2, none⟩ = some (.int .i64 x) := by
    rw [World.cell?_setCell_other (h := by simp), World.cell?_setCell_other (h := by simp)]; exact c2
  exact ((h.setBox hg c0 (fun _ => by simp) v0).setBox hg d1 (fun _ => by simp) v1).setBox hg d2 (fun _ => by simp) v2

theorem chkB_wide {neg : Bool} {m : Nat} {e : Int} (hm : m ≠ 0) (h : ¬ ((limbs m).length ≤ 90 ∧ -1200 ≤ e ∧ e ≤ 1200)) : chkB neg (limbs m) e = false := by
  unfold chkB
  rw [if_neg (fun h0 => hm ((limbs_nil_iff m).1 (List.eq_nil_of_length_eq_zero h0)))]
  exact decide_eq_false (fun h1 => h ⟨h1.1, h1.2.2.1, h1.2.2.2.1⟩)

end Go.Proofs.Ytndjdmgncjiggaa
/- The walks of num's cmpSizes, Cmp. The walks of slices.Equal at limbs, of num's Same. -/
namespace Go.Proofs.Ytndjdmgncjiggaa
open Go.RowKit Go.Sort
set_option linter.unusedVariables false
set_option linter.unusedSimpArgs false

theorem txt_list (l : List Nat) : (txt l).data.toList = l.map UInt8.ofNat := by simp [txt]
theorem cmpD_unf (N : Nat) (e : Int) (M : Nat) (f : Int) :
    cmpD N e M f = if Lib.compareInt (((dec N).length : Int) + e) (((dec M).length : Int) + f) = 0 then Lib.compareBytes (txt (dec N)).data.toList (txt (dec M)).data.toList else Lib.compareInt (((dec N).length : Int) + e) (((dec M).length : Int) + f) := by
  unfold cmpD Lib.compareInt
  rw [txt_list, txt_list]
  repeat' split
  all_goals first | rfl | omega

theorem ten_pow (k : Nat) : tenN (10 * k) = (10 ^ 10) ^ k := Nat.pow_mul _ _ _
theorem dec_len90 {xs : List Nat} (ho : Okl xs) (h : xs.length ≤ 90) : (dec (val xs)).length ≤ 900 := by
  refine dec_len_le (by omega) ?_
  have h1 := val_lt ho
  have h2 : B32 ^ xs.length ≤ B32 ^ 90 := Nat.pow_le_pow_right B32_pos h
  have h3 : B32 ^ 90 ≤ tenN (10 * 90) := by
    rw [ten_pow]
    exact Nat.pow_le_pow_left (by decide) 90
  exact Nat.lt_of_lt_of_le h1 (Nat.le_trans h2 h3)

/-- A number in the world: its value, its sign, its limbs, its tens; it may be. -/
structure NumOk (w : World) (neg : Bool) (ad : Option Addr) (n cap : Nat) (xs : List Nat) (e : Int) : Prop where
  len : xs.length = n
  cap : n ≤ cap
  ok : Okl xs
  rd : Rd w ad xs
  chk : chkB neg xs e = true
theorem NumOk.below {w w' : World} {neg : Bool} {ad : Option Addr} {n cap : Nat} {xs : List Nat} {e : Int} (h : NumOk w neg ad n cap xs e) (hb : Below w.heap.size w w') : NumOk w' neg ad n cap xs e :=
  ⟨h.len, h.cap, h.ok, h.rd.below hb, h.chk⟩
theorem NumOk.n90 {w : World} {neg : Bool} {ad : Option Addr} {n cap : Nat} {xs : List Nat} {e : Int} (h : NumOk w neg ad n cap xs e) : n ≤ 90 := by have := (chkB_bounds h.chk).1; have := h.len; omega
theorem NumOk.lo {w : World} {neg : Bool} {ad : Option Addr} {n cap : Nat} {xs : List Nat} {e : Int} (h : NumOk w neg ad n cap xs e) : -1200 ≤ e ∧ e ≤ 1200 := (chkB_bounds h.chk).2
theorem sideN_cmp {na nb : Bool} {xs ys : List Nat} {e f : Int} {n n' : Nat} (hn : xs.length = n) (hn' : ys.length = n') (ha : chkB na xs e = true) (hb : chkB nb ys f = true) (ho : Okl xs) (ho' : Okl ys) :
    cmpZ (valZ na (val xs) e) (valZ nb (val ys) f) = if Lib.compareInt (sideN na n) (sideN nb n') = 0 then sideN na n * cmpD (val xs) e (val ys) f else Lib.compareInt (sideN na n) (sideN nb n') := by
  have key : ∀ {neg : Bool} {zs : List Nat} {g : Int} {m : Nat}, zs.length = m → chkB neg zs g = true → Okl zs → (m = 0 ∧ sideN neg m = 0 ∧ valZ neg (val zs) g = 0) ∨ (m ≠ 0 ∧ val zs % 10 ≠ 0 ∧ -1200 ≤ g ∧ ((neg = true ∧ sideN neg m = -1 ∧ valZ neg (val zs) g = -(sizeN (val zs) g : Int)) ∨ (neg = false ∧ sideN neg m = 1 ∧ valZ neg (val zs) g = (sizeN (val zs) g : Int))) ∧ 0 < sizeN (val zs) g) := by
    intro neg zs g m hm hc hz
    by_cases h0 : m = 0
    · left
      have hz0 : zs = [] := List.eq_nil_of_length_eq_zero (by omega)
      subst hz0
      refine ⟨h0, by unfold sideN; rw [if_pos h0], ?_⟩
      simp [valZ, val, sizeN_zero]
    · right
      have hz0 : zs ≠ [] := fun h => h0 (by rw [← hm, h]; rfl)
      obtain ⟨_, _, a, _, b⟩ := chkB_some hz0 hc
      have hv : val zs ≠ 0 := fun h => by rw [h] at b; exact b rfl
      refine ⟨h0, b, a, ?_, sizeN_pos hv⟩
      cases neg
      · right; exact ⟨rfl, by unfold sideN; rw [if_neg h0]; rfl, rfl⟩
      · left; exact ⟨rfl, by unfold sideN; rw [if_neg h0]; rfl, rfl⟩
  rcases key hn ha ho with ⟨_, h2, h3⟩ | ⟨_, b1, b2, (⟨_, h2, h3⟩ | ⟨_, h2, h3⟩), h4⟩ <;> rcases key hn' hb ho' with ⟨_, g2, g3⟩ | ⟨_, c1, c2, (⟨_, g2, g3⟩ | ⟨_, g2, g3⟩), g4⟩ <;> rw [h2, g2, h3, g3]
  · simp [Lib.compareInt, cmpZ]
  · rw [cmpZ_gt (by omega)]; simp [Lib.compareInt]
  · rw [cmpZ_lt (by omega)]; simp [Lib.compareInt]
  · rw [cmpZ_lt (by omega)]; simp [Lib.compareInt]
  · rw [cmpZ_neg, cmpZ_nat, cmpD_eq b1 c1 b2 c2]; simp [Lib.compareInt]
  · rw [cmpZ_lt (by omega)]; simp [Lib.compareInt]
  · rw [cmpZ_gt (by omega)]; simp [Lib.compareInt]
  · rw [cmpZ_gt (by omega)]; simp [Lib.compareInt]
  · rw [cmpZ_nat, cmpD_eq b1 c1 b2 c2]; simp [Lib.compareInt]

theorem below_drew {B : Nat} {a w : World} (h : Below B a w) : Below B a w.drew := h.trans ⟨rfl, rfl, rfl, Nat.le_refl _, fun _ _ => rfl⟩
theorem cmpD_bd (N : Nat) (e : Int) (M : Nat) (f : Int) : -1 ≤ cmpD N e M f ∧ cmpD N e M f ≤ 1 := by
  have key : ∀ a b : List UInt8, -1 ≤ Lib.compareBytes a b ∧ Lib.compareBytes a b ≤ 1 := by
    intro a
    induction a with
    | nil => intro b; cases b <;> simp [Lib.compareBytes]
    | cons x a ih =>
      intro b
      cases b with
      | nil => simp [Lib.compareBytes]
      | cons y b =>
        simp only [Lib.compareBytes]
        have := ih b
        repeat' split
        all_goals omega
  unfold cmpD
  have := key ((dec N).map UInt8.ofNat) ((dec M).map UInt8.ofNat)
  repeat' split
  all_goals omega
theorem mul_small {a b : Int} (h : -1 ≤ a ∧ a ≤ 1) (k : -1 ≤ b ∧ b ≤ 1) : -9223372036854775808 ≤ a * b ∧ a * b ≤ 9223372036854775807 := by
  obtain rfl | rfl | rfl : a = -1 ∨ a = 0 ∨ a = 1 := by omega
  all_goals omega
def CmpCut (w wx : World) (na : Bool) (va : Value) (e : Int) (nb : Bool) (vb : Value) (f : Int) : Prop :=
  Below w.heap.size w wx ∧ w.heap.size + 1 < wx.heap.size ∧ (wx.cell? ⟨w.heap.size, 0, none⟩ = some (.bool na) ∧ wx.cell? ⟨w.heap.size, 1, none⟩ = some va ∧ wx.cell? ⟨w.heap.size, 2, none⟩ = some (.int .i64 e)) ∧
    (wx.cell? ⟨w.heap.size + 1, 0, none⟩ = some (.bool nb) ∧ wx.cell? ⟨w.heap.size + 1, 1, none⟩ = some vb ∧ wx.cell? ⟨w.heap.size + 1, 2, none⟩ = some (.int .i64 f))

end Go.Proofs.Ytndjdmgncjiggaa
namespace Go.Proofs.Ytndjdmgncjiggaa
open Go.RowKit Go.Sort
set_option linter.unusedVariables false
set_option linter.unusedSimpArgs false

def EqRel (n : Nat) (xs ys : List Nat) (w : World) (i : Value) (wr : World) : Prop := ∃ (k q : Nat), k ≤ n ∧ i = .int .i64 (k : Int) ∧ (∀ j, j < k → xs.getD j 0 = ys.getD j 0) ∧ wr = w.drewN q
def EqPost (b : Bool) (w : World) (e : Ending) (w' : World) : Prop := e = .returned (.bool b) ∧ ∃ q, w' = w.drewN q

theorem getD_of_ne {xs ys : List Nat} {j : Nat} (h : xs.getD j 0 ≠ ys.getD j 0) : xs ≠ ys := fun h0 => h (by rw [h0])

theorem same_eq {na nb : Bool} {xs ys : List Nat} {e f : Int} : decide ((na = nb ∧ e = f) ∧ xs = ys) = ((decide (na = nb) && decide (e = f)) && decide (xs = ys)) := by simp

end Go.Proofs.Ytndjdmgncjiggaa
