/- append of a list of limbs to an own one, as a law of the walk. SameLimbs at two lists that are the same. More of the context: SameLimbs, Parse; lemmas on bits, digits, noughts. -/
import Derived.Test.YtogapgjilbcbfaaGreatDoorB1
import Derived.Laws.OwnMore
namespace Go.Proofs.YtogapgjilbcbfaaGreatDoor
open Go.RowKit
set_option linter.unusedVariables false
set_option linter.unusedSimpArgs false

theorem run_append_none {P : Program} {w : World} (base : Nat) (t ty e : TypeId) (i : TypeInfo) (size : Nat) (ht : P.underlying t = some (.slice e)) (hi : P.info? e = some i)
    (v : Value) (n c : Nat) (xs : List Value) (hown : w.ownsRow base e size v n xs) :
    (Builtin.append_ #[t, t] ty #[v, .slice none 0 c]).run P w = .ok v w := by
  rcases hown.2 with ⟨rfl, rfl⟩ | ⟨g, cap, cur, rfl, _, _, hnc, _⟩
  · simp [Builtin.append_, run_underlying ht, sizeOf, typeInfo, hi, Builtin.lenOf, Builtin.firstCells]
  · simp [Builtin.append_, run_underlying ht, sizeOf, typeInfo, hi, Builtin.lenOf, Builtin.firstCells, hnc, storeCells]

theorem wpl_append_none {P : Program} {w : World} {ops : Array Oper} {rest : List Oper} {o : Oper} {a : Act} {Q : Exit → Act → World → Prop} (hgd : o.guard = none) (s x : Operand) (t : TypeId)
    (ho : o.op = .call { callee := .builtin .append, args := #[s, x], argTypes := #[t, t] })
    (base : Nat) (e : TypeId) (i : TypeInfo) (size : Nat) (ht : P.underlying t = some (.slice e)) (hi : P.info? e = some i)
    (v : Value) (n c : Nat) (xs : List Value) (hs : a.eval s = v) (hown : w.ownsRow base e size v n xs) (hx : a.eval x = .slice none 0 c)
    (h : wpList P ops Q rest (a.put o.dst v) w) : wpList P ops Q (o :: rest) a w := by
  refine wpList_plain hgd fun K hK => ?_
  have hrun := run_append_none (P := P) (w := w) base t o.type e i size ht hi v n c xs hown
  unfold Oper.wp
  simp [execOp, ho, resolve, invoke, builtin, hs, hx, hrun, Result.andThen]
  exact hK _ _ h

theorem wpl_append_rd {w : World} {ops : Array Oper} {rest : List Oper} {o : Oper} {a : Act} {Q : Exit → Act → World → Prop} (hgd : o.guard = none) (s x : Operand)
    (ho : o.op = .call { callee := .builtin .append, args := #[s, x], argTypes := #[22, 22] }) (B : Nat) (v : Value) (xs : List Nat) (hs : a.eval s = v) (hown : Own B w v xs)
    (ad : Option Addr) (m c : Nat) (ys : List Nat) (hx : a.eval x = .slice ad m c) (hy : Okl ys) (hyl : ys.length = m) (hr : Rd w ad ys) (hl : xs.length + m ≤ 1000000000) (hB : B ≤ w.heap.size)
    (h : ∀ v' w', Own B w' v' (xs ++ ys) → Below B w w' → wpList Tryz.prog ops Q rest (a.put o.dst v') w') : wpList Tryz.prog ops Q (o :: rest) a w := by
  obtain ⟨i0, hi, hz0, hz1, hz2⟩ := info_parts info_u32
  cases ad with
  | none =>
    have hm : m = 0 := by
      rcases Nat.eq_zero_or_pos m with h0 | h0
      · exact h0
      · obtain ⟨b, o', e, _⟩ := hr 0 (by omega)
        cases e
    subst hm
    obtain rfl : ys = [] := List.eq_nil_of_length_eq_zero hyl
    refine wpl_append_none hgd s x 22 ho B 42 i0 1 Tryz.underlying22 hi v xs.length c (xs.map lv) hs hown.row hx ?_
    exact h v w (by rw [List.append_nil]; exact hown) (Below.refl _ _)
  | some ad =>
    refine wpList_append_own w hgd s x 22 ho B 42 i0 (.int .u32 0) 1 4 Tryz.underlying22 hi hz0 hz1 hz2 rfl (by decide) v xs.length (xs.map lv) hs hown.row ad m c (ys.map lv) hx (by simp [hyl]) ?_ ?_ (by unfold maxLen; omega) (by omega) hB ?_
    · intro j u hj
      have hjl : j < ys.length := by
        rcases Nat.lt_or_ge j ys.length with h1 | h1
        · exact h1
        · rw [List.getElem?_eq_none (by simpa using h1)] at hj; cases hj
      obtain ⟨b, o', e, hlt, hc⟩ := hr j hjl
      cases e
      have e2 : (Addr.add ⟨b, o', none⟩ j) = ⟨b, o' + j, none⟩ := by unfold Addr.add; split <;> simp_all
      rw [e2, hc]
      rw [List.getElem?_map, List.getElem?_eq_getElem hjl] at hj
      simp only [Option.map_some, Option.some.injEq] at hj
      rw [← hj]; simp [lv, List.getD, hjl]
    · intro u hu
      obtain ⟨y, _, rfl⟩ := List.mem_map.1 hu
      rfl
    · intro v' w' hown' hgr _
      refine h v' w' ?_ ((Below.refl _ _).grown hgr hB hown.blockGe)
      have e : xs.map lv ++ ys.map lv = (xs ++ ys).map lv := by simp
      rw [e] at hown'
      have hl2 : xs.length + m = (xs ++ ys).length := by simp [hyl]
      exact own_of_row hown' (hown.1.append hy)

theorem limbs_any (ad : Option Addr) (n cap : Nat) (xs : List Nat) (w : World) (hn : xs.length = n) (hm : n ≤ 100000000) (ho : Okl xs) (hr : Rd w ad xs) :
    Calls Tryz.prog 8 #[.slice ad n cap] w fun e w' => ∃ v, e = .returned v ∧ Own w.heap.size w' v xs ∧ Below w.heap.size w w' := by
  go_enter Tryz.func8, Tryz.ntmps8
  go_wp2_with (at_builtin; refine wpl_append_rd rfl _ _ rfl w.heap.size _ [] rfl (Own.nil _ _) _ _ _ xs rfl ho hn hr (by simp; omega) (Nat.le_refl _) ?_; intro v' w' hv hb)
  go_ret
  exact ⟨_, rfl, by simpa using hv, hb⟩
end Go.Proofs.YtogapgjilbcbfaaGreatDoor
namespace Go.Proofs.YtogapgjilbcbfaaGreatDoor
open Go.RowKit
set_option linter.unusedVariables false
set_option linter.unusedSimpArgs false

def SameRel (n : Nat) (w : World) (i : Value) (wr : World) : Prop := ∃ (k q : Nat), k ≤ n ∧ i = .int .i64 (k : Int) ∧ wr = w.drewN q

set_option maxHeartbeats 2000000 in
theorem same_any (ad : Option Addr) (n cap : Nat) (xs : List Nat) (ad' : Option Addr) (cap' : Nat) (w : World) (hn : xs.length = n) (hcap : n ≤ cap) (hcap' : n ≤ cap') (hm : n ≤ 1000000000) (hr : Rd w ad xs) (hr' : Rd w ad' xs) :
    Calls Tryz.prog 13 #[.slice ad n cap, .slice ad' n cap'] w fun e w' => e = .returned (.bool true) ∧ ∃ q, w' = w.drewN q := by
  have HN := Lib.hid hn; clear hn
  go_enter Tryz.func13, Tryz.ntmps13
  go_wp2_with fail
  go_loopw [5] (fun i wr => SameRel n w i wr) (fun i _ => n - (intOf i).toNat)
  case atStart => exact ⟨0, 0, Nat.zero_le _, rfl, rfl⟩
  case round =>
    obtain ⟨k, q, hk, rfl, rfl⟩ := hrel
    by_cases hkn : k < n
    · obtain ⟨g1, o1, rfl, _, hc1⟩ := hr k (by rw [HN.out]; exact hkn)
      obtain ⟨g2, o2, rfl, _, hc2⟩ := hr' k (by rw [HN.out]; exact hkn)
      generalize xs.getD k 0 = x at *
      have hkn' : (k : Int) < (n : Int) := by omega
      go_wp2
      go_quiet (fail)
      go_wp2
      go_roundw
      case rel => exact ⟨k + 1, _, hkn, by go_num, rfl⟩
      case measure => simp [intOf]; omega
    · have hkn' : ¬ ((k : Int) < (n : Int)) := by omega
      go_wp2
      go_ret
      exact ⟨rfl, q, rfl⟩
end Go.Proofs.YtogapgjilbcbfaaGreatDoor
namespace Go.Proofs.YtogapgjilbcbfaaGreatDoor
open Go.RowKit
set_option linter.unusedVariables false
set_option linter.unusedSimpArgs false

theorem cutP_neg : cutP (-1) = 0 := by decide
theorem ints_eq0 (w : World) : ((0 : Int) == 0) = true := rfl


theorem val_zeros (k : Nat) : val (List.replicate k 0) = 0 := by
  induction k with
  | zero => rfl
  | succ k ih => rw [List.replicate_succ]; simp [val, ih]
theorem val_behind (xs : List Nat) (k : Nat) : val (xs ++ List.replicate k 0) = val xs := by rw [val_append, val_zeros]; simp
theorem cmpN_swap (a b : Nat) : cmpN b a = - cmpN a b := by
  rcases Nat.lt_trichotomy a b with h | h | h
  · rw [cmpN_gt h, cmpN_lt h]; rfl
  · subst h; rw [cmpN_eq]; rfl
  · rw [cmpN_lt h, cmpN_gt h]
theorem cmpN_plus (a b c : Nat) : cmpN (a + c) (c + b) = cmpN a b := by
  rcases Nat.lt_trichotomy a b with h | h | h
  · rw [cmpN_lt h, cmpN_lt (by omega)]
  · subst h; rw [Nat.add_comm c a, cmpN_eq, cmpN_eq]
  · rw [cmpN_gt h, cmpN_gt (by omega)]
theorem cmpN_bd (a b : Nat) : -1 ≤ cmpN a b ∧ cmpN a b ≤ 1 := by unfold cmpN; split <;> (try split) <;> omega
theorem cmpN_pos {a b : Nat} : (0 < cmpN a b) ↔ b < a := by unfold cmpN; split <;> (try split) <;> omega

section
variable {w0 w : World} {l : List Ent} {v1 v2 : Value} {L1 L2 N1 N2 : Nat} {xs ys : List Nat}
theorem same_c (h : Ctx w0 w l) (i j : Nat) (hi : l[i]? = some ⟨v1, L1, N1, xs⟩) (hj : l[j]? = some ⟨v2, L2, N2, xs⟩) (h1 : L1 ≤ 100000000) :
    Calls Tryz.prog 13 #[v1, v2] w fun e w' => e = .returned (.bool true) ∧ Ctx w0 w' l := by
  obtain ⟨ad, cap, rfl, a2, a3, a4, a5, a6⟩ := h.get i hi
  obtain ⟨ad', cap', rfl, b2, b3, b4, b5, b6⟩ := h.get j hj
  refine (same_any ad _ cap xs ad' cap' w rfl a2 b2 (by omega) a5 b5).mono ?_
  rintro e w' ⟨rfl, q, rfl⟩
  exact ⟨rfl, h.drewN q⟩
end

theorem ent_any {B : Nat} {w : World} {v : Value} {xs : List Nat} {N L : Nat} (h : Own B w v xs) (hL : xs.length ≤ L) (hN : val xs = N) : Ent.Ok w ⟨v, L, N, xs⟩ := by
  have ho := h.1
  obtain ⟨ad, cap, rfl, h1, h2, _⟩ := h.view
  exact ⟨ad, cap, rfl, h1, hL, ho, h2, hN⟩


theorem bitsN_bounds {N : Nat} (h : N ≠ 0) : ∃ t, bitsN N = t + 1 ∧ 2 ^ t ≤ N ∧ N < 2 ^ (t + 1) := by
  have hl : (limbs N).length ≠ 0 := fun h0 => h ((limbs_nil_iff N).1 (List.eq_nil_of_length_eq_zero h0))
  obtain ⟨t, ht⟩ : ∃ t, (limbs N).length = t + 1 := ⟨(limbs N).length - 1, by omega⟩
  have hx := (limbs_ok N).getD t
  rw [bitsN_top ht]
  have h1 := limbs_top ht
  have hv := val_limbs N
  have hs : val (limbs N) = val ((limbs N).take t) + B32 ^ t * (limbs N).getD t 0 := by
    have := val_take_succ (limbs N) t (by omega)
    rw [← ht, List.take_length] at this
    exact this
  have hlow := val_lt ((limbs_ok N).take t)
  rw [List.length_take, Nat.min_eq_left (by omega)] at hlow
  rw [hv] at hs
  generalize (limbs N).getD t 0 = d at *
  generalize val ((limbs N).take t) = lo at *
  rw [B32_eq] at hx
  have hb := bitLen_bounds d d (Nat.le_refl _) (by omega) h1
  have e1 : B32 ^ t = 2 ^ (32 * t) := by rw [Nat.pow_mul]; rfl
  rw [e1] at hlow hs
  unfold blen
  generalize Lib.bitLen d = c at *
  obtain ⟨c', rfl⟩ : ∃ c', c = c' + 1 := ⟨c - 1, by omega⟩
  rw [Nat.add_sub_cancel] at hb
  refine ⟨32 * t + c', by omega, ?_, ?_⟩
  · rw [Nat.pow_add, hs]
    have := Nat.mul_le_mul_left (2 ^ (32 * t)) hb.2.1
    exact Nat.le_trans this (Nat.le_add_left _ _)
  · rw [show 32 * t + c' + 1 = 32 * t + (c' + 1) by omega, Nat.pow_add, hs]
    have := Nat.mul_le_mul_left (2 ^ (32 * t)) (show d + 1 ≤ 2 ^ (c' + 1) from hb.2.2)
    rw [Nat.mul_add, Nat.mul_one] at this
    exact Nat.lt_of_lt_of_le (Nat.add_lt_add_right hlow _) (by rw [Nat.add_comm]; exact this)

theorem two_between {t a : Nat} (h1 : 2 ^ t ≤ 2 ^ a) (h2 : 2 ^ a < 2 ^ (t + 1)) : t = a := by
  have h3 := (Nat.pow_le_pow_iff_right (show 1 < 2 by decide)).1 h1
  have h4 := (Nat.pow_lt_pow_iff_right (show 1 < 2 by decide)).1 h2
  omega
theorem two_ne (a : Nat) : 2 ^ a ≠ 0 := Nat.pos_iff_ne_zero.1 (Nat.pow_pos (by decide))
theorem bits_two (a : Nat) : bitsN (2 ^ a) = a + 1 := by
  obtain ⟨t, h, h1, h2⟩ := bitsN_bounds (two_ne a)
  rw [h, two_between h1 h2]
theorem bits_two_less (a : Nat) : bitsN (2 ^ a - 1) = a := by
  cases a with
  | zero => exact bitsN_z
  | succ a =>
    have e : 2 ^ (a + 1) = 2 * 2 ^ a := by rw [Nat.pow_succ, Nat.mul_comm]
    have hp : 1 ≤ 2 ^ a := Nat.pow_pos (by decide)
    obtain ⟨t, h, h1, h2⟩ := bitsN_bounds (N := 2 ^ (a + 1) - 1) (by omega)
    have h3 : 2 ^ t ≤ 2 ^ (a + 1) := by omega
    have h4 := (Nat.pow_le_pow_iff_right (show 1 < 2 by decide)).1 h3
    have h5 : 2 ^ a < 2 ^ (t + 1) := by omega
    have h6 := (Nat.pow_lt_pow_iff_right (show 1 < 2 by decide)).1 h5
    have h7 : t ≠ a + 1 := by rintro rfl; omega
    omega
theorem two_div {a b : Nat} (h : b ≤ a) : 2 ^ a / 2 ^ b = 2 ^ (a - b) := Nat.pow_div h (by decide)
theorem two_mod {a b : Nat} (h : b ≤ a) : rmN (2 ^ a) (2 ^ b) = 0 := by
  rw [rmN, if_neg (two_ne b)]
  exact Nat.mod_eq_zero_of_dvd (Nat.pow_dvd_pow 2 h)
theorem two_lt {a b : Nat} (h : a < b) : 2 ^ a < 2 ^ b := Nat.pow_lt_pow_right (by decide) h


theorem nums_txt {l : List Nat} (h : Okd l) : nums (txt l) = l := by
  unfold nums txt
  simp only [List.map_map]
  apply List.ext_getElem
  · simp
  · intro i h1 h2
    have hx := h l[i] (List.getElem_mem h2)
    simp only [List.getElem_map, Function.comp_apply, UInt8.toNat_ofNat']
    omega
theorem txt_append (l m : List Nat) : txt l ++ txt m = txt (l ++ m) := by
  apply ByteArray.ext
  simp [txt, ByteArray.data_append]
theorem zeros_ok (k : Nat) : Okd (List.replicate k 48) := by
  intro x hx; rw [List.mem_replicate] at hx; omega
theorem Okd.append {l m : List Nat} (h : Okd l) (k : Okd m) : Okd (l ++ m) := by
  intro y hy; rcases List.mem_append.1 hy with hy | hy
  · exact h y hy
  · exact k y hy
theorem hval_zeros (k : Nat) : hval (List.replicate k 48) = 0 := by
  induction k with
  | zero => rfl
  | succ k ih => rw [List.replicate_succ', hval_snoc, ih]
theorem hval_dec (N : Nat) : hval (dec N) = N := dval_dec N
theorem hval_ahead (N k : Nat) : hval (List.replicate k 48 ++ dec N) = N := by rw [hval_append, hval_zeros, hval_dec]; simp
theorem hval_behind (N k : Nat) : hval (dec N ++ List.replicate k 48) = N * tenN k := by rw [hval_append, hval_zeros, hval_dec, List.length_replicate]; rfl
theorem ten_le (n : Nat) : tenN n ≤ B32 ^ n := Nat.pow_le_pow_left (by decide) n
theorem dec_len25 {N : Nat} (h : N < B32 ^ 25) : (dec N).length ≤ 250 := by
  refine dec_len_le (by omega) (Nat.lt_of_lt_of_le h ?_)
  have e : tenN 250 = (10 ^ 10) ^ 25 := by unfold tenN; rw [← Nat.pow_mul]
  rw [e]
  exact Nat.pow_le_pow_left (by decide) 25

theorem parse_c {w0 w : World} {l : List Ent} (h : Ctx w0 w l) {d : List Nat} (hd : Okd d) (h1 : 0 < d.length) (M : Nat) (h2 : d.length ≤ M) (hM : M ≤ 2000) (N : Nat) (hN : hval d = N) :
    Calls Tryz.prog 71 #[.string (txt d)] w fun e w' => ∃ v, e = .returned (.tuple #[v, .bool true]) ∧ Ctx w0 w' (⟨v, M, N, limbs N⟩ :: l) := by
  refine (parse_any (txt d) w).mono ?_
  rw [nums_txt hd]
  rintro e w' ⟨⟨_, _, _, v, rfl, ho⟩ | ⟨hno, _⟩, hb⟩
  · subst hN
    exact ⟨v, rfl, (h.step hb).push (ent_own ho (limbs_length_le (Nat.lt_of_lt_of_le (hval_lt hd) (Nat.le_trans (ten_le _) (Nat.pow_le_pow_right (by decide) h2)))))⟩
  · exact absurd ⟨h1, Nat.le_trans h2 hM, hd⟩ hno

theorem tenN_ne (n : Nat) : tenN n ≠ 0 := Nat.pos_iff_ne_zero.1 (Nat.pow_pos (by decide))

def ZerosRel (k : Nat) (w : World) (z i : Value) (wr : World) : Prop := ∃ j : Nat, j ≤ k ∧ i = .int .i64 (j : Int) ∧ z = .string (txt (List.replicate j 48)) ∧ ∃ q, wr = w.drewN q

end Go.Proofs.YtogapgjilbcbfaaGreatDoor
