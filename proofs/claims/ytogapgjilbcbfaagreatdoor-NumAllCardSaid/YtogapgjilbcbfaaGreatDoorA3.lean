/- The walks of addTo and takeTimes. The walk of takeTimes. make and copy of limbs, as laws of the walk. -/
import Derived.Test.YtogapgjilbcbfaaGreatDoorA2
import Derived.Test.YtogapgjilbcbfaaGreatDoorA1
import Derived.Laws.CopyOwn
namespace Go.Proofs.YtogapgjilbcbfaaGreatDoor
open Go.RowKit
set_option linter.unusedVariables false
set_option linter.unusedSimpArgs false

theorem wv_ext {zs ys : List Nat} {o k : Nat} (hl : zs.length = ys.length) (h : ∀ j, k ≤ j → zs.getD (o + j) 0 = ys.getD (o + j) 0) :
    ∀ n, k ≤ n → o + n ≤ ys.length → wv zs o n + wv ys o k = wv ys o n + wv zs o k := by
  intro n
  induction n with
  | zero => intro h0 _; obtain rfl : k = 0 := by omega
            omega
  | succ n ih =>
    intro hk hn
    by_cases hkn : k = n + 1
    · subst hkn; omega
    · have := ih (by omega) (by omega)
      rw [wv_succ zs o n (by omega), wv_succ ys o n (by omega), h n (by omega)]; omega

/-- What addTo and its like leave: the list in block g, parted in the window alone. -/
def AddToPost (g o n : Nat) (ys xs : List Nat) (r : List Value) (w : World) (e : Ending) (w' : World) : Prop :=
  ∃ zs cy, e = .returned (.int .u32 ((cy : Nat) : Int)) ∧ cy ≤ 1 ∧ Win ys zs o n ∧ Okl zs ∧ wv zs o n + B32 ^ n * cy = wv ys o n + val xs ∧ w' = put g zs r w

def ADRel (g o n : Nat) (ys xs : List Nat) (k0 : Nat) (r : List Value) (w : World) (c i : Value) (wr : World) : Prop :=
  ∃ (k cy : Nat) (zs : List Nat), k ≤ n ∧ k0 ≤ k ∧ i = .int .i64 k ∧ c = .int .u32 cy ∧ cy ≤ 1 ∧ Win ys zs o n ∧ Okl zs ∧ (∀ j, k ≤ j → zs.getD (o + j) 0 = ys.getD (o + j) 0) ∧
    wv zs o k + B32 ^ k * cy = wv ys o k + val (xs.take k) ∧ wr = put g zs r w

theorem ad_num {x z cy B a P W V s q : Nat} (h : a + P * cy = W + V) (e : s + B * q = z + x + cy) : a + P * s + P * B * q = W + P * z + (V + P * x) := by
  have h3 : P * (s + B * q) = P * (z + x + cy) := by rw [e]
  grind

theorem ad_step {g o n k cy x z : Nat} {ys xs zs : List Nat} {r : List Value} {w : World} {k0 : Nat} (hyl : o + n ≤ ys.length) (hk : k < n) (hk0 : k0 ≤ k) (hcy : cy ≤ 1) (hx : val (xs.take (k + 1)) = val (xs.take k) + B32 ^ k * x) (hz : zs.getD (o + k) 0 = z) (hxb : x < B32) (hzb : z < B32)
    (hb : Blk w g ys r) (hwin : Win ys zs o n) (hoz : Okl zs) (hs : ∀ j, k ≤ j → zs.getD (o + j) 0 = ys.getD (o + j) 0) (he : wv zs o k + B32 ^ k * cy = wv ys o k + val (xs.take k)) :
    ADRel g o n ys xs k0 r w (.int .u32 ((cry z x cy : Nat) : Int)) (.int .i64 ((k : Int) + 1)) ((put g zs r w).setCell ⟨g, o + k, none⟩ (.int .u32 ((smd z x cy : Nat) : Int))) := by
  rw [set_blk (put_blk _ _ hb.lt) _ _ (by rw [hwin.len]; omega), put_put]
  refine ⟨k + 1, _, zs.set (o + k) (smd z x cy), hk, by omega, rfl, rfl, cry_le hzb hxb hcy, hwin.set _ _ (by omega), hoz.set _ _ (smd_lt _ _ _), win_ext hs, ?_, rfl⟩
  rw [wv_set _ _ _ _ (by rw [hwin.len]; omega), wv_succ ys o k (by omega), ← hs k (Nat.le_refl _), hz, hx, Nat.pow_succ]
  exact ad_num he (smd_eq z x cy)

theorem ad_end {g o n k cy : Nat} {ys xs zs : List Nat} {r : List Value} {w : World} (hyl : o + n ≤ ys.length) (hk : k ≤ n) (hm : xs.length ≤ k) (hcy : cy ≤ 1) (hout : k = n ∨ cy = 0)
    (hwin : Win ys zs o n) (hoz : Okl zs) (hs : ∀ j, k ≤ j → zs.getD (o + j) 0 = ys.getD (o + j) 0) (he : wv zs o k + B32 ^ k * cy = wv ys o k + val (xs.take k)) :
    AddToPost g o n ys xs r w (.returned (.int .u32 (cy : Int))) (put g zs r w) := by
  refine ⟨zs, cy, rfl, hcy, hwin, hoz, ?_, rfl⟩
  rw [List.take_of_length_le hm] at he
  rcases hout with rfl | rfl
  · exact he
  · have := wv_ext hwin.len hs n hk hyl
    simp only [Nat.mul_zero, Nat.add_zero] at he ⊢
    omega

end Go.Proofs.YtogapgjilbcbfaaGreatDoor
namespace Go.Proofs.YtogapgjilbcbfaaGreatDoor
open Go.RowKit
set_option linter.unusedVariables false
set_option linter.unusedSimpArgs false

/-- What takeTimes leaves: what was too much is q, times the base as often as the list has limbs. -/
def TakePost (g o n : Nat) (ys xs : List Nat) (f : Nat) (r : List Value) (w : World) (e : Ending) (w' : World) : Prop :=
  ∃ zs q, e = .returned (.bool (decide ((0 : Int) < (q : Nat)))) ∧ Win ys zs o n ∧ Okl zs ∧ wv zs o n + f * val xs = wv ys o n + B32 ^ n * q ∧ w' = put g zs r w

def TKRel (g o n : Nat) (ys xs : List Nat) (f k0 : Nat) (r : List Value) (w : World) (c br i : Value) (wr : World) : Prop :=
  ∃ (k cy bo : Nat) (zs : List Nat), k ≤ n ∧ k0 ≤ k ∧ i = .int .i64 k ∧ c = .int .u64 cy ∧ br = .int .u32 bo ∧ cy < B32 ∧ bo ≤ 1 ∧ Win ys zs o n ∧ Okl zs ∧ (∀ j, k ≤ j → zs.getD (o + j) 0 = ys.getD (o + j) 0) ∧
    wv zs o k + f * val (xs.take k) = wv ys o k + B32 ^ k * (cy + bo) ∧ wr = put g zs r w

theorem tk_num {x z c b c' b' B a P W V f d l : Nat} (h : a + f * V = W + P * (c + b)) (e1 : l + B * c' = x * f + c) (e2 : z + B * b' = d + l + b) : a + P * d + f * (V + P * x) = W + P * z + P * B * (c' + b') := by
  have h3 : P * (l + B * c') = P * (x * f + c) := by rw [e1]
  have h4 : P * (z + B * b') = P * (d + l + b) := by rw [e2]
  grind

theorem tk_step {g o n k k0 cy bo x z f c' l : Nat} {ys xs zs : List Nat} {r : List Value} {w : World} (hyl : o + n ≤ ys.length) (hk : k < n) (hk0 : k0 ≤ k) (hbo : bo ≤ 1) (hx : val (xs.take (k + 1)) = val (xs.take k) + B32 ^ k * x) (hz : zs.getD (o + k) 0 = z) (hzb : z < B32)
    (hc' : c' < B32) (hl : l < B32) (el : l + B32 * c' = x * f + cy)
    (hb : Blk w g ys r) (hwin : Win ys zs o n) (hoz : Okl zs) (hs : ∀ j, k ≤ j → zs.getD (o + j) 0 = ys.getD (o + j) 0) (he : wv zs o k + f * val (xs.take k) = wv ys o k + B32 ^ k * (cy + bo)) :
    TKRel g o n ys xs f k0 r w (.int .u64 ((c' : Nat) : Int)) (.int .u32 ((brw z l bo : Nat) : Int)) (.int .i64 ((k : Int) + 1)) ((put g zs r w).setCell ⟨g, o + k, none⟩ (.int .u32 ((dif z l bo : Nat) : Int))) := by
  rw [set_blk (put_blk _ _ hb.lt) _ _ (by rw [hwin.len]; omega), put_put]
  refine ⟨k + 1, c', brw z l bo, zs.set (o + k) (dif z l bo), hk, by omega, rfl, rfl, rfl, hc', brw_le _ _ _, hwin.set _ _ (by omega), hoz.set _ _ (dif_lt _ _ _), win_ext hs, ?_, rfl⟩
  rw [wv_set _ _ _ _ (by rw [hwin.len]; omega), wv_succ ys o k (by omega), ← hs k (Nat.le_refl _), hz, hx, Nat.pow_succ]
  exact tk_num he el (dif_eq hzb hl hbo)

theorem tk_end {g o n k cy bo f : Nat} {ys xs zs : List Nat} {r : List Value} {w : World} (hyl : o + n ≤ ys.length) (hk : k ≤ n) (hm : xs.length ≤ k) (hout : k = n ∨ cy + bo = 0)
    (hwin : Win ys zs o n) (hoz : Okl zs) (hs : ∀ j, k ≤ j → zs.getD (o + j) 0 = ys.getD (o + j) 0) (he : wv zs o k + f * val (xs.take k) = wv ys o k + B32 ^ k * (cy + bo)) :
    TakePost g o n ys xs f r w (.returned (.bool (decide ((0 : Int) < (cy : Int) + (bo : Int))))) (put g zs r w) := by
  refine ⟨zs, cy + bo, by rw [Int.natCast_add], hwin, hoz, ?_, rfl⟩
  rw [List.take_of_length_le hm] at he
  rcases hout with rfl | h0
  · exact he
  · have := wv_ext hwin.len hs n hk hyl
    rw [h0] at he ⊢
    simp only [Nat.mul_zero, Nat.add_zero] at he ⊢
    omega

end Go.Proofs.YtogapgjilbcbfaaGreatDoor
namespace Go.Proofs.YtogapgjilbcbfaaGreatDoor
open Go.RowKit
set_option linter.unusedVariables false
set_option linter.unusedSimpArgs false

theorem info_u32 : (Tryz.prog.info? 42).map (fun i => (i.zero, i.size, i.bytes)) = some (some (.int .u32 0), 1, 4) := by kernel_rfl
theorem lv_zero : lv 0 = .int .u32 0 := rfl

theorem made_zero (n : Nat) : (madeCells (Value.cells (.int .u32 0)) n).toList = (List.replicate n 0).map lv ++ [] := by
  simp only [madeCells, List.append_nil]
  apply List.ext_getElem
  · simp
  · intro i h1 h2; simp [Value.cells, lv, Nat.mod_one]

theorem wpl_make (w : World) {ops : Array Oper} {rest : List Oper} {o : Oper} {a : Act} {Q : Exit → Act → World → Prop}
    (hg : o.guard = none) (l c : Operand) (hop : o.op = Op.makeSlice 22 l c) (kl kc : IntKind) (L C : Int) (n : Nat)
    (hl : a.eval l = .int kl L) (hc : a.eval c = .int kc C) (hL : L = (n : Int)) (hC : C = (n : Int)) (hn : n ≤ 1000000000000)
    (hK : ∀ w', Blk w' w.heap.size (List.replicate n 0) [] → Below w.heap.size w w' → wpList Tryz.prog ops Q rest (a.put o.dst (.slice (some ⟨w.heap.size, 0, none⟩) n n)) w') :
    wpList Tryz.prog ops Q (o :: rest) a w := by
  obtain ⟨i0, hi, hz0, hz1, hz2⟩ := info_parts info_u32
  refine wpList_make_full w hg l c 22 hop w.heap.size 42 i0 (.int .u32 0) 1 Tryz.underlying22 hi hz0 hz1 kl kc L C n hl hc hL hC (by rw [hz2]; omega) (by unfold maxLen; omega) (Nat.le_refl _) ?_
  intro w' ho hgr
  refine hK w' ?_ ((Below.refl _ _).grown hgr (Nat.le_refl _) (fun k h => by cases h))
  obtain ⟨hl', h | ⟨g, cap, cur, e, _, hh, _, _, hs, ht⟩⟩ := ho
  · exact absurd h.1 (by simp)
  · simp only [Value.slice.injEq, Option.some.injEq, Addr.mk.injEq] at e
    obtain ⟨⟨rfl, _⟩, _, rfl⟩ := e
    unfold Blk
    rw [hh, ← made_zero]
    have : cur.toList = (madeCells (Value.cells (.int .u32 0)) n).toList := by
      have h2 := ht
      rw [List.take_of_length_le (by simp [hs])] at h2
      simpa using h2
    rw [← this]

theorem wpl_copy {w : World} {ops : Array Oper} {rest : List Oper} {o : Oper} {a : Act} {Q : Exit → Act → World → Prop} (hgd : o.guard = none) (d s : Operand)
    (ho : o.op = .call { callee := .builtin .copy, args := #[d, s], argTypes := #[22, 22] }) (g n cap : Nat) (ad : Option Addr) (m cap' : Nat)
    (hd : a.eval d = .slice (some ⟨g, 0, none⟩) n cap) (hs : a.eval s = .slice ad m cap') (ys xs : List Nat) (r : List Value) (hb : Blk w g ys r) (hy : ys.length = n) (hx : xs.length = m) (hmn : m ≤ n) (hr : Rd w ad xs)
    (h : wpList Tryz.prog ops Q rest (a.put o.dst (goInt m)) (put g (xs ++ ys.drop m) r w)) : wpList Tryz.prog ops Q (o :: rest) a w := by
  have hsz : (Tryz.prog.info? 42).map (·.size) = some 1 := by kernel_rfl
  by_cases h0 : m = 0
  · subst h0
    obtain rfl : xs = [] := List.eq_nil_of_length_eq_zero hx
    refine wpList_copy_nothing hgd d s _ _ ho 42 Tryz.underlying22 hsz _ _ _ _ _ _ hd hs (by simp) ?_
    rw [List.nil_append, List.drop_zero, put_same hb] at h
    exact h
  · obtain ⟨b, o', e, _, _⟩ := hr 0 (by omega)
    subst e
    refine wpList_copy_own hgd d s _ _ ho 42 Tryz.underlying22 hsz g 0 n cap ⟨b, o', none⟩ m cap' hd hs _ _ hb (xs.map lv) (by rw [List.length_map, hx]; exact (Nat.min_eq_left hmn).symm) ?_ (by simp; omega) ?_ ?_
    · intro j v hj
      have hjl : j < xs.length := by
        rcases Nat.lt_or_ge j xs.length with h1 | h1
        · exact h1
        · rw [List.getElem?_eq_none (by simpa using h1)] at hj; cases hj
      have hc := hr.at j hjl
      have e : (Addr.add ⟨b, o', none⟩ j) = ⟨b, o' + j, none⟩ := by unfold Addr.add; split <;> simp_all
      rw [e, hc]
      rw [List.getElem?_map, List.getElem?_eq_getElem hjl] at hj
      simp only [Option.map_some, Option.some.injEq] at hj
      rw [← hj]; simp [lv, List.getD, hjl]
    · intro v hv
      obtain ⟨x, _, rfl⟩ := List.mem_map.1 hv
      rfl
    · have e : w.setRow g ((List.map lv ys ++ r).toArray.toList.take 0 ++ (xs.map lv ++ (List.map lv ys ++ r).toArray.toList.drop (0 + (xs.map lv).length))).toArray = put g (xs ++ ys.drop m) r w := by
        have hlt := hb.lt
        unfold Blk at hb
        have e2 : (w.setRow g ((List.map lv ys ++ r).toArray.toList.take 0 ++ (xs.map lv ++ (List.map lv ys ++ r).toArray.toList.drop (0 + (xs.map lv).length))).toArray).heap = (put g (xs ++ ys.drop m) r w).heap := by
          apply Array.ext_getElem?
          intro k
          by_cases hk : k = g
          · subst hk
            rw [setRow_heap _ _ _ _ _ _ hb]
            simp only [put]
            rw [Array.getElem?_setIfInBounds_self_of_lt hlt]
            simp only [List.take_zero, List.nil_append, List.length_map, Nat.zero_add, hx, List.map_append, List.map_drop, List.append_assoc]
            rw [List.drop_append_of_le_length (by simp; omega)]
          · rw [setRow_other _ _ _ _ hk, put_other _ _ _ _ _ hk]
        unfold World.setRow at e2 ⊢
        unfold put at e2 ⊢
        simp only at e2
        rw [e2]
      rw [e]
      rw [List.length_map, hx]
      exact h

theorem Own.row {B : Nat} {w : World} {v : Value} {xs : List Nat} (h : Own B w v xs) : w.ownsRow B 42 1 v xs.length (xs.map lv) := by
  obtain ⟨_, ⟨rfl, rfl⟩ | ⟨g, cap, r, rfl, hg, hb, hc, hm⟩⟩ := h
  · exact ⟨by simp, .inl ⟨rfl, rfl⟩⟩
  · refine ⟨by simp, .inr ⟨g, cap, _, rfl, hg, hb, by omega, hm, by simp; omega, ?_⟩⟩
    simp
theorem own_of_row {B : Nat} {w : World} {v : Value} {n : Nat} {xs : List Nat} (h : w.ownsRow B 42 1 v n (xs.map lv)) (ho : Okl xs) : Own B w v xs := by
  obtain ⟨hl, ⟨rfl, rfl⟩ | ⟨g, cap, cur, rfl, hg, hb, hc, hm, hs, ht⟩⟩ := h
  · have : xs = [] := List.eq_nil_of_length_eq_zero (by simpa using hl)
    subst this
    exact Own.nil _ _
  · simp only [List.length_map, Nat.mul_one] at hl
    subst hl
    refine ⟨ho, .inr ⟨g, cap, cur.toList.drop xs.length, rfl, hg, ?_, ?_, hm⟩⟩
    · unfold Blk; rw [hb]
      have : cur = (xs.map lv ++ cur.toList.drop xs.length).toArray := by
        rw [← ht, Nat.mul_one, List.take_append_drop]
      rw [← this]
    · have : cur.toList.length = cap := by simpa using hs
      rw [List.length_drop, this]; omega
theorem Own.blockGe {B : Nat} {w : World} {v : Value} {xs : List Nat} (h : Own B w v xs) : ∀ k, v.ownBlock = some k → B ≤ k := by
  obtain ⟨_, ⟨rfl, rfl⟩ | ⟨g, cap, r, rfl, hg, _⟩⟩ := h
  · intro k e; cases e
  · intro k e; cases e; exact hg

theorem wpl_append {w : World} {ops : Array Oper} {rest : List Oper} {o : Oper} {a : Act} {Q : Exit → Act → World → Prop} (hgd : o.guard = none) (s x : Operand)
    (ho : o.op = .call { callee := .builtin .append, args := #[s, x], argTypes := #[22, 22] }) (B : Nat) (v : Value) (xs : List Nat) (hs : a.eval s = v) (hown : Own B w v xs)
    (ad : Addr) (c : Nat) (y : Nat) (hx : a.eval x = .slice (some ad) 1 c) (hy : y < B32) (hc : w.cell? ad = some (.int .u32 (y : Int))) (hl : xs.length ≤ 1000000000) (hB : B ≤ w.heap.size)
    (h : ∀ v' w', Own B w' v' (xs ++ [y]) → Below B w w' → w.grownBy w' v.ownBlock → wpList Tryz.prog ops Q rest (a.put o.dst v') w') : wpList Tryz.prog ops Q (o :: rest) a w := by
  obtain ⟨i0, hi, hz0, hz1, hz2⟩ := info_parts info_u32
  refine wpList_append_own w hgd s x 22 ho B 42 i0 (.int .u32 0) 1 4 Tryz.underlying22 hi hz0 hz1 hz2 rfl (by decide) v xs.length (xs.map lv) hs hown.row ad 1 c [lv y] hx rfl ?_ ?_ (by unfold maxLen; omega) (by omega) hB ?_
  · intro j u hj
    rcases j with _ | j
    · simp only [List.getElem?_cons_zero, Option.some.injEq] at hj
      subst hj; simpa [Addr.add, lv] using hc
    · simp at hj
  · intro u hu; simp only [List.mem_singleton] at hu; subst hu; rfl
  · intro v' w' hown' hgr _
    refine h v' w' ?_ ((Below.refl _ _).grown hgr hB hown.blockGe) hgr
    have e : xs.map lv ++ [lv y] = (xs ++ [y]).map lv := by simp
    rw [e] at hown'
    exact own_of_row hown' (hown.1.append (Okl.cons hy Okl.nil))
end Go.Proofs.YtogapgjilbcbfaaGreatDoor
