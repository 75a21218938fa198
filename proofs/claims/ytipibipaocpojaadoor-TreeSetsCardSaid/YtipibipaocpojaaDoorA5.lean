/- The walks of Mul, Bits. The walk of timesPlus. The walks of shrink, guess. -/
import Derived.Test.YtipibipaocpojaaDoorA4
namespace Go.Proofs.YtipibipaocpojaaDoor
open Go.RowKit
set_option linter.unusedVariables false
set_option linter.unusedSimpArgs false

theorem val_take_add (l : List Nat) (k m : Nat) (h : k + m ≤ l.length) : val (l.take (k + m)) = val (l.take k) + B32 ^ k * wv l k m := by
  rw [List.take_add, val_append, List.length_take, Nat.min_eq_left (by omega)]; rfl
theorem mul_num {A x P Y T : Nat} (h : T = A * Y) : T + P * (x * Y) = (A + P * x) * Y := by subst h; grind

def MulRel (g c c' : Nat) (X Y : List Nat) (w1 : World) (i : Value) (wr : World) : Prop :=
  ∃ (k : Nat) (zs : List Nat), k ≤ c ∧ i = .int .i64 k ∧ zs.length = c + c' ∧ Okl zs ∧ val (zs.take (k + c')) = val (X.take k) * val Y ∧ wr = put g zs [] w1

theorem mul_step {g c c' k x : Nat} {X Y zs zs' : List Nat} {w1 : World} (hX : X.length = c) (hk : k < c) (hx : X.getD k 0 = x) (hl : zs.length = c + c') (hoz : Okl zs') (hw : Win zs zs' k (c' + 1))
    (h : wv zs' k (c' + 1) = wv zs k c' + x * val Y) (he : val (zs.take (k + c')) = val (X.take k) * val Y) : MulRel g c c' X Y w1 (.int .i64 ((k : Int) + 1)) (put g zs' [] w1) := by
  refine ⟨k + 1, zs', hk, rfl, by rw [hw.len, hl], hoz, ?_, rfl⟩
  rw [show k + 1 + c' = k + (c' + 1) by omega, val_take_add zs' k (c' + 1) (by rw [hw.len]; omega), h, hw.lo, Nat.mul_add, ← Nat.add_assoc, ← val_take_add zs k c' (by omega), val_take_succ X k (by omega), hx]
  exact mul_num he

/-- How many bits a natural has. -/
def bitsN (N : Nat) : Nat := match limbs N with
  | [] => 0
  | x :: l => 32 * l.length + blen ((x :: l).getD l.length 0)

theorem bitsN_zero {N : Nat} (h : limbs N = []) : bitsN N = 0 := by unfold bitsN; rw [h]
theorem bitsN_top {N t : Nat} (h : (limbs N).length = t + 1) : bitsN N = 32 * t + blen ((limbs N).getD t 0) := by
  unfold bitsN
  match hl : limbs N with
  | [] => rw [hl] at h; simp at h
  | x :: l => rw [hl] at h; simp only [List.length_cons] at h; obtain rfl : t = l.length := by omega
              rfl

end Go.Proofs.YtipibipaocpojaaDoor
namespace Go.Proofs.YtipibipaocpojaaDoor
open Go.RowKit
set_option linter.unusedVariables false
set_option linter.unusedSimpArgs false

/-- The call answers these limbs in memory of its own, from block B on; what lies below stays. -/
def Makes (B N : Nat) (w : World) (e : Ending) (w' : World) : Prop := ∃ v, e = .returned v ∧ Own B w' v (limbs N) ∧ Below B w w'

theorem own_cut {B : Nat} {w : World} {v : Value} {xs : List Nat} (h : Own B w v xs) : ∃ ad cap, v = .slice ad xs.length cap ∧ xs.length ≤ cap ∧ Rd w ad xs ∧ Own B w (.slice ad (limbs (val xs)).length cap) (limbs (val xs)) := by
  obtain ⟨ho, ⟨rfl, rfl⟩ | ⟨g, cap, r, rfl, hg, hb, hc, hm⟩⟩ := h
  · exact ⟨none, 0, rfl, Nat.le_refl _, Rd.nil _ _, Own.nil _ _⟩
  · refine ⟨_, cap, rfl, by omega, hb.rd_all, ?_⟩
    have := hb.own hg ho (limbs (val xs)).length cap (limbs_len_le ho) hc hm
    rw [← cutLen_eq ho, cut_limbs ho, cutLen_eq ho] at this
    exact this

def TPRel (g n : Nat) (ys : List Nat) (f p : Nat) (r : List Value) (w : World) (c i : Value) (wr : World) : Prop :=
  ∃ (k cy : Nat) (zs : List Nat), k ≤ n ∧ i = .int .i64 k ∧ c = .int .u64 cy ∧ cy < B32 ∧ Win ys zs 0 n ∧ Okl zs ∧ (∀ j, k ≤ j → zs.getD (0 + j) 0 = ys.getD (0 + j) 0) ∧
    wv zs 0 k + B32 ^ k * cy = f * wv ys 0 k + p ∧ wr = put g zs r w

theorem tp_num {x f cy B a P W p s q : Nat} (h : a + P * cy = f * W + p) (e : s + B * q = x * f + cy) : a + P * s + P * B * q = f * (W + P * x) + p := by
  have h3 : P * (s + B * q) = P * (x * f + cy) := by rw [e]
  grind

theorem tp_step {g n k cy f p x : Nat} {ys zs : List Nat} {r : List Value} {w : World} (hyl : ys.length = n) (hk : k < n) (hcy : cy < B32) (hf : f < B32) (hx : zs.getD (0 + k) 0 = x) (hxb : x < B32)
    (hb : Blk w g ys r) (hwin : Win ys zs 0 n) (hoz : Okl zs) (hs : ∀ j, k ≤ j → zs.getD (0 + j) 0 = ys.getD (0 + j) 0) (he : wv zs 0 k + B32 ^ k * cy = f * wv ys 0 k + p) :
    TPRel g n ys f p r w (.int .u64 (((x : Int) * (f : Int) + (cy : Int)) / 4294967296)) (.int .i64 ((k : Int) + 1)) ((put g zs r w).setCell ⟨g, k, none⟩ (.int .u32 (((x : Int) * (f : Int) + (cy : Int)) % 4294967296))) := by
  have e1 : ((x : Int) * (f : Int) + (cy : Int)) / 4294967296 = (((x * f + cy) / B32 : Nat) : Int) := by rw [B32_eq]; omega
  have e2 : ((x : Int) * (f : Int) + (cy : Int)) % 4294967296 = (((x * f + cy) % B32 : Nat) : Int) := by rw [B32_eq]; omega
  rw [e1, e2, set_blk (put_blk _ _ hb.lt) _ _ (by rw [hwin.len]; omega), put_put]
  have hbd : x * f ≤ 18446744065119617025 := by
    rw [B32_eq] at hxb hf
    exact Nat.mul_le_mul (Nat.le_of_lt_succ hxb) (Nat.le_of_lt_succ hf)
  have hw := hwin.set k ((x * f + cy) % B32) hk
  have hext := win_ext (v := (x * f + cy) % B32) hs
  have hset := wv_set zs 0 k ((x * f + cy) % B32) (by rw [hwin.len]; omega)
  rw [Nat.zero_add] at hw hext hset
  refine ⟨k + 1, _, zs.set k ((x * f + cy) % B32), hk, rfl, rfl, ?_, hw, hoz.set _ _ (Nat.mod_lt _ B32_pos), hext, ?_, rfl⟩
  · rw [Nat.div_lt_iff_lt_mul B32_pos]; rw [B32_eq] at *; omega
  · rw [hset, wv_succ ys 0 k (by omega), ← hs k (Nat.le_refl _), hx, Nat.pow_succ]
    exact tp_num he (Nat.mod_add_div _ _)

end Go.Proofs.YtipibipaocpojaaDoor
namespace Go.Proofs.YtipibipaocpojaaDoor
open Go.RowKit
set_option linter.unusedVariables false
set_option linter.unusedSimpArgs false

/-- Two limbs as one number. -/
def wd (h l : Nat) : Nat := h * B32 + l
theorem wd_lt {h l : Nat} (hh : h < B32) (hl : l < B32) : wd h l < 18446744073709551616 := by
  unfold wd; rw [B32_eq] at *; omega
theorem wd_or {h l : Nat} (hh : h < B32) (hl : l < B32) : bits BinOp.or IntKind.u64 ((h : Int) * 4294967296) (l : Int) = ((wd h l : Nat) : Int) := by
  have e : (h : Int) * 4294967296 = ((h * 4294967296 : Nat) : Int) := by omega
  rw [B32_eq] at hh hl
  rw [e, u64_or_nat _ _ (by omega) (by omega), nat_join 32 _ _ (by omega) (by omega)]
  unfold wd; rw [B32_eq]

def SHRel (g n : Nat) (ys : List Nat) (d : Nat) (r : List Value) (w : World) (rm i : Value) (wr : World) : Prop :=
  ∃ (k q : Nat) (zs : List Nat), k ≤ n ∧ i = .int .i64 ((k : Int) - 1) ∧ rm = .int .u32 q ∧ q < d ∧ zs.length = n ∧ Okl zs ∧ zs.take k = ys.take k ∧
    val (zs.drop k) * d + q = val (ys.drop k) ∧ wr = put g zs r w

theorem val_drop_succ (l : List Nat) (j : Nat) (h : j < l.length) : val (l.drop j) = l.getD j 0 + B32 * val (l.drop (j + 1)) := by
  rw [List.drop_eq_getElem_cons h]; simp [val, List.getD, h]

theorem sh_num {a q d x R s t B : Nat} (he : a * d + q = R) (hw : d * s + t = q * B + x) : (s + B * a) * d + t = x + B * R := by
  subst he; grind

theorem sh_step {g n d j q x : Nat} {ys zs : List Nat} {r : List Value} {w : World} (hl : zs.length = n) (hyl : ys.length = n) (hj : j + 1 ≤ n) (hd : d < B32) (hd0 : 0 < d) (hq : q < d) (hoz : Okl zs) (ht : zs.take (j + 1) = ys.take (j + 1)) (hx : zs.getD j 0 = x) (hxb : x < B32)
    (he : val (zs.drop (j + 1)) * d + q = val (ys.drop (j + 1))) (hb : Blk w g ys r) :
    SHRel g n ys d r w (.int .u32 (((wd q x : Nat) : Int) % (d : Int) % 4294967296)) (.int .i64 ((j : Int) - 1)) ((put g zs r w).setCell ⟨g, j, none⟩ (.int .u32 (IntKind.u64.wrap (((wd q x : Nat) : Int) / (d : Int)) % 4294967296))) := by
  have hwl := wd_lt (Nat.lt_trans hq hd) hxb
  have hql : wd q x / d < B32 := by
    rw [Nat.div_lt_iff_lt_mul hd0]; unfold wd
    have : (q + 1) * B32 ≤ d * B32 := Nat.mul_le_mul_right _ hq
    rw [Nat.add_mul, Nat.one_mul] at this
    rw [Nat.mul_comm B32 d]; omega
  have hml : wd q x % d < d := Nat.mod_lt _ hd0
  have e1 : ((wd q x : Nat) : Int) % (d : Int) % 4294967296 = ((wd q x % d : Nat) : Int) := by
    rw [← Int.natCast_emod]
    generalize wd q x % d = Q at *
    rw [B32_eq] at hd; omega
  have e2 : IntKind.u64.wrap (((wd q x : Nat) : Int) / (d : Int)) % 4294967296 = ((wd q x / d : Nat) : Int) := by
    rw [← Int.natCast_ediv]
    generalize wd q x / d = Q at *
    rw [B32_eq] at hql
    rw [IntWalk.u64_in _ (by omega)]; omega
  rw [e1, e2, set_blk (put_blk _ _ hb.lt) _ _ (by omega), put_put]
  have hg : ys.getD j 0 = x := by
    have h1 : (zs.take (j + 1)).getD j 0 = (ys.take (j + 1)).getD j 0 := by rw [ht]
    simp only [List.getD, List.getElem?_take, Nat.lt_succ_self, if_true] at h1
    simp only [List.getD] at hx ⊢
    rw [← h1]; exact hx
  refine ⟨j, _, zs.set j (wd q x / d), by omega, rfl, rfl, hml, by rw [List.length_set]; exact hl, hoz.set _ _ hql, ?_, ?_, rfl⟩
  · rw [List.take_set_of_le (Nat.le_refl _)]
    have h1 : (zs.take (j + 1)).take j = (ys.take (j + 1)).take j := by rw [ht]
    simpa [List.take_take] using h1
  · rw [val_drop_succ _ j (by rw [List.length_set]; omega), val_drop_succ ys j (by omega), hg, List.drop_set_of_lt (by omega)]
    have e3 : (zs.set j (wd q x / d)).getD j 0 = wd q x / d := by simp [List.getD, show j < zs.length by omega]
    rw [e3]
    exact sh_num he (Nat.div_add_mod _ _)

def ShrinkPost (B N d : Nat) (row : Option Nat) (w : World) (e : Ending) (w' : World) : Prop :=
  ∃ v, e = .returned (.tuple #[v, .int .u32 ((N % d : Nat) : Int)]) ∧ Own B w' v (limbs (N / d)) ∧ Below B w w' ∧ ∀ k, some k ≠ row → w'.heap[k]? = w.heap[k]?

end Go.Proofs.YtipibipaocpojaaDoor
