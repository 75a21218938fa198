/- The walks of shrink, guess. -/
import Derived.Test.YtolmmpdgbkbcmaaDoorNh
namespace Go.Proofs.YtolmmpdgbkbcmaaDoor
open Go.RowKit
set_option linter.unusedVariables false

/-- Two limbs as one number. -/
def wd (h l : Nat) : Nat := h * B32 + l
theorem wd_lt {h l : Nat} (hh : h < B32) (hl : l < B32) : wd h l < 18446744073709551616 := by
  unfold wd; rw [B32_eq] at *; omega
theorem wd_or {h l : Nat} (hh : h < B32) (hl : l < B32) : bits BinOp.or IntKind.u64 ((h : Int) * 4294967296) (l : Int) = ((wd h l : Nat) : Int) := by
  have e : (h : Int) * 4294967296 = ((h * 4294967296 : Nat) : Int) := by omega
  rw [B32_eq] at hh hl
  rw [e, u64_or_nat _ _ (by omega) (by omega), nat_join 32 _ _ (by omega) (by omega)]
  unfold wd; rw [B32_eq]

def SHRel (g n : Nat) (ys : List Nat) (d : Nat) (r : List Value) (w : World) (rm i : Value) (wr : World) : Prop :=
  ∃ (k q : Nat) (zs : List Nat), k ≤ n ∧ i = .int .i64 ((k : Int) - 1) ∧ rm = .int .u32 q ∧ q < d ∧ zs.length = n ∧ Okl zs ∧ zs.take k = ys.take k ∧
    val (zs.drop k) * d + q = val (ys.drop k) ∧ wr = put g zs r w

theorem val_drop_succ (l : List Nat) (j : Nat) (h : j < l.length) : val (l.drop j) = l.getD j 0 + B32 * val (l.drop (j + 1)) := by
  rw [List.drop_eq_getElem_cons h]; simp [val, List.getD, h]

theorem sh_num {a q d x R s t B : Nat} (he : a * d + q = R) (hw : d * s + t = q * B + x) : (s + B * a) * d + t = x + B * R := by
  subst he; grind

theorem sh_step {g n d j q x : Nat} {ys zs : List Nat} {r : List Value} {w : World} (hl : zs.length = n) (hyl : ys.length = n) (hj : j + 1 ≤ n) (hd : d < B32) (hd0 : 0 < d) (hq : q < d) (hoz : Okl zs) (ht : zs.take (j + 1) = ys.take (j + 1)) (hx : zs.getD j 0 = x) (hxb : x < B32)
    (he : val (zs.drop (j + 1)) * d + q = val (ys.drop (j + 1))) (hb : Blk w g ys r) :
    SHRel g n ys d r w (.int .u32 (((wd q x : Nat) : Int) % (d : Int) % 4294967296)) (.int .i64 ((j : Int) - 1)) ((put g zs r w).setCell ⟨g, j, none⟩ (.int .u32 (IntKind.u64.wrap (((wd q x : Nat) : Int) / (d : Int)) % 4294967296))) := by
  have hwl := wd_lt (Nat.lt_trans hq hd) hxb
  have hql : wd q x / d < B32 := by
    rw [Nat.div_lt_iff_lt_mul hd0]; unfold wd
    have : (q + 1) * B32 ≤ d * B32 := Nat.mul_le_mul_right _ hq
    rw [Nat.add_mul, Nat.one_mul] at this
    rw [Nat.mul_comm B32 d]; omega
  have hml : wd q x % d < d := Nat.mod_lt _ hd0
  have e1 : ((wd q x : Nat) : Int) % (d : Int) % 4294967296 = ((wd q x % d : Nat) : Int) := by
    rw [← Int.natCast_emod]
    generalize wd q x % d = Q at *
    rw [B32_eq] at hd; omega
  have e2 : IntKind.u64.wrap (((wd q x : Nat) : Int) / (d : Int)) % 4294967296 = ((wd q x / d : Nat) : Int) := by
    rw [← Int.natCast_ediv]
    generalize wd q x / d = Q at *
    rw [B32_eq] at hql
    rw [IntWalk.u64_in _ (by omega)]; omega
  rw [e1, e2, set_blk (put_blk _ _ hb.lt) _ _ (by omega), put_put]
  have hg : ys.getD j 0 = x := by
    have h1 : (zs.take (j + 1)).getD j 0 = (ys.take (j + 1)).getD j 0 := by rw [ht]
    simp only [List.getD, List.getElem?_take, Nat.lt_succ_self, if_true] at h1
    simp only [List.getD] at hx ⊢
    rw [← h1]; exact hx
  refine ⟨j, _, zs.set j (wd q x / d), by omega, rfl, rfl, hml, by rw [List.length_set]; exact hl, hoz.set _ _ hql, ?_, ?_, rfl⟩
  · rw [List.take_set_of_le (Nat.le_refl _)]
    have h1 : (zs.take (j + 1)).take j = (ys.take (j + 1)).take j := by rw [ht]
    simpa [List.take_take] using h1
  · rw [val_drop_succ _ j (by rw [List.length_set]; omega), val_drop_succ ys j (by omega), hg, List.drop_set_of_lt (by omega)]
    have e3 : (zs.set j (wd q x / d)).getD j 0 = wd q x / d := by simp [List.getD, show j < zs.length by omega]
    rw [e3]
    exact sh_num he (Nat.div_add_mod _ _)

def ShrinkPost (B N d : Nat) (row : Option Nat) (w : World) (e : Ending) (w' : World) : Prop :=
  ∃ v, e = .returned (.tuple #[v, .int .u32 ((N % d : Nat) : Int)]) ∧ Own B w' v (limbs (N / d)) ∧ Below B w w' ∧ ∀ k, some k ≠ row → w'.heap[k]? = w.heap[k]?

set_option maxHeartbeats 2000000 in
theorem shrink_any (B : Nat) (v : Value) (xs : List Nat) (d : Nat) (w : World) (hown : Own B w v xs) (hB : B ≤ w.heap.size) (hm : xs.length ≤ 100000000) (hd : d < B32) (hd0 : 0 < d) :
    Calls Tryd.prog 39 #[v, .int .u32 (d : Int)] w (ShrinkPost B (val xs) d v.ownBlock w) := by
  obtain ⟨hox, ⟨rfl, rfl⟩ | ⟨g, cap, r, rfl, hg, hb, hc, hmx⟩⟩ := hown
  · have K := Lib.hid (cut_own B (.slice none 0 0) [] w (Own.nil _ _) (by simp))
    go_enter Tryd.func39, Tryd.ntmps39
    go_wp2
    refine wp_loop_rounds 1 ?_
    rw [rounds_succ]
    go_wp2_with fail
    refine K.out.mono ?_
    rintro e w' ⟨⟨v', rfl, hv'⟩, rfl⟩
    go_wp2
    go_ret2
    refine ⟨v', ?_, by simpa [val, limbs_zero] using hv', Below.refl _ _, fun _ _ => rfl⟩
    simp [val]
  · have HC := Lib.hid hc; clear hc
    generalize hn : xs.length = n at *
    have HN := Lib.hid hn; clear hn
    have hd' := hd
    rw [B32_eq] at hd'
    go_enter Tryd.func39, Tryd.ntmps39
    go_wp2
    go_loopw [5, 6] (fun q i wr => SHRel g n xs d r w q i wr) (fun _ i _ => (intOf i + 1).toNat)
    case atStart => exact ⟨n, 0, xs, Nat.le_refl _, by go_num, rfl, hd0, HN.out, hox, rfl, by rw [List.drop_of_length_le (by rw [HN.out]; exact Nat.le_refl _)]; simp [val], (put_same hb).symm⟩
    case round =>
      obtain ⟨k, q, zs, hk, rfl, rfl, hq, hl, hoz, htk, he, rfl⟩ := hrel
      have HL := Lib.hid hl; clear hl
      have HT := Lib.hid htk; clear htk
      have HE := Lib.hid he; clear he
      have hbz : Blk (put g zs r w) g zs r := put_blk _ _ hb.lt
      rcases k with _ | j
      · have hown : Own B (put g zs r w) (.slice (some ⟨g, 0, none⟩) n cap) zs :=
          ⟨hoz, .inr ⟨g, cap, r, by rw [HL.out], hg, hbz, by rw [HL.out]; exact HC.out, hmx⟩⟩
        have hv := HE.out
        simp only [List.drop_zero] at hv
        have hdv : val xs / d = val zs := by
          rw [← hv, Nat.mul_comm, Nat.mul_add_div hd0, Nat.div_eq_of_lt hq, Nat.add_zero]
        have hmd : val xs % d = q := by
          rw [← hv, Nat.mul_comm, Nat.mul_add_mod, Nat.mod_eq_of_lt hq]
        have HD := Lib.hid hdv; clear hdv
        have HM := Lib.hid hmd; clear hmd hv
        have hbl : Below B w (put g zs r w) := put_below (Below.refl _ _) hg _ _
        have hoth : ∀ k, some k ≠ (Value.slice (some ⟨g, 0, none⟩) n cap).ownBlock → (put g zs r w).heap[k]? = w.heap[k]? := fun k hk => put_other _ _ _ _ _ (fun e => hk (by rw [e]; rfl))
        have HOTH := Lib.hid hoth; clear hoth
        rw [show (((0 : Nat) : Int) - 1) = -1 from rfl]
        generalize put g zs r w = W at *
        go_wp2_with fail
        refine (cut_own B _ zs W hown (by rw [HL.out]; exact Nat.le_trans hm (by decide))).mono ?_
        rintro e w' ⟨⟨v', rfl, hv'⟩, rfl⟩
        go_wp2
        go_ret2
        exact ⟨v', by rw [HM.out]; rfl, by rw [HD.out]; exact hv', hbl, HOTH.out⟩
      · rw [show (((j + 1 : Nat) : Int) - 1) = (j : Int) by omega]
        have hcz := hbz.cell j (by rw [HL.out]; omega)
        have hfz := hbz.free j
        have hzb := hoz.getD j
        generalize hx : zs.getD j 0 = x at *
        have R := Lib.hid (sh_step (g := g) (r := r) (w := w) HL.out HN.out hk hd hd0 hq hoz HT.out hx hzb HE.out hb)
        clear hx
        have hor := wd_or (Nat.lt_trans hq hd) hzb
        have hq' : q < 4294967296 := by omega
        have hwl := wd_lt (Nat.lt_trans hq hd) hzb
        rw [B32_eq] at hzb
        go_wp2
        go_roundw
        case rel => exact R.out
        case measure => simp [intOf]
end Go.Proofs.YtolmmpdgbkbcmaaDoor
