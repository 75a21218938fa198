/- The walk of timesPlus. -/
import Derived.Test.YtolmmpdgbkbcmaaDoorNg
namespace Go.Proofs.YtolmmpdgbkbcmaaDoor
open Go.RowKit
set_option linter.unusedVariables false

/-- The call answers these limbs in memory of its own, from block B on; what lies below stays. -/
def Makes (B N : Nat) (w : World) (e : Ending) (w' : World) : Prop := ∃ v, e = .returned v ∧ Own B w' v (limbs N) ∧ Below B w w'

theorem own_cut {B : Nat} {w : World} {v : Value} {xs : List Nat} (h : Own B w v xs) : ∃ ad cap, v = .slice ad xs.length cap ∧ xs.length ≤ cap ∧ Rd w ad xs ∧ Own B w (.slice ad (limbs (val xs)).length cap) (limbs (val xs)) := by
  obtain ⟨ho, ⟨rfl, rfl⟩ | ⟨g, cap, r, rfl, hg, hb, hc, hm⟩⟩ := h
  · exact ⟨none, 0, rfl, Nat.le_refl _, Rd.nil _ _, Own.nil _ _⟩
  · refine ⟨_, cap, rfl, by omega, hb.rd_all, ?_⟩
    have := hb.own hg ho (limbs (val xs)).length cap (limbs_len_le ho) hc hm
    rw [← cutLen_eq ho, cut_limbs ho, cutLen_eq ho] at this
    exact this

/-- cut at what is owned. -/
theorem cut_own (B : Nat) (v : Value) (xs : List Nat) (w : World) (h : Own B w v xs) (hm : xs.length ≤ 1000000000) :
    Calls Tryd.prog 36 #[v] w fun e w' => (∃ v', e = .returned v' ∧ Own B w v' (limbs (val xs))) ∧ w = w' := by
  obtain ⟨ad, cap, rfl, hc, hr, ho⟩ := own_cut h
  refine (cut_nat ad xs.length cap xs w rfl hc hm h.1 hr).mono ?_
  rintro e w' ⟨rfl, rfl⟩
  exact ⟨⟨_, rfl, ho⟩, rfl⟩

def TPRel (g n : Nat) (ys : List Nat) (f p : Nat) (r : List Value) (w : World) (c i : Value) (wr : World) : Prop :=
  ∃ (k cy : Nat) (zs : List Nat), k ≤ n ∧ i = .int .i64 k ∧ c = .int .u64 cy ∧ cy < B32 ∧ Win ys zs 0 n ∧ Okl zs ∧ (∀ j, k ≤ j → zs.getD (0 + j) 0 = ys.getD (0 + j) 0) ∧
    wv zs 0 k + B32 ^ k * cy = f * wv ys 0 k + p ∧ wr = put g zs r w

theorem tp_num {x f cy B a P W p s q : Nat} (h : a + P * cy = f * W + p) (e : s + B * q = x * f + cy) : a + P * s + P * B * q = f * (W + P * x) + p := by
  have h3 : P * (s + B * q) = P * (x * f + cy) := by rw [e]
  grind

theorem tp_step {g n k cy f p x : Nat} {ys zs : List Nat} {r : List Value} {w : World} (hyl : ys.length = n) (hk : k < n) (hcy : cy < B32) (hf : f < B32) (hx : zs.getD (0 + k) 0 = x) (hxb : x < B32)
    (hb : Blk w g ys r) (hwin : Win ys zs 0 n) (hoz : Okl zs) (hs : ∀ j, k ≤ j → zs.getD (0 + j) 0 = ys.getD (0 + j) 0) (he : wv zs 0 k + B32 ^ k * cy = f * wv ys 0 k + p) :
    TPRel g n ys f p r w (.int .u64 (((x : Int) * (f : Int) + (cy : Int)) / 4294967296)) (.int .i64 ((k : Int) + 1)) ((put g zs r w).setCell ⟨g, k, none⟩ (.int .u32 (((x : Int) * (f : Int) + (cy : Int)) % 4294967296))) := by
  have e1 : ((x : Int) * (f : Int) + (cy : Int)) / 4294967296 = (((x * f + cy) / B32 : Nat) : Int) := by rw [B32_eq]; omega
  have e2 : ((x : Int) * (f : Int) + (cy : Int)) % 4294967296 = (((x * f + cy) % B32 : Nat) : Int) := by rw [B32_eq]; omega
  rw [e1, e2, set_blk (put_blk _ _ hb.lt) _ _ (by rw [hwin.len]; omega), put_put]
  have hbd : x * f ≤ 18446744065119617025 := by
    rw [B32_eq] at hxb hf
    exact Nat.mul_le_mul (Nat.le_of_lt_succ hxb) (Nat.le_of_lt_succ hf)
  have hw := hwin.set k ((x * f + cy) % B32) hk
  have hext := win_ext (v := (x * f + cy) % B32) hs
  have hset := wv_set zs 0 k ((x * f + cy) % B32) (by rw [hwin.len]; omega)
  rw [Nat.zero_add] at hw hext hset
  refine ⟨k + 1, _, zs.set k ((x * f + cy) % B32), hk, rfl, rfl, ?_, hw, hoz.set _ _ (Nat.mod_lt _ B32_pos), hext, ?_, rfl⟩
  · rw [Nat.div_lt_iff_lt_mul B32_pos]; rw [B32_eq] at *; omega
  · rw [hset, wv_succ ys 0 k (by omega), ← hs k (Nat.le_refl _), hx, Nat.pow_succ]
    exact tp_num he (Nat.mod_add_div _ _)

set_option maxHeartbeats 2000000 in
theorem timesPlus_any (B : Nat) (v : Value) (xs : List Nat) (f p : Nat) (w : World) (hown : Own B w v xs) (hB : B ≤ w.heap.size) (hm : xs.length ≤ 100000000) (hf : f < B32) (hp : p < B32) :
    Calls Tryd.prog 44 #[v, .int .u32 (f : Int), .int .u32 (p : Int)] w (Makes B (val xs * f + p) w) := by
  obtain ⟨hox, ⟨rfl, rfl⟩ | ⟨g, cap, r, rfl, hg, hb, hc, hmx⟩⟩ := hown
  · have hp' := hp
    rw [B32_eq] at hp'
    by_cases h0 : p = 0
    · subst h0
      have K := Lib.hid (cut_own B (.slice none 0 0) [] w (Own.nil _ _) (by simp))
      go_enter Tryd.func44, Tryd.ntmps44
      go_wp2
      refine wp_loop_rounds 1 ?_
      rw [rounds_succ]
      go_wp2_with fail
      refine K.out.mono ?_
      rintro e w' ⟨⟨v', rfl, hv'⟩, rfl⟩
      go_wp2
      go_ret
      exact ⟨v', rfl, by simpa [val] using hv', Below.refl _ _⟩
    · have hpos : (0 : Int) < (p : Int) := by omega
      go_enter Tryd.func44, Tryd.ntmps44
      go_wp2
      refine wp_loop_rounds 1 ?_
      rw [rounds_succ]
      go_wp2_with (at_builtin; refine wpl_append rfl (.tmp 37) (.tmp 40) rfl B (.slice none 0 0) [] rfl (Own.nil _ _) ⟨w.heap.size, 0, none⟩ 1 p rfl hp ?hcell (by simp) ?hbase ?_)
      case hcell => simp
      case hbase => simp; omega
      intro v1 w1 hown1 hbl1 _
      go_wp2_with fail
      refine (cut_own B v1 ([] ++ [p]) w1 hown1 (by simp)).mono ?_
      rintro e w' ⟨⟨v', rfl, hv'⟩, rfl⟩
      go_wp2
      go_ret
      exact ⟨v', rfl, by simpa [val] using hv', ((Below.refl _ _).alloc hB _).trans hbl1⟩
  · have hp' := hp
    rw [B32_eq] at hp'
    generalize hn : xs.length = n at *
    have HN := Lib.hid hn; clear hn
    have HC := Lib.hid hc; clear hc
    go_enter Tryd.func44, Tryd.ntmps44
    go_wp2
    go_loopw [7, 15] (fun c i wr => TPRel g n xs f p r w c i wr) (fun _ i _ => n - (intOf i).toNat)
    case atStart => exact ⟨0, p, xs, by omega, rfl, rfl, hp, Win.refl _ _ _, hox, fun _ _ => rfl, by simp [wv, val], (put_same hb).symm⟩
    case round =>
      obtain ⟨k, cy, zs, hk, rfl, rfl, hcy, hwin, hoz, hsame, heq, rfl⟩ := hrel
      have HS := Lib.hid hsame; clear hsame
      have HE := Lib.hid heq; clear heq
      have hbz : Blk (put g zs r w) g zs r := put_blk _ _ hb.lt
      by_cases hlt : k < n
      · have hcz := hbz.cell k (by rw [hwin.len, HN.out]; exact hlt)
        have hfz := hbz.free k
        have hzb := hoz.getD k
        generalize hz : zs.getD k 0 = z at *
        have R := Lib.hid (tp_step (f := f) HN.out hlt hcy hf (by rw [Nat.zero_add]; exact hz) hzb hb hwin hoz HS.out HE.out)
        clear hz
        have hbd := mul_bd hzb hf
        have hcy' := hcy
        have hf' := hf
        rw [B32_eq] at hzb hcy' hf'
        go_wp2
        go_roundw
        case rel => exact R.out
        case measure => simp [intOf]; omega
      · obtain rfl : k = n := by omega
        have hown : Own B (put g zs r w) (.slice (some ⟨g, 0, none⟩) k cap) zs :=
          ⟨hoz, .inr ⟨g, cap, r, by rw [hwin.len, HN.out], hg, hbz, by rw [hwin.len, HN.out]; exact HC.out, hmx⟩⟩
        have hv : val zs + B32 ^ k * cy = val xs * f + p := by
          have h := HE.out
          rw [(win_full HN.out hwin).2, wv_full HN.out, Nat.mul_comm f] at h
          exact h
        have HV := Lib.hid hv; clear hv
        have hlz := hwin.len
        rw [HN.out] at hlz
        have HZ := Lib.hid hlz; clear hlz
        have hbl : Below B w (put g zs r w) := put_below (Below.refl _ _) hg _ _
        have hBp : B ≤ (put g zs r w).heap.size := by rw [put_heap]; exact hB
        clear hwin
        by_cases h0 : cy = 0
        · subst h0
          have hv := HV.out
          rw [Nat.mul_zero, Nat.add_zero] at hv
          have HW := Lib.hid hv; clear hv
          go_wp2_with fail
          refine (cut_own B _ zs _ hown (by rw [HZ.out]; omega)).mono ?_
          rintro e w' ⟨⟨v', rfl, hv'⟩, rfl⟩
          go_wp2
          go_ret
          exact ⟨v', rfl, by rw [← HW.out]; exact hv', hbl⟩
        · have hpos : (0 : Int) < (cy : Int) := by omega
          have hcy' := hcy
          rw [B32_eq] at hcy'
          generalize hW : put g zs r w = W at *
          clear hW
          go_wp2_with (at_builtin; refine wpl_append rfl (.tmp 37) (.tmp 40) rfl B (.slice (some ⟨g, 0, none⟩) k cap) zs rfl (hown.below ((Below.refl _ _).alloc (Nat.le_refl _) _)) ⟨W.heap.size, 0, none⟩ 1 cy rfl hcy ?hcell (by rw [HZ.out]; omega) ?hbase ?_)
          case hcell => simp
          case hbase => simp; omega
          intro v1 w1 hown1 hbl1 _
          go_wp2_with fail
          refine (cut_own B v1 (zs ++ [cy]) w1 hown1 (by simp [HZ.out]; omega)).mono ?_
          rintro e w' ⟨⟨v', rfl, hv'⟩, rfl⟩
          go_wp2
          go_ret
          refine ⟨v', rfl, ?_, hbl.trans (((Below.refl _ _).alloc hBp _).trans hbl1)⟩
          rw [← HV.out]
          rw [val_append, HZ.out] at hv'
          simpa [val] using hv'
end Go.Proofs.YtolmmpdgbkbcmaaDoor
