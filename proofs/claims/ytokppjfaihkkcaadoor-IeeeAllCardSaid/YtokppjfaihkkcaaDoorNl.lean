/- The walk of divide. -/
import Derived.Test.YtokppjfaihkkcaaDoorA6
import Derived.Deep.LoopGhost
namespace Go.Proofs.YtokppjfaihkkcaaDoor
open Go.RowKit
set_option linter.unusedVariables false
set_option linter.unusedSimpArgs false

def DivPost (a b : Nat) (w : World) (e : Ending) (w' : World) : Prop :=
  ∃ v1 v2, e = .returned (.tuple #[v1, v2]) ∧ Own w.heap.size w' v1 (limbs (a / b)) ∧ Own w.heap.size w' v2 (limbs (a % b)) ∧ Below w.heap.size w w'

/-- What holds of the long division's memory with k places to come. -/
def DLRel (n j D V : Nat) (L : List Nat) (G1 G2 G3 : Nat) (w : World) (k : Nat) (i : Value) (wr : World) : Prop :=
  ∃ Z Q, k ≤ n - j ∧ i = .int .i64 ((k : Int) - 1) ∧ DvInv n (j + 1) k Z Q D V ∧ Blk wr G1 Z [] ∧ Rd wr (some ⟨G2, 0, none⟩) L ∧ Blk wr G3 Q [] ∧ Below G1 w wr

theorem Blk.put_ne {w : World} {g g' : Nat} {ys zs : List Nat} {r r' : List Value} (h : Blk w g ys r) (hne : g ≠ g') : Blk (put g' zs r' w) g ys r := by
  unfold Blk; rw [put_other _ _ _ _ _ hne]; exact h

/-- What holds inside, when too much was taken. -/
def DMRel (n j i D : Nat) (L Z Q : List Nat) (G1 G2 G3 : Nat) (w : World) (k : Nat) (wr : World) : Prop :=
  ∃ g Zc, g = wv Z i (j + 2) / D + k ∧ 0 < k ∧ g < B32 ∧ Win Z Zc i (j + 2) ∧ Okl Zc ∧ wv Zc i (j + 2) + g * D = wv Z i (j + 2) + B32 ^ (j + 2) ∧ Blk wr G1 Zc [] ∧ Rd wr (some ⟨G2, 0, none⟩) L ∧ Blk wr G3 (Q.set i g) [] ∧ Below G1 w wr

theorem win_val_lt {Z : List Nat} {i m : Nat} (ho : Okl Z) (h : i + m ≤ Z.length) : wv Z i m < B32 ^ m := by
  have h1 := val_lt ((ho.drop i).take m)
  rwa [List.length_take, List.length_drop, Nat.min_eq_left (by omega)] at h1

theorem pos_of_mul {a b : Nat} (h : 0 < a * b) : 0 < a := by
  rcases Nat.eq_zero_or_pos a with h0 | h0
  · subst h0; simp at h
  · exact h0
theorem dm_pos {g t k : Nat} (h : g = t + k) (h2 : t < g - 1) : 0 < k - 1 := by omega

theorem win_getD (Z : List Nat) (i m t : Nat) (h : t < m) : ((Z.drop i).take m).getD t 0 = Z.getD (i + t) 0 := by simp [List.getD, h]

set_option maxHeartbeats 4000000 in
theorem divide_any (ad : Option Addr) (n cap : Nat) (X : List Nat) (ad' : Option Addr) (m cap' : Nat) (Y : List Nat) (w : World) (hX : X.length = n) (hcap : n ≤ cap) (hn : n ≤ 10000000) (hoX : Okl X) (hrX : Rd w ad X)
    (hY : Y.length = m) (hcap' : m ≤ cap') (hm0 : 0 < m) (hmn : m ≤ n) (hoY : Okl Y) (hrY : Rd w ad' Y) (hd : Y.getD (m - 1) 0 ≠ 0) :
    Calls Tryd.prog 119 #[.slice ad n cap, .slice ad' m cap'] w (DivPost (val X) (val Y) w) := by
  obtain ⟨j, rfl⟩ : ∃ j, m = j + 1 := ⟨m - 1, by omega⟩
  rw [Nat.add_sub_cancel] at hd
  obtain ⟨b2, o2, hadd, _, hcy⟩ := hrY j (by omega)
  have hdb := hoY.getD j
  obtain ⟨hs1, hs2, hs3⟩ := lz_spec hdb hd
  generalize hy : Y.getD j 0 = y at *
  have HY := Lib.hid hy; clear hy
  have HX := Lib.hid hX; clear hX
  have HYL := Lib.hid hY; clear hY
  have KL := Lib.hid (fun w => lz32_any y w (by rw [B32_eq] at hdb; exact hdb))
  generalize 32 - blen y = s at *
  have KU := Lib.hid (shiftUp_any ad n cap X s w HX.out hcap (by omega) hoX hrX hs1)
  have KV := Lib.hid (fun w1 (h : Below w.heap.size w w1) => shiftUp_any ad' (j + 1) cap' Y s w1 HYL.out hcap' (by omega) hoY (hrY.below h) hs1)
  subst hadd
  have hjm : (j : Int) < ((j + 1 : Nat) : Int) := by omega
  go_enter Tryd.func119, Tryd.ntmps119
  go_wp2
  go_step3
  go_wp2_with fail
  refine (KL.out _).mono ?_
  rintro e w' ⟨rfl, rfl⟩
  go_wp2_with fail
  refine KU.out.mono ?_
  rintro e w1 ⟨Z0, rfl, hZl, hZo, hZv, hZb, hbl1⟩
  go_wp2_with fail
  refine (KV.out w1 hbl1).mono ?_
  rintro e w2 ⟨D0, rfl, hDl, hDo, hDv, hDb, hbl2⟩
  obtain ⟨hpre, hge⟩ := div_pre HYL.out hoY HY.out hs1 hs2 hs3
  have hstart := @dv_start X Z0 (List.replicate (n - j) 0) n j s y (val Y * 2 ^ s) HX.out hoX hmn hZl hZo hZv hd hge rfl
  have HP := Lib.hid hpre
  have HS := Lib.hid hstart; clear hstart
  rw [← hDv] at hpre
  have KC := Lib.hid (cut_nat (some ⟨w1.heap.size, 0, none⟩) (j + 1 + 1) (j + 1 + 1) D0 w2 hDl (Nat.le_refl _) (by omega) hDo hDb.rd_all)
  rw [hpre.len] at KC
  have hrD : Rd w2 (some ⟨w1.heap.size, 0, none⟩) (limbs (val Y * 2 ^ s)) := by
    rw [← hDv]; exact rd_limbs hDo hDb.rd_all
  have hlenD := hpre.len
  rw [hDv] at hlenD
  clear hpre hDl hDv hDo
  have HLD := Lib.hid hlenD; clear hlenD
  have hoD := limbs_ok (val Y * 2 ^ s)
  generalize hL : limbs (val Y * 2 ^ s) = L at *
  have HL := Lib.hid hL; clear hL
  generalize hDD : val Y * 2 ^ s = D at *
  have HDD := Lib.hid hDD; clear hDD
  clear hge hZv
  have hsz1 := hZb.lt
  have hsz2 := hDb.lt
  have hZ2 : Blk w2 w.heap.size Z0 [] := hZb.below hbl2 hsz1
  have hbl02 : Below w.heap.size w w2 := hbl1.trans (hbl2.mono (by omega))
  generalize hG1 : w.heap.size = G1 at *
  generalize hG2 : w1.heap.size = G2 at *
  have HG := Lib.hid (show G1 < G2 from hsz1)
  have HG2 := hsz2
  clear hZb hbl1 hbl2 hsz1 hDb
  go_wp2_with fail
  refine KC.out.mono ?_
  rintro e w' ⟨rfl, rfl⟩
  go_wp2_with (at_make; refine wpl_make _ rfl _ _ rfl _ _ _ _ (n - j) rfl rfl (by omega) (by omega) (by omega) ?_; intro w3 hB3 hb3)
  have hZ3 : Blk w3 G1 Z0 [] := hZ2.below hb3 hZ2.lt
  have hrD3 := hrD.below hb3
  have hbl3 : Below G1 w w3 := hbl02.trans (hb3.mono (Nat.le_of_lt hZ2.lt))
  generalize hG3 : w2.heap.size = G3 at *
  have HG23 := Lib.hid HG2; clear HG2
  have HG3 := Lib.hid (show G1 < G3 from hG3 ▸ hZ2.lt)
  clear hb3 hZ2 hbl02 hrD
  go_step3
  go_wp2
  go_loopg [8] (n - j) (fun k i wr => DLRel n j D (val X * 2 ^ s) L G1 G2 G3 w k i wr)
  case atStart => exact ⟨Z0, _, Nat.le_refl _, rfl, HS.out, hZ3, hrD3, hB3, hbl3⟩
  case round =>
    obtain ⟨Z, Q, hk, rfl, hinv, hbZ, hrL, hbQ, hbl⟩ := hrel
    rcases gk with _ | i
    · rw [show (((0 : Nat) : Int) - 1) = -1 from rfl]
      have hb0 : 0 < val Y := by
        have h1 := HP.out.pos
        rw [← HDD.out] at h1
        exact pos_of_mul h1
      have hend := dv_end (a := val X) (Nat.pow_pos (by decide : 0 < 2) (n := s)) hb0 (by rw [HDD.out]; exact hinv) rfl
      have hzl := hinv.zl
      have hzo := hinv.zo
      have hql := hinv.ql
      have hqo := hinv.qo
      have htk := val_take_all (Z := Z) (D := D) (m := j + 1) (by omega) (by rw [← HDD.out]; exact hend.2.2) HP.out.lt
      have KQ := fun (W : World) (h : Blk W G3 Q []) => cut_nat (some ⟨G3, 0, none⟩) (n - j) (n - j) Q W (by omega) (Nat.le_refl _) (by omega) hqo h.rd_all
      have KS := fun (W : World) (h : Blk W G1 Z []) => shiftDown_any (some ⟨G1, 0, none⟩) (j + 1) (n + 1) (Z.take (j + 1)) s W (by rw [List.length_take]; omega) (by omega) (by omega) (hzo.take _) (by have := h.rd 0 (j + 1) (by omega); simpa using this) hs1
      rw [htk, hend.2.1] at KS
      rw [hend.1] at KQ
      have KQH := Lib.hid KQ
      have KSH := Lib.hid KS
      have HQL := Lib.hid hql
      have HQE := Lib.hid hend.1
      have hown1 : Own G1 wr (.slice (some ⟨G3, 0, none⟩) (limbs (val X / val Y)).length (n - j)) (limbs (val X / val Y)) := by
        have h1 := hbQ.own (Nat.le_of_lt HG3.out) hqo (limbs (val Q)).length (n - j) (limbs_len_le hqo) (by rw [hql]; simp) (by unfold maxLen; omega)
        rw [← cutLen_eq hqo, cut_limbs hqo, cutLen_eq hqo, hend.1] at h1
        exact h1
      have HOW := Lib.hid hown1
      clear KQ KS hzl hql htk hend hinv hown1
      go_wp2
      go_region_with (first
        | (go_at_call 96; refine (KQH.out _ (by exact hbQ)).mono ?_; rintro e w' ⟨rfl, rfl⟩)
        | (go_at_call 138; refine (KSH.out _ (by exact hbZ)).mono ?_; rintro e w' ⟨v2, rfl, hv2, hb2⟩))
      all_goals
        go_wp2
        try rw [Exit.noGoto_ret]
        go_ret2
        have ho1 : Own G1 wr.drew (.slice (some ⟨G3, 0, none⟩) (limbs (val X / val Y)).length (n - j)) (limbs (val X / val Y)) := HOW.out
        have hsz : G1 ≤ wr.drew.heap.size := Nat.le_of_lt hbZ.lt
        refine ⟨_, v2, rfl, ?_, ?_, ?_⟩
        · rw [hG1]; exact ho1.below hb2
        · rw [hG1]; exact hv2.mono hsz
        · rw [hG1]; exact hbl.drew.trans (hb2.mono hsz)
    · rw [show (((i + 1 : Nat) : Int) - 1) = (i : Int) by omega]
      have hcut : i + (j + 1) ≤ n := by omega
      have hrZ := hbZ.rd i (j + 1 + 1) (by rw [hinv.zl]; omega)
      have hzw : ((Z.drop i).take (j + 1 + 1)).length = j + 1 + 1 := by rw [List.length_take, List.length_drop, hinv.zl]; omega
      have KG := guess_any G1 i (j + 1) (n + 1 - i) (some ⟨G2, 0, none⟩) (j + 1 + 1) _ L wr (by omega) HLD.out (by omega) hzw ((hinv.zo.drop i).take _) hoD hrZ hrL (by have := HP.out.top; rw [HL.out] at this; have := B32_pos; rw [Nat.add_sub_cancel]; omega)
      rw [Nat.add_sub_cancel, win_getD _ _ _ _ (by omega), win_getD _ _ _ _ (by omega)] at KG
      have hgw := guess_win hcut HP.out HL.out hinv
      have hgl := gs_lt (Z.getD (i + (j + 1)) 0) (Z.getD (i + j) 0) (L.getD j 0)
      generalize gs (Z.getD (i + (j + 1)) 0) (Z.getD (i + j) 0) (L.getD j 0) = g at *
      have HGW := Lib.hid hgw; clear hgw
      have KGH := Lib.hid KG; clear KG
      have hcq := hbQ.cell i (by rw [hinv.ql]; omega)
      have hfq := hbQ.free i
      have hzl := Lib.hid hinv.zl
      have hinvh := Lib.hid hinv; clear hinv hzw hrZ
      generalize Q.getD i 0 = q0 at *
      go_wp2_with fail
      rw [show i + (j + 1) + 1 - i = j + 1 + 1 by omega]
      refine KGH.out.mono ?_
      rintro e w' ⟨rfl, q, rfl⟩
      go_wp2_with fail
      rw [set_blk (hbQ.drewN q) i g (by rw [hinvh.out.ql]; omega)]
      have hD2 : 2 * D ≤ B32 ^ (j + 2) := by
        have h1 := HP.out.lt
        have h2 : 2 * B32 ^ (j + 1) ≤ B32 ^ (j + 2) := pow_two_le (j + 1)
        omega
      have hvL : val L = D := by rw [← HL.out]; exact val_limbs D
      have hbZ1 : Blk (put G3 (Q.set i g) [] (wr.drewN q)) G1 Z [] := (hbZ.drewN q).put_ne (by have := HG3.out; omega)
      have hrL1 : Rd (put G3 (Q.set i g) [] (wr.drewN q)) (some ⟨G2, 0, none⟩) L := (hrL.drewN q).put (fun a e _ => by cases e; have := HG23.out; simp; omega) _ _
      have hbQ1 : Blk (put G3 (Q.set i g) [] (wr.drewN q)) G3 (Q.set i g) [] := put_blk _ _ hbQ.lt
      have hbl1 : Below G1 w (put G3 (Q.set i g) [] (wr.drewN q)) := put_below (below_drewN' hbl q) (Nat.le_of_lt HG3.out) _ _
      clear hbZ hrL hbQ hbl KGH hcq hfq
      generalize put G3 (Q.set i g) [] (wr.drewN q) = W at *
      have hneL : ∀ a, some (⟨G2, 0, none⟩ : Addr) = some a → 0 < L.length → a.block ≠ G1 := fun a e _ => by cases e; have := HG.out; simp; omega
      refine (takeTimes_any G1 i (j + 1 + 1) (n + 1 - i) (some ⟨G2, 0, none⟩) (j + 1) (j + 1 + 1) g Z L [] W HLD.out (by omega) (by omega) (by omega) (by rw [hzl.out]; omega) hinvh.out.zo hoD hgl hbZ1 hrL1 hneL).mono ?_
      rintro e w' ⟨Zt, ov, rfl, hwin, hozt, hval, rfl⟩
      have hvt := win_val_lt hozt (show i + (j + 2) ≤ Zt.length by rw [hwin.len, hzl.out]; omega)
      rw [hvL] at hval
      have HC := Lib.hid (take_case HP.out.pos HGW.out.1 HGW.out.2 hvt hD2 hval)
      have HV := Lib.hid hval; clear hval
      have HVT := Lib.hid hvt; clear hvt
      have HVL := Lib.hid hvL; clear hvL
      have HD2 := Lib.hid hD2; clear hD2
      have hbZ2 : Blk (put G1 Zt [] W) G1 Zt [] := put_blk _ _ hbZ1.lt
      have hrL2 : Rd (put G1 Zt [] W) (some ⟨G2, 0, none⟩) L := hrL1.put hneL _ _
      have hbQ2 : Blk (put G1 Zt [] W) G3 (Q.set i g) [] := hbQ1.put_ne (by have := HG3.out; omega)
      have hbl2 : Below G1 w (put G1 Zt [] W) := put_below hbl1 (Nat.le_refl _) _ _
      clear hbZ1 hrL1 hbQ1 hbl1 hneL
      generalize put G1 Zt [] W = W2 at *
      rcases HC.out with ⟨rfl, hg, hlt⟩ | ⟨rfl, hg⟩
      · have hstep : DvInv n (j + 1) i Zt (Q.set i g) D (val X * 2 ^ s) :=
          dv_step (by omega) HP.out.lt hinvh.out hwin hozt hgl (by have := HV.out; rw [Nat.mul_zero, Nat.add_zero] at this; exact this) hlt
        have HST := Lib.hid hstep; clear hstep hg hlt HC
        go_wp2
        go_roundg i
        case measure => omega
        case rel => exact ⟨Zt, _, by omega, rfl, HST.out, hbZ2, hrL2, hbQ2, hbl2⟩
      · clear HC
        have hgd : g = wv Z i (j + 2) / D + (g - wv Z i (j + 2) / D) := by omega
        have HGD := Lib.hid hgd
        have hpos : 0 < g - wv Z i (j + 2) / D := by omega
        clear hgd hg
        generalize g - wv Z i (j + 2) / D = gg at *
        go_wp2
        go_loopg [] gg (fun k wr => DMRel n j i D L Z Q G1 G2 G3 w k wr)
        case atStart => exact ⟨g, Zt, HGD.out, hpos, hgl, hwin, hozt, by have := HV.out; rw [Nat.mul_one] at this; exact this, hbZ2, hrL2, hbQ2, hbl2⟩
        case round =>
          clear hbZ2 hrL2 hbQ2 hbl2 HV HVT HGD hwin hozt hgl hpos HGW
          obtain ⟨g1, Zc, hg1, hk0, hgl, hwin, hozt, hval, hbZ2, hrL2, hbQ2, hbl2⟩ := hrel
          have HG1 := Lib.hid hg1
          have hg0 : 1 ≤ g1 := by rw [hg1]; exact Nat.le_trans hk0 (Nat.le_add_left _ _)
          have hgq : wv Z i (j + 2) / D < g1 := by rw [hg1]; exact Nat.lt_add_of_pos_right hk0
          have HGQ := Lib.hid hgq
          have HV := Lib.hid hval
          clear hg1 hgq hval
          have hgl' := hgl
          rw [B32_eq] at hgl'
          have hcq := hbQ2.cell i (by rw [List.length_set, hinvh.out.ql]; omega)
          rw [getD_set_self _ _ _ (by rw [hinvh.out.ql]; omega)] at hcq
          have hfq := hbQ2.free i
          have e1 : Hid (wr.setCell ⟨G3, i, none⟩ (.int .u32 ((g1 : Int) - 1)) = put G3 (Q.set i (g1 - 1)) [] wr) := by
            unfold Hid
            rw [show ((g1 : Int) - 1) = ((g1 - 1 : Nat) : Int) by omega, set_blk hbQ2 i (g1 - 1) (by rw [List.length_set, hinvh.out.ql]; omega), List.set_set]
          have hneL : ∀ a, some (⟨G2, 0, none⟩ : Addr) = some a → 0 < L.length → a.block ≠ G1 := fun a e _ => by cases e; have := HG.out; simp; omega
          have hbZ3 : Blk (put G3 (Q.set i (g1 - 1)) [] wr) G1 Zc [] := hbZ2.put_ne (by have := HG3.out; omega)
          have hrL3 : Rd (put G3 (Q.set i (g1 - 1)) [] wr) (some ⟨G2, 0, none⟩) L := hrL2.put (fun a e _ => by cases e; have := HG23.out; simp; omega) _ _
          have hbQ3 : Blk (put G3 (Q.set i (g1 - 1)) [] wr) G3 (Q.set i (g1 - 1)) [] := put_blk _ _ hbQ2.lt
          have hbl3 : Below G1 w (put G3 (Q.set i (g1 - 1)) [] wr) := put_below hbl2 (Nat.le_of_lt HG3.out) _ _
          go_wp2_with fail
          rw [e1.out]
          clear hbZ2 hrL2 hbQ2 hbl2 hcq hfq e1
          generalize put G3 (Q.set i (g1 - 1)) [] wr = W3 at *
          refine (addTo_any G1 i (j + 1 + 1) (n + 1 - i) (some ⟨G2, 0, none⟩) (j + 1) (j + 1 + 1) Zc L [] W3 HLD.out (by omega) (by omega) (by omega) (by rw [hwin.len, hzl.out]; omega) hozt hoD hbZ3 hrL3 hneL).mono ?_
          rintro e w' ⟨Zn, cy, rfl, hcy, hwin2, hozn, hval2, rfl⟩
          rw [HVL.out] at hval2
          have hvt := win_val_lt hozn (show i + (j + 2) ≤ Zn.length by rw [hwin2.len, hwin.len, hzl.out]; omega)
          have hwin3 : Win Z Zn i (j + 2) := ⟨by rw [hwin2.len, hwin.len], by rw [hwin2.lo, hwin.lo], by rw [hwin2.hi, hwin.hi]⟩
          have hbZ4 : Blk (put G1 Zn [] W3) G1 Zn [] := put_blk _ _ hbZ3.lt
          have hrL4 : Rd (put G1 Zn [] W3) (some ⟨G2, 0, none⟩) L := hrL3.put hneL _ _
          have hbQ4 : Blk (put G1 Zn [] W3) G3 (Q.set i (g1 - 1)) [] := hbQ3.put_ne (by have := HG3.out; omega)
          have hbl4 : Below G1 w (put G1 Zn [] W3) := put_below hbl3 (Nat.le_refl _) _ _
          clear hbZ3 hrL3 hbQ3 hbl3 hneL
          generalize put G1 Zn [] W3 = W4 at *
          have HC := Lib.hid (back_case HP.out.pos HGQ.out hvt HV.out hcy hval2)
          clear hval2 hvt hwin2 hwin
          rcases HC.out with ⟨rfl, hq, hfin, hlt⟩ | ⟨rfl, hq, hfin⟩
          · have hstep : DvInv n (j + 1) i Zn (Q.set i (g1 - 1)) D (val X * 2 ^ s) :=
              dv_step (by omega) HP.out.lt hinvh.out hwin3 hozn (by omega) hfin hlt
            have HST := Lib.hid hstep; clear hstep hq hfin hlt HC
            go_wp2
            go_roundg i
            case measure => omega
            case rel => exact ⟨Zn, _, by omega, rfl, HST.out, hbZ4, hrL4, hbQ4, hbl4⟩
          · have HF := Lib.hid hfin
            have HQ := Lib.hid hq
            clear hfin hq HC
            go_wp2
            go_roundg (gk - 1)
            case measure => omega
            case rel => exact ⟨g1 - 1, Zn, by rw [HG1.out]; exact Nat.add_sub_assoc hk0 _, dm_pos HG1.out HQ.out, by omega, hwin3, hozn, HF.out, hbZ4, hrL4, hbQ4, hbl4⟩
end Go.Proofs.YtokppjfaihkkcaaDoor
