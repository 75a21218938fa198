/- The walk of num's Int at numbers below 2 to the 64. -/
import Derived.Test.YtogapgjilbcbfaaGreatDoorNi
namespace Go.Proofs.YtogapgjilbcbfaaGreatDoor
open Go.RowKit Go.Sort
set_option linter.unusedVariables false
set_option linter.unusedSimpArgs false

def IntPost (neg : Bool) (k : Nat) (w : World) (r : Ending) (w' : World) : Prop :=
  ∃ v, r = .returned (.tuple #[.bool neg, v, .bool true]) ∧ Own w.heap.size w' v (limbs k) ∧ Below w.heap.size w w'
def ICut (w : World) (k : Nat) (neg : Bool) (v : Value) (wx : World) : Prop :=
  Own w.heap.size wx v (limbs k) ∧ Below w.heap.size w wx ∧ wx.cell? ⟨w.heap.size, 0, none⟩ = some (.bool neg) ∧ w.heap.size < wx.heap.size

set_option maxHeartbeats 8000000 in
set_option maxRecDepth 100000 in
theorem int_any (neg : Bool) (ad : Option Addr) (n cap m t k : Nat) (w : World) (ha : NumOk w neg ad n cap (limbs m) (t : Int)) (hk : m * tenN t = k) (hb : bitsN k ≤ 400) (ht : t ≤ 20) (hm : n ≤ 2) (hl : (limbs k).length ≤ 100) :
    Calls Tryz.prog 10 #[.agg #[.bool neg, .slice ad n cap, .int .i64 (t : Int)]] w (IntPost neg k w) := by
  have hbl := below_box w #[.bool neg, .slice ad n cap, .int .i64 (t : Int)] 24
  have HB := Lib.hid hbl
  have KO := Lib.hid (ha.same _ hbl)
  have KP0 : ∀ W : World, Calls Tryz.prog 29 #[.int .u32 10, .int .i64 (t : Int)] W (Gives (10 ^ t) W) := fun W => by
    have K := pow_any 10 (t : Int) W (by decide)
    rw [cutP_nat (n := t) (by omega)] at K; exact K
  have KP := Lib.hid KP0; clear KP0
  have KB := Lib.hid (fun W v (h : Own w.heap.size W v (limbs k)) => (show ∀ ad n cap, v = .slice ad n cap → Calls Tryz.prog 30 #[v] W (fun e w' => e = .returned (.int .i64 (bitsN k : Int)) ∧ W = w') by
    intro ad2 n2 cap2 hv
    obtain ⟨ad3, cap3, hv3, h1, h2, _⟩ := h.view
    subst hv3
    have K := bits_any ad3 (limbs k).length cap3 (limbs k) W rfl h1 (by omega) (limbs_ok k) h2
    rwa [val_limbs] at K))
  have htp : tenN t = 10 ^ t := rfl
  have KM0 : ∀ (W : World) (ad2 : Option Addr) (cap2 : Nat), Below w.heap.size w W → (limbs (10 ^ t)).length ≤ cap2 → Rd W ad2 (limbs (10 ^ t)) → Calls Tryz.prog 28 #[.slice ad n cap, .slice ad2 (limbs (10 ^ t)).length cap2] W (Gives k W) := by
    intro W ad2 cap2 hB hc2 hr2
    have hl2 : (limbs (10 ^ t)).length ≤ 100 := by
      have h1 : (10 : Nat) ^ t ≤ 10 ^ 20 := Nat.pow_le_pow_right (by decide) ht
      exact Nat.le_trans (limbs_len_mono h1) (by decide +kernel)
    have K := mul_any ad n cap (limbs m) ad2 (limbs (10 ^ t)).length cap2 (limbs (10 ^ t)) W ha.len ha.cap (by omega) (limbs_ok m) (ha.rd.below hB) rfl hc2 (by omega) (limbs_ok _) hr2
    rw [val_limbs, val_limbs, ← htp, hk] at K
    exact K
  have KM := Lib.hid KM0; clear KM0 htp
  have HK := Lib.hid hk
  have HBT : ¬ (400 : Int) < (bitsN k : Int) := by omega
  have HA := Lib.hid ha
  clear hbl ha hk hb
  generalize bitsN k = bk at *
  go_enter Tryz.func10, Tryz.ntmps10
  go_wp2_with fail
  refine KO.out.mono ?_
  rintro r w1 ⟨rfl, hb1⟩
  obtain ⟨hc1, hf1⟩ := bcell hb1
  have hz1 : w.heap.size < w1.heap.size := by have h := hb1.size; simp at h; omega
  have HB1 := Lib.hid (below_on HB.out hb1); clear hb1
  have ht0 : ¬ ((t : Int) < 0) := by omega
  go_wp2_with fail
  have e0 : w1.cell? ⟨w.heap.size, 0, none⟩ = some (.bool neg) := by rw [hc1 _ _ (by simp)]; simp
  have e1 : w1.cell? ⟨w.heap.size, 1, none⟩ = some (.slice ad n cap) := by rw [hc1 _ _ (by simp)]; simp
  have e2 : w1.cell? ⟨w.heap.size, 2, none⟩ = some (.int .i64 (t : Int)) := by rw [hc1 _ _ (by simp)]; simp
  rw [setCell_self e0, setCell_self e1, setCell_self e2]
  clear hc1 hf1
  go_region_with (first
    | (refine (KP.out _).mono ?_; rintro r w2 ⟨v2, rfl, hv2, hb2⟩; obtain ⟨ad2, cap2, hve, hq2, hrd2, _⟩ := hv2.view; subst hve; have HB2 := below_on (below_drew HB1.out) hb2; have e21 : w2.cell? ⟨w.heap.size, 1, none⟩ = some (.slice ad n cap) := (by rw [(bcell hb2).1 _ _ (by simpa using hz1)]; simpa using e1); have e20 : w2.cell? ⟨w.heap.size, 0, none⟩ = some (.bool neg) := (by rw [(bcell hb2).1 _ _ (by simpa using hz1)]; simpa using e0))
    | (refine (KM.out _ _ _ HB2 hq2 hrd2).mono ?_; rintro r w3 ⟨v3, rfl, hv3, hb3⟩; have HB3 := below_on HB2 hb3)
    | fail)
  all_goals
    have hz2 : w.heap.size < w2.heap.size := Nat.lt_of_lt_of_le hz1 (by have h := hb2.size; simpa using h)
    have e03 : w3.cell? ⟨w.heap.size, 0, none⟩ = some (.bool neg) := by rw [(bcell hb3).1 _ _ hz2]; exact e20
    obtain ⟨ad3, cap3, hv3e, _⟩ := hv3.view
    have hsz : w.heap.size ≤ w2.heap.size := Nat.le_of_lt hz2
    have KB2 := Lib.hid (KB.out w3 v3 (hv3.mono hsz) ad3 _ cap3 hv3e)
    have HV := Lib.hid (hv3.mono hsz)
    have HB4 := Lib.hid HB3
    clear hv3 hb3 HB3 hv3e hb2 hv2 HB2 hrd2 hq2 e0 e1 e2 e20 e21
    go_wp2_with fail
    refine KB2.out.mono ?_
    rintro r w4 ⟨rfl, rfl⟩
    go_wp2
    exact bodyPost_ret (v := .tuple #[.bool neg, v3, .bool true]) (by simp [results, Tryz.results10, go_sem]) rfl ⟨_, rfl, HV.out, HB4.out⟩
end Go.Proofs.YtogapgjilbcbfaaGreatDoor
