/- erratumlaw00's SameStrings, SameNum of what is the same. -/
import Derived.Test.YtndjdmgncjiggaaQKr
namespace Go.Proofs.Ytndjdmgncjiggaa
open Go.RowKit
set_option linter.unusedVariables false
set_option linter.unusedSimpArgs false
set_option maxHeartbeats 1000000 in
theorem sameStrings_any (ad : Option Addr) (n cap : Nat) (l : List ByteArray) (ad' : Option Addr) (cap' : Nat) (w : World) (hl : l.length = n) (hc : n ≤ cap) (hc' : n ≤ cap') (hm : n ≤ 1000000000) (hr : RdV w ad (sv l)) (hr' : RdV w ad' (sv l)) :
    Calls Try.prog 30 #[.slice ad n cap, .slice ad' n cap'] w fun e w' => e = .returned (.bool true) ∧ ∃ q, w' = w.drewN q := by
  have HN := Lib.hid hl; have HR := Lib.hid hr; have HR' := Lib.hid hr'
  clear hl hr hr'
  have h0 : ((n : Int) != (n : Int)) = false := by simp
  go_enter Try.func30, Try.ntmps30
  go_wp2
  clear h0
  go_loopw [5] (fun i wr => ∃ k q : Nat, k ≤ n ∧ i = .int .i64 (k : Int) ∧ wr = w.drewN q) (fun i _ => n - (intOf i).toNat)
  case atStart => exact ⟨0, 0, Nat.zero_le _, rfl, rfl⟩
  case round =>
    obtain ⟨k, q, hk, rfl, hq⟩ := hrel
    by_cases hlt : k < n
    · have h1 : (k : Int) < (n : Int) := by omega
      have h2 : (0 : Int) ≤ (k : Int) := by omega
      obtain ⟨b, o, rfl, _, hc1⟩ := HR.out k (by rw [sv_len, HN.out]; exact hlt)
      obtain ⟨b', o', rfl, _, hc2⟩ := HR'.out k (by rw [sv_len, HN.out]; exact hlt)
      rw [sv_get _ _ (by rw [HN.out]; exact hlt)] at hc1 hc2
      generalize l.getD k ByteArray.empty = x at hc1 hc2
      have h3 : (x.toList == x.toList) = true := by simp
      subst hq
      go_wp2
      go_quiet (fail)
      go_wp2
      go_roundw
      case rel => exact ⟨k + 1, _, by omega, by go_num, rfl⟩
      case measure => simp [intOf]; omega
    · obtain rfl : k = n := by omega
      have h1 : ¬ (k : Int) < (k : Int) := by omega
      subst hq
      go_wp2
      go_ret
      exact ⟨rfl, _, rfl⟩
set_option maxHeartbeats 2000000 in
theorem sameNum_any (neg : Bool) (ad : Option Addr) (n cap : Nat) (xs : List Nat) (e : Int) (ad' : Option Addr) (cap' : Nat) (w : World) (hn : xs.length = n) (hcap : n ≤ cap) (hcap' : n ≤ cap') (hm : n ≤ 1000000000) (hr : Rd w ad xs) (hr' : Rd w ad' xs) :
    Calls Try.prog 29 #[.agg #[.bool neg, .slice ad n cap, .int .i64 e], .agg #[.bool neg, .slice ad' n cap', .int .i64 e]] w (BoolBelow true w) := by
  have hbl : Below w.heap.size w ((w.alloc (.cells #[.bool neg, .slice ad n cap, .int .i64 e] 29)).alloc (.cells #[.bool neg, .slice ad' n cap', .int .i64 e] 29)) := ((Below.refl _ _).alloc (Nat.le_refl _) _).alloc (by simp) _
  have HB := Lib.hid hbl
  have K := Lib.hid (same_any ad n cap xs ad' cap' _ hn hcap hcap' hm (hr.below hbl) (hr'.below hbl))
  clear hbl hn
  have ht : (neg == neg) = true := by simp
  have hte : (e == e) = true := by simp
  go_enter Try.func29, Try.ntmps29
  go_wp2_with fail
  refine K.out.mono ?_
  rintro r w' ⟨rfl, q, rfl⟩
  go_wp2
  go_ret
  exact BoolBelow.mk rfl (below_drewN HB.out q)
end Go.Proofs.Ytndjdmgncjiggaa
/- The walk of light: whose number is none below nought is small. -/
namespace Go.Proofs.Ytndjdmgncjiggaa
open Go.RowKit Go.Shelf
set_option linter.unusedVariables false
set_option linter.unusedSimpArgs false

def LightP2 (t : MT) (n : Int) (w : World) (e : Ending) (w' : World) : Prop :=
  ∃ z : Int, e = .returned (.int .i64 z) ∧ -1 ≤ z ∧ z ≤ 1000 ∧ (0 ≤ z → Sml t) ∧ Below w.heap.size w w'
def LN2 (W0 : World) (n k : Nat) (i : Value) (wr : World) : Prop :=
  ∃ j : Nat, j ≤ n ∧ n - j ≤ k ∧ i = .int .i64 (j : Int) ∧ Below W0.heap.size W0 wr
def LV2 (vals : List MT) (W0 : World) (n k : Nat) (nv i : Value) (wr : World) : Prop :=
  ∃ (j : Nat) (z : Int), j ≤ n ∧ n - j ≤ k ∧ i = .int .i64 (j : Int) ∧ nv = .int .i64 z ∧ -1 ≤ z ∧ z ≤ 1000 ∧ (0 ≤ z → ∀ s ∈ vals.take j, Sml s) ∧ Below W0.heap.size W0 wr

set_option maxHeartbeats 4000000 in
set_option maxRecDepth 100000 in
theorem light2_any (t : MT) : ∀ (n : Int) (w : World), 0 ≤ n → n ≤ 1000 → Rep w t →
    Calls Try.prog 21 #[t.c.val, .int .i64 n] w (LightP2 t n w) := by
  refine MT.ind (P := fun t => ∀ (n : Int) (w : World), 0 ≤ n → n ≤ 1000 → Rep w t → Calls Try.prog 21 #[t.c.val, .int .i64 n] w (LightP2 t n w)) ?_ t
  intro t ih n w hn0 hn1 hR
  have own := hR.own
  obtain ⟨Wb, hWb⟩ : ∃ x, w.alloc (.cells t.c.cells.toArray 31) = x := ⟨_, rfl⟩
  have hb0 : Below w.heap.size w Wb := by rw [← hWb]; exact (Below.refl _ _).alloc (Nat.le_refl _) _
  have hsz : Wb.heap.size = w.heap.size + 1 := by rw [← hWb]; simp
  have hbx : BoxT Wb w.heap.size t.c := by unfold BoxT; rw [← hWb]; exact heap_alloc_new w _
  have HB0 := Lib.hid (fun W (h : Below Wb.heap.size Wb W) => hb0.trans (h.mono hb0.size))
  have HBX := Lib.hid (fun W (h : Below Wb.heap.size Wb W) => hbx.on (h.block _ (by omega)))
  have HK := Lib.hid (fun W (h : Below w.heap.size w W) => own.kr.on h)
  have HV := Lib.hid (fun W (h : Below w.heap.size w W) => own.vr.on h)
  have HKL := Lib.hid own.kn
  have HVL := Lib.hid own.vn
  have KI := Lib.hid (fun (j : Nat) (hj : j < t.v.length) (z : Int) (W : World) (h0 : 0 ≤ z) (h1 : z ≤ 1000) (h : Below w.heap.size w W) => ih (t.v.getD j (leafT 0 false ⟨#[]⟩)) (by simp [List.getD, hj]) z W h0 h1 (by
    have hm : t.v.getD j (leafT 0 false ⟨#[]⟩) ∈ t.v := by simp [List.getD, hj]
    exact (hR.part hm).on h))
  have hkc := own.kc; have hvc := own.vc; have hlm := own.lm
  have HWB := Lib.hid (show Below Wb.heap.size Wb (w.alloc (.cells t.c.cells.toArray 31)) by rw [hWb]; exact Below.refl _ _)
  have HFN := Lib.hid (show ∀ W (z : Int), -1 ≤ z → z ≤ 1000 → (0 ≤ z → Sml t) → Below Wb.heap.size Wb W → LightP2 t n w (.returned (.int .i64 z)) W from fun W z h1 h2 h0 h3 => ⟨z, rfl, h1, h2, h0, HB0.out W h3⟩)
  have HSM := Lib.hid (show t.c.mn ≤ 1000000 → t.c.kn ≤ 1000000 → t.c.vn ≤ 1000000 → (∀ s ∈ t.v, Sml s) → Sml t from fun h1 h2 h3 h4 u hu => by
    rcases MT.sub_cases hu with rfl | ⟨s, hs, hu⟩
    · exact ⟨h1, h2, h3⟩
    · exact h4 s hs u hu)
  have HZ := Lib.hid hsz
  unfold LightP2 at HFN
  obtain ⟨ST, hST⟩ : ∃ p, Sml t = p := ⟨_, rfl⟩
  rw [hST] at HFN HSM
  unfold LightP2
  rw [hST]
  clear hb0 hsz hbx own hR ih hWb hST
  generalize t.k = names at *
  generalize t.v = vals at *
  generalize t.m = limbs at *
  generalize t.c = c at *
  obtain ⟨k, b, neg, ma, mn, mc, e, st, ka, kn, kc, va, vn, vc⟩ := c
  unfold Cel.val
  unfold Cel.cells at HWB
  simp only at HWB hkc hvc hlm HKL HVL HK HV
  obtain ⟨hl1, hl2, hl3⟩ := hlm
  have hw1 : -9223372036854775808 ≤ n - 1 ∧ n - 1 ≤ 9223372036854775807 := by omega
  go_enter Try.func21, Try.ntmps21
  by_cases g1 : (95 : Int) < (mn : Int)
  · go_wp2
    go_ret
    exact HFN.out _ _ (by omega) (by omega) (fun h => absurd h (by decide)) HWB.out
  by_cases g2 : (2100 : Int) < (st.size : Int)
  · go_wp2
    go_ret
    exact HFN.out _ _ (by omega) (by omega) (fun h => absurd h (by decide)) HWB.out
  by_cases g3 : (40 : Int) < (kn : Int)
  · go_wp2
    go_ret
    exact HFN.out _ _ (by omega) (by omega) (fun h => absurd h (by decide)) HWB.out
  by_cases g4 : (40 : Int) < (vn : Int)
  · go_wp2
    go_ret
    exact HFN.out _ _ (by omega) (by omega) (fun h => absurd h (by decide)) HWB.out
  go_wp2
  go_loopg [5] kn (fun k i wr => LN2 Wb kn k i wr)
  case atStart => exact ⟨0, Nat.zero_le _, by omega, rfl, HWB.out⟩
  case round =>
    obtain ⟨j, hj, hk, rfl, hb⟩ := hrel
    obtain ⟨c0, c1, c2, c3, c4, c5, c6, c7⟩ := (HBX.out _ hb).cells
    simp only at c0 c1 c2 c3 c4 c5 c6 c7
    have HB := Lib.hid hb
    clear hb
    by_cases hlt : j < kn
    · obtain ⟨k, rfl⟩ : ∃ k, gk = k + 1 := ⟨gk - 1, by omega⟩
      have hjz : (j : Int) < (kn : Int) := by omega
      have hjl : j < names.length := by rw [HKL.out]; exact hlt
      obtain ⟨bk, o, rfl, hbl, hc⟩ := HK.out wr (HB0.out _ HB.out) j (by rw [sv_len]; exact hjl)
      rw [sv_get _ _ hjl] at hc
      generalize names.getD j ByteArray.empty = x at *
      by_cases g5 : (2100 : Int) < (x.size : Int)
      · go_wp2
        go_ret
        exact HFN.out _ _ (by omega) (by omega) (fun h => absurd h (by decide)) HB.out
      · have HN := Lib.hid (show LN2 Wb kn k (.int .i64 ((j : Int) + 1)) wr from ⟨j + 1, by omega, by omega, rfl, HB.out⟩)
        go_wp2
        go_roundg k
        case rel => exact HN.out
        case measure => omega
    · have hjz : ¬ (j : Int) < (kn : Int) := by omega
      go_wp2
      clear c0 c1 c2 c3 c4 c5 c6 c7 hjz hlt
      go_loopg [1, 6] vn (fun k nv i wr => LV2 vals Wb vn k nv i wr)
      case atStart => exact ⟨0, n - 1, Nat.zero_le _, by omega, rfl, rfl, by omega, by omega, fun _ s hs => by simp at hs, HB.out⟩
      case round =>
        obtain ⟨j, z, hj, hk, rfl, rfl, hz1, hz2, hsm, hb⟩ := hrel
        have HSJ := Lib.hid hsm
        clear hsm
        obtain ⟨c0, c1, c2, c3, c4, c5, c6, c7⟩ := (HBX.out _ hb).cells
        simp only at c0 c1 c2 c3 c4 c5 c6 c7
        have HB := Lib.hid hb
        clear hb
        by_cases hlt : j < vn
        · have hjz : (j : Int) < (vn : Int) := by omega
          by_cases hz0 : 0 ≤ z
          · obtain ⟨k, rfl⟩ : ∃ k, gk = k + 1 := ⟨gk - 1, by omega⟩
            have hjl : j < vals.length := by rw [HVL.out]; exact hlt
            have hrd := HV.out wr (HB0.out _ HB.out)
            obtain ⟨xbk, xo, rfl, hbl⟩ := hrd.shape (by rw [flat_len, List.length_map]; omega)
            obtain ⟨x0, x1, x2, x3, x4, x5, x6, x7⟩ := flat_at hrd j (by rw [List.length_map]; omega) (c := (vals.getD j (leafT 0 false ⟨#[]⟩)).c) (getD_mapc hjl _)
            have K := KI.out j hjl z wr hz0 hz2 (HB0.out _ HB.out)
            clear hrd
            obtain ⟨TJ, hTJ⟩ : ∃ x, vals.getD j (leafT 0 false ⟨#[]⟩) = x := ⟨_, rfl⟩
            have HTJ := Lib.hid hTJ
            rw [hTJ] at K x0 x1 x2 x3 x4 x5 x6 x7
            clear hTJ
            unfold LightP2 at K
            generalize TJ.c = xc at *
            obtain ⟨xk, xb, xneg, xma, xmn, xmc, xe, xs, xka, xkn, xkc, xva, xvn, xvc⟩ := xc
            unfold Cel.val at K
            simp only at K x0 x1 x2 x3 x4 x5 x6 x7
            have KX := Lib.hid K
            have HN := Lib.hid (fun (W : World) (z2 : Int) (h1 : -1 ≤ z2) (h2 : z2 ≤ 1000) (h0 : 0 ≤ z2 → Sml TJ) (h : Below wr.heap.size wr W) => (⟨j + 1, z2, by omega, by omega, rfl, rfl, h1, h2, fun hz s hs => by
              rw [List.take_add_one, List.getElem?_eq_getElem hjl] at hs
              simp only [Option.toList, List.mem_append, List.mem_singleton] at hs
              rcases hs with hs | rfl
              · exact HSJ.out hz0 s hs
              · have := h0 hz; rw [← HTJ.out] at this; rwa [show vals.getD j (leafT 0 false ⟨#[]⟩) = vals[j] by simp [List.getD, hjl]] at this, HB.out.trans (h.mono HB.out.size)⟩ : LV2 vals Wb vn k (.int .i64 z2) (.int .i64 ((j : Int) + 1)) W))
            clear K
            go_wp2_with fail
            refine KX.out.mono ?_
            rintro r w2 ⟨z2, rfl, h1, h2, h4, h3⟩
            have HF := Lib.hid (HN.out w2 z2 h1 h2 h4 h3)
            clear h3
            go_wp2
            go_roundg k
            case rel => exact HF.out
            case measure => omega
          · have hz0' : z < 0 := by omega
            go_wp2
            go_ret
            exact HFN.out _ _ hz1 hz2 (fun h => absurd h (by omega)) HB.out
        · have hjz : ¬ (j : Int) < (vn : Int) := by omega
          go_wp2
          go_ret
          exact HFN.out _ _ hz1 hz2 (fun h => HSM.out (by omega) (by omega) (by omega) (fun s hs => HSJ.out h s (by rw [List.take_of_length_le (by have := HVL.out; omega)]; exact hs))) HB.out
end Go.Proofs.Ytndjdmgncjiggaa
