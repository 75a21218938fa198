/- The walk of package order's mergeSort. -/
import Derived.Test.YtndjdmgncjiggaaQn
import Derived.StillTailTactics
namespace Go.Proofs.Ytndjdmgncjiggaa
open Go.RowKit
set_option linter.unusedVariables false
set_option linter.unusedSimpArgs false

/-- What a sort leaves: the places in their order, in a list of its own. -/
def SortPost (lt : List UInt8 → List UInt8 → Bool) (key : Nat → List UInt8) (n B0 : Nat) (w : World) (e : Ending) (w' : World) : Prop :=
  ∃ g, e = .returned (.slice (some ⟨g, 0, none⟩) n n) ∧ B0 ≤ g ∧ BlkV w' g 3 ((srt lt key 0 n).map iv) ∧ Below B0 w w'

/-- The outer loop. -/
def SO (lt : List UInt8 → List UInt8 → Bool) (key : Nat → List UInt8) (n B0 : Nat) (w : World) (f t r : Value) (wr : World) : Prop :=
  ∃ (q ga gb : Nat) (F T : List Nat), r = .int .i64 (q : Int) ∧ f = .slice (some ⟨ga, 0, none⟩) n n ∧ t = .slice (some ⟨gb, 0, none⟩) n n ∧ 0 < q ∧ q ≤ 2000000 ∧ ga ≠ gb ∧ B0 ≤ ga ∧ B0 ≤ gb ∧
    BlkV wr ga 3 (F.map iv) ∧ BlkV wr gb 3 (T.map iv) ∧ Runs lt key q n n F ∧ T.length = n ∧ Below B0 w wr
/-- The inner one. -/
def SIo (lt : List UInt8 → List UInt8 → Bool) (key : Nat → List UInt8) (n B0 q ga gb : Nat) (F : List Nat) (w : World) (s : Value) (wr : World) : Prop :=
  ∃ (k : Nat) (T : List Nat), s = .int .i64 ((k * (2 * q) : Nat) : Int) ∧ BlkV wr ga 3 (F.map iv) ∧ BlkV wr gb 3 (T.map iv) ∧ Runs lt key (2 * q) n (k * (2 * q)) T ∧ Below B0 w wr ∧ k * (2 * q) ≤ n + 2 * q

theorem run_has {lt : List UInt8 → List UInt8 → Bool} {key : Nat → List UInt8} {r n k : Nat} {F : List Nat} (h : Runs lt key r n n F) (hk : k * r < n) : ∀ x ∈ (F.drop (k * r)).take r, k * r ≤ x ∧ x < k * r + r ∧ x < n := by
  intro x hx
  rw [h.2 k hk hk, srt_mem] at hx
  omega

theorem but_below {B0 g : Nat} {w w' : World} (h : But g w w') (hg : B0 ≤ g) {w1 : World} (hb : Below B0 w1 w) (hB : B0 ≤ w1.heap.size) : Below B0 w1 w' := hb.trans (h.below hg (Nat.le_trans hB hb.size))
/-- A pair of runs is merged. -/
theorem SIo.merge {lt : List UInt8 → List UInt8 → Bool} (hs : Sto lt) {key : Nat → List UInt8} {n pa pl B0 q ga gb k S : Nat} {F T : List Nat} {w0 w W : World} (hc : CmpOk lt key n pa pl B0 w0) (hw : Below B0 w0 w) (hB : B0 ≤ w.heap.size) (hm : n ≤ 1000000) (hq : 0 < q) (hne : ga ≠ gb) (hga : B0 ≤ ga) (hgb : B0 ≤ gb)
    (hFb : BlkV W ga 3 (F.map iv)) (hTb : BlkV W gb 3 (T.map iv)) (hR : Runs lt key q n n F) (hRT : Runs lt key (2 * q) n (k * (2 * q)) T) (hbl : Below B0 w W) (hS : S = k * (2 * q)) (hlt : S < n)
    (lo la lb co ca cb : Nat) (adB : Option Addr) (hla : la = min (S + q) n - S) (hlb : lb = min (S + 2 * q) n - min (S + q) n) (hlo : lo = la + lb) (hco : lo ≤ co) (hca : la ≤ ca) (hcb : lb ≤ cb) (hA : lb ≠ 0 → adB = some ⟨ga, min (S + q) n, none⟩) :
    Calls Try.prog 37 #[.slice (some ⟨gb, S, none⟩) lo co, .slice (some ⟨ga, S, none⟩) la ca, .slice adB lb cb, cmpF pa pl] W fun e w' => e = .returned (.tuple #[]) ∧ SIo lt key n B0 q ga gb F w (.int .i64 ((S : Int) + 2 * (q : Int))) w' := by
  have hF := hR.1
  have hTl := hRT.1
  have lA : ((F.drop S).take la).length = la := by rw [List.length_take, List.length_drop, hF]; omega
  have lB : ((F.drop (min (S + q) n)).take lb).length = lb := by rw [List.length_take, List.length_drop, hF]; omega
  have e2 : k * (2 * q) = (2 * k) * q := by rw [← Nat.mul_assoc, Nat.mul_comm k 2]
  have hAm : ∀ x ∈ (F.drop S).take la, S ≤ x ∧ x < S + q ∧ x < n := fun x hx => by
    have := run_has hR (k := 2 * k) (by omega) x (by
      rw [← e2, ← hS]
      rw [hla, show min (S + q) n - S = min (min (S + q) n - S) q by omega, ← List.take_take] at hx
      exact List.mem_of_mem_take hx)
    omega
  have hBm : ∀ x ∈ (F.drop (min (S + q) n)).take lb, S + q ≤ x ∧ x < n := fun x hx => by
    by_cases h : S + q < n
    · have e3 : S + q = (2 * k + 1) * q := by rw [Nat.add_mul, Nat.one_mul, ← e2, hS]
      have := run_has hR (k := 2 * k + 1) (by omega) x (by
        rw [← e3]
        rw [Nat.min_eq_left (by omega), show lb = min lb q by omega, ← List.take_take] at hx
        exact List.mem_of_mem_take hx)
      omega
    · rw [show lb = 0 by omega, List.take_zero] at hx; cases hx
  have r1 : RdV W (some ⟨ga, S, none⟩) (((F.drop S).take la).map iv) := by rw [List.map_take, List.map_drop]; exact hFb.rd S la
  have r2 : RdV W adB (((F.drop (min (S + q) n)).take lb).map iv) := by
    by_cases h : lb = 0
    · rw [h, List.take_zero]; exact RdV.nil _ _
    · rw [hA h, List.map_take, List.map_drop]; exact hFb.rd _ lb
  have K := merge_any hs hc gb S lo co (some ⟨ga, S, none⟩) adB ca cb ((F.drop S).take la) ((F.drop (min (S + q) n)).take lb) T W (by rw [lA, lB]; omega) (by rw [lA]; exact hca) (by rw [lB]; exact hcb) (by omega) r1 r2
    (fun x e _ => by cases e; exact hne) (fun x e hp => by rw [lB] at hp; rw [hA (by omega)] at e; cases e; exact hne) (fun x hx => (hAm x hx).2.2) (fun x hx => (hBm x hx).2)
    (fun x hx y hy => by have := hAm x hx; have := hBm y hy; omega) hTb (by rw [hTl]; omega) hco (hw.trans hbl) hgb (Nat.le_trans hB hbl.size)
  rw [lA, lB] at K
  refine K.mono ?_
  rintro e w' ⟨he, hb, hbut⟩
  refine ⟨he, k + 1, fillT T (mrg lt key ((F.drop S).take la) ((F.drop (min (S + q) n)).take lb)) S lo, ?_, hbut.blk hFb hne, hb, ?_, but_below hbut hgb hbl hB, ?_⟩
  · congr 1; rw [Nat.add_mul, Nat.one_mul, ← hS]; omega
  · have hst := hR.step hs hq hRT (by omega)
    rw [← hS, ← hla, ← hlb] at hst
    unfold fillT
    have hl : (mrg lt key ((F.drop S).take la) ((F.drop (min (S + q) n)).take lb)).length ≤ lo := by rw [mrg_len, lA, lB]; omega
    rw [show S + lo = min (S + 2 * q) n by omega, List.take_of_length_le hl]
    exact hst
  · rw [Nat.add_mul, Nat.one_mul, ← hS]; omega

set_option maxHeartbeats 4000000 in
theorem mergeSort_any {lt : List UInt8 → List UInt8 → Bool} (hs : Sto lt) {key : Nat → List UInt8} {n pa pl B0 : Nat} {w0 : World} (hc : CmpOk lt key n pa pl B0 w0) (g : Nat) (w : World) (hm : n ≤ 1000000)
    (hF : BlkV w g 3 ((List.range n).map iv)) (hw : Below B0 w0 w) (hg : B0 ≤ g) (hB : B0 ≤ w.heap.size) :
    Calls Try.prog 32 #[.slice (some ⟨g, 0, none⟩) n n, cmpF pa pl] w (SortPost lt key n B0 w) := by
  have HF := Lib.hid hF; have HC := Lib.hid hc; have HW := Lib.hid hw; have HB := Lib.hid hB
  have HGL := Lib.hid hF.lt
  clear hF hc hw hB
  have hmk := fun W => run_make_row' (P := Try.prog) 39 3 (.int .i64 0) 8 Try.underlying39 info_int rfl .i64 .i64 n (by omega) (by omega) W
  go_enter Try.func32, Try.ntmps32
  go_wp2
  go_region
  clear hmk
  go_wp2
  go_loopw [6, 7, 8] (fun f t r wr => SO lt key n B0 w f t r wr) (fun _ _ r _ => n - (intOf r).toNat)
  case atStart => exact ⟨1, g, w.heap.size, List.range n, List.replicate n 0, rfl, rfl, rfl, by decide, by decide, by have := HGL.out; omega, hg, HB.out, HF.out.below (B := w.heap.size) ((Below.refl _ _).alloc (Nat.le_refl _) _).drew HGL.out, by rw [← rep_iv]; exact made_blk _ _ _ _, Runs.start lt key n, by simp, ((Below.refl _ _).alloc HB.out _).drew⟩
  case round =>
    obtain ⟨q, ga, gb, F, T, rfl, rfl, rfl, hq0, hq1, hne, hga, hgb, hFb, hTb, hR, hT, hbl⟩ := hrel
    have HFb := Lib.hid hFb; have HTb := Lib.hid hTb; have HR := Lib.hid hR; have HT := Lib.hid hT; have HBL := Lib.hid hbl
    clear hFb hTb hR hT hbl
    by_cases hlt : q < n
    · go_wp2
      go_loopw [9] (fun s wr => SIo lt key n B0 q ga gb F w s wr) (fun s _ => n - (intOf s).toNat)
      case atStart => exact ⟨0, T, by simp, HFb.out, HTb.out, by rw [Nat.zero_mul]; exact Runs.empty _ _ _ _ _ HT.out, HBL.out, by omega⟩
      case round =>
        clear HFb HTb HT HBL T
        obtain ⟨k, T, rfl, hFb, hTb, hRT, hbl, hkb⟩ := hrel
        have HFb := Lib.hid hFb; have HTb := Lib.hid hTb; have HRT := Lib.hid hRT; have HBL := Lib.hid hbl
        clear hFb hTb hRT hbl
        by_cases hs2 : k * (2 * q) < n
        · obtain ⟨S, hS⟩ : ∃ S, S = k * (2 * q) := ⟨_, rfl⟩
          have HSD := Lib.hid hS
          rw [← hS] at hs2 hkb ⊢
          clear hS
          have b4 : (0 : Int) ≤ (S : Int) := by omega
          have b6 : (S : Int) < (n : Int) := by omega
          have b7 : (q : Int) ≤ 2000000 := by omega
          have b8 : (n : Int) ≤ 1000000 := by omega
          have b9 : ¬ n = S := by omega
          have c1 : (S : Int) + (q : Int) ≤ (n : Int) ∨ (n : Int) < (S : Int) + (q : Int) := by omega
          rcases Nat.lt_trichotomy (S + q) n with hq | hq | hq
          · have b1 : (S : Int) + (q : Int) ≤ (n : Int) := by omega
            have b2 : (S : Int) ≤ (S : Int) + (q : Int) := by omega
            have b3 : ¬ n = S + q := by omega
            clear c1
            rcases Nat.lt_or_ge n (S + 2 * q) with hr | hr
            · have d1 : ¬ (S : Int) + 2 * (q : Int) ≤ (n : Int) := by omega
              have d2 : (S : Int) ≤ (n : Int) := by omega
              have e1 : ((S : Int) + (q : Int)).toNat = S + q := by omega
              have e2 : (0 : Int) ≤ (S : Int) + (q : Int) := by omega
              have e3 : ((S : Int) + 2 * (q : Int)).toNat = S + 2 * q := by omega
              have e4 : (0 : Int) ≤ (S : Int) + 2 * (q : Int) := by omega
              have mn1 := Int.min_def ((S : Int) + (q : Int)) (n : Int)
              have mn2 := Int.min_def ((S : Int) + 2 * (q : Int)) (n : Int)
              go_wp2
              go_still_tail 13, (by kernel_rfl)
              change wpList _ _ _ _ _ wr.drew
              have HFb := Lib.hid (show BlkV wr.drew ga 3 (F.map iv) from HFb.out)
              have HTb := Lib.hid (show BlkV wr.drew gb 3 (T.map iv) from HTb.out)
              have HBL := Lib.hid HBL.out.drew
              generalize hWD : wr.drew = W at HFb HTb HBL ⊢
              clear hWD
              go_wp2_with fail
              refine (SIo.merge hs HC.out HW.out HB.out hm hq0 hne hga hgb HFb.out HTb.out HR.out HRT.out HBL.out HSD.out hs2 _ _ _ _ _ _ _ (by omega) (by omega) (by omega) (by omega) (by omega) (by omega) (fun _ => by rw [Nat.min_eq_left (by omega)])).mono ?_
              rintro r w2 ⟨rfl, hSI⟩
              have HSI := Lib.hid hSI
              clear hSI
              go_wp2
              go_roundw
              case rel => exact HSI.out
              case measure => simp [intOf]; omega
            · have d1 : (S : Int) + 2 * (q : Int) ≤ (n : Int) := by omega
              have d2 : (S : Int) ≤ (S : Int) + 2 * (q : Int) := by omega
              have d3 : (S : Int) + (q : Int) ≤ (S : Int) + 2 * (q : Int) := by omega
              have e1 : ((S : Int) + (q : Int)).toNat = S + q := by omega
              have e2 : (0 : Int) ≤ (S : Int) + (q : Int) := by omega
              have e3 : ((S : Int) + 2 * (q : Int)).toNat = S + 2 * q := by omega
              have e4 : (0 : Int) ≤ (S : Int) + 2 * (q : Int) := by omega
              have mn1 := Int.min_def ((S : Int) + (q : Int)) (n : Int)
              have mn2 := Int.min_def ((S : Int) + 2 * (q : Int)) (n : Int)
              go_wp2
              go_still_tail 13, (by kernel_rfl)
              change wpList _ _ _ _ _ wr.drew
              have HFb := Lib.hid (show BlkV wr.drew ga 3 (F.map iv) from HFb.out)
              have HTb := Lib.hid (show BlkV wr.drew gb 3 (T.map iv) from HTb.out)
              have HBL := Lib.hid HBL.out.drew
              generalize hWD : wr.drew = W at HFb HTb HBL ⊢
              clear hWD
              go_wp2_with fail
              refine (SIo.merge hs HC.out HW.out HB.out hm hq0 hne hga hgb HFb.out HTb.out HR.out HRT.out HBL.out HSD.out hs2 _ _ _ _ _ _ _ (by omega) (by omega) (by omega) (by omega) (by omega) (by omega) (fun _ => by rw [Nat.min_eq_left (by omega)])).mono ?_
              rintro r w2 ⟨rfl, hSI⟩
              have HSI := Lib.hid hSI
              clear hSI
              go_wp2
              go_roundw
              case rel => exact HSI.out
              case measure => simp [intOf]; omega
          · have HQ := Lib.hid hq
            have b1 : (S : Int) + (q : Int) ≤ (n : Int) := by omega
            have b2 : (S : Int) ≤ (S : Int) + (q : Int) := by omega
            have d1 : ¬ (S : Int) + 2 * (q : Int) ≤ (n : Int) := by omega
            have d2 : (S : Int) ≤ (n : Int) := by omega
            have b3 : (n = S + q) = True := by simp; omega
            clear c1 hq
            have e1 : ((S : Int) + (q : Int)).toNat = S + q := by omega
            have e2 : (0 : Int) ≤ (S : Int) + (q : Int) := by omega
            have mn1 := Int.min_def ((S : Int) + (q : Int)) (n : Int)
            have mn2 := Int.min_def ((S : Int) + 2 * (q : Int)) (n : Int)
            go_wp2
            go_still_tail 13, (by kernel_rfl)
            change wpList _ _ _ _ _ wr.drew
            have HFb := Lib.hid (show BlkV wr.drew ga 3 (F.map iv) from HFb.out)
            have HTb := Lib.hid (show BlkV wr.drew gb 3 (T.map iv) from HTb.out)
            have HBL := Lib.hid HBL.out.drew
            generalize hWD : wr.drew = W at HFb HTb HBL ⊢
            clear hWD
            go_wp2_with fail
            refine (SIo.merge hs HC.out HW.out HB.out hm hq0 hne hga hgb HFb.out HTb.out HR.out HRT.out HBL.out HSD.out hs2 _ _ _ _ _ _ _ (by have := HQ.out; omega) (by have := HQ.out; omega) (by have := HQ.out; omega) (by have := HQ.out; omega) (by have := HQ.out; omega) (by have := HQ.out; omega) (fun h => absurd h (by have := HQ.out; omega))).mono ?_
            rintro r w2 ⟨rfl, hSI⟩
            have HSI := Lib.hid hSI
            clear hSI
            go_wp2
            go_roundw
            case rel => exact HSI.out
            case measure => simp [intOf]; omega
          · have b1 : ¬ (S : Int) + (q : Int) ≤ (n : Int) := by omega
            have d1 : ¬ (S : Int) + 2 * (q : Int) ≤ (n : Int) := by omega
            have d2 : (S : Int) ≤ (n : Int) := by omega
            clear c1
            have e1 : ((S : Int) + (q : Int)).toNat = S + q := by omega
            have e2 : (0 : Int) ≤ (S : Int) + (q : Int) := by omega
            have e3 : ((S : Int) + 2 * (q : Int)).toNat = S + 2 * q := by omega
            have e4 : (0 : Int) ≤ (S : Int) + 2 * (q : Int) := by omega
            have mn1 := Int.min_def ((S : Int) + (q : Int)) (n : Int)
            have mn2 := Int.min_def ((S : Int) + 2 * (q : Int)) (n : Int)
            go_wp2
            go_still_tail 13, (by kernel_rfl)
            change wpList _ _ _ _ _ wr.drew
            have HFb := Lib.hid (show BlkV wr.drew ga 3 (F.map iv) from HFb.out)
            have HTb := Lib.hid (show BlkV wr.drew gb 3 (T.map iv) from HTb.out)
            have HBL := Lib.hid HBL.out.drew
            generalize hWD : wr.drew = W at HFb HTb HBL ⊢
            clear hWD
            go_wp2_with fail
            refine (SIo.merge hs HC.out HW.out HB.out hm hq0 hne hga hgb HFb.out HTb.out HR.out HRT.out HBL.out HSD.out hs2 _ _ _ _ _ _ _ (by omega) (by omega) (by omega) (by omega) (by omega) (by omega) (fun h => absurd h (by omega))).mono ?_
            rintro r w2 ⟨rfl, hSI⟩
            have HSI := Lib.hid hSI
            clear hSI
            go_wp2
            go_roundw
            case rel => exact HSI.out
            case measure => simp [intOf]; omega
        · have HSD := Lib.hid hs2
          have hz : ¬ ((k * (2 * q) : Nat) : Int) < (n : Int) := by omega
          have HR2 := Lib.hid (Runs.mono (q := n) HRT.out (by omega))
          clear HSD hs2
          generalize k * (2 * q) = S at *
          go_wp2
          go_roundw
          case rel => exact ⟨2 * q, gb, ga, T, F, by go_num, rfl, rfl, by omega, by omega, fun h => hne h.symm, hgb, hga, HTb.out, HFb.out, HR2.out, HR.out.1, HBL.out⟩
          case measure => simp [intOf]; omega
    · have hz : ¬ (q : Int) < (n : Int) := by omega
      have HD := Lib.hid (HR.out.done (by omega))
      go_wp2
      go_ret
      exact ⟨ga, rfl, hga, by rw [← HD.out]; exact HFb.out, HBL.out⟩
end Go.Proofs.Ytndjdmgncjiggaa
