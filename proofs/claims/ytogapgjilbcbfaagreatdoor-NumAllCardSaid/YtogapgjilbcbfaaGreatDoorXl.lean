/- The walk of the law NumAll. -/
import Derived.Test.YtogapgjilbcbfaaGreatDoorXi
import Derived.Test.YtogapgjilbcbfaaGreatDoorRg
namespace Go.Proofs.YtogapgjilbcbfaaGreatDoor
open Go.RowKit Go.Sort
set_option linter.unusedVariables false
set_option linter.unusedSimpArgs false

theorem bx_snd2 (w : World) (o : Obj) (neg : Bool) (v : Value) (e : Int) : Bx ((w.alloc o).alloc (.cells #[.bool neg, v, .int .i64 e] 24)) (w.heap.size + 1) neg v e := by
  have h := bx_new (w.alloc o) neg v e
  rwa [show (w.alloc o).heap.size = w.heap.size + 1 by simp] at h
theorem numAt_ent {w0 w : World} {l : List Ent} (h : Ctx w0 w l) (i : Nat) {a : Option Addr} {n c L N : Nat} {xs : List Nat} (hi : l[i]? = some ⟨.slice a n c, L, N, xs⟩) (hn : n ≤ 30) : NumAt w a n c xs := by
  obtain ⟨ad, cap, h1, h2, h3, h4, h5, h6⟩ := h.get i hi
  simp only [Value.slice.injEq] at h1
  obtain ⟨rfl, rfl, rfl⟩ := h1
  exact ⟨rfl, h2, by omega, h4, h5⟩
def iB (N : Nat) (e : Int) : Bool := decide (0 ≤ e ∧ bitsN (N * tenN e.toNat) ≤ 400)
def iM (N : Nat) (e : Int) : Nat := if iB N e = true then N * tenN e.toNat else 0
def IntQ (ng : Bool) (N : Nat) (e : Int) (w : World) (r : Ending) (w' : World) : Prop :=
  ∃ ad cap, r = .returned (.tuple #[.bool (iB N e && ng), .slice ad (limbs (iM N e)).length cap, .bool (iB N e)]) ∧ (limbs (iM N e)).length ≤ cap ∧ Rd w' ad (limbs (iM N e)) ∧ Below w.heap.size w w'
theorem intQ_of {ng : Bool} {N : Nat} {e : Int} {w : World} {r : Ending} {w' : World} (h : IntP ng N e w r w') : IntQ ng N e w r w' := by
  obtain ⟨hb, h⟩ := h
  by_cases hc : 0 ≤ e ∧ bitsN (N * tenN e.toNat) ≤ 400
  · rw [if_pos hc] at h
    obtain ⟨v, rfl, ho⟩ := h
    have e1 : iB N e = true := decide_eq_true hc
    have e2 : iM N e = N * tenN e.toNat := by unfold iM; rw [if_pos e1]
    obtain ⟨ad, cap, rfl, q1, q2, _⟩ := ho.view
    rw [← e2] at q1 q2 ⊢
    exact ⟨ad, cap, by rw [e1]; rfl, q1, q2, hb⟩
  · rw [if_neg hc] at h
    subst h
    have e1 : iB N e = false := decide_eq_false hc
    have e2 : iM N e = 0 := by unfold iM; rw [e1]; rfl
    refine ⟨none, 0, ?_, ?_, ?_, hb⟩
    · rw [e1, e2, limbs_zero]; rfl
    · rw [e2, limbs_zero]; exact Nat.le_refl _
    · rw [e2, limbs_zero]; exact Rd.nil _ _
theorem iM_len (N : Nat) (e : Int) : (limbs (iM N e)).length ≤ 1000000 := by
  unfold iM iB
  split
  · rename_i h
    have h2 := (of_decide_eq_true h).2
    generalize N * tenN e.toNat = M at *
    by_cases h0 : limbs M = []
    · rw [h0]; simp
    · obtain ⟨t, ht⟩ : ∃ t, (limbs M).length = t + 1 := ⟨(limbs M).length - 1, by have : (limbs M).length ≠ 0 := fun h1 => h0 (List.eq_nil_of_length_eq_zero h1); omega⟩
      rw [bitsN_top ht] at h2
      omega
  · rw [limbs_zero]; simp
theorem bx_range {w : World} {g : Nat} {neg : Bool} {v : Value} {e : Int} (h : Bx w g neg v e) : w.rangeAt g 0 [.bool neg, v, .int .i64 e] := fun j u hj => by
  obtain ⟨_, h0, h1, h2⟩ := h
  match j, hj with
  | 0, hj => simp at hj; subst hj; exact h0
  | 1, hj => simp at hj; subst hj; exact h1
  | 2, hj => simp at hj; subst hj; exact h2
theorem box3C {w0 w : World} {l : List Ent} {g : Nat} (h : Ctx w0 w l) (hg : w0.heap.size ≤ g) (hz : BxZ w g) (v0 v1 v2 : Value) : Ctx w0 (((w.setCell ⟨g, 0, none⟩ v0).setCell ⟨g, 1, none⟩ v1).setCell ⟨g, 2, none⟩ v2) l :=
  h.box3 (b := false) (a := none) (n := 0) (c := 0) (x := 0) hg hz.c0 hz.c1 hz.c2 v0 v1 v2
theorem two_newC {W0 : World} {l : List Ent} (w : World) (C : Ctx W0 w l) (na nb : Bool) (va vb : Value) (e f : Int) : Ctx W0 ((w.alloc (.cells #[.bool na, va, .int .i64 e] 24)).alloc (.cells #[.bool nb, vb, .int .i64 f] 24)) l :=
  (C.step (below_box _ _ _)).step (below_box _ _ _)
theorem two_oneC {W0 w : World} {l : List Ent} {g h : Nat} {na nb : Bool} {va vb : Value} {e f : Int} (C : Ctx W0 w l) (hg0 : W0.heap.size ≤ g) (hh0 : W0.heap.size ≤ h) (hg : BxZ w g) (hh : BxZ w h) (hne : g ≠ h) :
    Ctx W0 ((((((w.setCell ⟨g, 0, none⟩ (.bool na)).setCell ⟨g, 1, none⟩ va).setCell ⟨g, 2, none⟩ (.int .i64 e)).setCell ⟨h, 0, none⟩ (.bool nb)).setCell ⟨h, 1, none⟩ vb).setCell ⟨h, 2, none⟩ (.int .i64 f)) l :=
  box3C (box3C C hg0 hg _ _ _) hh0 (bxz_far hh (fun h0 => hne h0.symm) _ _ _) _ _ _
theorem two_twoC {W0 w : World} {l : List Ent} {g : Nat} {na nb : Bool} {va vb : Value} {e f : Int} (C : Ctx W0 w l) (hg0 : W0.heap.size ≤ g) (hg : BxZ w g) :
    Ctx W0 ((((w.setCell ⟨g, 0, none⟩ (.bool na)).setCell ⟨g, 1, none⟩ va).setCell ⟨g, 2, none⟩ (.int .i64 e)).alloc (.cells #[.bool nb, vb, .int .i64 f] 24)) l :=
  (box3C C hg0 hg _ _ _).step (below_box _ _ _)

set_option maxHeartbeats 32000000 in
set_option maxRecDepth 100000 in
theorem numAll_walk (na : Bool) (ad : Option Addr) (n cap : Nat) (xs : List Nat) (e : Int) (nb : Bool) (ad' : Option Addr) (n' cap' : Nat) (ys : List Nat) (f : Int) (neg : Bool) (ad2 : Option Addr) (n2 cap2 : Nat) (zs : List Nat) (E V : Int) (w : World)
    (hn : xs.length = n) (hcap : n ≤ cap) (ho : Okl xs) (hr : Rd w ad xs) (he : -9223372036854775808 ≤ e ∧ e ≤ 9223372036854775807)
    (hn' : ys.length = n') (hcap' : n' ≤ cap') (ho' : Okl ys) (hr' : Rd w ad' ys) (hf : -9223372036854775808 ≤ f ∧ f ≤ 9223372036854775807)
    (hn2 : zs.length = n2) (hcap2 : n2 ≤ cap2) (ho2 : Okl zs) (hr2 : Rd w ad2 zs) (hE : -9223372036854775808 ≤ E ∧ E ≤ 9223372036854775807) (hV : -9223372036854775808 ≤ V ∧ V ≤ 9223372036854775807) (ht : TB w) :
    Calls Tryz.prog 3 #[.agg #[.bool na, .slice ad n cap, .int .i64 e], .agg #[.bool nb, .slice ad' n' cap', .int .i64 f], .bool neg, .slice ad2 n2 cap2, .int .i64 E, .int .i64 V] w (BoolBelow true w) := by
  have HT := Lib.hid (fun W (h : Below w.heap.size w W) => awake2_any W (ht.below h))
  have HTB := Lib.hid (fun W (h : Below w.heap.size w W) => ht.below h)
  have HBL := Lib.hid ((below_box w #[.bool na, .slice ad n cap, .int .i64 e] 24).trans ((below_box (w.alloc (.cells #[.bool na, .slice ad n cap, .int .i64 e] 24)) #[.bool nb, .slice ad' n' cap', .int .i64 f] 24).mono (by simp)))
  have BA0 := Lib.hid ((bx_new w na (.slice ad n cap) e).step (below_box _ #[.bool nb, .slice ad' n' cap', .int .i64 f] 24))
  have BB0 := Lib.hid (bx_snd2 w (.cells #[.bool na, .slice ad n cap, .int .i64 e] 24) nb (.slice ad' n' cap') f)
  have KF := few2_any na nb ad ad' n cap n' cap' e f ((w.alloc (.cells #[.bool na, .slice ad n cap, .int .i64 e] 24)).alloc (.cells #[.bool nb, .slice ad' n' cap', .int .i64 f] 24))
  have NA := Lib.hid (fun (h30 : n ≤ 30) W (h : Below w.heap.size w W) => (⟨hn, hcap, by omega, ho, hr.below h⟩ : NumAt W ad n cap xs))
  have NB := Lib.hid (fun (h30 : n' ≤ 30) W (h : Below w.heap.size w W) => (⟨hn', hcap', by omega, ho', hr'.below h⟩ : NumAt W ad' n' cap' ys))
  have NZ := Lib.hid (fun (h30 : n2 ≤ 30) W (h : Below w.heap.size w W) => (⟨hn2, hcap2, by omega, ho2, hr2.below h⟩ : NumAt W ad2 n2 cap2 zs))
  clear ht hn hcap ho hr hn' hcap' ho' hr' hn2 hcap2 ho2 hr2
  by_cases h30 : n ≤ 30 ∧ n' ≤ 30
  case neg =>
    rw [decide_eq_false h30] at KF
    have KFh := Lib.hid KF; clear KF h30
    go_enter Tryz.func3, Tryz.ntmps3
    go_wp2_with fail
    refine KFh.out.mono ?_
    rintro r w1 ⟨rfl, hb1⟩
    have q1 := Lib.hid (below_on HBL.out hb1)
    clear hb1 KFh BA0 BB0
    have KW := Lib.hid (HT.out w1 q1.out)
    go_wp2_with fail
    refine KW.out.mono ?_
    rintro r wl ⟨rfl, hbl⟩
    have hf := Lib.hid (below_on q1.out hbl); clear hbl
    go_wp2
    go_ret
    exact BoolBelow.mk rfl hf.out
  case pos =>
    rw [decide_eq_true h30] at KF
    have KFh := Lib.hid KF; clear KF
    obtain ⟨h30a, h30b⟩ := h30
    by_cases h30c : n2 ≤ 30
    case neg =>
      have hgt : (30 : Int) < (n2 : Int) := by omega
      go_enter Tryz.func3, Tryz.ntmps3
      go_wp2_with fail
      refine KFh.out.mono ?_
      rintro r w1 ⟨rfl, hb1⟩
      have q1 := Lib.hid (below_on HBL.out hb1)
      clear hb1 KFh BA0 BB0
      have KW := Lib.hid (HT.out w1 q1.out)
      go_wp2_with fail
      refine KW.out.mono ?_
      rintro r wl ⟨rfl, hbl⟩
      have hf := Lib.hid (below_on q1.out hbl); clear hbl
      go_wp2
      go_ret
      exact BoolBelow.mk rfl hf.out
    case pos =>
      have hgt : ¬ (30 : Int) < (n2 : Int) := by omega
      have NA := Lib.hid (NA.out h30a); have NB := Lib.hid (NB.out h30b); have NZ := Lib.hid (NZ.out h30c)
      go_enter Tryz.func3, Tryz.ntmps3
      go_wp2_with fail
      refine KFh.out.mono ?_
      rintro r W0 ⟨rfl, hb1⟩
      have Q0 := Lib.hid (below_on HBL.out hb1)
      have BA := BA0.out.step hb1; have BB := BB0.out.step hb1
      clear hb1 KFh BA0 BB0 HBL
      go_upto_region 3 with fail
      have BP := Lib.hid BA; have BQ := Lib.hid BB
      obtain ⟨hX, X0, X1, X2⟩ := BA
      obtain ⟨hY, Y0, Y1, Y2⟩ := BB
      have KA := Lib.hid (fun W (h : Below W0.heap.size W0 W) => numC_any na ad n cap xs e W (NA.out _ (below_on Q0.out h)))
      have KB := Lib.hid (fun W (h : Below W0.heap.size W0 W) => numC_any nb ad' n' cap' ys f W (NB.out _ (below_on Q0.out h)))
      refine wp_via (fun a' w' => ∃ g h a1 c1 a2 c2, a' = ⟨#[.agg #[.bool na, .slice ad n cap, .int .i64 e], .agg #[.bool nb, .slice ad' n' cap', .int .i64 f], .bool neg, .slice ad2 n2 cap2, .int .i64 E, .int .i64 V, .pointer (some ⟨w.heap.size, 0, none⟩), .pointer (some ⟨w.heap.size + 1, 0, none⟩), undef, undef, undef, undef, .bool false, .pointer (some ⟨g, 0, none⟩), .pointer (some ⟨h, 0, none⟩), undef, undef, undef, undef, undef, undef, undef, undef, undef, undef, undef, .agg #[.bool na, .slice ad n cap, .int .i64 e], .agg #[.bool nb, .slice ad' n' cap', .int .i64 f], .bool true, .bool false, .bool false, .slice ad2 n2 cap2, .int .i64 (n2 : Int), .bool (decide ((30 : Int) < (n2 : Int))), .bool (decide ((30 : Int) < (n2 : Int))), undef, .agg #[.bool na, .slice ad n cap, .int .i64 e], .agg #[.bool na, .slice a1 n c1, .int .i64 e], .agg #[.bool nb, .slice ad' n' cap', .int .i64 f], .agg #[.bool nb, .slice a2 n' c2, .int .i64 f], undef, undef, undef, undef, undef, undef, undef, undef, undef, undef, undef, undef, undef, undef, undef, undef, undef, undef, undef, undef, undef, undef, undef, undef, undef, undef, undef, undef, undef, undef, undef, undef, undef, undef, undef, undef, undef, undef, undef, undef, undef, undef, undef, undef, undef, undef, undef, undef, undef, undef, undef, undef, undef, undef, undef, undef, undef, undef, undef, undef, undef, undef, undef, undef, undef, undef, undef, undef, undef, undef, undef, undef, undef, undef, undef, undef, undef, undef, undef, undef, undef, undef, undef, undef, undef, undef, undef, undef, undef, undef, undef, undef, undef, undef, undef, undef, undef, undef, undef, undef], []⟩ ∧ (Bx w' g na (.slice a1 n c1) e ∧ Bx w' h nb (.slice a2 n' c2) f) ∧ Ctx W0 w' [⟨.slice a2 n' c2, n', val ys, ys⟩, ⟨.slice a1 n c1, n, val xs, xs⟩]) ?_ ?_
      · generalize hG : w.heap.size = G at X0 X1 X2 Y0 Y1 Y2 hX hY ⊢
        generalize hH : G + 1 = H at Y0 Y1 Y2 hX hY ⊢
        go_region_held_law (fun w' => w'.cell? ⟨G, 0, none⟩ = some (.bool na) ∧ w'.cell? ⟨G, 1, none⟩ = some (.slice ad n cap) ∧ w'.cell? ⟨G, 2, none⟩ = some (.int .i64 e) ∧ w'.cell? ⟨H, 0, none⟩ = some (.bool nb) ∧ w'.cell? ⟨H, 1, none⟩ = some (.slice ad' n' cap') ∧ w'.cell? ⟨H, 2, none⟩ = some (.int .i64 f)) (exact keep6 (by (repeat (first | with_reducible exact hW1 | with_reducible exact hW2 | with_reducible exact Below.refl _ _ | with_reducible refine below_drew ?_ | with_reducible refine Below.setCell ?_ (by first | omega | (simp; done) | (simp; omega)) _ | with_reducible refine Below.alloc ?_ (by first | omega | (simp; done) | (simp; omega)) _))) hX hY X0 X1 X2 Y0 Y1 Y2)
      (first
        | (refine step_callX rfl 6 _ Tryz.func6 (by kernel_rfl) (by kernel_rfl) #[.tmp 36] _ rfl #[.agg #[.bool na, .slice ad n cap, .int .i64 e]] (by simp [Act.eval, Act.put]) (KA.out _ (by (repeat (first | with_reducible exact hW1 | with_reducible exact hW2 | with_reducible exact Below.refl _ _ | with_reducible refine below_drew ?_ | with_reducible refine Below.setCell ?_ (by first | omega | (simp; done) | (simp; omega)) _ | with_reducible refine Below.alloc ?_ (by first | omega | (simp; done) | (simp; omega)) _)))) ?_; rintro r w1 ⟨a1, c1, rfl, hcx1, hb1⟩; obtain ⟨hc1, hf1⟩ := bcell hb1; have hs1 := hb1.size; (try simp at hs1); have hW1 := below_on (show Below W0.heap.size W0 _ from by (repeat (first | with_reducible exact hW1 | with_reducible exact hW2 | with_reducible exact Below.refl _ _ | with_reducible refine below_drew ?_ | with_reducible refine Below.setCell ?_ (by first | omega | (simp; done) | (simp; omega)) _ | with_reducible refine Below.alloc ?_ (by first | omega | (simp; done) | (simp; omega)) _))) hb1; (try (have hl11 : W0.heap.size < w1.heap.size := (by omega); have hn11 : ¬ W0.heap.size = w1.heap.size := (by omega); have hm11 : ¬ w1.heap.size = W0.heap.size := (by omega))); (try (have hl12 : W0.heap.size + 1 < w1.heap.size := (by omega); have hn12 : ¬ W0.heap.size + 1 = w1.heap.size := (by omega); have hm12 : ¬ w1.heap.size = W0.heap.size + 1 := (by omega))); (try (have za : BxZ w1 W0.heap.size := (by first | with_reducible exact (bxz_new W0).stepD hb1 | with_reducible exact ((bxz_new W0).alloc _).stepD hb1))); (try (have zb : BxZ w1 (W0.heap.size + 1) := (by simpa using (bxz_new (W0.alloc _)).stepD hb1))); clear hc1 hf1; have CA := Lib.hid (⟨hW1, hcx1.all⟩ : Ctx W0 w1 _); clear hcx1; refine ⟨_, rfl, ?_⟩)
        | (refine step_callX rfl 6 _ Tryz.func6 (by kernel_rfl) (by kernel_rfl) #[.tmp 38] _ rfl #[.agg #[.bool nb, .slice ad' n' cap', .int .i64 f]] (by simp [Act.eval, Act.put]) (KB.out _ (by (repeat (first | with_reducible exact hW1 | with_reducible exact hW2 | with_reducible exact Below.refl _ _ | with_reducible refine below_drew ?_ | with_reducible refine Below.setCell ?_ (by first | omega | (simp; done) | (simp; omega)) _ | with_reducible refine Below.alloc ?_ (by first | omega | (simp; done) | (simp; omega)) _)))) ?_; rintro r w2 ⟨a2, c2, rfl, hcx2, hb2⟩; obtain ⟨hc2, hf2⟩ := bcell hb2; have hs2 := hb2.size; (try simp at hs2); have hW2 := below_on (show Below W0.heap.size W0 _ from by (repeat (first | with_reducible exact hW1 | with_reducible exact hW2 | with_reducible exact Below.refl _ _ | with_reducible refine below_drew ?_ | with_reducible refine Below.setCell ?_ (by first | omega | (simp; done) | (simp; omega)) _ | with_reducible refine Below.alloc ?_ (by first | omega | (simp; done) | (simp; omega)) _))) hb2; (try (have hl21 : W0.heap.size < w2.heap.size := (by omega); have hn21 : ¬ W0.heap.size = w2.heap.size := (by omega); have hm21 : ¬ w2.heap.size = W0.heap.size := (by omega))); (try (have hl22 : W0.heap.size + 1 < w2.heap.size := (by omega); have hn22 : ¬ W0.heap.size + 1 = w2.heap.size := (by omega); have hm22 : ¬ w2.heap.size = W0.heap.size + 1 := (by omega))); (try (have hl23 : w1.heap.size < w2.heap.size := (by omega); have hn23 : ¬ w1.heap.size = w2.heap.size := (by omega); have hm23 : ¬ w2.heap.size = w1.heap.size := (by omega))); (try (have hl24 : w1.heap.size + 1 < w2.heap.size := (by omega); have hn24 : ¬ w1.heap.size + 1 = w2.heap.size := (by omega); have hm24 : ¬ w2.heap.size = w1.heap.size + 1 := (by omega))); (try (have ya : BxZ w2 W0.heap.size := (by first | with_reducible exact za.step hb2 | with_reducible exact (za.alloc _).step hb2 | with_reducible exact ((za.alloc _).alloc _).step hb2); have yaz := Lib.hid ya; obtain ⟨yal, ya0, ya1, ya2, ya3, ya4, ya5⟩ := ya)); (try (have yb : BxZ w2 (W0.heap.size + 1) := (by first | with_reducible exact zb.step hb2 | with_reducible exact (zb.alloc _).step hb2 | with_reducible exact ((zb.alloc _).alloc _).step hb2); have ybz := Lib.hid yb; obtain ⟨ybl, yb0, yb1, yb2, yb3, yb4, yb5⟩ := yb)); (try (have yc : BxZ w2 w1.heap.size := (by first | with_reducible exact (bxz_new w1).step hb2 | with_reducible exact ((bxz_new w1).alloc _).step hb2); have ycz := Lib.hid yc; obtain ⟨ycl, yc0, yc1, yc2, yc3, yc4, yc5⟩ := yc)); (try (have yd : BxZ w2 (w1.heap.size + 1) := (by simpa using (bxz_new (w1.alloc _)).step hb2); have ydz := Lib.hid yd; obtain ⟨ydl, yd0, yd1, yd2, yd3, yd4, yd5⟩ := yd)); clear hc2 hf2; have CB := Lib.hid (((CA.out.step (show Below w1.heap.size w1 _ from by (repeat (first | with_reducible exact Below.refl _ _ | with_reducible refine below_drew ?_ | with_reducible refine Below.alloc ?_ (by first | omega | (simp; done) | (simp; omega)) _)))).step hb2).push (hcx2.all _ (List.mem_singleton.2 rfl))); clear hcx2; refine ⟨_, rfl, ?_⟩))
        all_goals
          refine ⟨_, _, _, _, _, _, rfl, ?_, ?_⟩
          · first
              | with_reducible exact two_new _ _ _ _ _ _ _
              | with_reducible exact (two_new _ _ _ _ _ _ _).symm
              | (with_reducible refine two_one ?_ ?_ ?_) <;> first | with_reducible exact yaz.out | with_reducible exact ybz.out | with_reducible exact ycz.out | with_reducible exact ydz.out | omega
              | (with_reducible refine two_two ?_) <;> first | with_reducible exact yaz.out | with_reducible exact ybz.out | with_reducible exact ycz.out | with_reducible exact ydz.out | omega
              | (with_reducible refine (two_two ?_).symm) <;> first | with_reducible exact yaz.out | with_reducible exact ybz.out | with_reducible exact ycz.out | with_reducible exact ydz.out | omega
          · first
              | with_reducible exact two_newC _ CB.out _ _ _ _ _ _
              | (with_reducible refine two_oneC CB.out ?_ ?_ ?_ ?_ ?_) <;> first | with_reducible exact yaz.out | with_reducible exact ybz.out | with_reducible exact ycz.out | with_reducible exact ydz.out | omega
              | (with_reducible refine two_twoC CB.out ?_ ?_) <;> first | with_reducible exact yaz.out | with_reducible exact ybz.out | with_reducible exact ycz.out | with_reducible exact ydz.out | omega
      · rintro a' wc ⟨g, h, a1, c1, a2, c2, rfl, ⟨bg, bh⟩, hC⟩
        clear X0 X1 X2 Y0 Y1 Y2 KA KB hX hY
        have NXX := Lib.hid (fun W (h : Below wc.heap.size wc W) => (numAt_ent hC 1 rfl h30a).below h)
        have NYY := Lib.hid (fun W (h : Below wc.heap.size wc W) => (numAt_ent hC 0 rfl h30b).below h)
        have QC := Lib.hid (below_on Q0.out hC.below)
        have NAA := Lib.hid (fun W (h : Below wc.heap.size wc W) => NA.out W (below_on QC.out h))
        have NBB := Lib.hid (fun W (h : Below wc.heap.size wc W) => NB.out W (below_on QC.out h))
        have NZZ := Lib.hid (fun W (h : Below wc.heap.size wc W) => NZ.out W (below_on QC.out h))
        have TBB := Lib.hid (fun W (h : Below wc.heap.size wc W) => HTB.out W (below_on QC.out h))
        have BG0 := Lib.hid bg; have BH0 := Lib.hid bh; have BP0 := Lib.hid (BP.out.step hC.below); have BQ0 := Lib.hid (BQ.out.step hC.below)
        have RW0 := Lib.hid (Below.refl wc.heap.size wc)
        clear bg bh hC BP BQ NA NB NZ
        have hEr := Lib.hid hE
        have KL := Lib.hid (limbs_any ad2 n2 cap2 zs wc (NZZ.out _ RW0.out).len (by omega) (NZZ.out _ RW0.out).ok (NZZ.out _ RW0.out).rd)
        obtain ⟨lG0, gx0, gy0, gz0⟩ := BG0.out
        obtain ⟨lH0, hx0, hy0, hz0⟩ := BH0.out
        obtain ⟨lP0, px0, py0, pz0⟩ := BP0.out
        obtain ⟨lQ0, qx0, qy0, qz0⟩ := BQ0.out
        go_wp2_with fail
        refine (KL.out).mono ?_
        rintro r W1 ⟨v1, rfl, ho1, hb⟩
        have RW1 := Lib.hid (below_on RW0.out hb)
        have BG1 := Lib.hid (BG0.out.step hb)
        have BH1 := Lib.hid (BH0.out.step hb)
        have BP1 := Lib.hid (BP0.out.step hb)
        have BQ1 := Lib.hid (BQ0.out.step hb)
        have hC1 := Lib.hid (((Ctx.begin wc).step hb).push (ent_any (L := 30) ho1 (by rw [(NZZ.out _ RW0.out).len]; exact h30c) rfl)); clear ho1
        have KM := Lib.hid (make_all hC1.out.again 0 rfl (by decide) neg E hEr.out.1)
        clear lG0 gx0 gy0 gz0 lH0 hx0 hy0 hz0 lP0 px0 py0 pz0 lQ0 qx0 qy0 qz0 hb
        obtain ⟨lG1, gx1, gy1, gz1⟩ := BG1.out
        obtain ⟨lH1, hx1, hy1, hz1⟩ := BH1.out
        obtain ⟨lP1, px1, py1, pz1⟩ := BP1.out
        obtain ⟨lQ1, qx1, qy1, qz1⟩ := BQ1.out
        go_wp2_with fail
        refine (KM.out).mono ?_
        rintro r W2 ⟨v2, rfl, hm2⟩
        have hb := hm2.below
        obtain ⟨ad3, cap3, rfl, m3a, m3b, m3c, m3d, m3e⟩ := hm2.get 0 rfl
        have NRD := Lib.hid (And.intro m3a m3d); clear m3a m3b m3c m3d m3e hm2
        have RW2 := Lib.hid (below_on RW1.out hb)
        have BG2 := Lib.hid (BG1.out.step hb)
        have BH2 := Lib.hid (BH1.out.step hb)
        have BP2 := Lib.hid (BP1.out.step hb)
        have BQ2 := Lib.hid (BQ1.out.step hb)
        clear lG1 gx1 gy1 gz1 lH1 hx1 hy1 hz1 lP1 px1 py1 pz1 lQ1 qx1 qy1 qz1 hb
        have KR := Lib.hid (have hz := NZZ.out _ (below_on RW2.out (below_box W2 #[.bool (mkNeg neg (val zs) E), .slice ad3 (limbs (mkM (val zs) E)).length cap3, .int .i64 (mkE (val zs) E)] 24)); rmake_all ((Ctx.begin _).push (ent_arg (L := 30) hz.len hz.cap hz.ok hz.rd h30c rfl)) 0 rfl (by decide) neg E)
        obtain ⟨lG2, gx2, gy2, gz2⟩ := BG2.out
        obtain ⟨lH2, hx2, hy2, hz2⟩ := BH2.out
        obtain ⟨lP2, px2, py2, pz2⟩ := BP2.out
        obtain ⟨lQ2, qx2, qy2, qz2⟩ := BQ2.out
        go_wp2_with fail
        refine (KR.out).mono ?_
        rintro r W3 ⟨v3, rfl, hm3⟩
        have hb := hm3.below
        have BN3 := Lib.hid ((bx_new W2 (mkNeg neg (val zs) E) (.slice ad3 (limbs (mkM (val zs) E)).length cap3) (mkE (val zs) E)).step hb)
        have NR3 := Lib.hid (NRD.out.2.below (below_on (below_box _ _ _) hb))
        obtain ⟨ad4, cap4, rfl, m4a, m4b, m4c, m4d, m4e⟩ := hm3.get 0 rfl
        have M4 := Lib.hid (And.intro m4a (And.intro m4b m4d)); clear m4a m4b m4c m4d m4e hm3
        have RW3 := Lib.hid (below_on RW2.out (below_on (below_box _ _ _) hb))
        have BG3 := Lib.hid (BG2.out.step (below_on (below_box _ _ _) hb))
        have BH3 := Lib.hid (BH2.out.step (below_on (below_box _ _ _) hb))
        have BP3 := Lib.hid (BP2.out.step (below_on (below_box _ _ _) hb))
        have BQ3 := Lib.hid (BQ2.out.step (below_on (below_box _ _ _) hb))
        clear lG2 gx2 gy2 gz2 lH2 hx2 hy2 hz2 lP2 px2 py2 pz2 lQ2 qx2 qy2 qz2 hb
        have KI := Lib.hid (int_at (na := na) (e := e) (NXX.out _ (below_on RW3.out (below_box W3 #[.bool (mkNeg neg (val zs) E), .slice ad4 (limbs (mkM (val zs) E)).length cap4, .int .i64 (mkE (val zs) E)] 24))))
        obtain ⟨lG3, gx3, gy3, gz3⟩ := BG3.out
        obtain ⟨lH3, hx3, hy3, hz3⟩ := BH3.out
        obtain ⟨lP3, px3, py3, pz3⟩ := BP3.out
        obtain ⟨lQ3, qx3, qy3, qz3⟩ := BQ3.out
        obtain ⟨lN3, nx3, ny3, nz3⟩ := BN3.out
        go_wp2_with fail
        refine (KI.out).mono ?_
        rintro r W4 hq
        obtain ⟨adp, capp, rfl, p1, p2, hb⟩ := intQ_of hq; clear hq
        have BO4 := Lib.hid ((bx_new W3 (mkNeg neg (val zs) E) (.slice ad4 (limbs (mkM (val zs) E)).length cap4) (mkE (val zs) E)).step hb)
        have NR4 := Lib.hid (NR3.out.below (below_on (below_box _ _ _) hb)); have MR4 := Lib.hid (M4.out.2.2.below (below_on (below_box _ _ _) hb))
        have PR4 := Lib.hid p2; have PC := Lib.hid p1; clear p1 p2
        have RW4 := Lib.hid (below_on RW3.out (below_on (below_box _ _ _) hb))
        have BG4 := Lib.hid (BG3.out.step (below_on (below_box _ _ _) hb))
        have BH4 := Lib.hid (BH3.out.step (below_on (below_box _ _ _) hb))
        have BP4 := Lib.hid (BP3.out.step (below_on (below_box _ _ _) hb))
        have BQ4 := Lib.hid (BQ3.out.step (below_on (below_box _ _ _) hb))
        have BN4 := Lib.hid (BN3.out.step (below_on (below_box _ _ _) hb))
        clear lG3 gx3 gy3 gz3 lH3 hx3 hy3 hz3 lP3 px3 py3 pz3 lQ3 qx3 qy3 qz3 lN3 nx3 ny3 nz3 hb
        have KJ := Lib.hid (rint_at (na := na) (e := e) (NAA.out _ RW4.out))
        obtain ⟨lG4, gx4, gy4, gz4⟩ := BG4.out
        obtain ⟨lH4, hx4, hy4, hz4⟩ := BH4.out
        obtain ⟨lP4, px4, py4, pz4⟩ := BP4.out
        obtain ⟨lQ4, qx4, qy4, qz4⟩ := BQ4.out
        obtain ⟨lN4, nx4, ny4, nz4⟩ := BN4.out
        obtain ⟨lO4, ox4, oy4, oz4⟩ := BO4.out
        go_wp2_with fail
        refine (KJ.out).mono ?_
        rintro r W5 hq
        obtain ⟨adq, capq, rfl, p1, p2, hb⟩ := intQ_of hq; clear hq
        have NR5 := Lib.hid (NR4.out.below hb); have MR5 := Lib.hid (MR4.out.below hb); have PR5 := Lib.hid (PR4.out.below hb); have QR5 := Lib.hid p2; have QCC := Lib.hid p1; clear p1 p2
        have RW5 := Lib.hid (below_on RW4.out hb)
        have BG5 := Lib.hid (BG4.out.step hb)
        have BH5 := Lib.hid (BH4.out.step hb)
        have BP5 := Lib.hid (BP4.out.step hb)
        have BQ5 := Lib.hid (BQ4.out.step hb)
        have BN5 := Lib.hid (BN4.out.step hb)
        have BO5 := Lib.hid (BO4.out.step hb)
        clear lG4 gx4 gy4 gz4 lH4 hx4 hy4 hz4 lP4 px4 py4 pz4 lQ4 qx4 qy4 qz4 lN4 nx4 ny4 nz4 lO4 ox4 oy4 oz4 hb
        have KS := Lib.hid (fun W (h : Below W5.heap.size W5 W) => sameNum_any (mkNeg neg (val zs) E) ad3 _ cap3 (limbs (mkM (val zs) E)) (mkE (val zs) E) ad4 cap4 W rfl NRD.out.1 M4.out.1 (by have := M4.out.2.1; omega) (NR5.out.below h) (MR5.out.below h))
        have KL := Lib.hid (fun W (h : Below W5.heap.size W5 W) => (show Calls Tryz.prog _ _ W (BoolBelow true W) from (same_any adp _ capp _ adq capq W rfl PC.out QCC.out (by have := iM_len (val (nX na xs e)) (nE na xs e); omega) (PR5.out.below h) (QR5.out.below h)).mono (fun r w' ⟨h1, q, h2⟩ => ⟨h1, by rw [h2]; exact below_drewN' (Below.refl _ _) q⟩)))
        have KXA := Lib.hid (fun W (h : Below wc.heap.size wc W) => (have hx := NXX.out _ h; have hy := NAA.out _ h; sameNum_any na a1 n c1 xs e ad cap W hx.len hx.cap hy.cap (by omega) hx.rd hy.rd))
        go_upto_region 9 with fail
        refine rg_norm (fun J hJ => ?_)
        have HJ := Lib.hid hJ
        clear hJ
        refine wp_region_held_drew (S := fun W => Below W5.heap.size W5 W) (by kernel_rfl) (below_drew (Below.refl _ _)) (fun hH => ?_)
        refine rg_pure 0 _ (.func (.func 12) #[] #[]) (some 67) rfl (by kernel_rfl) (by kernel_rfl) (by kernel_rfl) (by kernel_rfl) (fun _ _ _ h => h) (by kernel_rfl) (fun w => by kernel_rfl) hH ?_
        refine rg_loadM 1 _ 24 (.tmp 15) W2.heap.size 0 ([.bool (mkNeg neg (val zs) E), .slice ad3 (limbs (mkM (val zs) E)).length cap3, .int .i64 (mkE (val zs) E)]) _ (some 68) rfl (by kernel_rfl) (by kernel_rfl) (by kernel_rfl) (by kernel_rfl) (fun _ _ _ h => h) (by kernel_rfl) rfl (by kernel_rfl) Tryz.underlying24 rfl (by kernel_rfl) (fun W hW => bx_range (BN5.out.step hW)) hH ?_
        refine rg_loadM 2 _ 24 (.tmp 17) W3.heap.size 0 ([.bool (mkNeg neg (val zs) E), .slice ad4 (limbs (mkM (val zs) E)).length cap4, .int .i64 (mkE (val zs) E)]) _ (some 69) rfl (by kernel_rfl) (by kernel_rfl) (by kernel_rfl) (by kernel_rfl) (fun _ _ _ h => h) (by kernel_rfl) rfl (by kernel_rfl) Tryz.underlying24 rfl (by kernel_rfl) (fun W hW => bx_range (BO5.out.step hW)) hH ?_
        refine rg_call 3 _ 12 _ _ _ _ #[.agg #[.bool (mkNeg neg (val zs) E), .slice ad3 (limbs (mkM (val zs) E)).length cap3, .int .i64 (mkE (val zs) E)], .agg #[.bool (mkNeg neg (val zs) E), .slice ad4 (limbs (mkM (val zs) E)).length cap4, .int .i64 (mkE (val zs) E)]] (some 70) rfl (by kernel_rfl) (by kernel_rfl) (by kernel_rfl) rfl (by kernel_rfl) Tryz.func12 (by kernel_rfl) (by kernel_rfl) (by kernel_rfl) (KS.out _ hH) ?_
        rintro r' w' ⟨rfl, hb⟩
        replace hH := hH.trans (hb.mono hH.size)
        refine ⟨_, rfl, hH, ?_⟩
        refine rg_pure 4 _ (.bool true) (some 71) rfl (by kernel_rfl) (by kernel_rfl) (by kernel_rfl) (by kernel_rfl) (fun _ _ _ h => h) (by kernel_rfl) (fun w => by kernel_rfl) hH ?_
        refine rg_pure 5 _ (.bool (mkOk (val zs) E)) (some 72) rfl (by kernel_rfl) (by kernel_rfl) (by kernel_rfl) (by kernel_rfl) (fun _ _ _ h => h) (by kernel_rfl) (fun w => by kernel_rfl) hH ?_
        refine rg_pure 6 _ (.bool (mkOk (val zs) E)) (some 73) rfl (by kernel_rfl) (by kernel_rfl) (by kernel_rfl) (by kernel_rfl) (fun _ _ _ h => h) (by kernel_rfl) (fun w => by kernel_rfl) hH ?_
        refine rg_pure 7 _ (.bool true) (some 74) rfl (by kernel_rfl) (by kernel_rfl) (by kernel_rfl) (by kernel_rfl) (fun _ _ _ h => h) (by kernel_rfl) (fun w => rg_eqB w _ _ _ _ _ _ ((mkOk (val zs) E)) Tryz.underlying4 rfl (by kernel_rfl) (by kernel_rfl)) hH ?_
        refine rg_pure 8 _ (.bool true) (some 75) rfl (by kernel_rfl) (by kernel_rfl) (by kernel_rfl) (by kernel_rfl) (fun _ _ _ h => h) (by kernel_rfl) (fun w => by kernel_rfl) hH ?_
        refine rg_pure 9 _ (.bool true) (some 76) rfl (by kernel_rfl) (by kernel_rfl) (by kernel_rfl) (by kernel_rfl) (fun _ _ _ h => h) (by kernel_rfl) (fun w => by kernel_rfl) hH ?_
        refine rg_pure 10 _ (.bool (iB (val (nX na xs e)) (nE na xs e) && nN na xs e)) (some 77) rfl (by kernel_rfl) (by kernel_rfl) (by kernel_rfl) (by kernel_rfl) (fun _ _ _ h => h) (by kernel_rfl) (fun w => by kernel_rfl) hH ?_
        refine rg_pure 11 _ (.bool (iB (val (nX na xs e)) (nE na xs e) && nN na xs e)) (some 78) rfl (by kernel_rfl) (by kernel_rfl) (by kernel_rfl) (by kernel_rfl) (fun _ _ _ h => h) (by kernel_rfl) (fun w => by kernel_rfl) hH ?_
        refine rg_pure 12 _ (.bool true) (some 79) rfl (by kernel_rfl) (by kernel_rfl) (by kernel_rfl) (by kernel_rfl) (fun _ _ _ h => h) (by kernel_rfl) (fun w => rg_eqB w _ _ _ _ _ _ ((iB (val (nX na xs e)) (nE na xs e) && nN na xs e)) Tryz.underlying4 rfl (by kernel_rfl) (by kernel_rfl)) hH ?_
        refine rg_pure 13 _ (.bool true) (some 80) rfl (by kernel_rfl) (by kernel_rfl) (by kernel_rfl) (by kernel_rfl) (fun _ _ _ h => h) (by kernel_rfl) (fun w => by kernel_rfl) hH ?_
        refine rg_pure 14 _ (.bool true) (some 81) rfl (by kernel_rfl) (by kernel_rfl) (by kernel_rfl) (by kernel_rfl) (fun _ _ _ h => h) (by kernel_rfl) (fun w => by kernel_rfl) hH ?_
        refine rg_pure 15 _ (.slice adp (limbs (iM (val (nX na xs e)) (nE na xs e))).length capp) (some 82) rfl (by kernel_rfl) (by kernel_rfl) (by kernel_rfl) (by kernel_rfl) (fun _ _ _ h => h) (by kernel_rfl) (fun w => by kernel_rfl) hH ?_
        refine rg_pure 16 _ (.slice adq (limbs (iM (val (nX na xs e)) (nE na xs e))).length capq) (some 83) rfl (by kernel_rfl) (by kernel_rfl) (by kernel_rfl) (by kernel_rfl) (fun _ _ _ h => h) (by kernel_rfl) (fun w => by kernel_rfl) hH ?_
        refine rg_call 17 _ 13 _ _ _ _ #[.slice adp (limbs (iM (val (nX na xs e)) (nE na xs e))).length capp, .slice adq (limbs (iM (val (nX na xs e)) (nE na xs e))).length capq] (some 84) rfl (by kernel_rfl) (by kernel_rfl) (by kernel_rfl) rfl (by kernel_rfl) Tryz.func13 (by kernel_rfl) (by kernel_rfl) (by kernel_rfl) (KL.out _ hH) ?_
        rintro r' w' ⟨rfl, hb⟩
        replace hH := hH.trans (hb.mono hH.size)
        refine ⟨_, rfl, hH, ?_⟩
        refine rg_pure 18 _ (.bool true) (some 85) rfl (by kernel_rfl) (by kernel_rfl) (by kernel_rfl) (by kernel_rfl) (fun _ _ _ h => h) (by kernel_rfl) (fun w => by kernel_rfl) hH ?_
        refine rg_pure 19 _ (.bool true) (some 86) rfl (by kernel_rfl) (by kernel_rfl) (by kernel_rfl) (by kernel_rfl) (fun _ _ _ h => h) (by kernel_rfl) (fun w => by kernel_rfl) hH ?_
        refine rg_pure 20 _ (.bool (iB (val (nX na xs e)) (nE na xs e))) (some 87) rfl (by kernel_rfl) (by kernel_rfl) (by kernel_rfl) (by kernel_rfl) (fun _ _ _ h => h) (by kernel_rfl) (fun w => by kernel_rfl) hH ?_
        refine rg_pure 21 _ (.bool (iB (val (nX na xs e)) (nE na xs e))) (some 88) rfl (by kernel_rfl) (by kernel_rfl) (by kernel_rfl) (by kernel_rfl) (fun _ _ _ h => h) (by kernel_rfl) (fun w => by kernel_rfl) hH ?_
        refine rg_pure 22 _ (.bool true) (some 89) rfl (by kernel_rfl) (by kernel_rfl) (by kernel_rfl) (by kernel_rfl) (fun _ _ _ h => h) (by kernel_rfl) (fun w => rg_eqB w _ _ _ _ _ _ ((iB (val (nX na xs e)) (nE na xs e))) Tryz.underlying4 rfl (by kernel_rfl) (by kernel_rfl)) hH ?_
        refine rg_pure 23 _ (.bool true) (some 90) rfl (by kernel_rfl) (by kernel_rfl) (by kernel_rfl) (by kernel_rfl) (fun _ _ _ h => h) (by kernel_rfl) (fun w => by kernel_rfl) hH ?_
        refine rg_pure 24 _ (.bool true) (some 91) rfl (by kernel_rfl) (by kernel_rfl) (by kernel_rfl) (by kernel_rfl) (fun _ _ _ h => h) (by kernel_rfl) (fun w => by kernel_rfl) hH ?_
        refine rg_loadM 25 _ 24 (.tmp 13) g 0 ([.bool na, .slice a1 n c1, .int .i64 e]) _ (some 92) rfl (by kernel_rfl) (by kernel_rfl) (by kernel_rfl) (by kernel_rfl) (fun _ _ _ h => h) (by kernel_rfl) rfl (by kernel_rfl) Tryz.underlying24 rfl (by kernel_rfl) (fun W hW => bx_range (BG5.out.step hW)) hH ?_
        refine rg_loadM 27 _ 24 (.tmp 6) w.heap.size 0 ([.bool na, .slice ad n cap, .int .i64 e]) _ (some 94) rfl (by kernel_rfl) (by kernel_rfl) (by kernel_rfl) (by kernel_rfl) (fun _ _ _ h => h) (by kernel_rfl) rfl (by kernel_rfl) Tryz.underlying24 rfl (by kernel_rfl) (fun W hW => bx_range (BP5.out.step hW)) hH ?_
        refine rg_call 26 _ 14 _ _ _ _ #[.agg #[.bool na, .slice a1 n c1, .int .i64 e]] (some 93) rfl (by kernel_rfl) (by kernel_rfl) (by kernel_rfl) rfl (by kernel_rfl) Tryz.func14 (by kernel_rfl) (by kernel_rfl) (by kernel_rfl) (check_at (NXX.out _ (below_on RW5.out hH))) ?_
        rintro r' w' ⟨rfl, hb⟩
        replace hH := hH.trans (hb.mono hH.size)
        refine ⟨_, rfl, hH, ?_⟩
        refine rg_call 28 _ 15 _ _ _ _ #[.agg #[.bool na, .slice ad n cap, .int .i64 e]] (some 95) rfl (by kernel_rfl) (by kernel_rfl) (by kernel_rfl) rfl (by kernel_rfl) Tryz.func15 (by kernel_rfl) (by kernel_rfl) (by kernel_rfl) (rcheck_at (NAA.out _ (below_on RW5.out hH))) ?_
        rintro r' w' ⟨rfl, hb⟩
        replace hH := hH.trans (hb.mono hH.size)
        refine ⟨_, rfl, hH, ?_⟩
        refine rg_pure 29 _ (.bool true) (some 96) rfl (by kernel_rfl) (by kernel_rfl) (by kernel_rfl) (by kernel_rfl) (fun _ _ _ h => h) (by kernel_rfl) (fun w => rg_eqB w _ _ _ _ _ _ ((chkB na xs e)) Tryz.underlying4 rfl (by kernel_rfl) (by kernel_rfl)) hH ?_
        refine rg_pure 30 _ (.bool true) (some 97) rfl (by kernel_rfl) (by kernel_rfl) (by kernel_rfl) (by kernel_rfl) (fun _ _ _ h => h) (by kernel_rfl) (fun w => by kernel_rfl) hH ?_
        refine rg_pure 31 _ (.bool true) (some 98) rfl (by kernel_rfl) (by kernel_rfl) (by kernel_rfl) (by kernel_rfl) (fun _ _ _ h => h) (by kernel_rfl) (fun w => by kernel_rfl) hH ?_
        refine rg_loadM 32 _ 24 (.tmp 13) g 0 ([.bool na, .slice a1 n c1, .int .i64 e]) _ (some 99) rfl (by kernel_rfl) (by kernel_rfl) (by kernel_rfl) (by kernel_rfl) (fun _ _ _ h => h) (by kernel_rfl) rfl (by kernel_rfl) Tryz.underlying24 rfl (by kernel_rfl) (fun W hW => bx_range (BG5.out.step hW)) hH ?_
        refine rg_loadM 33 _ 24 (.tmp 14) h 0 ([.bool nb, .slice a2 n' c2, .int .i64 f]) _ (some 100) rfl (by kernel_rfl) (by kernel_rfl) (by kernel_rfl) (by kernel_rfl) (fun _ _ _ h => h) (by kernel_rfl) rfl (by kernel_rfl) Tryz.underlying24 rfl (by kernel_rfl) (fun W hW => bx_range (BH5.out.step hW)) hH ?_
        refine rg_loadM 35 _ 24 (.tmp 6) w.heap.size 0 ([.bool na, .slice ad n cap, .int .i64 e]) _ (some 102) rfl (by kernel_rfl) (by kernel_rfl) (by kernel_rfl) (by kernel_rfl) (fun _ _ _ h => h) (by kernel_rfl) rfl (by kernel_rfl) Tryz.underlying24 rfl (by kernel_rfl) (fun W hW => bx_range (BP5.out.step hW)) hH ?_
        refine rg_loadM 36 _ 24 (.tmp 7) (w.heap.size + 1) 0 ([.bool nb, .slice ad' n' cap', .int .i64 f]) _ (some 103) rfl (by kernel_rfl) (by kernel_rfl) (by kernel_rfl) (by kernel_rfl) (fun _ _ _ h => h) (by kernel_rfl) rfl (by kernel_rfl) Tryz.underlying24 rfl (by kernel_rfl) (fun W hW => bx_range (BQ5.out.step hW)) hH ?_
        refine rg_call 34 _ 16 _ _ _ _ #[.agg #[.bool na, .slice a1 n c1, .int .i64 e], .agg #[.bool nb, .slice a2 n' c2, .int .i64 f]] (some 101) rfl (by kernel_rfl) (by kernel_rfl) (by kernel_rfl) rfl (by kernel_rfl) Tryz.func16 (by kernel_rfl) (by kernel_rfl) (by kernel_rfl) (cmp_at (NXX.out _ (below_on RW5.out hH)) (NYY.out _ (below_on RW5.out hH))) ?_
        rintro r' w' ⟨rfl, hb⟩
        replace hH := hH.trans (hb.mono hH.size)
        refine ⟨_, rfl, hH, ?_⟩
        refine rg_call 37 _ 17 _ _ _ _ #[.agg #[.bool na, .slice ad n cap, .int .i64 e], .agg #[.bool nb, .slice ad' n' cap', .int .i64 f]] (some 104) rfl (by kernel_rfl) (by kernel_rfl) (by kernel_rfl) rfl (by kernel_rfl) Tryz.func17 (by kernel_rfl) (by kernel_rfl) (by kernel_rfl) (rcmp_at (NAA.out _ (below_on RW5.out hH)) (NBB.out _ (below_on RW5.out hH))) ?_
        rintro r' w' ⟨rfl, hb⟩
        replace hH := hH.trans (hb.mono hH.size)
        refine ⟨_, rfl, hH, ?_⟩
        refine rg_pure 38 _ (.bool true) (some 105) rfl (by kernel_rfl) (by kernel_rfl) (by kernel_rfl) (by kernel_rfl) (fun _ _ _ h => h) (by kernel_rfl) (fun w => rg_eqI w _ _ _ _ _ _ .i64 ((cmpZ (valZ (nN na xs e) (val (nX na xs e)) (nE na xs e)) (valZ (nN nb ys f) (val (nX nb ys f)) (nE nb ys f)))) rfl (by kernel_rfl) (by kernel_rfl)) hH ?_
        refine rg_pure 39 _ (.bool true) (some 106) rfl (by kernel_rfl) (by kernel_rfl) (by kernel_rfl) (by kernel_rfl) (fun _ _ _ h => h) (by kernel_rfl) (fun w => by kernel_rfl) hH ?_
        refine rg_pure 40 _ (.bool true) (some 107) rfl (by kernel_rfl) (by kernel_rfl) (by kernel_rfl) (by kernel_rfl) (fun _ _ _ h => h) (by kernel_rfl) (fun w => by kernel_rfl) hH ?_
        refine rg_loadM 41 _ 24 (.tmp 13) g 0 ([.bool na, .slice a1 n c1, .int .i64 e]) _ (some 108) rfl (by kernel_rfl) (by kernel_rfl) (by kernel_rfl) (by kernel_rfl) (fun _ _ _ h => h) (by kernel_rfl) rfl (by kernel_rfl) Tryz.underlying24 rfl (by kernel_rfl) (fun W hW => bx_range (BG5.out.step hW)) hH ?_
        refine rg_loadM 42 _ 24 (.tmp 14) h 0 ([.bool nb, .slice a2 n' c2, .int .i64 f]) _ (some 109) rfl (by kernel_rfl) (by kernel_rfl) (by kernel_rfl) (by kernel_rfl) (fun _ _ _ h => h) (by kernel_rfl) rfl (by kernel_rfl) Tryz.underlying24 rfl (by kernel_rfl) (fun W hW => bx_range (BH5.out.step hW)) hH ?_
        refine rg_loadM 44 _ 24 (.tmp 6) w.heap.size 0 ([.bool na, .slice ad n cap, .int .i64 e]) _ (some 111) rfl (by kernel_rfl) (by kernel_rfl) (by kernel_rfl) (by kernel_rfl) (fun _ _ _ h => h) (by kernel_rfl) rfl (by kernel_rfl) Tryz.underlying24 rfl (by kernel_rfl) (fun W hW => bx_range (BP5.out.step hW)) hH ?_
        refine rg_loadM 45 _ 24 (.tmp 7) (w.heap.size + 1) 0 ([.bool nb, .slice ad' n' cap', .int .i64 f]) _ (some 112) rfl (by kernel_rfl) (by kernel_rfl) (by kernel_rfl) (by kernel_rfl) (fun _ _ _ h => h) (by kernel_rfl) rfl (by kernel_rfl) Tryz.underlying24 rfl (by kernel_rfl) (fun W hW => bx_range (BQ5.out.step hW)) hH ?_
        refine rg_call 43 _ 18 _ _ _ _ #[.agg #[.bool na, .slice a1 n c1, .int .i64 e], .agg #[.bool nb, .slice a2 n' c2, .int .i64 f]] (some 110) rfl (by kernel_rfl) (by kernel_rfl) (by kernel_rfl) rfl (by kernel_rfl) Tryz.func18 (by kernel_rfl) (by kernel_rfl) (by kernel_rfl) (same_at (NXX.out _ (below_on RW5.out hH)) (NYY.out _ (below_on RW5.out hH))) ?_
        rintro r' w' ⟨rfl, hb⟩
        replace hH := hH.trans (hb.mono hH.size)
        refine ⟨_, rfl, hH, ?_⟩
        refine rg_call 46 _ 19 _ _ _ _ #[.agg #[.bool na, .slice ad n cap, .int .i64 e], .agg #[.bool nb, .slice ad' n' cap', .int .i64 f]] (some 113) rfl (by kernel_rfl) (by kernel_rfl) (by kernel_rfl) rfl (by kernel_rfl) Tryz.func19 (by kernel_rfl) (by kernel_rfl) (by kernel_rfl) (rsame_at (NAA.out _ (below_on RW5.out hH)) (NBB.out _ (below_on RW5.out hH))) ?_
        rintro r' w' ⟨rfl, hb⟩
        replace hH := hH.trans (hb.mono hH.size)
        refine ⟨_, rfl, hH, ?_⟩
        refine rg_pure 47 _ (.bool true) (some 114) rfl (by kernel_rfl) (by kernel_rfl) (by kernel_rfl) (by kernel_rfl) (fun _ _ _ h => h) (by kernel_rfl) (fun w => rg_eqB w _ _ _ _ _ _ ((decide ((nN na xs e = nN nb ys f ∧ nE na xs e = nE nb ys f) ∧ nX na xs e = nX nb ys f))) Tryz.underlying4 rfl (by kernel_rfl) (by kernel_rfl)) hH ?_
        refine rg_pure 48 _ (.bool true) (some 115) rfl (by kernel_rfl) (by kernel_rfl) (by kernel_rfl) (by kernel_rfl) (fun _ _ _ h => h) (by kernel_rfl) (fun w => by kernel_rfl) hH ?_
        refine rg_pure 49 _ (.bool true) (some 116) rfl (by kernel_rfl) (by kernel_rfl) (by kernel_rfl) (by kernel_rfl) (fun _ _ _ h => h) (by kernel_rfl) (fun w => by kernel_rfl) hH ?_
        refine rg_loadM 50 _ 24 (.tmp 13) g 0 ([.bool na, .slice a1 n c1, .int .i64 e]) _ (some 117) rfl (by kernel_rfl) (by kernel_rfl) (by kernel_rfl) (by kernel_rfl) (fun _ _ _ h => h) (by kernel_rfl) rfl (by kernel_rfl) Tryz.underlying24 rfl (by kernel_rfl) (fun W hW => bx_range (BG5.out.step hW)) hH ?_
        refine rg_loadM 52 _ 24 (.tmp 6) w.heap.size 0 ([.bool na, .slice ad n cap, .int .i64 e]) _ (some 119) rfl (by kernel_rfl) (by kernel_rfl) (by kernel_rfl) (by kernel_rfl) (fun _ _ _ h => h) (by kernel_rfl) rfl (by kernel_rfl) Tryz.underlying24 rfl (by kernel_rfl) (fun W hW => bx_range (BP5.out.step hW)) hH ?_
        refine rg_call 51 _ 20 _ _ _ _ #[.agg #[.bool na, .slice a1 n c1, .int .i64 e]] (some 118) rfl (by kernel_rfl) (by kernel_rfl) (by kernel_rfl) rfl (by kernel_rfl) Tryz.func20 (by kernel_rfl) (by kernel_rfl) (by kernel_rfl) (text_at (NXX.out _ (below_on RW5.out hH)) (TBB.out _ (below_on RW5.out hH))) ?_
        rintro r' w' ⟨rfl, hb⟩
        replace hH := hH.trans (hb.mono hH.size)
        refine ⟨_, rfl, hH, ?_⟩
        refine rg_call 53 _ 21 _ _ _ _ #[.agg #[.bool na, .slice ad n cap, .int .i64 e]] (some 120) rfl (by kernel_rfl) (by kernel_rfl) (by kernel_rfl) rfl (by kernel_rfl) Tryz.func21 (by kernel_rfl) (by kernel_rfl) (by kernel_rfl) (rtext_at (NAA.out _ (below_on RW5.out hH))) ?_
        rintro r' w' ⟨rfl, hb⟩
        replace hH := hH.trans (hb.mono hH.size)
        refine ⟨_, rfl, hH, ?_⟩
        refine rg_pure 54 _ (.bool true) (some 121) rfl (by kernel_rfl) (by kernel_rfl) (by kernel_rfl) (by kernel_rfl) (fun _ _ _ h => h) (by kernel_rfl) (fun w => rg_eqS w _ _ _ _ _ _ ((txt (numTxt (nN na xs e) (val (nX na xs e)) (nE na xs e)))) rfl (by kernel_rfl) (by kernel_rfl)) hH ?_
        refine rg_pure 55 _ (.bool true) (some 122) rfl (by kernel_rfl) (by kernel_rfl) (by kernel_rfl) (by kernel_rfl) (fun _ _ _ h => h) (by kernel_rfl) (fun w => by kernel_rfl) hH ?_
        refine rg_pure 56 _ (.bool true) (some 123) rfl (by kernel_rfl) (by kernel_rfl) (by kernel_rfl) (by kernel_rfl) (fun _ _ _ h => h) (by kernel_rfl) (fun w => by kernel_rfl) hH ?_
        refine rg_pure 57 _ (.func (.func 12) #[] #[]) (some 124) rfl (by kernel_rfl) (by kernel_rfl) (by kernel_rfl) (by kernel_rfl) (fun _ _ _ h => h) (by kernel_rfl) (fun w => by kernel_rfl) hH ?_
        refine rg_pure 58 _ (.int .i64 V) (some 125) rfl (by kernel_rfl) (by kernel_rfl) (by kernel_rfl) (by kernel_rfl) (fun _ _ _ h => h) (by kernel_rfl) (fun w => by kernel_rfl) hH ?_
        refine rg_pure 60 _ (.int .i64 V) (some 127) rfl (by kernel_rfl) (by kernel_rfl) (by kernel_rfl) (by kernel_rfl) (fun _ _ _ h => h) (by kernel_rfl) (fun w => by kernel_rfl) hH ?_
        refine rg_call 59 _ 22 _ _ _ _ #[.int .i64 V] (some 126) rfl (by kernel_rfl) (by kernel_rfl) (by kernel_rfl) rfl (by kernel_rfl) Tryz.func22 (by kernel_rfl) (by kernel_rfl) (by kernel_rfl) (of_all (Ctx.begin _) V hV) ?_
        rintro r' w' ⟨v9, rfl, hm9⟩
        have hb := hm9.below
        obtain ⟨ad9, cap9, rfl, q9a, q9b, q9c, q9d, q9e⟩ := hm9.get 0 rfl
        have M9 := Lib.hid (And.intro q9a (And.intro q9b q9d))
        clear q9a q9b q9c q9d q9e hm9
        replace hH := hH.trans (hb.mono hH.size)
        refine ⟨_, rfl, hH, ?_⟩
        refine rg_call 61 _ 23 _ _ _ _ #[.int .i64 V] (some 128) rfl (by kernel_rfl) (by kernel_rfl) (by kernel_rfl) rfl (by kernel_rfl) Tryz.func23 (by kernel_rfl) (by kernel_rfl) (by kernel_rfl) (rof_all (Ctx.begin _) V hV) ?_
        rintro r' w' ⟨v8, rfl, hm8⟩
        have hb := hm8.below
        have M9R := Lib.hid (M9.out.2.2.below hb)
        obtain ⟨ad8, cap8, rfl, q9a, q9b, q9c, q9d, q9e⟩ := hm8.get 0 rfl
        have M8 := Lib.hid (And.intro q9a (And.intro q9b q9d))
        clear q9a q9b q9c q9d q9e hm8
        replace hH := hH.trans (hb.mono hH.size)
        refine ⟨_, rfl, hH, ?_⟩
        refine rg_call 62 _ 12 _ _ _ _ #[.agg #[.bool (decide (V < 0)), .slice ad9 (limbs (trimM V.natAbs)).length cap9, .int .i64 ((trimK V.natAbs : Nat) : Int)], .agg #[.bool (decide (V < 0)), .slice ad8 (limbs (trimM V.natAbs)).length cap8, .int .i64 ((trimK V.natAbs : Nat) : Int)]] (some 129) rfl (by kernel_rfl) (by kernel_rfl) (by kernel_rfl) rfl (by kernel_rfl) Tryz.func12 (by kernel_rfl) (by kernel_rfl) (by kernel_rfl) (sameNum_any _ _ _ _ _ _ _ _ _ rfl M9.out.1 M8.out.1 (by have := M9.out.2.1; omega) M9R.out M8.out.2.2) ?_
        rintro r' w' ⟨rfl, hb⟩
        replace hH := hH.trans (hb.mono hH.size)
        refine ⟨_, rfl, hH, ?_⟩
        refine rg_pure 63 _ (.bool true) (some 130) rfl (by kernel_rfl) (by kernel_rfl) (by kernel_rfl) (by kernel_rfl) (fun _ _ _ h => h) (by kernel_rfl) (fun w => by kernel_rfl) hH ?_
        refine rg_pure 64 _ (.bool true) (some 131) rfl (by kernel_rfl) (by kernel_rfl) (by kernel_rfl) (by kernel_rfl) (fun _ _ _ h => h) (by kernel_rfl) (fun w => by kernel_rfl) hH ?_
        refine rg_pure 65 _ (.func (.func 12) #[] #[]) (some 132) rfl (by kernel_rfl) (by kernel_rfl) (by kernel_rfl) (by kernel_rfl) (fun _ _ _ h => h) (by kernel_rfl) (fun w => by kernel_rfl) hH ?_
        refine rg_loadM 66 _ 24 (.tmp 13) g 0 ([.bool na, .slice a1 n c1, .int .i64 e]) _ (some 133) rfl (by kernel_rfl) (by kernel_rfl) (by kernel_rfl) (by kernel_rfl) (fun _ _ _ h => h) (by kernel_rfl) rfl (by kernel_rfl) Tryz.underlying24 rfl (by kernel_rfl) (fun W hW => bx_range (BG5.out.step hW)) hH ?_
        refine rg_loadM 67 _ 24 (.tmp 6) w.heap.size 0 ([.bool na, .slice ad n cap, .int .i64 e]) _ (some 134) rfl (by kernel_rfl) (by kernel_rfl) (by kernel_rfl) (by kernel_rfl) (fun _ _ _ h => h) (by kernel_rfl) rfl (by kernel_rfl) Tryz.underlying24 rfl (by kernel_rfl) (fun W hW => bx_range (BP5.out.step hW)) hH ?_
        refine rg_call 68 _ 12 _ _ _ _ #[.agg #[.bool na, .slice a1 n c1, .int .i64 e], .agg #[.bool na, .slice ad n cap, .int .i64 e]] (some 135) rfl (by kernel_rfl) (by kernel_rfl) (by kernel_rfl) rfl (by kernel_rfl) Tryz.func12 (by kernel_rfl) (by kernel_rfl) (by kernel_rfl) (KXA.out _ (below_on RW5.out hH)) ?_
        rintro r' w' ⟨rfl, hb⟩
        replace hH := hH.trans (hb.mono hH.size)
        refine ⟨_, rfl, hH, ?_⟩
        refine rg_pure 69 _ (.bool true) (some 136) rfl (by kernel_rfl) (by kernel_rfl) (by kernel_rfl) (by kernel_rfl) (fun _ _ _ h => h) (by kernel_rfl) (fun w => by kernel_rfl) hH ?_
        refine rg_pure 70 _ (.bool true) (some 137) rfl (by kernel_rfl) (by kernel_rfl) (by kernel_rfl) (by kernel_rfl) (fun _ _ _ h => h) (by kernel_rfl) (fun w => by kernel_rfl) hH ?_
        refine rg_call 71 _ 5 _ _ _ _ #[] (some 138) rfl (by kernel_rfl) (by kernel_rfl) (by kernel_rfl) rfl (by kernel_rfl) Tryz.func5 (by kernel_rfl) (by kernel_rfl) (by kernel_rfl) (HT.out _ (below_on QC.out (below_on RW5.out hH))) ?_
        rintro r' w' ⟨rfl, hb⟩
        replace hH := hH.trans (hb.mono hH.size)
        refine ⟨_, rfl, hH, ?_⟩
        refine rg_pure 72 _ (.bool true) (some 139) rfl (by kernel_rfl) (by kernel_rfl) (by kernel_rfl) (by kernel_rfl) (fun _ _ _ h => h) (by kernel_rfl) (fun w => by kernel_rfl) hH ?_
        refine rg_pure 73 _ (.bool true) (some 12) rfl (by kernel_rfl) (by kernel_rfl) (by kernel_rfl) (by kernel_rfl) (fun _ _ _ h => h) (by kernel_rfl) (fun w => by kernel_rfl) hH ?_
        refine wpAnyH_done (by kernel_rfl) ?_ _
        refine HJ.out _ _ ?_
        have HF := Lib.hid (below_on QC.out (below_on RW5.out hH))
        clear hH
        simp only [Act.put, List.setIfInBounds_toArray, List.set_cons_zero, List.set_cons_succ]
        go_wp2
        go_ret
        exact BoolBelow.mk rfl HF.out
end Go.Proofs.YtogapgjilbcbfaaGreatDoor
