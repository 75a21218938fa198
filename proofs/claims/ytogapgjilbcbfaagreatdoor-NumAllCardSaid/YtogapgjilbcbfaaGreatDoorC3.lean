/- The walks of num's cmpSizes, Cmp. The walks of slices.Equal at limbs, of num's Same. -/
import Derived.Test.YtogapgjilbcbfaaGreatDoorC2
import Derived.Test.YtogapgjilbcbfaaGreatDoorShelf
import Derived.Lib.QuietBelow
namespace Go.Proofs.YtogapgjilbcbfaaGreatDoor
open Go.RowKit Go.Sort
set_option linter.unusedVariables false
set_option linter.unusedSimpArgs false

theorem txt_list (l : List Nat) : (txt l).data.toList = l.map UInt8.ofNat := by simp [txt]
theorem cmpD_unf (N : Nat) (e : Int) (M : Nat) (f : Int) :
    cmpD N e M f = if Lib.compareInt (((dec N).length : Int) + e) (((dec M).length : Int) + f) = 0 then Lib.compareBytes (txt (dec N)).data.toList (txt (dec M)).data.toList else Lib.compareInt (((dec N).length : Int) + e) (((dec M).length : Int) + f) := by
  unfold cmpD Lib.compareInt
  rw [txt_list, txt_list]
  repeat' split
  all_goals first | rfl | omega

theorem ten_pow (k : Nat) : tenN (10 * k) = (10 ^ 10) ^ k := Nat.pow_mul _ _ _
theorem dec_len90 {xs : List Nat} (ho : Okl xs) (h : xs.length ≤ 90) : (dec (val xs)).length ≤ 900 := by
  refine dec_len_le (by omega) ?_
  have h1 := val_lt ho
  have h2 : B32 ^ xs.length ≤ B32 ^ 90 := Nat.pow_le_pow_right B32_pos h
  have h3 : B32 ^ 90 ≤ tenN (10 * 90) := by
    rw [ten_pow]
    exact Nat.pow_le_pow_left (by decide) 90
  exact Nat.lt_of_lt_of_le h1 (Nat.le_trans h2 h3)

set_option maxHeartbeats 4000000 in
theorem cmpSizes_any (na : Bool) (ad : Option Addr) (n cap : Nat) (xs : List Nat) (e : Int) (nb : Bool) (ad' : Option Addr) (n' cap' : Nat) (ys : List Nat) (f : Int) (w : World)
    (hn : xs.length = n) (hcap : n ≤ cap) (hm : n ≤ 90) (ho : Okl xs) (hr : Rd w ad xs) (hn' : ys.length = n') (hcap' : n' ≤ cap') (hm' : n' ≤ 90) (ho' : Okl ys) (hr' : Rd w ad' ys)
    (he : -1200 ≤ e ∧ e ≤ 1200) (hf : -1200 ≤ f ∧ f ≤ 1200) :
    Calls Tryz.prog 39 #[.agg #[.bool na, .slice ad n cap, .int .i64 e], .agg #[.bool nb, .slice ad' n' cap', .int .i64 f]] w (IntBelow (cmpD (val xs) e (val ys) f) w) := by
  have hbl : Below w.heap.size w ((w.alloc (.cells #[.bool na, .slice ad n cap, .int .i64 e] 24)).alloc (.cells #[.bool nb, .slice ad' n' cap', .int .i64 f] 24)) := ((Below.refl _ _).alloc (Nat.le_refl _) _).alloc (by simp) _
  have HB := Lib.hid hbl
  have hd1 := dec_len90 ho (by omega)
  have hd2 := dec_len90 ho' (by omega)
  have K1 := Lib.hid (fun W (h : Below w.heap.size w W) => digits_any ad n cap xs W hn hcap (by omega) ho (hr.below h))
  have K2 := Lib.hid (fun W (h : Below w.heap.size w W) => digits_any ad' n' cap' ys W hn' hcap' (by omega) ho' (hr'.below h))
  have HU := Lib.hid (cmpD_unf (val xs) e (val ys) f)
  clear hbl ho ho' hr hr' hn hn' hcap hcap' hm hm'
  generalize val xs = N at *
  generalize val ys = M at *
  have hs1 : (txt (dec N)).size = (dec N).length := txt_size _
  have hs2 : (txt (dec M)).size = (dec M).length := txt_size _
  generalize dec N = d1 at *
  generalize dec M = d2 at *
  generalize cmpD N e M f = R at *
  generalize hW : ((w.alloc (.cells #[.bool na, .slice ad n cap, .int .i64 e] 24)).alloc (.cells #[.bool nb, .slice ad' n' cap', .int .i64 f] 24)) = W at *
  have HW := Lib.hid hW
  have cD1 : ∀ d os, Calls Tryz.prog 44 #[.slice ad n cap] (grow (redrawn W d) os) fun e w'' => e = .returned (.string (txt d1)) ∧ ∃ p : Regrown, w'' = grow (redrawn W p.d) p.os :=
    fun d os => Calls.regrown_of (K1.out _ (HB.out.trans ((below_regrown W d os).mono (by rw [← hW]; simp; omega))))
  have cD2 : ∀ d os, Calls Tryz.prog 44 #[.slice ad' n' cap'] (grow (redrawn W d) os) fun e w'' => e = .returned (.string (txt d2)) ∧ ∃ p : Regrown, w'' = grow (redrawn W p.d) p.os :=
    fun d os => Calls.regrown_of (K2.out _ (HB.out.trans ((below_regrown W d os).mono (by rw [← hW]; simp; omega))))
  have c10 : W.cell? ⟨w.heap.size, 1, none⟩ = some (.slice ad n cap) := by rw [← hW]; simp [World.cell?_alloc_lt]
  have c12 : W.cell? ⟨w.heap.size, 2, none⟩ = some (.int .i64 e) := by rw [← hW]; simp [World.cell?_alloc_lt]
  have c20 : W.cell? ⟨w.heap.size + 1, 1, none⟩ = some (.slice ad' n' cap') := by rw [← hW]; simp
  have c22 : W.cell? ⟨w.heap.size + 1, 2, none⟩ = some (.int .i64 f) := by rw [← hW]; simp
  have k1 := cell_regrown c10
  have k2 := cell_regrown c12
  have k3 := cell_regrown c20
  have k4 := cell_regrown c22
  have HW2 := Lib.hid hW
  clear hW
  go_enter Tryz.func39, Tryz.ntmps39
  go_wp2_with fail
  rw [HW2.out]
  refine wp_region_quiet_below (by kernel_rfl) (by kernel_rfl) ?_
  repeat (quiet_step (first | with_reducible exact cD1 _ _ | with_reducible exact cD2 _ _))
  refine wpQuiet_nil ?_
  intro _ hw'
  obtain ⟨⟨dq, osq⟩, hw''⟩ := hw'
  subst hw''
  go_wp2_with fail
  refine (Tryz.cmp_Compare_int _ _ _).mono ?_
  rintro r w' ⟨rfl, rfl⟩
  have hb5 : Below w.heap.size w (grow (redrawn W dq) osq) := HB.out.trans ((below_regrown W dq osq).mono (by rw [← HW2.out]; simp; omega))
  have HB5 := Lib.hid hb5; clear hb5
  generalize hc : Lib.compareInt (((d1.length : Nat) : Int) + e) (((d2.length : Nat) : Int) + f) = c at *
  clear hc
  have hu := HU.out
  by_cases h0 : c = 0
  · rw [if_pos h0] at hu
    subst h0
    have HR := Lib.hid hu; clear hu
    go_wp2_with fail
    refine (Tryz.strings_Compare _ _ _).mono ?_
    rintro r w' ⟨rfl, rfl⟩
    go_wp2
    go_ret
    exact ⟨by rw [HR.out]; rfl, HB5.out⟩
  · rw [if_neg h0] at hu
    subst hu
    have hb : (R != 0) = true := by simpa using h0
    go_wp2
    go_ret
    exact ⟨rfl, HB5.out⟩

/-- A number in the world: its value, its sign, its limbs, its tens; it may be. -/
structure NumOk (w : World) (neg : Bool) (ad : Option Addr) (n cap : Nat) (xs : List Nat) (e : Int) : Prop where
  len : xs.length = n
  cap : n ≤ cap
  ok : Okl xs
  rd : Rd w ad xs
  chk : chkB neg xs e = true
theorem NumOk.below {w w' : World} {neg : Bool} {ad : Option Addr} {n cap : Nat} {xs : List Nat} {e : Int} (h : NumOk w neg ad n cap xs e) (hb : Below w.heap.size w w') : NumOk w' neg ad n cap xs e :=
  ⟨h.len, h.cap, h.ok, h.rd.below hb, h.chk⟩
theorem NumOk.n90 {w : World} {neg : Bool} {ad : Option Addr} {n cap : Nat} {xs : List Nat} {e : Int} (h : NumOk w neg ad n cap xs e) : n ≤ 90 := by have := (chkB_bounds h.chk).1; have := h.len; omega
theorem NumOk.lo {w : World} {neg : Bool} {ad : Option Addr} {n cap : Nat} {xs : List Nat} {e : Int} (h : NumOk w neg ad n cap xs e) : -1200 ≤ e ∧ e ≤ 1200 := (chkB_bounds h.chk).2
theorem NumOk.same {w : World} {neg : Bool} {ad : Option Addr} {n cap : Nat} {xs : List Nat} {e : Int} (h : NumOk w neg ad n cap xs e) (W : World) (hb : Below w.heap.size w W) :
    Calls Tryz.prog 27 #[.agg #[.bool neg, .slice ad n cap, .int .i64 e]] W (NumBelow neg (.slice ad n cap) e W) :=
  orZero_yes neg ad n cap xs e W h.len h.cap (by have := h.n90; omega) h.ok (h.rd.below hb) h.chk

theorem sideN_cmp {na nb : Bool} {xs ys : List Nat} {e f : Int} {n n' : Nat} (hn : xs.length = n) (hn' : ys.length = n') (ha : chkB na xs e = true) (hb : chkB nb ys f = true) (ho : Okl xs) (ho' : Okl ys) :
    cmpZ (valZ na (val xs) e) (valZ nb (val ys) f) = if Lib.compareInt (sideN na n) (sideN nb n') = 0 then sideN na n * cmpD (val xs) e (val ys) f else Lib.compareInt (sideN na n) (sideN nb n') := by
  have key : ∀ {neg : Bool} {zs : List Nat} {g : Int} {m : Nat}, zs.length = m → chkB neg zs g = true → Okl zs → (m = 0 ∧ sideN neg m = 0 ∧ valZ neg (val zs) g = 0) ∨ (m ≠ 0 ∧ val zs % 10 ≠ 0 ∧ -1200 ≤ g ∧ ((neg = true ∧ sideN neg m = -1 ∧ valZ neg (val zs) g = -(sizeN (val zs) g : Int)) ∨ (neg = false ∧ sideN neg m = 1 ∧ valZ neg (val zs) g = (sizeN (val zs) g : Int))) ∧ 0 < sizeN (val zs) g) := by
    intro neg zs g m hm hc hz
    by_cases h0 : m = 0
    · left
      have hz0 : zs = [] := List.eq_nil_of_length_eq_zero (by omega)
      subst hz0
      refine ⟨h0, by unfold sideN; rw [if_pos h0], ?_⟩
      simp [valZ, val, sizeN_zero]
    · right
      have hz0 : zs ≠ [] := fun h => h0 (by rw [← hm, h]; rfl)
      obtain ⟨_, _, a, _, b⟩ := chkB_some hz0 hc
      have hv : val zs ≠ 0 := fun h => by rw [h] at b; exact b rfl
      refine ⟨h0, b, a, ?_, sizeN_pos hv⟩
      cases neg
      · right; exact ⟨rfl, by unfold sideN; rw [if_neg h0]; rfl, rfl⟩
      · left; exact ⟨rfl, by unfold sideN; rw [if_neg h0]; rfl, rfl⟩
  rcases key hn ha ho with ⟨_, h2, h3⟩ | ⟨_, b1, b2, (⟨_, h2, h3⟩ | ⟨_, h2, h3⟩), h4⟩ <;> rcases key hn' hb ho' with ⟨_, g2, g3⟩ | ⟨_, c1, c2, (⟨_, g2, g3⟩ | ⟨_, g2, g3⟩), g4⟩ <;> rw [h2, g2, h3, g3]
  · simp [Lib.compareInt, cmpZ]
  · rw [cmpZ_gt (by omega)]; simp [Lib.compareInt]
  · rw [cmpZ_lt (by omega)]; simp [Lib.compareInt]
  · rw [cmpZ_lt (by omega)]; simp [Lib.compareInt]
  · rw [cmpZ_neg, cmpZ_nat, cmpD_eq b1 c1 b2 c2]; simp [Lib.compareInt]
  · rw [cmpZ_lt (by omega)]; simp [Lib.compareInt]
  · rw [cmpZ_gt (by omega)]; simp [Lib.compareInt]
  · rw [cmpZ_gt (by omega)]; simp [Lib.compareInt]
  · rw [cmpZ_nat, cmpD_eq b1 c1 b2 c2]; simp [Lib.compareInt]

theorem below_drew {B : Nat} {a w : World} (h : Below B a w) : Below B a w.drew := h.trans ⟨rfl, rfl, rfl, Nat.le_refl _, fun _ _ => rfl⟩
theorem cmpD_bd (N : Nat) (e : Int) (M : Nat) (f : Int) : -1 ≤ cmpD N e M f ∧ cmpD N e M f ≤ 1 := by
  have key : ∀ a b : List UInt8, -1 ≤ Lib.compareBytes a b ∧ Lib.compareBytes a b ≤ 1 := by
    intro a
    induction a with
    | nil => intro b; cases b <;> simp [Lib.compareBytes]
    | cons x a ih =>
      intro b
      cases b with
      | nil => simp [Lib.compareBytes]
      | cons y b =>
        simp only [Lib.compareBytes]
        have := ih b
        repeat' split
        all_goals omega
  unfold cmpD
  have := key ((dec N).map UInt8.ofNat) ((dec M).map UInt8.ofNat)
  repeat' split
  all_goals omega
theorem mul_small {a b : Int} (h : -1 ≤ a ∧ a ≤ 1) (k : -1 ≤ b ∧ b ≤ 1) : -9223372036854775808 ≤ a * b ∧ a * b ≤ 9223372036854775807 := by
  obtain rfl | rfl | rfl : a = -1 ∨ a = 0 ∨ a = 1 := by omega
  all_goals omega
def CmpCut (w wx : World) (na : Bool) (va : Value) (e : Int) (nb : Bool) (vb : Value) (f : Int) : Prop :=
  Below w.heap.size w wx ∧ w.heap.size + 1 < wx.heap.size ∧ (wx.cell? ⟨w.heap.size, 0, none⟩ = some (.bool na) ∧ wx.cell? ⟨w.heap.size, 1, none⟩ = some va ∧ wx.cell? ⟨w.heap.size, 2, none⟩ = some (.int .i64 e)) ∧
    (wx.cell? ⟨w.heap.size + 1, 0, none⟩ = some (.bool nb) ∧ wx.cell? ⟨w.heap.size + 1, 1, none⟩ = some vb ∧ wx.cell? ⟨w.heap.size + 1, 2, none⟩ = some (.int .i64 f))

set_option maxHeartbeats 4000000 in
/-- Cmp, at two numbers that are taken as they are or as 0. -/
theorem numCmp_core (A B : Value) (A0 B0 : Array Value) (hA : A = .agg A0) (hB : B = .agg B0) (na : Bool) (ad : Option Addr) (n cap : Nat) (xs : List Nat) (e : Int) (nb : Bool) (ad' : Option Addr) (n' cap' : Nat) (ys : List Nat) (f : Int) (w : World)
    (ha : NumOk w na ad n cap xs e) (hb : NumOk w nb ad' n' cap' ys f) (pa qa : Bool) (ta : Value) (xa : Int) (pb : Bool) (tb : Value) (xb : Int)
    (eA : A0 = #[.bool pa, ta, .int .i64 xa]) (eB : B0 = #[.bool pb, tb, .int .i64 xb])
    (KA : ∀ W, Below w.heap.size w W → Calls Tryz.prog 27 #[A] W (NumBelow na (.slice ad n cap) e W))
    (KB : ∀ W, Below w.heap.size w W → Calls Tryz.prog 27 #[B] W (NumBelow nb (.slice ad' n' cap') f W)) :
    Calls Tryz.prog 16 #[A, B] w (IntBelow (cmpZ (valZ na (val xs) e) (valZ nb (val ys) f)) w) := by
  subst eA eB hA hB
  have hbl : Below w.heap.size w ((w.alloc (.cells #[.bool pa, ta, .int .i64 xa] 24)).alloc (.cells #[.bool pb, tb, .int .i64 xb] 24)) := ((Below.refl _ _).alloc (Nat.le_refl _) _).alloc (by simp) _
  have HB := Lib.hid hbl
  clear hbl
  have KA := Lib.hid KA
  have KB := Lib.hid KB
  go_enter Tryz.func16, Tryz.ntmps16
  go_upto_region 1 with fail
  go_cut [] (fun wx => CmpCut w wx na (.slice ad n cap) e nb (.slice ad' n' cap') f)
  case first =>
    go_region_with (first
      | (go_at_call_of 27 (Value.agg #[Value.bool pa, ta, Value.int IntKind.i64 xa]); refine (KA.out _ (by exact below_drew HB.out)).mono ?_; rintro r w1 ⟨rfl, hb1⟩; obtain ⟨hc1, hf1⟩ := bcell hb1; have hz1 : w.heap.size + 1 < w1.heap.size := (by have h := hb1.size; (try simp at h); omega); have hy1 : w.heap.size < w1.heap.size := (by omega))
      | (go_at_call_of 27 (Value.agg #[Value.bool pb, tb, Value.int IntKind.i64 xb]); refine (KB.out _ (by exact below_on (below_drew HB.out) hb1)).mono ?_; rintro r w2 ⟨rfl, hb2⟩; obtain ⟨hc2, hf2⟩ := bcell hb2; have hz2 : w.heap.size + 1 < w2.heap.size := (by have h := hb2.size; (try simp at h); omega); have hy2 : w.heap.size < w2.heap.size := (by omega)))
    all_goals
      have e0 : w2.cell? ⟨w.heap.size, 0, none⟩ = some (.bool pa) := by rw [hc2 _ _ hy1, hc1 _ _ (by simp <;> omega)]; simp [World.cell?_alloc_lt]
      have e1 : w2.cell? ⟨w.heap.size, 1, none⟩ = some ta := by rw [hc2 _ _ hy1, hc1 _ _ (by simp <;> omega)]; simp [World.cell?_alloc_lt]
      have e2 : w2.cell? ⟨w.heap.size, 2, none⟩ = some (.int .i64 xa) := by rw [hc2 _ _ hy1, hc1 _ _ (by simp <;> omega)]; simp [World.cell?_alloc_lt]
      have e3 : w2.cell? ⟨w.heap.size + 1, 0, none⟩ = some (.bool pb) := by rw [hc2 _ _ hz1, hc1 _ _ (by simp <;> omega)]; simp
      have e4 : w2.cell? ⟨w.heap.size + 1, 1, none⟩ = some tb := by rw [hc2 _ _ hz1, hc1 _ _ (by simp <;> omega)]; simp
      have e5 : w2.cell? ⟨w.heap.size + 1, 2, none⟩ = some (.int .i64 xb) := by rw [hc2 _ _ hz1, hc1 _ _ (by simp <;> omega)]; simp
      go_wp2_with fail
      go_meet
      exact ⟨((((((below_on (below_on (below_drew HB.out) hb1) hb2).setCell (by simp) _).setCell (by simp) _).setCell (by simp) _).setCell (by simp) _).setCell (by simp) _).setCell (by simp) _, by simpa using hz2,
        ⟨by simp [go_sem, e0, e1, e2, e3, e4, e5], by simp [go_sem, e0, e1, e2, e3, e4, e5], by simp [go_sem, e0, e1, e2, e3, e4, e5]⟩, ⟨by simp [go_sem, e0, e1, e2, e3, e4, e5], by simp [go_sem, e0, e1, e2, e3, e4, e5], by simp [go_sem, e0, e1, e2, e3, e4, e5]⟩⟩
  case rest =>
    obtain ⟨hbw, hzw, ⟨a0, a1, a2⟩, b0, b1, b2⟩ := hcut
    have hS := Lib.hid (sideN_cmp ha.len hb.len ha.chk hb.chk ha.ok hb.ok)
    have cA : ∀ d os, Calls Tryz.prog 38 #[.agg #[.bool na, .slice ad n cap, .int .i64 e]] (grow (redrawn wc d) os) fun r w'' => r = .returned (.int .i64 (sideN na n)) ∧ ∃ p : Regrown, w'' = grow (redrawn wc p.d) p.os := fun d os => Calls.regrown_of (side_any na ad n cap e _)
    have cB : ∀ d os, Calls Tryz.prog 38 #[.agg #[.bool nb, .slice ad' n' cap', .int .i64 f]] (grow (redrawn wc d) os) fun r w'' => r = .returned (.int .i64 (sideN nb n')) ∧ ∃ p : Regrown, w'' = grow (redrawn wc p.d) p.os := fun d os => Calls.regrown_of (side_any nb ad' n' cap' f _)
    have cC : ∀ d os x y, Calls Tryz.prog 37 #[.int .i64 x, .int .i64 y] (grow (redrawn wc d) os) fun r w'' => r = .returned (.int .i64 (Lib.compareInt x y)) ∧ ∃ p : Regrown, w'' = grow (redrawn wc p.d) p.os := fun d os x y => (Tryz.cmp_Compare_int x y _).mono fun _ _ ⟨h1, h2⟩ => ⟨h1, ⟨⟨d, os⟩, h2⟩⟩
    have CS := Lib.hid (fun W (h : Below w.heap.size w W) => cmpSizes_any na ad n cap xs e nb ad' n' cap' ys f W ha.len ha.cap ha.n90 ha.ok (ha.rd.below h) hb.len hb.cap hb.n90 hb.ok (hb.rd.below h) ha.lo hb.lo)
    have a0r := cell_regrown a0
    have a1r := cell_regrown a1
    have a2r := cell_regrown a2
    have b0r := cell_regrown b0
    have b1r := cell_regrown b1
    have b2r := cell_regrown b2
    have hbw' := Lib.hid hbw; clear hbw
    go_wp2_with fail
    refine wp_region_quiet_below (by kernel_rfl) (by kernel_rfl) ?_
    repeat (quiet_step (first | with_reducible exact cA _ _ | with_reducible exact cB _ _ | with_reducible exact cC _ _ _ _))
    refine wpQuiet_nil ?_
    intro _ hw'
    obtain ⟨⟨dq, osq⟩, hw''⟩ := hw'
    subst hw''
    have hbW := Lib.hid (below_regrown wc dq osq)
    have hbW2 := Lib.hid (below_on hbw'.out hbW.out)
    have a0' := a0r dq osq
    have a1' := a1r dq osq
    have a2' := a2r dq osq
    have b0' := b0r dq osq
    have b1' := b1r dq osq
    have b2' := b2r dq osq
    clear a0r a1r a2r b0r b1r b2r cA cB cC
    change (Exit.then _ _) Exit.normal _ (grow (redrawn wc dq) osq)
    generalize grow (redrawn wc dq) osq = W2 at *
    generalize hcv : Lib.compareInt (sideN na n) (sideN nb n') = c at *
    clear hcv
    by_cases h0 : c = 0
    · subst h0
      have hR := hS.out
      rw [if_pos rfl] at hR
      have HR := Lib.hid hR; clear hR
      have HB2 : Hid (Below w.heap.size w W2) := hbW2.out
      have cA : ∀ d os, Calls Tryz.prog 38 #[.agg #[.bool na, .slice ad n cap, .int .i64 e]] (grow (redrawn W2 d) os) fun r w'' => r = .returned (.int .i64 (sideN na n)) ∧ ∃ p : Regrown, w'' = grow (redrawn W2 p.d) p.os := fun d os => Calls.regrown_of (side_any na ad n cap e _)
      have cD : ∀ d os, Calls Tryz.prog 39 #[.agg #[.bool na, .slice ad n cap, .int .i64 e], .agg #[.bool nb, .slice ad' n' cap', .int .i64 f]] (grow (redrawn W2 d) os) fun r w'' => r = .returned (.int .i64 (cmpD (val xs) e (val ys) f)) ∧ ∃ p : Regrown, w'' = grow (redrawn W2 p.d) p.os :=
        fun d os => Calls.regrown_of (CS.out _ (below_on HB2.out (below_regrown W2 d os)))
      have a0r := cell_regrown a0'
      have a1r := cell_regrown a1'
      have a2r := cell_regrown a2'
      have b0r := cell_regrown b0'
      have b1r := cell_regrown b1'
      have b2r := cell_regrown b2'
      have hsd : -1 ≤ sideN na n ∧ sideN na n ≤ 1 := by unfold sideN; split <;> (try split) <;> omega
      have hcd : -1 ≤ cmpD (val xs) e (val ys) f ∧ cmpD (val xs) e (val ys) f ≤ 1 := cmpD_bd _ _ _ _
      generalize sideN na n = s1 at *
      generalize cmpD (val xs) e (val ys) f = s2 at *
      have hmul : IntKind.i64.wrap (s1 * s2) = s1 * s2 := IntWalk.i64_in _ (mul_small hsd hcd)
      go_wp2_with fail
      refine wp_region_quiet_below (by kernel_rfl) (by kernel_rfl) ?_
      repeat (quiet_step (first | with_reducible exact cA _ _ | with_reducible exact cD _ _))
      refine wpQuiet_nil ?_
      intro _ hw'
      obtain ⟨⟨dq2, osq2⟩, hw''⟩ := hw'
      subst hw''
      go_wp2
      go_ret
      exact ⟨by rw [HR.out]; first | rfl | trace_state, below_on HB2.out (below_regrown W2 dq2 osq2)⟩
    · have hR := hS.out
      rw [if_neg h0] at hR
      have HR := Lib.hid hR; clear hR
      have hbb : (c != 0) = true := by simpa using h0
      go_wp2
      go_ret
      exact ⟨by rw [HR.out]; rfl, hbW2.out⟩
end Go.Proofs.YtogapgjilbcbfaaGreatDoor
namespace Go.Proofs.YtogapgjilbcbfaaGreatDoor
open Go.RowKit Go.Sort
set_option linter.unusedVariables false
set_option linter.unusedSimpArgs false

def EqRel (n : Nat) (xs ys : List Nat) (w : World) (i : Value) (wr : World) : Prop := ∃ (k q : Nat), k ≤ n ∧ i = .int .i64 (k : Int) ∧ (∀ j, j < k → xs.getD j 0 = ys.getD j 0) ∧ wr = w.drewN q
def EqPost (b : Bool) (w : World) (e : Ending) (w' : World) : Prop := e = .returned (.bool b) ∧ ∃ q, w' = w.drewN q

theorem getD_of_ne {xs ys : List Nat} {j : Nat} (h : xs.getD j 0 ≠ ys.getD j 0) : xs ≠ ys := fun h0 => h (by rw [h0])

set_option maxHeartbeats 2000000 in
theorem slicesEqual_any (ad : Option Addr) (n cap : Nat) (xs : List Nat) (ad' : Option Addr) (n' cap' : Nat) (ys : List Nat) (w : World) (hn : xs.length = n) (hcap : n ≤ cap) (hn' : ys.length = n') (hcap' : n' ≤ cap') (hm : n ≤ 1000000000) (hm' : n' ≤ 1000000000) (hr : Rd w ad xs) (hr' : Rd w ad' ys) :
    Calls Tryz.prog 41 #[.slice ad n cap, .slice ad' n' cap'] w (EqPost (decide (xs = ys)) w) := by
  by_cases hnn : n = n'
  · subst hnn
    have HN := Lib.hid hn; clear hn
    have HN' := Lib.hid hn'; clear hn'
    go_enter Tryz.func41, Tryz.ntmps41
    go_wp2_with fail
    go_loopw [13] (fun i wr => EqRel n xs ys w i wr) (fun i _ => n - (intOf i).toNat)
    case atStart => exact ⟨0, 0, Nat.zero_le _, rfl, fun j hj => by omega, rfl⟩
    case round =>
      obtain ⟨k, q, hk, rfl, hs, rfl⟩ := hrel
      have HS := Lib.hid hs; clear hs
      by_cases hkn : k < n
      · obtain ⟨g1, o1, rfl, _, hc1⟩ := hr k (by rw [HN.out]; exact hkn)
        obtain ⟨g2, o2, rfl, _, hc2⟩ := hr' k (by rw [HN'.out]; exact hkn)
        have HX : Hid (xs.getD k 0 = ys.getD k 0 → ∀ j, j < k + 1 → xs.getD j 0 = ys.getD j 0) := fun h0 j hj => by
          by_cases hjk : j = k
          · subst hjk; exact h0
          · exact HS.out j (by omega)
        have HNE := Lib.hid (@getD_of_ne xs ys k)
        generalize xs.getD k 0 = x at *
        generalize ys.getD k 0 = y at *
        have hkn' : (k : Int) < (n : Int) := by omega
        by_cases hxy : x = y
        · subst hxy
          go_wp2
          go_quiet (fail)
          go_wp2
          go_roundw
          case rel => exact ⟨k + 1, _, hkn, by go_num, (by first | exact HX.out rfl | exact HX.out trivial), rfl⟩
          case measure => simp [intOf]; omega
        · have hd : decide (xs = ys) = false := decide_eq_false (HNE.out hxy)
          have HD := Lib.hid hd; clear hd
          have hxi : ((x : Int) != (y : Int)) = true := by rw [bne_iff_ne]; omega
          have hxi2 : ((x : Int) == (y : Int)) = false := by rw [beq_eq_false_iff_ne]; omega
          go_wp2
          go_quiet (fail)
          go_wp2
          go_ret
          exact ⟨by rw [HD.out]; rfl, by rw [World.drewN_drewN]; exact ⟨_, rfl⟩⟩
      · have hkn' : ¬ ((k : Int) < (n : Int)) := by omega
        obtain rfl : k = n := by omega
        have hd : decide (xs = ys) = true := decide_eq_true (list_eq_of_getD (by rw [HN.out, HN'.out]) (fun j _ => by
          by_cases hj : j < k
          · exact HS.out j hj
          · rw [getD_out (by rw [HN.out]; omega), getD_out (by rw [HN'.out]; omega)]))
        have HD := Lib.hid hd; clear hd
        go_wp2
        go_ret
        exact ⟨by rw [HD.out]; rfl, q, rfl⟩
  · have hd : decide (xs = ys) = false := decide_eq_false (fun h => hnn (by rw [← hn, ← hn', h]))
    have HD := Lib.hid hd; clear hd
    have hne : ((n : Int) != (n' : Int)) = true := by rw [bne_iff_ne]; omega
    have hne2 : ((n : Int) == (n' : Int)) = false := by rw [beq_eq_false_iff_ne]; omega
    clear hn hn'
    go_enter Tryz.func41, Tryz.ntmps41
    go_wp2
    go_ret
    exact ⟨by rw [HD.out]; rfl, 0, rfl⟩

theorem same_eq {na nb : Bool} {xs ys : List Nat} {e f : Int} : decide ((na = nb ∧ e = f) ∧ xs = ys) = ((decide (na = nb) && decide (e = f)) && decide (xs = ys)) := by simp

set_option maxHeartbeats 4000000 in
/-- Same, at two numbers that are taken as they are or as 0. -/
theorem numSame_core (A B : Value) (A0 B0 : Array Value) (hA : A = .agg A0) (hB : B = .agg B0) (na : Bool) (ad : Option Addr) (n cap : Nat) (xs : List Nat) (e : Int) (nb : Bool) (ad' : Option Addr) (n' cap' : Nat) (ys : List Nat) (f : Int) (w : World)
    (ha : NumOk w na ad n cap xs e) (hb : NumOk w nb ad' n' cap' ys f) (pa : Bool) (ta : Value) (xa : Int) (pb : Bool) (tb : Value) (xb : Int)
    (eA : A0 = #[.bool pa, ta, .int .i64 xa]) (eB : B0 = #[.bool pb, tb, .int .i64 xb])
    (KA : ∀ W, Below w.heap.size w W → Calls Tryz.prog 27 #[A] W (NumBelow na (.slice ad n cap) e W))
    (KB : ∀ W, Below w.heap.size w W → Calls Tryz.prog 27 #[B] W (NumBelow nb (.slice ad' n' cap') f W)) :
    Calls Tryz.prog 18 #[A, B] w (BoolBelow (decide ((na = nb ∧ e = f) ∧ xs = ys)) w) := by
  subst eA eB hA hB
  have hbl : Below w.heap.size w ((w.alloc (.cells #[.bool pa, ta, .int .i64 xa] 24)).alloc (.cells #[.bool pb, tb, .int .i64 xb] 24)) := ((Below.refl _ _).alloc (Nat.le_refl _) _).alloc (by simp) _
  have HB := Lib.hid hbl
  clear hbl
  have KA := Lib.hid KA
  have KB := Lib.hid KB
  go_enter Tryz.func18, Tryz.ntmps18
  go_upto_region 1 with fail
  go_cut [] (fun wx => CmpCut w wx na (.slice ad n cap) e nb (.slice ad' n' cap') f)
  case first =>
    go_region_with (first
      | (go_at_call_of 27 (Value.agg #[Value.bool pa, ta, Value.int IntKind.i64 xa]); refine (KA.out _ (by exact below_drew HB.out)).mono ?_; rintro r w1 ⟨rfl, hb1⟩; obtain ⟨hc1, hf1⟩ := bcell hb1; have hz1 : w.heap.size + 1 < w1.heap.size := (by have h := hb1.size; (try simp at h); omega); have hy1 : w.heap.size < w1.heap.size := (by omega))
      | (go_at_call_of 27 (Value.agg #[Value.bool pb, tb, Value.int IntKind.i64 xb]); refine (KB.out _ (by exact below_on (below_drew HB.out) hb1)).mono ?_; rintro r w2 ⟨rfl, hb2⟩; obtain ⟨hc2, hf2⟩ := bcell hb2; have hz2 : w.heap.size + 1 < w2.heap.size := (by have h := hb2.size; (try simp at h); omega); have hy2 : w.heap.size < w2.heap.size := (by omega)))
    all_goals
      have e0 : w2.cell? ⟨w.heap.size, 0, none⟩ = some (.bool pa) := by rw [hc2 _ _ hy1, hc1 _ _ (by simp <;> omega)]; simp [World.cell?_alloc_lt]
      have e1 : w2.cell? ⟨w.heap.size, 1, none⟩ = some ta := by rw [hc2 _ _ hy1, hc1 _ _ (by simp <;> omega)]; simp [World.cell?_alloc_lt]
      have e2 : w2.cell? ⟨w.heap.size, 2, none⟩ = some (.int .i64 xa) := by rw [hc2 _ _ hy1, hc1 _ _ (by simp <;> omega)]; simp [World.cell?_alloc_lt]
      have e3 : w2.cell? ⟨w.heap.size + 1, 0, none⟩ = some (.bool pb) := by rw [hc2 _ _ hz1, hc1 _ _ (by simp <;> omega)]; simp
      have e4 : w2.cell? ⟨w.heap.size + 1, 1, none⟩ = some tb := by rw [hc2 _ _ hz1, hc1 _ _ (by simp <;> omega)]; simp
      have e5 : w2.cell? ⟨w.heap.size + 1, 2, none⟩ = some (.int .i64 xb) := by rw [hc2 _ _ hz1, hc1 _ _ (by simp <;> omega)]; simp
      go_wp2_with fail
      go_meet
      exact ⟨((((((below_on (below_on (below_drew HB.out) hb1) hb2).setCell (by simp) _).setCell (by simp) _).setCell (by simp) _).setCell (by simp) _).setCell (by simp) _).setCell (by simp) _, by simpa using hz2,
        ⟨by simp [go_sem, e0, e1, e2, e3, e4, e5], by simp [go_sem, e0, e1, e2, e3, e4, e5], by simp [go_sem, e0, e1, e2, e3, e4, e5]⟩, ⟨by simp [go_sem, e0, e1, e2, e3, e4, e5], by simp [go_sem, e0, e1, e2, e3, e4, e5], by simp [go_sem, e0, e1, e2, e3, e4, e5]⟩⟩
  case rest =>
    obtain ⟨hbw, hzw, ⟨a0, a1, a2⟩, b0, b1, b2⟩ := hcut
    have KE := Lib.hid (slicesEqual_any ad n cap xs ad' n' cap' ys wc ha.len ha.cap hb.len hb.cap (by have := ha.n90; omega) (by have := hb.n90; omega) (ha.rd.below hbw) (hb.rd.below hbw))
    have hbw' := Lib.hid hbw; clear hbw
    by_cases h1 : na = nb
    · subst h1
      have ht : (na == na) = true := by simp
      by_cases h2 : e = f
      · subst h2
        have hte : (e == e) = true := by simp
        have HE : Hid (decide ((na = na ∧ e = e) ∧ xs = ys) = decide (xs = ys)) := by simp [Hid]
        go_wp2_with fail
        refine KE.out.mono ?_
        rintro r w' ⟨rfl, q, rfl⟩
        generalize decide (xs = ys) = b at *
        go_wp2
        go_ret
        exact BoolBelow.mk (by first | rfl | rw [HE.out]) (below_drewN' hbw'.out q)
      · have HE : Hid (decide ((na = na ∧ e = f) ∧ xs = ys) = false) := decide_eq_false (fun h => h2 h.1.2)
        have hte : (e == f) = false := by rw [beq_eq_false_iff_ne]; exact h2
        go_wp2
        go_ret
        exact BoolBelow.mk (by first | rfl | rw [HE.out]) hbw'.out
    · have HE : Hid (decide ((na = nb ∧ e = f) ∧ xs = ys) = false) := decide_eq_false (fun h => h1 h.1.1)
      have hte : (na == nb) = false := by rw [beq_eq_false_iff_ne]; exact h1
      go_wp2
      go_ret
      exact BoolBelow.mk (by first | rfl | rw [HE.out]) hbw'.out
end Go.Proofs.YtogapgjilbcbfaaGreatDoor
