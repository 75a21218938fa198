/- The walks of slices.Equal on texts, tree's alike, parts. -/
import Derived.Test.YtipibipaocpojaaDoorQk
namespace Go.Proofs.YtipibipaocpojaaDoor
open Go.RowKit Go.Shelf
set_option linter.unusedVariables false
set_option linter.unusedSimpArgs false

def EQ (l m : List ByteArray) (w : World) (k : Nat) (i : Value) (wr : World) : Prop :=
  ∃ j : Nat, j ≤ l.length ∧ l.length - j ≤ k ∧ i = .int .i64 (j : Int) ∧ (∀ q, q < j → l.getD q ByteArray.empty = m.getD q ByteArray.empty) ∧ Below w.heap.size w wr
theorem eq_all {l m : List ByteArray} (hl : l.length = m.length) (h : ∀ q, q < l.length → l.getD q ByteArray.empty = m.getD q ByteArray.empty) : l = m := by
  apply List.ext_getElem hl
  intro i h1 h2
  have := h i h1
  simpa [List.getD, h1, h2] using this

set_option maxHeartbeats 2000000 in
theorem equalS_any (ad : Option Addr) (n cap : Nat) (l : List ByteArray) (ad' : Option Addr) (n' cap' : Nat) (m : List ByteArray) (w : World) (hl : l.length = n) (hcap : n ≤ cap) (hm : n ≤ 1000000000000000) (hr : RdV w ad (sv l))
    (hl' : m.length = n') (hcap' : n' ≤ cap') (hr' : RdV w ad' (sv m)) :
    Calls Tryd.prog 40 #[.slice ad n cap, .slice ad' n' cap'] w (BoolBelow (decide (l = m)) w) := by
  by_cases hn : n = n'
  · have hnz : ((n : Int) != (n' : Int)) = false := by rw [hn]; simp
    have HL := Lib.hid hl; have HL' := Lib.hid hl'
    have HR := Lib.hid (fun W (h : Below w.heap.size w W) => hr.on h); have HR' := Lib.hid (fun W (h : Below w.heap.size w W) => hr'.on h)
    have HST := Lib.hid (show EQ l m w n (.int .i64 0) w from ⟨0, Nat.zero_le _, by rw [hl]; omega, rfl, fun q h => by omega, Below.refl _ _⟩)
    clear hl hl' hr hr'
    go_enter Tryd.func40, Tryd.ntmps40
    go_wp2
    go_loopg [13] n (fun k i wr => EQ l m w k i wr)
    case atStart => exact HST.out
    case round =>
      obtain ⟨j, hj, hk, rfl, hpre, hb⟩ := hrel
      rw [HL.out] at hj hk
      have HP := Lib.hid hpre
      have HB := Lib.hid hb
      clear hpre hb
      by_cases hlt : j < n
      · obtain ⟨k, rfl⟩ : ∃ k, gk = k + 1 := ⟨gk - 1, by omega⟩
        have hjz : (j : Int) < (n : Int) := by omega
        have hjz' : (j : Int) < (n' : Int) := by omega
        have hjl : j < l.length := by rw [HL.out]; exact hlt
        have hjl' : j < m.length := by rw [HL'.out]; omega
        obtain ⟨b, o, rfl, hbl, hc⟩ := HR.out wr HB.out j (by rw [sv_len]; exact hjl)
        obtain ⟨b', o', rfl, hbl', hc'⟩ := HR'.out wr HB.out j (by rw [sv_len]; exact hjl')
        rw [sv_get _ _ hjl] at hc
        rw [sv_get _ _ hjl'] at hc'
        by_cases he : l.getD j ByteArray.empty = m.getD j ByteArray.empty
        · have HN := Lib.hid (fun wn (h : Below w.heap.size w wn) => (⟨j + 1, by rw [HL.out]; omega, by rw [HL.out]; omega, rfl, fun q hq => by
              by_cases e : q = j
              · subst e; exact he
              · exact HP.out q (by omega), h⟩ : EQ l m w k (.int .i64 ((j : Int) + 1)) wn))
          have he2 : eqS (l.getD j ByteArray.empty) (m.getD j ByteArray.empty) = true := eqS_iff.2 he
          unfold eqS at he2
          generalize l.getD j ByteArray.empty = x at *
          generalize m.getD j ByteArray.empty = y at *
          subst he
          go_wp2
          go_region
          go_wp2
          go_roundg k
          case rel => exact HN.out _ HB.out.drew
          case measure => omega
        · have HF := Lib.hid (show decide (l = m) = false from decide_eq_false (fun h => he (by rw [h])))
          have he2 : eqS (l.getD j ByteArray.empty) (m.getD j ByteArray.empty) = false := eqS_no.2 he
          unfold eqS at he2
          generalize l.getD j ByteArray.empty = x at *
          generalize m.getD j ByteArray.empty = y at *
          clear he
          go_wp2
          go_region
          go_wp2
          go_ret
          exact BoolBelow.mk (by rw [HF.out]) HB.out.drew
      · have hjz : ¬ (j : Int) < (n : Int) := by omega
        have HF := Lib.hid (show decide (l = m) = true from decide_eq_true (eq_all (by rw [HL.out, HL'.out]; exact hn) (fun q hq => HP.out q (by rw [HL.out] at hq; omega))))
        go_wp2
        go_ret
        exact BoolBelow.mk (by rw [HF.out]) HB.out
  · have hnz : ((n : Int) != (n' : Int)) = true := by rw [bne_iff_ne]; omega
    have HF := Lib.hid (show decide (l = m) = false from decide_eq_false (fun h => hn (by rw [← hl, ← hl', h])))
    clear hl hl' hr hr'
    go_enter Tryd.func40, Tryd.ntmps40
    go_wp2
    go_ret
    exact BoolBelow.mk (by rw [HF.out]) (Below.refl _ _)

set_option maxHeartbeats 2000000 in
/-- A value's parts, if it is of a kind that has any. -/
theorem parts_any (c : Cel) (w : World) :
    Calls Tryd.prog 29 #[c.val] w (fun e w' => e = .returned (if c.k = 6 ∨ c.k = 7 then .slice c.va c.vn c.vc else .slice none 0 0) ∧ Below w.heap.size w w') := by
  obtain ⟨k, b, neg, ma, mn, mc, e, s, ka, kn, kc, va, vn, vc⟩ := c
  unfold Cel.val
  simp only
  have HB := Lib.hid ((Below.refl w.heap.size w).alloc (Nat.le_refl _) (.cells #[.int .i64 k, .bool b, .bool neg, .slice ma mn mc, .int .i64 e, .string s, .slice ka kn kc, .slice va vn vc] 28))
  by_cases h6 : k = 6
  · subst h6
    rw [if_pos (.inl rfl)]
    go_enter Tryd.func29, Tryd.ntmps29
    go_wp2
    go_ret
    exact ⟨rfl, HB.out⟩
  · by_cases h7 : k = 7
    · subst h7
      rw [if_pos (.inr rfl)]
      go_enter Tryd.func29, Tryd.ntmps29
      go_wp2
      go_ret
      exact ⟨rfl, HB.out⟩
    · rw [if_neg (by simp [h6, h7])]
      have b6 : (k == 6) = false := by rw [beq_eq_false_iff_ne]; exact h6
      have b7 : (k == 7) = false := by rw [beq_eq_false_iff_ne]; exact h7
      go_enter Tryd.func29, Tryd.ntmps29
      go_wp2
      go_ret
      exact ⟨rfl, HB.out⟩

set_option maxHeartbeats 2000000 in
theorem alike_ne (k k' : Int) (b neg : Bool) (ma : Option Addr) (mn mc : Nat) (e : Int) (s : ByteArray) (ka : Option Addr) (kn kc : Nat) (va : Option Addr) (vn vc : Nat) (b' neg' : Bool) (ma' : Option Addr) (mn' mc' : Nat) (e' : Int) (s' : ByteArray) (ka' : Option Addr) (kn' kc' : Nat) (va' : Option Addr) (vn' vc' : Nat) (w : World) (h : (k != k') = true) :
    Calls Tryd.prog 28 #[(⟨k, b, neg, ma, mn, mc, e, s, ka, kn, kc, va, vn, vc⟩ : Cel).val, (⟨k', b', neg', ma', mn', mc', e', s', ka', kn', kc', va', vn', vc'⟩ : Cel).val] w (BoolBelow false w) := by
  have HB := Lib.hid (two_below2 w ⟨k, b, neg, ma, mn, mc, e, s, ka, kn, kc, va, vn, vc⟩ ⟨k', b', neg', ma', mn', mc', e', s', ka', kn', kc', va', vn', vc'⟩)
  unfold Cel.val
  unfold two2 Cel.cells at HB
  go_enter Tryd.func28, Tryd.ntmps28
  go_wp2
  go_ret
  exact BoolBelow.mk rfl HB.out
set_option maxHeartbeats 2000000 in
theorem alike_2 (b neg : Bool) (ma : Option Addr) (mn mc : Nat) (e : Int) (s : ByteArray) (ka : Option Addr) (kn kc : Nat) (va : Option Addr) (vn vc : Nat) (b' neg' : Bool) (ma' : Option Addr) (mn' mc' : Nat) (e' : Int) (s' : ByteArray) (ka' : Option Addr) (kn' kc' : Nat) (va' : Option Addr) (vn' vc' : Nat) (w : World) :
    Calls Tryd.prog 28 #[(⟨2, b, neg, ma, mn, mc, e, s, ka, kn, kc, va, vn, vc⟩ : Cel).val, (⟨2, b', neg', ma', mn', mc', e', s', ka', kn', kc', va', vn', vc'⟩ : Cel).val] w (BoolBelow (b == b') w) := by
  have HB := Lib.hid (two_below2 w ⟨2, b, neg, ma, mn, mc, e, s, ka, kn, kc, va, vn, vc⟩ ⟨2, b', neg', ma', mn', mc', e', s', ka', kn', kc', va', vn', vc'⟩)
  unfold Cel.val
  unfold two2 Cel.cells at HB
  go_enter Tryd.func28, Tryd.ntmps28
  go_wp2
  go_ret
  exact BoolBelow.mk rfl HB.out
set_option maxHeartbeats 2000000 in
theorem alike_4 (b neg : Bool) (ma : Option Addr) (mn mc : Nat) (e : Int) (s : ByteArray) (ka : Option Addr) (kn kc : Nat) (va : Option Addr) (vn vc : Nat) (b' neg' : Bool) (ma' : Option Addr) (mn' mc' : Nat) (e' : Int) (s' : ByteArray) (ka' : Option Addr) (kn' kc' : Nat) (va' : Option Addr) (vn' vc' : Nat) (w : World) :
    Calls Tryd.prog 28 #[(⟨4, b, neg, ma, mn, mc, e, s, ka, kn, kc, va, vn, vc⟩ : Cel).val, (⟨4, b', neg', ma', mn', mc', e', s', ka', kn', kc', va', vn', vc'⟩ : Cel).val] w (BoolBelow (s.toList == s'.toList) w) := by
  have HB := Lib.hid (two_below2 w ⟨4, b, neg, ma, mn, mc, e, s, ka, kn, kc, va, vn, vc⟩ ⟨4, b', neg', ma', mn', mc', e', s', ka', kn', kc', va', vn', vc'⟩)
  unfold Cel.val
  unfold two2 Cel.cells at HB
  go_enter Tryd.func28, Tryd.ntmps28
  go_wp2
  go_ret
  exact BoolBelow.mk rfl HB.out
set_option maxHeartbeats 2000000 in
theorem alike_5 (b neg : Bool) (ma : Option Addr) (mn mc : Nat) (e : Int) (s : ByteArray) (ka : Option Addr) (kn kc : Nat) (va : Option Addr) (vn vc : Nat) (b' neg' : Bool) (ma' : Option Addr) (mn' mc' : Nat) (e' : Int) (s' : ByteArray) (ka' : Option Addr) (kn' kc' : Nat) (va' : Option Addr) (vn' vc' : Nat) (w : World) :
    Calls Tryd.prog 28 #[(⟨5, b, neg, ma, mn, mc, e, s, ka, kn, kc, va, vn, vc⟩ : Cel).val, (⟨5, b', neg', ma', mn', mc', e', s', ka', kn', kc', va', vn', vc'⟩ : Cel).val] w (BoolBelow (s.toList == s'.toList) w) := by
  have HB := Lib.hid (two_below2 w ⟨5, b, neg, ma, mn, mc, e, s, ka, kn, kc, va, vn, vc⟩ ⟨5, b', neg', ma', mn', mc', e', s', ka', kn', kc', va', vn', vc'⟩)
  unfold Cel.val
  unfold two2 Cel.cells at HB
  go_enter Tryd.func28, Tryd.ntmps28
  go_wp2
  go_ret
  exact BoolBelow.mk rfl HB.out
set_option maxHeartbeats 2000000 in
theorem alike_6 (b neg : Bool) (ma : Option Addr) (mn mc : Nat) (e : Int) (s : ByteArray) (ka : Option Addr) (kn kc : Nat) (va : Option Addr) (vn vc : Nat) (b' neg' : Bool) (ma' : Option Addr) (mn' mc' : Nat) (e' : Int) (s' : ByteArray) (ka' : Option Addr) (kn' kc' : Nat) (va' : Option Addr) (vn' vc' : Nat) (w : World) (r : Bool) (hr : ((vn : Int) == (vn' : Int)) = r) :
    Calls Tryd.prog 28 #[(⟨6, b, neg, ma, mn, mc, e, s, ka, kn, kc, va, vn, vc⟩ : Cel).val, (⟨6, b', neg', ma', mn', mc', e', s', ka', kn', kc', va', vn', vc'⟩ : Cel).val] w (BoolBelow r w) := by
  have HB := Lib.hid (two_below2 w ⟨6, b, neg, ma, mn, mc, e, s, ka, kn, kc, va, vn, vc⟩ ⟨6, b', neg', ma', mn', mc', e', s', ka', kn', kc', va', vn', vc'⟩)
  unfold Cel.val
  unfold two2 Cel.cells at HB
  go_enter Tryd.func28, Tryd.ntmps28
  go_wp2
  go_ret
  exact BoolBelow.mk rfl HB.out
set_option maxHeartbeats 2000000 in
theorem alike_other (k : Int) (b neg : Bool) (ma : Option Addr) (mn mc : Nat) (e : Int) (s : ByteArray) (ka : Option Addr) (kn kc : Nat) (va : Option Addr) (vn vc : Nat) (b' neg' : Bool) (ma' : Option Addr) (mn' mc' : Nat) (e' : Int) (s' : ByteArray) (ka' : Option Addr) (kn' kc' : Nat) (va' : Option Addr) (vn' vc' : Nat) (w : World) (h2 : (k == 2) = false) (h3 : (k == 3) = false) (h4 : (k == 4) = false) (h5 : (k == 5) = false) (h7 : (k == 7) = false) (h6 : (k == 6) = false) :
    Calls Tryd.prog 28 #[(⟨k, b, neg, ma, mn, mc, e, s, ka, kn, kc, va, vn, vc⟩ : Cel).val, (⟨k, b', neg', ma', mn', mc', e', s', ka', kn', kc', va', vn', vc'⟩ : Cel).val] w (BoolBelow true w) := by
  have HB := Lib.hid (two_below2 w ⟨k, b, neg, ma, mn, mc, e, s, ka, kn, kc, va, vn, vc⟩ ⟨k, b', neg', ma', mn', mc', e', s', ka', kn', kc', va', vn', vc'⟩)
  unfold Cel.val
  unfold two2 Cel.cells at HB
  have hkk : (k != k) = false := by simp
  go_enter Tryd.func28, Tryd.ntmps28
  go_wp2
  go_ret
  exact BoolBelow.mk rfl HB.out
set_option maxHeartbeats 2000000 in
theorem alike_3 (b neg : Bool) (ma : Option Addr) (mn mc : Nat) (e : Int) (s : ByteArray) (ka : Option Addr) (kn kc : Nat) (va : Option Addr) (vn vc : Nat) (b' neg' : Bool) (ma' : Option Addr) (mn' mc' : Nat) (e' : Int) (s' : ByteArray) (ka' : Option Addr) (kn' kc' : Nat) (va' : Option Addr) (vn' vc' : Nat) (w : World) (r : Bool) (K : ∀ W, Below w.heap.size w W → Calls Tryd.prog 39 #[.agg #[.bool neg, .slice ma mn mc, .int .i64 e], .agg #[.bool neg', .slice ma' mn' mc', .int .i64 e']] W (BoolBelow r W)) :
    Calls Tryd.prog 28 #[(⟨3, b, neg, ma, mn, mc, e, s, ka, kn, kc, va, vn, vc⟩ : Cel).val, (⟨3, b', neg', ma', mn', mc', e', s', ka', kn', kc', va', vn', vc'⟩ : Cel).val] w (BoolBelow r w) := by
  have HB := Lib.hid (two_below2 w ⟨3, b, neg, ma, mn, mc, e, s, ka, kn, kc, va, vn, vc⟩ ⟨3, b', neg', ma', mn', mc', e', s', ka', kn', kc', va', vn', vc'⟩)
  have KX := Lib.hid K; clear K
  unfold Cel.val
  unfold two2 Cel.cells at HB
  go_enter Tryd.func28, Tryd.ntmps28
  go_wp2_with fail
  refine (KX.out _ HB.out).mono ?_
  rintro r w9 ⟨rfl, h9⟩
  have H9 := Lib.hid (HB.out.trans (h9.mono HB.out.size)); clear h9
  go_wp2
  go_ret
  exact BoolBelow.mk rfl H9.out
set_option maxHeartbeats 2000000 in
theorem alike_7no (b neg : Bool) (ma : Option Addr) (mn mc : Nat) (e : Int) (s : ByteArray) (ka : Option Addr) (kn kc : Nat) (va : Option Addr) (vn vc : Nat) (b' neg' : Bool) (ma' : Option Addr) (mn' mc' : Nat) (e' : Int) (s' : ByteArray) (ka' : Option Addr) (kn' kc' : Nat) (va' : Option Addr) (vn' vc' : Nat) (w : World) (K : ∀ W, Below w.heap.size w W → Calls Tryd.prog 40 #[.slice ka kn kc, .slice ka' kn' kc'] W (BoolBelow false W)) :
    Calls Tryd.prog 28 #[(⟨7, b, neg, ma, mn, mc, e, s, ka, kn, kc, va, vn, vc⟩ : Cel).val, (⟨7, b', neg', ma', mn', mc', e', s', ka', kn', kc', va', vn', vc'⟩ : Cel).val] w (BoolBelow false w) := by
  have HB := Lib.hid (two_below2 w ⟨7, b, neg, ma, mn, mc, e, s, ka, kn, kc, va, vn, vc⟩ ⟨7, b', neg', ma', mn', mc', e', s', ka', kn', kc', va', vn', vc'⟩)
  have KX := Lib.hid K; clear K
  unfold Cel.val
  unfold two2 Cel.cells at HB
  go_enter Tryd.func28, Tryd.ntmps28
  go_wp2_with fail
  refine (KX.out _ HB.out).mono ?_
  rintro r w9 ⟨rfl, h9⟩
  have H9 := Lib.hid (HB.out.trans (h9.mono HB.out.size)); clear h9
  go_wp2
  go_ret
  exact BoolBelow.mk rfl H9.out
set_option maxHeartbeats 2000000 in
theorem alike_7yes (b neg : Bool) (ma : Option Addr) (mn mc : Nat) (e : Int) (s : ByteArray) (ka : Option Addr) (kn kc : Nat) (va : Option Addr) (vn vc : Nat) (b' neg' : Bool) (ma' : Option Addr) (mn' mc' : Nat) (e' : Int) (s' : ByteArray) (ka' : Option Addr) (kn' kc' : Nat) (va' : Option Addr) (vn' vc' : Nat) (w : World) (r : Bool) (hr : ((vn : Int) == (vn' : Int)) = r) (K : ∀ W, Below w.heap.size w W → Calls Tryd.prog 40 #[.slice ka kn kc, .slice ka' kn' kc'] W (BoolBelow true W)) :
    Calls Tryd.prog 28 #[(⟨7, b, neg, ma, mn, mc, e, s, ka, kn, kc, va, vn, vc⟩ : Cel).val, (⟨7, b', neg', ma', mn', mc', e', s', ka', kn', kc', va', vn', vc'⟩ : Cel).val] w (BoolBelow r w) := by
  have HB := Lib.hid (two_below2 w ⟨7, b, neg, ma, mn, mc, e, s, ka, kn, kc, va, vn, vc⟩ ⟨7, b', neg', ma', mn', mc', e', s', ka', kn', kc', va', vn', vc'⟩)
  have KX := Lib.hid K; clear K
  have HX := Lib.hid (fun W (h : Below (two2 w ⟨7, b, neg, ma, mn, mc, e, s, ka, kn, kc, va, vn, vc⟩ ⟨7, b', neg', ma', mn', mc', e', s', ka', kn', kc', va', vn', vc'⟩).heap.size (two2 w ⟨7, b, neg, ma, mn, mc, e, s, ka, kn, kc, va, vn, vc⟩ ⟨7, b', neg', ma', mn', mc', e', s', ka', kn', kc', va', vn', vc'⟩) W) => (⟨((two2_box w ⟨7, b, neg, ma, mn, mc, e, s, ka, kn, kc, va, vn, vc⟩ ⟨7, b', neg', ma', mn', mc', e', s', ka', kn', kc', va', vn', vc'⟩).1.on (h.block _ (by rw [two2_size]; omega))).cells, ((two2_box w ⟨7, b, neg, ma, mn, mc, e, s, ka, kn, kc, va, vn, vc⟩ ⟨7, b', neg', ma', mn', mc', e', s', ka', kn', kc', va', vn', vc'⟩).2.on (h.block _ (by rw [two2_size]; omega))).cells⟩ : _ ∧ _))
  unfold Cel.val
  unfold two2 Cel.cells at HB
  unfold two2 Cel.cells at HX
  simp only at HX
  go_enter Tryd.func28, Tryd.ntmps28
  go_wp2_with fail
  refine (KX.out _ HB.out).mono ?_
  rintro r w9 ⟨rfl, h9⟩
  obtain ⟨⟨x0, x1, x2, x3, x4, x5, x6, x7⟩, y0, y1, y2, y3, y4, y5, y6, y7⟩ := HX.out _ h9
  have H9 := Lib.hid (HB.out.trans (h9.mono HB.out.size)); clear h9
  go_wp2
  go_ret
  exact BoolBelow.mk rfl H9.out

/-- The same, but for the parts. -/
theorem alike_any (a b : MT) (w : World) (ha : Rd1 w a) (hb : Rd1 w b) (na : a.c.k = 3 → chkB a.c.neg a.m a.c.e = true) (nb : b.c.k = 3 → chkB b.c.neg b.m b.c.e = true) :
    Calls Tryd.prog 28 #[a.c.val, b.c.val] w (BoolBelow (alikeB a b) w) := by
  have hvn : ∀ r, decide (a.c.vn = b.c.vn) = r → ((a.c.vn : Int) == (b.c.vn : Int)) = r := by
    intro r h; rw [← h]
    by_cases e : a.c.vn = b.c.vn
    · rw [e]; simp
    · rw [decide_eq_false e, beq_eq_false_iff_ne]; omega
  have hN : a.c.k = 3 → b.c.k = 3 → ∀ W, Below w.heap.size w W → Calls Tryd.prog 39 #[.agg #[.bool a.c.neg, .slice a.c.ma a.c.mn a.c.mc, .int .i64 a.c.e], .agg #[.bool b.c.neg, .slice b.c.ma b.c.mn b.c.mc, .int .i64 b.c.e]] W (BoolBelow (decide ((a.c.neg = b.c.neg ∧ a.c.e = b.c.e) ∧ a.m = b.m)) W) := by
    intro h1 h2 W hW
    have ea := na h1; have eb := nb h2
    have la := (chkB_bounds ea).1; have lb := (chkB_bounds eb).1
    have ca := ha.mn; have cb := hb.mn
    have oa : NumOk W a.c.neg a.c.ma a.c.mn a.c.mc a.m a.c.e := ⟨ha.mn, ha.mc, ha.mo, ha.mr.below hW, ea⟩
    have ob : NumOk W b.c.neg b.c.ma b.c.mn b.c.mc b.m b.c.e := ⟨hb.mn, hb.mc, hb.mo, hb.mr.below hW, eb⟩
    exact numSame_core _ _ _ _ rfl rfl _ _ _ _ _ _ _ _ _ _ _ _ W oa ob _ _ _ _ _ _ rfl rfl (fun W hW => oa.same W hW) (fun W hW => ob.same W hW)
  have hE : ∀ W, Below w.heap.size w W → Calls Tryd.prog 40 #[.slice a.c.ka a.c.kn a.c.kc, .slice b.c.ka b.c.kn b.c.kc] W (BoolBelow (decide (a.k = b.k)) W) := fun W hW =>
    equalS_any _ _ _ a.k _ _ _ b.k W ha.kn ha.kc ha.lm.2.1 (ha.kr.on hW) hb.kn hb.kc (hb.kr.on hW)
  unfold alikeB
  generalize a.c = c at *
  generalize b.c = d at *
  obtain ⟨k, b0, neg, ma, mn, mc, e, s, ka, kn, kc, va, vn, vc⟩ := c
  obtain ⟨k', b', neg', ma', mn', mc', e', s', ka', kn', kc', va', vn', vc'⟩ := d
  simp only at hvn hN hE ⊢
  by_cases hk : k = k'
  · subst hk
    rw [if_pos rfl]
    by_cases h2 : k = 2
    · subst h2; rw [if_pos rfl]; exact alike_2 _ _ _ _ _ _ _ _ _ _ _ _ _ _ _ _ _ _ _ _ _ _ _ _ _ _ _
    · rw [if_neg h2]
      by_cases h3 : k = 3
      · subst h3; rw [if_pos rfl]; exact alike_3 _ _ _ _ _ _ _ _ _ _ _ _ _ _ _ _ _ _ _ _ _ _ _ _ _ _ _ _ (hN rfl rfl)
      · rw [if_neg h3]
        by_cases h4 : k = 4
        · subst h4; rw [if_pos (.inl rfl)]; exact alike_4 _ _ _ _ _ _ _ _ _ _ _ _ _ _ _ _ _ _ _ _ _ _ _ _ _ _ _
        · by_cases h5 : k = 5
          · subst h5; rw [if_pos (.inr rfl)]; exact alike_5 _ _ _ _ _ _ _ _ _ _ _ _ _ _ _ _ _ _ _ _ _ _ _ _ _ _ _
          · rw [if_neg (by simp [h4, h5])]
            by_cases h7 : k = 7
            · subst h7; rw [if_pos rfl]
              cases hE0 : decide (a.k = b.k)
              · rw [hE0] at hE
                exact alike_7no _ _ _ _ _ _ _ _ _ _ _ _ _ _ _ _ _ _ _ _ _ _ _ _ _ _ _ hE
              · rw [hE0] at hE
                exact alike_7yes _ _ _ _ _ _ _ _ _ _ _ _ _ _ _ _ _ _ _ _ _ _ _ _ _ _ _ _ (hvn _ rfl) hE
            · rw [if_neg h7]
              by_cases h6 : k = 6
              · subst h6; rw [if_pos rfl]; exact alike_6 _ _ _ _ _ _ _ _ _ _ _ _ _ _ _ _ _ _ _ _ _ _ _ _ _ _ _ _ (hvn _ rfl)
              · rw [if_neg h6]
                have f : ∀ i, ¬ k = i → (k == i) = false := fun i h => by rw [beq_eq_false_iff_ne]; exact h
                exact alike_other _ _ _ _ _ _ _ _ _ _ _ _ _ _ _ _ _ _ _ _ _ _ _ _ _ _ _ _ (f _ h2) (f _ h3) (f _ h4) (f _ h5) (f _ h7) (f _ h6)
  · rw [if_neg hk]
    exact alike_ne _ _ _ _ _ _ _ _ _ _ _ _ _ _ _ _ _ _ _ _ _ _ _ _ _ _ _ _ _ (by rw [bne_iff_ne]; exact hk)
end Go.Proofs.YtipibipaocpojaaDoor
