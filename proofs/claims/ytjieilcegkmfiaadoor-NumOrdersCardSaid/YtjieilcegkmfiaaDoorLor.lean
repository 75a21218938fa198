/- The walk of the law NumOrders. -/
import Derived.Test.YtjieilcegkmfiaaDoorC8
import Derived.Test.YtjieilcegkmfiaaDoorRs
namespace Go.Proofs.YtjieilcegkmfiaaDoor
open Go.RowKit Go.Sort
set_option linter.unusedVariables false

theorem bx_new1 (w : World) (o : Obj) (neg : Bool) (v : Value) (e : Int) : Bx ((w.alloc o).alloc (.cells #[.bool neg, v, .int .i64 e] 40)) (w.heap.size + 1) neg v e := by
  have h := bx_new (w.alloc o) neg v e
  rwa [show (w.alloc o).heap.size = w.heap.size + 1 by simp] at h
theorem bx_new2 (w : World) (o o2 : Obj) (neg : Bool) (v : Value) (e : Int) : Bx (((w.alloc o).alloc o2).alloc (.cells #[.bool neg, v, .int .i64 e] 40)) (w.heap.size + 2) neg v e := by
  have h := bx_new ((w.alloc o).alloc o2) neg v e
  rwa [show ((w.alloc o).alloc o2).heap.size = w.heap.size + 2 by simp] at h
theorem bx_one (w : World) (na nb nc : Bool) (va vb vc : Value) (e f g : Int) : Bx (((w.alloc (.cells #[.bool na, va, .int .i64 e] 40)).alloc (.cells #[.bool nb, vb, .int .i64 f] 40)).alloc (.cells #[.bool nc, vc, .int .i64 g] 40)) w.heap.size na va e :=
  ((bx_new w na va e).step (below_box _ _ _)).step (below_box _ _ _)
theorem bx_two (w : World) (o : Obj) (nb nc : Bool) (vb vc : Value) (f g : Int) : Bx (((w.alloc o).alloc (.cells #[.bool nb, vb, .int .i64 f] 40)).alloc (.cells #[.bool nc, vc, .int .i64 g] 40)) (w.heap.size + 1) nb vb f :=
  (bx_new1 w o nb vb f).step (below_box _ _ _)
theorem below_boxes (w : World) (a b c : Array Value) (t t' t'' : TypeId) : Below w.heap.size w (((w.alloc (.cells a t)).alloc (.cells b t')).alloc (.cells c t'')) :=
  below_on (below_on (below_box w a t) (below_box _ b t')) (below_box _ c t'')
/-- Same, by the order. -/
theorem same_cmp {na nb : Bool} {xs ys : List Nat} {e f : Int} (ho : Okl xs) (ho' : Okl ys) (ha : chkB na xs e = true) (hb : chkB nb ys f = true) :
    decide ((na = nb ∧ e = f) ∧ xs = ys) = decide (cmpZ (valZ na (val xs) e) (valZ nb (val ys) f) = 0) := by
  have hz : ∀ a b : Int, cmpZ a b = 0 ↔ a = b := by
    intro a b; unfold cmpZ
    repeat' split
    all_goals omega
  refine decide_eq_decide.2 ?_
  rw [hz]
  constructor
  · rintro ⟨⟨rfl, rfl⟩, rfl⟩; rfl
  · intro h
    have hp : ∀ {neg : Bool} {N : Nat} {e : Int}, N ≠ 0 → valZ neg N e ≠ 0 := by
      intro neg N e h0 h1
      have := sizeN_pos (e := e) h0
      unfold valZ at h1
      split at h1 <;> omega
    have hv0 : ∀ {neg : Bool} {e : Int}, valZ neg (val []) e = 0 := by
      intro neg e
      unfold valZ; rw [show val [] = 0 from rfl, sizeN_zero]; split <;> rfl
    have hl1 := chkB_limbs ho ha
    have hl2 := chkB_limbs ho' hb
    by_cases h1 : xs = []
    · subst h1
      by_cases h2 : ys = []
      · subst h2
        obtain ⟨rfl, rfl⟩ := chkB_zero ha
        obtain ⟨rfl, rfl⟩ := chkB_zero hb
        exact ⟨⟨rfl, rfl⟩, rfl⟩
      · rw [hv0] at h
        exact absurd h.symm (hp (by have := (chkB_some h2 hb).2.2.2.2; omega))
    · by_cases h2 : ys = []
      · subst h2
        rw [hv0] at h
        exact absurd h (hp (by have := (chkB_some h1 ha).2.2.2.2; omega))
      · obtain ⟨_, _, a3, _, a5⟩ := chkB_some h1 ha
        obtain ⟨_, _, b3, _, b5⟩ := chkB_some h2 hb
        obtain ⟨c1, c2, c3⟩ := valZ_inj a5 b5 a3 b3 h
        exact ⟨⟨c1, c3⟩, by rw [← hl1, ← hl2, c2]⟩
theorem valZ_nil (neg : Bool) (e : Int) : valZ neg 0 e = 0 := by unfold valZ; rw [sizeN_zero]; split <;> rfl
/-- Ten times more is more. -/
theorem more_cmp {na : Bool} {N : Nat} {e : Int} (h0 : N ≠ 0) (he : -1200 ≤ e) : cmpZ (valZ na N (e + 1)) (valZ na N e) = if na = true then -1 else 1 := by
  have h1 : sizeN N (e + 1) = sizeN N e * 10 := by
    unfold sizeN
    rw [show (e + 1 + 1200).toNat = (e + 1200).toNat + 1 by omega, Nat.mul_assoc]; rfl
  have h2 := sizeN_pos (e := e) h0
  cases na
  · rw [if_neg (by simp)]
    exact cmpZ_gt (by unfold valZ; rw [if_neg (by simp), if_neg (by simp)]; omega)
  · rw [if_pos rfl]
    exact cmpZ_lt (by unfold valZ; rw [if_pos rfl, if_pos rfl]; omega)
theorem cmpZ_three (a b c : Int) : (cmpZ a b = -1 ∨ cmpZ a b = 0 ∨ cmpZ a b = 1) ∧ (cmpZ b c = -1 ∨ cmpZ b c = 0 ∨ cmpZ b c = 1) ∧ (cmpZ a b ≤ 0 → cmpZ b c ≤ 0 → cmpZ a c ≤ 0) ∧ (0 ≤ cmpZ a b → 0 ≤ cmpZ b c → 0 ≤ cmpZ a c) := by
  unfold cmpZ
  repeat' split
  all_goals omega

set_option maxHeartbeats 16000000 in
set_option maxRecDepth 100000 in
theorem numOrders_walk (na : Bool) (ad : Option Addr) (n cap : Nat) (xs : List Nat) (e : Int) (nb : Bool) (ad' : Option Addr) (n' cap' : Nat) (ys : List Nat) (f : Int) (nc : Bool) (ad2 : Option Addr) (n2 cap2 : Nat) (zs : List Nat) (g : Int) (w : World)
    (hn : xs.length = n) (hcap : n ≤ cap) (ho : Okl xs) (hr : Rd w ad xs) (he : -9223372036854775808 ≤ e ∧ e ≤ 9223372036854775807)
    (hn' : ys.length = n') (hcap' : n' ≤ cap') (ho' : Okl ys) (hr' : Rd w ad' ys) (hf : -9223372036854775808 ≤ f ∧ f ≤ 9223372036854775807)
    (hn2 : zs.length = n2) (hcap2 : n2 ≤ cap2) (ho2 : Okl zs) (hr2 : Rd w ad2 zs) (hg : -9223372036854775808 ≤ g ∧ g ≤ 9223372036854775807) (ht : TB w) :
    Calls Tryd.prog 6 #[.agg #[.bool na, .slice ad n cap, .int .i64 e], .agg #[.bool nb, .slice ad' n' cap', .int .i64 f], .agg #[.bool nc, .slice ad2 n2 cap2, .int .i64 g]] w (BoolBelow true w) := by
  have HT := Lib.hid (fun W (h : Below w.heap.size w W) => awake2_any W (ht.below h))
  have HBL := Lib.hid (below_boxes w #[.bool na, .slice ad n cap, .int .i64 e] #[.bool nb, .slice ad' n' cap', .int .i64 f] #[.bool nc, .slice ad2 n2 cap2, .int .i64 g] 40 40 40)
  have BA0 := Lib.hid (bx_one w na nb nc (.slice ad n cap) (.slice ad' n' cap') (.slice ad2 n2 cap2) e f g)
  have BB0 := Lib.hid (bx_two w (.cells #[.bool na, .slice ad n cap, .int .i64 e] 40) nb nc (.slice ad' n' cap') (.slice ad2 n2 cap2) f g)
  have BC0 := Lib.hid (bx_new2 w (.cells #[.bool na, .slice ad n cap, .int .i64 e] 40) (.cells #[.bool nb, .slice ad' n' cap', .int .i64 f] 40) nc (.slice ad2 n2 cap2) g)
  have KF := few2_any na nb ad ad' n cap n' cap' e f (((w.alloc (.cells #[.bool na, .slice ad n cap, .int .i64 e] 40)).alloc (.cells #[.bool nb, .slice ad' n' cap', .int .i64 f] 40)).alloc (.cells #[.bool nc, .slice ad2 n2 cap2, .int .i64 g] 40))
  have KCA := Lib.hid (fun W (h : Below w.heap.size w W) (h30 : n ≤ 30) => refCheck_any na ad n cap xs e W hn hcap (by omega) ho (hr.below h))
  have KCB := Lib.hid (fun W (h : Below w.heap.size w W) (h30 : n' ≤ 30) => refCheck_any nb ad' n' cap' ys f W hn' hcap' (by omega) ho' (hr'.below h))
  have KCC := Lib.hid (fun W (h : Below w.heap.size w W) (h30 : n2 ≤ 30) => refCheck_any nc ad2 n2 cap2 zs g W hn2 hcap2 (by omega) ho2 (hr2.below h))
  have OKA := Lib.hid (fun (h : chkB na xs e = true) => (NumOk.mk hn hcap ho hr h : NumOk w na ad n cap xs e))
  have OKB := Lib.hid (fun (h : chkB nb ys f = true) => (NumOk.mk hn' hcap' ho' hr' h : NumOk w nb ad' n' cap' ys f))
  have OKC := Lib.hid (fun (h : chkB nc zs g = true) => (NumOk.mk hn2 hcap2 ho2 hr2 h : NumOk w nc ad2 n2 cap2 zs g))
  have CTX := Lib.hid (fun W (h : Below w.heap.size w W) (h90 : n ≤ 90) => (Ctx.begin W).push (ent_arg (N := val xs) hn hcap ho (hr.below h) h90 rfl))
  have SAM := Lib.hid (fun ha hb => same_cmp (na := na) (nb := nb) (xs := xs) (ys := ys) (e := e) (f := f) ho ho' ha hb)
  have HLI := Lib.hid (fun (h : chkB na xs e = true) => chkB_limbs ho h)
  have HN := Lib.hid hn
  clear ht hn hcap ho hr hn' hcap' ho' hr' hn2 hcap2 ho2 hr2

  by_cases h30 : n ≤ 30 ∧ n' ≤ 30
  case neg =>
    rw [decide_eq_false h30] at KF
    have KFh := Lib.hid KF; clear KF; have KF := KFh; clear KFh h30
    go_enter Tryd.func6, Tryd.ntmps6
    go_wp2_with fail
    refine KF.out.mono ?_
    rintro r w1 ⟨rfl, hb1⟩
    have q1 := Lib.hid (below_on HBL.out hb1)
    clear hb1 KF BA0 BB0 BC0
    have KW := Lib.hid (HT.out w1 q1.out)
    go_wp2_with fail
    refine KW.out.mono ?_
    rintro r wl ⟨rfl, hbl⟩
    have hf := Lib.hid (below_on q1.out hbl); clear hbl
    go_wp2
    go_ret
    exact BoolBelow.mk rfl hf.out
  case pos =>
    rw [decide_eq_true h30] at KF
    have KFh := Lib.hid KF; clear KF; have KF := KFh; clear KFh
    obtain ⟨h30a, h30b⟩ := h30
    by_cases h30c : n2 ≤ 30
    case neg =>
      have h2 : (30 : Int) < (n2 : Int) := by omega
      go_enter Tryd.func6, Tryd.ntmps6
      go_wp2_with fail
      refine KF.out.mono ?_
      rintro r w1 ⟨rfl, hb1⟩
      have q1 := Lib.hid (below_on HBL.out hb1)
      have BA1 := Lib.hid (BA0.out.step hb1)
      have BB1 := Lib.hid (BB0.out.step hb1)
      have BC1 := Lib.hid (BC0.out.step hb1)
      clear hb1 KF BA0 BB0 BC0
      obtain ⟨y1, y2, y3, y4⟩ := BC1.out
      have KW := Lib.hid (HT.out w1 q1.out)
      go_wp2_with fail
      refine KW.out.mono ?_
      rintro r wl ⟨rfl, hbl⟩
      have hf := Lib.hid (below_on q1.out hbl); clear hbl
      go_wp2
      go_ret
      exact BoolBelow.mk rfl hf.out
    case pos =>
      have h2 : ¬ (30 : Int) < (n2 : Int) := by omega
      cases hcA : chkB na xs e
      case false =>
        go_enter Tryd.func6, Tryd.ntmps6
        go_wp2_with fail
        refine KF.out.mono ?_
        rintro r w1 ⟨rfl, hb1⟩
        have q1 := Lib.hid (below_on HBL.out hb1)
        have BA1 := Lib.hid (BA0.out.step hb1)
        have BB1 := Lib.hid (BB0.out.step hb1)
        have BC1 := Lib.hid (BC0.out.step hb1)
        clear hb1 KF BA0 BB0 BC0
        obtain ⟨y1, y2, y3, y4⟩ := BC1.out
        have KA := KCA.out w1 q1.out h30a
        rw [hcA] at KA
        have KAh := Lib.hid KA; clear KA
        obtain ⟨x1, x2, x3, x4⟩ := BA1.out
        go_wp2_with fail
        refine KAh.out.mono ?_
        rintro r w2 ⟨rfl, hb2⟩
        have q2 := Lib.hid (below_on q1.out hb2)
        have BA2 := Lib.hid (BA1.out.step hb2)
        have BB2 := Lib.hid (BB1.out.step hb2)
        have BC2 := Lib.hid (BC1.out.step hb2)
        clear hb2 KAh BA1 BB1 BC1 q1 x1 x2 x3 x4
        have KW := Lib.hid (HT.out w2 q2.out)
        go_wp2_with fail
        refine KW.out.mono ?_
        rintro r wl ⟨rfl, hbl⟩
        have hf := Lib.hid (below_on q2.out hbl); clear hbl
        go_wp2
        go_ret
        exact BoolBelow.mk rfl hf.out
      case true =>
        have ha := OKA.out hcA
        cases hcB : chkB nb ys f
        case false =>
          go_enter Tryd.func6, Tryd.ntmps6
          go_wp2_with fail
          refine KF.out.mono ?_
          rintro r w1 ⟨rfl, hb1⟩
          have q1 := Lib.hid (below_on HBL.out hb1)
          have BA1 := Lib.hid (BA0.out.step hb1)
          have BB1 := Lib.hid (BB0.out.step hb1)
          have BC1 := Lib.hid (BC0.out.step hb1)
          clear hb1 KF BA0 BB0 BC0
          obtain ⟨y1, y2, y3, y4⟩ := BC1.out
          have KA := KCA.out w1 q1.out h30a
          rw [hcA] at KA
          have KAh := Lib.hid KA; clear KA
          obtain ⟨x1, x2, x3, x4⟩ := BA1.out
          go_wp2_with fail
          refine KAh.out.mono ?_
          rintro r w2 ⟨rfl, hb2⟩
          have q2 := Lib.hid (below_on q1.out hb2)
          have BA2 := Lib.hid (BA1.out.step hb2)
          have BB2 := Lib.hid (BB1.out.step hb2)
          have BC2 := Lib.hid (BC1.out.step hb2)
          clear hb2 KAh BA1 BB1 BC1 q1 x1 x2 x3 x4
          have KB := KCB.out w2 q2.out h30b
          rw [hcB] at KB
          have KBh := Lib.hid KB; clear KB
          obtain ⟨x1, x2, x3, x4⟩ := BB2.out
          go_wp2_with fail
          refine KBh.out.mono ?_
          rintro r w3 ⟨rfl, hb3⟩
          have q3 := Lib.hid (below_on q2.out hb3)
          have BA3 := Lib.hid (BA2.out.step hb3)
          have BB3 := Lib.hid (BB2.out.step hb3)
          have BC3 := Lib.hid (BC2.out.step hb3)
          clear hb3 KBh BA2 BB2 BC2 q2 x1 x2 x3 x4
          have KW := Lib.hid (HT.out w3 q3.out)
          go_wp2_with fail
          refine KW.out.mono ?_
          rintro r wl ⟨rfl, hbl⟩
          have hf := Lib.hid (below_on q3.out hbl); clear hbl
          go_wp2
          go_ret
          exact BoolBelow.mk rfl hf.out
        case true =>
          have hb := OKB.out hcB
          cases hcC : chkB nc zs g
          case false =>
            go_enter Tryd.func6, Tryd.ntmps6
            go_wp2_with fail
            refine KF.out.mono ?_
            rintro r w1 ⟨rfl, hb1⟩
            have q1 := Lib.hid (below_on HBL.out hb1)
            have BA1 := Lib.hid (BA0.out.step hb1)
            have BB1 := Lib.hid (BB0.out.step hb1)
            have BC1 := Lib.hid (BC0.out.step hb1)
            clear hb1 KF BA0 BB0 BC0
            obtain ⟨y1, y2, y3, y4⟩ := BC1.out
            have KA := KCA.out w1 q1.out h30a
            rw [hcA] at KA
            have KAh := Lib.hid KA; clear KA
            obtain ⟨x1, x2, x3, x4⟩ := BA1.out
            go_wp2_with fail
            refine KAh.out.mono ?_
            rintro r w2 ⟨rfl, hb2⟩
            have q2 := Lib.hid (below_on q1.out hb2)
            have BA2 := Lib.hid (BA1.out.step hb2)
            have BB2 := Lib.hid (BB1.out.step hb2)
            have BC2 := Lib.hid (BC1.out.step hb2)
            clear hb2 KAh BA1 BB1 BC1 q1 x1 x2 x3 x4
            have KB := KCB.out w2 q2.out h30b
            rw [hcB] at KB
            have KBh := Lib.hid KB; clear KB
            obtain ⟨x1, x2, x3, x4⟩ := BB2.out
            go_wp2_with fail
            refine KBh.out.mono ?_
            rintro r w3 ⟨rfl, hb3⟩
            have q3 := Lib.hid (below_on q2.out hb3)
            have BA3 := Lib.hid (BA2.out.step hb3)
            have BB3 := Lib.hid (BB2.out.step hb3)
            have BC3 := Lib.hid (BC2.out.step hb3)
            clear hb3 KBh BA2 BB2 BC2 q2 x1 x2 x3 x4
            have KC := KCC.out w3 q3.out h30c
            rw [hcC] at KC
            have KCh := Lib.hid KC; clear KC
            obtain ⟨x1, x2, x3, x4⟩ := BC3.out
            go_wp2_with fail
            refine KCh.out.mono ?_
            rintro r w4 ⟨rfl, hb4⟩
            have q4 := Lib.hid (below_on q3.out hb4)
            have BA4 := Lib.hid (BA3.out.step hb4)
            have BB4 := Lib.hid (BB3.out.step hb4)
            have BC4 := Lib.hid (BC3.out.step hb4)
            clear hb4 KCh BA3 BB3 BC3 q3 x1 x2 x3 x4
            have KW := Lib.hid (HT.out w4 q4.out)
            go_wp2_with fail
            refine KW.out.mono ?_
            rintro r wl ⟨rfl, hbl⟩
            have hf := Lib.hid (below_on q4.out hbl); clear hbl
            go_wp2
            go_ret
            exact BoolBelow.mk rfl hf.out
          case true =>
            have hc := OKC.out hcC
            have hsame := SAM.out hcA hcB
            have h3 := cmpZ_three (valZ na (val xs) e) (valZ nb (val ys) f) (valZ nc (val zs) g)
            have KAB := Lib.hid (fun W (h : Below w.heap.size w W) => numCmp_ok (ha.below h) (hb.below h))
            have KBC := Lib.hid (fun W (h : Below w.heap.size w W) => numCmp_ok (hb.below h) (hc.below h))
            have KAC := Lib.hid (fun W (h : Below w.heap.size w W) => numCmp_ok (ha.below h) (hc.below h))
            have KBA := fun W (h : Below w.heap.size w W) => numCmp_ok (hb.below h) (ha.below h)
            rw [cmpZ_swap (valZ na (val xs) e) (valZ nb (val ys) f)] at KBA
            have KBAh := Lib.hid KBA; clear KBA
            have KSA := fun W (h : Below w.heap.size w W) => numSame_ok (ha.below h) (hb.below h)
            rw [hsame] at KSA
            have KSAh := Lib.hid KSA; clear KSA hsame
            have KAA := fun W (h : Below w.heap.size w W) => numCmp_ok (ha.below h) (ha.below h)
            rw [cmpZ_eq] at KAA
            have KAAh := Lib.hid KAA; clear KAA
            have HA := Lib.hid ha; clear ha hb hc
            generalize cmpZ (valZ na (val xs) e) (valZ nb (val ys) f) = x at *
            generalize cmpZ (valZ nb (val ys) f) (valZ nc (val zs) g) = y at *
            generalize cmpZ (valZ na (val xs) e) (valZ nc (val zs) g) = z at *
            obtain ⟨hx3, hy3, hz1, hz2⟩ := h3
            have HX3 := Lib.hid hx3; have HY3 := Lib.hid hy3; have HZ1 := Lib.hid hz1; have HZ2 := Lib.hid hz2
            clear hx3 hy3 hz1 hz2
            go_enter Tryd.func6, Tryd.ntmps6
            go_wp2_with fail
            refine KF.out.mono ?_
            rintro r w1 ⟨rfl, hb1⟩
            have q1 := Lib.hid (below_on HBL.out hb1)
            have BA1 := Lib.hid (BA0.out.step hb1)
            have BB1 := Lib.hid (BB0.out.step hb1)
            have BC1 := Lib.hid (BC0.out.step hb1)
            clear hb1 KF BA0 BB0 BC0
            obtain ⟨y1, y2, y3, y4⟩ := BC1.out
            have KA := KCA.out w1 q1.out h30a
            rw [hcA] at KA
            have KAh := Lib.hid KA; clear KA
            obtain ⟨x1, x2, x3, x4⟩ := BA1.out
            go_wp2_with fail
            refine KAh.out.mono ?_
            rintro r w2 ⟨rfl, hb2⟩
            have q2 := Lib.hid (below_on q1.out hb2)
            have BA2 := Lib.hid (BA1.out.step hb2)
            have BB2 := Lib.hid (BB1.out.step hb2)
            have BC2 := Lib.hid (BC1.out.step hb2)
            clear hb2 KAh BA1 BB1 BC1 q1 x1 x2 x3 x4
            have KB := KCB.out w2 q2.out h30b
            rw [hcB] at KB
            have KBh := Lib.hid KB; clear KB
            obtain ⟨x1, x2, x3, x4⟩ := BB2.out
            go_wp2_with fail
            refine KBh.out.mono ?_
            rintro r w3 ⟨rfl, hb3⟩
            have q3 := Lib.hid (below_on q2.out hb3)
            have BA3 := Lib.hid (BA2.out.step hb3)
            have BB3 := Lib.hid (BB2.out.step hb3)
            have BC3 := Lib.hid (BC2.out.step hb3)
            clear hb3 KBh BA2 BB2 BC2 q2 x1 x2 x3 x4
            have KC := KCC.out w3 q3.out h30c
            rw [hcC] at KC
            have KCh := Lib.hid KC; clear KC
            obtain ⟨x1, x2, x3, x4⟩ := BC3.out
            go_wp2_with fail
            refine KCh.out.mono ?_
            rintro r w4 ⟨rfl, hb4⟩
            have q4 := Lib.hid (below_on q3.out hb4)
            have BA4 := Lib.hid (BA3.out.step hb4)
            have BB4 := Lib.hid (BB3.out.step hb4)
            have BC4 := Lib.hid (BC3.out.step hb4)
            clear hb4 KCh BA3 BB3 BC3 q3 x1 x2 x3 x4
            clear KCA KCB KCC OKA OKB OKC y1 y2 y3 y4
            have cAB : ∀ d os, Calls Tryd.prog 44 #[.agg #[.bool na, .slice ad n cap, .int .i64 e], .agg #[.bool nb, .slice ad' n' cap', .int .i64 f]] (grow (redrawn w4 d) os) fun r w'' => r = .returned (.int .i64 x) ∧ ∃ p : Regrown, w'' = grow (redrawn w4 p.d) p.os := fun d os => Calls.regrown_of (KAB.out _ (below_on q4.out (below_regrown w4 d os)))
            have cBC : ∀ d os, Calls Tryd.prog 44 #[.agg #[.bool nb, .slice ad' n' cap', .int .i64 f], .agg #[.bool nc, .slice ad2 n2 cap2, .int .i64 g]] (grow (redrawn w4 d) os) fun r w'' => r = .returned (.int .i64 y) ∧ ∃ p : Regrown, w'' = grow (redrawn w4 p.d) p.os := fun d os => Calls.regrown_of (KBC.out _ (below_on q4.out (below_regrown w4 d os)))
            have cAC : ∀ d os, Calls Tryd.prog 44 #[.agg #[.bool na, .slice ad n cap, .int .i64 e], .agg #[.bool nc, .slice ad2 n2 cap2, .int .i64 g]] (grow (redrawn w4 d) os) fun r w'' => r = .returned (.int .i64 z) ∧ ∃ p : Regrown, w'' = grow (redrawn w4 p.d) p.os := fun d os => Calls.regrown_of (KAC.out _ (below_on q4.out (below_regrown w4 d os)))
            obtain ⟨_, a0, a1, a2⟩ := BA4.out
            have rA0 := cell_regrown a0; clear a0
            have rA1 := cell_regrown a1; clear a1
            have rA2 := cell_regrown a2; clear a2
            obtain ⟨_, b0, b1, b2⟩ := BB4.out
            have rB0 := cell_regrown b0; clear b0
            have rB1 := cell_regrown b1; clear b1
            have rB2 := cell_regrown b2; clear b2
            obtain ⟨_, c0, c1, c2⟩ := BC4.out
            have rC0 := cell_regrown c0; clear c0
            have rC1 := cell_regrown c1; clear c1
            have rC2 := cell_regrown c2; clear c2
            go_wp2_with fail
            refine wp_region_quiet_below (by kernel_rfl) (by kernel_rfl) ?_
            repeat (quiet_step (first | with_reducible exact cAB _ _ | with_reducible exact cBC _ _ | with_reducible exact cAC _ _))
            refine wpQuiet_nil ?_
            intro _ hw'
            obtain ⟨⟨dq, osq⟩, hw''⟩ := hw'
            subst hw''
            clear rA0 rA1 rA2 rB0 rB1 rB2 rC0 rC1 rC2 cAB cBC cAC KAB KBC KAC
            have hbW := below_regrown w4 dq osq
            have q5 := Lib.hid (below_on q4.out hbW)
            have BA5 := Lib.hid (BA4.out.step hbW)
            have BB5 := Lib.hid (BB4.out.step hbW)
            clear hbW q4 BA4 BB4 BC4
            go_upto_region 4 with fail
            go_cut [85] (fun t85 wx => t85 = .bool false ∧ Below (grow (redrawn w4 dq) osq).heap.size (grow (redrawn w4 dq) osq) wx)
            case first =>
              generalize grow (redrawn w4 dq) osq = w5 at *
              have KB5 := KBAh.out w5 q5.out
              rcases HX3.out with hx | hx | hx
              · subst hx
                rcases HY3.out with hy | hy | hy
                · subst hy
                  have hzn : ¬ (0 < z) := by have := HZ1.out (by decide) (by decide); omega
                  rw [show -(-1 : Int) = 1 from rfl] at KB5
                  have KB5h := Lib.hid KB5; clear KB5
                  obtain ⟨_, a0, a1, a2⟩ := BA5.out
                  obtain ⟨_, b0, b1, b2⟩ := BB5.out
                  go_wp2_with fail
                  refine KB5h.out.mono ?_
                  rintro r w6 ⟨rfl, hb6⟩
                  clear a0 a1 a2 b0 b1 b2 KB5h
                  have q6 := Lib.hid (below_on q5.out hb6)
                  obtain ⟨_, a0, a1, a2⟩ := BA5.out.step hb6
                  obtain ⟨_, b0, b1, b2⟩ := BB5.out.step hb6
                  have h6 := Lib.hid hb6; clear hb6
                  have KS := KSAh.out w6 q6.out
                  rw [show decide ((-1 : Int) = 0) = false from rfl] at KS
                  have KSh := Lib.hid KS; clear KS
                  go_wp2_with fail
                  refine KSh.out.mono ?_
                  rintro r w7 ⟨rfl, hb7⟩
                  have h7 := Lib.hid (below_on h6.out hb7); clear hb7
                  go_wp2_with fail
                  go_meet
                  exact ⟨by first | rfl | exact congrArg Value.bool (decide_eq_false (by omega)), h7.out⟩
                · subst hy
                  have hzn : ¬ (0 < z) := by have := HZ1.out (by decide) (by decide); omega
                  rw [show -(-1 : Int) = 1 from rfl] at KB5
                  have KB5h := Lib.hid KB5; clear KB5
                  obtain ⟨_, a0, a1, a2⟩ := BA5.out
                  obtain ⟨_, b0, b1, b2⟩ := BB5.out
                  go_wp2_with fail
                  refine KB5h.out.mono ?_
                  rintro r w6 ⟨rfl, hb6⟩
                  clear a0 a1 a2 b0 b1 b2 KB5h
                  have q6 := Lib.hid (below_on q5.out hb6)
                  obtain ⟨_, a0, a1, a2⟩ := BA5.out.step hb6
                  obtain ⟨_, b0, b1, b2⟩ := BB5.out.step hb6
                  have h6 := Lib.hid hb6; clear hb6
                  have KS := KSAh.out w6 q6.out
                  rw [show decide ((-1 : Int) = 0) = false from rfl] at KS
                  have KSh := Lib.hid KS; clear KS
                  go_wp2_with fail
                  refine KSh.out.mono ?_
                  rintro r w7 ⟨rfl, hb7⟩
                  have h7 := Lib.hid (below_on h6.out hb7); clear hb7
                  go_wp2_with fail
                  go_meet
                  exact ⟨by first | rfl | exact congrArg Value.bool (decide_eq_false (by omega)), h7.out⟩
                · subst hy
                  rw [show -(-1 : Int) = 1 from rfl] at KB5
                  have KB5h := Lib.hid KB5; clear KB5
                  obtain ⟨_, a0, a1, a2⟩ := BA5.out
                  obtain ⟨_, b0, b1, b2⟩ := BB5.out
                  go_wp2_with fail
                  refine KB5h.out.mono ?_
                  rintro r w6 ⟨rfl, hb6⟩
                  clear a0 a1 a2 b0 b1 b2 KB5h
                  have q6 := Lib.hid (below_on q5.out hb6)
                  obtain ⟨_, a0, a1, a2⟩ := BA5.out.step hb6
                  obtain ⟨_, b0, b1, b2⟩ := BB5.out.step hb6
                  have h6 := Lib.hid hb6; clear hb6
                  have KS := KSAh.out w6 q6.out
                  rw [show decide ((-1 : Int) = 0) = false from rfl] at KS
                  have KSh := Lib.hid KS; clear KS
                  go_wp2_with fail
                  refine KSh.out.mono ?_
                  rintro r w7 ⟨rfl, hb7⟩
                  have h7 := Lib.hid (below_on h6.out hb7); clear hb7
                  go_wp2_with fail
                  go_meet
                  exact ⟨by first | rfl | exact congrArg Value.bool (decide_eq_false (by omega)), h7.out⟩
              · subst hx
                rcases HY3.out with hy | hy | hy
                · subst hy
                  have hzn : ¬ (0 < z) := by have := HZ1.out (by decide) (by decide); omega
                  rw [show -(0 : Int) = 0 from rfl] at KB5
                  have KB5h := Lib.hid KB5; clear KB5
                  obtain ⟨_, a0, a1, a2⟩ := BA5.out
                  obtain ⟨_, b0, b1, b2⟩ := BB5.out
                  go_wp2_with fail
                  refine KB5h.out.mono ?_
                  rintro r w6 ⟨rfl, hb6⟩
                  clear a0 a1 a2 b0 b1 b2 KB5h
                  have q6 := Lib.hid (below_on q5.out hb6)
                  obtain ⟨_, a0, a1, a2⟩ := BA5.out.step hb6
                  obtain ⟨_, b0, b1, b2⟩ := BB5.out.step hb6
                  have h6 := Lib.hid hb6; clear hb6
                  have KS := KSAh.out w6 q6.out
                  first | rw [show decide ((0 : Int) = 0) = true from rfl] at KS | rw [show decide True = true from rfl] at KS
                  have KSh := Lib.hid KS; clear KS
                  go_wp2_with fail
                  refine KSh.out.mono ?_
                  rintro r w7 ⟨rfl, hb7⟩
                  have h7 := Lib.hid (below_on h6.out hb7); clear hb7
                  go_wp2_with fail
                  go_meet
                  exact ⟨by first | rfl | exact congrArg Value.bool (decide_eq_false (by omega)), h7.out⟩
                · subst hy
                  have hz0 : z = 0 := by have h1 := HZ1.out (by decide) (by decide); have h2 := HZ2.out (by decide) (by decide); omega
                  clear HZ1 HZ2
                  subst hz0
                  rw [show -(0 : Int) = 0 from rfl] at KB5
                  have KB5h := Lib.hid KB5; clear KB5
                  obtain ⟨_, a0, a1, a2⟩ := BA5.out
                  obtain ⟨_, b0, b1, b2⟩ := BB5.out
                  go_wp2_with fail
                  refine KB5h.out.mono ?_
                  rintro r w6 ⟨rfl, hb6⟩
                  clear a0 a1 a2 b0 b1 b2 KB5h
                  have q6 := Lib.hid (below_on q5.out hb6)
                  obtain ⟨_, a0, a1, a2⟩ := BA5.out.step hb6
                  obtain ⟨_, b0, b1, b2⟩ := BB5.out.step hb6
                  have h6 := Lib.hid hb6; clear hb6
                  have KS := KSAh.out w6 q6.out
                  first | rw [show decide ((0 : Int) = 0) = true from rfl] at KS | rw [show decide True = true from rfl] at KS
                  have KSh := Lib.hid KS; clear KS
                  go_wp2_with fail
                  refine KSh.out.mono ?_
                  rintro r w7 ⟨rfl, hb7⟩
                  have h7 := Lib.hid (below_on h6.out hb7); clear hb7
                  go_wp2_with fail
                  go_meet
                  exact ⟨by first | rfl | exact congrArg Value.bool (decide_eq_false (by omega)), h7.out⟩
                · subst hy
                  have hzp : ¬ (z < 0) := by have := HZ2.out (by decide) (by decide); omega
                  rw [show -(0 : Int) = 0 from rfl] at KB5
                  have KB5h := Lib.hid KB5; clear KB5
                  obtain ⟨_, a0, a1, a2⟩ := BA5.out
                  obtain ⟨_, b0, b1, b2⟩ := BB5.out
                  go_wp2_with fail
                  refine KB5h.out.mono ?_
                  rintro r w6 ⟨rfl, hb6⟩
                  clear a0 a1 a2 b0 b1 b2 KB5h
                  have q6 := Lib.hid (below_on q5.out hb6)
                  obtain ⟨_, a0, a1, a2⟩ := BA5.out.step hb6
                  obtain ⟨_, b0, b1, b2⟩ := BB5.out.step hb6
                  have h6 := Lib.hid hb6; clear hb6
                  have KS := KSAh.out w6 q6.out
                  first | rw [show decide ((0 : Int) = 0) = true from rfl] at KS | rw [show decide True = true from rfl] at KS
                  have KSh := Lib.hid KS; clear KS
                  go_wp2_with fail
                  refine KSh.out.mono ?_
                  rintro r w7 ⟨rfl, hb7⟩
                  have h7 := Lib.hid (below_on h6.out hb7); clear hb7
                  go_wp2_with fail
                  go_meet
                  exact ⟨by first | rfl | exact congrArg Value.bool (decide_eq_false (by omega)), h7.out⟩
              · subst hx
                rcases HY3.out with hy | hy | hy
                · subst hy
                  rw [show -(1 : Int) = -1 from rfl] at KB5
                  have KB5h := Lib.hid KB5; clear KB5
                  obtain ⟨_, a0, a1, a2⟩ := BA5.out
                  obtain ⟨_, b0, b1, b2⟩ := BB5.out
                  go_wp2_with fail
                  refine KB5h.out.mono ?_
                  rintro r w6 ⟨rfl, hb6⟩
                  clear a0 a1 a2 b0 b1 b2 KB5h
                  have q6 := Lib.hid (below_on q5.out hb6)
                  obtain ⟨_, a0, a1, a2⟩ := BA5.out.step hb6
                  obtain ⟨_, b0, b1, b2⟩ := BB5.out.step hb6
                  have h6 := Lib.hid hb6; clear hb6
                  have KS := KSAh.out w6 q6.out
                  rw [show decide ((1 : Int) = 0) = false from rfl] at KS
                  have KSh := Lib.hid KS; clear KS
                  go_wp2_with fail
                  refine KSh.out.mono ?_
                  rintro r w7 ⟨rfl, hb7⟩
                  have h7 := Lib.hid (below_on h6.out hb7); clear hb7
                  go_wp2_with fail
                  go_meet
                  exact ⟨by first | rfl | exact congrArg Value.bool (decide_eq_false (by omega)), h7.out⟩
                · subst hy
                  have hzp : ¬ (z < 0) := by have := HZ2.out (by decide) (by decide); omega
                  rw [show -(1 : Int) = -1 from rfl] at KB5
                  have KB5h := Lib.hid KB5; clear KB5
                  obtain ⟨_, a0, a1, a2⟩ := BA5.out
                  obtain ⟨_, b0, b1, b2⟩ := BB5.out
                  go_wp2_with fail
                  refine KB5h.out.mono ?_
                  rintro r w6 ⟨rfl, hb6⟩
                  clear a0 a1 a2 b0 b1 b2 KB5h
                  have q6 := Lib.hid (below_on q5.out hb6)
                  obtain ⟨_, a0, a1, a2⟩ := BA5.out.step hb6
                  obtain ⟨_, b0, b1, b2⟩ := BB5.out.step hb6
                  have h6 := Lib.hid hb6; clear hb6
                  have KS := KSAh.out w6 q6.out
                  rw [show decide ((1 : Int) = 0) = false from rfl] at KS
                  have KSh := Lib.hid KS; clear KS
                  go_wp2_with fail
                  refine KSh.out.mono ?_
                  rintro r w7 ⟨rfl, hb7⟩
                  have h7 := Lib.hid (below_on h6.out hb7); clear hb7
                  go_wp2_with fail
                  go_meet
                  exact ⟨by first | rfl | exact congrArg Value.bool (decide_eq_false (by omega)), h7.out⟩
                · subst hy
                  have hzp : ¬ (z < 0) := by have := HZ2.out (by decide) (by decide); omega
                  rw [show -(1 : Int) = -1 from rfl] at KB5
                  have KB5h := Lib.hid KB5; clear KB5
                  obtain ⟨_, a0, a1, a2⟩ := BA5.out
                  obtain ⟨_, b0, b1, b2⟩ := BB5.out
                  go_wp2_with fail
                  refine KB5h.out.mono ?_
                  rintro r w6 ⟨rfl, hb6⟩
                  clear a0 a1 a2 b0 b1 b2 KB5h
                  have q6 := Lib.hid (below_on q5.out hb6)
                  obtain ⟨_, a0, a1, a2⟩ := BA5.out.step hb6
                  obtain ⟨_, b0, b1, b2⟩ := BB5.out.step hb6
                  have h6 := Lib.hid hb6; clear hb6
                  have KS := KSAh.out w6 q6.out
                  rw [show decide ((1 : Int) = 0) = false from rfl] at KS
                  have KSh := Lib.hid KS; clear KS
                  go_wp2_with fail
                  refine KSh.out.mono ?_
                  rintro r w7 ⟨rfl, hb7⟩
                  have h7 := Lib.hid (below_on h6.out hb7); clear hb7
                  go_wp2_with fail
                  go_meet
                  exact ⟨by first | rfl | exact congrArg Value.bool (decide_eq_false (by omega)), h7.out⟩
            case rest =>
              obtain ⟨rfl, hb6⟩ := hcut
              have q6 := Lib.hid (below_on q5.out hb6)
              have BA6 := Lib.hid (BA5.out.step hb6)
              clear hb6 q5 BA5 BB5 KBAh KSAh HX3 HY3 HZ1 HZ2
              have hlo := HA.out.lo.1; have hhi := HA.out.lo.2
              obtain ⟨x1, x2, x3, x4⟩ := BA6.out
              by_cases h0 : n = 0
              · have hxs : xs = [] := List.eq_nil_of_length_eq_zero (HN.out.trans h0)
                subst hxs h0
                have hz := chkB_zero hcA
                obtain ⟨rfl, rfl⟩ := hz
                have KM := Lib.hid (make_zero (CTX.out wc q6.out (by decide)) 0 rfl (by decide) false 1)
                go_wp2_with fail
                with_reducible refine KM.out.mono ?_
                rintro r w7 ⟨v1, rfl, hm1⟩
                obtain ⟨ad1, cap1, hv1, _⟩ := hm1.get 0 rfl
                rw [show (limbs 0).length = 0 by rw [limbs_zero]; rfl] at hv1
                subst hv1
                have h7 := hm1.step (below_box w7 #[.bool false, .slice ad1 0 cap1, .int .i64 0] 40)
                have q7 := Lib.hid (below_on q6.out h7.below)
                have BA7 := Lib.hid (BA6.out.step h7.below)
                have BM7 := bx_new w7 false (.slice ad1 0 cap1) (0)
                have okM := h7.num 0 (neg := false) (e := 0) rfl (by rw [limbs_zero]; rfl)
                have K0 := numCmp_ok okM (HA.out.below q7.out)
                rw [val_limbs, valZ_nil, show val [] = 0 from rfl, valZ_nil, cmpZ_eq] at K0
                have KC := Lib.hid K0
                clear okM K0 hm1 h7 KM HLI hcA hcB hcC HN CTX SAM
                clear x1 x2 x3 x4
                obtain ⟨y1, y2, y3, y4⟩ := BM7
                have B7 := BA7.out
                obtain ⟨x1, x2, x3, x4⟩ := B7
                go_wp2_with fail
                refine KC.out.mono ?_
                rintro r w8 ⟨rfl, hb8⟩
                clear x1 x2 x3 x4 y1 y2 y3 y4
                have q8 := Lib.hid (below_on q7.out hb8)
                obtain ⟨x1, x2, x3, x4⟩ := BA7.out.step hb8
                clear hb8
                have KA8 := Lib.hid (KAAh.out w8 q8.out)
                go_wp2_with fail
                refine KA8.out.mono ?_
                rintro r w9 ⟨rfl, hb9⟩
                have q9 := Lib.hid (below_on q8.out hb9)
                clear hb9 x1 x2 x3 x4
                have KW := Lib.hid (HT.out w9 q9.out)
                go_wp2_with fail
                refine KW.out.mono ?_
                rintro r wl ⟨rfl, hbl⟩
                have hf := Lib.hid (below_on q9.out hbl); clear hbl
                go_wp2
                go_ret
                exact BoolBelow.mk rfl hf.out
              · have hxs : xs ≠ [] := fun h => h0 (by rw [← HN.out, h]; rfl)
                have hcs := chkB_some hxs hcA
                have hm10 := Lib.hid hcs.2.2.2.2
                have hne := Lib.hid (show val xs ≠ 0 by have := hcs.2.2.2.2; omega)
                have hli := Lib.hid (HLI.out hcA)
                have hln := Lib.hid (show (limbs (val xs)).length = n by rw [hli.out]; exact HN.out)
                clear hxs hcs
                have hn0 : ¬ (n : Int) = 0 := by omega
                by_cases h1 : e = 1200
                · subst h1
                  have KM := Lib.hid (make_no (CTX.out wc q6.out (by omega)) 0 rfl (by decide) na 1201 (val xs) 0 (Nat.mul_one _).symm hm10.out (fun h => by have := h.2.2; omega) (by decide))
                  cases na
                  ·
                    go_wp2_with fail
                    with_reducible refine KM.out.mono ?_
                    rintro r w7 ⟨v1, rfl, hm1⟩
                    obtain ⟨ad1, cap1, hv1, _⟩ := hm1.get 0 rfl
                    rw [show (limbs 0).length = 0 by rw [limbs_zero]; rfl] at hv1
                    subst hv1
                    have h7 := hm1.step (below_box w7 #[.bool false, .slice ad1 0 cap1, .int .i64 0] 40)
                    have q7 := Lib.hid (below_on q6.out h7.below)
                    have BA7 := Lib.hid (BA6.out.step h7.below)
                    have BM7 := bx_new w7 false (.slice ad1 0 cap1) (0)
                    clear hm1 h7 KM HLI hcA hcB hcC HN CTX SAM
                    clear x1 x2 x3 x4
                    have B7 := BA7.out
                    obtain ⟨x1, x2, x3, x4⟩ := B7
                    have q8 := q7
                    have KA8 := Lib.hid (KAAh.out _ q8.out)
                    go_wp2_with fail
                    refine KA8.out.mono ?_
                    rintro r w9 ⟨rfl, hb9⟩
                    have q9 := Lib.hid (below_on q8.out hb9)
                    clear hb9 x1 x2 x3 x4
                    have KW := Lib.hid (HT.out w9 q9.out)
                    go_wp2_with fail
                    refine KW.out.mono ?_
                    rintro r wl ⟨rfl, hbl⟩
                    have hf := Lib.hid (below_on q9.out hbl); clear hbl
                    go_wp2
                    go_ret
                    exact BoolBelow.mk rfl hf.out
                  ·
                    go_wp2_with fail
                    with_reducible refine KM.out.mono ?_
                    rintro r w7 ⟨v1, rfl, hm1⟩
                    obtain ⟨ad1, cap1, hv1, _⟩ := hm1.get 0 rfl
                    rw [show (limbs 0).length = 0 by rw [limbs_zero]; rfl] at hv1
                    subst hv1
                    have h7 := hm1.step (below_box w7 #[.bool false, .slice ad1 0 cap1, .int .i64 0] 40)
                    have q7 := Lib.hid (below_on q6.out h7.below)
                    have BA7 := Lib.hid (BA6.out.step h7.below)
                    have BM7 := bx_new w7 false (.slice ad1 0 cap1) (0)
                    clear hm1 h7 KM HLI hcA hcB hcC HN CTX SAM
                    clear x1 x2 x3 x4
                    have B7 := BA7.out
                    obtain ⟨x1, x2, x3, x4⟩ := B7
                    have q8 := q7
                    have KA8 := Lib.hid (KAAh.out _ q8.out)
                    go_wp2_with fail
                    refine KA8.out.mono ?_
                    rintro r w9 ⟨rfl, hb9⟩
                    have q9 := Lib.hid (below_on q8.out hb9)
                    clear hb9 x1 x2 x3 x4
                    have KW := Lib.hid (HT.out w9 q9.out)
                    go_wp2_with fail
                    refine KW.out.mono ?_
                    rintro r wl ⟨rfl, hbl⟩
                    have hf := Lib.hid (below_on q9.out hbl); clear hbl
                    go_wp2
                    go_ret
                    exact BoolBelow.mk rfl hf.out
                · have KM := Lib.hid (make_yes2 (CTX.out wc q6.out (by omega)) 0 rfl (by decide) na (e + 1) (val xs) 0 (Nat.mul_one _).symm hm10.out (by rw [hln.out]; omega) (e + 1) (by omega) (by omega) (by omega))
                  have HCM := Lib.hid (chkB_mk (neg := na) (e := e + 1) hm10.out (by rw [hln.out]; omega) (by omega) (by omega))
                  cases na
                  ·
                    go_wp2_with fail
                    with_reducible refine KM.out.mono ?_
                    rintro r w7 ⟨v1, rfl, hm1⟩
                    obtain ⟨ad1, cap1, hv1, _⟩ := hm1.get 0 rfl
                    rw [hln.out] at hv1
                    subst hv1
                    have h7 := hm1.step (below_box w7 #[.bool false, .slice ad1 n cap1, .int .i64 (e + 1)] 40)
                    have q7 := Lib.hid (below_on q6.out h7.below)
                    have BA7 := Lib.hid (BA6.out.step h7.below)
                    have BM7 := bx_new w7 false (.slice ad1 n cap1) ((e + 1))
                    have okM := h7.num 0 (neg := false) (e := e + 1) rfl HCM.out
                    have K0 := numCmp_ok okM (HA.out.below q7.out)
                    rw [val_limbs, more_cmp hne.out hlo, if_neg (by simp)] at K0
                    have KC := Lib.hid K0
                    clear okM K0 hm1 h7 KM HLI hcA hcB hcC HN CTX SAM
                    clear x1 x2 x3 x4
                    obtain ⟨y1, y2, y3, y4⟩ := BM7
                    have B7 := BA7.out
                    obtain ⟨x1, x2, x3, x4⟩ := B7
                    go_wp2_with fail
                    refine KC.out.mono ?_
                    rintro r w8 ⟨rfl, hb8⟩
                    clear x1 x2 x3 x4 y1 y2 y3 y4
                    have q8 := Lib.hid (below_on q7.out hb8)
                    obtain ⟨x1, x2, x3, x4⟩ := BA7.out.step hb8
                    clear hb8
                    have KA8 := Lib.hid (KAAh.out w8 q8.out)
                    go_wp2_with fail
                    refine KA8.out.mono ?_
                    rintro r w9 ⟨rfl, hb9⟩
                    have q9 := Lib.hid (below_on q8.out hb9)
                    clear hb9 x1 x2 x3 x4
                    have KW := Lib.hid (HT.out w9 q9.out)
                    go_wp2_with fail
                    refine KW.out.mono ?_
                    rintro r wl ⟨rfl, hbl⟩
                    have hf := Lib.hid (below_on q9.out hbl); clear hbl
                    go_wp2
                    go_ret
                    exact BoolBelow.mk rfl hf.out
                  ·
                    go_wp2_with fail
                    with_reducible refine KM.out.mono ?_
                    rintro r w7 ⟨v1, rfl, hm1⟩
                    obtain ⟨ad1, cap1, hv1, _⟩ := hm1.get 0 rfl
                    rw [hln.out] at hv1
                    subst hv1
                    have h7 := hm1.step (below_box w7 #[.bool true, .slice ad1 n cap1, .int .i64 (e + 1)] 40)
                    have q7 := Lib.hid (below_on q6.out h7.below)
                    have BA7 := Lib.hid (BA6.out.step h7.below)
                    have BM7 := bx_new w7 true (.slice ad1 n cap1) ((e + 1))
                    have okM := h7.num 0 (neg := true) (e := e + 1) rfl HCM.out
                    have K0 := numCmp_ok okM (HA.out.below q7.out)
                    rw [val_limbs, more_cmp hne.out hlo, if_pos rfl] at K0
                    have KC := Lib.hid K0
                    clear okM K0 hm1 h7 KM HLI hcA hcB hcC HN CTX SAM
                    clear x1 x2 x3 x4
                    obtain ⟨y1, y2, y3, y4⟩ := BM7
                    have B7 := BA7.out
                    obtain ⟨x1, x2, x3, x4⟩ := B7
                    go_wp2_with fail
                    refine KC.out.mono ?_
                    rintro r w8 ⟨rfl, hb8⟩
                    clear x1 x2 x3 x4 y1 y2 y3 y4
                    have q8 := Lib.hid (below_on q7.out hb8)
                    obtain ⟨x1, x2, x3, x4⟩ := BA7.out.step hb8
                    clear hb8
                    have KA8 := Lib.hid (KAAh.out w8 q8.out)
                    go_wp2_with fail
                    refine KA8.out.mono ?_
                    rintro r w9 ⟨rfl, hb9⟩
                    have q9 := Lib.hid (below_on q8.out hb9)
                    clear hb9 x1 x2 x3 x4
                    have KW := Lib.hid (HT.out w9 q9.out)
                    go_wp2_with fail
                    refine KW.out.mono ?_
                    rintro r wl ⟨rfl, hbl⟩
                    have hf := Lib.hid (below_on q9.out hbl); clear hbl
                    go_wp2
                    go_ret
                    exact BoolBelow.mk rfl hf.out
end Go.Proofs.YtjieilcegkmfiaaDoor
