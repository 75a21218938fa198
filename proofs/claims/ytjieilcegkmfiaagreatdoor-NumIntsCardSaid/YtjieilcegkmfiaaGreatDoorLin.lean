/- The walk of the law NumInts. -/
import Derived.Test.YtjieilcegkmfiaaGreatDoorNk2
namespace Go.Proofs.YtjieilcegkmfiaaGreatDoor
open Go.RowKit Go.Sort
set_option linter.unusedVariables false
set_option linter.unusedSimpArgs false

def INRel (xs : List Nat) (w : World) (u i : Value) (wr : World) : Prop :=
  ∃ j : Nat, j ≤ xs.length ∧ i = .int .i64 ((j : Int) - 1) ∧ u = .int .u64 ((val (xs.drop j) : Nat) : Int) ∧ ∃ q, wr = w.drewN q
theorem bx_snd (w : World) (o : Obj) (neg : Bool) (v : Value) (e : Int) : Bx ((w.alloc o).alloc (.cells #[.bool neg, v, .int .i64 e] 24)) (w.heap.size + 1) neg v e := by
  have h := bx_new (w.alloc o) neg v e
  rwa [show (w.alloc o).heap.size = w.heap.size + 1 by simp] at h
theorem two_step {xs : List Nat} {j x : Nat} (hj : j + 1 ≤ xs.length) (hx : xs.getD j 0 = x) (hl : xs.length ≤ 2) (ho : Okl xs) : val (xs.drop j) = x + 4294967296 * val (xs.drop (j + 1)) ∧ val (xs.drop j) < 18446744073709551616 ∧ x < 4294967296 ∧ val (xs.drop (j + 1)) < 4294967296 := by
  have h1 := val_drop_succ xs j (by omega)
  rw [hx, B32_eq] at h1
  have hod : Okl (xs.drop j) := fun y hy => ho y (List.mem_of_mem_drop hy)
  have hod2 : Okl (xs.drop (j + 1)) := fun y hy => ho y (List.mem_of_mem_drop hy)
  have h2 := val_lt hod
  have h3 := val_lt hod2
  have h4 : B32 ^ (xs.drop j).length ≤ B32 ^ 2 := Nat.pow_le_pow_right B32_pos (by rw [List.length_drop]; omega)
  have h5 : B32 ^ (xs.drop (j + 1)).length ≤ B32 ^ 1 := Nat.pow_le_pow_right B32_pos (by rw [List.length_drop]; omega)
  have e2 : B32 ^ 2 = 18446744073709551616 := by decide
  have e1 : B32 ^ 1 = 4294967296 := by decide
  have hxb := ho.getD j
  rw [hx, B32_eq] at hxb
  rw [e2] at h4; rw [e1] at h5
  exact ⟨by omega, by omega, hxb, by omega⟩

set_option maxHeartbeats 16000000 in
set_option maxRecDepth 100000 in
theorem numInts_walk (v u : Int) (w : World) (hv : -9223372036854775808 ≤ v ∧ v ≤ 9223372036854775807) (hu : -9223372036854775808 ≤ u ∧ u ≤ 9223372036854775807) (ht : TB w) :
    Calls Tryz.prog 4 #[.int .i64 v, .int .i64 u] w (BoolBelow true w) := by
  have HW := Lib.hid (fun W (h : Below w.heap.size w W) => awake2_any W (ht.below h))
  have h0 := Ctx.begin w
  have KA := of_all h0 v hv
  have KB := Lib.hid (fun W l (h : Ctx w W l) => of_all h u hu)
  have wa := whole_of v hv
  have wb := Lib.hid (whole_of u hu)
  have HCM := Lib.hid (@cmp_scale v u (tenN 1200) (tenN_pos _))
  clear h0 ht
  by_cases hs : v < 0
  · obtain ⟨k, rfl⟩ : ∃ k : Nat, v = -(k : Int) := ⟨v.natAbs, by omega⟩
    have hkk : (-(k : Int)).natAbs = k := by omega
    have hd : decide ((-(k : Int)) < 0) = true := decide_eq_true hs
    rw [hd, hkk] at KA
    rw [hkk] at wa
    have weq := wa.eq; have wchk := wa.chk; have wval := wa.val; have wlen := wa.len; have wlen2 := wa.len2; have wle := wa.le; have wbits := wa.bits
    rw [hkk] at weq wlen2 wbits
    rw [hd] at wchk wval
    have KAh := Lib.hid KA; have WEQ := Lib.hid weq; have WCHK := Lib.hid wchk; have WVAL := Lib.hid wval; have WBITS := Lib.hid wbits
    clear KA wa weq wchk wval wbits hd hkk
    go_enter Tryz.func4, Tryz.ntmps4
    go_wp2_with fail
    refine KAh.out.mono ?_
    rintro r w1 ⟨v1, rfl, hm1⟩
    obtain ⟨ad1, cap1, hv1, _⟩ := hm1.get 0 rfl
    generalize hM : trimM k = M at *
    generalize hT : trimK k = T at *
    have HM1 := Lib.hid hm1; clear hm1
    have KB1 := Lib.hid (KB.out w1 _ HM1.out)
    subst hv1
    go_wp2_with fail
    refine KB1.out.mono ?_
    rintro r w2 ⟨v2, rfl, hm2⟩
    obtain ⟨ad2, cap2, hv2, _⟩ := hm2.get 0 rfl
    subst hv2
    generalize hN : trimM u.natAbs = N at *
    generalize hS : trimK u.natAbs = S at *
    generalize hDU : decide (u < 0) = du at *
    have h2 := Lib.hid (hm2.step (below_on (below_box w2 #[.bool true, .slice ad1 (limbs M).length cap1, .int .i64 (T : Int)] 24) (below_box _ #[.bool du, .slice ad2 (limbs N).length cap2, .int .i64 (S : Int)] 24)))
    have BA2 := Lib.hid ((bx_new w2 true (.slice ad1 (limbs M).length cap1) (T : Int)).step (below_box _ #[.bool du, .slice ad2 (limbs N).length cap2, .int .i64 (S : Int)] 24))
    have BB2 := Lib.hid (bx_snd w2 (.cells #[.bool true, .slice ad1 (limbs M).length cap1, .int .i64 (T : Int)] 24) du (.slice ad2 (limbs N).length cap2) (S : Int))
    have wbc := wb.out.chk; have wbv := wb.out.val
    rw [hDU] at wbc wbv
    have WBC := Lib.hid wbc; have WBV := Lib.hid wbv
    clear hM hT hN hS hDU KB KB1 KAh HM1 hm2 wbc wbv wb
    have okA := h2.out.num 1 (neg := true) (e := (T : Int)) rfl WCHK.out
    have KI := Lib.hid (int_any true ad1 (limbs M).length cap1 M T k _ okA WEQ.out WBITS.out wle wlen (by omega))
    clear okA
    go_wp2_with fail
    refine KI.out.mono ?_
    rintro r w3 ⟨v3, rfl, hvi, hb3⟩
    have h3 := Lib.hid (h2.out.step hb3)
    have BA3 := Lib.hid (BA2.out.step hb3)
    have BB3 := Lib.hid (BB2.out.step hb3)
    obtain ⟨ad3, cap3, hv3, _, hrd3, _⟩ := hvi.view
    subst hv3
    have hox := Lib.hid (limbs_ok k); have hvx := Lib.hid (val_limbs k)
    generalize limbs k = xs at *
    have hrdh := Lib.hid hrd3
    clear hvi hb3 KI h2 BA2 BB2 hrd3
    go_wp2_with fail
    go_loopw [10, 11] (fun u i wr => INRel xs w3 u i wr) (fun _ i _ => (intOf i + 1).toNat)
    case atStart => exact ⟨xs.length, Nat.le_refl _, by go_num, by rw [List.drop_of_length_le (Nat.le_refl _)]; rfl, 0, rfl⟩
    case round =>
      obtain ⟨j, hj, rfl, rfl, qd, rfl⟩ := hrel
      rcases j with _ | j
      · have hbd := below_drewN' (Below.refl w3.heap.size w3) qd
        have h4 := Lib.hid (h3.out.step hbd)
        have BA4 := Lib.hid (BA3.out.step hbd)
        have BB4 := Lib.hid (BB3.out.step hbd)
        clear hbd h3 BA3 BB3 hrdh
        generalize w3.drewN qd = w4 at *
        rw [List.drop_zero, hvx.out, show (((0 : Nat) : Int) - 1) = -1 from rfl]
        have okA := h4.out.num 1 (neg := true) (e := (T : Int)) rfl WCHK.out
        have okB := h4.out.num 0 (neg := du) (e := (S : Int)) rfl WBC.out
        have KC := fun W (h : Below w4.heap.size w4 W) => numCmp_ok (okA.below h) (okB.below h)
        have KS := fun W (h : Below w4.heap.size w4 W) => numSame_ok (okA.below h) (okB.below h)
        have hsm := same_cmp (na := true) (nb := du) (e := (T : Int)) (f := (S : Int)) (limbs_ok M) (limbs_ok N) WCHK.out WBC.out
        rw [val_limbs, val_limbs, WVAL.out, WBV.out, HCM.out] at hsm
        rw [val_limbs, val_limbs, WVAL.out, WBV.out, HCM.out] at KC
        rw [hsm] at KS
        have KCK := Lib.hid (fun W (h : Below w4.heap.size w4 W) => (show Calls Tryz.prog 15 #[.agg #[.bool true, .slice ad1 (limbs M).length cap1, .int .i64 (T : Int)]] W (BoolBelow true W) by have K := check_any true ad1 (limbs M).length cap1 (limbs M) (T : Int) W rfl (okA.below h).cap (by omega) (limbs_ok M) (okA.below h).rd; rw [WCHK.out] at K; exact K))
        have KCh := Lib.hid KC; have KSh := Lib.hid KS
        clear hsm KC KS okA okB
        have hwu : IntKind.u64.wrap (-IntKind.u64.wrap (-(k : Int))) = (k : Int) := by
          have hx : ∀ x : Int, IntKind.u64.wrap x = x % 18446744073709551616 := fun x => rfl
          rw [hx, hx]; omega
        have hk0 : 0 < k := by omega
        have hl2i : (xs.length : Int) ≤ 2 := by omega
        have h3w : (-(k : Int)) < u ∨ (-(k : Int)) = u ∨ u < (-(k : Int)) := by omega
        rcases h3w with hlt | heq | hgt
        ·
          have KC := KCh.out w4 (Below.refl _ _)
          rw [cmpZ_lt hlt] at KC
          have hng : ¬ (u < (-(k : Int))) := by omega
          have hbe : (((-(k : Int))) == u) = false := by rw [beq_eq_false_iff_ne]; omega
          have KC1 := Lib.hid KC; clear KC
          obtain ⟨x1, x2, x3, x4⟩ := BA4.out
          obtain ⟨y1, y2, y3, y4⟩ := BB4.out
          go_upto_region 16 with fail
          clear hwu
          go_wp2_with fail
          refine KC1.out.mono ?_
          rintro r w5 ⟨rfl, hb5⟩
          clear x1 x2 x3 x4 y1 y2 y3 y4
          obtain ⟨x1, x2, x3, x4⟩ := BA4.out.step hb5
          obtain ⟨y1, y2, y3, y4⟩ := BB4.out.step hb5
          have KS := KSh.out w5 hb5
          rw [cmpZ_lt hlt] at KS
          have KS1 := Lib.hid KS; clear KS
          have hb5h := Lib.hid hb5; clear hb5
          go_wp2_with fail
          refine KS1.out.mono ?_
          rintro r w6 ⟨rfl, hb6⟩
          clear x1 x2 x3 x4 y1 y2 y3 y4
          have hb46 := below_on hb5h.out hb6
          obtain ⟨x1, x2, x3, x4⟩ := BA4.out.step hb46
          have KK := Lib.hid (KCK.out w6 hb46)
          have hb46h := Lib.hid hb46; clear hb46 hb6
          go_wp2_with fail
          refine KK.out.mono ?_
          rintro r w7 ⟨rfl, hb7⟩
          have q7 := Lib.hid (below_on h4.out.below (below_on hb46h.out hb7))
          clear hb7 x1 x2 x3 x4
          have KW := Lib.hid (HW.out w7 q7.out)
          go_wp2_with fail
          refine KW.out.mono ?_
          rintro r w8 ⟨rfl, hb8⟩
          have hf := Lib.hid (below_on q7.out hb8); clear hb8
          go_wp2
          go_ret
          exact BoolBelow.mk rfl hf.out
        ·
          have KC := KCh.out w4 (Below.refl _ _)
          subst heq
          rw [cmpZ_eq] at KC
          have KC1 := Lib.hid KC; clear KC
          obtain ⟨x1, x2, x3, x4⟩ := BA4.out
          obtain ⟨y1, y2, y3, y4⟩ := BB4.out
          go_upto_region 16 with fail
          clear hwu
          go_wp2_with fail
          refine KC1.out.mono ?_
          rintro r w5 ⟨rfl, hb5⟩
          clear x1 x2 x3 x4 y1 y2 y3 y4
          obtain ⟨x1, x2, x3, x4⟩ := BA4.out.step hb5
          obtain ⟨y1, y2, y3, y4⟩ := BB4.out.step hb5
          have KS := KSh.out w5 hb5
          rw [cmpZ_eq] at KS
          have KS1 := Lib.hid KS; clear KS
          have hb5h := Lib.hid hb5; clear hb5
          go_wp2_with fail
          refine KS1.out.mono ?_
          rintro r w6 ⟨rfl, hb6⟩
          clear x1 x2 x3 x4 y1 y2 y3 y4
          have hb46 := below_on hb5h.out hb6
          obtain ⟨x1, x2, x3, x4⟩ := BA4.out.step hb46
          have KK := Lib.hid (KCK.out w6 hb46)
          have hb46h := Lib.hid hb46; clear hb46 hb6
          go_wp2_with fail
          refine KK.out.mono ?_
          rintro r w7 ⟨rfl, hb7⟩
          have q7 := Lib.hid (below_on h4.out.below (below_on hb46h.out hb7))
          clear hb7 x1 x2 x3 x4
          have KW := Lib.hid (HW.out w7 q7.out)
          go_wp2_with fail
          refine KW.out.mono ?_
          rintro r w8 ⟨rfl, hb8⟩
          have hf := Lib.hid (below_on q7.out hb8); clear hb8
          go_wp2
          go_ret
          exact BoolBelow.mk rfl hf.out
        ·
          have KC := KCh.out w4 (Below.refl _ _)
          rw [cmpZ_gt hgt] at KC
          have hng : ¬ ((-(k : Int)) < u) := by omega
          have hbe : (((-(k : Int))) == u) = false := by rw [beq_eq_false_iff_ne]; omega
          have KC1 := Lib.hid KC; clear KC
          obtain ⟨x1, x2, x3, x4⟩ := BA4.out
          obtain ⟨y1, y2, y3, y4⟩ := BB4.out
          go_upto_region 16 with fail
          clear hwu
          go_wp2_with fail
          refine KC1.out.mono ?_
          rintro r w5 ⟨rfl, hb5⟩
          clear x1 x2 x3 x4 y1 y2 y3 y4
          obtain ⟨x1, x2, x3, x4⟩ := BA4.out.step hb5
          obtain ⟨y1, y2, y3, y4⟩ := BB4.out.step hb5
          have KS := KSh.out w5 hb5
          rw [cmpZ_gt hgt] at KS
          have KS1 := Lib.hid KS; clear KS
          have hb5h := Lib.hid hb5; clear hb5
          go_wp2_with fail
          refine KS1.out.mono ?_
          rintro r w6 ⟨rfl, hb6⟩
          clear x1 x2 x3 x4 y1 y2 y3 y4
          have hb46 := below_on hb5h.out hb6
          obtain ⟨x1, x2, x3, x4⟩ := BA4.out.step hb46
          have KK := Lib.hid (KCK.out w6 hb46)
          have hb46h := Lib.hid hb46; clear hb46 hb6
          go_wp2_with fail
          refine KK.out.mono ?_
          rintro r w7 ⟨rfl, hb7⟩
          have q7 := Lib.hid (below_on h4.out.below (below_on hb46h.out hb7))
          clear hb7 x1 x2 x3 x4
          have KW := Lib.hid (HW.out w7 q7.out)
          go_wp2_with fail
          refine KW.out.mono ?_
          rintro r w8 ⟨rfl, hb8⟩
          have hf := Lib.hid (below_on q7.out hb8); clear hb8
          go_wp2
          go_ret
          exact BoolBelow.mk rfl hf.out
      · rw [show (((j + 1 : Nat) : Int) - 1) = (j : Int) by omega]
        obtain ⟨b, ob, rfl, hblt, hcx⟩ := hrdh.out j (by omega)
        generalize hx : xs.getD j 0 = x at *
        obtain ⟨t1, t2, t3, t4⟩ := two_step hj hx wlen2 hox.out
        have T1 := Lib.hid t1
        generalize hy : val (xs.drop (j + 1)) = y at *
        have hsum : ((val (xs.drop j) : Nat) : Int) = (y : Int) * 4294967296 + (x : Int) := by rw [T1.out]; omega
        have HS := Lib.hid hsum
        clear t1 t2 hy hsum hx
        go_wp2_with fail
        go_roundw
        case rel => exact ⟨j, by omega, by go_num, by rw [HS.out], qd, rfl⟩
        case measure => simp [intOf]
  · obtain ⟨k, rfl⟩ : ∃ k : Nat, v = (k : Int) := ⟨v.natAbs, by omega⟩
    have hkk : (k : Int).natAbs = k := by omega
    have hd : decide ((k : Int) < 0) = false := decide_eq_false hs
    rw [hd, hkk] at KA
    rw [hkk] at wa
    have weq := wa.eq; have wchk := wa.chk; have wval := wa.val; have wlen := wa.len; have wlen2 := wa.len2; have wle := wa.le; have wbits := wa.bits
    rw [hkk] at weq wlen2 wbits
    rw [hd] at wchk wval
    have KAh := Lib.hid KA; have WEQ := Lib.hid weq; have WCHK := Lib.hid wchk; have WVAL := Lib.hid wval; have WBITS := Lib.hid wbits
    clear KA wa weq wchk wval wbits hd hkk
    go_enter Tryz.func4, Tryz.ntmps4
    go_wp2_with fail
    refine KAh.out.mono ?_
    rintro r w1 ⟨v1, rfl, hm1⟩
    obtain ⟨ad1, cap1, hv1, _⟩ := hm1.get 0 rfl
    generalize hM : trimM k = M at *
    generalize hT : trimK k = T at *
    have HM1 := Lib.hid hm1; clear hm1
    have KB1 := Lib.hid (KB.out w1 _ HM1.out)
    subst hv1
    go_wp2_with fail
    refine KB1.out.mono ?_
    rintro r w2 ⟨v2, rfl, hm2⟩
    obtain ⟨ad2, cap2, hv2, _⟩ := hm2.get 0 rfl
    subst hv2
    generalize hN : trimM u.natAbs = N at *
    generalize hS : trimK u.natAbs = S at *
    generalize hDU : decide (u < 0) = du at *
    have h2 := Lib.hid (hm2.step (below_on (below_box w2 #[.bool false, .slice ad1 (limbs M).length cap1, .int .i64 (T : Int)] 24) (below_box _ #[.bool du, .slice ad2 (limbs N).length cap2, .int .i64 (S : Int)] 24)))
    have BA2 := Lib.hid ((bx_new w2 false (.slice ad1 (limbs M).length cap1) (T : Int)).step (below_box _ #[.bool du, .slice ad2 (limbs N).length cap2, .int .i64 (S : Int)] 24))
    have BB2 := Lib.hid (bx_snd w2 (.cells #[.bool false, .slice ad1 (limbs M).length cap1, .int .i64 (T : Int)] 24) du (.slice ad2 (limbs N).length cap2) (S : Int))
    have wbc := wb.out.chk; have wbv := wb.out.val
    rw [hDU] at wbc wbv
    have WBC := Lib.hid wbc; have WBV := Lib.hid wbv
    clear hM hT hN hS hDU KB KB1 KAh HM1 hm2 wbc wbv wb
    have okA := h2.out.num 1 (neg := false) (e := (T : Int)) rfl WCHK.out
    have KI := Lib.hid (int_any false ad1 (limbs M).length cap1 M T k _ okA WEQ.out WBITS.out wle wlen (by omega))
    clear okA
    go_wp2_with fail
    refine KI.out.mono ?_
    rintro r w3 ⟨v3, rfl, hvi, hb3⟩
    have h3 := Lib.hid (h2.out.step hb3)
    have BA3 := Lib.hid (BA2.out.step hb3)
    have BB3 := Lib.hid (BB2.out.step hb3)
    obtain ⟨ad3, cap3, hv3, _, hrd3, _⟩ := hvi.view
    subst hv3
    have hox := Lib.hid (limbs_ok k); have hvx := Lib.hid (val_limbs k)
    generalize limbs k = xs at *
    have hrdh := Lib.hid hrd3
    clear hvi hb3 KI h2 BA2 BB2 hrd3
    go_wp2_with fail
    go_loopw [10, 11] (fun u i wr => INRel xs w3 u i wr) (fun _ i _ => (intOf i + 1).toNat)
    case atStart => exact ⟨xs.length, Nat.le_refl _, by go_num, by rw [List.drop_of_length_le (Nat.le_refl _)]; rfl, 0, rfl⟩
    case round =>
      obtain ⟨j, hj, rfl, rfl, qd, rfl⟩ := hrel
      rcases j with _ | j
      · have hbd := below_drewN' (Below.refl w3.heap.size w3) qd
        have h4 := Lib.hid (h3.out.step hbd)
        have BA4 := Lib.hid (BA3.out.step hbd)
        have BB4 := Lib.hid (BB3.out.step hbd)
        clear hbd h3 BA3 BB3 hrdh
        generalize w3.drewN qd = w4 at *
        rw [List.drop_zero, hvx.out, show (((0 : Nat) : Int) - 1) = -1 from rfl]
        have okA := h4.out.num 1 (neg := false) (e := (T : Int)) rfl WCHK.out
        have okB := h4.out.num 0 (neg := du) (e := (S : Int)) rfl WBC.out
        have KC := fun W (h : Below w4.heap.size w4 W) => numCmp_ok (okA.below h) (okB.below h)
        have KS := fun W (h : Below w4.heap.size w4 W) => numSame_ok (okA.below h) (okB.below h)
        have hsm := same_cmp (na := false) (nb := du) (e := (T : Int)) (f := (S : Int)) (limbs_ok M) (limbs_ok N) WCHK.out WBC.out
        rw [val_limbs, val_limbs, WVAL.out, WBV.out, HCM.out] at hsm
        rw [val_limbs, val_limbs, WVAL.out, WBV.out, HCM.out] at KC
        rw [hsm] at KS
        have KCK := Lib.hid (fun W (h : Below w4.heap.size w4 W) => (show Calls Tryz.prog 15 #[.agg #[.bool false, .slice ad1 (limbs M).length cap1, .int .i64 (T : Int)]] W (BoolBelow true W) by have K := check_any false ad1 (limbs M).length cap1 (limbs M) (T : Int) W rfl (okA.below h).cap (by omega) (limbs_ok M) (okA.below h).rd; rw [WCHK.out] at K; exact K))
        have KCh := Lib.hid KC; have KSh := Lib.hid KS
        clear hsm KC KS okA okB
        have hwu : IntKind.u64.wrap (-IntKind.u64.wrap (-(k : Int))) = (k : Int) := by
          have hx : ∀ x : Int, IntKind.u64.wrap x = x % 18446744073709551616 := fun x => rfl
          rw [hx, hx]; omega
        have hk0 : ¬ ((k : Int) < 0) := by omega
        have hl2i : (xs.length : Int) ≤ 2 := by omega
        have h3w : (k : Int) < u ∨ (k : Int) = u ∨ u < (k : Int) := by omega
        rcases h3w with hlt | heq | hgt
        ·
          have KC := KCh.out w4 (Below.refl _ _)
          rw [cmpZ_lt hlt] at KC
          have hng : ¬ (u < (k : Int)) := by omega
          have hbe : (((k : Int)) == u) = false := by rw [beq_eq_false_iff_ne]; omega
          have KC1 := Lib.hid KC; clear KC
          obtain ⟨x1, x2, x3, x4⟩ := BA4.out
          obtain ⟨y1, y2, y3, y4⟩ := BB4.out
          go_upto_region 16 with fail
          clear hwu
          go_wp2_with fail
          refine KC1.out.mono ?_
          rintro r w5 ⟨rfl, hb5⟩
          clear x1 x2 x3 x4 y1 y2 y3 y4
          obtain ⟨x1, x2, x3, x4⟩ := BA4.out.step hb5
          obtain ⟨y1, y2, y3, y4⟩ := BB4.out.step hb5
          have KS := KSh.out w5 hb5
          rw [cmpZ_lt hlt] at KS
          have KS1 := Lib.hid KS; clear KS
          have hb5h := Lib.hid hb5; clear hb5
          go_wp2_with fail
          refine KS1.out.mono ?_
          rintro r w6 ⟨rfl, hb6⟩
          clear x1 x2 x3 x4 y1 y2 y3 y4
          have hb46 := below_on hb5h.out hb6
          obtain ⟨x1, x2, x3, x4⟩ := BA4.out.step hb46
          have KK := Lib.hid (KCK.out w6 hb46)
          have hb46h := Lib.hid hb46; clear hb46 hb6
          go_wp2_with fail
          refine KK.out.mono ?_
          rintro r w7 ⟨rfl, hb7⟩
          have q7 := Lib.hid (below_on h4.out.below (below_on hb46h.out hb7))
          clear hb7 x1 x2 x3 x4
          have KW := Lib.hid (HW.out w7 q7.out)
          go_wp2_with fail
          refine KW.out.mono ?_
          rintro r w8 ⟨rfl, hb8⟩
          have hf := Lib.hid (below_on q7.out hb8); clear hb8
          go_wp2
          go_ret
          exact BoolBelow.mk rfl hf.out
        ·
          have KC := KCh.out w4 (Below.refl _ _)
          subst heq
          rw [cmpZ_eq] at KC
          have KC1 := Lib.hid KC; clear KC
          obtain ⟨x1, x2, x3, x4⟩ := BA4.out
          obtain ⟨y1, y2, y3, y4⟩ := BB4.out
          go_upto_region 16 with fail
          clear hwu
          go_wp2_with fail
          refine KC1.out.mono ?_
          rintro r w5 ⟨rfl, hb5⟩
          clear x1 x2 x3 x4 y1 y2 y3 y4
          obtain ⟨x1, x2, x3, x4⟩ := BA4.out.step hb5
          obtain ⟨y1, y2, y3, y4⟩ := BB4.out.step hb5
          have KS := KSh.out w5 hb5
          rw [cmpZ_eq] at KS
          have KS1 := Lib.hid KS; clear KS
          have hb5h := Lib.hid hb5; clear hb5
          go_wp2_with fail
          refine KS1.out.mono ?_
          rintro r w6 ⟨rfl, hb6⟩
          clear x1 x2 x3 x4 y1 y2 y3 y4
          have hb46 := below_on hb5h.out hb6
          obtain ⟨x1, x2, x3, x4⟩ := BA4.out.step hb46
          have KK := Lib.hid (KCK.out w6 hb46)
          have hb46h := Lib.hid hb46; clear hb46 hb6
          go_wp2_with fail
          refine KK.out.mono ?_
          rintro r w7 ⟨rfl, hb7⟩
          have q7 := Lib.hid (below_on h4.out.below (below_on hb46h.out hb7))
          clear hb7 x1 x2 x3 x4
          have KW := Lib.hid (HW.out w7 q7.out)
          go_wp2_with fail
          refine KW.out.mono ?_
          rintro r w8 ⟨rfl, hb8⟩
          have hf := Lib.hid (below_on q7.out hb8); clear hb8
          go_wp2
          go_ret
          exact BoolBelow.mk rfl hf.out
        ·
          have KC := KCh.out w4 (Below.refl _ _)
          rw [cmpZ_gt hgt] at KC
          have hng : ¬ ((k : Int) < u) := by omega
          have hbe : (((k : Int)) == u) = false := by rw [beq_eq_false_iff_ne]; omega
          have KC1 := Lib.hid KC; clear KC
          obtain ⟨x1, x2, x3, x4⟩ := BA4.out
          obtain ⟨y1, y2, y3, y4⟩ := BB4.out
          go_upto_region 16 with fail
          clear hwu
          go_wp2_with fail
          refine KC1.out.mono ?_
          rintro r w5 ⟨rfl, hb5⟩
          clear x1 x2 x3 x4 y1 y2 y3 y4
          obtain ⟨x1, x2, x3, x4⟩ := BA4.out.step hb5
          obtain ⟨y1, y2, y3, y4⟩ := BB4.out.step hb5
          have KS := KSh.out w5 hb5
          rw [cmpZ_gt hgt] at KS
          have KS1 := Lib.hid KS; clear KS
          have hb5h := Lib.hid hb5; clear hb5
          go_wp2_with fail
          refine KS1.out.mono ?_
          rintro r w6 ⟨rfl, hb6⟩
          clear x1 x2 x3 x4 y1 y2 y3 y4
          have hb46 := below_on hb5h.out hb6
          obtain ⟨x1, x2, x3, x4⟩ := BA4.out.step hb46
          have KK := Lib.hid (KCK.out w6 hb46)
          have hb46h := Lib.hid hb46; clear hb46 hb6
          go_wp2_with fail
          refine KK.out.mono ?_
          rintro r w7 ⟨rfl, hb7⟩
          have q7 := Lib.hid (below_on h4.out.below (below_on hb46h.out hb7))
          clear hb7 x1 x2 x3 x4
          have KW := Lib.hid (HW.out w7 q7.out)
          go_wp2_with fail
          refine KW.out.mono ?_
          rintro r w8 ⟨rfl, hb8⟩
          have hf := Lib.hid (below_on q7.out hb8); clear hb8
          go_wp2
          go_ret
          exact BoolBelow.mk rfl hf.out
      · rw [show (((j + 1 : Nat) : Int) - 1) = (j : Int) by omega]
        obtain ⟨b, ob, rfl, hblt, hcx⟩ := hrdh.out j (by omega)
        generalize hx : xs.getD j 0 = x at *
        obtain ⟨t1, t2, t3, t4⟩ := two_step hj hx wlen2 hox.out
        have T1 := Lib.hid t1
        generalize hy : val (xs.drop (j + 1)) = y at *
        have hsum : ((val (xs.drop j) : Nat) : Int) = (y : Int) * 4294967296 + (x : Int) := by rw [T1.out]; omega
        have HS := Lib.hid hsum
        clear t1 t2 hy hsum hx
        go_wp2_with fail
        go_roundw
        case rel => exact ⟨j, by omega, by go_num, by rw [HS.out], qd, rfl⟩
        case measure => simp [intOf]
end Go.Proofs.YtjieilcegkmfiaaGreatDoor
