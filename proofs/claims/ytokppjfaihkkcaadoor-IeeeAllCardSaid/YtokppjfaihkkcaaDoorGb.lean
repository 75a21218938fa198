/- The walk of layer 3's reference Exact. -/
import Derived.Test.YtokppjfaihkkcaaDoorGa
import Derived.Test.YtokppjfaihkkcaaDoorRn
import Derived.Test.YtokppjfaihkkcaaDoorRz
import Derived.Test.YtokppjfaihkkcaaDoorRp
import Derived.Deep.DeepCutAuto
namespace Go.Proofs.YtokppjfaihkkcaaDoor
open Go.RowKit Go.Sort
set_option linter.unusedVariables false
set_option linter.unusedSimpArgs false

theorem Ctx.dropTwo {w0 w : World} {a b : Ent} {l : List Ent} (h : Ctx w0 w (a :: b :: l)) : Ctx w0 w (a :: l) :=
  ⟨h.below, fun y hy => h.all y (by rcases List.mem_cons.1 hy with rfl | h1 <;> simp [*])⟩
theorem no_exact {width : Int} {x : Nat} (hk : kindW width x ≠ 1) : exNegW width x = false ∧ exMW width x = 0 ∧ exEW width x = 0 ∧ okW width x = (kindW width x == 2) := by
  have e0 : exNegW width x = false ∧ exMW width x = 0 ∧ exEW width x = 0 := by
    unfold kindW at hk
    cases hlo : layOf width with
    | none => simp [exNegW, exMW, exEW, hlo]
    | some p =>
      obtain ⟨e, f⟩ := p
      rw [hlo] at hk
      have hk1 : ¬ kindF e f x = 1 := fun h1 => hk (by simp only []; rw [h1]; rfl)
      simp [exNegW, exMW, exEW, hlo, hk1]
  refine ⟨e0.1, e0.2.1, e0.2.2, ?_⟩
  unfold okW
  by_cases h2 : kindW width x = 2
  · rw [h2]; rfl
  · rw [decide_eq_false (by omega)]; exact (beq_eq_false_iff_ne.2 h2).symm
set_option maxHeartbeats 4000000 in
theorem rexact_no {w0 w : World} {l : List Ent} (h : Ctx w0 w l) (width : Int) (x : Nat) (hx : x < 18446744073709551616) (hk : kindW width x ≠ 1) :
    Calls Tryd.prog 13 #[.int .i64 width, .int .u64 (x : Int)] w (MadePost w0 l 2000 false 0 0 (kindW width x == 2)) := by
  have KK := Lib.hid (fun W => rkind_any width x hx W)
  have hb1 := below_box w #[.bool false, .slice none 0 0, .int .i64 0] 25
  have H1 := Lib.hid (h.step hb1)
  have hk1 : (kindW width x == 1) = false := beq_eq_false_iff_ne.2 hk
  clear h hb1 hk
  generalize kindW width x = k at *
  go_enter Tryd.func13, Tryd.ntmps13
  go_wp2_with fail
  refine (KK.out _).mono ?_
  rintro r w' ⟨rfl, rfl⟩
  go_wp2_with fail
  exact bodyPost_ret (v := .tuple #[.agg #[.bool false, .slice none 0 0, .int .i64 0], .bool (k == 2)]) (by simp [results, Tryd.results13, go_sem]) rfl ⟨_, rfl, H1.out.push (ent_nil _ _)⟩
theorem words_two {S : Nat} (h : S < 18446744073709551616) : Okl [S % 4294967296, S / 4294967296] ∧ val [S % 4294967296, S / 4294967296] = S := by
  refine ⟨Okl.cons (by rw [B32_eq]; omega) (Okl.cons (by rw [B32_eq]; omega) Okl.nil), ?_⟩
  simp [val, B32_eq]; omega
/-- What Make answers of a float's natural. -/
theorem exact_make {e f x : Nat} (hl : Lay e f) (hk : kindF e f x = 1) (ng : Bool) {w0 w : World} {l : List Ent} {v : Value} (h : Ctx w0 w (⟨v, 2000, exN e f x, limbs (exN e f x)⟩ :: l)) :
    Calls Tryd.prog 27 #[.bool ng, v, .int .i64 (-((-twosF e f x).toNat : Int))] w (MadePost w0 (⟨v, 2000, exN e f x, limbs (exN e f x)⟩ :: l) 2000 ng (exM e f x) (exE e f x) true) := by
  obtain ⟨b1, b2, b3, b4, b5⟩ := ex_bounds hl hk
  exact refMake_yes h 0 rfl (by decide) ng _ _ _ b1 b2 b3 _ (by unfold exE; omega) b4 b5
theorem exN_len {e f x : Nat} (hl : Lay e f) : (limbs (exN e f x)).length ≤ 2000 := by
  have hb := twosF_bd (x := x) hl
  have hs : sizeF e f x < 2 ^ 53 := Nat.lt_of_lt_of_le (sizeF_lt e f x) (Nat.pow_le_pow_right (by decide) (by rcases hl with ⟨rfl, rfl⟩ | ⟨rfl, rfl⟩ | ⟨rfl, rfl⟩ <;> omega))
  obtain ⟨L, hL⟩ : ∃ L, L = 100 := ⟨_, rfl⟩
  have hlt := dec_lt (s := sizeF e f x) (t := twosF e f x) (K := 32 * L) hs ⟨hb.1, by omega⟩ (by omega)
  have e1 : B32 ^ L = 2 ^ (32 * L) := by rw [Nat.pow_mul]; rfl
  have := limbs_length_le (show exN e f x < B32 ^ L by rw [e1]; exact hlt)
  omega

set_option maxHeartbeats 8000000 in
set_option maxRecDepth 100000 in
theorem rexact_yes {w0 w : World} {l : List Ent} (h : Ctx w0 w l) (width : Int) (x : Nat) (hx : x < 18446744073709551616) {e f : Nat} (hlo : layOf width = some (e, f)) (hk : kindF e f x = 1) :
    Calls Tryd.prog 13 #[.int .i64 width, .int .u64 (x : Int)] w (MadePost w0 l 2000 (fNeg e f x) (exM e f x) (exE e f x) true) := by
  have KK := Lib.hid (fun W => rkind_any width x hx W)
  rw [show kindW width x = 1 from by unfold kindW; rw [hlo]; simp [hk]] at KK
  have KP := Lib.hid (fun W => rparts_any width W)
  have KS := Lib.hid (fun W => rsplit_any hlo x hx W)
  unfold spV at KS
  have hlay := layOf_lay hlo
  have KM := Lib.hid (fun (ng : Bool) (w0 w : World) (l : List Ent) (v : Value) h => @exact_make e f x hlay hk ng w0 w l v h)
  have HLN := Lib.hid (exN_len (x := x) hlay)
  have hN : exN e f x = sizeF e f x * 5 ^ (-twosF e f x).toNat * 2 ^ (twosF e f x).toNat := rfl
  have HN := Lib.hid hN
  have hs64 := size_le_64 (x := x) hlay
  have htb := twosF_bd (x := x) hlay
  have hS : sizeF e f x = if fEx e f x = 0 then fFr f x else fFr f x + 2 ^ f := rfl
  have hT : twosF e f x = if fEx e f x = 0 then leastF e f else leastF e f + (fEx e f x : Int) - 1 := rfl
  have hfr : fFr f x < 2 ^ f := Nat.mod_lt _ (twop_pos f)
  have hex : fEx e f x < 2 ^ e := Nat.mod_lt _ (twop_pos e)
  have hb1 := below_box w #[.bool false, .slice none 0 0, .int .i64 0] 25
  have hC1 := h.step hb1
  have H1 := Lib.hid hC1.below
  have HC1 := Lib.hid hC1.again
  have hW := Lib.hid h.below.size
  clear h hb1 hC1 hk hN hlay
  generalize exN e f x = N at *
  generalize exM e f x = M at *
  generalize exE e f x = E at *
  generalize fNeg e f x = ng at *
  generalize sizeF e f x = S at *
  generalize twosF e f x = T at *
  generalize fEx e f x = ex at *
  generalize fFr f x = fr at *
  have HS := Lib.hid hS; have HT := Lib.hid hT
  clear hS hT
  rcases lay_w hlo with ⟨rfl, rfl, rfl⟩ | ⟨rfl, rfl, rfl⟩ | ⟨rfl, rfl, rfl⟩
  · rw [show pE 16 = 5 from rfl, show pF 16 = 10 from rfl] at KP
    rw [show leastF 5 10 = -24 from by decide] at HT
    have ho : bits BinOp.or IntKind.u64 (fr : Int) 1024 = ((fr + 2 ^ 10 : Nat) : Int) := by have h := or_add hfr (by decide); exact h
    have e4 : IntKind.u64.wrap 1024 = 1024 := by decide
    have e5 : IntKind.i64.wrap 16 = 16 := by decide
    go_enter Tryd.func13, Tryd.ntmps13
    go_wp2_with fail
    refine (KK.out _).mono ?_
    rintro r w' ⟨rfl, rfl⟩
    go_wp2_with fail
    refine (KP.out _).mono ?_
    rintro r w' ⟨rfl, rfl⟩
    go_wp2_with fail
    refine (KS.out _).mono ?_
    rintro r w' ⟨rfl, rfl⟩
    go_upto_if 42 with fail
    go_cut [11, 12] (fun a b wx => a = .int .u64 (S : Int) ∧ b = .int .i64 T ∧ wx = w.alloc (.cells #[.bool false, .slice none 0 0, .int .i64 0] 25))
    case first =>
      by_cases h0 : ex = 0
      · have hz : ¬ (0 : Int) < (ex : Int) := by omega
        have HS1 := Lib.hid (HS.out.trans (if_pos h0))
        have HT1 := Lib.hid (HT.out.trans (if_pos h0))
        clear h0
        go_wp2_with fail
        go_meet
        exact ⟨by rw [HS1.out], by rw [HT1.out], rfl⟩
      · have hz : (0 : Int) < (ex : Int) := by omega
        have HS1 := Lib.hid (HS.out.trans (if_neg h0))
        have HT1 := Lib.hid (HT.out.trans (if_neg h0))
        clear h0
        go_wp2_with fail
        go_meet
        exact ⟨by first | (rw [HS1.out]; done) | (rw [HS1.out]; rfl) | (rw [HS1.out]; congr 1; omega), by first | (rw [HT1.out]; done) | (rw [HT1.out]; rfl) | (rw [HT1.out]; congr 1; omega), rfl⟩
    case rest =>
      obtain ⟨rfl, rfl, rfl⟩ := hcut
      clear HS HT hfr hex ho KS KK KP hlo e4 e5
      obtain ⟨ow, vw⟩ := words_two hs64
      have HL2 := Lib.hid (HC1.out.lits2 ow vw 2 rfl #[.int .u32 ((S % 4294967296 : Nat) : Int), .int .u32 ((S / 4294967296 : Nat) : Int)] rfl)
      have hw1 : IntKind.u32.wrap (S : Int) = ((S % 4294967296 : Nat) : Int) := by
        rw [show IntKind.u32.wrap (S : Int) = (S : Int) % 4294967296 by simp [IntKind.wrap, IntKind.bits, IntKind.signed]]; omega
      have hw2 : IntKind.u32.wrap ((S : Int) / 4294967296) = ((S / 4294967296 : Nat) : Int) := by
        rw [show IntKind.u32.wrap ((S : Int) / 4294967296) = (S : Int) / 4294967296 % 4294967296 by simp [IntKind.wrap, IntKind.bits, IntKind.signed]]; omega
      clear ow vw
      obtain ⟨ad0, cap0, hv0, a2, a3, a4, a5, a6⟩ := HL2.out.get 0 rfl
      simp only [Value.slice.injEq] at hv0
      obtain ⟨rfl, _, rfl⟩ := hv0
      have HOX := Lib.hid a4; have HRX := Lib.hid a5; have HVX := Lib.hid a6
      clear a2 a3 a4 a5 a6
      have HS64 := Lib.hid hs64; clear hs64
      generalize S % 4294967296 = s0 at *
      generalize S / 4294967296 = s1 at *
      by_cases ht : 0 ≤ T
      · obtain ⟨t, rfl⟩ : ∃ t : Nat, T = (t : Int) := ⟨T.toNat, by omega⟩
        have KSH := Lib.hid (refShift_any _ 2 2 [s0, s1] t _ rfl (by decide) (by decide) (by omega) HOX.out HRX.out)
        rw [HVX.out] at KSH
        have hNS : S * 2 ^ t = N := by rw [HN.out, show (-(t : Int)).toNat = 0 by omega, Int.toNat_natCast]; simp
        rw [hNS] at KSH
        have he0 : -((-(t : Int)).toNat : Int) = 0 := by omega
        have KM2 := Lib.hid (fun w0 w1 l v h => KM.out ng w0 w1 l v h)
        rw [he0] at KM2
        clear hNS he0
        go_wp2_with fail
        refine KSH.out.mono ?_
        rintro r w2 ⟨v2, rfl, ho2, hb2⟩
        have hc2 := (HL2.out.step hb2).drop1.push (ent_own ho2 HLN.out)
        have KMM := Lib.hid (KM2.out _ _ _ _ hc2.again)
        have HC2 := Lib.hid hc2
        clear hc2 ho2 hb2 KM2 KSH
        go_wp2_with fail
        refine KMM.out.mono ?_
        rintro r w3 ⟨v3, rfl, h3⟩
        obtain ⟨ad3, cap3, rfl, _⟩ := h3.get 0 rfl
        have hfin := (h3.on HC2.out).dropTwo
        obtain ⟨hc, hf⟩ := bcell hfin.below
        have HFIN := Lib.hid (Ctx.back H1.out hfin)
        clear h3 hfin
        generalize (limbs M).length = nm at *
        have hz : w.heap.size < (w.alloc (.cells #[.bool false, .slice none 0 0, .int .i64 0] 25)).heap.size := by simp
        have a0 := (hc w.heap.size 0 hz).trans (show _ = some (.bool false) by simp)
        have a1 := (hc w.heap.size 1 hz).trans (show _ = some (.slice none 0 0) by simp)
        have a2 := (hc w.heap.size 2 hz).trans (show _ = some (.int .i64 0) by simp)
        have b0 := (hf w.heap.size 0 hz).trans (show _ = false by simp)
        have b1 := (hf w.heap.size 1 hz).trans (show _ = false by simp)
        have b2 := (hf w.heap.size 2 hz).trans (show _ = false by simp)
        clear hc hf hz
        go_wp2_with fail
        exact bodyPost_ret (v := .tuple #[.agg #[.bool ng, .slice ad3 nm cap3, .int .i64 E], .bool true]) (by simp [results, Tryd.results13, go_sem, a0, a1, a2]) rfl ⟨_, rfl, HFIN.out.box3 hW.out a0 a1 a2 _ _ _⟩
      · obtain ⟨t, hT, ht1⟩ : ∃ t : Nat, T = -(t : Int) ∧ t ≤ 1074 := ⟨(-T).toNat, by omega, by omega⟩
        subst hT
        have KPW := Lib.hid (fun W => refPow_any 5 (t : Int) W (by decide) (by omega))
        rw [cutP_nat (by omega)] at KPW
        have hNS : S * 5 ^ t = N := by rw [HN.out, show (- -(t : Int)).toNat = t by omega, show (-(t : Int)).toNat = 0 by omega]; simp
        have he0 : -((- -(t : Int)).toNat : Int) = -(t : Int) := by omega
        have KM2 := Lib.hid (fun w0 w1 l v h => KM.out ng w0 w1 l v h)
        rw [he0] at KM2
        clear he0
        have hnn : - -(t : Int) = (t : Int) := by omega
        have htn : ¬ (0 : Int) ≤ -(t : Int) := ht
        have HNS := Lib.hid hNS; clear hNS
        go_wp2_with fail
        refine (KPW.out _).mono ?_
        rintro r w2 ⟨v2, rfl, ho2, hb2⟩
        have hpl : (limbs (5 ^ t)).length ≤ 1000000 := by
          have := limbs_length_le (pow_bound (show (5 : Nat) < B32 by decide) t)
          omega
        obtain ⟨adp, capp, rfl, c1, c2, _⟩ := ho2.view
        have KMU := Lib.hid (refMul_any _ 2 2 [s0, s1] adp _ capp (limbs (5 ^ t)) w2 rfl (by decide) (by decide) HOX.out (HRX.out.below hb2) rfl c1 hpl ho2.1 c2)
        rw [HVX.out, val_limbs, HNS.out] at KMU
        have HL3 := Lib.hid (HL2.out.step hb2)
        clear hpl c1 c2 ho2 hb2 KPW
        generalize (limbs (5 ^ t)).length = np at *
        go_wp2_with fail
        refine KMU.out.mono ?_
        rintro r w3 ⟨v3, rfl, ho3, hb3⟩
        have hc3 := (HL3.out.step hb3).drop1.push (ent_own ho3 HLN.out)
        have KMM := Lib.hid (KM2.out _ _ _ _ hc3.again)
        have HC2 := Lib.hid hc3
        clear hc3 ho3 hb3 KM2 KMU HL3
        go_wp2_with fail
        refine KMM.out.mono ?_
        rintro r w4 ⟨v4, rfl, h3⟩
        obtain ⟨ad3, cap3, rfl, _⟩ := h3.get 0 rfl
        have hfin := (h3.on HC2.out).dropTwo
        obtain ⟨hc, hf⟩ := bcell hfin.below
        have HFIN := Lib.hid (Ctx.back H1.out hfin)
        clear h3 hfin
        generalize (limbs M).length = nm at *
        have hz : w.heap.size < (w.alloc (.cells #[.bool false, .slice none 0 0, .int .i64 0] 25)).heap.size := by simp
        have a0 := (hc w.heap.size 0 hz).trans (show _ = some (.bool false) by simp)
        have a1 := (hc w.heap.size 1 hz).trans (show _ = some (.slice none 0 0) by simp)
        have a2 := (hc w.heap.size 2 hz).trans (show _ = some (.int .i64 0) by simp)
        have b0 := (hf w.heap.size 0 hz).trans (show _ = false by simp)
        have b1 := (hf w.heap.size 1 hz).trans (show _ = false by simp)
        have b2 := (hf w.heap.size 2 hz).trans (show _ = false by simp)
        clear hc hf hz
        go_wp2_with fail
        exact bodyPost_ret (v := .tuple #[.agg #[.bool ng, .slice ad3 nm cap3, .int .i64 E], .bool true]) (by simp [results, Tryd.results13, go_sem, a0, a1, a2]) rfl ⟨_, rfl, HFIN.out.box3 hW.out a0 a1 a2 _ _ _⟩
  · rw [show pE 32 = 8 from rfl, show pF 32 = 23 from rfl] at KP
    rw [show leastF 8 23 = -149 from by decide] at HT
    have ho : bits BinOp.or IntKind.u64 (fr : Int) 8388608 = ((fr + 2 ^ 23 : Nat) : Int) := by have h := or_add hfr (by decide); exact h
    have e4 : IntKind.u64.wrap 8388608 = 8388608 := by decide
    have e5 : IntKind.i64.wrap 128 = 128 := by decide
    go_enter Tryd.func13, Tryd.ntmps13
    go_wp2_with fail
    refine (KK.out _).mono ?_
    rintro r w' ⟨rfl, rfl⟩
    go_wp2_with fail
    refine (KP.out _).mono ?_
    rintro r w' ⟨rfl, rfl⟩
    go_wp2_with fail
    refine (KS.out _).mono ?_
    rintro r w' ⟨rfl, rfl⟩
    go_upto_if 42 with fail
    go_cut [11, 12] (fun a b wx => a = .int .u64 (S : Int) ∧ b = .int .i64 T ∧ wx = w.alloc (.cells #[.bool false, .slice none 0 0, .int .i64 0] 25))
    case first =>
      by_cases h0 : ex = 0
      · have hz : ¬ (0 : Int) < (ex : Int) := by omega
        have HS1 := Lib.hid (HS.out.trans (if_pos h0))
        have HT1 := Lib.hid (HT.out.trans (if_pos h0))
        clear h0
        go_wp2_with fail
        go_meet
        exact ⟨by rw [HS1.out], by rw [HT1.out], rfl⟩
      · have hz : (0 : Int) < (ex : Int) := by omega
        have HS1 := Lib.hid (HS.out.trans (if_neg h0))
        have HT1 := Lib.hid (HT.out.trans (if_neg h0))
        clear h0
        go_wp2_with fail
        go_meet
        exact ⟨by first | (rw [HS1.out]; done) | (rw [HS1.out]; rfl) | (rw [HS1.out]; congr 1; omega), by first | (rw [HT1.out]; done) | (rw [HT1.out]; rfl) | (rw [HT1.out]; congr 1; omega), rfl⟩
    case rest =>
      obtain ⟨rfl, rfl, rfl⟩ := hcut
      clear HS HT hfr hex ho KS KK KP hlo e4 e5
      obtain ⟨ow, vw⟩ := words_two hs64
      have HL2 := Lib.hid (HC1.out.lits2 ow vw 2 rfl #[.int .u32 ((S % 4294967296 : Nat) : Int), .int .u32 ((S / 4294967296 : Nat) : Int)] rfl)
      have hw1 : IntKind.u32.wrap (S : Int) = ((S % 4294967296 : Nat) : Int) := by
        rw [show IntKind.u32.wrap (S : Int) = (S : Int) % 4294967296 by simp [IntKind.wrap, IntKind.bits, IntKind.signed]]; omega
      have hw2 : IntKind.u32.wrap ((S : Int) / 4294967296) = ((S / 4294967296 : Nat) : Int) := by
        rw [show IntKind.u32.wrap ((S : Int) / 4294967296) = (S : Int) / 4294967296 % 4294967296 by simp [IntKind.wrap, IntKind.bits, IntKind.signed]]; omega
      clear ow vw
      obtain ⟨ad0, cap0, hv0, a2, a3, a4, a5, a6⟩ := HL2.out.get 0 rfl
      simp only [Value.slice.injEq] at hv0
      obtain ⟨rfl, _, rfl⟩ := hv0
      have HOX := Lib.hid a4; have HRX := Lib.hid a5; have HVX := Lib.hid a6
      clear a2 a3 a4 a5 a6
      have HS64 := Lib.hid hs64; clear hs64
      generalize S % 4294967296 = s0 at *
      generalize S / 4294967296 = s1 at *
      by_cases ht : 0 ≤ T
      · obtain ⟨t, rfl⟩ : ∃ t : Nat, T = (t : Int) := ⟨T.toNat, by omega⟩
        have KSH := Lib.hid (refShift_any _ 2 2 [s0, s1] t _ rfl (by decide) (by decide) (by omega) HOX.out HRX.out)
        rw [HVX.out] at KSH
        have hNS : S * 2 ^ t = N := by rw [HN.out, show (-(t : Int)).toNat = 0 by omega, Int.toNat_natCast]; simp
        rw [hNS] at KSH
        have he0 : -((-(t : Int)).toNat : Int) = 0 := by omega
        have KM2 := Lib.hid (fun w0 w1 l v h => KM.out ng w0 w1 l v h)
        rw [he0] at KM2
        clear hNS he0
        go_wp2_with fail
        refine KSH.out.mono ?_
        rintro r w2 ⟨v2, rfl, ho2, hb2⟩
        have hc2 := (HL2.out.step hb2).drop1.push (ent_own ho2 HLN.out)
        have KMM := Lib.hid (KM2.out _ _ _ _ hc2.again)
        have HC2 := Lib.hid hc2
        clear hc2 ho2 hb2 KM2 KSH
        go_wp2_with fail
        refine KMM.out.mono ?_
        rintro r w3 ⟨v3, rfl, h3⟩
        obtain ⟨ad3, cap3, rfl, _⟩ := h3.get 0 rfl
        have hfin := (h3.on HC2.out).dropTwo
        obtain ⟨hc, hf⟩ := bcell hfin.below
        have HFIN := Lib.hid (Ctx.back H1.out hfin)
        clear h3 hfin
        generalize (limbs M).length = nm at *
        have hz : w.heap.size < (w.alloc (.cells #[.bool false, .slice none 0 0, .int .i64 0] 25)).heap.size := by simp
        have a0 := (hc w.heap.size 0 hz).trans (show _ = some (.bool false) by simp)
        have a1 := (hc w.heap.size 1 hz).trans (show _ = some (.slice none 0 0) by simp)
        have a2 := (hc w.heap.size 2 hz).trans (show _ = some (.int .i64 0) by simp)
        have b0 := (hf w.heap.size 0 hz).trans (show _ = false by simp)
        have b1 := (hf w.heap.size 1 hz).trans (show _ = false by simp)
        have b2 := (hf w.heap.size 2 hz).trans (show _ = false by simp)
        clear hc hf hz
        go_wp2_with fail
        exact bodyPost_ret (v := .tuple #[.agg #[.bool ng, .slice ad3 nm cap3, .int .i64 E], .bool true]) (by simp [results, Tryd.results13, go_sem, a0, a1, a2]) rfl ⟨_, rfl, HFIN.out.box3 hW.out a0 a1 a2 _ _ _⟩
      · obtain ⟨t, hT, ht1⟩ : ∃ t : Nat, T = -(t : Int) ∧ t ≤ 1074 := ⟨(-T).toNat, by omega, by omega⟩
        subst hT
        have KPW := Lib.hid (fun W => refPow_any 5 (t : Int) W (by decide) (by omega))
        rw [cutP_nat (by omega)] at KPW
        have hNS : S * 5 ^ t = N := by rw [HN.out, show (- -(t : Int)).toNat = t by omega, show (-(t : Int)).toNat = 0 by omega]; simp
        have he0 : -((- -(t : Int)).toNat : Int) = -(t : Int) := by omega
        have KM2 := Lib.hid (fun w0 w1 l v h => KM.out ng w0 w1 l v h)
        rw [he0] at KM2
        clear he0
        have hnn : - -(t : Int) = (t : Int) := by omega
        have htn : ¬ (0 : Int) ≤ -(t : Int) := ht
        have HNS := Lib.hid hNS; clear hNS
        go_wp2_with fail
        refine (KPW.out _).mono ?_
        rintro r w2 ⟨v2, rfl, ho2, hb2⟩
        have hpl : (limbs (5 ^ t)).length ≤ 1000000 := by
          have := limbs_length_le (pow_bound (show (5 : Nat) < B32 by decide) t)
          omega
        obtain ⟨adp, capp, rfl, c1, c2, _⟩ := ho2.view
        have KMU := Lib.hid (refMul_any _ 2 2 [s0, s1] adp _ capp (limbs (5 ^ t)) w2 rfl (by decide) (by decide) HOX.out (HRX.out.below hb2) rfl c1 hpl ho2.1 c2)
        rw [HVX.out, val_limbs, HNS.out] at KMU
        have HL3 := Lib.hid (HL2.out.step hb2)
        clear hpl c1 c2 ho2 hb2 KPW
        generalize (limbs (5 ^ t)).length = np at *
        go_wp2_with fail
        refine KMU.out.mono ?_
        rintro r w3 ⟨v3, rfl, ho3, hb3⟩
        have hc3 := (HL3.out.step hb3).drop1.push (ent_own ho3 HLN.out)
        have KMM := Lib.hid (KM2.out _ _ _ _ hc3.again)
        have HC2 := Lib.hid hc3
        clear hc3 ho3 hb3 KM2 KMU HL3
        go_wp2_with fail
        refine KMM.out.mono ?_
        rintro r w4 ⟨v4, rfl, h3⟩
        obtain ⟨ad3, cap3, rfl, _⟩ := h3.get 0 rfl
        have hfin := (h3.on HC2.out).dropTwo
        obtain ⟨hc, hf⟩ := bcell hfin.below
        have HFIN := Lib.hid (Ctx.back H1.out hfin)
        clear h3 hfin
        generalize (limbs M).length = nm at *
        have hz : w.heap.size < (w.alloc (.cells #[.bool false, .slice none 0 0, .int .i64 0] 25)).heap.size := by simp
        have a0 := (hc w.heap.size 0 hz).trans (show _ = some (.bool false) by simp)
        have a1 := (hc w.heap.size 1 hz).trans (show _ = some (.slice none 0 0) by simp)
        have a2 := (hc w.heap.size 2 hz).trans (show _ = some (.int .i64 0) by simp)
        have b0 := (hf w.heap.size 0 hz).trans (show _ = false by simp)
        have b1 := (hf w.heap.size 1 hz).trans (show _ = false by simp)
        have b2 := (hf w.heap.size 2 hz).trans (show _ = false by simp)
        clear hc hf hz
        go_wp2_with fail
        exact bodyPost_ret (v := .tuple #[.agg #[.bool ng, .slice ad3 nm cap3, .int .i64 E], .bool true]) (by simp [results, Tryd.results13, go_sem, a0, a1, a2]) rfl ⟨_, rfl, HFIN.out.box3 hW.out a0 a1 a2 _ _ _⟩
  · rw [show pE 64 = 11 from rfl, show pF 64 = 52 from rfl] at KP
    rw [show leastF 11 52 = -1074 from by decide] at HT
    have ho : bits BinOp.or IntKind.u64 (fr : Int) 4503599627370496 = ((fr + 2 ^ 52 : Nat) : Int) := by have h := or_add hfr (by decide); exact h
    have e4 : IntKind.u64.wrap 4503599627370496 = 4503599627370496 := by decide
    have e5 : IntKind.i64.wrap 1024 = 1024 := by decide
    go_enter Tryd.func13, Tryd.ntmps13
    go_wp2_with fail
    refine (KK.out _).mono ?_
    rintro r w' ⟨rfl, rfl⟩
    go_wp2_with fail
    refine (KP.out _).mono ?_
    rintro r w' ⟨rfl, rfl⟩
    go_wp2_with fail
    refine (KS.out _).mono ?_
    rintro r w' ⟨rfl, rfl⟩
    go_upto_if 42 with fail
    go_cut [11, 12] (fun a b wx => a = .int .u64 (S : Int) ∧ b = .int .i64 T ∧ wx = w.alloc (.cells #[.bool false, .slice none 0 0, .int .i64 0] 25))
    case first =>
      by_cases h0 : ex = 0
      · have hz : ¬ (0 : Int) < (ex : Int) := by omega
        have HS1 := Lib.hid (HS.out.trans (if_pos h0))
        have HT1 := Lib.hid (HT.out.trans (if_pos h0))
        clear h0
        go_wp2_with fail
        go_meet
        exact ⟨by rw [HS1.out], by rw [HT1.out], rfl⟩
      · have hz : (0 : Int) < (ex : Int) := by omega
        have HS1 := Lib.hid (HS.out.trans (if_neg h0))
        have HT1 := Lib.hid (HT.out.trans (if_neg h0))
        clear h0
        go_wp2_with fail
        go_meet
        exact ⟨by first | (rw [HS1.out]; done) | (rw [HS1.out]; rfl) | (rw [HS1.out]; congr 1; omega), by first | (rw [HT1.out]; done) | (rw [HT1.out]; rfl) | (rw [HT1.out]; congr 1; omega), rfl⟩
    case rest =>
      obtain ⟨rfl, rfl, rfl⟩ := hcut
      clear HS HT hfr hex ho KS KK KP hlo e4 e5
      obtain ⟨ow, vw⟩ := words_two hs64
      have HL2 := Lib.hid (HC1.out.lits2 ow vw 2 rfl #[.int .u32 ((S % 4294967296 : Nat) : Int), .int .u32 ((S / 4294967296 : Nat) : Int)] rfl)
      have hw1 : IntKind.u32.wrap (S : Int) = ((S % 4294967296 : Nat) : Int) := by
        rw [show IntKind.u32.wrap (S : Int) = (S : Int) % 4294967296 by simp [IntKind.wrap, IntKind.bits, IntKind.signed]]; omega
      have hw2 : IntKind.u32.wrap ((S : Int) / 4294967296) = ((S / 4294967296 : Nat) : Int) := by
        rw [show IntKind.u32.wrap ((S : Int) / 4294967296) = (S : Int) / 4294967296 % 4294967296 by simp [IntKind.wrap, IntKind.bits, IntKind.signed]]; omega
      clear ow vw
      obtain ⟨ad0, cap0, hv0, a2, a3, a4, a5, a6⟩ := HL2.out.get 0 rfl
      simp only [Value.slice.injEq] at hv0
      obtain ⟨rfl, _, rfl⟩ := hv0
      have HOX := Lib.hid a4; have HRX := Lib.hid a5; have HVX := Lib.hid a6
      clear a2 a3 a4 a5 a6
      have HS64 := Lib.hid hs64; clear hs64
      generalize S % 4294967296 = s0 at *
      generalize S / 4294967296 = s1 at *
      by_cases ht : 0 ≤ T
      · obtain ⟨t, rfl⟩ : ∃ t : Nat, T = (t : Int) := ⟨T.toNat, by omega⟩
        have KSH := Lib.hid (refShift_any _ 2 2 [s0, s1] t _ rfl (by decide) (by decide) (by omega) HOX.out HRX.out)
        rw [HVX.out] at KSH
        have hNS : S * 2 ^ t = N := by rw [HN.out, show (-(t : Int)).toNat = 0 by omega, Int.toNat_natCast]; simp
        rw [hNS] at KSH
        have he0 : -((-(t : Int)).toNat : Int) = 0 := by omega
        have KM2 := Lib.hid (fun w0 w1 l v h => KM.out ng w0 w1 l v h)
        rw [he0] at KM2
        clear hNS he0
        go_wp2_with fail
        refine KSH.out.mono ?_
        rintro r w2 ⟨v2, rfl, ho2, hb2⟩
        have hc2 := (HL2.out.step hb2).drop1.push (ent_own ho2 HLN.out)
        have KMM := Lib.hid (KM2.out _ _ _ _ hc2.again)
        have HC2 := Lib.hid hc2
        clear hc2 ho2 hb2 KM2 KSH
        go_wp2_with fail
        refine KMM.out.mono ?_
        rintro r w3 ⟨v3, rfl, h3⟩
        obtain ⟨ad3, cap3, rfl, _⟩ := h3.get 0 rfl
        have hfin := (h3.on HC2.out).dropTwo
        obtain ⟨hc, hf⟩ := bcell hfin.below
        have HFIN := Lib.hid (Ctx.back H1.out hfin)
        clear h3 hfin
        generalize (limbs M).length = nm at *
        have hz : w.heap.size < (w.alloc (.cells #[.bool false, .slice none 0 0, .int .i64 0] 25)).heap.size := by simp
        have a0 := (hc w.heap.size 0 hz).trans (show _ = some (.bool false) by simp)
        have a1 := (hc w.heap.size 1 hz).trans (show _ = some (.slice none 0 0) by simp)
        have a2 := (hc w.heap.size 2 hz).trans (show _ = some (.int .i64 0) by simp)
        have b0 := (hf w.heap.size 0 hz).trans (show _ = false by simp)
        have b1 := (hf w.heap.size 1 hz).trans (show _ = false by simp)
        have b2 := (hf w.heap.size 2 hz).trans (show _ = false by simp)
        clear hc hf hz
        go_wp2_with fail
        exact bodyPost_ret (v := .tuple #[.agg #[.bool ng, .slice ad3 nm cap3, .int .i64 E], .bool true]) (by simp [results, Tryd.results13, go_sem, a0, a1, a2]) rfl ⟨_, rfl, HFIN.out.box3 hW.out a0 a1 a2 _ _ _⟩
      · obtain ⟨t, hT, ht1⟩ : ∃ t : Nat, T = -(t : Int) ∧ t ≤ 1074 := ⟨(-T).toNat, by omega, by omega⟩
        subst hT
        have KPW := Lib.hid (fun W => refPow_any 5 (t : Int) W (by decide) (by omega))
        rw [cutP_nat (by omega)] at KPW
        have hNS : S * 5 ^ t = N := by rw [HN.out, show (- -(t : Int)).toNat = t by omega, show (-(t : Int)).toNat = 0 by omega]; simp
        have he0 : -((- -(t : Int)).toNat : Int) = -(t : Int) := by omega
        have KM2 := Lib.hid (fun w0 w1 l v h => KM.out ng w0 w1 l v h)
        rw [he0] at KM2
        clear he0
        have hnn : - -(t : Int) = (t : Int) := by omega
        have htn : ¬ (0 : Int) ≤ -(t : Int) := ht
        have HNS := Lib.hid hNS; clear hNS
        go_wp2_with fail
        refine (KPW.out _).mono ?_
        rintro r w2 ⟨v2, rfl, ho2, hb2⟩
        have hpl : (limbs (5 ^ t)).length ≤ 1000000 := by
          have := limbs_length_le (pow_bound (show (5 : Nat) < B32 by decide) t)
          omega
        obtain ⟨adp, capp, rfl, c1, c2, _⟩ := ho2.view
        have KMU := Lib.hid (refMul_any _ 2 2 [s0, s1] adp _ capp (limbs (5 ^ t)) w2 rfl (by decide) (by decide) HOX.out (HRX.out.below hb2) rfl c1 hpl ho2.1 c2)
        rw [HVX.out, val_limbs, HNS.out] at KMU
        have HL3 := Lib.hid (HL2.out.step hb2)
        clear hpl c1 c2 ho2 hb2 KPW
        generalize (limbs (5 ^ t)).length = np at *
        go_wp2_with fail
        refine KMU.out.mono ?_
        rintro r w3 ⟨v3, rfl, ho3, hb3⟩
        have hc3 := (HL3.out.step hb3).drop1.push (ent_own ho3 HLN.out)
        have KMM := Lib.hid (KM2.out _ _ _ _ hc3.again)
        have HC2 := Lib.hid hc3
        clear hc3 ho3 hb3 KM2 KMU HL3
        go_wp2_with fail
        refine KMM.out.mono ?_
        rintro r w4 ⟨v4, rfl, h3⟩
        obtain ⟨ad3, cap3, rfl, _⟩ := h3.get 0 rfl
        have hfin := (h3.on HC2.out).dropTwo
        obtain ⟨hc, hf⟩ := bcell hfin.below
        have HFIN := Lib.hid (Ctx.back H1.out hfin)
        clear h3 hfin
        generalize (limbs M).length = nm at *
        have hz : w.heap.size < (w.alloc (.cells #[.bool false, .slice none 0 0, .int .i64 0] 25)).heap.size := by simp
        have a0 := (hc w.heap.size 0 hz).trans (show _ = some (.bool false) by simp)
        have a1 := (hc w.heap.size 1 hz).trans (show _ = some (.slice none 0 0) by simp)
        have a2 := (hc w.heap.size 2 hz).trans (show _ = some (.int .i64 0) by simp)
        have b0 := (hf w.heap.size 0 hz).trans (show _ = false by simp)
        have b1 := (hf w.heap.size 1 hz).trans (show _ = false by simp)
        have b2 := (hf w.heap.size 2 hz).trans (show _ = false by simp)
        clear hc hf hz
        go_wp2_with fail
        exact bodyPost_ret (v := .tuple #[.agg #[.bool ng, .slice ad3 nm cap3, .int .i64 E], .bool true]) (by simp [results, Tryd.results13, go_sem, a0, a1, a2]) rfl ⟨_, rfl, HFIN.out.box3 hW.out a0 a1 a2 _ _ _⟩
theorem rexact_all {w0 w : World} {l : List Ent} (h : Ctx w0 w l) (width : Int) (x : Nat) (hx : x < 18446744073709551616) :
    Calls Tryd.prog 13 #[.int .i64 width, .int .u64 (x : Int)] w (MadePost w0 l 2000 (exNegW width x) (exMW width x) (exEW width x) (okW width x)) := by
  by_cases hk : kindW width x = 1
  · unfold kindW at hk
    split at hk
    · rename_i e f hlo
      have hk1 : kindF e f x = 1 := by omega
      have e1 : exNegW width x = fNeg e f x := by unfold exNegW; rw [hlo]; simp [hk1]
      have e2 : exMW width x = exM e f x := by unfold exMW; rw [hlo]; simp [hk1]
      have e3 : exEW width x = exE e f x := by unfold exEW; rw [hlo]; simp [hk1]
      have e4 : okW width x = true := by unfold okW kindW; rw [hlo]; simp [hk1]
      rw [e1, e2, e3, e4]
      exact rexact_yes h width x hx hlo hk1
    · cases hk
  · obtain ⟨e1, e2, e3, e4⟩ := no_exact hk
    rw [e1, e2, e3, e4]
    exact rexact_no h width x hx hk
end Go.Proofs.YtokppjfaihkkcaaDoor
