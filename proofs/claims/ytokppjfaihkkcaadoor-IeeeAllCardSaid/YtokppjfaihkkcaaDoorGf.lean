/- The walk of layer 3's reference To. -/
import Derived.Test.YtokppjfaihkkcaaDoorGd
import Derived.Test.YtokppjfaihkkcaaDoorF9
namespace Go.Proofs.YtokppjfaihkkcaaDoor
open Go.RowKit Go.Sort
set_option linter.unusedVariables false
set_option linter.unusedSimpArgs false

theorem toF_some2 {width : Int} {e f M : Nat} {E : Int} {ng : Bool} (hl : layOf width = some (e, f)) (hM : M ≠ 0) : toF width ng M E = match toN e f M E with | none => none | some y => some (y + (if ng then 2 ^ (e + f) else 0)) := by
  unfold toF; rw [hl]; simp only []; rw [if_neg hM]; rfl
/-- What odd tells, and what it is for the bits. -/
theorem odd_tells {e f M : Nat} {E : Int} (hM : M < B32 ^ 90) (hM0 : M ≠ 0) (hlo : -1200 ≤ E) (hhi : E ≤ 1200) :
    (oddA M E = .tuple #[.int .u64 0, .int .i64 0, .bool false] ∧ toN e f M E = none) ∨
    ∃ o t, oddA M E = .tuple #[.int .u64 ((o : Nat) : Int), .int .i64 t, .bool true] ∧ toN e f M E = joinF e f o t ∧ o ≠ 0 ∧ o < 18446744073709551616 ∧ -1000000 ≤ t ∧ t ≤ 1000000 := by
  unfold oddA toN
  cases hP : fives M E with
  | none => exact .inl ⟨rfl, rfl⟩
  | some P =>
    have hP0 := fives_ne hM0 hP
    by_cases hb : odd P < 18446744073709551616
    · right
      simp only [if_pos hb]
      have ho0 := odd_pos hP0
      refine ⟨odd P, E + (tz P : Int), rfl, by first | rfl | rw [if_pos (show odd P < 2 ^ 64 from hb)], by omega, hb, by omega, ?_⟩
      obtain ⟨KK, hKK⟩ : ∃ KK, KK = 64000 := ⟨_, rfl⟩
      have hle : P ≤ M * 5 ^ E.toNat := by
        rw [fives_eq] at hP
        split at hP
        · injection hP with hP
          rw [← hP]; exact Nat.div_le_self _ _
        · cases hP
      have h1 := val_lt (limbs_ok (M * 5 ^ E.toNat))
      rw [val_limbs] at h1
      have hl := five_len hM (show E.toNat ≤ 1200 by omega)
      have h2 : B32 ^ (limbs (M * 5 ^ E.toNat)).length ≤ 2 ^ KK := by
        rw [B32_eq, show (4294967296 : Nat) = 2 ^ 32 from rfl, ← Nat.pow_mul]
        exact Nat.pow_le_pow_right (by decide) (by omega)
      have h3 := (tz_spec hP0).1
      have h4 : 2 ^ tz P ≤ P := by
        conv => rhs; rw [h3]
        exact Nat.le_mul_of_pos_left _ ho0
      have := two_lt_iff.1 (Nat.lt_of_le_of_lt h4 (Nat.lt_of_le_of_lt hle (Nat.lt_of_lt_of_le h1 h2)))
      omega
    · left
      simp only [if_neg hb]
      exact ⟨by trivial, by first | trivial | rw [if_neg (show ¬ odd P < 2 ^ 64 from hb)]⟩
def TLRel (e f o : Nat) (t : Int) (w : World) (v two : Value) (wr : World) : Prop :=
  ∃ j : Nat, v = .int .u64 ((o * 2 ^ j : Nat) : Int) ∧ two = .int .i64 (t - (j : Int)) ∧ (j = 0 ∨ (o * 2 ^ j < 2 ^ (f + 1) ∧ leastF e f ≤ t - (j : Int))) ∧ wr = w
theorem mask_low {A f : Nat} (h1 : 2 ^ f ≤ A) (h2 : A < 2 ^ (f + 1)) : A % 2 ^ f = A - 2 ^ f := by
  rw [Nat.mod_eq_sub_mod h1, Nat.mod_eq_of_lt]
  rw [Nat.pow_succ] at h2
  omega
theorem or_sum {a b f : Nat} (h : b < 2 ^ f) (h2 : a * 2 ^ f < 18446744073709551616) (h3 : b < 18446744073709551616) : bits BinOp.or IntKind.u64 ((a * 2 ^ f : Nat) : Int) (b : Int) = ((a * 2 ^ f + b : Nat) : Int) := by
  rw [bits_or_u64_nat _ _ h2 h3, nat_join f (a * 2 ^ f) b (Nat.mul_mod_left _ _) h]

theorem or_top {a f : Nat} (h : a < 2 ^ f) (hf : f < 64) : bits BinOp.or IntKind.u64 (a : Int) ((2 ^ f : Nat) : Int) = ((a + 2 ^ f : Nat) : Int) := by
  have h1 : 2 ^ f ≤ 2 ^ 63 := Nat.pow_le_pow_right (by decide) (by omega)
  rw [bits_or_u64_nat a _ (by omega) (by omega), Nat.or_comm, nat_join f (2 ^ f) a (Nat.mod_self _) h, Nat.add_comm]

set_option maxHeartbeats 16000000 in
set_option maxRecDepth 100000 in
theorem rto_num {w0 w : World} {l : List Ent} (h : Ctx w0 w l) (width : Int) {e f : Nat} (hlo : layOf width = some (e, f)) (i : Nat) {ad : Option Addr} {n cap L M : Nat} {xs : List Nat} (hi : l[i]? = some ⟨.slice ad n cap, L, M, xs⟩) (hL : L ≤ 2000) (ng : Bool) (E : Int) (hc : chkB ng xs E = true) (hM0 : M ≠ 0) :
    Calls Tryd.prog 16 #[.int .i64 width, .agg #[.bool ng, .slice ad n cap, .int .i64 E]] w (ToPost w0 l (toF width ng M E)) := by
  obtain ⟨b90, blo, bhi⟩ := chkB_bounds hc
  have hMB : M < B32 ^ 90 := by
    obtain ⟨_, _, _, _, _, q4, _, q6⟩ := h.get i hi
    rw [← q6]
    exact Nat.lt_of_lt_of_le (val_lt q4) (Nat.pow_le_pow_right (by rw [B32_eq]; decide) b90)
  have hn0 : n ≠ 0 := by
    obtain ⟨_, _, hv, _, _, q4, _, q6⟩ := h.get i hi
    simp only [Value.slice.injEq] at hv
    intro hz
    have : xs = [] := List.eq_nil_of_length_eq_zero (by omega)
    rw [this] at q6
    exact hM0 q6.symm
  have hnz : ((n : Int) == 0) = false := by rw [beq_eq_false_iff_ne]; omega
  have hOT := odd_tells (e := e) (f := f) hMB hM0 blo bhi
  have HTF : Hid (toF width ng M E = match toN e f M E with | none => none | some y => some (y + (if ng then 2 ^ (e + f) else 0))) := by
    exact toF_some2 hlo hM0
  have KP := Lib.hid (fun W => rparts_any width W)
  have hb1 := below_box w #[.bool ng, .slice ad n cap, .int .i64 E] 25
  have hC1 := h.step hb1
  have KI : Hid (Calls Tryd.prog 50 #[.agg #[.bool ng, .slice ad n cap, .int .i64 E]] (w.alloc (.cells #[.bool ng, .slice ad n cap, .int .i64 E] 25)) (NumBelow ng (.slice ad n cap) E (w.alloc (.cells #[.bool ng, .slice ad n cap, .int .i64 E] 25)))) := by
    obtain ⟨_, _, hv, q2, q3, q4, q5, q6⟩ := hC1.get i hi
    simp only [Value.slice.injEq] at hv
    obtain ⟨rfl, hnn, rfl⟩ := hv
    exact Lib.hid (ris_yes ng ad n cap xs E (w.alloc (.cells #[.bool ng, .slice ad n cap, .int .i64 E] 25)) hnn.symm (by omega) (by omega) q4 q5 hc)
  have B1 := Lib.hid (bx_new w ng (.slice ad n cap) E)
  have HC1 := Lib.hid hC1
  have KO := Lib.hid (fun W (hW : Ctx W W l) => rodd_any hW i hi hL ng E hc hM0)
  have hlay := layOf_lay hlo
  have JL := Lib.hid (fun (o j : Nat) (t : Int) h0 h64 h1 h2 => @join_loop e f o j t hlay h0 h64 h1 h2)
  clear h hb1 hC1 hi hc hM0 hMB hn0 blo bhi b90 hlay
  obtain ⟨x1, x2, x3, x4⟩ := B1.out
  generalize hT : toN e f M E = TN at *
  generalize toF width ng M E = TF at *
  clear hT
  rcases lay_w hlo with ⟨rfl, rfl, rfl⟩ | ⟨rfl, rfl, rfl⟩ | ⟨rfl, rfl, rfl⟩
  · rw [show pE 16 = 5 from rfl, show pF 16 = 10 from rfl] at KP
    have hleast : leastF 5 10 = -24 := by decide
    have e4 : IntKind.u64.wrap 1024 = 1024 := by decide
    have e5 : IntKind.i64.wrap 16 = 16 := by decide
    have e6 : IntKind.u64.wrap 2048 = 2048 := by decide
    have e7 : IntKind.i64.wrap 32 = 32 := by decide
    have e8 : IntKind.u64.wrap 32768 = 32768 := by decide
    go_enter Tryd.func16, Tryd.ntmps16
    go_wp2_with fail
    refine (KP.out _).mono ?_
    rintro r w' ⟨rfl, rfl⟩
    go_wp2_with fail
    refine KI.out.mono ?_
    rintro r w2 ⟨rfl, hb2⟩
    have hbx := below_box w2 #[.bool ng, .slice ad n cap, .int .i64 E] 25
    have HC2 := Lib.hid ((HC1.out.step hb2).step hbx)
    have C2 := Lib.hid (bx_new w2 ng (.slice ad n cap) E)
    clear hb2 hbx x1 x2 x3 x4 B1 HC1 KI KP
    obtain ⟨y1, y2, y3, y4⟩ := C2.out
    have KO2 := Lib.hid (KO.out _ HC2.out.again)
    rcases hOT with ⟨ho, hT⟩ | ⟨o, t, ho, hT, ho0, ho64, hlo2, hhi2⟩
    · have HA : Hid (TF = none) := by show _ = _; rw [HTF.out, hT]
      unfold OdPost at KO2
      rw [ho] at KO2
      clear ho hT HTF
      go_wp2_with fail
      refine KO2.out.mono ?_
      rintro r w3 ⟨rfl, h3⟩
      have HFIN := Lib.hid (h3.on HC2.out)
      clear h3 y1 y2 y3 y4
      go_wp2_with fail
      go_ret2
      exact ⟨by rw [HA.out]; rfl, HFIN.out⟩
    · unfold OdPost at KO2
      rw [ho] at KO2
      have HJ := Lib.hid hT
      have HO0 := Lib.hid ho0
      clear ho hT ho0
      go_wp2_with fail
      refine KO2.out.mono ?_
      rintro r w3 ⟨rfl, h3⟩
      have HFIN := Lib.hid (h3.on HC2.out)
      have hb23 := C2.out.step h3.below
      clear h3 y1 y2 y3 y4
      obtain ⟨y1, y2, y3, y4⟩ := hb23
      go_wp2_with fail
      have hmf : 1023 < 18446744073709551616 := by decide
      go_loopw [9, 10] (fun v two wr => TLRel 5 10 o t w3 v two wr) (fun _ two _ => (intOf two + 24).toNat)
      case atStart => exact ⟨0, by rw [Nat.pow_zero, Nat.mul_one], by rw [show (t - ((0 : Nat) : Int)) = t by omega], .inl rfl, rfl⟩
      case round =>
        obtain ⟨j, rfl, rfl, h1, hwr⟩ := hrel
        subst hwr
        have JJ := fun h2 => JL.out o j t HO0.out ho64 h1 h2
        rw [hleast] at h1 JJ
        have hA2 : o * 2 ^ (j + 1) = o * 2 ^ j * 2 := by rw [Nat.pow_succ, Nat.mul_assoc]
        have hA0 : j = 0 → o * 2 ^ j = o := fun h => by rw [h, Nat.pow_zero, Nat.mul_one]
        generalize o * 2 ^ j = A at *
        have hAb : A < 18446744073709551616 := by
          rcases h1 with h1 | h1
          · rw [hA0 h1]; exact ho64
          · exact Nat.lt_trans h1.1 (by decide)
        have HA2 := Lib.hid hA2
        clear hA2 hA0
        by_cases c : A < 1024 ∧ -24 < t - (j : Int)
        · obtain ⟨ca, cb⟩ := c
          have caz : (A : Int) < 1024 := by omega
          clear JJ h1
          go_wp2_with fail
          go_roundw
          case rel => exact ⟨j + 1, by rw [HA2.out]; go_num, by go_num, .inr ⟨by rw [HA2.out]; show A * 2 < 2048; omega, by rw [hleast]; omega⟩, rfl⟩
          case measure => simp [intOf]; omega
        · have HJ2 := Lib.hid (fun h2 => HJ.out.trans (JJ h2))
          have hub : -1000000 ≤ t - (j : Int) ∧ t - (j : Int) ≤ 1000000 := by rcases h1 with h1 | h1 <;> omega
          clear JJ HA2 h1
          generalize t - (j : Int) = u at *
          by_cases d0 : 1024 ≤ A
          · have HJ3 := Lib.hid (HJ2.out (.inl d0))
            have d0z : ¬ (A : Int) < 1024 := by omega
            by_cases d1 : 2048 ≤ A
            · have d1z : (2048 : Int) ≤ (A : Int) := by omega
              have HA : Hid (TF = none) := by show _ = _; rw [HTF.out, HJ3.out, if_pos (.inl d1)]
              clear c d0 d1
              go_wp2_with fail
              go_ret2
              exact ⟨by rw [HA.out]; rfl, HFIN.out⟩
            · have d1z : ¬ (2048 : Int) ≤ (A : Int) := by omega
              by_cases d2 : u < -24
              · have HA : Hid (TF = none) := by show _ = _; rw [HTF.out, HJ3.out, if_pos (.inr d2)]
                clear c d0 d1
                go_wp2_with fail
                go_ret2
                exact ⟨by rw [HA.out]; rfl, HFIN.out⟩
              · obtain ⟨ex, hex⟩ : ∃ ex : Nat, u = (ex : Int) + -25 := ⟨(u - -25).toNat, by omega⟩
                have hex1 : 1 ≤ ex := by omega
                have hexu : ex ≤ 2000000 := by omega
                have d0n : (1024 : Int) ≤ (A : Int) := by omega
                by_cases d3 : 31 ≤ ex
                · have HA : Hid (TF = none) := by
                    show _ = _
                    rw [HTF.out, HJ3.out, if_neg (show ¬ (2 ^ (10 + 1) ≤ A ∨ u < -24) from fun h => h.elim d1 d2), if_pos (show 2 ^ 10 ≤ A from d0), if_pos]
                    rw [show (2 : Int) ^ 5 - 1 = 31 from by decide]; omega
                  have d3z : (31 : Int) ≤ u + 24 + 1 := by omega
                  clear c d0 d1 hex hex1 hexu d3
                  go_wp2_with fail
                  go_ret2
                  exact ⟨by rw [HA.out]; rfl, HFIN.out⟩
                · obtain ⟨B, hB⟩ : ∃ B, A - 2 ^ 10 = B := ⟨_, rfl⟩
                  have hlow : bits BinOp.and IntKind.u64 (A : Int) 1023 = (B : Int) := by
                    have h := mask_and A 10 hAb (by decide)
                    rw [mask_low (f := 10) d0 (by omega), hB] at h
                    exact h
                  have hBl : B < 2 ^ 10 := by omega
                  obtain ⟨y, hy⟩ : ∃ y, ex * 2 ^ 10 + B = y := ⟨_, rfl⟩
                  have hyl : y < 2 ^ (5 + 10) := by omega
                  have hor : bits BinOp.or IntKind.u64 ((ex : Int) * 1024) (B : Int) = (y : Int) := by
                    have h := or_sum (a := ex) (b := B) (f := 10) hBl (by omega) (by omega)
                    rw [hy, show ((ex * 2 ^ 10 : Nat) : Int) = (ex : Int) * 1024 by omega] at h
                    exact h
                  have hor : bits BinOp.or IntKind.u64 ((u + 24 + 1) * 1024) (B : Int) = (y : Int) := by
                    rw [show (u + 24 + 1) = (ex : Int) by omega]; exact hor
                  have hsg : bits BinOp.or IntKind.u64 (y : Int) 32768 = ((y + 2 ^ (5 + 10) : Nat) : Int) := by
                    have h := or_top (a := y) (f := 5 + 10) hyl (by decide)
                    exact h
                  have HA : Hid (TF = some (y + (if ng then 2 ^ (5 + 10) else 0))) := by
                    show _ = _
                    rw [HTF.out, HJ3.out, if_neg (show ¬ (2 ^ (10 + 1) ≤ A ∨ u < -24) from fun h => h.elim d1 d2), if_pos (show 2 ^ 10 ≤ A from d0), if_neg]
                    · rw [hB, show (u - -24 + 1).toNat = ex by omega, hy]
                    · rw [show (2 : Int) ^ 5 - 1 = 31 from by decide]; omega
                  have hexb : ex < 32 := by omega
                  have d3z : ¬ (31 : Int) ≤ u + 24 + 1 := by omega
                  have hx0 : 1 ≤ u + 24 + 1 := by omega
                  have hx1 : u + 24 + 1 < 32 := by omega
                  clear c d0 d1 hB hy hyl hex hex1 hexu hexb d3
                  cases ng
                  · clear hsg
                    go_wp2_with fail
                    go_ret2
                    exact ⟨by rw [HA.out]; rfl, HFIN.out⟩
                  · have HA2 : Hid (TF = some (y + 2 ^ (5 + 10))) := HA
                    clear HA
                    generalize y + 2 ^ (5 + 10) = z at *
                    go_wp2_with fail
                    go_ret2
                    exact ⟨by rw [HA2.out]; rfl, HFIN.out⟩
          · have hul : u ≤ -24 := by
              rcases Int.lt_or_le (-24) u with h | h
              · exact absurd ⟨by omega, h⟩ c
              · exact h
            have HJ3 := Lib.hid (HJ2.out (.inr hul))
            have d0z : (A : Int) < 1024 := by omega
            have d0n : ¬ (1024 : Int) ≤ (A : Int) := by omega
            have d1z : ¬ (2048 : Int) ≤ (A : Int) := by omega
            have hun : ¬ (-24 : Int) < u := by omega
            by_cases d2 : u < -24
            · have HA : Hid (TF = none) := by show _ = _; rw [HTF.out, HJ3.out, if_pos (.inr d2)]
              clear c d0
              go_wp2_with fail
              go_ret2
              exact ⟨by rw [HA.out]; rfl, HFIN.out⟩
            · have hlow : bits BinOp.and IntKind.u64 (A : Int) 1023 = (A : Int) := by
                have h := mask_and A 10 hAb (by decide)
                rw [Nat.mod_eq_of_lt (show A < 2 ^ 10 by omega)] at h
                exact h
              have hor : bits BinOp.or IntKind.u64 0 (A : Int) = (A : Int) := by
                have h := bits_or_u64_nat 0 A (by decide) hAb
                rw [Nat.zero_or] at h
                exact h
              have hsg : bits BinOp.or IntKind.u64 (A : Int) 32768 = ((A + 2 ^ (5 + 10) : Nat) : Int) := by
                have h := or_top (a := A) (f := 5 + 10) (by omega) (by decide)
                exact h
              have HA : Hid (TF = some (A + (if ng then 2 ^ (5 + 10) else 0))) := by
                show _ = _
                rw [HTF.out, HJ3.out, if_neg (show ¬ (2 ^ (10 + 1) ≤ A ∨ u < -24) from fun h => h.elim (fun h => by omega) d2), if_neg (show ¬ 2 ^ 10 ≤ A from d0)]
              clear c d0
              cases ng
              · clear hsg
                go_wp2_with fail
                go_ret2
                exact ⟨by rw [HA.out]; rfl, HFIN.out⟩
              · have HA2 : Hid (TF = some (A + 2 ^ (5 + 10))) := HA
                clear HA
                generalize A + 2 ^ (5 + 10) = z at *
                go_wp2_with fail
                go_ret2
                exact ⟨by rw [HA2.out]; rfl, HFIN.out⟩
  · rw [show pE 32 = 8 from rfl, show pF 32 = 23 from rfl] at KP
    have hleast : leastF 8 23 = -149 := by decide
    have e4 : IntKind.u64.wrap 8388608 = 8388608 := by decide
    have e5 : IntKind.i64.wrap 128 = 128 := by decide
    have e6 : IntKind.u64.wrap 16777216 = 16777216 := by decide
    have e7 : IntKind.i64.wrap 256 = 256 := by decide
    have e8 : IntKind.u64.wrap 2147483648 = 2147483648 := by decide
    go_enter Tryd.func16, Tryd.ntmps16
    go_wp2_with fail
    refine (KP.out _).mono ?_
    rintro r w' ⟨rfl, rfl⟩
    go_wp2_with fail
    refine KI.out.mono ?_
    rintro r w2 ⟨rfl, hb2⟩
    have hbx := below_box w2 #[.bool ng, .slice ad n cap, .int .i64 E] 25
    have HC2 := Lib.hid ((HC1.out.step hb2).step hbx)
    have C2 := Lib.hid (bx_new w2 ng (.slice ad n cap) E)
    clear hb2 hbx x1 x2 x3 x4 B1 HC1 KI KP
    obtain ⟨y1, y2, y3, y4⟩ := C2.out
    have KO2 := Lib.hid (KO.out _ HC2.out.again)
    rcases hOT with ⟨ho, hT⟩ | ⟨o, t, ho, hT, ho0, ho64, hlo2, hhi2⟩
    · have HA : Hid (TF = none) := by show _ = _; rw [HTF.out, hT]
      unfold OdPost at KO2
      rw [ho] at KO2
      clear ho hT HTF
      go_wp2_with fail
      refine KO2.out.mono ?_
      rintro r w3 ⟨rfl, h3⟩
      have HFIN := Lib.hid (h3.on HC2.out)
      clear h3 y1 y2 y3 y4
      go_wp2_with fail
      go_ret2
      exact ⟨by rw [HA.out]; rfl, HFIN.out⟩
    · unfold OdPost at KO2
      rw [ho] at KO2
      have HJ := Lib.hid hT
      have HO0 := Lib.hid ho0
      clear ho hT ho0
      go_wp2_with fail
      refine KO2.out.mono ?_
      rintro r w3 ⟨rfl, h3⟩
      have HFIN := Lib.hid (h3.on HC2.out)
      have hb23 := C2.out.step h3.below
      clear h3 y1 y2 y3 y4
      obtain ⟨y1, y2, y3, y4⟩ := hb23
      go_wp2_with fail
      have hmf : 8388607 < 18446744073709551616 := by decide
      go_loopw [9, 10] (fun v two wr => TLRel 8 23 o t w3 v two wr) (fun _ two _ => (intOf two + 149).toNat)
      case atStart => exact ⟨0, by rw [Nat.pow_zero, Nat.mul_one], by rw [show (t - ((0 : Nat) : Int)) = t by omega], .inl rfl, rfl⟩
      case round =>
        obtain ⟨j, rfl, rfl, h1, hwr⟩ := hrel
        subst hwr
        have JJ := fun h2 => JL.out o j t HO0.out ho64 h1 h2
        rw [hleast] at h1 JJ
        have hA2 : o * 2 ^ (j + 1) = o * 2 ^ j * 2 := by rw [Nat.pow_succ, Nat.mul_assoc]
        have hA0 : j = 0 → o * 2 ^ j = o := fun h => by rw [h, Nat.pow_zero, Nat.mul_one]
        generalize o * 2 ^ j = A at *
        have hAb : A < 18446744073709551616 := by
          rcases h1 with h1 | h1
          · rw [hA0 h1]; exact ho64
          · exact Nat.lt_trans h1.1 (by decide)
        have HA2 := Lib.hid hA2
        clear hA2 hA0
        by_cases c : A < 8388608 ∧ -149 < t - (j : Int)
        · obtain ⟨ca, cb⟩ := c
          have caz : (A : Int) < 8388608 := by omega
          clear JJ h1
          go_wp2_with fail
          go_roundw
          case rel => exact ⟨j + 1, by rw [HA2.out]; go_num, by go_num, .inr ⟨by rw [HA2.out]; show A * 2 < 16777216; omega, by rw [hleast]; omega⟩, rfl⟩
          case measure => simp [intOf]; omega
        · have HJ2 := Lib.hid (fun h2 => HJ.out.trans (JJ h2))
          have hub : -1000000 ≤ t - (j : Int) ∧ t - (j : Int) ≤ 1000000 := by rcases h1 with h1 | h1 <;> omega
          clear JJ HA2 h1
          generalize t - (j : Int) = u at *
          by_cases d0 : 8388608 ≤ A
          · have HJ3 := Lib.hid (HJ2.out (.inl d0))
            have d0z : ¬ (A : Int) < 8388608 := by omega
            by_cases d1 : 16777216 ≤ A
            · have d1z : (16777216 : Int) ≤ (A : Int) := by omega
              have HA : Hid (TF = none) := by show _ = _; rw [HTF.out, HJ3.out, if_pos (.inl d1)]
              clear c d0 d1
              go_wp2_with fail
              go_ret2
              exact ⟨by rw [HA.out]; rfl, HFIN.out⟩
            · have d1z : ¬ (16777216 : Int) ≤ (A : Int) := by omega
              by_cases d2 : u < -149
              · have HA : Hid (TF = none) := by show _ = _; rw [HTF.out, HJ3.out, if_pos (.inr d2)]
                clear c d0 d1
                go_wp2_with fail
                go_ret2
                exact ⟨by rw [HA.out]; rfl, HFIN.out⟩
              · obtain ⟨ex, hex⟩ : ∃ ex : Nat, u = (ex : Int) + -150 := ⟨(u - -150).toNat, by omega⟩
                have hex1 : 1 ≤ ex := by omega
                have hexu : ex ≤ 2000000 := by omega
                have d0n : (8388608 : Int) ≤ (A : Int) := by omega
                by_cases d3 : 255 ≤ ex
                · have HA : Hid (TF = none) := by
                    show _ = _
                    rw [HTF.out, HJ3.out, if_neg (show ¬ (2 ^ (23 + 1) ≤ A ∨ u < -149) from fun h => h.elim d1 d2), if_pos (show 2 ^ 23 ≤ A from d0), if_pos]
                    rw [show (2 : Int) ^ 8 - 1 = 255 from by decide]; omega
                  have d3z : (255 : Int) ≤ u + 149 + 1 := by omega
                  clear c d0 d1 hex hex1 hexu d3
                  go_wp2_with fail
                  go_ret2
                  exact ⟨by rw [HA.out]; rfl, HFIN.out⟩
                · obtain ⟨B, hB⟩ : ∃ B, A - 2 ^ 23 = B := ⟨_, rfl⟩
                  have hlow : bits BinOp.and IntKind.u64 (A : Int) 8388607 = (B : Int) := by
                    have h := mask_and A 23 hAb (by decide)
                    rw [mask_low (f := 23) d0 (by omega), hB] at h
                    exact h
                  have hBl : B < 2 ^ 23 := by omega
                  obtain ⟨y, hy⟩ : ∃ y, ex * 2 ^ 23 + B = y := ⟨_, rfl⟩
                  have hyl : y < 2 ^ (8 + 23) := by omega
                  have hor : bits BinOp.or IntKind.u64 ((ex : Int) * 8388608) (B : Int) = (y : Int) := by
                    have h := or_sum (a := ex) (b := B) (f := 23) hBl (by omega) (by omega)
                    rw [hy, show ((ex * 2 ^ 23 : Nat) : Int) = (ex : Int) * 8388608 by omega] at h
                    exact h
                  have hor : bits BinOp.or IntKind.u64 ((u + 149 + 1) * 8388608) (B : Int) = (y : Int) := by
                    rw [show (u + 149 + 1) = (ex : Int) by omega]; exact hor
                  have hsg : bits BinOp.or IntKind.u64 (y : Int) 2147483648 = ((y + 2 ^ (8 + 23) : Nat) : Int) := by
                    have h := or_top (a := y) (f := 8 + 23) hyl (by decide)
                    exact h
                  have HA : Hid (TF = some (y + (if ng then 2 ^ (8 + 23) else 0))) := by
                    show _ = _
                    rw [HTF.out, HJ3.out, if_neg (show ¬ (2 ^ (23 + 1) ≤ A ∨ u < -149) from fun h => h.elim d1 d2), if_pos (show 2 ^ 23 ≤ A from d0), if_neg]
                    · rw [hB, show (u - -149 + 1).toNat = ex by omega, hy]
                    · rw [show (2 : Int) ^ 8 - 1 = 255 from by decide]; omega
                  have hexb : ex < 256 := by omega
                  have d3z : ¬ (255 : Int) ≤ u + 149 + 1 := by omega
                  have hx0 : 1 ≤ u + 149 + 1 := by omega
                  have hx1 : u + 149 + 1 < 256 := by omega
                  clear c d0 d1 hB hy hyl hex hex1 hexu hexb d3
                  cases ng
                  · clear hsg
                    go_wp2_with fail
                    go_ret2
                    exact ⟨by rw [HA.out]; rfl, HFIN.out⟩
                  · have HA2 : Hid (TF = some (y + 2 ^ (8 + 23))) := HA
                    clear HA
                    generalize y + 2 ^ (8 + 23) = z at *
                    go_wp2_with fail
                    go_ret2
                    exact ⟨by rw [HA2.out]; rfl, HFIN.out⟩
          · have hul : u ≤ -149 := by
              rcases Int.lt_or_le (-149) u with h | h
              · exact absurd ⟨by omega, h⟩ c
              · exact h
            have HJ3 := Lib.hid (HJ2.out (.inr hul))
            have d0z : (A : Int) < 8388608 := by omega
            have d0n : ¬ (8388608 : Int) ≤ (A : Int) := by omega
            have d1z : ¬ (16777216 : Int) ≤ (A : Int) := by omega
            have hun : ¬ (-149 : Int) < u := by omega
            by_cases d2 : u < -149
            · have HA : Hid (TF = none) := by show _ = _; rw [HTF.out, HJ3.out, if_pos (.inr d2)]
              clear c d0
              go_wp2_with fail
              go_ret2
              exact ⟨by rw [HA.out]; rfl, HFIN.out⟩
            · have hlow : bits BinOp.and IntKind.u64 (A : Int) 8388607 = (A : Int) := by
                have h := mask_and A 23 hAb (by decide)
                rw [Nat.mod_eq_of_lt (show A < 2 ^ 23 by omega)] at h
                exact h
              have hor : bits BinOp.or IntKind.u64 0 (A : Int) = (A : Int) := by
                have h := bits_or_u64_nat 0 A (by decide) hAb
                rw [Nat.zero_or] at h
                exact h
              have hsg : bits BinOp.or IntKind.u64 (A : Int) 2147483648 = ((A + 2 ^ (8 + 23) : Nat) : Int) := by
                have h := or_top (a := A) (f := 8 + 23) (by omega) (by decide)
                exact h
              have HA : Hid (TF = some (A + (if ng then 2 ^ (8 + 23) else 0))) := by
                show _ = _
                rw [HTF.out, HJ3.out, if_neg (show ¬ (2 ^ (23 + 1) ≤ A ∨ u < -149) from fun h => h.elim (fun h => by omega) d2), if_neg (show ¬ 2 ^ 23 ≤ A from d0)]
              clear c d0
              cases ng
              · clear hsg
                go_wp2_with fail
                go_ret2
                exact ⟨by rw [HA.out]; rfl, HFIN.out⟩
              · have HA2 : Hid (TF = some (A + 2 ^ (8 + 23))) := HA
                clear HA
                generalize A + 2 ^ (8 + 23) = z at *
                go_wp2_with fail
                go_ret2
                exact ⟨by rw [HA2.out]; rfl, HFIN.out⟩
  · rw [show pE 64 = 11 from rfl, show pF 64 = 52 from rfl] at KP
    have hleast : leastF 11 52 = -1074 := by decide
    have e4 : IntKind.u64.wrap 4503599627370496 = 4503599627370496 := by decide
    have e5 : IntKind.i64.wrap 1024 = 1024 := by decide
    have e6 : IntKind.u64.wrap 9007199254740992 = 9007199254740992 := by decide
    have e7 : IntKind.i64.wrap 2048 = 2048 := by decide
    have e8 : IntKind.u64.wrap 9223372036854775808 = 9223372036854775808 := by decide
    go_enter Tryd.func16, Tryd.ntmps16
    go_wp2_with fail
    refine (KP.out _).mono ?_
    rintro r w' ⟨rfl, rfl⟩
    go_wp2_with fail
    refine KI.out.mono ?_
    rintro r w2 ⟨rfl, hb2⟩
    have hbx := below_box w2 #[.bool ng, .slice ad n cap, .int .i64 E] 25
    have HC2 := Lib.hid ((HC1.out.step hb2).step hbx)
    have C2 := Lib.hid (bx_new w2 ng (.slice ad n cap) E)
    clear hb2 hbx x1 x2 x3 x4 B1 HC1 KI KP
    obtain ⟨y1, y2, y3, y4⟩ := C2.out
    have KO2 := Lib.hid (KO.out _ HC2.out.again)
    rcases hOT with ⟨ho, hT⟩ | ⟨o, t, ho, hT, ho0, ho64, hlo2, hhi2⟩
    · have HA : Hid (TF = none) := by show _ = _; rw [HTF.out, hT]
      unfold OdPost at KO2
      rw [ho] at KO2
      clear ho hT HTF
      go_wp2_with fail
      refine KO2.out.mono ?_
      rintro r w3 ⟨rfl, h3⟩
      have HFIN := Lib.hid (h3.on HC2.out)
      clear h3 y1 y2 y3 y4
      go_wp2_with fail
      go_ret2
      exact ⟨by rw [HA.out]; rfl, HFIN.out⟩
    · unfold OdPost at KO2
      rw [ho] at KO2
      have HJ := Lib.hid hT
      have HO0 := Lib.hid ho0
      clear ho hT ho0
      go_wp2_with fail
      refine KO2.out.mono ?_
      rintro r w3 ⟨rfl, h3⟩
      have HFIN := Lib.hid (h3.on HC2.out)
      have hb23 := C2.out.step h3.below
      clear h3 y1 y2 y3 y4
      obtain ⟨y1, y2, y3, y4⟩ := hb23
      go_wp2_with fail
      have hmf : 4503599627370495 < 18446744073709551616 := by decide
      go_loopw [9, 10] (fun v two wr => TLRel 11 52 o t w3 v two wr) (fun _ two _ => (intOf two + 1074).toNat)
      case atStart => exact ⟨0, by rw [Nat.pow_zero, Nat.mul_one], by rw [show (t - ((0 : Nat) : Int)) = t by omega], .inl rfl, rfl⟩
      case round =>
        obtain ⟨j, rfl, rfl, h1, hwr⟩ := hrel
        subst hwr
        have JJ := fun h2 => JL.out o j t HO0.out ho64 h1 h2
        rw [hleast] at h1 JJ
        have hA2 : o * 2 ^ (j + 1) = o * 2 ^ j * 2 := by rw [Nat.pow_succ, Nat.mul_assoc]
        have hA0 : j = 0 → o * 2 ^ j = o := fun h => by rw [h, Nat.pow_zero, Nat.mul_one]
        generalize o * 2 ^ j = A at *
        have hAb : A < 18446744073709551616 := by
          rcases h1 with h1 | h1
          · rw [hA0 h1]; exact ho64
          · exact Nat.lt_trans h1.1 (by decide)
        have HA2 := Lib.hid hA2
        clear hA2 hA0
        by_cases c : A < 4503599627370496 ∧ -1074 < t - (j : Int)
        · obtain ⟨ca, cb⟩ := c
          have caz : (A : Int) < 4503599627370496 := by omega
          clear JJ h1
          go_wp2_with fail
          go_roundw
          case rel => exact ⟨j + 1, by rw [HA2.out]; go_num, by go_num, .inr ⟨by rw [HA2.out]; show A * 2 < 9007199254740992; omega, by rw [hleast]; omega⟩, rfl⟩
          case measure => simp [intOf]; omega
        · have HJ2 := Lib.hid (fun h2 => HJ.out.trans (JJ h2))
          have hub : -1000000 ≤ t - (j : Int) ∧ t - (j : Int) ≤ 1000000 := by rcases h1 with h1 | h1 <;> omega
          clear JJ HA2 h1
          generalize t - (j : Int) = u at *
          by_cases d0 : 4503599627370496 ≤ A
          · have HJ3 := Lib.hid (HJ2.out (.inl d0))
            have d0z : ¬ (A : Int) < 4503599627370496 := by omega
            by_cases d1 : 9007199254740992 ≤ A
            · have d1z : (9007199254740992 : Int) ≤ (A : Int) := by omega
              have HA : Hid (TF = none) := by show _ = _; rw [HTF.out, HJ3.out, if_pos (.inl d1)]
              clear c d0 d1
              go_wp2_with fail
              go_ret2
              exact ⟨by rw [HA.out]; rfl, HFIN.out⟩
            · have d1z : ¬ (9007199254740992 : Int) ≤ (A : Int) := by omega
              by_cases d2 : u < -1074
              · have HA : Hid (TF = none) := by show _ = _; rw [HTF.out, HJ3.out, if_pos (.inr d2)]
                clear c d0 d1
                go_wp2_with fail
                go_ret2
                exact ⟨by rw [HA.out]; rfl, HFIN.out⟩
              · obtain ⟨ex, hex⟩ : ∃ ex : Nat, u = (ex : Int) + -1075 := ⟨(u - -1075).toNat, by omega⟩
                have hex1 : 1 ≤ ex := by omega
                have hexu : ex ≤ 2000000 := by omega
                have d0n : (4503599627370496 : Int) ≤ (A : Int) := by omega
                by_cases d3 : 2047 ≤ ex
                · have HA : Hid (TF = none) := by
                    show _ = _
                    rw [HTF.out, HJ3.out, if_neg (show ¬ (2 ^ (52 + 1) ≤ A ∨ u < -1074) from fun h => h.elim d1 d2), if_pos (show 2 ^ 52 ≤ A from d0), if_pos]
                    rw [show (2 : Int) ^ 11 - 1 = 2047 from by decide]; omega
                  have d3z : (2047 : Int) ≤ u + 1074 + 1 := by omega
                  clear c d0 d1 hex hex1 hexu d3
                  go_wp2_with fail
                  go_ret2
                  exact ⟨by rw [HA.out]; rfl, HFIN.out⟩
                · obtain ⟨B, hB⟩ : ∃ B, A - 2 ^ 52 = B := ⟨_, rfl⟩
                  have hlow : bits BinOp.and IntKind.u64 (A : Int) 4503599627370495 = (B : Int) := by
                    have h := mask_and A 52 hAb (by decide)
                    rw [mask_low (f := 52) d0 (by omega), hB] at h
                    exact h
                  have hBl : B < 2 ^ 52 := by omega
                  obtain ⟨y, hy⟩ : ∃ y, ex * 2 ^ 52 + B = y := ⟨_, rfl⟩
                  have hyl : y < 2 ^ (11 + 52) := by omega
                  have hor : bits BinOp.or IntKind.u64 ((ex : Int) * 4503599627370496) (B : Int) = (y : Int) := by
                    have h := or_sum (a := ex) (b := B) (f := 52) hBl (by omega) (by omega)
                    rw [hy, show ((ex * 2 ^ 52 : Nat) : Int) = (ex : Int) * 4503599627370496 by omega] at h
                    exact h
                  have hor : bits BinOp.or IntKind.u64 ((u + 1074 + 1) * 4503599627370496) (B : Int) = (y : Int) := by
                    rw [show (u + 1074 + 1) = (ex : Int) by omega]; exact hor
                  have hsg : bits BinOp.or IntKind.u64 (y : Int) 9223372036854775808 = ((y + 2 ^ (11 + 52) : Nat) : Int) := by
                    have h := or_top (a := y) (f := 11 + 52) hyl (by decide)
                    exact h
                  have HA : Hid (TF = some (y + (if ng then 2 ^ (11 + 52) else 0))) := by
                    show _ = _
                    rw [HTF.out, HJ3.out, if_neg (show ¬ (2 ^ (52 + 1) ≤ A ∨ u < -1074) from fun h => h.elim d1 d2), if_pos (show 2 ^ 52 ≤ A from d0), if_neg]
                    · rw [hB, show (u - -1074 + 1).toNat = ex by omega, hy]
                    · rw [show (2 : Int) ^ 11 - 1 = 2047 from by decide]; omega
                  have hexb : ex < 2048 := by omega
                  have d3z : ¬ (2047 : Int) ≤ u + 1074 + 1 := by omega
                  have hx0 : 1 ≤ u + 1074 + 1 := by omega
                  have hx1 : u + 1074 + 1 < 2048 := by omega
                  clear c d0 d1 hB hy hyl hex hex1 hexu hexb d3
                  cases ng
                  · clear hsg
                    go_wp2_with fail
                    go_ret2
                    exact ⟨by rw [HA.out]; rfl, HFIN.out⟩
                  · have HA2 : Hid (TF = some (y + 2 ^ (11 + 52))) := HA
                    clear HA
                    generalize y + 2 ^ (11 + 52) = z at *
                    go_wp2_with fail
                    go_ret2
                    exact ⟨by rw [HA2.out]; rfl, HFIN.out⟩
          · have hul : u ≤ -1074 := by
              rcases Int.lt_or_le (-1074) u with h | h
              · exact absurd ⟨by omega, h⟩ c
              · exact h
            have HJ3 := Lib.hid (HJ2.out (.inr hul))
            have d0z : (A : Int) < 4503599627370496 := by omega
            have d0n : ¬ (4503599627370496 : Int) ≤ (A : Int) := by omega
            have d1z : ¬ (9007199254740992 : Int) ≤ (A : Int) := by omega
            have hun : ¬ (-1074 : Int) < u := by omega
            by_cases d2 : u < -1074
            · have HA : Hid (TF = none) := by show _ = _; rw [HTF.out, HJ3.out, if_pos (.inr d2)]
              clear c d0
              go_wp2_with fail
              go_ret2
              exact ⟨by rw [HA.out]; rfl, HFIN.out⟩
            · have hlow : bits BinOp.and IntKind.u64 (A : Int) 4503599627370495 = (A : Int) := by
                have h := mask_and A 52 hAb (by decide)
                rw [Nat.mod_eq_of_lt (show A < 2 ^ 52 by omega)] at h
                exact h
              have hor : bits BinOp.or IntKind.u64 0 (A : Int) = (A : Int) := by
                have h := bits_or_u64_nat 0 A (by decide) hAb
                rw [Nat.zero_or] at h
                exact h
              have hsg : bits BinOp.or IntKind.u64 (A : Int) 9223372036854775808 = ((A + 2 ^ (11 + 52) : Nat) : Int) := by
                have h := or_top (a := A) (f := 11 + 52) (by omega) (by decide)
                exact h
              have HA : Hid (TF = some (A + (if ng then 2 ^ (11 + 52) else 0))) := by
                show _ = _
                rw [HTF.out, HJ3.out, if_neg (show ¬ (2 ^ (52 + 1) ≤ A ∨ u < -1074) from fun h => h.elim (fun h => by omega) d2), if_neg (show ¬ 2 ^ 52 ≤ A from d0)]
              clear c d0
              cases ng
              · clear hsg
                go_wp2_with fail
                go_ret2
                exact ⟨by rw [HA.out]; rfl, HFIN.out⟩
              · have HA2 : Hid (TF = some (A + 2 ^ (11 + 52))) := HA
                clear HA
                generalize A + 2 ^ (11 + 52) = z at *
                go_wp2_with fail
                go_ret2
                exact ⟨by rw [HA2.out]; rfl, HFIN.out⟩
end Go.Proofs.YtokppjfaihkkcaaDoor
