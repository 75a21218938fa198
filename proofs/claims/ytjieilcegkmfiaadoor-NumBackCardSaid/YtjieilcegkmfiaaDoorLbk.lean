/- The walk of the law NumBack. -/
import Derived.Test.YtjieilcegkmfiaaDoorRt
import Derived.Test.YtjieilcegkmfiaaDoorPlc
namespace Go.Proofs.YtjieilcegkmfiaaDoor
open Go.RowKit Go.Sort
set_option linter.unusedVariables false
set_option linter.unusedSimpArgs false

theorem parse_at {b : ByteArray} {l : List Nat} {w : World} {Q : Ending → World → Prop} (h : b = txt l) (K : Calls Tryd.prog 36 #[.string (txt l)] w Q) : Calls Tryd.prog 36 #[.string b] w Q := by rw [h]; exact K
def BKZ (k : Nat) (w : World) (z i : Value) (wr : World) : Prop := ∃ j : Nat, j ≤ k ∧ i = .int .i64 (j : Int) ∧ z = .string (txt (List.replicate j 48)) ∧ ∃ q, wr = w.drewN q
theorem parse_self {ng : Bool} {N : Nat} {e : Int} (h0 : N % 10 ≠ 0 ∨ (N = 0 ∧ ng = false ∧ e = 0)) (hl : (limbs N).length ≤ 90) (hd : (dec N).length ≤ 900) (hlo : -1200 ≤ e) (hhi : e ≤ 1200) : parseN (numTxt ng N e) = .inl (ng, N, e) := by
  rcases h0 with h0 | ⟨rfl, rfl, rfl⟩
  · exact parse_text h0 hl hd hlo hhi
  · exact parse_zero
theorem wide_one {ng : Bool} {N k : Nat} {v : Int} (hd : (dec N).length ≤ 900) (hk : k < 40) (hv : v.natAbs < 1000000) : (signT ng ++ (dec N ++ tailT (List.replicate (k + 1) 48) (101 :: smallT v))).length ≤ 2000 := by
  have := smallT_len hv
  unfold tailT fracT signT
  repeat' split
  all_goals simp
  all_goals omega
theorem wide_two {ng : Bool} {N k : Nat} {v : Int} (hd : (dec N).length ≤ 900) (hk : k < 40) (hv : v.natAbs < 1000000) : (signT ng ++ ((dec N ++ List.replicate k 48) ++ tailT [] (69 :: smallT v))).length ≤ 2000 := by
  have := smallT_len hv
  unfold tailT fracT signT
  repeat' split
  all_goals simp
  all_goals omega
theorem okb_sgn (ng : Bool) : Okb (signT ng) := by
  unfold signT; split
  · intro x hx; simp at hx; omega
  · exact Okb.nil
theorem okb_one {ng : Bool} {N k : Nat} {v : Int} : Okb (signT ng ++ (dec N ++ tailT (List.replicate (k + 1) 48) (101 :: smallT v))) := by
  refine okb_app (okb_sgn ng) (okb_app (dec_ok _).b ?_)
  have h1 : Okb (101 :: smallT v) := okb_app (a := [101]) (fun x hx => by simp at hx; omega) (smallT_ok v)
  unfold tailT fracT
  refine okb_app ?_ h1
  split
  · exact Okb.nil
  · exact okb_app (a := [46]) (b := List.replicate (k + 1) 48) (fun x hx => by simp at hx; omega) (zeros_ok (k + 1)).b
theorem okb_two {ng : Bool} {N k : Nat} {v : Int} : Okb (signT ng ++ ((dec N ++ List.replicate k 48) ++ tailT [] (69 :: smallT v))) := by
  refine okb_app (okb_sgn ng) (okb_app (okb_app (dec_ok _).b (zeros_ok _).b) ?_)
  exact okb_app (a := [69]) (fun x hx => by simp at hx; omega) (smallT_ok v)
/-- The first text, by its pieces. -/
theorem text_one (ng : Bool) (d : List Nat) (k : Nat) (v : Int) : txt (signT ng ++ d ++ [46] ++ List.replicate k 48 ++ [48, 101] ++ smallT v) = txt (signT ng ++ (d ++ tailT (List.replicate (k + 1) 48) (101 :: smallT v))) := by
  have h : List.replicate (k + 1) 48 ≠ [] := by simp
  unfold tailT fracT
  rw [if_neg h, List.replicate_succ']
  simp
theorem text_two (ng : Bool) (d : List Nat) (k : Nat) (v : Int) : txt (signT ng ++ d ++ List.replicate k 48 ++ [69] ++ smallT v) = txt (signT ng ++ ((d ++ List.replicate k 48) ++ tailT [] (69 :: smallT v))) := by
  unfold tailT fracT
  simp

set_option maxHeartbeats 16000000 in
set_option maxRecDepth 100000 in
theorem numBack_walk (ng : Bool) (ad : Option Addr) (n cap : Nat) (xs : List Nat) (e : Int) (k0 : Int) (w : World) (hn : xs.length = n) (hcap : n ≤ cap) (ho : Okl xs) (hr : Rd w ad xs) (he : -9223372036854775808 ≤ e ∧ e ≤ 9223372036854775807)
    (hk0 : -9223372036854775808 ≤ k0 ∧ k0 ≤ 9223372036854775807) (ht : TB w) :
    Calls Tryd.prog 5 #[.agg #[.bool ng, .slice ad n cap, .int .i64 e], .int .i64 k0] w (BoolBelow true w) := by
  have hbx := below_box w #[.bool ng, .slice ad n cap, .int .i64 e] 40
  have HBX := Lib.hid hbx
  have B0 := Lib.hid (bx_new w ng (.slice ad n cap) e)
  have HT := Lib.hid (fun W (h : Below w.heap.size w W) => ht.below h)
  have HW := Lib.hid (fun W (h : Below w.heap.size w W) => awake2_any W (ht.below h))
  by_cases h30 : 30 < n
  · have h30' : (30 : Int) < (n : Int) := by omega
    have KA := Lib.hid (HW.out _ hbx)
    clear hbx hn hr ht
    go_enter Tryd.func5, Tryd.ntmps5
    go_wp2_with fail
    refine KA.out.mono ?_
    rintro r w1 ⟨rfl, hb1⟩
    have hf := Lib.hid (below_on HBX.out hb1); clear hb1
    go_wp2
    go_ret
    exact BoolBelow.mk rfl hf.out
  · have h30' : ¬ (30 : Int) < (n : Int) := by omega
    have KC := Lib.hid (refCheck_any ng ad n cap xs e _ hn hcap (by omega) ho (hr.below hbx))
    cases hchk : chkB ng xs e
    · rw [hchk] at KC
      clear hbx hn hr ht
      go_enter Tryd.func5, Tryd.ntmps5
      go_wp2_with fail
      refine KC.out.mono ?_
      rintro r w1 ⟨rfl, hb1⟩
      have hb1' := below_on HBX.out hb1
      have KA := Lib.hid (HW.out w1 hb1')
      have hb1h := Lib.hid hb1'
      clear hb1 hb1'
      go_wp2_with fail
      refine KA.out.mono ?_
      rintro r w2 ⟨rfl, hb2⟩
      have hf := Lib.hid (below_on hb1h.out hb2); clear hb2
      go_wp2
      go_ret
      exact BoolBelow.mk rfl hf.out
    · rw [hchk] at KC
      obtain ⟨N, rfl⟩ : ∃ N, xs = limbs N := ⟨val xs, (chkB_limbs ho hchk).symm⟩
      have hN0 : N % 10 ≠ 0 ∨ (N = 0 ∧ ng = false ∧ e = 0) := by
        by_cases h0 : limbs N = []
        · have hN : N = 0 := (limbs_nil_iff N).1 h0
          rw [h0] at hchk
          obtain ⟨a, b⟩ := chkB_zero hchk
          exact .inr ⟨hN, a, b⟩
        · have := (chkB_some h0 hchk).2.2.2.2
          rw [val_limbs] at this
          exact .inl this
      obtain ⟨_, hlo, hhi⟩ := chkB_bounds hchk
      have hd9 := dec_len90 ho (by omega)
      rw [val_limbs] at hd9
      have hl90 : (limbs N).length ≤ 90 := by omega
      have hctx0 := (Ctx.begin w).push (ent_arg (N := N) hn hcap ho hr (L := 90) (by omega) (val_limbs N))
      have hctx := Lib.hid (hctx0.step hbx)
      have KDI := Lib.hid (fun W (h : Below w.heap.size w W) => (val_limbs N) ▸ refDigits_any ad n cap (limbs N) W hn hcap (by omega) ho (hr.below h))
      have HCK := Lib.hid hchk
      have HRD := Lib.hid (fun W (h : Below w.heap.size w W) => hr.below h)
      have hd1 : (txt (dec N)).size ≤ 900 := by rw [txt_size]; exact hd9
      have KP := Lib.hid (fun w1 => place_any k0 40 w1 hk0 ⟨by omega, by omega⟩)
      have hp1 := Int.emod_nonneg k0 (show (40 : Int) ≠ 0 by decide)
      have hp2 := Int.emod_lt_of_pos k0 (show (0 : Int) < 40 by decide)
      generalize k0 % 40 = p at *
      obtain ⟨k, rfl⟩ : ∃ k : Nat, p = (k : Int) := ⟨p.toNat, by omega⟩
      have hk40 : k < 40 := by omega
      have hn90 : n ≤ 90 := by omega
      have KTX := Lib.hid (fun W (h : Below w.heap.size w W) => text_any e W (by omega) (by omega))
      have hsE := smallT_len (v := e) (by omega)
      have hzE : (txt (smallT e)).size ≤ 7 := by rw [txt_size]; exact hsE
      have hps := parse_self hN0 hl90 hd9 hlo hhi
      have hpb1 := parse_back (neg := ng) (N := N) (e := e) (v := e) (w := dec N ++ List.replicate 0 48) (f := List.replicate (k + 1) 48) (c := 101) (k := 0) (.inl rfl) rfl ⟨k + 1, rfl, by omega⟩ (hN0.imp id fun h => ⟨h.1, rfl, h.2⟩) hl90 hlo hhi (by omega) (by simpa using wide_one (ng := ng) hd9 hk40 (v := e) (by omega))
      rw [show List.replicate 0 48 = ([] : List Nat) from rfl, List.append_nil] at hpb1
      have KPS := Lib.hid (fun W l0 (h : Ctx w W l0) => (show Calls Tryd.prog 36 #[.string (txt (numTxt ng N e))] W (ParsedPost W l0 (.inl (ng, N, e))) by have K := numParse_any h.again (numTxt ng N e) (okb_num ng N e); rwa [hps] at K))
      have KPX := Lib.hid (fun W l0 (h : Ctx w W l0) => (show Calls Tryd.prog 36 #[.string (txt (signT ng ++ (dec N ++ tailT (List.replicate (k + 1) 48) (101 :: smallT e))))] W (ParsedPost W l0 (.inl (ng, N, e))) by have K := numParse_any h.again _ (okb_one (ng := ng) (N := N) (k := k) (v := e)); rwa [hpb1] at K))
      clear hbx hr ht hctx0 hchk ho hk0 hp1 hp2 hps hpb1 hsE
      rcases hN0 with h0 | ⟨rfl, rfl, rfl⟩
      · have hN : N ≠ 0 := by intro h; rw [h] at h0; exact h0 rfl
        have hn0 : ¬ ((n : Int) = 0) := by
          have : (limbs N).length ≠ 0 := fun h => hN ((limbs_nil_iff N).1 (List.eq_nil_of_length_eq_zero h))
          omega
        have hj40 : k < 40 := hk40
        have hpb2 := parse_back (neg := ng) (N := N) (e := e) (v := e - (k : Int)) (w := dec N ++ List.replicate k 48) (f := []) (c := 69) (k := k) (.inr rfl) rfl ⟨0, rfl, by omega⟩ (.inl h0) hl90 hlo hhi (by omega) (wide_two (ng := ng) hd9 hk40 (v := e - (k : Int)) (by omega))
        have KPY := Lib.hid (fun W l0 (h : Ctx w W l0) => (show Calls Tryd.prog 36 #[.string (txt (signT ng ++ ((dec N ++ List.replicate k 48) ++ tailT [] (69 :: smallT (e - (k : Int))))))] W (ParsedPost W l0 (.inl (ng, N, e))) by have K := numParse_any h.again _ (okb_two (ng := ng) (N := N) (k := k) (v := e - (k : Int))); rwa [hpb2] at K))
        have KTY := Lib.hid (fun W (h : Below w.heap.size w W) => text_any (e - (k : Int)) W (by omega) (by omega))
        have hzY : (txt (smallT (e - (k : Int)))).size ≤ 7 := by rw [txt_size]; exact smallT_len (by omega)
        have HN := Lib.hid hn; have HD9 := Lib.hid hd9; have HL9 := Lib.hid hl90; have H0 := Lib.hid h0
        clear hpb2 hn hd9 hl90 h0 hN
        cases ng
        ·
          go_enter Tryd.func5, Tryd.ntmps5
          go_wp2_with fail
          refine KC.out.mono ?_
          rintro r w1 ⟨rfl, hb1⟩
          have h1 := Lib.hid (hctx.out.step hb1)
          have BA1 := Lib.hid (B0.out.step hb1)
          clear hb1 hctx KC B0
          have hok := h1.out.num 0 (neg := false) (e := e) rfl HCK.out
          have KT := numText_ok hok (HT.out _ h1.out.below)
          rw [val_limbs] at KT
          have KTH := Lib.hid KT; clear KT hok
          obtain ⟨x1, x2, x3, x4⟩ := BA1.out
          go_wp2_with fail
          refine KTH.out.mono ?_
          rintro r w2 ⟨rfl, hb2⟩
          have h2 := Lib.hid (h1.out.step hb2)
          have BA2 := Lib.hid (BA1.out.step hb2)
          clear hb2 KTH h1 BA1 x1 x2 x3 x4
          have K1 := Lib.hid (KPS.out w2 _ h2.out)
          go_wp2_with fail
          refine K1.out.mono ?_
          rintro r w3 ⟨v1, rfl, hm1⟩
          obtain ⟨ad1, cap1, hv1, _⟩ := hm1.get 0 rfl
          rw [HN.out] at hv1; subst hv1
          have hs1 := hm1.step (below_box w3 #[.bool false, .slice ad1 n cap1, .int .i64 e] 40)
          have h3 := Lib.hid (hs1.on h2.out)
          have BA3 := Lib.hid (BA2.out.step hs1.below)
          have BX3 := Lib.hid (bx_new w3 false (.slice ad1 n cap1) e)
          clear hm1 hs1 K1 h2 BA2
          obtain ⟨x1, x2, x3, x4⟩ := BA3.out
          go_wp2_with fail
          refine (KP.out _).mono ?_
          rintro r w' ⟨rfl, rfl⟩
          have KD := Lib.hid (KDI.out _ h3.out.below)
          go_wp2_with fail
          refine KD.out.mono ?_
          rintro r w4 ⟨rfl, hb4⟩
          have h4 := Lib.hid (h3.out.step hb4)
          have BA4 := Lib.hid (BA3.out.step hb4)
          have BX4 := Lib.hid (BX3.out.step hb4)
          clear hb4 KD h3 BA3 BX3 x1 x2 x3 x4
          obtain ⟨x1, x2, x3, x4⟩ := BA4.out
          go_wp2_with fail
          go_loopw [11, 12] (fun z i wr => BKZ k w4 z i wr) (fun _ i _ => k - (intOf i).toNat)
          case atStart => exact ⟨0, Nat.zero_le _, rfl, rfl, 0, rfl⟩
          case round =>
            clear x1 x2 x3 x4
            obtain ⟨j, hj, rfl, rfl, q, rfl⟩ := hrel
            by_cases hjk : j < k
            · have hjk' : (j : Int) < (k : Int) := by omega
              have hsz : (txt (List.replicate j 48)).size = j := by rw [txt_size, List.length_replicate]
              go_wp2_with fail
              go_roundw
              case rel => exact ⟨j + 1, hjk, by go_num, by rw [show (ByteArray.mk #[48]) = txt [48] from rfl, txt_append, ← List.replicate_succ'], q, rfl⟩
              case measure => simp [intOf]; omega
            · have hjk' : ¬ ((j : Int) < (k : Int)) := by omega
              obtain rfl : j = k := by omega
              have hbd := below_drewN' (Below.refl w4.heap.size w4) q
              have h5 := Lib.hid (h4.out.step hbd)
              have BA5 := Lib.hid (BA4.out.step hbd)
              have BX5 := Lib.hid (BX4.out.step hbd)
              clear h4 BA4 BX4 hbd
              generalize w4.drewN q = w5 at *
              have hsZ : (txt (List.replicate j 48)).size ≤ 40 := by rw [txt_size, List.length_replicate]; omega
              have KT1 := Lib.hid (KTX.out w5 h5.out.below)
              obtain ⟨x1, x2, x3, x4⟩ := BA5.out
              go_wp2_with fail
              refine KT1.out.mono ?_
              rintro r w6 ⟨rfl, hb6⟩
              have h6 := Lib.hid (h5.out.step hb6)
              have BA6 := Lib.hid (BA5.out.step hb6)
              have BX6 := Lib.hid (BX5.out.step hb6)
              clear hb6 KT1 h5 BA5 BX5 x1 x2 x3 x4
              have K1 := Lib.hid (KPX.out w6 _ h6.out)
              go_wp2_with fail
              refine (parse_at ?hs K1.out).mono ?_
              case hs => rw [show (⟨#[]⟩ : ByteArray) = txt [] from rfl, show (⟨#[46]⟩ : ByteArray) = txt [46] from rfl, show (⟨#[48, 101]⟩ : ByteArray) = txt [48, 101] from rfl]; simp only [txt_append]; exact text_one false _ _ _
              rintro r w7 ⟨v2, rfl, hm2⟩
              obtain ⟨ad2, cap2, hv2, _⟩ := hm2.get 0 rfl
              rw [HN.out] at hv2; subst hv2
              have hs2 := hm2.step (below_box w7 #[.bool false, .slice ad2 n cap2, .int .i64 e] 40)
              have h7 := Lib.hid (hs2.on h6.out)
              have BA7 := Lib.hid (BA6.out.step hs2.below)
              have BX7 := Lib.hid (BX6.out.step hs2.below)
              have BY7 := Lib.hid (bx_new w7 false (.slice ad2 n cap2) e)
              clear hm2 hs2 K1 h6 BA6 BX6
              obtain ⟨x1, x2, x3, x4⟩ := BA7.out
              have KT2 := Lib.hid (KTY.out _ h7.out.below)
              go_wp2_with fail
              refine KT2.out.mono ?_
              rintro r w8 ⟨rfl, hb8⟩
              have h8 := Lib.hid (h7.out.step hb8)
              have BA8 := Lib.hid (BA7.out.step hb8)
              have BX8 := Lib.hid (BX7.out.step hb8)
              have BY8 := Lib.hid (BY7.out.step hb8)
              clear hb8 KT2 h7 BA7 BX7 BY7 x1 x2 x3 x4
              have K2 := Lib.hid (KPY.out w8 _ h8.out)
              go_wp2_with fail
              refine (parse_at ?hs K2.out).mono ?_
              case hs => rw [show (⟨#[]⟩ : ByteArray) = txt [] from rfl, show (⟨#[69]⟩ : ByteArray) = txt [69] from rfl]; simp only [txt_append]; exact text_two false _ _ _
              rintro r w9 ⟨v3, rfl, hm3⟩
              obtain ⟨ad3, cap3, hv3, _⟩ := hm3.get 0 rfl
              rw [HN.out] at hv3; subst hv3
              have hs3 := hm3.step (below_box w9 #[.bool false, .slice ad3 n cap3, .int .i64 e] 40)
              have h9 := Lib.hid (hs3.on h8.out)
              have BA9 := Lib.hid (BA8.out.step hs3.below)
              have BX9 := Lib.hid (BX8.out.step hs3.below)
              have BY9 := Lib.hid (BY8.out.step hs3.below)
              have BZ9 := Lib.hid (bx_new w9 false (.slice ad3 n cap3) e)
              clear hm3 hs3 K2 h8 BA8 BX8 BY8
              have hg := h9.out.get 2 rfl
              obtain ⟨_, _, hg1, hg2, hg3, hg4, hg5, hg6⟩ := hg
              simp only [Value.slice.injEq] at hg1
              obtain ⟨rfl, hnn, rfl⟩ := hg1; clear hnn
              have KS := Lib.hid (sameNum_any false ad1 n cap1 (limbs N) e ad cap (w9.alloc (.cells #[.bool false, .slice ad3 n cap3, .int .i64 e] 40)) HN.out (by rw [← HN.out]; exact hg2) hcap (by omega) hg5 (HRD.out _ h9.out.below))
              clear hg2 hg3 hg4 hg5 hg6
              obtain ⟨x1, x2, x3, x4⟩ := BA9.out
              obtain ⟨y1, y2, y3, y4⟩ := BX9.out
              go_wp2_with fail
              refine KS.out.mono ?_
              rintro r w10 ⟨rfl, hbs⟩
              have h10 := Lib.hid (h9.out.step hbs)
              have BA10 := Lib.hid (BA9.out.step hbs)
              have BX10 := Lib.hid (BX9.out.step hbs)
              have BY10 := Lib.hid (BY9.out.step hbs)
              have BZ10 := Lib.hid (BZ9.out.step hbs)
              clear hbs KS h9 BA9 BX9 BY9 BZ9 x1 x2 x3 x4 y1 y2 y3 y4
              have hg := h10.out.get 1 rfl
              obtain ⟨_, _, hg1, hg2, hg3, hg4, hg5, hg6⟩ := hg
              simp only [Value.slice.injEq] at hg1
              obtain ⟨rfl, hnn, rfl⟩ := hg1; clear hnn
              have KS := Lib.hid (sameNum_any false ad2 n cap2 (limbs N) e ad cap w10 HN.out (by rw [← HN.out]; exact hg2) hcap (by omega) hg5 (HRD.out _ h10.out.below))
              clear hg2 hg3 hg4 hg5 hg6
              obtain ⟨x1, x2, x3, x4⟩ := BA10.out
              obtain ⟨y1, y2, y3, y4⟩ := BY10.out
              go_wp2_with fail
              refine KS.out.mono ?_
              rintro r w11 ⟨rfl, hbs⟩
              have h11 := Lib.hid (h10.out.step hbs)
              have BA11 := Lib.hid (BA10.out.step hbs)
              have BX11 := Lib.hid (BX10.out.step hbs)
              have BY11 := Lib.hid (BY10.out.step hbs)
              have BZ11 := Lib.hid (BZ10.out.step hbs)
              clear hbs KS h10 BA10 BX10 BY10 BZ10 x1 x2 x3 x4 y1 y2 y3 y4
              have hg := h11.out.get 0 rfl
              obtain ⟨_, _, hg1, hg2, hg3, hg4, hg5, hg6⟩ := hg
              simp only [Value.slice.injEq] at hg1
              obtain ⟨rfl, hnn, rfl⟩ := hg1; clear hnn
              have KS := Lib.hid (sameNum_any false ad3 n cap3 (limbs N) e ad cap w11 HN.out (by rw [← HN.out]; exact hg2) hcap (by omega) hg5 (HRD.out _ h11.out.below))
              clear hg2 hg3 hg4 hg5 hg6
              obtain ⟨x1, x2, x3, x4⟩ := BA11.out
              obtain ⟨y1, y2, y3, y4⟩ := BZ11.out
              go_wp2_with fail
              refine KS.out.mono ?_
              rintro r w12 ⟨rfl, hbs⟩
              have h12 := Lib.hid (h11.out.step hbs)
              have BA12 := Lib.hid (BA11.out.step hbs)
              have BX12 := Lib.hid (BX11.out.step hbs)
              have BY12 := Lib.hid (BY11.out.step hbs)
              have BZ12 := Lib.hid (BZ11.out.step hbs)
              clear hbs KS h11 BA11 BX11 BY11 BZ11 x1 x2 x3 x4 y1 y2 y3 y4
              have KA := Lib.hid (HW.out w12 h12.out.below)
              go_wp2_with fail
              refine KA.out.mono ?_
              rintro r w13 ⟨rfl, hbf⟩
              have hf := Lib.hid (below_on h12.out.below hbf); clear hbf
              go_wp2
              go_ret
              exact BoolBelow.mk rfl hf.out
        ·
          go_enter Tryd.func5, Tryd.ntmps5
          go_wp2_with fail
          refine KC.out.mono ?_
          rintro r w1 ⟨rfl, hb1⟩
          have h1 := Lib.hid (hctx.out.step hb1)
          have BA1 := Lib.hid (B0.out.step hb1)
          clear hb1 hctx KC B0
          have hok := h1.out.num 0 (neg := true) (e := e) rfl HCK.out
          have KT := numText_ok hok (HT.out _ h1.out.below)
          rw [val_limbs] at KT
          have KTH := Lib.hid KT; clear KT hok
          obtain ⟨x1, x2, x3, x4⟩ := BA1.out
          go_wp2_with fail
          refine KTH.out.mono ?_
          rintro r w2 ⟨rfl, hb2⟩
          have h2 := Lib.hid (h1.out.step hb2)
          have BA2 := Lib.hid (BA1.out.step hb2)
          clear hb2 KTH h1 BA1 x1 x2 x3 x4
          have K1 := Lib.hid (KPS.out w2 _ h2.out)
          go_wp2_with fail
          refine K1.out.mono ?_
          rintro r w3 ⟨v1, rfl, hm1⟩
          obtain ⟨ad1, cap1, hv1, _⟩ := hm1.get 0 rfl
          rw [HN.out] at hv1; subst hv1
          have hs1 := hm1.step (below_box w3 #[.bool true, .slice ad1 n cap1, .int .i64 e] 40)
          have h3 := Lib.hid (hs1.on h2.out)
          have BA3 := Lib.hid (BA2.out.step hs1.below)
          have BX3 := Lib.hid (bx_new w3 true (.slice ad1 n cap1) e)
          clear hm1 hs1 K1 h2 BA2
          obtain ⟨x1, x2, x3, x4⟩ := BA3.out
          go_wp2_with fail
          refine (KP.out _).mono ?_
          rintro r w' ⟨rfl, rfl⟩
          have KD := Lib.hid (KDI.out _ h3.out.below)
          go_wp2_with fail
          refine KD.out.mono ?_
          rintro r w4 ⟨rfl, hb4⟩
          have h4 := Lib.hid (h3.out.step hb4)
          have BA4 := Lib.hid (BA3.out.step hb4)
          have BX4 := Lib.hid (BX3.out.step hb4)
          clear hb4 KD h3 BA3 BX3 x1 x2 x3 x4
          obtain ⟨x1, x2, x3, x4⟩ := BA4.out
          go_wp2_with fail
          go_loopw [11, 12] (fun z i wr => BKZ k w4 z i wr) (fun _ i _ => k - (intOf i).toNat)
          case atStart => exact ⟨0, Nat.zero_le _, rfl, rfl, 0, rfl⟩
          case round =>
            clear x1 x2 x3 x4
            obtain ⟨j, hj, rfl, rfl, q, rfl⟩ := hrel
            by_cases hjk : j < k
            · have hjk' : (j : Int) < (k : Int) := by omega
              have hsz : (txt (List.replicate j 48)).size = j := by rw [txt_size, List.length_replicate]
              go_wp2_with fail
              go_roundw
              case rel => exact ⟨j + 1, hjk, by go_num, by rw [show (ByteArray.mk #[48]) = txt [48] from rfl, txt_append, ← List.replicate_succ'], q, rfl⟩
              case measure => simp [intOf]; omega
            · have hjk' : ¬ ((j : Int) < (k : Int)) := by omega
              obtain rfl : j = k := by omega
              have hbd := below_drewN' (Below.refl w4.heap.size w4) q
              have h5 := Lib.hid (h4.out.step hbd)
              have BA5 := Lib.hid (BA4.out.step hbd)
              have BX5 := Lib.hid (BX4.out.step hbd)
              clear h4 BA4 BX4 hbd
              generalize w4.drewN q = w5 at *
              have hsZ : (txt (List.replicate j 48)).size ≤ 40 := by rw [txt_size, List.length_replicate]; omega
              have KT1 := Lib.hid (KTX.out w5 h5.out.below)
              obtain ⟨x1, x2, x3, x4⟩ := BA5.out
              go_wp2_with fail
              refine KT1.out.mono ?_
              rintro r w6 ⟨rfl, hb6⟩
              have h6 := Lib.hid (h5.out.step hb6)
              have BA6 := Lib.hid (BA5.out.step hb6)
              have BX6 := Lib.hid (BX5.out.step hb6)
              clear hb6 KT1 h5 BA5 BX5 x1 x2 x3 x4
              have K1 := Lib.hid (KPX.out w6 _ h6.out)
              go_wp2_with fail
              refine (parse_at ?hs K1.out).mono ?_
              case hs => rw [show (⟨#[45]⟩ : ByteArray) = txt [45] from rfl, show (⟨#[46]⟩ : ByteArray) = txt [46] from rfl, show (⟨#[48, 101]⟩ : ByteArray) = txt [48, 101] from rfl]; simp only [txt_append]; exact text_one true _ _ _
              rintro r w7 ⟨v2, rfl, hm2⟩
              obtain ⟨ad2, cap2, hv2, _⟩ := hm2.get 0 rfl
              rw [HN.out] at hv2; subst hv2
              have hs2 := hm2.step (below_box w7 #[.bool true, .slice ad2 n cap2, .int .i64 e] 40)
              have h7 := Lib.hid (hs2.on h6.out)
              have BA7 := Lib.hid (BA6.out.step hs2.below)
              have BX7 := Lib.hid (BX6.out.step hs2.below)
              have BY7 := Lib.hid (bx_new w7 true (.slice ad2 n cap2) e)
              clear hm2 hs2 K1 h6 BA6 BX6
              obtain ⟨x1, x2, x3, x4⟩ := BA7.out
              have KT2 := Lib.hid (KTY.out _ h7.out.below)
              go_wp2_with fail
              refine KT2.out.mono ?_
              rintro r w8 ⟨rfl, hb8⟩
              have h8 := Lib.hid (h7.out.step hb8)
              have BA8 := Lib.hid (BA7.out.step hb8)
              have BX8 := Lib.hid (BX7.out.step hb8)
              have BY8 := Lib.hid (BY7.out.step hb8)
              clear hb8 KT2 h7 BA7 BX7 BY7 x1 x2 x3 x4
              have K2 := Lib.hid (KPY.out w8 _ h8.out)
              go_wp2_with fail
              refine (parse_at ?hs K2.out).mono ?_
              case hs => rw [show (⟨#[45]⟩ : ByteArray) = txt [45] from rfl, show (⟨#[69]⟩ : ByteArray) = txt [69] from rfl]; simp only [txt_append]; exact text_two true _ _ _
              rintro r w9 ⟨v3, rfl, hm3⟩
              obtain ⟨ad3, cap3, hv3, _⟩ := hm3.get 0 rfl
              rw [HN.out] at hv3; subst hv3
              have hs3 := hm3.step (below_box w9 #[.bool true, .slice ad3 n cap3, .int .i64 e] 40)
              have h9 := Lib.hid (hs3.on h8.out)
              have BA9 := Lib.hid (BA8.out.step hs3.below)
              have BX9 := Lib.hid (BX8.out.step hs3.below)
              have BY9 := Lib.hid (BY8.out.step hs3.below)
              have BZ9 := Lib.hid (bx_new w9 true (.slice ad3 n cap3) e)
              clear hm3 hs3 K2 h8 BA8 BX8 BY8
              have hg := h9.out.get 2 rfl
              obtain ⟨_, _, hg1, hg2, hg3, hg4, hg5, hg6⟩ := hg
              simp only [Value.slice.injEq] at hg1
              obtain ⟨rfl, hnn, rfl⟩ := hg1; clear hnn
              have KS := Lib.hid (sameNum_any true ad1 n cap1 (limbs N) e ad cap (w9.alloc (.cells #[.bool true, .slice ad3 n cap3, .int .i64 e] 40)) HN.out (by rw [← HN.out]; exact hg2) hcap (by omega) hg5 (HRD.out _ h9.out.below))
              clear hg2 hg3 hg4 hg5 hg6
              obtain ⟨x1, x2, x3, x4⟩ := BA9.out
              obtain ⟨y1, y2, y3, y4⟩ := BX9.out
              go_wp2_with fail
              refine KS.out.mono ?_
              rintro r w10 ⟨rfl, hbs⟩
              have h10 := Lib.hid (h9.out.step hbs)
              have BA10 := Lib.hid (BA9.out.step hbs)
              have BX10 := Lib.hid (BX9.out.step hbs)
              have BY10 := Lib.hid (BY9.out.step hbs)
              have BZ10 := Lib.hid (BZ9.out.step hbs)
              clear hbs KS h9 BA9 BX9 BY9 BZ9 x1 x2 x3 x4 y1 y2 y3 y4
              have hg := h10.out.get 1 rfl
              obtain ⟨_, _, hg1, hg2, hg3, hg4, hg5, hg6⟩ := hg
              simp only [Value.slice.injEq] at hg1
              obtain ⟨rfl, hnn, rfl⟩ := hg1; clear hnn
              have KS := Lib.hid (sameNum_any true ad2 n cap2 (limbs N) e ad cap w10 HN.out (by rw [← HN.out]; exact hg2) hcap (by omega) hg5 (HRD.out _ h10.out.below))
              clear hg2 hg3 hg4 hg5 hg6
              obtain ⟨x1, x2, x3, x4⟩ := BA10.out
              obtain ⟨y1, y2, y3, y4⟩ := BY10.out
              go_wp2_with fail
              refine KS.out.mono ?_
              rintro r w11 ⟨rfl, hbs⟩
              have h11 := Lib.hid (h10.out.step hbs)
              have BA11 := Lib.hid (BA10.out.step hbs)
              have BX11 := Lib.hid (BX10.out.step hbs)
              have BY11 := Lib.hid (BY10.out.step hbs)
              have BZ11 := Lib.hid (BZ10.out.step hbs)
              clear hbs KS h10 BA10 BX10 BY10 BZ10 x1 x2 x3 x4 y1 y2 y3 y4
              have hg := h11.out.get 0 rfl
              obtain ⟨_, _, hg1, hg2, hg3, hg4, hg5, hg6⟩ := hg
              simp only [Value.slice.injEq] at hg1
              obtain ⟨rfl, hnn, rfl⟩ := hg1; clear hnn
              have KS := Lib.hid (sameNum_any true ad3 n cap3 (limbs N) e ad cap w11 HN.out (by rw [← HN.out]; exact hg2) hcap (by omega) hg5 (HRD.out _ h11.out.below))
              clear hg2 hg3 hg4 hg5 hg6
              obtain ⟨x1, x2, x3, x4⟩ := BA11.out
              obtain ⟨y1, y2, y3, y4⟩ := BZ11.out
              go_wp2_with fail
              refine KS.out.mono ?_
              rintro r w12 ⟨rfl, hbs⟩
              have h12 := Lib.hid (h11.out.step hbs)
              have BA12 := Lib.hid (BA11.out.step hbs)
              have BX12 := Lib.hid (BX11.out.step hbs)
              have BY12 := Lib.hid (BY11.out.step hbs)
              have BZ12 := Lib.hid (BZ11.out.step hbs)
              clear hbs KS h11 BA11 BX11 BY11 BZ11 x1 x2 x3 x4 y1 y2 y3 y4
              have KA := Lib.hid (HW.out w12 h12.out.below)
              go_wp2_with fail
              refine KA.out.mono ?_
              rintro r w13 ⟨rfl, hbf⟩
              have hf := Lib.hid (below_on h12.out.below hbf); clear hbf
              go_wp2
              go_ret
              exact BoolBelow.mk rfl hf.out
      · have hn0 : n = 0 := by rw [← hn, limbs_zero]; rfl
        have hpb2 := parse_back (neg := false) (N := 0) (e := 0) (v := 0) (w := dec 0 ++ List.replicate 0 48) (f := []) (c := 69) (k := 0) (.inr rfl) rfl ⟨0, rfl, by omega⟩ (.inr ⟨rfl, rfl, rfl, rfl⟩) hl90 hlo hhi (by omega) (wide_two (ng := false) hd9 (k := 0) (by omega) (v := 0) (by omega))
        have KPY := Lib.hid (fun W l0 (h : Ctx w W l0) => (show Calls Tryd.prog 36 #[.string (txt (signT false ++ ((dec 0 ++ List.replicate 0 48) ++ tailT [] (69 :: smallT 0))))] W (ParsedPost W l0 (.inl (false, 0, 0))) by have K := numParse_any h.again _ (okb_two (ng := false) (N := 0) (k := 0) (v := 0)); rwa [hpb2] at K))
        have KTY := Lib.hid (fun W (h : Below w.heap.size w W) => text_any 0 W (by omega) (by omega))
        have hzY : (txt (smallT 0)).size ≤ 7 := by rw [txt_size]; exact smallT_len (by omega)
        subst hn0
        have HN := Lib.hid hn; have HD9 := Lib.hid hd9; have HL9 := Lib.hid hl90
        clear hpb2 hn hd9 hl90
        go_enter Tryd.func5, Tryd.ntmps5
        go_wp2_with fail
        refine KC.out.mono ?_
        rintro r w1 ⟨rfl, hb1⟩
        have h1 := Lib.hid (hctx.out.step hb1)
        have BA1 := Lib.hid (B0.out.step hb1)
        clear hb1 hctx KC B0
        have hok := h1.out.num 0 (neg := false) (e := 0) rfl HCK.out
        have KT := numText_ok hok (HT.out _ h1.out.below)
        rw [val_limbs] at KT
        have KTH := Lib.hid KT; clear KT hok
        obtain ⟨x1, x2, x3, x4⟩ := BA1.out
        go_wp2_with fail
        refine KTH.out.mono ?_
        rintro r w2 ⟨rfl, hb2⟩
        have h2 := Lib.hid (h1.out.step hb2)
        have BA2 := Lib.hid (BA1.out.step hb2)
        clear hb2 KTH h1 BA1 x1 x2 x3 x4
        have K1 := Lib.hid (KPS.out w2 _ h2.out)
        go_wp2_with fail
        refine K1.out.mono ?_
        rintro r w3 ⟨v1, rfl, hm1⟩
        obtain ⟨ad1, cap1, hv1, _⟩ := hm1.get 0 rfl
        rw [HN.out] at hv1; subst hv1
        have hs1 := hm1.step (below_box w3 #[.bool false, .slice ad1 0 cap1, .int .i64 0] 40)
        have h3 := Lib.hid (hs1.on h2.out)
        have BA3 := Lib.hid (BA2.out.step hs1.below)
        have BX3 := Lib.hid (bx_new w3 false (.slice ad1 0 cap1) 0)
        clear hm1 hs1 K1 h2 BA2
        obtain ⟨x1, x2, x3, x4⟩ := BA3.out
        go_wp2_with fail
        refine (KP.out _).mono ?_
        rintro r w' ⟨rfl, rfl⟩
        have KD := Lib.hid (KDI.out _ h3.out.below)
        go_wp2_with fail
        refine KD.out.mono ?_
        rintro r w4 ⟨rfl, hb4⟩
        have h4 := Lib.hid (h3.out.step hb4)
        have BA4 := Lib.hid (BA3.out.step hb4)
        have BX4 := Lib.hid (BX3.out.step hb4)
        clear hb4 KD h3 BA3 BX3 x1 x2 x3 x4
        obtain ⟨x1, x2, x3, x4⟩ := BA4.out
        go_wp2_with fail
        go_loopw [11, 12] (fun z i wr => BKZ k w4 z i wr) (fun _ i _ => k - (intOf i).toNat)
        case atStart => exact ⟨0, Nat.zero_le _, rfl, rfl, 0, rfl⟩
        case round =>
          clear x1 x2 x3 x4
          obtain ⟨j, hj, rfl, rfl, q, rfl⟩ := hrel
          by_cases hjk : j < k
          · have hjk' : (j : Int) < (k : Int) := by omega
            have hsz : (txt (List.replicate j 48)).size = j := by rw [txt_size, List.length_replicate]
            go_wp2_with fail
            go_roundw
            case rel => exact ⟨j + 1, hjk, by go_num, by rw [show (ByteArray.mk #[48]) = txt [48] from rfl, txt_append, ← List.replicate_succ'], q, rfl⟩
            case measure => simp [intOf]; omega
          · have hjk' : ¬ ((j : Int) < (k : Int)) := by omega
            obtain rfl : j = k := by omega
            have hbd := below_drewN' (Below.refl w4.heap.size w4) q
            have h5 := Lib.hid (h4.out.step hbd)
            have BA5 := Lib.hid (BA4.out.step hbd)
            have BX5 := Lib.hid (BX4.out.step hbd)
            clear h4 BA4 BX4 hbd
            generalize w4.drewN q = w5 at *
            have hsZ : (txt (List.replicate j 48)).size ≤ 40 := by rw [txt_size, List.length_replicate]; omega
            have KT1 := Lib.hid (KTX.out w5 h5.out.below)
            obtain ⟨x1, x2, x3, x4⟩ := BA5.out
            go_wp2_with fail
            refine KT1.out.mono ?_
            rintro r w6 ⟨rfl, hb6⟩
            have h6 := Lib.hid (h5.out.step hb6)
            have BA6 := Lib.hid (BA5.out.step hb6)
            have BX6 := Lib.hid (BX5.out.step hb6)
            clear hb6 KT1 h5 BA5 BX5 x1 x2 x3 x4
            have K1 := Lib.hid (KPX.out w6 _ h6.out)
            go_wp2_with fail
            refine (parse_at ?hs K1.out).mono ?_
            case hs => rw [show (⟨#[]⟩ : ByteArray) = txt [] from rfl, show (⟨#[46]⟩ : ByteArray) = txt [46] from rfl, show (⟨#[48, 101]⟩ : ByteArray) = txt [48, 101] from rfl]; simp only [txt_append]; exact text_one false _ _ _
            rintro r w7 ⟨v2, rfl, hm2⟩
            obtain ⟨ad2, cap2, hv2, _⟩ := hm2.get 0 rfl
            rw [HN.out] at hv2; subst hv2
            have hs2 := hm2.step (below_box w7 #[.bool false, .slice ad2 0 cap2, .int .i64 0] 40)
            have h7 := Lib.hid (hs2.on h6.out)
            have BA7 := Lib.hid (BA6.out.step hs2.below)
            have BX7 := Lib.hid (BX6.out.step hs2.below)
            have BY7 := Lib.hid (bx_new w7 false (.slice ad2 0 cap2) 0)
            clear hm2 hs2 K1 h6 BA6 BX6
            obtain ⟨x1, x2, x3, x4⟩ := BA7.out
            have KT2 := Lib.hid (KTY.out _ h7.out.below)
            go_wp2_with fail
            refine KT2.out.mono ?_
            rintro r w8 ⟨rfl, hb8⟩
            have h8 := Lib.hid (h7.out.step hb8)
            have BA8 := Lib.hid (BA7.out.step hb8)
            have BX8 := Lib.hid (BX7.out.step hb8)
            have BY8 := Lib.hid (BY7.out.step hb8)
            clear hb8 KT2 h7 BA7 BX7 BY7 x1 x2 x3 x4
            have K2 := Lib.hid (KPY.out w8 _ h8.out)
            go_wp2_with fail
            refine (parse_at ?hs K2.out).mono ?_
            case hs => rw [show (⟨#[]⟩ : ByteArray) = txt [] from rfl, show (⟨#[69]⟩ : ByteArray) = txt [69] from rfl]; simp only [txt_append]; exact text_two false _ 0 _
            rintro r w9 ⟨v3, rfl, hm3⟩
            obtain ⟨ad3, cap3, hv3, _⟩ := hm3.get 0 rfl
            rw [HN.out] at hv3; subst hv3
            have hs3 := hm3.step (below_box w9 #[.bool false, .slice ad3 0 cap3, .int .i64 0] 40)
            have h9 := Lib.hid (hs3.on h8.out)
            have BA9 := Lib.hid (BA8.out.step hs3.below)
            have BX9 := Lib.hid (BX8.out.step hs3.below)
            have BY9 := Lib.hid (BY8.out.step hs3.below)
            have BZ9 := Lib.hid (bx_new w9 false (.slice ad3 0 cap3) 0)
            clear hm3 hs3 K2 h8 BA8 BX8 BY8
            have hg := h9.out.get 2 rfl
            obtain ⟨_, _, hg1, hg2, hg3, hg4, hg5, hg6⟩ := hg
            simp only [Value.slice.injEq] at hg1
            obtain ⟨rfl, hnn, rfl⟩ := hg1; clear hnn
            have KS := Lib.hid (sameNum_any false ad1 0 cap1 (limbs 0) 0 ad cap (w9.alloc (.cells #[.bool false, .slice ad3 0 cap3, .int .i64 0] 40)) HN.out (by rw [← HN.out]; exact hg2) hcap (by omega) hg5 (HRD.out _ h9.out.below))
            clear hg2 hg3 hg4 hg5 hg6
            obtain ⟨x1, x2, x3, x4⟩ := BA9.out
            obtain ⟨y1, y2, y3, y4⟩ := BX9.out
            go_wp2_with fail
            refine KS.out.mono ?_
            rintro r w10 ⟨rfl, hbs⟩
            have h10 := Lib.hid (h9.out.step hbs)
            have BA10 := Lib.hid (BA9.out.step hbs)
            have BX10 := Lib.hid (BX9.out.step hbs)
            have BY10 := Lib.hid (BY9.out.step hbs)
            have BZ10 := Lib.hid (BZ9.out.step hbs)
            clear hbs KS h9 BA9 BX9 BY9 BZ9 x1 x2 x3 x4 y1 y2 y3 y4
            have hg := h10.out.get 1 rfl
            obtain ⟨_, _, hg1, hg2, hg3, hg4, hg5, hg6⟩ := hg
            simp only [Value.slice.injEq] at hg1
            obtain ⟨rfl, hnn, rfl⟩ := hg1; clear hnn
            have KS := Lib.hid (sameNum_any false ad2 0 cap2 (limbs 0) 0 ad cap w10 HN.out (by rw [← HN.out]; exact hg2) hcap (by omega) hg5 (HRD.out _ h10.out.below))
            clear hg2 hg3 hg4 hg5 hg6
            obtain ⟨x1, x2, x3, x4⟩ := BA10.out
            obtain ⟨y1, y2, y3, y4⟩ := BY10.out
            go_wp2_with fail
            refine KS.out.mono ?_
            rintro r w11 ⟨rfl, hbs⟩
            have h11 := Lib.hid (h10.out.step hbs)
            have BA11 := Lib.hid (BA10.out.step hbs)
            have BX11 := Lib.hid (BX10.out.step hbs)
            have BY11 := Lib.hid (BY10.out.step hbs)
            have BZ11 := Lib.hid (BZ10.out.step hbs)
            clear hbs KS h10 BA10 BX10 BY10 BZ10 x1 x2 x3 x4 y1 y2 y3 y4
            have hg := h11.out.get 0 rfl
            obtain ⟨_, _, hg1, hg2, hg3, hg4, hg5, hg6⟩ := hg
            simp only [Value.slice.injEq] at hg1
            obtain ⟨rfl, hnn, rfl⟩ := hg1; clear hnn
            have KS := Lib.hid (sameNum_any false ad3 0 cap3 (limbs 0) 0 ad cap w11 HN.out (by rw [← HN.out]; exact hg2) hcap (by omega) hg5 (HRD.out _ h11.out.below))
            clear hg2 hg3 hg4 hg5 hg6
            obtain ⟨x1, x2, x3, x4⟩ := BA11.out
            obtain ⟨y1, y2, y3, y4⟩ := BZ11.out
            go_wp2_with fail
            refine KS.out.mono ?_
            rintro r w12 ⟨rfl, hbs⟩
            have h12 := Lib.hid (h11.out.step hbs)
            have BA12 := Lib.hid (BA11.out.step hbs)
            have BX12 := Lib.hid (BX11.out.step hbs)
            have BY12 := Lib.hid (BY11.out.step hbs)
            have BZ12 := Lib.hid (BZ11.out.step hbs)
            clear hbs KS h11 BA11 BX11 BY11 BZ11 x1 x2 x3 x4 y1 y2 y3 y4
            have KA := Lib.hid (HW.out w12 h12.out.below)
            go_wp2_with fail
            refine KA.out.mono ?_
            rintro r w13 ⟨rfl, hbf⟩
            have hf := Lib.hid (below_on h12.out.below hbf); clear hbf
            go_wp2
            go_ret
            exact BoolBelow.mk rfl hf.out

end Go.Proofs.YtjieilcegkmfiaaDoor
