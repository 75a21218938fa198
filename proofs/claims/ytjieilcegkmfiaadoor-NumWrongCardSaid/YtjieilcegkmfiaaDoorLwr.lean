/- The walk of the law NumWrong. -/
import Derived.Test.YtjieilcegkmfiaaDoorC8
import Derived.Test.YtjieilcegkmfiaaDoorRs
import Derived.Test.YtjieilcegkmfiaaDoorRw
import Derived.Test.YtjieilcegkmfiaaDoorPlc
namespace Go.Proofs.YtjieilcegkmfiaaDoor
open Go.RowKit Go.Sort
set_option linter.unusedVariables false
set_option linter.unusedSimpArgs false

theorem idx0 (a0 a1 a2 a3 a4 a5 a6 a7 : Value) (w : World) : Sem.run Tryd.prog (Instr.index 55 (.agg #[a0, a1, a2, a3, a4, a5, a6, a7]) (.int .i64 0)) w = Result.ok a0 w := by kernel_rfl
theorem idx1 (a0 a1 a2 a3 a4 a5 a6 a7 : Value) (w : World) : Sem.run Tryd.prog (Instr.index 55 (.agg #[a0, a1, a2, a3, a4, a5, a6, a7]) (.int .i64 1)) w = Result.ok a1 w := by kernel_rfl
theorem idx2 (a0 a1 a2 a3 a4 a5 a6 a7 : Value) (w : World) : Sem.run Tryd.prog (Instr.index 55 (.agg #[a0, a1, a2, a3, a4, a5, a6, a7]) (.int .i64 2)) w = Result.ok a2 w := by kernel_rfl
theorem idx3 (a0 a1 a2 a3 a4 a5 a6 a7 : Value) (w : World) : Sem.run Tryd.prog (Instr.index 55 (.agg #[a0, a1, a2, a3, a4, a5, a6, a7]) (.int .i64 3)) w = Result.ok a3 w := by kernel_rfl
theorem idx4 (a0 a1 a2 a3 a4 a5 a6 a7 : Value) (w : World) : Sem.run Tryd.prog (Instr.index 55 (.agg #[a0, a1, a2, a3, a4, a5, a6, a7]) (.int .i64 4)) w = Result.ok a4 w := by kernel_rfl
theorem idx5 (a0 a1 a2 a3 a4 a5 a6 a7 : Value) (w : World) : Sem.run Tryd.prog (Instr.index 55 (.agg #[a0, a1, a2, a3, a4, a5, a6, a7]) (.int .i64 5)) w = Result.ok a5 w := by kernel_rfl
theorem idx6 (a0 a1 a2 a3 a4 a5 a6 a7 : Value) (w : World) : Sem.run Tryd.prog (Instr.index 55 (.agg #[a0, a1, a2, a3, a4, a5, a6, a7]) (.int .i64 6)) w = Result.ok a6 w := by kernel_rfl
theorem idx7 (a0 a1 a2 a3 a4 a5 a6 a7 : Value) (w : World) : Sem.run Tryd.prog (Instr.index 55 (.agg #[a0, a1, a2, a3, a4, a5, a6, a7]) (.int .i64 7)) w = Result.ok a7 w := by kernel_rfl
theorem chkB_plus {neg : Bool} {xs : List Nat} {e : Int} (h : chkB neg xs e = true) : chkB false xs e = true := by
  by_cases h0 : xs = []
  · subst h0
    obtain ⟨_, rfl⟩ := chkB_zero h
    rfl
  · unfold chkB at h ⊢
    have hl : xs.length ≠ 0 := fun h1 => h0 (List.eq_nil_of_length_eq_zero h1)
    rw [if_neg hl] at h ⊢; exact h
theorem num_form {neg : Bool} {xs : List Nat} {e : Int} (h : chkB neg xs e = true) : ∃ w f x, Form (numTxt false (val xs) e) w f x := by
  by_cases h0 : val xs = 0
  · rw [h0]; exact ⟨_, _, _, zero_form⟩
  · exact text_form h0
theorem numTxt_len {neg ng : Bool} {xs : List Nat} {e : Int} (ho : Okl xs) (h : chkB neg xs e = true) : (numTxt ng (val xs) e).length ≤ 1950 := by
  have hb := chkB_bounds h
  have hd := dec_len90 ho hb.1
  have := sizeTxt_len2 (d := dec (val xs)) (e := e) hd hb.2
  unfold numTxt
  split
  · simp
  · cases ng <;> simp <;> omega
theorem wrong_len {s : List Nat} (h : s.length ≤ 1950) (k : Nat) : (wrongT s k).length ≤ 2000 := by
  unfold wrongT; split <;> simp <;> omega
theorem wrong_okb {s : List Nat} (h : Okb s) (k : Nat) : Okb (wrongT s k) := by
  unfold wrongT
  split <;> intro x hx <;> simp at hx <;> (first | (rcases hx with hx | hx) | skip) <;> first | omega | exact h x hx | (rcases hx with hx | hx <;> first | omega | exact h x hx)

set_option maxHeartbeats 16000000 in
set_option maxRecDepth 100000 in
theorem numWrong_walk (ng : Bool) (ad : Option Addr) (n cap : Nat) (xs : List Nat) (e : Int) (k0 : Int) (w : World) (hn : xs.length = n) (hcap : n ≤ cap) (ho : Okl xs) (hr : Rd w ad xs) (he : -9223372036854775808 ≤ e ∧ e ≤ 9223372036854775807)
    (hk0 : -9223372036854775808 ≤ k0 ∧ k0 ≤ 9223372036854775807) (ht : TB w) :
    Calls Tryd.prog 7 #[.agg #[.bool ng, .slice ad n cap, .int .i64 e], .int .i64 k0] w (BoolBelow true w) := by
  have hbx := below_box w #[.bool ng, .slice ad n cap, .int .i64 e] 40
  have HBX := Lib.hid hbx
  have B0 := Lib.hid (bx_new w ng (.slice ad n cap) e)
  have HT := Lib.hid (fun W (h : Below w.heap.size w W) => ht.below h)
  by_cases h20 : 20 < n
  · have h20' : (20 : Int) < (n : Int) := by omega
    have KA := Lib.hid (awake2_any _ (HT.out _ hbx))
    clear hbx hn hr ht
    go_enter Tryd.func7, Tryd.ntmps7
    go_wp2_with fail
    refine KA.out.mono ?_
    rintro r w1 ⟨rfl, hb1⟩
    have hf := Lib.hid (below_on HBX.out hb1); clear hb1
    go_wp2
    go_ret
    exact BoolBelow.mk rfl hf.out
  · have h20' : ¬ (20 : Int) < (n : Int) := by omega
    have KC := Lib.hid (refCheck_any ng ad n cap xs e _ hn hcap (by omega) ho (hr.below hbx))
    cases hchk : chkB ng xs e
    · rw [hchk] at KC
      clear hbx hn hr ht
      go_enter Tryd.func7, Tryd.ntmps7
      go_wp2_with fail
      refine KC.out.mono ?_
      rintro r w1 ⟨rfl, hb1⟩
      have hb1' := below_on HBX.out hb1
      have KA := Lib.hid (awake2_any w1 (HT.out _ hb1'))
      have hb1h := Lib.hid hb1'
      clear hb1 hb1'
      go_wp2_with fail
      refine KA.out.mono ?_
      rintro r w2 ⟨rfl, hb2⟩
      have hf := Lib.hid (below_on hb1h.out hb2); clear hb2
      go_wp2
      go_ret
      exact BoolBelow.mk rfl hf.out
    · rw [hchk] at KC
      have hctx0 := (Ctx.begin w).push (ent_arg hn hcap ho hr (L := 90) (by omega) rfl)
      have hctx := Lib.hid (hctx0.step hbx)
      have HCK := Lib.hid (chkB_plus hchk)
      have hlen := Lib.hid (numTxt_len (ng := false) ho hchk)
      have hfm := Lib.hid (num_form hchk)
      have KP := Lib.hid (fun w1 => place_any k0 8 w1 hk0 ⟨by omega, by omega⟩)
      have hp1 := Int.emod_nonneg k0 (show (8 : Int) ≠ 0 by decide)
      have hp2 := Int.emod_lt_of_pos k0 (show (0 : Int) < 8 by decide)
      generalize k0 % 8 = p at *
      have HN := Lib.hid hn
      have HO := Lib.hid ho
      clear hbx hn hr ht hctx0 hchk ho hk0
      go_enter Tryd.func7, Tryd.ntmps7
      go_wp2_with fail
      refine KC.out.mono ?_
      rintro r w1 ⟨rfl, hb1⟩
      have h1 := Lib.hid (hctx.out.step hb1)
      have B1 := B0.out.step hb1
      obtain ⟨x1, x2, x3, x4⟩ := B1
      have hok := h1.out.num 0 (neg := false) (e := e) rfl HCK.out
      have KT := Lib.hid (numText_ok hok (HT.out _ h1.out.below))
      clear hb1 hok hctx KC
      go_wp2_with fail
      refine KT.out.mono ?_
      rintro r w2 ⟨rfl, hb2⟩
      have h2 := Lib.hid (h1.out.step hb2)
      clear hb2 h1 KT x1 x2 x3 x4
      have hos := Lib.hid (okb_num false (val xs) e)
      have hsl : (txt (numTxt false (val xs) e)).size ≤ 1950 := by rw [txt_size]; exact hlen.out
      obtain ⟨fw, ff, fx, hform⟩ := hfm.out
      have KX := Lib.hid (fun k => numParse_bad h2.out.again (wrongT (numTxt false (val xs) e) k) (wrong_okb hos.out k) (wrong_len hlen.out k) (wrong_read hform k))
      have HW : Hid (∀ s k, wrongT s k = wrongT s k) := fun _ _ => rfl
      clear hform hfm hlen hos
      generalize hS : numTxt false (val xs) e = S at *
      clear hS
      have hS2 := hsl
      have hcase : p = 0 ∨ p = 1 ∨ p = 2 ∨ p = 3 ∨ p = 4 ∨ p = 5 ∨ p = 6 ∨ p = 7 := by omega
      clear hp1 hp2
      rcases hcase with rfl | rfl | rfl | rfl | rfl | rfl | rfl | rfl
      · have K0 := KX.out 0
        rw [show wrongT S 0 = [43] ++ S from rfl, ← txt_append, show txt [43] = ⟨#[43]⟩ from rfl] at K0
        have KX0 := Lib.hid K0; clear K0
        go_wp2_with fail
        refine (KP.out _).mono ?_
        rintro r w' ⟨rfl, rfl⟩
        go_wp2_with fail
        rw [idx0]
        go_wp2_with fail
        refine KX0.out.mono ?_
        rintro r w3 ⟨rfl, hb3⟩
        have h3 := Lib.hid (below_on (below_on h2.out.below hb3.below) (below_box w3 #[.bool false, .slice none 0 0, .int .i64 0] 40))
        obtain ⟨x1, x2, x3, x4⟩ := bx_new w3 false (.slice none 0 0) 0
        have KS := Lib.hid (sameNum_any false none 0 0 [] 0 none 0 (w3.alloc (.cells #[.bool false, .slice none 0 0, .int .i64 0] 40)) rfl (Nat.le_refl _) (Nat.le_refl _) (by decide) (Rd.nil _ _) (Rd.nil _ _))
        clear hb3 KX0
        go_wp2_with fail
        refine KS.out.mono ?_
        rintro r w4 ⟨rfl, hb4⟩
        have h4 := Lib.hid (below_on h3.out hb4)
        clear hb4 x1 x2 x3 x4 h3
        have KA := Lib.hid (awake2_any w4 (HT.out _ h4.out))
        go_wp2_with fail
        refine KA.out.mono ?_
        rintro r w5 ⟨rfl, hb5⟩
        have hf := Lib.hid (below_on h4.out hb5); clear hb5
        go_wp2
        go_ret
        exact BoolBelow.mk rfl hf.out
      · have K0 := KX.out 1
        rw [show wrongT S 1 = [45, 45] ++ S from rfl, ← txt_append, show txt [45, 45] = ⟨#[45, 45]⟩ from rfl] at K0
        have KX0 := Lib.hid K0; clear K0
        go_wp2_with fail
        refine (KP.out _).mono ?_
        rintro r w' ⟨rfl, rfl⟩
        go_wp2_with fail
        rw [idx1]
        go_wp2_with fail
        refine KX0.out.mono ?_
        rintro r w3 ⟨rfl, hb3⟩
        have h3 := Lib.hid (below_on (below_on h2.out.below hb3.below) (below_box w3 #[.bool false, .slice none 0 0, .int .i64 0] 40))
        obtain ⟨x1, x2, x3, x4⟩ := bx_new w3 false (.slice none 0 0) 0
        have KS := Lib.hid (sameNum_any false none 0 0 [] 0 none 0 (w3.alloc (.cells #[.bool false, .slice none 0 0, .int .i64 0] 40)) rfl (Nat.le_refl _) (Nat.le_refl _) (by decide) (Rd.nil _ _) (Rd.nil _ _))
        clear hb3 KX0
        go_wp2_with fail
        refine KS.out.mono ?_
        rintro r w4 ⟨rfl, hb4⟩
        have h4 := Lib.hid (below_on h3.out hb4)
        clear hb4 x1 x2 x3 x4 h3
        have KA := Lib.hid (awake2_any w4 (HT.out _ h4.out))
        go_wp2_with fail
        refine KA.out.mono ?_
        rintro r w5 ⟨rfl, hb5⟩
        have hf := Lib.hid (below_on h4.out hb5); clear hb5
        go_wp2
        go_ret
        exact BoolBelow.mk rfl hf.out
      · have K0 := KX.out 2
        rw [show wrongT S 2 = [48] ++ S from rfl, ← txt_append, show txt [48] = ⟨#[48]⟩ from rfl] at K0
        have KX0 := Lib.hid K0; clear K0
        go_wp2_with fail
        refine (KP.out _).mono ?_
        rintro r w' ⟨rfl, rfl⟩
        go_wp2_with fail
        rw [idx2]
        go_wp2_with fail
        refine KX0.out.mono ?_
        rintro r w3 ⟨rfl, hb3⟩
        have h3 := Lib.hid (below_on (below_on h2.out.below hb3.below) (below_box w3 #[.bool false, .slice none 0 0, .int .i64 0] 40))
        obtain ⟨x1, x2, x3, x4⟩ := bx_new w3 false (.slice none 0 0) 0
        have KS := Lib.hid (sameNum_any false none 0 0 [] 0 none 0 (w3.alloc (.cells #[.bool false, .slice none 0 0, .int .i64 0] 40)) rfl (Nat.le_refl _) (Nat.le_refl _) (by decide) (Rd.nil _ _) (Rd.nil _ _))
        clear hb3 KX0
        go_wp2_with fail
        refine KS.out.mono ?_
        rintro r w4 ⟨rfl, hb4⟩
        have h4 := Lib.hid (below_on h3.out hb4)
        clear hb4 x1 x2 x3 x4 h3
        have KA := Lib.hid (awake2_any w4 (HT.out _ h4.out))
        go_wp2_with fail
        refine KA.out.mono ?_
        rintro r w5 ⟨rfl, hb5⟩
        have hf := Lib.hid (below_on h4.out hb5); clear hb5
        go_wp2
        go_ret
        exact BoolBelow.mk rfl hf.out
      · have K0 := KX.out 3
        rw [show wrongT S 3 = S ++ [101] from rfl, ← txt_append, show txt [101] = ⟨#[101]⟩ from rfl] at K0
        have KX0 := Lib.hid K0; clear K0
        go_wp2_with fail
        refine (KP.out _).mono ?_
        rintro r w' ⟨rfl, rfl⟩
        go_wp2_with fail
        rw [idx3]
        go_wp2_with fail
        refine KX0.out.mono ?_
        rintro r w3 ⟨rfl, hb3⟩
        have h3 := Lib.hid (below_on (below_on h2.out.below hb3.below) (below_box w3 #[.bool false, .slice none 0 0, .int .i64 0] 40))
        obtain ⟨x1, x2, x3, x4⟩ := bx_new w3 false (.slice none 0 0) 0
        have KS := Lib.hid (sameNum_any false none 0 0 [] 0 none 0 (w3.alloc (.cells #[.bool false, .slice none 0 0, .int .i64 0] 40)) rfl (Nat.le_refl _) (Nat.le_refl _) (by decide) (Rd.nil _ _) (Rd.nil _ _))
        clear hb3 KX0
        go_wp2_with fail
        refine KS.out.mono ?_
        rintro r w4 ⟨rfl, hb4⟩
        have h4 := Lib.hid (below_on h3.out hb4)
        clear hb4 x1 x2 x3 x4 h3
        have KA := Lib.hid (awake2_any w4 (HT.out _ h4.out))
        go_wp2_with fail
        refine KA.out.mono ?_
        rintro r w5 ⟨rfl, hb5⟩
        have hf := Lib.hid (below_on h4.out hb5); clear hb5
        go_wp2
        go_ret
        exact BoolBelow.mk rfl hf.out
      · have K0 := KX.out 4
        rw [show wrongT S 4 = S ++ [101, 43] from rfl, ← txt_append, show txt [101, 43] = ⟨#[101, 43]⟩ from rfl] at K0
        have KX0 := Lib.hid K0; clear K0
        go_wp2_with fail
        refine (KP.out _).mono ?_
        rintro r w' ⟨rfl, rfl⟩
        go_wp2_with fail
        rw [idx4]
        go_wp2_with fail
        refine KX0.out.mono ?_
        rintro r w3 ⟨rfl, hb3⟩
        have h3 := Lib.hid (below_on (below_on h2.out.below hb3.below) (below_box w3 #[.bool false, .slice none 0 0, .int .i64 0] 40))
        obtain ⟨x1, x2, x3, x4⟩ := bx_new w3 false (.slice none 0 0) 0
        have KS := Lib.hid (sameNum_any false none 0 0 [] 0 none 0 (w3.alloc (.cells #[.bool false, .slice none 0 0, .int .i64 0] 40)) rfl (Nat.le_refl _) (Nat.le_refl _) (by decide) (Rd.nil _ _) (Rd.nil _ _))
        clear hb3 KX0
        go_wp2_with fail
        refine KS.out.mono ?_
        rintro r w4 ⟨rfl, hb4⟩
        have h4 := Lib.hid (below_on h3.out hb4)
        clear hb4 x1 x2 x3 x4 h3
        have KA := Lib.hid (awake2_any w4 (HT.out _ h4.out))
        go_wp2_with fail
        refine KA.out.mono ?_
        rintro r w5 ⟨rfl, hb5⟩
        have hf := Lib.hid (below_on h4.out hb5); clear hb5
        go_wp2
        go_ret
        exact BoolBelow.mk rfl hf.out
      · have K0 := KX.out 5
        rw [show wrongT S 5 = S ++ [120] from rfl, ← txt_append, show txt [120] = ⟨#[120]⟩ from rfl] at K0
        have KX0 := Lib.hid K0; clear K0
        go_wp2_with fail
        refine (KP.out _).mono ?_
        rintro r w' ⟨rfl, rfl⟩
        go_wp2_with fail
        rw [idx5]
        go_wp2_with fail
        refine KX0.out.mono ?_
        rintro r w3 ⟨rfl, hb3⟩
        have h3 := Lib.hid (below_on (below_on h2.out.below hb3.below) (below_box w3 #[.bool false, .slice none 0 0, .int .i64 0] 40))
        obtain ⟨x1, x2, x3, x4⟩ := bx_new w3 false (.slice none 0 0) 0
        have KS := Lib.hid (sameNum_any false none 0 0 [] 0 none 0 (w3.alloc (.cells #[.bool false, .slice none 0 0, .int .i64 0] 40)) rfl (Nat.le_refl _) (Nat.le_refl _) (by decide) (Rd.nil _ _) (Rd.nil _ _))
        clear hb3 KX0
        go_wp2_with fail
        refine KS.out.mono ?_
        rintro r w4 ⟨rfl, hb4⟩
        have h4 := Lib.hid (below_on h3.out hb4)
        clear hb4 x1 x2 x3 x4 h3
        have KA := Lib.hid (awake2_any w4 (HT.out _ h4.out))
        go_wp2_with fail
        refine KA.out.mono ?_
        rintro r w5 ⟨rfl, hb5⟩
        have hf := Lib.hid (below_on h4.out hb5); clear hb5
        go_wp2
        go_ret
        exact BoolBelow.mk rfl hf.out
      · have K0 := KX.out 6
        rw [show wrongT S 6 = [32] ++ S from rfl, ← txt_append, show txt [32] = ⟨#[32]⟩ from rfl] at K0
        have KX0 := Lib.hid K0; clear K0
        go_wp2_with fail
        refine (KP.out _).mono ?_
        rintro r w' ⟨rfl, rfl⟩
        go_wp2_with fail
        rw [idx6]
        go_wp2_with fail
        refine KX0.out.mono ?_
        rintro r w3 ⟨rfl, hb3⟩
        have h3 := Lib.hid (below_on (below_on h2.out.below hb3.below) (below_box w3 #[.bool false, .slice none 0 0, .int .i64 0] 40))
        obtain ⟨x1, x2, x3, x4⟩ := bx_new w3 false (.slice none 0 0) 0
        have KS := Lib.hid (sameNum_any false none 0 0 [] 0 none 0 (w3.alloc (.cells #[.bool false, .slice none 0 0, .int .i64 0] 40)) rfl (Nat.le_refl _) (Nat.le_refl _) (by decide) (Rd.nil _ _) (Rd.nil _ _))
        clear hb3 KX0
        go_wp2_with fail
        refine KS.out.mono ?_
        rintro r w4 ⟨rfl, hb4⟩
        have h4 := Lib.hid (below_on h3.out hb4)
        clear hb4 x1 x2 x3 x4 h3
        have KA := Lib.hid (awake2_any w4 (HT.out _ h4.out))
        go_wp2_with fail
        refine KA.out.mono ?_
        rintro r w5 ⟨rfl, hb5⟩
        have hf := Lib.hid (below_on h4.out hb5); clear hb5
        go_wp2
        go_ret
        exact BoolBelow.mk rfl hf.out
      · have K0 := KX.out 7
        rw [show wrongT S 7 = S ++ [46] from rfl, ← txt_append, show txt [46] = ⟨#[46]⟩ from rfl] at K0
        have KX0 := Lib.hid K0; clear K0
        go_wp2_with fail
        refine (KP.out _).mono ?_
        rintro r w' ⟨rfl, rfl⟩
        go_wp2_with fail
        rw [idx7]
        go_wp2_with fail
        refine KX0.out.mono ?_
        rintro r w3 ⟨rfl, hb3⟩
        have h3 := Lib.hid (below_on (below_on h2.out.below hb3.below) (below_box w3 #[.bool false, .slice none 0 0, .int .i64 0] 40))
        obtain ⟨x1, x2, x3, x4⟩ := bx_new w3 false (.slice none 0 0) 0
        have KS := Lib.hid (sameNum_any false none 0 0 [] 0 none 0 (w3.alloc (.cells #[.bool false, .slice none 0 0, .int .i64 0] 40)) rfl (Nat.le_refl _) (Nat.le_refl _) (by decide) (Rd.nil _ _) (Rd.nil _ _))
        clear hb3 KX0
        go_wp2_with fail
        refine KS.out.mono ?_
        rintro r w4 ⟨rfl, hb4⟩
        have h4 := Lib.hid (below_on h3.out hb4)
        clear hb4 x1 x2 x3 x4 h3
        have KA := Lib.hid (awake2_any w4 (HT.out _ h4.out))
        go_wp2_with fail
        refine KA.out.mono ?_
        rintro r w5 ⟨rfl, hb5⟩
        have hf := Lib.hid (below_on h4.out hb5); clear hb5
        go_wp2
        go_ret
        exact BoolBelow.mk rfl hf.out
end Go.Proofs.YtjieilcegkmfiaaDoor
