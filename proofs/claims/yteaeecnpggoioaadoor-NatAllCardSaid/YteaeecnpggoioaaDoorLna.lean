/- The walk of the law NatAll. -/
import Derived.Test.YteaeecnpggoioaaDoorRv
namespace Go.Proofs.YteaeecnpggoioaaDoor
open Go.RowKit
set_option linter.unusedVariables false
set_option linter.unusedSimpArgs false

theorem size_nums (s : ByteArray) : (nums s).length = s.size := nums_len s

set_option maxHeartbeats 16000000 in
set_option maxRecDepth 1000000 in
theorem natAll_low (ad : Option Addr) (n cap : Nat) (xs : List Nat) (ad' : Option Addr) (n' cap' : Nat) (ys : List Nat) (b : Nat) (k0 : Int) (s : ByteArray) (w : World)
    (hn : xs.length = n) (hcap : n ≤ cap) (ho : Okl xs) (hr : Rd w ad xs) (hn' : ys.length = n') (hcap' : n' ≤ cap') (ho' : Okl ys) (hr' : Rd w ad' ys) (hb : b < B32) (hk0 : -9223372036854775808 ≤ k0 ∧ k0 ≤ 9223372036854775807) (hs : s.size ≤ maxLen) (hf1 : n ≤ 25) (hf2 : n' ≤ 25) (hf3 : s.size ≤ 300) (hk : k0 < 40) :
    Calls Tryd.prog 3 #[.slice ad n cap, .slice ad' n' cap', .int .u32 (b : Int), .int .i64 k0, .string s] w fun e w' => e = .returned (.bool true) ∧ Below w.heap.size w w' := by

  have hnn : (n : Nat) ≤ n := Nat.le_refl _
  have hctx := (((Ctx.begin w).push (ent_arg hn' hcap' ho' hr' hf2 rfl)).push (ent_arg hn hcap ho hr hf1 rfl))
  have H0 := Lib.hid hctx
  have KF := Lib.hid (fun W => few_yes ad ad' n cap n' cap' W hf1 hf2)
  have HB := Lib.hid hb
  have HK := Lib.hid hk0
  have HPO := Lib.hid (fun W => parse_any s W)
  have HPR := Lib.hid (fun W => refParse_any s W hs)
  have hsz : s.size ≤ 300 := hf3
  have hs1 : ¬ (300 : Int) < (s.size : Int) := by omega
  have hbz : b < 4294967296 := hb
  clear hctx hn ho hr hn' ho' hr' hs hf3 hb hnn
  generalize val xs = N at *
  generalize val ys = M at *
  generalize nums s = d at *
  have hk1 : decide ((40 : Int) < k0) = false := decide_eq_false (by omega)
  have hk2 : decide (k0 < 40) = true := decide_eq_true (by omega)
  obtain ⟨kk, hkk⟩ : ∃ kk, cutP k0 = kk := ⟨_, rfl⟩
  have hkl : kk ≤ 40 := by unfold cutP at hkk; omega
  have HKK := Lib.hid hkk
  clear hkk hk
  go_enter Tryd.func3, Tryd.ntmps3
  go_wp2_with fail
  refine (KF.out _).mono ?_
  rintro e w' ⟨rfl, rfl⟩
  go_wp2_with fail
  refine (limbs_c H0.out 0 rfl (by decide)).mono ?_
  rintro e w1 ⟨x1, rfl, h1⟩
  have H1 := Lib.hid h1; clear h1
  go_wp2_with fail
  refine (limbs_c H1.out 2 rfl (by decide)).mono ?_
  rintro e w2 ⟨x2, rfl, h2⟩
  have H2 := Lib.hid h2; clear h2
  go_wp2_with fail
  refine (div_c H2.out 1 0 rfl rfl (by decide) (by decide)).mono ?_
  rintro e w3 ⟨x3, y3, rfl, h3⟩
  have H3 := Lib.hid h3; clear h3
  go_wp2_with fail
  refine (rDiv_c H3.out 4 5 rfl rfl (by decide) (by decide)).mono ?_
  rintro e w4 ⟨x4, y4, rfl, h4⟩
  have H4 := Lib.hid h4; clear h4
  go_wp2_with fail
  refine (trim_c H4.out 5 rfl (by decide)).mono ?_
  rintro e w5 ⟨x5, m1, t1, rfl, p1, p2, p3, p4, h5⟩
  have H5 := Lib.hid h5; clear h5
  have P1 := Lib.hid p1; have P2 := Lib.hid p2; have P3 := Lib.hid p3; clear p1 p2 p3
  go_wp2_with fail
  refine (rTrim_c H5.out 7 rfl (by decide)).mono ?_
  rintro e w6 ⟨x6, m2, t2, rfl, p1, p2, p3, p5, h6⟩
  have H6 := Lib.hid h6; clear h6
  obtain ⟨e1, e2⟩ := trim_same P1.out P2.out P3.out p1 p2 p3
  subst e1 e2
  clear p1 p2 p3 P1 P2 P3
  go_wp2_with fail
  refine ((HPO.out _).mono (fun _ _ h => parse_ctx H6.out d _ _ h)).mono ?_
  rintro e w7 ⟨x7, rfl, h7⟩
  have H7 := Lib.hid h7; clear h7
  go_wp2_with fail
  refine ((HPR.out _).mono (fun _ _ h => parse_ctx H7.out d _ _ h)).mono ?_
  rintro e w8 ⟨x8, rfl, h8⟩
  have H8 := Lib.hid h8; clear h8
  generalize paOk d = OK at *
  generalize paX d = PX at *
  go_wp2_with fail
  refine (same_c H8.out 6 4 rfl rfl (by decide)).mono ?_
  rintro e w9 ⟨rfl, h9⟩
  have H9 := Lib.hid h9; clear h9
  go_wp2_with fail
  refine (same_c H9.out 7 5 rfl rfl (by decide)).mono ?_
  rintro e w10 ⟨rfl, h10⟩
  have H10 := Lib.hid h10; clear h10
  go_wp2_with fail
  refine (same_c H10.out 3 2 rfl rfl (by decide)).mono ?_
  rintro e w11 ⟨rfl, h11⟩
  have H11 := Lib.hid h11; clear h11
  go_wp2_with fail
  refine (same_c H11.out 1 0 rfl rfl (by decide)).mono ?_
  rintro e w12 ⟨rfl, h12⟩
  have H12 := Lib.hid h12; clear h12
  go_wp2_with fail
  refine (cmp_c H12.out 9 8 rfl rfl (by decide) (by decide)).mono ?_
  rintro e w13 ⟨rfl, h13⟩
  have H13 := Lib.hid h13; clear h13
  go_wp2_with fail
  refine (rCmp_c H13.out 10 11 rfl rfl (by decide) (by decide)).mono ?_
  rintro e w14 ⟨rfl, h14⟩
  have H14 := Lib.hid h14; clear h14
  generalize cmpN N M = cv at *
  go_wp2_with fail
  refine (bits_c H14.out 9 rfl (by decide)).mono ?_
  rintro e w' ⟨rfl, rfl⟩
  generalize hbn : bitsN N = bn at *
  have HBN := Lib.hid hbn; clear hbn
  go_wp2_with fail
  refine (rBits_c H14.out 10 rfl (by decide)).mono ?_
  rintro e w15 ⟨rfl, h15⟩
  have H15 := Lib.hid h15; clear h15
  rw [HBN.out]
  go_wp2_with fail
  refine (pow_c H15.out HB.out k0 kk HKK.out).mono ?_
  rintro e w16 ⟨x16, rfl, h16⟩
  have H16 := Lib.hid h16; clear h16
  go_wp2_with fail
  refine (rPow_c H16.out HB.out k0 HK.out kk HKK.out).mono ?_
  rintro e w17 ⟨x17, rfl, h17⟩
  have H17 := Lib.hid h17; clear h17
  go_wp2_with fail
  refine (same_c H17.out 1 0 rfl rfl (by omega)).mono ?_
  rintro e w18 ⟨rfl, h18⟩
  have H18 := Lib.hid h18; clear h18
  go_wp2_with fail
  refine (norm_c H18.out 11 rfl (by decide)).mono ?_
  rintro e w19 ⟨x19, rfl, h19⟩
  have H19 := Lib.hid h19; clear h19
  go_wp2_with fail
  refine (rNorm_c H19.out 13 rfl (by decide)).mono ?_
  rintro e w20 ⟨x20, rfl, h20⟩
  have H20 := Lib.hid h20; clear h20
  go_wp2_with fail
  refine (same_c H20.out 1 0 rfl rfl (by decide)).mono ?_
  rintro e w21 ⟨rfl, h21⟩
  have H21 := Lib.hid h21; clear h21
  go_wp2_with fail
  refine (add_c H21.out 13 12 rfl rfl (by decide) (by decide)).mono ?_
  rintro e w22 ⟨x22, rfl, h22⟩
  have H22 := Lib.hid h22; clear h22
  go_wp2_with fail
  refine (rAdd_c H22.out 15 16 rfl rfl (by decide) (by decide)).mono ?_
  rintro e w23 ⟨x23, rfl, h23⟩
  have H23 := Lib.hid h23; clear h23
  go_wp2_with fail
  refine (same_c H23.out 1 0 rfl rfl (by decide)).mono ?_
  rintro e w24 ⟨rfl, h24⟩
  have H24 := Lib.hid h24; clear h24
  go_wp2_with fail
  refine (sub_c H24.out 15 14 rfl rfl (by decide) (by decide)).mono ?_
  rintro e w25 ⟨x25, rfl, h25⟩
  have H25 := Lib.hid h25; clear h25
  go_wp2_with fail
  refine (rSub_c H25.out 17 18 rfl rfl (by decide) (by decide)).mono ?_
  rintro e w26 ⟨x26, rfl, h26⟩
  have H26 := Lib.hid h26; clear h26
  go_wp2_with fail
  refine (same_c H26.out 1 0 rfl rfl (by decide)).mono ?_
  rintro e w27 ⟨rfl, h27⟩
  have H27 := Lib.hid h27; clear h27
  go_wp2_with fail
  refine (mul_c H27.out 17 16 rfl rfl (by decide) (by decide)).mono ?_
  rintro e w28 ⟨x28, rfl, h28⟩
  have H28 := Lib.hid h28; clear h28
  go_wp2_with fail
  refine (rMul_c H28.out 19 20 rfl rfl (by decide) (by decide)).mono ?_
  rintro e w29 ⟨x29, rfl, h29⟩
  have H29 := Lib.hid h29; clear h29
  go_wp2_with fail
  refine (same_c H29.out 1 0 rfl rfl (by decide)).mono ?_
  rintro e w30 ⟨rfl, h30⟩
  have H30 := Lib.hid h30; clear h30
  go_wp2_with fail
  refine (digits_c H30.out 19 rfl (by decide)).mono ?_
  rintro e w31 ⟨rfl, h31⟩
  have H31 := Lib.hid h31; clear h31
  go_wp2_with fail
  refine (rDigits_c H31.out 20 rfl (by decide)).mono ?_
  rintro e w32 ⟨rfl, h32⟩
  have H32 := Lib.hid h32; clear h32
  generalize txt (dec N) = TD at *
  go_wp2_with fail
  refine (same_c H32.out 19 20 rfl rfl (by decide)).mono ?_
  rintro e w33 ⟨rfl, h33⟩
  have H33 := Lib.hid h33; clear h33
  go_wp2_with fail
  refine (same_c H33.out 18 21 rfl rfl (by decide)).mono ?_
  rintro e w34 ⟨rfl, h34⟩
  have H34 := Lib.hid h34; clear h34
  go_wp2_with fail
  refine (awake_c H34.out).mono ?_
  rintro e wz ⟨rfl, hz⟩
  have HZ := Lib.hid hz; clear hz
  go_wp2
  go_ret
  exact ⟨rfl, HZ.out⟩
set_option maxHeartbeats 16000000 in
set_option maxRecDepth 1000000 in
theorem natAll_high (ad : Option Addr) (n cap : Nat) (xs : List Nat) (ad' : Option Addr) (n' cap' : Nat) (ys : List Nat) (b : Nat) (k0 : Int) (s : ByteArray) (w : World)
    (hn : xs.length = n) (hcap : n ≤ cap) (ho : Okl xs) (hr : Rd w ad xs) (hn' : ys.length = n') (hcap' : n' ≤ cap') (ho' : Okl ys) (hr' : Rd w ad' ys) (hb : b < B32) (hk0 : -9223372036854775808 ≤ k0 ∧ k0 ≤ 9223372036854775807) (hs : s.size ≤ maxLen) (hf1 : n ≤ 25) (hf2 : n' ≤ 25) (hf3 : s.size ≤ 300) (hk : ¬ k0 < 40) (hk9 : k0 ≤ 40 ∨ 1300 ≤ k0) :
    Calls Tryd.prog 3 #[.slice ad n cap, .slice ad' n' cap', .int .u32 (b : Int), .int .i64 k0, .string s] w fun e w' => e = .returned (.bool true) ∧ Below w.heap.size w w' := by

  have hnn : (n : Nat) ≤ n := Nat.le_refl _
  have hctx := (((Ctx.begin w).push (ent_arg hn' hcap' ho' hr' hf2 rfl)).push (ent_arg hn hcap ho hr hf1 rfl))
  have H0 := Lib.hid hctx
  have KF := Lib.hid (fun W => few_yes ad ad' n cap n' cap' W hf1 hf2)
  have HB := Lib.hid hb
  have HK := Lib.hid hk0
  have HPO := Lib.hid (fun W => parse_any s W)
  have HPR := Lib.hid (fun W => refParse_any s W hs)
  have hsz : s.size ≤ 300 := hf3
  have hs1 : ¬ (300 : Int) < (s.size : Int) := by omega
  have hbz : b < 4294967296 := hb
  clear hctx hn ho hr hn' ho' hr' hs hf3 hb hnn
  generalize val xs = N at *
  generalize val ys = M at *
  generalize nums s = d at *
  have hk2 : decide (k0 < 40) = false := decide_eq_false (by omega)
  have hk3 : decide ((40 : Int) < k0) = false ∨ (decide ((40 : Int) < k0) = true ∧ decide (k0 < 1300) = false) := by
    by_cases h : (40 : Int) < k0
    · exact .inr ⟨decide_eq_true h, decide_eq_false (by omega)⟩
    · exact .inl (decide_eq_false h)
  clear hk
  rcases hk3 with hk1 | ⟨hk1, hk4⟩
  all_goals
    go_enter Tryd.func3, Tryd.ntmps3
    go_wp2_with fail
    refine (KF.out _).mono ?_
    rintro e w' ⟨rfl, rfl⟩
    go_wp2_with fail
    refine (limbs_c H0.out 0 rfl (by decide)).mono ?_
    rintro e w1 ⟨x1, rfl, h1⟩
    have H1 := Lib.hid h1; clear h1
    go_wp2_with fail
    refine (limbs_c H1.out 2 rfl (by decide)).mono ?_
    rintro e w2 ⟨x2, rfl, h2⟩
    have H2 := Lib.hid h2; clear h2
    go_wp2_with fail
    refine (div_c H2.out 1 0 rfl rfl (by decide) (by decide)).mono ?_
    rintro e w3 ⟨x3, y3, rfl, h3⟩
    have H3 := Lib.hid h3; clear h3
    go_wp2_with fail
    refine (rDiv_c H3.out 4 5 rfl rfl (by decide) (by decide)).mono ?_
    rintro e w4 ⟨x4, y4, rfl, h4⟩
    have H4 := Lib.hid h4; clear h4
    go_wp2_with fail
    refine (trim_c H4.out 5 rfl (by decide)).mono ?_
    rintro e w5 ⟨x5, m1, t1, rfl, p1, p2, p3, p4, h5⟩
    have H5 := Lib.hid h5; clear h5
    have P1 := Lib.hid p1; have P2 := Lib.hid p2; have P3 := Lib.hid p3; clear p1 p2 p3
    go_wp2_with fail
    refine (rTrim_c H5.out 7 rfl (by decide)).mono ?_
    rintro e w6 ⟨x6, m2, t2, rfl, p1, p2, p3, p5, h6⟩
    have H6 := Lib.hid h6; clear h6
    obtain ⟨e1, e2⟩ := trim_same P1.out P2.out P3.out p1 p2 p3
    subst e1 e2
    clear p1 p2 p3 P1 P2 P3
    go_wp2_with fail
    refine ((HPO.out _).mono (fun _ _ h => parse_ctx H6.out d _ _ h)).mono ?_
    rintro e w7 ⟨x7, rfl, h7⟩
    have H7 := Lib.hid h7; clear h7
    go_wp2_with fail
    refine ((HPR.out _).mono (fun _ _ h => parse_ctx H7.out d _ _ h)).mono ?_
    rintro e w8 ⟨x8, rfl, h8⟩
    have H8 := Lib.hid h8; clear h8
    generalize paOk d = OK at *
    generalize paX d = PX at *
    go_wp2_with fail
    refine (same_c H8.out 6 4 rfl rfl (by decide)).mono ?_
    rintro e w9 ⟨rfl, h9⟩
    have H9 := Lib.hid h9; clear h9
    go_wp2_with fail
    refine (same_c H9.out 7 5 rfl rfl (by decide)).mono ?_
    rintro e w10 ⟨rfl, h10⟩
    have H10 := Lib.hid h10; clear h10
    go_wp2_with fail
    refine (same_c H10.out 3 2 rfl rfl (by decide)).mono ?_
    rintro e w11 ⟨rfl, h11⟩
    have H11 := Lib.hid h11; clear h11
    go_wp2_with fail
    refine (same_c H11.out 1 0 rfl rfl (by decide)).mono ?_
    rintro e w12 ⟨rfl, h12⟩
    have H12 := Lib.hid h12; clear h12
    go_wp2_with fail
    refine (cmp_c H12.out 9 8 rfl rfl (by decide) (by decide)).mono ?_
    rintro e w13 ⟨rfl, h13⟩
    have H13 := Lib.hid h13; clear h13
    go_wp2_with fail
    refine (rCmp_c H13.out 10 11 rfl rfl (by decide) (by decide)).mono ?_
    rintro e w14 ⟨rfl, h14⟩
    have H14 := Lib.hid h14; clear h14
    generalize cmpN N M = cv at *
    go_wp2_with fail
    refine (bits_c H14.out 9 rfl (by decide)).mono ?_
    rintro e w' ⟨rfl, rfl⟩
    generalize hbn : bitsN N = bn at *
    have HBN := Lib.hid hbn; clear hbn
    go_wp2_with fail
    refine (rBits_c H14.out 10 rfl (by decide)).mono ?_
    rintro e w15 ⟨rfl, h15⟩
    have H15 := Lib.hid h15; clear h15
    rw [HBN.out]
    go_wp2_with fail
    refine (norm_c H15.out 9 rfl (by decide)).mono ?_
    rintro e w16 ⟨x16, rfl, h16⟩
    have H16 := Lib.hid h16; clear h16
    go_wp2_with fail
    refine (rNorm_c H16.out 11 rfl (by decide)).mono ?_
    rintro e w17 ⟨x17, rfl, h17⟩
    have H17 := Lib.hid h17; clear h17
    go_wp2_with fail
    refine (same_c H17.out 1 0 rfl rfl (by decide)).mono ?_
    rintro e w18 ⟨rfl, h18⟩
    have H18 := Lib.hid h18; clear h18
    go_wp2_with fail
    refine (add_c H18.out 11 10 rfl rfl (by decide) (by decide)).mono ?_
    rintro e w19 ⟨x19, rfl, h19⟩
    have H19 := Lib.hid h19; clear h19
    go_wp2_with fail
    refine (rAdd_c H19.out 13 14 rfl rfl (by decide) (by decide)).mono ?_
    rintro e w20 ⟨x20, rfl, h20⟩
    have H20 := Lib.hid h20; clear h20
    go_wp2_with fail
    refine (same_c H20.out 1 0 rfl rfl (by decide)).mono ?_
    rintro e w21 ⟨rfl, h21⟩
    have H21 := Lib.hid h21; clear h21
    go_wp2_with fail
    refine (sub_c H21.out 13 12 rfl rfl (by decide) (by decide)).mono ?_
    rintro e w22 ⟨x22, rfl, h22⟩
    have H22 := Lib.hid h22; clear h22
    go_wp2_with fail
    refine (rSub_c H22.out 15 16 rfl rfl (by decide) (by decide)).mono ?_
    rintro e w23 ⟨x23, rfl, h23⟩
    have H23 := Lib.hid h23; clear h23
    go_wp2_with fail
    refine (same_c H23.out 1 0 rfl rfl (by decide)).mono ?_
    rintro e w24 ⟨rfl, h24⟩
    have H24 := Lib.hid h24; clear h24
    go_wp2_with fail
    refine (mul_c H24.out 15 14 rfl rfl (by decide) (by decide)).mono ?_
    rintro e w25 ⟨x25, rfl, h25⟩
    have H25 := Lib.hid h25; clear h25
    go_wp2_with fail
    refine (rMul_c H25.out 17 18 rfl rfl (by decide) (by decide)).mono ?_
    rintro e w26 ⟨x26, rfl, h26⟩
    have H26 := Lib.hid h26; clear h26
    go_wp2_with fail
    refine (same_c H26.out 1 0 rfl rfl (by decide)).mono ?_
    rintro e w27 ⟨rfl, h27⟩
    have H27 := Lib.hid h27; clear h27
    go_wp2_with fail
    refine (digits_c H27.out 17 rfl (by decide)).mono ?_
    rintro e w28 ⟨rfl, h28⟩
    have H28 := Lib.hid h28; clear h28
    go_wp2_with fail
    refine (rDigits_c H28.out 18 rfl (by decide)).mono ?_
    rintro e w29 ⟨rfl, h29⟩
    have H29 := Lib.hid h29; clear h29
    generalize txt (dec N) = TD at *
    go_wp2_with fail
    refine (same_c H29.out 17 18 rfl rfl (by decide)).mono ?_
    rintro e w30 ⟨rfl, h30⟩
    have H30 := Lib.hid h30; clear h30
    go_wp2_with fail
    refine (same_c H30.out 16 19 rfl rfl (by decide)).mono ?_
    rintro e w31 ⟨rfl, h31⟩
    have H31 := Lib.hid h31; clear h31
    go_wp2_with fail
    refine (awake_c H31.out).mono ?_
    rintro e wz ⟨rfl, hz⟩
    have HZ := Lib.hid hz; clear hz
    go_wp2
    go_ret
    exact ⟨rfl, HZ.out⟩
set_option maxHeartbeats 16000000 in
set_option maxRecDepth 1000000 in
theorem natAll_walk (ad : Option Addr) (n cap : Nat) (xs : List Nat) (ad' : Option Addr) (n' cap' : Nat) (ys : List Nat) (b : Nat) (k0 : Int) (s : ByteArray) (w : World)
    (hn : xs.length = n) (hcap : n ≤ cap) (ho : Okl xs) (hr : Rd w ad xs) (hn' : ys.length = n') (hcap' : n' ≤ cap') (ho' : Okl ys) (hr' : Rd w ad' ys) (hb : b < B32) (hk0 : -9223372036854775808 ≤ k0 ∧ k0 ≤ 9223372036854775807) (hs : s.size ≤ maxLen) :
    Calls Tryd.prog 3 #[.slice ad n cap, .slice ad' n' cap', .int .u32 (b : Int), .int .i64 k0, .string s] w fun e w' => e = .returned (.bool true) ∧ Below w.heap.size w w' := by

  have KA := Lib.hid (awake_any w)
  by_cases hf : n ≤ 25 ∧ n' ≤ 25
  · have KF := Lib.hid (few_yes ad ad' n cap n' cap' w hf.1 hf.2)
    by_cases hf3 : s.size ≤ 300
    · by_cases hk : k0 < 40
      · exact natAll_low ad n cap xs ad' n' cap' ys b k0 s w hn hcap ho hr hn' hcap' ho' hr' hb hk0 hs hf.1 hf.2 hf3 hk
      · by_cases hk9 : k0 ≤ 40 ∨ 1300 ≤ k0
        · exact natAll_high ad n cap xs ad' n' cap' ys b k0 s w hn hcap ho hr hn' hcap' ho' hr' hb hk0 hs hf.1 hf.2 hf3 hk hk9
        · have e1 : decide ((40 : Int) < k0) = true := decide_eq_true (by omega)
          have e2 : decide (k0 < 1300) = true := decide_eq_true (by omega)
          have e3 : ¬ (300 : Int) < (s.size : Int) := by omega
          clear hn ho hr hn' ho' hr' hb hs hf hk hk9
          go_enter Tryd.func3, Tryd.ntmps3
          go_wp2_with fail
          refine KF.out.mono ?_
          rintro e w' ⟨rfl, rfl⟩
          go_wp2_with fail
          refine KA.out.mono ?_
          rintro e wz ⟨rfl, hz⟩
          have HZ := Lib.hid hz; clear hz
          go_wp2
          go_ret
          exact ⟨rfl, HZ.out⟩
    · have e3 : (300 : Int) < (s.size : Int) := by omega
      clear hn ho hr hn' ho' hr' hb hs hf
      go_enter Tryd.func3, Tryd.ntmps3
      go_wp2_with fail
      refine KF.out.mono ?_
      rintro e w' ⟨rfl, rfl⟩
      go_wp2_with fail
      refine KA.out.mono ?_
      rintro e wz ⟨rfl, hz⟩
      have HZ := Lib.hid hz; clear hz
      go_wp2
      go_ret
      exact ⟨rfl, HZ.out⟩
  · have KF := Lib.hid (few_no ad ad' n cap n' cap' w hf)
    clear hn ho hr hn' ho' hr' hb hs hf
    go_enter Tryd.func3, Tryd.ntmps3
    go_wp2_with fail
    refine KF.out.mono ?_
    rintro e w' ⟨rfl, rfl⟩
    go_wp2_with fail
    refine KA.out.mono ?_
    rintro e wz ⟨rfl, hz⟩
    have HZ := Lib.hid hz; clear hz
    go_wp2
    go_ret
    exact ⟨rfl, HZ.out⟩
end Go.Proofs.YteaeecnpggoioaaDoor
