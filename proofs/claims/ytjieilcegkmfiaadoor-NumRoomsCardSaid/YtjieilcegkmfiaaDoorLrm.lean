/- The walk of the law NumRooms. -/
import Derived.Test.YtjieilcegkmfiaaDoorC8
import Derived.Test.YtjieilcegkmfiaaDoorPlc
namespace Go.Proofs.YtjieilcegkmfiaaDoor
open Go.RowKit Go.Sort
set_option linter.unusedVariables false

theorem okl_one {x : Nat} (h : x < B32) : Okl [x] := Okl.cons h Okl.nil
theorem okl_two {x y : Nat} (h : x < B32) (k : y < B32) : Okl [x, y] := Okl.cons h (Okl.cons k Okl.nil)
theorem limbs_7 : limbs 7 = [7] := limbs_small (by decide) (by decide)
theorem len_7 : (limbs 7).length = 1 := by rw [limbs_7]; rfl
theorem len_0 : (limbs 0).length = 0 := by rw [limbs_zero]; rfl
/-- What is put behind is still there: the boxes, behind a call of Make with a new list. -/
theorem below_make (W w1 : World) (a : Array Value) (t : TypeId) (b : Array Value) (t2 : TypeId) (h : Below (W.alloc (.cells a t)).heap.size (W.alloc (.cells a t)) w1) : Below W.heap.size W (w1.alloc (.cells b t2)) :=
  below_on (below_on (below_box W a t) h) (below_box w1 b t2)

set_option maxHeartbeats 16000000 in
set_option maxRecDepth 100000 in
theorem numRooms_walk (n0 d0 : Int) (ng : Bool) (w : World) (hn0 : -9223372036854775808 ≤ n0 ∧ n0 ≤ 9223372036854775807) (hd0 : -9223372036854775808 ≤ d0 ∧ d0 ≤ 9223372036854775807) (ht : TB w) :
    Calls Tryd.prog 8 #[.int .i64 n0, .int .i64 d0, .bool ng] w (BoolBelow true w) := by
  have KP := Lib.hid (fun w1 => place_any n0 2401 w1 hn0 ⟨by omega, by omega⟩)
  have KQ := Lib.hid (fun w1 => place_any d0 5 w1 hd0 ⟨by omega, by omega⟩)
  have hp1 := Int.emod_nonneg n0 (show (2401 : Int) ≠ 0 by decide)
  have hp2 := Int.emod_lt_of_pos n0 (show (0 : Int) < 2401 by decide)
  have hq1 := Int.emod_nonneg d0 (show (5 : Int) ≠ 0 by decide)
  have hq2 := Int.emod_lt_of_pos d0 (show (0 : Int) < 5 by decide)
  generalize n0 % 2401 = p at *
  generalize d0 % 5 = d at *
  have HT := Lib.hid ht
  clear hn0 hd0 ht
  go_enter Tryd.func8, Tryd.ntmps8
  go_wp2_with fail
  refine (KP.out _).mono ?_
  rintro r w0 ⟨rfl, rfl⟩
  go_wp2_with fail
  refine (KQ.out _).mono ?_
  rintro r w0 ⟨rfl, rfl⟩
  have h0 := Lib.hid (Ctx.begin w0)
  have hA1 := Lib.hid (h0.out.lits1 (okl_one (x := 7) (by decide)) (N := 7) rfl 1 rfl #[.int .u32 7] rfl)
  go_wp2_with fail
  with_reducible refine (make_yes2 hA1.out.again 0 rfl (by decide) ng (p - 1200) 7 0 (by decide) (by decide) (by rw [len_7]; decide) (p - 1200) (by omega) (by omega) (by omega)).mono ?_
  rintro r w1 ⟨v1, rfl, hm1⟩
  obtain ⟨ad1, cap1, rfl, _⟩ := hm1.get 0 rfl
  rw [len_7] at *
  have hbm1 := Lib.hid (below_make _ _ _ _ #[.bool ng, .slice ad1 1 cap1, .int .i64 (p - 1200)] 40 hm1.below)
  have h1 := Lib.hid ((hm1.on hA1.out).step (below_box w1 #[.bool ng, .slice ad1 1 cap1, .int .i64 (p - 1200)] 40))
  have B1_1 := Lib.hid (bx_new w1 ng (.slice ad1 1 cap1) (p - 1200))
  clear hm1 hA1 hbm1 h0
  have hA2 := Lib.hid (h1.out.lits2 (okl_one (x := 7) (by decide)) (N := 7) rfl 1 rfl #[.int .u32 7] rfl)
  go_wp2_with fail
  with_reducible refine (make_no hA2.out.again 0 rfl (by decide) ng (1201 + d) 7 0 (by decide) (by decide) (fun h => by have := h.2.2; omega) (by omega)).mono ?_
  rintro r w2 ⟨v2, rfl, hm2⟩
  obtain ⟨ad2, cap2, rfl, _⟩ := hm2.get 0 rfl
  rw [len_0] at *
  have hbm2 := Lib.hid (below_make _ _ _ _ #[.bool false, .slice ad2 0 cap2, .int .i64 0] 40 hm2.below)
  have h2 := Lib.hid ((hm2.on hA2.out).step (below_box w2 #[.bool false, .slice ad2 0 cap2, .int .i64 0] 40))
  have B1_2 := Lib.hid (B1_1.out.step hbm2.out)
  clear B1_1
  have B2_2 := Lib.hid (bx_new w2 false (.slice ad2 0 cap2) 0)
  clear hm2 hA2 hbm2 h1
  clear B2_2
  have hA3 := Lib.hid (h2.out.lits2 (okl_one (x := 7) (by decide)) (N := 7) rfl 1 rfl #[.int .u32 7] rfl)
  go_wp2_with fail
  with_reducible refine (make_no hA3.out.again 0 rfl (by decide) ng (-1201 - d) 7 0 (by decide) (by decide) (fun h => by have := h.2.1; omega) (by omega)).mono ?_
  rintro r w3 ⟨v3, rfl, hm3⟩
  obtain ⟨ad3, cap3, rfl, _⟩ := hm3.get 0 rfl
  rw [len_0] at *
  have hbm3 := Lib.hid (below_make _ _ _ _ #[.bool false, .slice ad3 0 cap3, .int .i64 0] 40 hm3.below)
  have h3 := Lib.hid ((hm3.on hA3.out).step (below_box w3 #[.bool false, .slice ad3 0 cap3, .int .i64 0] 40))
  have B1_3 := Lib.hid (B1_2.out.step hbm3.out)
  clear B1_2
  have B3_3 := Lib.hid (bx_new w3 false (.slice ad3 0 cap3) 0)
  clear hm3 hA3 hbm3 h2
  clear B3_3
  have hA4 := Lib.hid (h3.out.lits2 (okl_one (x := 70) (by decide)) (N := 70) rfl 1 rfl #[.int .u32 70] rfl)
  go_wp2_with fail
  with_reducible refine (make_yes2 hA4.out.again 0 rfl (by decide) ng 1199 7 1 (by decide) (by decide) (by rw [len_7]; decide) 1200 (by omega) (by omega) (by omega)).mono ?_
  rintro r w4 ⟨v4, rfl, hm4⟩
  obtain ⟨ad4, cap4, rfl, _⟩ := hm4.get 0 rfl
  rw [len_7] at *
  have hbm4 := Lib.hid (below_make _ _ _ _ #[.bool ng, .slice ad4 1 cap4, .int .i64 1200] 40 hm4.below)
  have h4 := Lib.hid ((hm4.on hA4.out).step (below_box w4 #[.bool ng, .slice ad4 1 cap4, .int .i64 1200] 40))
  have B1_4 := Lib.hid (B1_3.out.step hbm4.out)
  clear B1_3
  have B4_4 := Lib.hid (bx_new w4 ng (.slice ad4 1 cap4) 1200)
  clear hm4 hA4 hbm4 h3
  have hA5 := Lib.hid (h4.out.lits2 (okl_two (x := 0) (y := 0) (by decide) (by decide)) (N := 0) rfl 2 rfl #[.int .u32 0, .int .u32 0] rfl)
  go_wp2_with fail
  with_reducible refine (make_zero hA5.out.again 0 rfl (by decide) ng 1125899906842624).mono ?_
  rintro r w5 ⟨v5, rfl, hm5⟩
  obtain ⟨ad5, cap5, rfl, _⟩ := hm5.get 0 rfl
  rw [len_0] at *
  have hbm5 := Lib.hid (below_make _ _ _ _ #[.bool false, .slice ad5 0 cap5, .int .i64 0] 40 hm5.below)
  have h5 := Lib.hid ((hm5.on hA5.out).step (below_box w5 #[.bool false, .slice ad5 0 cap5, .int .i64 0] 40))
  have B1_5 := Lib.hid (B1_4.out.step hbm5.out)
  clear B1_4
  have B4_5 := Lib.hid (B4_4.out.step hbm5.out)
  clear B4_4
  have B5_5 := Lib.hid (bx_new w5 false (.slice ad5 0 cap5) 0)
  clear hm5 hA5 hbm5 h4
  have hchk : chkB ng (limbs 7) (p - 1200) = true := chkB_mk (by decide) (by rw [len_7]; decide) (by omega) (by omega)
  have hok1 := Lib.hid (h5.out.num 8 (neg := ng) (e := p - 1200) rfl hchk)
  have HCK := Lib.hid hchk; clear hchk
  obtain ⟨x1, x2, x3, x4⟩ := B1_5.out
  have KT := Lib.hid (numText_ok hok1.out (HT.out.below h5.out.below))
  rw [val_limbs] at KT
  go_wp2_with fail
  with_reducible refine KT.out.mono ?_
  rintro r w6 ⟨rfl, hb6⟩
  have h6 := Lib.hid (h5.out.step hb6)
  have B1_6 := Lib.hid (B1_5.out.step hb6)
  have B4_6 := Lib.hid (B4_5.out.step hb6)
  have B5_6 := Lib.hid (B5_5.out.step hb6)
  clear hb6 hok1 KT h5 B1_5 B4_5 B5_5 x1 x2 x3 x4
  have KR := numParse_any h6.out.again (numTxt ng 7 (p - 1200)) (okb_num ng 7 _)
  rw [parse_text (by decide) (by rw [len_7]; decide) dec_7 (by omega) (by omega)] at KR
  have KRH := Lib.hid KR; clear KR
  go_wp2_with fail
  with_reducible refine KRH.out.mono ?_
  rintro r w7 ⟨v7, rfl, hm7⟩
  obtain ⟨ad7, cap7, rfl, _⟩ := hm7.get 0 rfl
  rw [len_7] at *
  have hbm7 := below_on hm7.below (below_box w7 #[.bool ng, .slice ad7 1 cap7, .int .i64 (p - 1200)] 40)
  have h7 := Lib.hid ((hm7.on h6.out).step (below_box w7 #[.bool ng, .slice ad7 1 cap7, .int .i64 (p - 1200)] 40))
  have B1_7 := Lib.hid (B1_6.out.step hbm7)
  have B4_7 := Lib.hid (B4_6.out.step hbm7)
  have B5_7 := Lib.hid (B5_6.out.step hbm7)
  have B7_7 := Lib.hid (bx_new w7 ng (.slice ad7 1 cap7) (p - 1200))
  clear hm7 hbm7 h6 B1_6 B4_6 B5_6 KRH
  obtain ⟨x1, x2, x3, x4⟩ := B1_7.out
  have ok1 := h7.out.num 9 (neg := ng) (e := p - 1200) rfl HCK.out
  have KC := Lib.hid (check_any ng ad1 1 cap1 (limbs 7) (p - 1200) _ ok1.len ok1.cap (by omega) ok1.ok ok1.rd)
  rw [HCK.out] at KC
  clear ok1
  go_wp2_with fail
  with_reducible refine KC.out.mono ?_
  rintro r w8 ⟨rfl, hb8⟩
  have h8 := Lib.hid (h7.out.step hb8)
  have B1_8 := Lib.hid (B1_7.out.step hb8)
  have B4_8 := B4_7.out.step hb8
  have B5_8 := B5_7.out.step hb8
  have B7_8 := Lib.hid (B7_7.out.step hb8)
  clear hb8 h7 B1_7 B4_7 B5_7 B7_7 KC x1 x2 x3 x4
  obtain ⟨y1, y2, y3, y4⟩ := B4_8
  obtain ⟨z1, z2, z3, z4⟩ := B5_8
  have okz := h8.out.num 1 (neg := false) (e := 0) (by exact rfl) (by rw [limbs_zero]; rfl)
  have KS := Lib.hid (sameNum_any false ad5 0 cap5 (limbs 0) 0 none 0 w8 len_0 okz.cap (Nat.le_refl _) (by omega) okz.rd (by rw [limbs_zero]; exact Rd.nil _ _))
  clear okz
  go_wp2_with fail
  with_reducible refine KS.out.mono ?_
  rintro r w9 ⟨rfl, hb9⟩
  have h9 := Lib.hid (h8.out.step hb9)
  have B1_9 := B1_8.out.step hb9
  have B7_9 := B7_8.out.step hb9
  clear hb9 h8 B1_8 B7_8 KS y1 y2 y3 y4 z1 z2 z3 z4
  obtain ⟨x1, x2, x3, x4⟩ := B1_9
  obtain ⟨y1, y2, y3, y4⟩ := B7_9
  have oka := h9.out.num 9 (neg := ng) (e := p - 1200) rfl HCK.out
  have okb := h9.out.num 0 (neg := ng) (e := p - 1200) rfl HCK.out
  have KS := Lib.hid (sameNum_any ng ad7 1 cap7 (limbs 7) (p - 1200) ad1 cap1 w9 len_7 okb.cap oka.cap (by omega) okb.rd oka.rd)
  clear oka okb
  go_wp2_with fail
  with_reducible refine KS.out.mono ?_
  rintro r w10 ⟨rfl, hb10⟩
  have h10 := Lib.hid (h9.out.step hb10)
  clear hb10 h9 KS x1 x2 x3 x4 y1 y2 y3 y4
  have KA := Lib.hid (awake2_any w10 (HT.out.below h10.out.below))
  go_wp2_with fail
  with_reducible refine KA.out.mono ?_
  rintro r w11 ⟨rfl, hb11⟩
  have hfin := Lib.hid (below_on h10.out.below hb11)
  clear hb11
  go_wp2
  go_ret
  exact BoolBelow.mk rfl hfin.out
end Go.Proofs.YtjieilcegkmfiaaDoor
