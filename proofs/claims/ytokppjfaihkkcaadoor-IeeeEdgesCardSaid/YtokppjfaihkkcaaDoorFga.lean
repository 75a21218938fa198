/- The walk of the law IeeeEdges. -/
import Derived.Test.YtokppjfaihkkcaaDoorFgs
import Derived.Test.YtokppjfaihkkcaaDoorSc
namespace Go.Proofs.YtokppjfaihkkcaaDoor
open Go.RowKit Go.Sort
set_option linter.unusedVariables false
set_option linter.unusedSimpArgs false

theorem val_nought (M : Nat) : val (limbs M ++ [0]) = M := by
  rw [val_append, val_limbs]; simp [val]
/-- The law's rows in the world: four words each. -/
structure RW (w : World) (g : Nat) (k : Nat) (a b c d : Nat) : Prop where
  lt : g < w.heap.size
  c0 : w.cell? ⟨g, k, none⟩ = some (.int .u64 (a : Int))
  c1 : w.cell? ⟨g, k + 1, none⟩ = some (.int .u64 (b : Int))
  c2 : w.cell? ⟨g, k + 2, none⟩ = some (.int .u64 (c : Int))
  c3 : w.cell? ⟨g, k + 3, none⟩ = some (.int .u64 (d : Int))
theorem RW.step {w w' : World} {g k a b c d : Nat} (h : RW w g k a b c d) (hb : Below w.heap.size w w') : RW w' g k a b c d :=
  ⟨Nat.lt_of_lt_of_le h.lt hb.size, (hb.cell (p := ⟨g, k, none⟩) h.lt).trans h.c0, (hb.cell (p := ⟨g, k + 1, none⟩) h.lt).trans h.c1, (hb.cell (p := ⟨g, k + 2, none⟩) h.lt).trans h.c2, (hb.cell (p := ⟨g, k + 3, none⟩) h.lt).trans h.c3⟩
structure RAll (w : World) (g : Nat) : Prop where
  r0 : RW w g 0 16 1 31743 31744
  r1 : RW w g 4 32 1 2139095039 2139095040
  r2 : RW w g 8 64 1 9218868437227405311 9218868437227405312
theorem RAll.step {w w' : World} {g : Nat} (h : RAll w g) (hb : Below w.heap.size w w') : RAll w' g := ⟨h.r0.step hb, h.r1.step hb, h.r2.step hb⟩
def EGRel (w0 : World) (g : Nat) (i : Value) (wr : World) : Prop := ∃ k : Nat, k ≤ 3 ∧ i = .int .i64 (k : Int) ∧ RAll wr g ∧ Below w0.heap.size w0 wr

/-- What one edge is: its number, and that the number goes back. -/
structure Edge (wd : Int) (y : Nat) (M : Nat) (E : Int) : Prop where
  ex : ∀ W l, Ctx W W l → Calls Tryd.prog 12 #[.int .i64 wd, .int .u64 (y : Int)] W (MadePost W l 2000 false M E true)
  ten : M % 10 ≠ 0
  len : (limbs M).length ≤ 90
  tof : toF wd false M E = some y
  chk : chkB false (limbs M) E = true
  lo : -1200 ≤ E
  hi : E ≤ 1200
theorem edge_of {wd : Int} {e f y : Nat} (hlo : layOf wd = some (e, f)) (hy : y < 2 ^ (e + f + 1)) (hk : kindF e f y = 1) (hn : fNeg e f y = false) : ∃ M E, Edge wd y M E := by
  have hl := layOf_lay hlo
  have hy64 : y < 18446744073709551616 := by
    refine Nat.lt_of_lt_of_le hy ?_
    rcases hl with ⟨rfl, rfl⟩ | ⟨rfl, rfl⟩ | ⟨rfl, rfl⟩ <;> decide
  obtain ⟨_, h2, h3, h4, h5⟩ := ex_bounds hl hk
  refine ⟨exM e f y, exE e f y, fun W l h => ?_, h2, h3, ?_, ?_, h4, h5⟩
  · have := exact_yes h wd y hy64 hl hlo hk
    rwa [hn] at this
  · have := back_to hlo hy hk
    rwa [hn] at this
  · exact chk_ex hl hk false

/-- Behind the call of Make: the number with a limb of nought in front. -/
def EGCut (w0 : World) (M : Nat) (E : Int) (s : Value) (wx : World) : Prop :=
  ∃ h v, s = .pointer (some ⟨h, 0, none⟩) ∧ Bx wx h false v E ∧ Ctx w0 wx (⟨v, 91, M, limbs M⟩ :: [])

set_option maxHeartbeats 16000000 in
set_option maxRecDepth 100000 in
theorem ieeeEdges_walk (w : World) (hD : DB w) :
    Calls Tryd.prog 6 #[] w (BoolBelow true w) := by
  have KA := Lib.hid (fun W (h : Below w.heap.size w W) => awake3_any W (hD.below h))
  have HD := Lib.hid (fun W (h : Below w.heap.size w W) => hD.below h)
  clear hD
  go_enter Tryd.func6, Tryd.ntmps6
  go_wp2_with fail
  have hR : RAll (w.alloc (.cells #[.int .u64 16, .int .u64 1, .int .u64 31743, .int .u64 31744, .int .u64 32, .int .u64 1, .int .u64 2139095039, .int .u64 2139095040, .int .u64 64, .int .u64 1, .int .u64 9218868437227405311, .int .u64 9218868437227405312] 52)) w.heap.size :=
    ⟨⟨by simp, by simp, by simp, by simp, by simp⟩, ⟨by simp, by simp, by simp, by simp, by simp⟩, ⟨by simp, by simp, by simp, by simp, by simp⟩⟩
  have HR := Lib.hid hR
  have HB0 := Lib.hid (below_box w #[.int .u64 16, .int .u64 1, .int .u64 31743, .int .u64 31744, .int .u64 32, .int .u64 1, .int .u64 2139095039, .int .u64 2139095040, .int .u64 64, .int .u64 1, .int .u64 9218868437227405311, .int .u64 9218868437227405312] 52)
  clear hR
  generalize w.alloc (.cells #[.int .u64 16, .int .u64 1, .int .u64 31743, .int .u64 31744, .int .u64 32, .int .u64 1, .int .u64 2139095039, .int .u64 2139095040, .int .u64 64, .int .u64 1, .int .u64 9218868437227405311, .int .u64 9218868437227405312] 52) = W0 at *
  go_loopw [2] (fun i wr => EGRel w w.heap.size i wr) (fun i _ => 3 - (intOf i).toNat)
  case atStart => exact ⟨0, by omega, rfl, HR.out, HB0.out⟩
  case round =>
    obtain ⟨k, hk, rfl, hR, hB⟩ := hrel
    have HRX := Lib.hid hR
    have HBX := Lib.hid hB
    clear hR hB HR HB0
    have hk4 : k = 0 ∨ k = 1 ∨ k = 2 ∨ k = 3 := by omega
    clear hk
    rcases hk4 with rfl | rfl | rfl | rfl
    · rw [show ((0 : Nat) : Int) = 0 from rfl]
      obtain ⟨M1, E1, hE1⟩ := edge_of (wd := 16) (e := 5) (f := 10) (y := 1) rfl (by decide) (by decide) (by decide)
      obtain ⟨M2, E2, hE2⟩ := edge_of (wd := 16) (e := 5) (f := 10) (y := 31743) rfl (by decide) (by decide) (by decide)
      have X1 := Lib.hid hE1
      have X2 := Lib.hid hE2
      have HI := fun W => kind_any 16 31744 (by decide) W
      rw [show kindW 16 31744 = 3 from rfl] at HI
      have HIH := Lib.hid HI
      have HN := fun W => kind_any 16 31745 (by decide) W
      rw [show kindW 16 31745 = 4 from rfl] at HN
      have HNH := Lib.hid HN
      have X3 := Lib.hid (fun W l (h : Ctx W W l) => exact_no h 16 31744 3 false rfl rfl HIH.out)
      clear hE1 hE2 HI HN
      have v1 : IntKind.i64.wrap 16 = 16 := by decide
      obtain ⟨b0, b1, b2, b3, b4⟩ := HRX.out.r0
      go_wp2_with fail
      refine (X1.out.ex _ _ (Ctx.begin _)).mono ?_
      rintro r w1 ⟨x1, rfl, h1⟩
      obtain ⟨ad1, cap1, hv1, hz1⟩ := h1.get 0 rfl
      clear hz1
      subst hv1
      have h1n := h1.narrow (L' := 90) X1.out.len
      generalize hn1 : (limbs M1).length = n1 at *
      have hb1 := below_box w1 #[.bool false, .slice ad1 n1 cap1, .int .i64 E1] 25
      have B1 := Lib.hid (bx_new w1 false (.slice ad1 n1 cap1) E1)
      have HN1 := Lib.hid hn1
      have R1 := Lib.hid ((HRX.out.step h1.below).step hb1)
      have H1 := Lib.hid (h1n.step hb1)
      have HB1 := Lib.hid (below_on (below_on HBX.out h1.below) hb1)
      clear h1 h1n hb1 hn1 HRX HBX b0 b1 b2 b3 b4
      obtain ⟨b0, b1, b2, b3, b4⟩ := R1.out.r0
      go_wp2_with fail
      refine (X2.out.ex _ _ H1.out.again).mono ?_
      rintro r w2 ⟨x2, rfl, h2⟩
      obtain ⟨ad2, cap2, hv2, hz2⟩ := h2.get 0 rfl
      clear hz2
      subst hv2
      have h2n := h2.narrow (L' := 90) X2.out.len
      generalize hn2 : (limbs M2).length = n2 at *
      have hb2 := below_box w2 #[.bool false, .slice ad2 n2 cap2, .int .i64 E2] 25
      have C2 := Lib.hid (bx_new w2 false (.slice ad2 n2 cap2) E2)
      have B2 := Lib.hid ((B1.out.step h2.below).step hb2)
      have HN2 := Lib.hid hn2
      have R2 := Lib.hid ((R1.out.step h2.below).step hb2)
      have H2 := Lib.hid ((h2n.on H1.out).step hb2)
      have HB2 := Lib.hid (below_on (below_on HB1.out h2.below) hb2)
      clear h2 h2n hb2 hn2 HB1 H1 R1 B1 b0 b1 b2 b3 b4
      obtain ⟨b0, b1, b2, b3, b4⟩ := R2.out.r0
      go_wp2_with fail
      refine (X3.out _ _ H2.out.again).mono ?_
      rintro r w3 ⟨x3, rfl, h3⟩
      obtain ⟨ad3, cap3, hv3, hz3⟩ := h3.get 0 rfl
      clear hz3
      rw [show (limbs 0).length = 0 by rw [limbs_zero]; rfl] at hv3
      subst hv3
      have hb3 := below_box w3 #[.bool false, .slice ad3 0 cap3, .int .i64 0] 25
      have B3 := Lib.hid ((B2.out.step h3.below).step hb3)
      have C3 := Lib.hid ((C2.out.step h3.below).step hb3)
      have R3 := Lib.hid ((R2.out.step h3.below).step hb3)
      have H3 := Lib.hid ((h3.on H2.out).step hb3)
      have HB3 := Lib.hid (below_on (below_on HB2.out h3.below) hb3)
      clear h3 hb3 HB2 H2 R2 B2 C2 X3 b0 b1 b2 b3 b4
      obtain ⟨c1, c2, c3, c4⟩ := B3.out
      have KT := to_num H3.out.again (HD.out _ HB3.out) 16 2 rfl (by omega) false E1 X1.out.chk
      rw [X1.out.tof] at KT
      have KTH := Lib.hid KT
      clear KT
      go_wp2_with fail
      refine KTH.out.mono ?_
      rintro r w4 ⟨rfl, h4⟩
      unfold toA
      have B4 := Lib.hid (B3.out.step h4.below)
      have C4 := Lib.hid (C3.out.step h4.below)
      have R4 := Lib.hid (R3.out.step h4.below)
      have H4 := Lib.hid (h4.on H3.out)
      have HB4 := Lib.hid (below_on HB3.out h4.below)
      clear h4 HB3 H3 R3 B3 C3 KTH c1 c2 c3 c4
      obtain ⟨c1, c2, c3, c4⟩ := C4.out
      have KT := to_num H4.out.again (HD.out _ HB4.out) 16 1 rfl (by omega) false E2 X2.out.chk
      rw [X2.out.tof] at KT
      have KTH := Lib.hid KT
      clear KT
      go_wp2_with fail
      refine KTH.out.mono ?_
      rintro r w5 ⟨rfl, h5⟩
      unfold toA
      have B5 := Lib.hid (B4.out.step h5.below)
      have R5 := Lib.hid (R4.out.step h5.below)
      have H5 := Lib.hid (h5.on H4.out)
      have HB5 := Lib.hid (below_on HB4.out h5.below)
      clear h5 HB4 H4 R4 B4 C4 KTH c1 c2 c3 c4
      obtain ⟨b0, b1, b2, b3, b4⟩ := R5.out.r0
      have v2 : IntKind.u64.wrap 31745 = 31745 := by decide
      go_wp2_with fail
      refine (HIH.out _).mono ?_
      rintro r w6 ⟨rfl, hb6⟩
      have B6 := Lib.hid (B5.out.step hb6)
      have R6 := Lib.hid (R5.out.step hb6)
      have H6 := Lib.hid (H5.out.step hb6)
      have HB6 := Lib.hid (below_on HB5.out hb6)
      clear hb6 HB5 H5 R5 B5 b0 b1 b2 b3 b4
      obtain ⟨b0, b1, b2, b3, b4⟩ := R6.out.r0
      go_wp2_with fail
      refine (HNH.out _).mono ?_
      rintro r w7 ⟨rfl, hb7⟩
      have B7 := Lib.hid (B6.out.step hb7)
      have R7 := Lib.hid (R6.out.step hb7)
      have H7 := Lib.hid (H6.out.step hb7)
      have HB7 := Lib.hid (below_on HB6.out hb7)
      clear hb7 HB6 H6 R6 B6 b0 b1 b2 b3 b4
      obtain ⟨c1, c2, c3, c4⟩ := B7.out
      go_upto_region 13 with fail
      have HML1 := Lib.hid (limbs_ok M1)
      obtain ⟨adx, capx, hvx, x2, x3, x4, x5, x6⟩ := H7.out.get 2 rfl
      simp only [Value.slice.injEq] at hvx
      obtain ⟨rfl, hnx, rfl⟩ := hvx
      have HX5 := Lib.hid x5
      have hn9 : n1 ≤ 90 := by have h := X1.out.len; rw [HN1.out] at h; exact h
      have hM1 : limbs M1 ≠ [] := fun h0 => X1.out.ten (by rw [(limbs_nil_iff M1).1 h0])
      have KL := Lib.hid (fun W (h : Below w7.heap.size w7 W) => (show Calls Tryd.prog 29 #[.slice ad1 n1 cap1] W (fun r w' => ∃ g cap, r = .returned (.slice (some ⟨g, 0, none⟩) n1 cap) ∧ Own w7.heap.size w' (.slice (some ⟨g, 0, none⟩) n1 cap) (limbs M1) ∧ W.heap.size ≤ g ∧ g < w'.heap.size ∧ Below w7.heap.size w7 w' ∧ Below W.heap.size W w') from
        (limbs_any ad1 n1 cap1 (limbs M1) W HN1.out (by omega) HML1.out (HX5.out.below h)).mono (fun r w' ⟨v, hr, ho, hb⟩ => by
          obtain ⟨g, cap, rfl, g1, g2⟩ := own_at ho hM1
          rw [HN1.out] at ho hr
          exact ⟨g, cap, hr, ho.mono h.size, g1, g2, h.trans (hb.mono h.size), hb⟩)))
      have KM := Lib.hid (fun W v (h : Own w7.heap.size W v (limbs M1 ++ [0])) => (show Calls Tryd.prog 27 #[.bool false, v, .int .i64 E1] W (MadePost W ((⟨v, 91, M1, limbs M1 ++ [0]⟩ : Ent) :: []) 91 false M1 E1 true) from
        refMake_yes ((Ctx.begin W).push (ent_any h (by rw [List.length_append, HN1.out]; simp; omega) (val_nought M1))) 0 rfl (by decide) false E1 M1 0 (by rw [show tenN 0 = 1 from rfl, Nat.mul_one]) X1.out.ten X1.out.len E1 (by simp) X1.out.lo X1.out.hi))
      clear hnx x2 x3 x4 x5 x6
      have H7x := Lib.hid H7.out.below.size
      have q1 : w7.cell? ⟨w1.heap.size, 1, none⟩ = some (.slice ad1 n1 cap1) := c3
      have q2 : w7.cell? ⟨w1.heap.size, 2, none⟩ = some (.int .i64 E1) := c4
      have qz : w1.heap.size < w7.heap.size := c1
      go_cut [14] (fun s wx => EGCut w7 M1 E1 s wx)
      case first =>
        go_region_held_law (fun w' => w'.cell? ⟨w1.heap.size, 1, none⟩ = some (.slice ad1 n1 cap1) ∧ w'.cell? ⟨w1.heap.size, 2, none⟩ = some (.int .i64 E1)) (first | exact ⟨q1x, q2x⟩ | go_keep | (have hs8 := hB8.size; have hs9 := hB9.size; refine ⟨?_, ?_⟩ <;> (repeat rw [World.cell?_setCell_other (h := by first | (simp; done) | (simp; omega))]) <;> first | exact q1x | exact q2x)) (first
          | (refine step_call rfl 29 _ Tryd.func29 (by kernel_rfl) (by kernel_rfl) _ _ rfl #[.slice ad1 n1 cap1] (by simp [Act.eval, Act.put]) (KL.out _ (by first | exact below_drew (Below.refl _ _) | exact (below_drew (Below.refl _ _)).alloc (by simp) _ | exact ((below_drew (Below.refl _ _)).alloc (by simp) _).alloc (by simp) _)) ?_; rintro r w8 ⟨g8, cap8, rfl, ho8, hga, hgb, hB8, hb8⟩; have q1x := (hB8.cell (p := ⟨w1.heap.size, 1, none⟩) qz).trans q1; have q2x := (hB8.cell (p := ⟨w1.heap.size, 2, none⟩) qz).trans q2; (try simp at hga);
              (try (have hz8 : BxZ w8 w7.heap.size := BxZ.step (bxz_new w7.drew) hb8)); (try (have hz8 : BxZ w8 w7.heap.size := BxZ.step ((bxz_new w7.drew).alloc _) hb8)); (try (have hz8 : BxZ w8 (w7.heap.size + 1) := by simpa using BxZ.step (bxz_new (w7.drew.alloc _)) hb8)); refine ⟨_, rfl, ?_⟩)
          | (refine step_append2 rfl _ _ rfl w7.heap.size (.slice (some ⟨g8, 0, none⟩) n1 cap8) (limbs M1) rfl (by first | exact ho8 | exact ho8.below (below_box _ _ _) | exact (ho8.below (below_box _ _ _)).below (below_box _ _ _)) _ _ 0 rfl (by decide) (by first | (simp; done) | exact (hb8.cell (by first | (simp; done) | (simp; omega))).trans (by simp) | (rw [World.cell?_alloc_lt _ _ _ (by simp; omega)]; exact (hb8.cell (by first | (simp; done) | (simp; omega))).trans (by simp))) (by rw [HN1.out]; omega) (by first | exact hB8.size | exact Nat.le_trans hB8.size (by first | (simp; done) | (simp; omega))) ?_; intro v9 w9 ho9 hb9 hgr; have hB9 : Below w7.heap.size w7 w9 := (by first | exact hB8.trans hb9 | exact (hB8.alloc hB8.size _).trans hb9 | exact ((hB8.alloc hB8.size _).alloc (by simp; have := hB8.size; omega) _).trans hb9); have q1x := (hB9.cell (p := ⟨w1.heap.size, 1, none⟩) qz).trans q1; have q2x := (hB9.cell (p := ⟨w1.heap.size, 2, none⟩) qz).trans q2;
              (try (have hz9 := hz8.grown (k := g8) hb9 hgr (by omega))); (try (have hz9 := (hz8.alloc _).grown (k := g8) hb9 hgr (by omega))); (try (have hz9 := (bxz_new w8).grown (k := g8) hb9 hgr (by omega))); (try (have hz9 := ((bxz_new w8).alloc _).grown (k := g8) hb9 hgr (by omega))); (try (have hz9 : BxZ w9 (w8.heap.size + 1) := by simpa using (bxz_new (w8.alloc _)).grown (k := g8) hb9 hgr (by simp; omega))))
          | (refine step_call rfl 27 _ Tryd.func27 (by kernel_rfl) (by kernel_rfl) _ _ rfl #[.bool false, v9, .int .i64 E1] (by simp [Act.eval, Act.put]) (KM.out _ v9 (by first | exact ho9 | exact ho9.below (below_box _ _ _))) ?_; rintro r w10 ⟨v10, rfl, h10⟩; have hB10 : Below w7.heap.size w7 w10 := (by first | exact below_on hB9 h10.below | exact below_on (below_on hB9 (below_box w9 _ _)) h10.below); have q1x := (hB10.cell (p := ⟨w1.heap.size, 1, none⟩) qz).trans q1; have q2x := (hB10.cell (p := ⟨w1.heap.size, 2, none⟩) qz).trans q2;
              (try (have hz10 := hz9.step h10.below; have hz11 := Lib.hid hz10; obtain ⟨zl, z0, z1, z2, z3, z4, z5⟩ := hz10)); (try (have hz10 := (bxz_new w9).step h10.below; have hz11 := Lib.hid hz10; obtain ⟨zl, z0, z1, z2, z3, z4, z5⟩ := hz10)); obtain ⟨ad10, cap10, rfl, _⟩ := h10.get 0 rfl; have hF := (⟨hB10, h10.dropTwo.all⟩ : Ctx w7 w10 [⟨.slice ad10 (limbs M1).length cap10, 91, M1, limbs M1⟩]); refine ⟨_, rfl, ?_⟩))
        all_goals (try go_wp2_with fail)
        all_goals go_meet
        all_goals first
          | exact ⟨_, _, rfl, bx_new _ _ _ _, hF.step (below_box _ _ _)⟩
          | exact ⟨_, _, rfl, bx_box3 hz11.out _ _ _, hF.box3 (by have := hB8.size; have := hB9.size; omega) z0 z1 z2 _ _ _⟩
      case rest =>
        obtain ⟨hh, v, rfl, hB8, hC8⟩ := hcut
        obtain ⟨ad8, cap8, rfl, _⟩ := hC8.get 0 rfl
        have R8 := Lib.hid (R7.out.step hC8.below)
        have HB8 := Lib.hid (below_on HB7.out hC8.below)
        have KT := to_num hC8.again (HD.out _ HB8.out) 16 0 rfl (by decide) false E1 X1.out.chk
        rw [X1.out.tof] at KT
        have KTH := Lib.hid KT
        obtain ⟨y1, y2, y3, y4⟩ := hB8
        clear KT hC8 KL KM R7 H7 B7 HB7 c1 c2 c3 c4 q1 q2 qz
        generalize (limbs M1).length = nn at *
        go_wp2_with fail
        refine KTH.out.mono ?_
        rintro r w9 ⟨rfl, h9⟩
        unfold toA
        have R9 := Lib.hid (R8.out.step h9.below)
        have HB9 := Lib.hid (below_on HB8.out h9.below)
        clear h9 R8 HB8 KTH y1 y2 y3 y4
        go_wp2_with fail
        go_roundw
        case rel => exact ⟨0 + 1, by omega, by first | rfl | go_num, R9.out, HB9.out⟩
        case measure => first | (simp [intOf]; done) | (simp [intOf]; omega)
    · rw [show ((1 : Nat) : Int) = 1 from rfl]
      obtain ⟨M1, E1, hE1⟩ := edge_of (wd := 32) (e := 8) (f := 23) (y := 1) rfl (by decide) (by decide) (by decide)
      obtain ⟨M2, E2, hE2⟩ := edge_of (wd := 32) (e := 8) (f := 23) (y := 2139095039) rfl (by decide) (by decide) (by decide)
      have X1 := Lib.hid hE1
      have X2 := Lib.hid hE2
      have HI := fun W => kind_any 32 2139095040 (by decide) W
      rw [show kindW 32 2139095040 = 3 from rfl] at HI
      have HIH := Lib.hid HI
      have HN := fun W => kind_any 32 2139095041 (by decide) W
      rw [show kindW 32 2139095041 = 4 from rfl] at HN
      have HNH := Lib.hid HN
      have X3 := Lib.hid (fun W l (h : Ctx W W l) => exact_no h 32 2139095040 3 false rfl rfl HIH.out)
      clear hE1 hE2 HI HN
      have v1 : IntKind.i64.wrap 32 = 32 := by decide
      obtain ⟨b0, b1, b2, b3, b4⟩ := HRX.out.r1
      go_wp2_with fail
      refine (X1.out.ex _ _ (Ctx.begin _)).mono ?_
      rintro r w1 ⟨x1, rfl, h1⟩
      obtain ⟨ad1, cap1, hv1, hz1⟩ := h1.get 0 rfl
      clear hz1
      subst hv1
      have h1n := h1.narrow (L' := 90) X1.out.len
      generalize hn1 : (limbs M1).length = n1 at *
      have hb1 := below_box w1 #[.bool false, .slice ad1 n1 cap1, .int .i64 E1] 25
      have B1 := Lib.hid (bx_new w1 false (.slice ad1 n1 cap1) E1)
      have HN1 := Lib.hid hn1
      have R1 := Lib.hid ((HRX.out.step h1.below).step hb1)
      have H1 := Lib.hid (h1n.step hb1)
      have HB1 := Lib.hid (below_on (below_on HBX.out h1.below) hb1)
      clear h1 h1n hb1 hn1 HRX HBX b0 b1 b2 b3 b4
      obtain ⟨b0, b1, b2, b3, b4⟩ := R1.out.r1
      go_wp2_with fail
      refine (X2.out.ex _ _ H1.out.again).mono ?_
      rintro r w2 ⟨x2, rfl, h2⟩
      obtain ⟨ad2, cap2, hv2, hz2⟩ := h2.get 0 rfl
      clear hz2
      subst hv2
      have h2n := h2.narrow (L' := 90) X2.out.len
      generalize hn2 : (limbs M2).length = n2 at *
      have hb2 := below_box w2 #[.bool false, .slice ad2 n2 cap2, .int .i64 E2] 25
      have C2 := Lib.hid (bx_new w2 false (.slice ad2 n2 cap2) E2)
      have B2 := Lib.hid ((B1.out.step h2.below).step hb2)
      have HN2 := Lib.hid hn2
      have R2 := Lib.hid ((R1.out.step h2.below).step hb2)
      have H2 := Lib.hid ((h2n.on H1.out).step hb2)
      have HB2 := Lib.hid (below_on (below_on HB1.out h2.below) hb2)
      clear h2 h2n hb2 hn2 HB1 H1 R1 B1 b0 b1 b2 b3 b4
      obtain ⟨b0, b1, b2, b3, b4⟩ := R2.out.r1
      go_wp2_with fail
      refine (X3.out _ _ H2.out.again).mono ?_
      rintro r w3 ⟨x3, rfl, h3⟩
      obtain ⟨ad3, cap3, hv3, hz3⟩ := h3.get 0 rfl
      clear hz3
      rw [show (limbs 0).length = 0 by rw [limbs_zero]; rfl] at hv3
      subst hv3
      have hb3 := below_box w3 #[.bool false, .slice ad3 0 cap3, .int .i64 0] 25
      have B3 := Lib.hid ((B2.out.step h3.below).step hb3)
      have C3 := Lib.hid ((C2.out.step h3.below).step hb3)
      have R3 := Lib.hid ((R2.out.step h3.below).step hb3)
      have H3 := Lib.hid ((h3.on H2.out).step hb3)
      have HB3 := Lib.hid (below_on (below_on HB2.out h3.below) hb3)
      clear h3 hb3 HB2 H2 R2 B2 C2 X3 b0 b1 b2 b3 b4
      obtain ⟨c1, c2, c3, c4⟩ := B3.out
      have KT := to_num H3.out.again (HD.out _ HB3.out) 32 2 rfl (by omega) false E1 X1.out.chk
      rw [X1.out.tof] at KT
      have KTH := Lib.hid KT
      clear KT
      go_wp2_with fail
      refine KTH.out.mono ?_
      rintro r w4 ⟨rfl, h4⟩
      unfold toA
      have B4 := Lib.hid (B3.out.step h4.below)
      have C4 := Lib.hid (C3.out.step h4.below)
      have R4 := Lib.hid (R3.out.step h4.below)
      have H4 := Lib.hid (h4.on H3.out)
      have HB4 := Lib.hid (below_on HB3.out h4.below)
      clear h4 HB3 H3 R3 B3 C3 KTH c1 c2 c3 c4
      obtain ⟨c1, c2, c3, c4⟩ := C4.out
      have KT := to_num H4.out.again (HD.out _ HB4.out) 32 1 rfl (by omega) false E2 X2.out.chk
      rw [X2.out.tof] at KT
      have KTH := Lib.hid KT
      clear KT
      go_wp2_with fail
      refine KTH.out.mono ?_
      rintro r w5 ⟨rfl, h5⟩
      unfold toA
      have B5 := Lib.hid (B4.out.step h5.below)
      have R5 := Lib.hid (R4.out.step h5.below)
      have H5 := Lib.hid (h5.on H4.out)
      have HB5 := Lib.hid (below_on HB4.out h5.below)
      clear h5 HB4 H4 R4 B4 C4 KTH c1 c2 c3 c4
      obtain ⟨b0, b1, b2, b3, b4⟩ := R5.out.r1
      have v2 : IntKind.u64.wrap 2139095041 = 2139095041 := by decide
      go_wp2_with fail
      refine (HIH.out _).mono ?_
      rintro r w6 ⟨rfl, hb6⟩
      have B6 := Lib.hid (B5.out.step hb6)
      have R6 := Lib.hid (R5.out.step hb6)
      have H6 := Lib.hid (H5.out.step hb6)
      have HB6 := Lib.hid (below_on HB5.out hb6)
      clear hb6 HB5 H5 R5 B5 b0 b1 b2 b3 b4
      obtain ⟨b0, b1, b2, b3, b4⟩ := R6.out.r1
      go_wp2_with fail
      refine (HNH.out _).mono ?_
      rintro r w7 ⟨rfl, hb7⟩
      have B7 := Lib.hid (B6.out.step hb7)
      have R7 := Lib.hid (R6.out.step hb7)
      have H7 := Lib.hid (H6.out.step hb7)
      have HB7 := Lib.hid (below_on HB6.out hb7)
      clear hb7 HB6 H6 R6 B6 b0 b1 b2 b3 b4
      obtain ⟨c1, c2, c3, c4⟩ := B7.out
      go_upto_region 13 with fail
      have HML1 := Lib.hid (limbs_ok M1)
      obtain ⟨adx, capx, hvx, x2, x3, x4, x5, x6⟩ := H7.out.get 2 rfl
      simp only [Value.slice.injEq] at hvx
      obtain ⟨rfl, hnx, rfl⟩ := hvx
      have HX5 := Lib.hid x5
      have hn9 : n1 ≤ 90 := by have h := X1.out.len; rw [HN1.out] at h; exact h
      have hM1 : limbs M1 ≠ [] := fun h0 => X1.out.ten (by rw [(limbs_nil_iff M1).1 h0])
      have KL := Lib.hid (fun W (h : Below w7.heap.size w7 W) => (show Calls Tryd.prog 29 #[.slice ad1 n1 cap1] W (fun r w' => ∃ g cap, r = .returned (.slice (some ⟨g, 0, none⟩) n1 cap) ∧ Own w7.heap.size w' (.slice (some ⟨g, 0, none⟩) n1 cap) (limbs M1) ∧ W.heap.size ≤ g ∧ g < w'.heap.size ∧ Below w7.heap.size w7 w' ∧ Below W.heap.size W w') from
        (limbs_any ad1 n1 cap1 (limbs M1) W HN1.out (by omega) HML1.out (HX5.out.below h)).mono (fun r w' ⟨v, hr, ho, hb⟩ => by
          obtain ⟨g, cap, rfl, g1, g2⟩ := own_at ho hM1
          rw [HN1.out] at ho hr
          exact ⟨g, cap, hr, ho.mono h.size, g1, g2, h.trans (hb.mono h.size), hb⟩)))
      have KM := Lib.hid (fun W v (h : Own w7.heap.size W v (limbs M1 ++ [0])) => (show Calls Tryd.prog 27 #[.bool false, v, .int .i64 E1] W (MadePost W ((⟨v, 91, M1, limbs M1 ++ [0]⟩ : Ent) :: []) 91 false M1 E1 true) from
        refMake_yes ((Ctx.begin W).push (ent_any h (by rw [List.length_append, HN1.out]; simp; omega) (val_nought M1))) 0 rfl (by decide) false E1 M1 0 (by rw [show tenN 0 = 1 from rfl, Nat.mul_one]) X1.out.ten X1.out.len E1 (by simp) X1.out.lo X1.out.hi))
      clear hnx x2 x3 x4 x5 x6
      have H7x := Lib.hid H7.out.below.size
      have q1 : w7.cell? ⟨w1.heap.size, 1, none⟩ = some (.slice ad1 n1 cap1) := c3
      have q2 : w7.cell? ⟨w1.heap.size, 2, none⟩ = some (.int .i64 E1) := c4
      have qz : w1.heap.size < w7.heap.size := c1
      go_cut [14] (fun s wx => EGCut w7 M1 E1 s wx)
      case first =>
        go_region_held_law (fun w' => w'.cell? ⟨w1.heap.size, 1, none⟩ = some (.slice ad1 n1 cap1) ∧ w'.cell? ⟨w1.heap.size, 2, none⟩ = some (.int .i64 E1)) (first | exact ⟨q1x, q2x⟩ | go_keep | (have hs8 := hB8.size; have hs9 := hB9.size; refine ⟨?_, ?_⟩ <;> (repeat rw [World.cell?_setCell_other (h := by first | (simp; done) | (simp; omega))]) <;> first | exact q1x | exact q2x)) (first
          | (refine step_call rfl 29 _ Tryd.func29 (by kernel_rfl) (by kernel_rfl) _ _ rfl #[.slice ad1 n1 cap1] (by simp [Act.eval, Act.put]) (KL.out _ (by first | exact below_drew (Below.refl _ _) | exact (below_drew (Below.refl _ _)).alloc (by simp) _ | exact ((below_drew (Below.refl _ _)).alloc (by simp) _).alloc (by simp) _)) ?_; rintro r w8 ⟨g8, cap8, rfl, ho8, hga, hgb, hB8, hb8⟩; have q1x := (hB8.cell (p := ⟨w1.heap.size, 1, none⟩) qz).trans q1; have q2x := (hB8.cell (p := ⟨w1.heap.size, 2, none⟩) qz).trans q2; (try simp at hga);
              (try (have hz8 : BxZ w8 w7.heap.size := BxZ.step (bxz_new w7.drew) hb8)); (try (have hz8 : BxZ w8 w7.heap.size := BxZ.step ((bxz_new w7.drew).alloc _) hb8)); (try (have hz8 : BxZ w8 (w7.heap.size + 1) := by simpa using BxZ.step (bxz_new (w7.drew.alloc _)) hb8)); refine ⟨_, rfl, ?_⟩)
          | (refine step_append2 rfl _ _ rfl w7.heap.size (.slice (some ⟨g8, 0, none⟩) n1 cap8) (limbs M1) rfl (by first | exact ho8 | exact ho8.below (below_box _ _ _) | exact (ho8.below (below_box _ _ _)).below (below_box _ _ _)) _ _ 0 rfl (by decide) (by first | (simp; done) | exact (hb8.cell (by first | (simp; done) | (simp; omega))).trans (by simp) | (rw [World.cell?_alloc_lt _ _ _ (by simp; omega)]; exact (hb8.cell (by first | (simp; done) | (simp; omega))).trans (by simp))) (by rw [HN1.out]; omega) (by first | exact hB8.size | exact Nat.le_trans hB8.size (by first | (simp; done) | (simp; omega))) ?_; intro v9 w9 ho9 hb9 hgr; have hB9 : Below w7.heap.size w7 w9 := (by first | exact hB8.trans hb9 | exact (hB8.alloc hB8.size _).trans hb9 | exact ((hB8.alloc hB8.size _).alloc (by simp; have := hB8.size; omega) _).trans hb9); have q1x := (hB9.cell (p := ⟨w1.heap.size, 1, none⟩) qz).trans q1; have q2x := (hB9.cell (p := ⟨w1.heap.size, 2, none⟩) qz).trans q2;
              (try (have hz9 := hz8.grown (k := g8) hb9 hgr (by omega))); (try (have hz9 := (hz8.alloc _).grown (k := g8) hb9 hgr (by omega))); (try (have hz9 := (bxz_new w8).grown (k := g8) hb9 hgr (by omega))); (try (have hz9 := ((bxz_new w8).alloc _).grown (k := g8) hb9 hgr (by omega))); (try (have hz9 : BxZ w9 (w8.heap.size + 1) := by simpa using (bxz_new (w8.alloc _)).grown (k := g8) hb9 hgr (by simp; omega))))
          | (refine step_call rfl 27 _ Tryd.func27 (by kernel_rfl) (by kernel_rfl) _ _ rfl #[.bool false, v9, .int .i64 E1] (by simp [Act.eval, Act.put]) (KM.out _ v9 (by first | exact ho9 | exact ho9.below (below_box _ _ _))) ?_; rintro r w10 ⟨v10, rfl, h10⟩; have hB10 : Below w7.heap.size w7 w10 := (by first | exact below_on hB9 h10.below | exact below_on (below_on hB9 (below_box w9 _ _)) h10.below); have q1x := (hB10.cell (p := ⟨w1.heap.size, 1, none⟩) qz).trans q1; have q2x := (hB10.cell (p := ⟨w1.heap.size, 2, none⟩) qz).trans q2;
              (try (have hz10 := hz9.step h10.below; have hz11 := Lib.hid hz10; obtain ⟨zl, z0, z1, z2, z3, z4, z5⟩ := hz10)); (try (have hz10 := (bxz_new w9).step h10.below; have hz11 := Lib.hid hz10; obtain ⟨zl, z0, z1, z2, z3, z4, z5⟩ := hz10)); obtain ⟨ad10, cap10, rfl, _⟩ := h10.get 0 rfl; have hF := (⟨hB10, h10.dropTwo.all⟩ : Ctx w7 w10 [⟨.slice ad10 (limbs M1).length cap10, 91, M1, limbs M1⟩]); refine ⟨_, rfl, ?_⟩))
        all_goals (try go_wp2_with fail)
        all_goals go_meet
        all_goals first
          | exact ⟨_, _, rfl, bx_new _ _ _ _, hF.step (below_box _ _ _)⟩
          | exact ⟨_, _, rfl, bx_box3 hz11.out _ _ _, hF.box3 (by have := hB8.size; have := hB9.size; omega) z0 z1 z2 _ _ _⟩
      case rest =>
        obtain ⟨hh, v, rfl, hB8, hC8⟩ := hcut
        obtain ⟨ad8, cap8, rfl, _⟩ := hC8.get 0 rfl
        have R8 := Lib.hid (R7.out.step hC8.below)
        have HB8 := Lib.hid (below_on HB7.out hC8.below)
        have KT := to_num hC8.again (HD.out _ HB8.out) 32 0 rfl (by decide) false E1 X1.out.chk
        rw [X1.out.tof] at KT
        have KTH := Lib.hid KT
        obtain ⟨y1, y2, y3, y4⟩ := hB8
        clear KT hC8 KL KM R7 H7 B7 HB7 c1 c2 c3 c4 q1 q2 qz
        generalize (limbs M1).length = nn at *
        go_wp2_with fail
        refine KTH.out.mono ?_
        rintro r w9 ⟨rfl, h9⟩
        unfold toA
        have R9 := Lib.hid (R8.out.step h9.below)
        have HB9 := Lib.hid (below_on HB8.out h9.below)
        clear h9 R8 HB8 KTH y1 y2 y3 y4
        go_wp2_with fail
        go_roundw
        case rel => exact ⟨1 + 1, by omega, by first | rfl | go_num, R9.out, HB9.out⟩
        case measure => first | (simp [intOf]; done) | (simp [intOf]; omega)
    · rw [show ((2 : Nat) : Int) = 2 from rfl]
      obtain ⟨M1, E1, hE1⟩ := edge_of (wd := 64) (e := 11) (f := 52) (y := 1) rfl (by decide) (by decide) (by decide)
      obtain ⟨M2, E2, hE2⟩ := edge_of (wd := 64) (e := 11) (f := 52) (y := 9218868437227405311) rfl (by decide) (by decide) (by decide)
      have X1 := Lib.hid hE1
      have X2 := Lib.hid hE2
      have HI := fun W => kind_any 64 9218868437227405312 (by decide) W
      rw [show kindW 64 9218868437227405312 = 3 from rfl] at HI
      have HIH := Lib.hid HI
      have HN := fun W => kind_any 64 9218868437227405313 (by decide) W
      rw [show kindW 64 9218868437227405313 = 4 from rfl] at HN
      have HNH := Lib.hid HN
      have X3 := Lib.hid (fun W l (h : Ctx W W l) => exact_no h 64 9218868437227405312 3 false rfl rfl HIH.out)
      clear hE1 hE2 HI HN
      have v1 : IntKind.i64.wrap 64 = 64 := by decide
      obtain ⟨b0, b1, b2, b3, b4⟩ := HRX.out.r2
      go_wp2_with fail
      refine (X1.out.ex _ _ (Ctx.begin _)).mono ?_
      rintro r w1 ⟨x1, rfl, h1⟩
      obtain ⟨ad1, cap1, hv1, hz1⟩ := h1.get 0 rfl
      clear hz1
      subst hv1
      have h1n := h1.narrow (L' := 90) X1.out.len
      generalize hn1 : (limbs M1).length = n1 at *
      have hb1 := below_box w1 #[.bool false, .slice ad1 n1 cap1, .int .i64 E1] 25
      have B1 := Lib.hid (bx_new w1 false (.slice ad1 n1 cap1) E1)
      have HN1 := Lib.hid hn1
      have R1 := Lib.hid ((HRX.out.step h1.below).step hb1)
      have H1 := Lib.hid (h1n.step hb1)
      have HB1 := Lib.hid (below_on (below_on HBX.out h1.below) hb1)
      clear h1 h1n hb1 hn1 HRX HBX b0 b1 b2 b3 b4
      obtain ⟨b0, b1, b2, b3, b4⟩ := R1.out.r2
      go_wp2_with fail
      refine (X2.out.ex _ _ H1.out.again).mono ?_
      rintro r w2 ⟨x2, rfl, h2⟩
      obtain ⟨ad2, cap2, hv2, hz2⟩ := h2.get 0 rfl
      clear hz2
      subst hv2
      have h2n := h2.narrow (L' := 90) X2.out.len
      generalize hn2 : (limbs M2).length = n2 at *
      have hb2 := below_box w2 #[.bool false, .slice ad2 n2 cap2, .int .i64 E2] 25
      have C2 := Lib.hid (bx_new w2 false (.slice ad2 n2 cap2) E2)
      have B2 := Lib.hid ((B1.out.step h2.below).step hb2)
      have HN2 := Lib.hid hn2
      have R2 := Lib.hid ((R1.out.step h2.below).step hb2)
      have H2 := Lib.hid ((h2n.on H1.out).step hb2)
      have HB2 := Lib.hid (below_on (below_on HB1.out h2.below) hb2)
      clear h2 h2n hb2 hn2 HB1 H1 R1 B1 b0 b1 b2 b3 b4
      obtain ⟨b0, b1, b2, b3, b4⟩ := R2.out.r2
      go_wp2_with fail
      refine (X3.out _ _ H2.out.again).mono ?_
      rintro r w3 ⟨x3, rfl, h3⟩
      obtain ⟨ad3, cap3, hv3, hz3⟩ := h3.get 0 rfl
      clear hz3
      rw [show (limbs 0).length = 0 by rw [limbs_zero]; rfl] at hv3
      subst hv3
      have hb3 := below_box w3 #[.bool false, .slice ad3 0 cap3, .int .i64 0] 25
      have B3 := Lib.hid ((B2.out.step h3.below).step hb3)
      have C3 := Lib.hid ((C2.out.step h3.below).step hb3)
      have R3 := Lib.hid ((R2.out.step h3.below).step hb3)
      have H3 := Lib.hid ((h3.on H2.out).step hb3)
      have HB3 := Lib.hid (below_on (below_on HB2.out h3.below) hb3)
      clear h3 hb3 HB2 H2 R2 B2 C2 X3 b0 b1 b2 b3 b4
      obtain ⟨c1, c2, c3, c4⟩ := B3.out
      have KT := to_num H3.out.again (HD.out _ HB3.out) 64 2 rfl (by omega) false E1 X1.out.chk
      rw [X1.out.tof] at KT
      have KTH := Lib.hid KT
      clear KT
      go_wp2_with fail
      refine KTH.out.mono ?_
      rintro r w4 ⟨rfl, h4⟩
      unfold toA
      have B4 := Lib.hid (B3.out.step h4.below)
      have C4 := Lib.hid (C3.out.step h4.below)
      have R4 := Lib.hid (R3.out.step h4.below)
      have H4 := Lib.hid (h4.on H3.out)
      have HB4 := Lib.hid (below_on HB3.out h4.below)
      clear h4 HB3 H3 R3 B3 C3 KTH c1 c2 c3 c4
      obtain ⟨c1, c2, c3, c4⟩ := C4.out
      have KT := to_num H4.out.again (HD.out _ HB4.out) 64 1 rfl (by omega) false E2 X2.out.chk
      rw [X2.out.tof] at KT
      have KTH := Lib.hid KT
      clear KT
      go_wp2_with fail
      refine KTH.out.mono ?_
      rintro r w5 ⟨rfl, h5⟩
      unfold toA
      have B5 := Lib.hid (B4.out.step h5.below)
      have R5 := Lib.hid (R4.out.step h5.below)
      have H5 := Lib.hid (h5.on H4.out)
      have HB5 := Lib.hid (below_on HB4.out h5.below)
      clear h5 HB4 H4 R4 B4 C4 KTH c1 c2 c3 c4
      obtain ⟨b0, b1, b2, b3, b4⟩ := R5.out.r2
      have v2 : IntKind.u64.wrap 9218868437227405313 = 9218868437227405313 := by decide
      go_wp2_with fail
      refine (HIH.out _).mono ?_
      rintro r w6 ⟨rfl, hb6⟩
      have B6 := Lib.hid (B5.out.step hb6)
      have R6 := Lib.hid (R5.out.step hb6)
      have H6 := Lib.hid (H5.out.step hb6)
      have HB6 := Lib.hid (below_on HB5.out hb6)
      clear hb6 HB5 H5 R5 B5 b0 b1 b2 b3 b4
      obtain ⟨b0, b1, b2, b3, b4⟩ := R6.out.r2
      go_wp2_with fail
      refine (HNH.out _).mono ?_
      rintro r w7 ⟨rfl, hb7⟩
      have B7 := Lib.hid (B6.out.step hb7)
      have R7 := Lib.hid (R6.out.step hb7)
      have H7 := Lib.hid (H6.out.step hb7)
      have HB7 := Lib.hid (below_on HB6.out hb7)
      clear hb7 HB6 H6 R6 B6 b0 b1 b2 b3 b4
      obtain ⟨c1, c2, c3, c4⟩ := B7.out
      go_upto_region 13 with fail
      have HML1 := Lib.hid (limbs_ok M1)
      obtain ⟨adx, capx, hvx, x2, x3, x4, x5, x6⟩ := H7.out.get 2 rfl
      simp only [Value.slice.injEq] at hvx
      obtain ⟨rfl, hnx, rfl⟩ := hvx
      have HX5 := Lib.hid x5
      have hn9 : n1 ≤ 90 := by have h := X1.out.len; rw [HN1.out] at h; exact h
      have hM1 : limbs M1 ≠ [] := fun h0 => X1.out.ten (by rw [(limbs_nil_iff M1).1 h0])
      have KL := Lib.hid (fun W (h : Below w7.heap.size w7 W) => (show Calls Tryd.prog 29 #[.slice ad1 n1 cap1] W (fun r w' => ∃ g cap, r = .returned (.slice (some ⟨g, 0, none⟩) n1 cap) ∧ Own w7.heap.size w' (.slice (some ⟨g, 0, none⟩) n1 cap) (limbs M1) ∧ W.heap.size ≤ g ∧ g < w'.heap.size ∧ Below w7.heap.size w7 w' ∧ Below W.heap.size W w') from
        (limbs_any ad1 n1 cap1 (limbs M1) W HN1.out (by omega) HML1.out (HX5.out.below h)).mono (fun r w' ⟨v, hr, ho, hb⟩ => by
          obtain ⟨g, cap, rfl, g1, g2⟩ := own_at ho hM1
          rw [HN1.out] at ho hr
          exact ⟨g, cap, hr, ho.mono h.size, g1, g2, h.trans (hb.mono h.size), hb⟩)))
      have KM := Lib.hid (fun W v (h : Own w7.heap.size W v (limbs M1 ++ [0])) => (show Calls Tryd.prog 27 #[.bool false, v, .int .i64 E1] W (MadePost W ((⟨v, 91, M1, limbs M1 ++ [0]⟩ : Ent) :: []) 91 false M1 E1 true) from
        refMake_yes ((Ctx.begin W).push (ent_any h (by rw [List.length_append, HN1.out]; simp; omega) (val_nought M1))) 0 rfl (by decide) false E1 M1 0 (by rw [show tenN 0 = 1 from rfl, Nat.mul_one]) X1.out.ten X1.out.len E1 (by simp) X1.out.lo X1.out.hi))
      clear hnx x2 x3 x4 x5 x6
      have H7x := Lib.hid H7.out.below.size
      have q1 : w7.cell? ⟨w1.heap.size, 1, none⟩ = some (.slice ad1 n1 cap1) := c3
      have q2 : w7.cell? ⟨w1.heap.size, 2, none⟩ = some (.int .i64 E1) := c4
      have qz : w1.heap.size < w7.heap.size := c1
      go_cut [14] (fun s wx => EGCut w7 M1 E1 s wx)
      case first =>
        go_region_held_law (fun w' => w'.cell? ⟨w1.heap.size, 1, none⟩ = some (.slice ad1 n1 cap1) ∧ w'.cell? ⟨w1.heap.size, 2, none⟩ = some (.int .i64 E1)) (first | exact ⟨q1x, q2x⟩ | go_keep | (have hs8 := hB8.size; have hs9 := hB9.size; refine ⟨?_, ?_⟩ <;> (repeat rw [World.cell?_setCell_other (h := by first | (simp; done) | (simp; omega))]) <;> first | exact q1x | exact q2x)) (first
          | (refine step_call rfl 29 _ Tryd.func29 (by kernel_rfl) (by kernel_rfl) _ _ rfl #[.slice ad1 n1 cap1] (by simp [Act.eval, Act.put]) (KL.out _ (by first | exact below_drew (Below.refl _ _) | exact (below_drew (Below.refl _ _)).alloc (by simp) _ | exact ((below_drew (Below.refl _ _)).alloc (by simp) _).alloc (by simp) _)) ?_; rintro r w8 ⟨g8, cap8, rfl, ho8, hga, hgb, hB8, hb8⟩; have q1x := (hB8.cell (p := ⟨w1.heap.size, 1, none⟩) qz).trans q1; have q2x := (hB8.cell (p := ⟨w1.heap.size, 2, none⟩) qz).trans q2; (try simp at hga);
              (try (have hz8 : BxZ w8 w7.heap.size := BxZ.step (bxz_new w7.drew) hb8)); (try (have hz8 : BxZ w8 w7.heap.size := BxZ.step ((bxz_new w7.drew).alloc _) hb8)); (try (have hz8 : BxZ w8 (w7.heap.size + 1) := by simpa using BxZ.step (bxz_new (w7.drew.alloc _)) hb8)); refine ⟨_, rfl, ?_⟩)
          | (refine step_append2 rfl _ _ rfl w7.heap.size (.slice (some ⟨g8, 0, none⟩) n1 cap8) (limbs M1) rfl (by first | exact ho8 | exact ho8.below (below_box _ _ _) | exact (ho8.below (below_box _ _ _)).below (below_box _ _ _)) _ _ 0 rfl (by decide) (by first | (simp; done) | exact (hb8.cell (by first | (simp; done) | (simp; omega))).trans (by simp) | (rw [World.cell?_alloc_lt _ _ _ (by simp; omega)]; exact (hb8.cell (by first | (simp; done) | (simp; omega))).trans (by simp))) (by rw [HN1.out]; omega) (by first | exact hB8.size | exact Nat.le_trans hB8.size (by first | (simp; done) | (simp; omega))) ?_; intro v9 w9 ho9 hb9 hgr; have hB9 : Below w7.heap.size w7 w9 := (by first | exact hB8.trans hb9 | exact (hB8.alloc hB8.size _).trans hb9 | exact ((hB8.alloc hB8.size _).alloc (by simp; have := hB8.size; omega) _).trans hb9); have q1x := (hB9.cell (p := ⟨w1.heap.size, 1, none⟩) qz).trans q1; have q2x := (hB9.cell (p := ⟨w1.heap.size, 2, none⟩) qz).trans q2;
              (try (have hz9 := hz8.grown (k := g8) hb9 hgr (by omega))); (try (have hz9 := (hz8.alloc _).grown (k := g8) hb9 hgr (by omega))); (try (have hz9 := (bxz_new w8).grown (k := g8) hb9 hgr (by omega))); (try (have hz9 := ((bxz_new w8).alloc _).grown (k := g8) hb9 hgr (by omega))); (try (have hz9 : BxZ w9 (w8.heap.size + 1) := by simpa using (bxz_new (w8.alloc _)).grown (k := g8) hb9 hgr (by simp; omega))))
          | (refine step_call rfl 27 _ Tryd.func27 (by kernel_rfl) (by kernel_rfl) _ _ rfl #[.bool false, v9, .int .i64 E1] (by simp [Act.eval, Act.put]) (KM.out _ v9 (by first | exact ho9 | exact ho9.below (below_box _ _ _))) ?_; rintro r w10 ⟨v10, rfl, h10⟩; have hB10 : Below w7.heap.size w7 w10 := (by first | exact below_on hB9 h10.below | exact below_on (below_on hB9 (below_box w9 _ _)) h10.below); have q1x := (hB10.cell (p := ⟨w1.heap.size, 1, none⟩) qz).trans q1; have q2x := (hB10.cell (p := ⟨w1.heap.size, 2, none⟩) qz).trans q2;
              (try (have hz10 := hz9.step h10.below; have hz11 := Lib.hid hz10; obtain ⟨zl, z0, z1, z2, z3, z4, z5⟩ := hz10)); (try (have hz10 := (bxz_new w9).step h10.below; have hz11 := Lib.hid hz10; obtain ⟨zl, z0, z1, z2, z3, z4, z5⟩ := hz10)); obtain ⟨ad10, cap10, rfl, _⟩ := h10.get 0 rfl; have hF := (⟨hB10, h10.dropTwo.all⟩ : Ctx w7 w10 [⟨.slice ad10 (limbs M1).length cap10, 91, M1, limbs M1⟩]); refine ⟨_, rfl, ?_⟩))
        all_goals (try go_wp2_with fail)
        all_goals go_meet
        all_goals first
          | exact ⟨_, _, rfl, bx_new _ _ _ _, hF.step (below_box _ _ _)⟩
          | exact ⟨_, _, rfl, bx_box3 hz11.out _ _ _, hF.box3 (by have := hB8.size; have := hB9.size; omega) z0 z1 z2 _ _ _⟩
      case rest =>
        obtain ⟨hh, v, rfl, hB8, hC8⟩ := hcut
        obtain ⟨ad8, cap8, rfl, _⟩ := hC8.get 0 rfl
        have R8 := Lib.hid (R7.out.step hC8.below)
        have HB8 := Lib.hid (below_on HB7.out hC8.below)
        have KT := to_num hC8.again (HD.out _ HB8.out) 64 0 rfl (by decide) false E1 X1.out.chk
        rw [X1.out.tof] at KT
        have KTH := Lib.hid KT
        obtain ⟨y1, y2, y3, y4⟩ := hB8
        clear KT hC8 KL KM R7 H7 B7 HB7 c1 c2 c3 c4 q1 q2 qz
        generalize (limbs M1).length = nn at *
        go_wp2_with fail
        refine KTH.out.mono ?_
        rintro r w9 ⟨rfl, h9⟩
        unfold toA
        have R9 := Lib.hid (R8.out.step h9.below)
        have HB9 := Lib.hid (below_on HB8.out h9.below)
        clear h9 R8 HB8 KTH y1 y2 y3 y4
        go_wp2_with fail
        go_roundw
        case rel => exact ⟨2 + 1, by omega, by first | rfl | go_num, R9.out, HB9.out⟩
        case measure => first | (simp [intOf]; done) | (simp [intOf]; omega)
    · rw [show ((3 : Nat) : Int) = 3 from rfl]
      go_wp2_with fail
      refine (KA.out _ HBX.out).mono ?_
      rintro r w1 ⟨rfl, hb1⟩
      have H9 := Lib.hid (below_on HBX.out hb1)
      clear hb1
      go_wp2
      go_ret
      exact BoolBelow.mk rfl H9.out
end Go.Proofs.YtokppjfaihkkcaaDoor
