/- For the law NumAll: the reference's pow and abs. -/
import Derived.Test.YtogapgjilbcbfaaGreatDoorXd
import Derived.Test.YtogapgjilbcbfaaGreatDoorRy
namespace Go.Proofs.YtogapgjilbcbfaaGreatDoor
open Go.RowKit Go.Sort
set_option linter.unusedVariables false
set_option linter.unusedSimpArgs false

def PxRel (w : World) (k : Nat) (v i : Value) (wr : World) : Prop := ∃ (j : Nat) (ys : List Nat), j ≤ k ∧ i = .int .i64 (j : Int) ∧ Ctx w wr (⟨v, 3000, tenN j, ys⟩ :: [])
def PxPost (w : World) (k : Nat) (r : Ending) (w' : World) : Prop := ∃ v ys, r = .returned v ∧ Ctx w w' (⟨v, 3000, tenN k, ys⟩ :: [])
theorem ten_len2 (t : Nat) (ht : t ≤ 2400) : (limbs (tenN t)).length ≤ 3000 := by
  have := limbs_length_le (pow_bound (show (10 : Nat) < B32 by rw [B32_eq]; decide) t)
  have e : tenN t = 10 ^ t := rfl
  rw [e]; omega
theorem ent_wide {w : World} {v : Value} {L L' N : Nat} {xs : List Nat} (h : Ent.Ok w ⟨v, L, N, xs⟩) (hL : L ≤ L') : Ent.Ok w ⟨v, L', N, xs⟩ := by
  obtain ⟨a, b, h1, h2, h3, h4, h5, h6⟩ := h
  exact ⟨a, b, h1, h2, Nat.le_trans h3 hL, h4, h5, h6⟩

set_option maxHeartbeats 8000000 in
theorem rpow_any (k : Nat) (hk : k ≤ 2400) (w : World) : Calls Tryz.prog 64 #[.int .i64 (k : Int)] w (PxPost w k) := by
  have h0 := (Ctx.begin w).lits1 (xs := [1]) (N := 1) (Okl.cons (by decide) Okl.nil) (by simp [val]) 1 rfl #[.int .u32 1] rfl
  have H0 := Lib.hid (show Ctx w (w.alloc (.cells #[.int .u32 1] 42)) (⟨.slice (some ⟨w.heap.size, 0, none⟩) 1 1, 3000, tenN 0, [1]⟩ :: []) from ⟨h0.below, fun x hx => by
    rcases List.mem_cons.1 hx with rfl | hx
    · exact ent_wide (L := 1) (h0.all _ (by simp [show tenN 0 = 1 from rfl])) (by decide)
    · cases hx⟩)
  clear h0
  go_enter Tryz.func64, Tryz.ntmps64
  go_wp2_with fail
  go_loopw [3, 4] (fun v i wr => PxRel w k v i wr) (fun _ i _ => k - (intOf i).toNat)
  case atStart => exact ⟨0, [1], Nat.zero_le _, rfl, H0.out⟩
  case round =>
    obtain ⟨j, ys, hj, rfl, hC⟩ := hrel
    by_cases hlt : j < k
    · have hz : (j : Int) < (k : Int) := by omega
      have hL := hC.lits1 (xs := [10]) (N := 10) (Okl.cons (by decide) Okl.nil) (by simp [val]) 1 rfl #[.int .u32 10] rfl
      obtain ⟨a1, c1, rfl, q2, q3, q4, q5, q6⟩ := hL.get 1 rfl
      obtain ⟨a2, c2, hv2, r2, r3, r4, r5, r6⟩ := hL.get 0 rfl
      simp only [Value.slice.injEq] at hv2
      obtain ⟨rfl, hone, rfl⟩ := hv2
      clear hone
      have KMU := Lib.hid (refMul_any a1 _ c1 ys _ 1 1 [10] _ rfl q2 (by omega) q4 q5 rfl r2 (by decide) r4 r5)
      rw [q6, show val [10] = 10 by simp [val], show tenN j * 10 = tenN (j + 1) from (tenN_add j 1).symm] at KMU
      have HL := Lib.hid hL
      have HFL := Lib.hid (ten_len2 (j + 1) (by omega))
      clear q2 q3 q4 q5 q6 r2 r3 r4 r5 r6 hC hL
      generalize ys.length = nj at *
      go_wp2_with fail
      refine KMU.out.mono ?_
      rintro r w2 ⟨v2, rfl, ho2, hb2⟩
      have HR := Lib.hid (((HL.out.step hb2).drop1.drop1).push (ent_own ho2 HFL.out))
      clear ho2 hb2 KMU HL
      go_wp2_with fail
      go_roundw
      case rel => exact ⟨j + 1, _, by omega, by go_num, HR.out⟩
      case measure => simp [intOf]; omega
    · have hz : ¬ (j : Int) < (k : Int) := by omega
      obtain rfl : j = k := by omega
      have HC := Lib.hid hC; clear hC
      go_wp2_with fail
      go_ret
      exact ⟨_, _, rfl, HC.out⟩
/-- What abs tells of two. -/
def AbsPost (i : Int) (w : World) (r : Ending) (w' : World) : Prop := r = .returned (.int .i64 i) ∧ Below w.heap.size w w'
set_option maxHeartbeats 8000000 in
set_option maxRecDepth 100000 in
theorem rabs_any (na : Bool) (ad : Option Addr) (n cap : Nat) (xs : List Nat) (e : Int) (nb : Bool) (ad' : Option Addr) (n' cap' : Nat) (zs : List Nat) (f : Int) (w : World) (ha : NumOk w na ad n cap xs e) (hb : NumOk w nb ad' n' cap' zs f) (k1 k2 : Nat) (hk : (k1 = 0 ∧ f = e + (k2 : Int)) ∨ (k2 = 0 ∧ e = f + (k1 : Int))) :
    Calls Tryz.prog 40 #[.agg #[.bool na, .slice ad n cap, .int .i64 e], .agg #[.bool nb, .slice ad' n' cap', .int .i64 f]] w (AbsPost (cmpN (val xs * tenN k1) (val zs * tenN k2)) w) := by
  have la := ha.lo; have lb := hb.lo
  have na9 := ha.n90; have nb9 := hb.n90
  have hk1 : k1 ≤ 2400 := by rcases hk with ⟨h, _⟩ | ⟨_, h⟩ <;> omega
  have hk2 : k2 ≤ 2400 := by rcases hk with ⟨_, h⟩ | ⟨h, _⟩ <;> omega
  obtain ⟨W0, hW0⟩ : ∃ W0, W0 = (w.alloc (.cells #[.bool na, .slice ad n cap, .int .i64 e] 24)).alloc (.cells #[.bool nb, .slice ad' n' cap', .int .i64 f] 24) := ⟨_, rfl⟩
  have hbl : Below w.heap.size w W0 := by rw [hW0]; exact ((Below.refl _ _).alloc (Nat.le_refl _) _).alloc (by simp) _
  have X1 : W0.cell? ⟨w.heap.size, 1, none⟩ = some (.slice ad n cap) := by rw [hW0]; simp
  have X2 : W0.cell? ⟨w.heap.size, 2, none⟩ = some (.int .i64 e) := by rw [hW0]; simp
  have Y1 : W0.cell? ⟨w.heap.size + 1, 1, none⟩ = some (.slice ad' n' cap') := by rw [hW0]; simp
  have Y2 : W0.cell? ⟨w.heap.size + 1, 2, none⟩ = some (.int .i64 f) := by rw [hW0]; simp
  have hX : w.heap.size < W0.heap.size := by rw [hW0]; simp; omega
  have hY : w.heap.size + 1 < W0.heap.size := by rw [hW0]; simp
  have HB := Lib.hid hbl
  have KP := Lib.hid (fun k (hk : k ≤ 2400) W => rpow_any k hk W)
  have KM1 := Lib.hid (fun (W : World) (hW : Below W0.heap.size W0 W) a c ys (q1 : ys.length ≤ c) (q2 : ys.length ≤ 3000) (q3 : Okl ys) (q4 : Rd W a ys) (q5 : val ys = tenN k1) => (show Calls Tryz.prog 32 #[.slice ad n cap, .slice a ys.length c] W (Gives (val xs * tenN k1) W) from by
    have K := refMul_any ad n cap xs a ys.length c ys W ha.len ha.cap (by omega) ha.ok (ha.rd.below (below_on hbl hW)) rfl q1 (by omega) q3 q4
    rwa [q5] at K))
  have KM2 := Lib.hid (fun (W : World) (hW : Below W0.heap.size W0 W) a c ys (q1 : ys.length ≤ c) (q2 : ys.length ≤ 3000) (q3 : Okl ys) (q4 : Rd W a ys) (q5 : val ys = tenN k2) => (show Calls Tryz.prog 32 #[.slice ad' n' cap', .slice a ys.length c] W (Gives (val zs * tenN k2) W) from by
    have K := refMul_any ad' n' cap' zs a ys.length c ys W hb.len hb.cap (by omega) hb.ok (hb.rd.below (below_on hbl hW)) rfl q1 (by omega) q3 q4
    rwa [q5] at K))
  have plen : ∀ N k, (limbs N).length ≤ 90 → k ≤ 2400 → (limbs (N * tenN k)).length ≤ 100000000 := fun N k hN hk => by
    have h1 := val_lt (limbs_ok N)
    have h2 := val_lt (limbs_ok (tenN k))
    rw [val_limbs] at h1 h2
    have h3 := ten_len2 k hk
    have h4 : N * tenN k < B32 ^ ((limbs N).length + (limbs (tenN k)).length) := by
      rw [Nat.pow_add]
      exact Nat.mul_lt_mul_of_lt_of_le h1 (Nat.le_of_lt h2) (Nat.pow_pos (by rw [B32_eq]; decide))
    have := limbs_length_le h4
    omega
  have px := plen (val xs) k1 (by rw [chkB_limbs ha.ok ha.chk, ha.len]; exact na9) hk1
  have pz := plen (val zs) k2 (by rw [chkB_limbs hb.ok hb.chk, hb.len]; exact nb9) hk2
  have KC := Lib.hid (fun (W : World) b1 d1 b2 d2 (m1c : (limbs (val xs * tenN k1)).length ≤ d1) (m1r : Rd W b1 (limbs (val xs * tenN k1))) (m2c : (limbs (val zs * tenN k2)).length ≤ d2) (m2r : Rd W b2 (limbs (val zs * tenN k2))) => (show Calls Tryz.prog 42 #[.slice b1 (limbs (val xs * tenN k1)).length d1, .slice b2 (limbs (val zs * tenN k2)).length d2] W (fun r w' => r = .returned (.int .i64 (cmpN (val xs * tenN k1) (val zs * tenN k2))) ∧ Below W.heap.size W w') from by
    have K := refCmp_any b1 _ d1 _ b2 _ d2 _ W rfl m1c px (limbs_ok _) m1r rfl m2c pz (limbs_ok _) m2r
    rw [val_limbs, val_limbs] at K
    exact K.mono (fun r w' ⟨h1, q, h2⟩ => ⟨h1, by rw [h2]; exact below_drewN' (Below.refl _ _) q⟩)))
  clear plen px pz hbl
  have HA := Lib.hid ha; have HBB := Lib.hid hb
  clear ha hb na9 nb9
  rcases hk with ⟨h0, h1⟩ | ⟨h0, h1⟩
  · subst h0
    have hmin : min e f = e := by omega
    have hef : e ≤ f := by omega
    have hz1 : e - e = ((0 : Nat) : Int) := by omega
    have hz2 : f - e = (k2 : Int) := by omega
    have HH1 := Lib.hid h1; clear h1
    go_enter Tryz.func40, Tryz.ntmps40
    go_upto_region 2 with fail
    rw [← hW0]
    clear hW0
    go_region_held_law (fun w' => w'.cell? ⟨w.heap.size, 1, none⟩ = some (.slice ad n cap) ∧ w'.cell? ⟨w.heap.size, 2, none⟩ = some (.int .i64 e) ∧ w'.cell? ⟨w.heap.size + 1, 1, none⟩ = some (.slice ad' n' cap') ∧ w'.cell? ⟨w.heap.size + 1, 2, none⟩ = some (.int .i64 f)) (first | exact ⟨x1, x2, y1, y2⟩ | go_keep) (first | (refine step_callX rfl 64 _ Tryz.func64 (by kernel_rfl) (by kernel_rfl) #[.tmp 16] _ rfl #[.int .i64 ((0 : Nat) : Int)] (by simp [Act.eval, Act.put]; first | done | decide | exact IntWalk.i64_in _ (by omega)) (KP.out 0 (Nat.zero_le _) _) ?_; rintro r W1 ⟨p1, ys1, rfl, hp1⟩; have hb := hp1.below; obtain ⟨a1, c1, rfl, q1b', q1c', q1d', q1r', q1v'⟩ := hp1.get 0 rfl; have q1b := Lib.hid q1b'; have q1c := Lib.hid q1c'; have q1d := Lib.hid q1d'; have q1r := Lib.hid q1r'; have q1v := Lib.hid q1v'; clear q1b' q1c' q1d' q1r' q1v' hp1; have hB := Lib.hid (show Below W0.heap.size W0 _ from (by first | exact below_on hB.out hb | exact below_on (below_drew (Below.refl _ _)) hb)); (try (replace q1r := Lib.hid (q1r.out.below hb))); (try (replace q2r := Lib.hid (q2r.out.below hb))); (try (replace m1r := Lib.hid (m1r.out.below hb))); (try (replace m2r := Lib.hid (m2r.out.below hb))); have x1 := (hB.out.cell (p := ⟨w.heap.size, 1, none⟩) hX).trans X1; have x2 := (hB.out.cell (p := ⟨w.heap.size, 2, none⟩) hX).trans X2; have y1 := (hB.out.cell (p := ⟨w.heap.size + 1, 1, none⟩) hY).trans Y1; have y2 := (hB.out.cell (p := ⟨w.heap.size + 1, 2, none⟩) hY).trans Y2; clear hb; refine ⟨_, rfl, ?_⟩) | (refine step_callX rfl 64 _ Tryz.func64 (by kernel_rfl) (by kernel_rfl) #[.tmp 24] _ rfl #[.int .i64 ((k2 : Nat) : Int)] (by simp [Act.eval, Act.put]; first | done | decide | exact IntWalk.i64_in _ (by omega)) (KP.out k2 hk2 _) ?_; rintro r W2 ⟨p2, ys2, rfl, hp2⟩; have hb := hp2.below; obtain ⟨a2, c2, rfl, q2b', q2c', q2d', q2r', q2v'⟩ := hp2.get 0 rfl; have q2b := Lib.hid q2b'; have q2c := Lib.hid q2c'; have q2d := Lib.hid q2d'; have q2r := Lib.hid q2r'; have q2v := Lib.hid q2v'; clear q2b' q2c' q2d' q2r' q2v' hp2; have hB := Lib.hid (show Below W0.heap.size W0 _ from (by first | exact below_on hB.out hb | exact below_on (below_drew (Below.refl _ _)) hb)); (try (replace q1r := Lib.hid (q1r.out.below hb))); (try (replace q2r := Lib.hid (q2r.out.below hb))); (try (replace m1r := Lib.hid (m1r.out.below hb))); (try (replace m2r := Lib.hid (m2r.out.below hb))); have x1 := (hB.out.cell (p := ⟨w.heap.size, 1, none⟩) hX).trans X1; have x2 := (hB.out.cell (p := ⟨w.heap.size, 2, none⟩) hX).trans X2; have y1 := (hB.out.cell (p := ⟨w.heap.size + 1, 1, none⟩) hY).trans Y1; have y2 := (hB.out.cell (p := ⟨w.heap.size + 1, 2, none⟩) hY).trans Y2; clear hb; refine ⟨_, rfl, ?_⟩) | (refine step_callX rfl 32 _ Tryz.func32 (by kernel_rfl) (by kernel_rfl) #[.tmp 12, .tmp 17] _ rfl #[.slice ad n cap, .slice a1 ys1.length c1] (by simp [Act.eval, Act.put]) (KM1.out _ (by exact hB.out) a1 c1 ys1 q1b.out q1c.out q1d.out q1r.out q1v.out) ?_; rintro r V1 ⟨mv1, rfl, mo1, hb⟩; obtain ⟨b1, d1, rfl, m1c', m1r', _⟩ := mo1.view; have m1c := Lib.hid m1c'; have m1r := Lib.hid m1r'; clear m1c' m1r' mo1; have hB := Lib.hid (show Below W0.heap.size W0 _ from (by first | exact below_on hB.out hb | exact below_on (below_drew (Below.refl _ _)) hb)); (try (replace q1r := Lib.hid (q1r.out.below hb))); (try (replace q2r := Lib.hid (q2r.out.below hb))); (try (replace m1r := Lib.hid (m1r.out.below hb))); (try (replace m2r := Lib.hid (m2r.out.below hb))); have x1 := (hB.out.cell (p := ⟨w.heap.size, 1, none⟩) hX).trans X1; have x2 := (hB.out.cell (p := ⟨w.heap.size, 2, none⟩) hX).trans X2; have y1 := (hB.out.cell (p := ⟨w.heap.size + 1, 1, none⟩) hY).trans Y1; have y2 := (hB.out.cell (p := ⟨w.heap.size + 1, 2, none⟩) hY).trans Y2; clear hb; refine ⟨_, rfl, ?_⟩) | (refine step_callX rfl 32 _ Tryz.func32 (by kernel_rfl) (by kernel_rfl) #[.tmp 20, .tmp 25] _ rfl #[.slice ad' n' cap', .slice a2 ys2.length c2] (by simp [Act.eval, Act.put]) (KM2.out _ (by exact hB.out) a2 c2 ys2 q2b.out q2c.out q2d.out q2r.out q2v.out) ?_; rintro r V2 ⟨mv2, rfl, mo2, hb⟩; obtain ⟨b2, d2, rfl, m2c', m2r', _⟩ := mo2.view; have m2c := Lib.hid m2c'; have m2r := Lib.hid m2r'; clear m2c' m2r' mo2; have hB := Lib.hid (show Below W0.heap.size W0 _ from (by first | exact below_on hB.out hb | exact below_on (below_drew (Below.refl _ _)) hb)); (try (replace q1r := Lib.hid (q1r.out.below hb))); (try (replace q2r := Lib.hid (q2r.out.below hb))); (try (replace m1r := Lib.hid (m1r.out.below hb))); (try (replace m2r := Lib.hid (m2r.out.below hb))); have x1 := (hB.out.cell (p := ⟨w.heap.size, 1, none⟩) hX).trans X1; have x2 := (hB.out.cell (p := ⟨w.heap.size, 2, none⟩) hX).trans X2; have y1 := (hB.out.cell (p := ⟨w.heap.size + 1, 1, none⟩) hY).trans Y1; have y2 := (hB.out.cell (p := ⟨w.heap.size + 1, 2, none⟩) hY).trans Y2; clear hb; refine ⟨_, rfl, ?_⟩) | (refine step_callX rfl 42 _ Tryz.func42 (by kernel_rfl) (by kernel_rfl) #[.tmp 18, .tmp 26] _ rfl #[.slice b1 (limbs (val xs * tenN 0)).length d1, .slice b2 (limbs (val zs * tenN k2)).length d2] (by simp [Act.eval, Act.put]) (KC.out _ b1 d1 b2 d2 m1c.out m1r.out m2c.out m2r.out) ?_; rintro r V3 ⟨rfl, hb⟩; have hB := Lib.hid (show Below W0.heap.size W0 _ from (by first | exact below_on hB.out hb | exact below_on (below_drew (Below.refl _ _)) hb)); (try (replace q1r := Lib.hid (q1r.out.below hb))); (try (replace q2r := Lib.hid (q2r.out.below hb))); (try (replace m1r := Lib.hid (m1r.out.below hb))); (try (replace m2r := Lib.hid (m2r.out.below hb))); have x1 := (hB.out.cell (p := ⟨w.heap.size, 1, none⟩) hX).trans X1; have x2 := (hB.out.cell (p := ⟨w.heap.size, 2, none⟩) hX).trans X2; have y1 := (hB.out.cell (p := ⟨w.heap.size + 1, 1, none⟩) hY).trans Y1; have y2 := (hB.out.cell (p := ⟨w.heap.size + 1, 2, none⟩) hY).trans Y2; clear hb; refine ⟨_, rfl, ?_⟩))
    all_goals
      have HF := Lib.hid (below_on HB.out hB.out)
      go_wp2_with fail
      go_ret
      exact ⟨by first | rfl | (simp; done) | (simp [Act.put]; done) | trace_state, HF.out⟩
  · subst h0
    have hmin : min e f = f := by omega
    have hef : f ≤ e := by omega
    have hz1 : e - f = (k1 : Int) := by omega
    have hz2 : f - f = ((0 : Nat) : Int) := by omega
    have HH1 := Lib.hid h1; clear h1
    go_enter Tryz.func40, Tryz.ntmps40
    go_upto_region 2 with fail
    rw [← hW0]
    clear hW0
    go_region_held_law (fun w' => w'.cell? ⟨w.heap.size, 1, none⟩ = some (.slice ad n cap) ∧ w'.cell? ⟨w.heap.size, 2, none⟩ = some (.int .i64 e) ∧ w'.cell? ⟨w.heap.size + 1, 1, none⟩ = some (.slice ad' n' cap') ∧ w'.cell? ⟨w.heap.size + 1, 2, none⟩ = some (.int .i64 f)) (first | exact ⟨x1, x2, y1, y2⟩ | go_keep) (first | (refine step_callX rfl 64 _ Tryz.func64 (by kernel_rfl) (by kernel_rfl) #[.tmp 16] _ rfl #[.int .i64 ((k1 : Nat) : Int)] (by simp [Act.eval, Act.put]; first | done | decide | exact IntWalk.i64_in _ (by omega)) (KP.out k1 hk1 _) ?_; rintro r W1 ⟨p1, ys1, rfl, hp1⟩; have hb := hp1.below; obtain ⟨a1, c1, rfl, q1b', q1c', q1d', q1r', q1v'⟩ := hp1.get 0 rfl; have q1b := Lib.hid q1b'; have q1c := Lib.hid q1c'; have q1d := Lib.hid q1d'; have q1r := Lib.hid q1r'; have q1v := Lib.hid q1v'; clear q1b' q1c' q1d' q1r' q1v' hp1; have hB := Lib.hid (show Below W0.heap.size W0 _ from (by first | exact below_on hB.out hb | exact below_on (below_drew (Below.refl _ _)) hb)); (try (replace q1r := Lib.hid (q1r.out.below hb))); (try (replace q2r := Lib.hid (q2r.out.below hb))); (try (replace m1r := Lib.hid (m1r.out.below hb))); (try (replace m2r := Lib.hid (m2r.out.below hb))); have x1 := (hB.out.cell (p := ⟨w.heap.size, 1, none⟩) hX).trans X1; have x2 := (hB.out.cell (p := ⟨w.heap.size, 2, none⟩) hX).trans X2; have y1 := (hB.out.cell (p := ⟨w.heap.size + 1, 1, none⟩) hY).trans Y1; have y2 := (hB.out.cell (p := ⟨w.heap.size + 1, 2, none⟩) hY).trans Y2; clear hb; refine ⟨_, rfl, ?_⟩) | (refine step_callX rfl 64 _ Tryz.func64 (by kernel_rfl) (by kernel_rfl) #[.tmp 24] _ rfl #[.int .i64 ((0 : Nat) : Int)] (by simp [Act.eval, Act.put]; first | done | decide | exact IntWalk.i64_in _ (by omega)) (KP.out 0 (Nat.zero_le _) _) ?_; rintro r W2 ⟨p2, ys2, rfl, hp2⟩; have hb := hp2.below; obtain ⟨a2, c2, rfl, q2b', q2c', q2d', q2r', q2v'⟩ := hp2.get 0 rfl; have q2b := Lib.hid q2b'; have q2c := Lib.hid q2c'; have q2d := Lib.hid q2d'; have q2r := Lib.hid q2r'; have q2v := Lib.hid q2v'; clear q2b' q2c' q2d' q2r' q2v' hp2; have hB := Lib.hid (show Below W0.heap.size W0 _ from (by first | exact below_on hB.out hb | exact below_on (below_drew (Below.refl _ _)) hb)); (try (replace q1r := Lib.hid (q1r.out.below hb))); (try (replace q2r := Lib.hid (q2r.out.below hb))); (try (replace m1r := Lib.hid (m1r.out.below hb))); (try (replace m2r := Lib.hid (m2r.out.below hb))); have x1 := (hB.out.cell (p := ⟨w.heap.size, 1, none⟩) hX).trans X1; have x2 := (hB.out.cell (p := ⟨w.heap.size, 2, none⟩) hX).trans X2; have y1 := (hB.out.cell (p := ⟨w.heap.size + 1, 1, none⟩) hY).trans Y1; have y2 := (hB.out.cell (p := ⟨w.heap.size + 1, 2, none⟩) hY).trans Y2; clear hb; refine ⟨_, rfl, ?_⟩) | (refine step_callX rfl 32 _ Tryz.func32 (by kernel_rfl) (by kernel_rfl) #[.tmp 12, .tmp 17] _ rfl #[.slice ad n cap, .slice a1 ys1.length c1] (by simp [Act.eval, Act.put]) (KM1.out _ (by exact hB.out) a1 c1 ys1 q1b.out q1c.out q1d.out q1r.out q1v.out) ?_; rintro r V1 ⟨mv1, rfl, mo1, hb⟩; obtain ⟨b1, d1, rfl, m1c', m1r', _⟩ := mo1.view; have m1c := Lib.hid m1c'; have m1r := Lib.hid m1r'; clear m1c' m1r' mo1; have hB := Lib.hid (show Below W0.heap.size W0 _ from (by first | exact below_on hB.out hb | exact below_on (below_drew (Below.refl _ _)) hb)); (try (replace q1r := Lib.hid (q1r.out.below hb))); (try (replace q2r := Lib.hid (q2r.out.below hb))); (try (replace m1r := Lib.hid (m1r.out.below hb))); (try (replace m2r := Lib.hid (m2r.out.below hb))); have x1 := (hB.out.cell (p := ⟨w.heap.size, 1, none⟩) hX).trans X1; have x2 := (hB.out.cell (p := ⟨w.heap.size, 2, none⟩) hX).trans X2; have y1 := (hB.out.cell (p := ⟨w.heap.size + 1, 1, none⟩) hY).trans Y1; have y2 := (hB.out.cell (p := ⟨w.heap.size + 1, 2, none⟩) hY).trans Y2; clear hb; refine ⟨_, rfl, ?_⟩) | (refine step_callX rfl 32 _ Tryz.func32 (by kernel_rfl) (by kernel_rfl) #[.tmp 20, .tmp 25] _ rfl #[.slice ad' n' cap', .slice a2 ys2.length c2] (by simp [Act.eval, Act.put]) (KM2.out _ (by exact hB.out) a2 c2 ys2 q2b.out q2c.out q2d.out q2r.out q2v.out) ?_; rintro r V2 ⟨mv2, rfl, mo2, hb⟩; obtain ⟨b2, d2, rfl, m2c', m2r', _⟩ := mo2.view; have m2c := Lib.hid m2c'; have m2r := Lib.hid m2r'; clear m2c' m2r' mo2; have hB := Lib.hid (show Below W0.heap.size W0 _ from (by first | exact below_on hB.out hb | exact below_on (below_drew (Below.refl _ _)) hb)); (try (replace q1r := Lib.hid (q1r.out.below hb))); (try (replace q2r := Lib.hid (q2r.out.below hb))); (try (replace m1r := Lib.hid (m1r.out.below hb))); (try (replace m2r := Lib.hid (m2r.out.below hb))); have x1 := (hB.out.cell (p := ⟨w.heap.size, 1, none⟩) hX).trans X1; have x2 := (hB.out.cell (p := ⟨w.heap.size, 2, none⟩) hX).trans X2; have y1 := (hB.out.cell (p := ⟨w.heap.size + 1, 1, none⟩) hY).trans Y1; have y2 := (hB.out.cell (p := ⟨w.heap.size + 1, 2, none⟩) hY).trans Y2; clear hb; refine ⟨_, rfl, ?_⟩) | (refine step_callX rfl 42 _ Tryz.func42 (by kernel_rfl) (by kernel_rfl) #[.tmp 18, .tmp 26] _ rfl #[.slice b1 (limbs (val xs * tenN k1)).length d1, .slice b2 (limbs (val zs * tenN 0)).length d2] (by simp [Act.eval, Act.put]) (KC.out _ b1 d1 b2 d2 m1c.out m1r.out m2c.out m2r.out) ?_; rintro r V3 ⟨rfl, hb⟩; have hB := Lib.hid (show Below W0.heap.size W0 _ from (by first | exact below_on hB.out hb | exact below_on (below_drew (Below.refl _ _)) hb)); (try (replace q1r := Lib.hid (q1r.out.below hb))); (try (replace q2r := Lib.hid (q2r.out.below hb))); (try (replace m1r := Lib.hid (m1r.out.below hb))); (try (replace m2r := Lib.hid (m2r.out.below hb))); have x1 := (hB.out.cell (p := ⟨w.heap.size, 1, none⟩) hX).trans X1; have x2 := (hB.out.cell (p := ⟨w.heap.size, 2, none⟩) hX).trans X2; have y1 := (hB.out.cell (p := ⟨w.heap.size + 1, 1, none⟩) hY).trans Y1; have y2 := (hB.out.cell (p := ⟨w.heap.size + 1, 2, none⟩) hY).trans Y2; clear hb; refine ⟨_, rfl, ?_⟩))
    all_goals
      have HF := Lib.hid (below_on HB.out hB.out)
      go_wp2_with fail
      go_ret
      exact ⟨by first | rfl | (simp; done) | (simp [Act.put]; done) | trace_state, HF.out⟩
end Go.Proofs.YtogapgjilbcbfaaGreatDoor
