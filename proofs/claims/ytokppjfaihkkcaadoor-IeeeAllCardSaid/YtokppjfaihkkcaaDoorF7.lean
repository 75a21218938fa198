/- The walks of ieee's join. -/
import Derived.Test.YtokppjfaihkkcaaDoorF4
import Derived.Test.YtokppjfaihkkcaaDoorF6
import Derived.Test.YtokppjfaihkkcaaDoorShelf
namespace Go.Proofs.YtokppjfaihkkcaaDoor
open Go.RowKit Go.Sort
set_option linter.unusedVariables false
set_option linter.unusedSimpArgs false

/-- Two boxes: a layout, a binary. -/
structure JB (w : World) (g e f : Nat) (ng : Bool) (o : Nat) (t : Int) : Prop where
  lt : g + 1 < w.heap.size
  c0 : w.cell? ⟨g, 0, none⟩ = some (.int .i64 (e : Int))
  c1 : w.cell? ⟨g, 1, none⟩ = some (.int .i64 (f : Int))
  d0 : w.cell? ⟨g + 1, 0, none⟩ = some (.bool ng)
  d1 : w.cell? ⟨g + 1, 1, none⟩ = some (.int .u64 (o : Int))
  d2 : w.cell? ⟨g + 1, 2, none⟩ = some (.int .i64 t)
theorem JB.step {w w' : World} {g e f o : Nat} {ng : Bool} {t : Int} (h : JB w g e f ng o t) (hb : Below w.heap.size w w') : JB w' g e f ng o t :=
  have h0 : g < w.heap.size := by have := h.lt; omega
  ⟨Nat.lt_of_lt_of_le h.lt hb.size, (hb.cell (p := ⟨g, 0, none⟩) h0).trans h.c0, (hb.cell (p := ⟨g, 1, none⟩) h0).trans h.c1, (hb.cell (p := ⟨g + 1, 0, none⟩) h.lt).trans h.d0, (hb.cell (p := ⟨g + 1, 1, none⟩) h.lt).trans h.d1, (hb.cell (p := ⟨g + 1, 2, none⟩) h.lt).trans h.d2⟩
theorem jb_new (w : World) (e f o : Nat) (ng : Bool) (t : Int) : JB ((w.alloc (.cells #[.int .i64 (e : Int), .int .i64 (f : Int)] 68)).alloc (.cells #[.bool ng, .int .u64 (o : Int), .int .i64 t] 73)) w.heap.size e f ng o t :=
  ⟨by simp, by rw [cell_old _ _ _ _ (by simp), cell_new]; rfl, by rw [cell_old _ _ _ _ (by simp), cell_new]; rfl, by rw [cell_at _ _ _ _ _ (by simp)]; rfl, by rw [cell_at _ _ _ _ _ (by simp)]; rfl, by rw [cell_at _ _ _ _ _ (by simp)]; rfl⟩
theorem len64_any (o : Nat) (w : World) (h : o < 18446744073709551616) : Calls Tryd.prog 76 #[.int .u64 (o : Int)] w fun e w' => e = .returned (.int .i64 ((lenB o : Nat) : Int)) ∧ w' = w :=
  (Tryd.bits_Len64 (o : Int) w (by omega) (by omega)).mono fun _ _ h => by simpa [lenB] using h

theorem or_add2 {a f : Nat} (h : a < 2 ^ f) (hf : f < 64) : bits BinOp.or IntKind.u64 (a : Int) ((2 ^ f : Nat) : Int) = ((a + 2 ^ f : Nat) : Int) := by
  have h1 : 2 ^ f ≤ 2 ^ 63 := Nat.pow_le_pow_right (by decide) (by omega)
  rw [bits_or_u64_nat a _ (by omega) (by omega), Nat.or_comm, nat_join f (2 ^ f) a (Nat.mod_self _) h, Nat.add_comm]
def joinA (e f : Nat) (ng : Bool) (o : Nat) (t : Int) : Value := match joinF e f o t with | none => .tuple #[.int .u64 0, .bool false] | some y => .tuple #[.int .u64 ((y + (if ng then 2 ^ (e + f) else 0) : Nat) : Int), .bool true]

set_option maxHeartbeats 8000000 in
theorem join_any {e f : Nat} (hl : Lay e f) (ng : Bool) (o : Nat) (t : Int) (ho : o % 2 = 1) (h64 : o < 18446744073709551616) (ht : -100000 ≤ t ∧ t ≤ 100000) (w : World) :
    Calls Tryd.prog 49 #[layV e f, binV ng o t] w fun r w' => r = .returned (joinA e f ng o t) ∧ Below w.heap.size w w' := by
  have h0 : o ≠ 0 := by omega
  obtain ⟨l1, l2, l3⟩ := lenB_bounds h0 h64
  have hL64 : lenB o ≤ 64 := Lib.bitLen_le o 64 (by decide) h64
  obtain ⟨p1, p2, f1, f2, b1, b2⟩ := lay_bd hl
  have hls : -1074 ≤ leastF e f ∧ leastF e f ≤ -24 := by rcases hl with ⟨rfl, rfl⟩ | ⟨rfl, rfl⟩ | ⟨rfl, rfl⟩ <;> decide
  have KL := Lib.hid (fun W => leastPlace_any hl W)
  have KB := Lib.hid (fun W => bias_any hl W)
  have K6 := Lib.hid (fun W => len64_any o W h64)
  have HJ := Lib.hid (jb_new w e f o ng t)
  have HB := Lib.hid ((below_box' w #[.int .i64 (e : Int), .int .i64 (f : Int)] 68).alloc (by simp) (.cells #[.bool ng, .int .u64 (o : Int), .int .i64 t] 73))
  have hjf : joinA e f ng o t = if (t + (lenB o : Int) - 1 > 2 ^ (e - 1) - 1 ∨ t < max (t + (lenB o : Int) - 1 - (f : Int)) (leastF e f)) then .tuple #[.int .u64 0, .bool false] else .tuple #[.int .u64 ((o * 2 ^ (t - max (t + (lenB o : Int) - 1 - (f : Int)) (leastF e f)).toNat + (max (t + (lenB o : Int) - 1 - (f : Int)) (leastF e f) - leastF e f).toNat * 2 ^ f + (if ng then 2 ^ (e + f) else 0) : Nat) : Int), .bool true] := by
    unfold joinA joinF
    simp only []
    by_cases hc : (t + (lenB o : Int) - 1 > 2 ^ (e - 1) - 1 ∨ t < max (t + (lenB o : Int) - 1 - (f : Int)) (leastF e f))
    · rw [if_pos hc, if_pos hc]
    · rw [if_neg hc, if_neg hc]
  have HJF := Lib.hid hjf; clear hjf
  have HYB : Hid (¬ (t + (lenB o : Int) - 1 > 2 ^ (e - 1) - 1 ∨ t < max (t + (lenB o : Int) - 1 - (f : Int)) (leastF e f)) → o * 2 ^ (t - max (t + (lenB o : Int) - 1 - (f : Int)) (leastF e f)).toNat + (max (t + (lenB o : Int) - 1 - (f : Int)) (leastF e f) - leastF e f).toNat * 2 ^ f < 2 ^ (e + f)) := fun hc => (join_back hl ho h64 (by unfold joinF; simp only []; rw [if_neg hc])).1
  have hef63 : 2 ^ (e + f) ≤ 2 ^ 63 := Nat.pow_le_pow_right (by decide) (by omega)
  have hpw : (2 : Int) ^ f = ((2 ^ f : Nat) : Int) := by push_cast; rfl
  have hpw2 : (2 : Int) ^ (e + f) = ((2 ^ (e + f) : Nat) : Int) := by push_cast; rfl
  have hor2 : ∀ y : Nat, y < 2 ^ (e + f) → bits BinOp.or IntKind.u64 (y : Int) ((2 ^ (e + f) : Nat) : Int) = ((y + 2 ^ (e + f) : Nat) : Int) := fun y hy => or_add2 hy (by omega)
  generalize joinA e f ng o t = A at *
  generalize hlb : lenB o = L at *
  generalize leastF e f = lst at *
  generalize (2 : Int) ^ (e - 1) - 1 = b at *
  obtain ⟨top, htop⟩ : ∃ top : Int, t + (L : Int) - 1 = top := ⟨_, rfl⟩
  have hw1 : IntKind.i64.wrap (t + (L : Int)) = t + (L : Int) := IntWalk.i64_in _ (by omega)
  have hw2 : IntKind.i64.wrap (t + (L : Int) - 1) = top := by rw [htop]; exact IntWalk.i64_in _ (by omega)
  rw [htop] at HJF HYB
  have HTOP := Lib.hid htop
  have htb : -110000 ≤ top ∧ top ≤ 110000 := by omega
  clear htop
  go_enter Tryd.func49, Tryd.ntmps49
  unfold layV binV
  go_wp2_with fail
  generalize hW : ((w.alloc (.cells #[.int .i64 (e : Int), .int .i64 (f : Int)] 68)).alloc (.cells #[.bool ng, .int .u64 (o : Int), .int .i64 t] 73)) = W at *
  clear hW
  obtain ⟨j1, j2, j3, j4, j5, j6⟩ := HJ.out
  go_region_held3 (fun w' => w'.cell? ⟨w.heap.size + 1, 1, none⟩ = some (.int .u64 (o : Int)) ∧ w'.cell? ⟨w.heap.size + 1, 2, none⟩ = some (.int .i64 t)) (go_keep)
    (first
      | (go_at_call 76; refine (K6.out _).mono ?_; rintro r w1 ⟨rfl, rfl⟩))
  all_goals go_wp2_with fail
  have HJ1 := Lib.hid (HJ.out.step (below_drew (Below.refl _ _)))
  have HB1 := Lib.hid (below_on HB.out (below_drew (Below.refl _ _)))
  clear HJ HB j1 j2 j3 j4 j5 j6
  generalize W.drew = W1 at *
  obtain ⟨j1, j2, j3, j4, j5, j6⟩ := HJ1.out
  have hw3 : IntKind.i64.wrap (top - (f : Int)) = top - (f : Int) := IntWalk.i64_in _ (by omega)
  have hz1 : w.heap.size < W1.heap.size := by omega
  go_region_held3 (fun w' => w'.cell? ⟨w.heap.size, 0, none⟩ = some (.int .i64 (e : Int)) ∧ w'.cell? ⟨w.heap.size, 1, none⟩ = some (.int .i64 (f : Int))) (go_keep)
    (first
      | (go_at_call 68; refine (KL.out _).mono ?_; rintro r w2 ⟨rfl, hb2⟩; have hB2 := below_on (below_drew (Below.refl W1.heap.size W1)) hb2; have q0 := (hB2.cell (p := ⟨w.heap.size, 0, none⟩) hz1).trans j2; have q1 := (hB2.cell (p := ⟨w.heap.size, 1, none⟩) hz1).trans j3))
  all_goals go_wp2_with fail
  have HJ2 := Lib.hid (HJ1.out.step hB2)
  have HB2 := Lib.hid (below_on HB1.out hB2)
  clear HJ1 HB1 j1 j2 j3 j4 j5 j6 q0 q1 hb2 hB2
  obtain ⟨pl, hpl⟩ : ∃ pl : Int, max (top - (f : Int)) lst = pl := ⟨_, rfl⟩
  rw [hpl] at HJF HYB ⊢
  have hpb : -110000 ≤ pl ∧ pl ≤ 110000 ∧ lst ≤ pl := by omega
  clear hpl
  refine (KB.out _).mono ?_
  rintro r w3 ⟨rfl, hb3⟩
  have HJ3 := Lib.hid (HJ2.out.step hb3)
  have HB3 := Lib.hid (below_on HB2.out hb3)
  clear HJ2 HB2 hb3
  obtain ⟨j1, j2, j3, j4, j5, j6⟩ := HJ3.out
  by_cases hc1 : top > b
  · have hJ := HJF.out
    rw [if_pos (.inl hc1)] at hJ
    have hcc : b < top := hc1
    have HJX := Lib.hid hJ; clear hJ HJF HYB hc1
    go_wp2
    go_ret2
    exact ⟨by rw [HJX.out]; rfl, HB3.out⟩
  · have hcc : ¬ b < top := hc1
    by_cases hc2 : t < pl
    · have hJ := HJF.out
      rw [if_pos (.inr hc2)] at hJ
      have HJX := Lib.hid hJ; clear hJ HJF HYB hc1
      go_wp2
      go_ret2
      exact ⟨by rw [HJX.out]; rfl, HB3.out⟩
    · have hJ := HJF.out
      have hno : ¬ (top > b ∨ t < pl) := by omega
      rw [if_neg hno] at hJ
      have hy := HYB.out hno
      obtain ⟨d, hd⟩ : ∃ d : Nat, t - pl = (d : Int) := ⟨(t - pl).toNat, by omega⟩
      obtain ⟨q, hq⟩ : ∃ q : Nat, pl - lst = (q : Int) := ⟨(pl - lst).toNat, by omega⟩
      rw [hd, hq, Int.toNat_natCast, Int.toNat_natCast] at hJ hy
      have hsh1 : IntKind.u64.wrap ((o : Int) * 2 ^ min d 64) = ((o * 2 ^ d : Nat) : Int) := by
        have hlt : o * 2 ^ d < 18446744073709551616 := by omega
        have e1 : o * 2 ^ min d 64 = o * 2 ^ d := min_shift hlt
        have e : (o : Int) * 2 ^ min d 64 = ((o * 2 ^ d : Nat) : Int) := by rw [← e1]; push_cast; rfl
        rw [e]
        generalize o * 2 ^ d = Y at *
        exact IntWalk.u64_in _ (by omega)
      have hsh2 : IntKind.u64.wrap ((q : Int) * 2 ^ f) = ((q * 2 ^ f : Nat) : Int) := by
        have e : (q : Int) * 2 ^ f = ((q * 2 ^ f : Nat) : Int) := by push_cast; rfl
        rw [e]
        generalize q * 2 ^ f = Y at *
        exact IntWalk.u64_in _ (by omega)
      have hor := hor2 _ hy
      have HPW2 := Lib.hid hpw2
      have HSH1 := Lib.hid hsh1
      have HSH2 := Lib.hid hsh2
      have HJX := Lib.hid hJ
      clear hJ HJF HYB hc1 hno hor2 hsh1 hsh2 hpw hpw2
      generalize q * 2 ^ f = Y2 at *
      generalize o * 2 ^ d = Y1 at *
      generalize (2 : Nat) ^ (e + f) = Q at *
      have hwq : IntKind.i64.wrap (pl - lst) = (q : Int) := by rw [hq]; exact IntWalk.i64_in _ (by omega)
      have hwd : IntKind.i64.wrap (t - pl) = (d : Int) := by rw [hd]; exact IntWalk.i64_in _ (by omega)
      have hwe : IntKind.i64.wrap ((e : Int) + (f : Int)) = (e : Int) + (f : Int) := IntWalk.i64_in _ (by omega)
      have hsum : IntKind.u64.wrap ((Y1 : Int) + (Y2 : Int)) = ((Y1 + Y2 : Nat) : Int) := by rw [← Int.natCast_add]; exact IntWalk.u64_in _ (by omega)
      have HSUM := Lib.hid hsum
      have HOR := Lib.hid hor
      have HY := Lib.hid hy
      clear hsum hor hy
      go_wp2_with fail
      rw [HSH1.out]
      have hz3 : w.heap.size < w3.heap.size := by omega
      have hfl : (0 : Int) ≤ (f : Int) ∧ (f : Int) < 64 := by omega
      have hq0 : IntKind.u64.wrap (q : Int) = (q : Int) := IntWalk.u64_in _ (by omega)
      go_region_held3 (fun w' => w'.cell? ⟨w.heap.size, 0, none⟩ = some (.int .i64 (e : Int)) ∧ w'.cell? ⟨w.heap.size, 1, none⟩ = some (.int .i64 (f : Int))) (go_keep)
        (first
          | (go_at_call 68; refine (KL.out _).mono ?_; rintro r w4 ⟨rfl, hb4⟩; have hB4 := below_on (below_drew (Below.refl w3.heap.size w3)) hb4; have q0 := (hB4.cell (p := ⟨w.heap.size, 0, none⟩) hz3).trans j2; have q1 := (hB4.cell (p := ⟨w.heap.size, 1, none⟩) hz3).trans j3))
      all_goals
        have hjj := HJ3.out.step hB4
        obtain ⟨i1, i2, i3, i4, i5, i6⟩ := hjj
        have hqi : IntKind.i64.wrap (q : Int) = (q : Int) := IntWalk.i64_in _ (by omega)
        have HB4 := Lib.hid (below_on HB3.out hB4)
        rw [hqi, hq0, HSH2.out, HSUM.out]
        clear hb4 hB4 q0 q1 hqi hq0 hwq hwd hw1 hw2 hw3 j1 j2 j3 j4 j5 j6 hd hq
        have hY := HY.out
        generalize Y1 + Y2 = Y at *
        cases ng
        · go_wp2
          go_ret2
          exact ⟨by rw [HJX.out]; rfl, HB4.out⟩
        · have hsq : IntKind.u64.wrap (1 * 2 ^ (e + f)) = (Q : Int) := by rw [Int.one_mul, HPW2.out]; exact IntWalk.u64_in _ (by omega)
          have hsq2 : IntKind.u64.wrap (2 ^ (e + f)) = (Q : Int) := by rw [HPW2.out]; exact IntWalk.u64_in _ (by omega)
          have hef : (0 : Int) ≤ (e : Int) + (f : Int) ∧ (e : Int) + (f : Int) < 64 := by omega
          have hor := HOR.out
          go_wp2_with fail
          go_ret2
          exact ⟨by rw [HJX.out]; first | rfl | (simp; done), HB4.out⟩
end Go.Proofs.YtokppjfaihkkcaaDoor
