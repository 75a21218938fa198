/- The walk of layer 3's mul. -/
import Derived.Test.YtokppjfaihkkcaaDoorFh
namespace Go.Proofs.YtokppjfaihkkcaaDoor
open Go.RowKit Go.Sort
set_option linter.unusedVariables false
set_option linter.unusedSimpArgs false

/-- The world of mul: its four limbs, its two pairs of halves. -/
structure MB (w wr : World) (H x0 x1 y0 y1 : Nat) (zs : List Nat) : Prop where
  gh : w.heap.size < H
  blk : Blk wr w.heap.size zs []
  a0 : wr.cell? ⟨H, 0, none⟩ = some (.int .u64 (x0 : Int))
  a1 : wr.cell? ⟨H, 1, none⟩ = some (.int .u64 (x1 : Int))
  b0 : wr.cell? ⟨H + 1, 0, none⟩ = some (.int .u64 (y0 : Int))
  b1 : wr.cell? ⟨H + 1, 1, none⟩ = some (.int .u64 (y1 : Int))
  below : Below w.heap.size w wr
theorem MB.drew {w wr : World} {H x0 x1 y0 y1 : Nat} {zs : List Nat} (h : MB w wr H x0 x1 y0 y1 zs) : MB w wr.drew H x0 x1 y0 y1 zs :=
  ⟨h.gh, h.blk, h.a0, h.a1, h.b0, h.b1, below_drew h.below⟩
theorem MB.set {w wr : World} {H x0 x1 y0 y1 : Nat} {zs : List Nat} (h : MB w wr H x0 x1 y0 y1 zs) (i v : Nat) (hi : i < zs.length) : MB w (wr.setCell ⟨w.heap.size, i, none⟩ (.int .u32 (v : Int))) H x0 x1 y0 y1 (zs.set i v) := by
  rw [set_blk h.blk i v hi]
  have hgh := h.gh
  exact ⟨h.gh, put_blk _ _ h.blk.lt, (put_cell _ _ _ _ _ (by simp; omega)).trans h.a0, (put_cell _ _ _ _ _ (by simp; omega)).trans h.a1, (put_cell _ _ _ _ _ (by simp; omega)).trans h.b0, (put_cell _ _ _ _ _ (by simp; omega)).trans h.b1, put_below h.below (Nat.le_refl _) _ _⟩
def MOut (w : World) (H x0 x1 y0 y1 : Nat) (k : Nat) (i : Value) (wr : World) : Prop :=
  ∃ (j : Nat) (zs : List Nat), j + k = 2 ∧ i = .int .i64 (j : Int) ∧ RNOut [x0, x1] [y0, y1] zs j ∧ MB w wr H x0 x1 y0 y1 zs
def MIn (w : World) (H x0 x1 y0 y1 j : Nat) (Z : List Nat) (c k : Value) (wr : World) : Prop :=
  ∃ (q cy : Nat) (zs : List Nat), q ≤ 2 ∧ k = .int .i64 (q : Int) ∧ c = .int .u64 (cy : Int) ∧ RNIn [x0, x1] [y0, y1] Z zs j q cy ∧ MB w wr H x0 x1 y0 y1 zs

set_option maxHeartbeats 8000000 in
theorem mul64_any (a b : Nat) (ha : a < 18446744073709551616) (hb : b < 18446744073709551616) (w : World) :
    Calls Tryd.prog 28 #[.int .u64 (a : Int), .int .u64 (b : Int)] w fun r w' => ∃ v xs, r = .returned v ∧ xs.length = 4 ∧ val xs = a * b ∧ Own w.heap.size w' v xs ∧ Below w.heap.size w w' := by
  have hx := words_ok ha
  have hy := words_ok hb
  have ea : bits BinOp.and IntKind.u64 (a : Int) 4294967295 = ((a % 4294967296 : Nat) : Int) := mask_and a 32 ha (by omega)
  have eb : bits BinOp.and IntKind.u64 (b : Int) 4294967295 = ((b % 4294967296 : Nat) : Int) := mask_and b 32 hb (by omega)
  have da : (a : Int) / 4294967296 = ((a / 4294967296 : Nat) : Int) := rfl
  have db : (b : Int) / 4294967296 = ((b / 4294967296 : Nat) : Int) := rfl
  have hOX := Lib.hid hx.1; have hOY := Lib.hid hy.1
  have hVX := Lib.hid hx.2; have hVY := Lib.hid hy.2
  have l1 : a % 4294967296 < 4294967296 := by omega
  have l2 : a / 4294967296 < 4294967296 := by omega
  have l3 : b % 4294967296 < 4294967296 := by omega
  have l4 : b / 4294967296 < 4294967296 := by omega
  clear hx hy ha hb
  generalize a % 4294967296 = x0 at *
  generalize a / 4294967296 = x1 at *
  generalize b % 4294967296 = y0 at *
  generalize b / 4294967296 = y1 at *
  go_enter Tryd.func28, Tryd.ntmps28
  go_wp2_with (at_make; refine wpl_make _ rfl _ _ rfl _ _ _ _ 4 rfl rfl (by omega) (by omega) (by omega) ?_; intro w1 hB1 hb1)
  have hgh : w.heap.size < w1.heap.size := hB1.lt
  have hM0 : MB w ((w1.alloc (.cells #[.int .u64 (x0 : Int), .int .u64 (x1 : Int)] 97)).alloc (.cells #[.int .u64 (y0 : Int), .int .u64 (y1 : Int)] 97)) w1.heap.size x0 x1 y0 y1 (List.replicate 4 0) :=
    ⟨hgh, (hB1.below (below_box w1 _ _) hB1.lt).below (below_box _ _ _) (by simp; omega), by rw [cell_old _ _ _ _ (by simp), cell_new]; rfl, by rw [cell_old _ _ _ _ (by simp), cell_new]; rfl, by rw [cell_at _ _ _ _ _ (by simp)]; rfl, by rw [cell_at _ _ _ _ _ (by simp)]; rfl, below_on (below_on hb1 (below_box w1 _ _)) (below_box _ _ _)⟩
  have hHM0 := Lib.hid hM0
  have hO0 := Lib.hid (RNOut.start [x0, x1] [y0, y1])
  clear hM0 hgh hB1 hb1 ea eb da db
  generalize w1.heap.size = H at *
  go_loopg [8] 2 (fun k i wr => MOut w H x0 x1 y0 y1 k i wr)
  case atStart => exact ⟨0, _, rfl, rfl, hO0.out, hHM0.out⟩
  case round =>
      obtain ⟨j, zs, hj, rfl, hO, hM⟩ := hrel
      have hjj : j = 0 ∨ j = 1 ∨ j = 2 := by omega
      rcases hjj with rfl | rfl | rfl
      ·
        have hIn0 := RNIn.start hO
        clear hHM0
        rw [show ((0 : Nat) : Int) = 0 from rfl]
        go_wp2
        go_loopw [9, 10] (fun c k wr => MIn w H x0 x1 y0 y1 0 zs c k wr) (fun _ k _ => 2 - (intOf k).toNat)
        case atStart => exact ⟨0, 0, zs, by omega, rfl, rfl, hIn0, hM⟩
        case round =>
          obtain ⟨q, cy, ys, hq, rfl, rfl, hI, hMB⟩ := hrel
          have hqq : q = 0 ∨ q = 1 ∨ q = 2 := by omega
          clear hIn0 hM
          rcases hqq with rfl | rfl | rfl
          · have hnx := hI.next hOX.out hOY.out (by simp) (by simp)
            have hcb := hI.cb
            have hzb := hI.ok.getD (0 + 0)
            have hlen := hI.len
            have hcz := hMB.blk.cell (0 + 0) (by rw [hlen]; simp)
            have hfz := hMB.blk.free (0 + 0)
            rw [show ([x0, x1] : List Nat).getD 0 0 = x0 from rfl, show ([y0, y1] : List Nat).getD 0 0 = y0 from rfl] at hnx
            generalize hz : ys.getD (0 + 0) 0 = z at *
            have hpr := mul_bd (x := x0) (f := y0) (by rw [B32_eq]; omega) (by rw [B32_eq]; omega)
            obtain ⟨pr, hpe⟩ : ∃ pr : Nat, x0 * y0 = pr := ⟨_, rfl⟩
            have hpi : (x0 : Int) * (y0 : Int) = (pr : Int) := by rw [← hpe]; push_cast; rfl
            rw [hpe] at hnx
            rw [hpi] at hpr
            rw [B32_eq] at hcb hzb hnx
            have hset := hMB.drew.set (0 + 0) ((cy + z + pr) % 4294967296) (by rw [hlen]; simp)
            have HN := Lib.hid hnx
            have HS := Lib.hid hset
            have c1 := hMB.a0
            have c2 := hMB.b0
            clear hnx hset hI hz hpe hlen hMB
            have w1' : IntKind.u64.wrap ((cy : Int) + (z : Int)) = (cy : Int) + (z : Int) := IntWalk.u64_in _ (by omega)
            have w2' : IntKind.u64.wrap (pr : Int) = (pr : Int) := IntWalk.u64_in _ (by omega)
            have w3' : IntKind.u64.wrap ((cy : Int) + (z : Int) + (pr : Int)) = (cy : Int) + (z : Int) + (pr : Int) := IntWalk.u64_in _ (by omega)
            have v0 : IntKind.i64.wrap 0 = 0 := by decide
            have v1 : IntKind.i64.wrap 1 = 1 := by decide
            have v2 : IntKind.i64.wrap 2 = 2 := by decide
            go_wp2_with fail
            go_region_held3 (fun w' => w'.cell? ⟨H, 0, none⟩ = some (.int .u64 (x0 : Int)) ∧ w'.cell? ⟨H + 1, 0, none⟩ = some (.int .u64 (y0 : Int)) ∧ w'.cell? ⟨w.heap.size, 0 + 0, none⟩ = some (.int .u32 (z : Int))) (go_keep) (fail)
            all_goals
              go_wp2_with fail
              go_roundw
              case rel =>
                have hs := HS.out
                rw [Int.natCast_emod, Int.natCast_add, Int.natCast_add] at hs
                exact ⟨1, _, _, by omega, rfl, by rw [Int.natCast_ediv, Int.natCast_add, Int.natCast_add]; rfl, HN.out, hs⟩
              case measure => simp [intOf]
          · have hnx := hI.next hOX.out hOY.out (by simp) (by simp)
            have hcb := hI.cb
            have hzb := hI.ok.getD (0 + 1)
            have hlen := hI.len
            have hcz := hMB.blk.cell (0 + 1) (by rw [hlen]; simp)
            have hfz := hMB.blk.free (0 + 1)
            rw [show ([x0, x1] : List Nat).getD 0 0 = x0 from rfl, show ([y0, y1] : List Nat).getD 1 0 = y1 from rfl] at hnx
            generalize hz : ys.getD (0 + 1) 0 = z at *
            have hpr := mul_bd (x := x0) (f := y1) (by rw [B32_eq]; omega) (by rw [B32_eq]; omega)
            obtain ⟨pr, hpe⟩ : ∃ pr : Nat, x0 * y1 = pr := ⟨_, rfl⟩
            have hpi : (x0 : Int) * (y1 : Int) = (pr : Int) := by rw [← hpe]; push_cast; rfl
            rw [hpe] at hnx
            rw [hpi] at hpr
            rw [B32_eq] at hcb hzb hnx
            have hset := hMB.drew.set (0 + 1) ((cy + z + pr) % 4294967296) (by rw [hlen]; simp)
            have HN := Lib.hid hnx
            have HS := Lib.hid hset
            have c1 := hMB.a0
            have c2 := hMB.b1
            clear hnx hset hI hz hpe hlen hMB
            have w1' : IntKind.u64.wrap ((cy : Int) + (z : Int)) = (cy : Int) + (z : Int) := IntWalk.u64_in _ (by omega)
            have w2' : IntKind.u64.wrap (pr : Int) = (pr : Int) := IntWalk.u64_in _ (by omega)
            have w3' : IntKind.u64.wrap ((cy : Int) + (z : Int) + (pr : Int)) = (cy : Int) + (z : Int) + (pr : Int) := IntWalk.u64_in _ (by omega)
            have v0 : IntKind.i64.wrap 0 = 0 := by decide
            have v1 : IntKind.i64.wrap 1 = 1 := by decide
            have v2 : IntKind.i64.wrap 2 = 2 := by decide
            go_wp2_with fail
            go_region_held3 (fun w' => w'.cell? ⟨H, 0, none⟩ = some (.int .u64 (x0 : Int)) ∧ w'.cell? ⟨H + 1, 1, none⟩ = some (.int .u64 (y1 : Int)) ∧ w'.cell? ⟨w.heap.size, 0 + 1, none⟩ = some (.int .u32 (z : Int))) (go_keep) (fail)
            all_goals
              go_wp2_with fail
              go_roundw
              case rel =>
                have hs := HS.out
                rw [Int.natCast_emod, Int.natCast_add, Int.natCast_add] at hs
                exact ⟨2, _, _, by omega, rfl, by rw [Int.natCast_ediv, Int.natCast_add, Int.natCast_add]; rfl, HN.out, hs⟩
              case measure => simp [intOf]
          · have hnx := hI.next hOX.out hOY.out (by simp) (by simp)
            have hz0 : ys.getD (0 + 2) 0 = 0 := by rw [hI.same (0 + 2) (by omega)]; exact hO.zero (0 + 2) (by simp)
            have hcb := hI.cb
            have hlen := hI.len
            have hcz := hMB.blk.cell (0 + 2) (by rw [hlen]; simp)
            have hfz := hMB.blk.free (0 + 2)
            rw [hz0] at hnx hcz
            rw [show ([y0, y1] : List Nat).getD 2 0 = 0 from rfl] at hnx
            simp only [Nat.mul_zero, Nat.add_zero] at hnx
            rw [Nat.mod_eq_of_lt hcb] at hnx
            have hdone := hnx.done hO hOX.out hOY.out (by simp)
            have hset := hMB.set (0 + 2) cy (by rw [hlen]; simp)
            rw [B32_eq] at hcb
            have HDN := Lib.hid hdone
            have HS := Lib.hid hset
            have hcm : (cy : Int) % 4294967296 = (cy : Int) := by omega
            clear hnx hdone hset hI hz0 hlen hMB
            go_wp2
            go_roundg 1
            case measure => omega
            case rel => exact ⟨1, _, rfl, rfl, HDN.out, HS.out⟩
      ·
        have hIn0 := RNIn.start hO
        clear hHM0
        rw [show ((1 : Nat) : Int) = 1 from rfl]
        go_wp2
        go_loopw [9, 10] (fun c k wr => MIn w H x0 x1 y0 y1 1 zs c k wr) (fun _ k _ => 2 - (intOf k).toNat)
        case atStart => exact ⟨0, 0, zs, by omega, rfl, rfl, hIn0, hM⟩
        case round =>
          obtain ⟨q, cy, ys, hq, rfl, rfl, hI, hMB⟩ := hrel
          have hqq : q = 0 ∨ q = 1 ∨ q = 2 := by omega
          clear hIn0 hM
          rcases hqq with rfl | rfl | rfl
          · have hnx := hI.next hOX.out hOY.out (by simp) (by simp)
            have hcb := hI.cb
            have hzb := hI.ok.getD (1 + 0)
            have hlen := hI.len
            have hcz := hMB.blk.cell (1 + 0) (by rw [hlen]; simp)
            have hfz := hMB.blk.free (1 + 0)
            rw [show ([x0, x1] : List Nat).getD 1 0 = x1 from rfl, show ([y0, y1] : List Nat).getD 0 0 = y0 from rfl] at hnx
            generalize hz : ys.getD (1 + 0) 0 = z at *
            have hpr := mul_bd (x := x1) (f := y0) (by rw [B32_eq]; omega) (by rw [B32_eq]; omega)
            obtain ⟨pr, hpe⟩ : ∃ pr : Nat, x1 * y0 = pr := ⟨_, rfl⟩
            have hpi : (x1 : Int) * (y0 : Int) = (pr : Int) := by rw [← hpe]; push_cast; rfl
            rw [hpe] at hnx
            rw [hpi] at hpr
            rw [B32_eq] at hcb hzb hnx
            have hset := hMB.drew.set (1 + 0) ((cy + z + pr) % 4294967296) (by rw [hlen]; simp)
            have HN := Lib.hid hnx
            have HS := Lib.hid hset
            have c1 := hMB.a1
            have c2 := hMB.b0
            clear hnx hset hI hz hpe hlen hMB
            have w1' : IntKind.u64.wrap ((cy : Int) + (z : Int)) = (cy : Int) + (z : Int) := IntWalk.u64_in _ (by omega)
            have w2' : IntKind.u64.wrap (pr : Int) = (pr : Int) := IntWalk.u64_in _ (by omega)
            have w3' : IntKind.u64.wrap ((cy : Int) + (z : Int) + (pr : Int)) = (cy : Int) + (z : Int) + (pr : Int) := IntWalk.u64_in _ (by omega)
            have v0 : IntKind.i64.wrap 0 = 0 := by decide
            have v1 : IntKind.i64.wrap 1 = 1 := by decide
            have v2 : IntKind.i64.wrap 2 = 2 := by decide
            go_wp2_with fail
            go_region_held3 (fun w' => w'.cell? ⟨H, 1, none⟩ = some (.int .u64 (x1 : Int)) ∧ w'.cell? ⟨H + 1, 0, none⟩ = some (.int .u64 (y0 : Int)) ∧ w'.cell? ⟨w.heap.size, 1 + 0, none⟩ = some (.int .u32 (z : Int))) (go_keep) (fail)
            all_goals
              go_wp2_with fail
              go_roundw
              case rel =>
                have hs := HS.out
                rw [Int.natCast_emod, Int.natCast_add, Int.natCast_add] at hs
                exact ⟨1, _, _, by omega, rfl, by rw [Int.natCast_ediv, Int.natCast_add, Int.natCast_add]; rfl, HN.out, hs⟩
              case measure => simp [intOf]
          · have hnx := hI.next hOX.out hOY.out (by simp) (by simp)
            have hcb := hI.cb
            have hzb := hI.ok.getD (1 + 1)
            have hlen := hI.len
            have hcz := hMB.blk.cell (1 + 1) (by rw [hlen]; simp)
            have hfz := hMB.blk.free (1 + 1)
            rw [show ([x0, x1] : List Nat).getD 1 0 = x1 from rfl, show ([y0, y1] : List Nat).getD 1 0 = y1 from rfl] at hnx
            generalize hz : ys.getD (1 + 1) 0 = z at *
            have hpr := mul_bd (x := x1) (f := y1) (by rw [B32_eq]; omega) (by rw [B32_eq]; omega)
            obtain ⟨pr, hpe⟩ : ∃ pr : Nat, x1 * y1 = pr := ⟨_, rfl⟩
            have hpi : (x1 : Int) * (y1 : Int) = (pr : Int) := by rw [← hpe]; push_cast; rfl
            rw [hpe] at hnx
            rw [hpi] at hpr
            rw [B32_eq] at hcb hzb hnx
            have hset := hMB.drew.set (1 + 1) ((cy + z + pr) % 4294967296) (by rw [hlen]; simp)
            have HN := Lib.hid hnx
            have HS := Lib.hid hset
            have c1 := hMB.a1
            have c2 := hMB.b1
            clear hnx hset hI hz hpe hlen hMB
            have w1' : IntKind.u64.wrap ((cy : Int) + (z : Int)) = (cy : Int) + (z : Int) := IntWalk.u64_in _ (by omega)
            have w2' : IntKind.u64.wrap (pr : Int) = (pr : Int) := IntWalk.u64_in _ (by omega)
            have w3' : IntKind.u64.wrap ((cy : Int) + (z : Int) + (pr : Int)) = (cy : Int) + (z : Int) + (pr : Int) := IntWalk.u64_in _ (by omega)
            have v0 : IntKind.i64.wrap 0 = 0 := by decide
            have v1 : IntKind.i64.wrap 1 = 1 := by decide
            have v2 : IntKind.i64.wrap 2 = 2 := by decide
            go_wp2_with fail
            go_region_held3 (fun w' => w'.cell? ⟨H, 1, none⟩ = some (.int .u64 (x1 : Int)) ∧ w'.cell? ⟨H + 1, 1, none⟩ = some (.int .u64 (y1 : Int)) ∧ w'.cell? ⟨w.heap.size, 1 + 1, none⟩ = some (.int .u32 (z : Int))) (go_keep) (fail)
            all_goals
              go_wp2_with fail
              go_roundw
              case rel =>
                have hs := HS.out
                rw [Int.natCast_emod, Int.natCast_add, Int.natCast_add] at hs
                exact ⟨2, _, _, by omega, rfl, by rw [Int.natCast_ediv, Int.natCast_add, Int.natCast_add]; rfl, HN.out, hs⟩
              case measure => simp [intOf]
          · have hnx := hI.next hOX.out hOY.out (by simp) (by simp)
            have hz0 : ys.getD (1 + 2) 0 = 0 := by rw [hI.same (1 + 2) (by omega)]; exact hO.zero (1 + 2) (by simp)
            have hcb := hI.cb
            have hlen := hI.len
            have hcz := hMB.blk.cell (1 + 2) (by rw [hlen]; simp)
            have hfz := hMB.blk.free (1 + 2)
            rw [hz0] at hnx hcz
            rw [show ([y0, y1] : List Nat).getD 2 0 = 0 from rfl] at hnx
            simp only [Nat.mul_zero, Nat.add_zero] at hnx
            rw [Nat.mod_eq_of_lt hcb] at hnx
            have hdone := hnx.done hO hOX.out hOY.out (by simp)
            have hset := hMB.set (1 + 2) cy (by rw [hlen]; simp)
            rw [B32_eq] at hcb
            have HDN := Lib.hid hdone
            have HS := Lib.hid hset
            have hcm : (cy : Int) % 4294967296 = (cy : Int) := by omega
            clear hnx hdone hset hI hz0 hlen hMB
            go_wp2
            go_roundg 0
            case measure => omega
            case rel => exact ⟨2, _, rfl, rfl, HDN.out, HS.out⟩
      · have hv := RNOut.done hO
        rw [hVX.out, hVY.out] at hv
        have hlen := hO.len
        have hown := hM.blk.own (Nat.le_refl w.heap.size) hO.ok 4 4 (by rw [hlen]; exact Nat.le_refl 4) (by rw [hlen]; rfl) (by unfold maxLen; omega)
        rw [List.take_of_length_le (by rw [hlen]; exact Nat.le_refl 4)] at hown
        have HV := Lib.hid hv
        have HO := Lib.hid hown
        have HL := Lib.hid hlen
        have HB := Lib.hid hM.below
        clear hv hown hlen hO hM hHM0
        go_wp2
        go_ret
        exact ⟨_, zs, rfl, HL.out, HV.out, HO.out, HB.out⟩
end Go.Proofs.YtokppjfaihkkcaaDoor
