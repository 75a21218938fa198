/- The walk of the reference's Mul. -/
import Derived.Test.YtogapgjilbcbfaaGreatDoorRx
import Derived.Deep.QuietTactic
import Derived.BigQuiet
import Derived.IntWalk
namespace Go.Proofs.YtogapgjilbcbfaaGreatDoor
open Go.RowKit
set_option linter.unusedVariables false
set_option linter.unusedSimpArgs false

def MulIn (G B nx : Nat) (xs ys Z : List Nat) (i : Nat) (w : World) (g : Nat) (c k : Value) (wr : World) : Prop :=
  ∃ (j cy : Nat) (zs : List Nat), ys.length + 1 - j ≤ g ∧ j ≤ ys.length + 1 ∧ k = .int .i64 (j : Int) ∧ c = .int .u64 (cy : Int) ∧ RMIn xs ys Z zs i j cy ∧ Blk wr G zs [] ∧ Below B w wr
def MulOut (G B : Nat) (xs ys : List Nat) (w : World) (g : Nat) (i : Value) (wr : World) : Prop :=
  ∃ (j : Nat) (zs : List Nat), xs.length - j ≤ g ∧ j ≤ xs.length ∧ i = .int .i64 (j : Int) ∧ RMOut xs ys zs j ∧ Blk wr G zs [] ∧ Below B w wr
theorem u64_in {z : Int} (h0 : 0 ≤ z) (h1 : z < 18446744073709551616) : IntKind.u64.wrap z = z := by
  have e : IntKind.u64.wrap z = z % 18446744073709551616 := by simp [IntKind.wrap, IntKind.bits, IntKind.signed]
  rw [e]; omega
/-- A product of limbs, and two limbs more, in 64 bits. -/
theorem mul_wrap {x y c z : Nat} (hx : x < 4294967296) (hy : y < 4294967296) (hc : c < 4294967296) (hz : z < 4294967296) :
    ∃ p s T : Nat, p = x * y ∧ s = c + z ∧ T = c + z + x * y ∧ T < 18446744073709551616 ∧ IntKind.u64.wrap ((x : Int) * (y : Int)) = (p : Int) ∧ IntKind.u64.wrap ((c : Int) + (z : Int)) = (s : Int) ∧ IntKind.u64.wrap ((s : Int) + (p : Int)) = (T : Int) := by
  have h : x * y ≤ 4294967295 * 4294967295 := Nat.mul_le_mul (by omega) (by omega)
  refine ⟨x * y, c + z, c + z + x * y, rfl, rfl, rfl, by omega, ?_, ?_, ?_⟩
  · rw [← Int.natCast_mul]; exact u64_in (by omega) (by omega)
  · rw [← Int.natCast_add]; exact u64_in (by omega) (by omega)
  · rw [← Int.natCast_add]; exact u64_in (by omega) (by omega)
theorem mulIn_step {G B nx : Nat} {xs ys Z zs : List Nat} {i j cy T : Nat} {w wr : World} {g : Nat} (hin : RMIn xs ys Z zs i j cy) (hx : Okl xs) (hy : Okl ys) (hi : i < xs.length) (hj : j ≤ ys.length) (hg : ys.length + 1 - j ≤ g + 1) (hT : T = cy + zs.getD (i + j) 0 + xs.getD i 0 * ys.getD j 0)
    (hb : Blk wr G zs []) (hbl : Below B w wr) (hG : B ≤ G) :
    MulIn G B nx xs ys Z i w g (.int .u64 ((T : Int) / 4294967296)) (.int .i64 ((j : Int) + 1)) (wr.setCell ⟨G, i + j, none⟩ (.int .u32 ((T : Int) % 4294967296))) := by
  have hlen := hin.len
  have e1 : (T : Int) % 4294967296 = ((T % B32 : Nat) : Int) := by rw [B32_eq]; omega
  have e2 : (T : Int) / 4294967296 = ((T / B32 : Nat) : Int) := by rw [B32_eq]; omega
  rw [e1, e2, set_blk hb _ _ (by omega)]
  subst hT
  exact ⟨j + 1, _, _, by omega, by omega, rfl, rfl, hin.next hx hy hi hj, put_blk _ _ hb.lt, put_below hbl hG _ _⟩

set_option maxHeartbeats 4000000 in
set_option maxRecDepth 100000 in
theorem refMul_any (ad : Option Addr) (n cap : Nat) (xs : List Nat) (ad' : Option Addr) (n' cap' : Nat) (ys : List Nat) (w : World) (hn : xs.length = n) (hcap : n ≤ cap) (hm : n ≤ 1000000) (ho : Okl xs) (hr : Rd w ad xs)
    (hn' : ys.length = n') (hcap' : n' ≤ cap') (hm' : n' ≤ 1000000) (ho' : Okl ys) (hr' : Rd w ad' ys) :
    Calls Tryz.prog 32 #[.slice ad n cap, .slice ad' n' cap'] w (Gives (val xs * val ys) w) := by
  have KA := Lib.hid (fun (i : Nat) W (hi : i ≤ 1000000000) (h : Below w.heap.size w W) => limb_keep ad n cap xs i W hn hcap (by omega) hi ho (hr.below h))
  have KB := Lib.hid (fun (i : Nat) W (hi : i ≤ 1000000000) (h : Below w.heap.size w W) => limb_keep ad' n' cap' ys i W hn' hcap' (by omega) hi ho' (hr'.below h))
  have HO := Lib.hid ho; have HO' := Lib.hid ho'
  have HN := Lib.hid hn; have HN' := Lib.hid hn'
  have HS0 := Lib.hid (RMOut.start xs ys)
  clear hn hn' ho ho' hr hr'
  go_enter Tryz.func32, Tryz.ntmps32
  go_wp2_with (at_make; refine wpl_make _ rfl _ _ rfl _ _ _ _ (n + n' + 1) rfl rfl (by omega) (by omega) (by omega) ?_; intro w1 hB1 hb1)
  have HUN := Lib.hid (fun W (h : Below w.heap.size w W) => h.size)
  have HST := Lib.hid (show MulOut w.heap.size w.heap.size xs ys w n (.int .i64 0) w1 from ⟨0, _, by rw [HN.out]; omega, by omega, rfl, HS0.out, by rw [HN.out, HN'.out]; exact hB1, hb1⟩)
  generalize hB : w.heap.size = B at *
  have HB := Lib.hid hB; clear hB
  clear hB1 hb1
  go_wp2
  go_loopg [6] n (fun g i wr => MulOut B B xs ys w g i wr)
  case atStart => exact HST.out
  case round =>
    obtain ⟨i, Z, hk, hi, rfl, hout, hbk, hbl⟩ := hrel
    rw [HN.out] at hk hi
    have HOUT := Lib.hid hout; have HBK := Lib.hid hbk; have HBL := Lib.hid hbl
    clear hout hbk hbl
    by_cases hp : i < n
    · obtain ⟨g, rfl⟩ : ∃ g, gk = g + 1 := ⟨gk - 1, by omega⟩
      have hpz : (i : Int) < (n : Int) := by omega
      have HI0 := Lib.hid (show MulIn B B n xs ys Z i w (n' + 1) (.int .u64 0) (.int .i64 0) wr from ⟨0, 0, Z, by rw [HN'.out]; omega, by omega, rfl, rfl, RMIn.start HOUT.out, HBK.out, HBL.out⟩)
      go_wp2
      go_loopg [7, 8] (n' + 1) (fun g' c k wr' => MulIn B B n xs ys Z i w g' c k wr')
      case atStart => exact HI0.out
      case round =>
        obtain ⟨j, cy, zs, hk2, hj, rfl, rfl, hin, hbk, hbl⟩ := hrel
        rw [HN'.out] at hk2 hj
        have hcy : cy < 4294967296 := hin.cb
        have hzl := hin.len
        rw [HN.out, HN'.out] at hzl
        by_cases hq : j ≤ n'
        · obtain ⟨g', rfl⟩ : ∃ g', gk = g' + 1 := ⟨gk - 1, by omega⟩
          have hpz2 : (j : Int) ≤ (n' : Int) := by omega
          have hc := hbk.cell (i + j) (by rw [hzl]; omega)
          have hx : xs.getD i 0 < 4294967296 := HO.out.getD i
          have hy : ys.getD j 0 < 4294967296 := HO'.out.getD j
          have hz : zs.getD (i + j) 0 < 4294967296 := hin.ok.getD (i + j)
          obtain ⟨p, s, T, hp1, hs1, hT1, hT2, w1, w2, w3⟩ := mul_wrap hx hy hcy hz
          have HSTEP := Lib.hid (fun (q : Nat) => mulIn_step (g := g') (nx := n) hin HO.out HO'.out (by rw [HN.out]; exact hp) (by rw [HN'.out]; exact hq) (by rw [HN'.out]; exact hk2) hT1 (hbk.drewN q) (below_drewN' hbl q) (Nat.le_refl B))
          have K1 := Lib.hid (fun q => KA.out i (wr.drewN q) (by omega) (below_drewN' hbl q))
          have K2 := Lib.hid (fun q => KB.out j (wr.drewN q) (by omega) (below_drewN' hbl q))
          have Q1 : ∀ q, Calls Tryz.prog 61 #[.slice ad n cap, .int .i64 (i : Int)] (wr.drewN q) fun e w' => e = .returned (.int .u64 ((xs.getD i 0 : Nat) : Int)) ∧ ∃ m, w' = wr.drewN m := fun q => (KA.out i (wr.drewN q) (by omega) (below_drewN' hbl q)).mono fun _ _ ⟨h1, h2⟩ => ⟨h1, q, h2.symm⟩
          have Q2 : ∀ q, Calls Tryz.prog 61 #[.slice ad' n' cap', .int .i64 (j : Int)] (wr.drewN q) fun e w' => e = .returned (.int .u64 ((ys.getD j 0 : Nat) : Int)) ∧ ∃ m, w' = wr.drewN m := fun q => (KB.out j (wr.drewN q) (by omega) (below_drewN' hbl q)).mono fun _ _ ⟨h1, h2⟩ => ⟨h1, q, h2.symm⟩
          have hfz := hbk.free (i + j)
          clear hp1 hs1 hT1 hin hbk hbl
          generalize xs.getD i 0 = x at *
          generalize ys.getD j 0 = y at *
          generalize zs.getD (i + j) 0 = z at *
          have v1 : IntKind.i64.wrap ((i : Int) + (j : Int)) = (i : Int) + (j : Int) := IntWalk.i64_in _ (by omega)
          have v2 : 0 ≤ (i : Int) + (j : Int) := by omega
          have v3 : ((i : Int) + (j : Int)).toNat = i + j := by omega
          have v4 : (i : Int) + (j : Int) < (n : Int) + (n' : Int) + 1 := by omega
          have v5 : (i : Int) + (j : Int) < ((n + n' + 1 : Nat) : Int) := by omega
          have v6 : i + j < n + n' + 1 := by omega
          go_wp2_with fail
          go_quiet ((first | (with_reducible exact Q1 _) | (with_reducible exact Q2 _)))
          clear w1 w2 w3 Q1 Q2 hx hy hz hcy
          go_wp2
          go_roundg g'
          case rel => exact HSTEP.out _
          case measure => omega
        · have hpz2 : ¬ (j : Int) ≤ (n' : Int) := by omega
          have hj2 : j = ys.length + 1 := by rw [HN'.out]; omega
          have hdone := Lib.hid (show MulOut B B xs ys w g (.int .i64 ((i : Int) + 1)) wr from ⟨i + 1, zs, by rw [HN.out]; omega, by rw [HN.out]; omega, rfl, (hj2 ▸ hin).done HOUT.out HO.out HO'.out (by rw [HN.out]; exact hp), hbk, hbl⟩)
          clear hin hbk hbl hj2
          go_wp2
          go_roundg g
          case rel => exact hdone.out
          case measure => omega
    · have hpz : ¬ (i : Int) < (n : Int) := by omega
      have hi2 : i = xs.length := by rw [HN.out]; omega
      have hval := (hi2 ▸ HOUT.out : RMOut xs ys Z xs.length).done
      have hown := HBK.out.own (B := B) (Nat.le_refl _) HOUT.out.ok Z.length Z.length (Nat.le_refl _) (by simp) (by have := HOUT.out.len; rw [HN.out, HN'.out] at this; unfold maxLen; omega)
      rw [List.take_length] at hown
      have KN := Lib.hid (refNorm_own hown HBL.out (by exact HB.out.symm) (by have := HOUT.out.len; rw [HN.out, HN'.out] at this; omega))
      rw [hval, HOUT.out.len, HN.out, HN'.out] at KN
      clear hval hown hi2
      go_wp2_with fail
      refine KN.out.mono ?_
      rintro e w' hg
      obtain ⟨v, rfl, h1, h2⟩ := hg
      have H1 := Lib.hid h1; have H2 := Lib.hid h2
      clear h1 h2
      go_wp2
      go_ret
      exact ⟨v, rfl, H1.out, H2.out⟩
end Go.Proofs.YtogapgjilbcbfaaGreatDoor
