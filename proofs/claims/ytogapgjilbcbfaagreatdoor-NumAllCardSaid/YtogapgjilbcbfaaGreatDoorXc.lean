/- For the law NumAll: Int of any number, the program's and the reference's. -/
import Derived.Deep.RegionHeldLaw
import Derived.Test.YtogapgjilbcbfaaGreatDoorXb
import Derived.Test.YtogapgjilbcbfaaGreatDoorRp
import Derived.Test.YtogapgjilbcbfaaGreatDoorRb
import Derived.Deep.DeepCutAuto
namespace Go.Proofs.YtogapgjilbcbfaaGreatDoor
open Go.RowKit Go.Sort
set_option linter.unusedVariables false
set_option linter.unusedSimpArgs false

theorem step_callX {w : World} {ops : Array Oper} {o : Oper} {a : Act} {K : Act → World → Prop} {Q : Exit → Act → World → Prop} {E : Prop} (hgd : o.guard = none) (n : Nat) (fn : Func) (hf : Tryz.prog.funcs[n]? = some fn) (hn : (fn.name == "runtime.NumGoroutine") = false) (hb : fn.body.isNone = false)
    (args : Array Operand) (ts : Array TypeId) (ho : o.op = .call { callee := .value (.func n), args := args, argTypes := ts }) (vs : Array Value) (hv : args.map a.eval = vs) {Post : Ending → World → Prop} (C : Calls Tryz.prog n vs w Post)
    (h : ∀ r w', Post r w' → ∃ v, r = .returned v ∧ K (a.put o.dst v) w') :
    if Region.wanted o (yielded ops a.tmps) = true then Oper.wp Tryz.prog o a w K Q else E := by
  have hw : Region.wanted o (yielded ops a.tmps) = true := by simp [Region.wanted, hgd]
  rw [if_pos hw]
  have hx : (execOp a.eval o).run Tryz.prog w = .ok (.enter n vs) w := by
    have e0 : a.eval (.func n) = .func (.func n) #[] #[] := rfl
    simp [execOp, ho, resolve, Deferred.ofValue, invoke, callFunc, hf, hv, e0, go_sem]
    rw [if_neg (by simpa using hn), if_neg (by intro h0; rw [h0] at hb; cases hb)]
  unfold Oper.wp
  rw [hx, Oper.upon_enter]
  exact C.mono (fun r w' hp => by obtain ⟨v, rfl, hk⟩ := h r w' hp; exact hk)

/-- What Int answers of a number that may be. -/
def IntP (ng : Bool) (N : Nat) (e : Int) (w : World) (r : Ending) (w' : World) : Prop :=
  Below w.heap.size w w' ∧ if 0 ≤ e ∧ bitsN (N * tenN e.toNat) ≤ 400 then ∃ v, r = .returned (.tuple #[.bool ng, v, .bool true]) ∧ Own w.heap.size w' v (limbs (N * tenN e.toNat)) else r = .returned (.tuple #[.bool false, .slice none 0 0, .bool false])
theorem ten_len (t : Nat) (ht : t ≤ 1200) : (limbs (tenN t)).length ≤ 1201 := by
  have := limbs_length_le (pow_bound (show (10 : Nat) < B32 by rw [B32_eq]; decide) t)
  have e : tenN t = 10 ^ t := rfl
  rw [e]; omega
theorem prod_len {N t : Nat} (hN : (limbs N).length ≤ 90) (ht : t ≤ 1200) : (limbs (N * tenN t)).length ≤ 1291 := by
  have h1 := val_lt (limbs_ok N)
  have h2 := val_lt (limbs_ok (tenN t))
  rw [val_limbs] at h1 h2
  have h3 := ten_len t ht
  have h4 : N * tenN t < B32 ^ ((limbs N).length + (limbs (tenN t)).length) := by
    rw [Nat.pow_add]
    exact Nat.mul_lt_mul_of_lt_of_le h1 (Nat.le_of_lt h2) (Nat.pow_pos (by rw [B32_eq]; decide))
  have := limbs_length_le h4
  omega

set_option maxHeartbeats 8000000 in
set_option maxRecDepth 100000 in
theorem int_core (pa : Bool) (ta : Value) (xa : Int) (ng : Bool) (ad : Option Addr) (n cap : Nat) (xs : List Nat) (e : Int) (w : World) (ha : NumOk w ng ad n cap xs e)
    (KA : ∀ W, Below w.heap.size w W → Calls Tryz.prog 27 #[.agg #[.bool pa, ta, .int .i64 xa]] W (NumBelow ng (.slice ad n cap) e W)) (hta : ∃ a b c, ta = .slice a b c) :
    Calls Tryz.prog 10 #[.agg #[.bool pa, ta, .int .i64 xa]] w (IntP ng (val xs) e w) := by
  obtain ⟨a0, b0, c0, rfl⟩ := hta
  have hbl := below_box w #[.bool pa, .slice a0 b0 c0, .int .i64 xa] 24
  have HB := Lib.hid hbl
  have KAH := Lib.hid (KA _ hbl)
  have hlo := ha.lo
  have h90 := ha.n90
  have hxs : limbs (val xs) = xs := chkB_limbs ha.ok ha.chk
  have hxl : (limbs (val xs)).length ≤ 90 := by rw [hxs, ha.len]; exact h90
  have HA := Lib.hid ha
  clear hbl KA ha
  go_enter Tryz.func10, Tryz.ntmps10
  go_wp2_with fail
  refine KAH.out.mono ?_
  rintro r w1 ⟨rfl, hb1⟩
  obtain ⟨hc1, hf1⟩ := bcell hb1
  have hz1 : w.heap.size < w1.heap.size := by have h := hb1.size; simp at h; omega
  have HB1 := Lib.hid (below_on HB.out hb1); clear hb1
  have e0 : w1.cell? ⟨w.heap.size, 0, none⟩ = some (.bool pa) := by rw [hc1 _ _ (by simp)]; simp
  have e1 : w1.cell? ⟨w.heap.size, 1, none⟩ = some (.slice a0 b0 c0) := by rw [hc1 _ _ (by simp)]; simp
  have e2 : w1.cell? ⟨w.heap.size, 2, none⟩ = some (.int .i64 xa) := by rw [hc1 _ _ (by simp)]; simp
  have g0 : w1.frozen? ⟨w.heap.size, 0, none⟩ = false := by rw [hf1 _ _ (by simp)]; simp
  have g1 : w1.frozen? ⟨w.heap.size, 1, none⟩ = false := by rw [hf1 _ _ (by simp)]; simp
  have g2 : w1.frozen? ⟨w.heap.size, 2, none⟩ = false := by rw [hf1 _ _ (by simp)]; simp
  clear hc1 hf1
  go_upto_region 2 with fail
  have hbz : Below w.heap.size w (((w1.setCell ⟨w.heap.size, 0, none⟩ (.bool ng)).setCell ⟨w.heap.size, 1, none⟩ (.slice ad n cap)).setCell ⟨w.heap.size, 2, none⟩ (.int .i64 e)) := ((HB1.out.setCell (by simp) _).setCell (by simp) _).setCell (by simp) _
  have z0 : (((w1.setCell ⟨w.heap.size, 0, none⟩ (.bool ng)).setCell ⟨w.heap.size, 1, none⟩ (.slice ad n cap)).setCell ⟨w.heap.size, 2, none⟩ (.int .i64 e)).cell? ⟨w.heap.size, 0, none⟩ = some (.bool ng) := by simp [go_sem, e0, e1, e2]
  have z1 : (((w1.setCell ⟨w.heap.size, 0, none⟩ (.bool ng)).setCell ⟨w.heap.size, 1, none⟩ (.slice ad n cap)).setCell ⟨w.heap.size, 2, none⟩ (.int .i64 e)).cell? ⟨w.heap.size, 1, none⟩ = some (.slice ad n cap) := by simp [go_sem, e0, e1, e2]
  have z2 : (((w1.setCell ⟨w.heap.size, 0, none⟩ (.bool ng)).setCell ⟨w.heap.size, 1, none⟩ (.slice ad n cap)).setCell ⟨w.heap.size, 2, none⟩ (.int .i64 e)).cell? ⟨w.heap.size, 2, none⟩ = some (.int .i64 e) := by simp [go_sem, e0, e1, e2]
  have zs : w.heap.size < (((w1.setCell ⟨w.heap.size, 0, none⟩ (.bool ng)).setCell ⟨w.heap.size, 1, none⟩ (.slice ad n cap)).setCell ⟨w.heap.size, 2, none⟩ (.int .i64 e)).heap.size := by simpa [World.setCell] using hz1
  have HBZ := Lib.hid hbz
  clear hbz e0 e1 e2 g0 g1 g2 HB1 hz1
  generalize ((w1.setCell ⟨w.heap.size, 0, none⟩ (.bool ng)).setCell ⟨w.heap.size, 1, none⟩ (.slice ad n cap)).setCell ⟨w.heap.size, 2, none⟩ (.int .i64 e) = W0 at *
  by_cases he : e < 0
  · have HE := Lib.hid (show ¬ (0 ≤ e ∧ bitsN (val xs * tenN e.toNat) ≤ 400) from fun h => by omega)
    go_wp2_with fail
    go_ret3
    exact ⟨HBZ.out, by rw [if_neg HE.out]; rfl⟩
  · obtain ⟨t, rfl⟩ : ∃ t : Nat, e = (t : Int) := ⟨e.toNat, by omega⟩
    have ht : t ≤ 1200 := by omega
    have KP := Lib.hid (fun (W : World) => (show Calls Tryz.prog 29 #[.int .u32 10, .int .i64 (t : Int)] W (Gives (tenN t) W) from by
      have K := pow_any 10 (t : Int) W (by decide)
      rw [cutP_nat (n := t) (by omega)] at K; exact K))
    have KM := Lib.hid (fun (W : World) (v2 : Value) (B : Nat) (hB : Below w.heap.size w W) (h : Own B W v2 (limbs (tenN t))) => (show Calls Tryz.prog 28 #[.slice ad n cap, v2] W (Gives (val xs * tenN t) W) from by
      obtain ⟨ad3, cap3, rfl, q1, q2, _⟩ := h.view
      have hl := ten_len t ht
      have K := mul_any ad n cap xs ad3 (limbs (tenN t)).length cap3 (limbs (tenN t)) W HA.out.len HA.out.cap (by omega) HA.out.ok (HA.out.rd.below hB) rfl q1 (by omega) (limbs_ok _) q2
      rw [val_limbs] at K
      exact K))
    have KB := Lib.hid (fun (W : World) (v : Value) (B : Nat) (h : Own B W v (limbs (val xs * tenN t))) => (show Calls Tryz.prog 30 #[v] W (fun r w' => r = .returned (.int .i64 (bitsN (val xs * tenN t) : Int)) ∧ W = w') from by
      obtain ⟨ad3, cap3, rfl, q1, q2, _⟩ := h.view
      have hl := prod_len hxl ht
      have K := bits_any ad3 _ cap3 _ W rfl q1 (by omega) (limbs_ok _) q2
      rwa [val_limbs] at K))
    have HIF : Hid (IntP ng (val xs) (t : Int) w = fun r w' => Below w.heap.size w w' ∧ if (0 : Int) ≤ (t : Int) ∧ bitsN (val xs * tenN t) ≤ 400 then ∃ v, r = .returned (.tuple #[.bool ng, v, .bool true]) ∧ Own w.heap.size w' v (limbs (val xs * tenN t)) else r = .returned (.tuple #[.bool false, .slice none 0 0, .bool false])) := rfl
    have het : ¬ ((t : Int) < 0) := he
    clear he hxl hxs
    generalize val xs * tenN t = PK at *
    go_upto_region 4 with fail
    go_region_held_law (fun w' => w'.cell? ⟨w.heap.size, 1, none⟩ = some (.slice ad n cap) ∧ w'.cell? ⟨w.heap.size, 2, none⟩ = some (.int .i64 (t : Int))) (first | exact ⟨x1, x2⟩ | go_keep) (first | (refine step_callX rfl 29 _ Tryz.func29 (by kernel_rfl) (by kernel_rfl) _ _ rfl #[.int .u32 10, .int .i64 (t : Int)] (by simp [Act.eval, Act.put]) (KP.out _) ?_; rintro r w2 ⟨v2, rfl, ho2, hb2⟩; have hB2 := below_on (below_drew HBZ.out) hb2; have x0 := (hb2.cell (p := ⟨w.heap.size, 0, none⟩) zs).trans z0; have x1 := (hb2.cell (p := ⟨w.heap.size, 1, none⟩) zs).trans z1; have x2 := (hb2.cell (p := ⟨w.heap.size, 2, none⟩) zs).trans z2; have xs2 := Nat.lt_of_lt_of_le zs hb2.size; refine ⟨_, rfl, ?_⟩) | (refine step_callX rfl 28 _ Tryz.func28 (by kernel_rfl) (by kernel_rfl) _ _ rfl #[.slice ad n cap, v2] (by simp [Act.eval, Act.put]) (KM.out _ v2 _ hB2 ho2) ?_; rintro r w3 ⟨v3, rfl, ho3, hb3⟩; have hB3 := below_on hB2 hb3; have y0 := (hb3.cell (p := ⟨w.heap.size, 0, none⟩) xs2).trans x0; have x1 := (hb3.cell (p := ⟨w.heap.size, 1, none⟩) xs2).trans x1; have x2 := (hb3.cell (p := ⟨w.heap.size, 2, none⟩) xs2).trans x2; refine ⟨_, rfl, ?_⟩))
    all_goals
      have HO3 := Lib.hid (ho3.mono (Nat.le_of_lt xs2))
      have HB3 := Lib.hid hB3
      have KB2 := Lib.hid (KB.out _ _ _ ho3)
      clear ho3 hB3 hb3 hB2 hb2 ho2
      go_wp2_with fail
      refine KB2.out.mono ?_
      rintro r w4 ⟨rfl, rfl⟩
      by_cases hbt : bitsN PK ≤ 400
      · have hbz : ¬ (400 : Int) < (bitsN PK : Int) := by omega
        have HIF2 := Lib.hid (show (0 : Int) ≤ (t : Int) ∧ bitsN PK ≤ 400 from ⟨by omega, hbt⟩)
        clear hbt
        generalize bitsN PK = bk at *
        go_wp2_with fail
        go_ret3
        rw [HIF.out]
        exact ⟨HB3.out, by rw [if_pos HIF2.out]; exact ⟨_, rfl, HO3.out⟩⟩
      · have hbz : (400 : Int) < (bitsN PK : Int) := by omega
        have HIF2 := Lib.hid (show ¬ ((0 : Int) ≤ (t : Int) ∧ bitsN PK ≤ 400) from fun h => hbt h.2)
        clear hbt
        generalize bitsN PK = bk at *
        go_wp2_with fail
        go_ret3
        rw [HIF.out]
        exact ⟨HB3.out, by rw [if_neg HIF2.out]; rfl⟩
end Go.Proofs.YtogapgjilbcbfaaGreatDoor
