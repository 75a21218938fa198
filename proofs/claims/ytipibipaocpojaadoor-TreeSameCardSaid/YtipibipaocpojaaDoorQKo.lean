/- The walk of tree's Same. -/
import Derived.Test.YtipibipaocpojaaDoorQKm
import Derived.Deep.CutRange
import Derived.Deep.RegionHeldLaw
namespace Go.Proofs.YtipibipaocpojaaDoor
open Go.RowKit Go.Shelf
set_option linter.unusedVariables false
set_option linter.unusedSimpArgs false

theorem step_callT {w : World} {ops : Array Oper} {o : Oper} {a : Act} {K : Act → World → Prop} {Q : Exit → Act → World → Prop} {E : Prop} (hgd : o.guard = none) (n : Nat) (fn : Func) (hf : Tryd.prog.funcs[n]? = some fn) (hn : (fn.name == "runtime.NumGoroutine") = false) (hb : fn.body.isNone = false)
    (args : Array Operand) (ts : Array TypeId) (ho : o.op = .call { callee := .value (.func n), args := args, argTypes := ts }) (vs : Array Value) (hv : args.map a.eval = vs) {Post : Ending → World → Prop} (C : Calls Tryd.prog n vs w Post)
    (h : ∀ r w', Post r w' → ∃ v, r = .returned v ∧ K (a.put o.dst v) w') :
    if Region.wanted o (yielded ops a.tmps) = true then Oper.wp Tryd.prog o a w K Q else E := by
  have hw : Region.wanted o (yielded ops a.tmps) = true := by simp [Region.wanted, hgd]
  rw [if_pos hw]
  have hx : (execOp a.eval o).run Tryd.prog w = .ok (.enter n vs) w := by
    have e0 : a.eval (.func n) = .func (.func n) #[] #[] := rfl
    simp [execOp, ho, resolve, Deferred.ofValue, invoke, callFunc, hf, hv, e0, go_sem]
    rw [if_neg (by simpa using hn), if_neg (by intro h0; rw [h0] at hb; cases hb)]
  unfold Oper.wp
  rw [hx, Oper.upon_enter]
  exact C.mono (fun r w' hp => by obtain ⟨v, rfl, hk⟩ := h r w' hp; exact hk)
theorem own_two (w : World) (B : Nat) (e : TypeId) (x y : Value) (hB : B ≤ w.heap.size) : (w.alloc (.cells #[x, y] e)).ownsRow B e 2 (.slice (some ⟨w.heap.size, 0, none⟩) 1 1) 1 [x, y] :=
  ⟨rfl, .inr ⟨w.heap.size, 1, #[x, y], rfl, hB, heap_alloc_new w _, Nat.le_refl _, by decide, rfl, rfl⟩⟩
theorem own_set2 {w : World} {B : Nat} {e : TypeId} {g n m cap : Nat} {xs : List Value} (h : w.ownsRow B e 2 (.slice (some ⟨g, 0, none⟩) m cap) (n + 1) xs) (i : Nat) (x : Value) : (w.setCell ⟨g, i, none⟩ x).ownsRow B e 2 (.slice (some ⟨g, 0, none⟩) m cap) (n + 1) (xs.set i x) := by
  rcases h.2 with ⟨h0, _⟩ | ⟨g', cap', cur, he, hB, hg, hc, hm, hs, ht⟩
  · cases h0
  · cases he
    refine ⟨by rw [List.length_set]; exact h.1, .inr ⟨g, cap, cur.setIfInBounds i x, rfl, hB, ?_, hc, hm, ?_, ?_⟩⟩
    · simp [World.setCell, Array.getElem?_modify, hg]
    · simp; omega
    · rw [← ht, Array.toList_setIfInBounds, List.take_set]
theorem bdc {w w' : World} (h : Below w.drew.heap.size w.drew w') : Below w.heap.size w w' := (below_drew (Below.refl _ _)).trans h
theorem bby {w w1 w2 : World} (h : Below w.heap.size w w1) (h2 : Below w1.heap.size w1 w2) : Below w.heap.size w w2 := h.trans (h2.mono h.size)
def ViaQ (R : Act → World → Prop) (e : Exit) (a : Act) (w : World) : Prop := match e with | .normal => R a w | _ => False
theorem wp_norm {P : Program} {C : Code} {Q : Exit → Act → World → Prop} {a : Act} {w : World} (h : ∀ J : Act → World → Prop, (∀ a' w', Q .normal a' w' → J a' w') → C.wp P (ViaQ J) a w) : C.wp P Q a w :=
  Code.wp_mono (fun e a' w' hr => by cases e <;> first | exact hr | exact absurd hr id) (h (fun a w => Q .normal a w) (fun _ _ h => h))
theorem wp_first {P : Program} {C : Code} {K' : Act → World → Prop} {Q' : Exit → Act → World → Prop} {a : Act} {w : World} (J : Act → World → Prop) (hK : ∀ a' w', Met J a' w' → K' a' w') (h : C.wp P (ViaQ J) a w) : C.wp P (Exit.then K' Q') a w :=
  Code.wp_mono (fun e a' w' hr => by cases e <;> first | exact hK a' w' hr | exact absurd hr id) h
theorem rd_two (w : World) (e : TypeId) (x y : Value) : RdV (w.alloc (.cells #[x, y] e)) (some ⟨w.heap.size, 0, none⟩) [x, y] := by
  intro i hi
  refine ⟨w.heap.size, 0, rfl, by simp, ?_⟩
  match i, hi with
  | 0, _ => simp
  | 1, _ => simp
theorem info_pair : (Tryd.prog.info? 59).map (fun i => (i.zero, i.size, i.bytes)) = some (some (.agg #[.slice none 0 0, .slice none 0 0]), 2, 48) := by kernel_rfl
theorem set2_cell {w : World} {g h i j o : Nat} (x y : Value) (hne : h ≠ g) : (((w.setCell ⟨g, i, none⟩ x).setCell ⟨g, j, none⟩ y).drew).cell? ⟨h, o, none⟩ = w.cell? ⟨h, o, none⟩ := by
  show ((w.setCell ⟨g, i, none⟩ x).setCell ⟨g, j, none⟩ y).cell? ⟨h, o, none⟩ = _
  rw [World.cell?_setCell_other (h := by simp [hne]), World.cell?_setCell_other (h := by simp [hne])]
/-- The place behind the first. -/
theorem se_none {w : World} {b o sm : Nat} {x : MT} {l : List MT} (h : SEOk w ⟨some ⟨b, o, none⟩, sm + 1, 0 + 1, x :: l⟩) : sm = 0 ∧ SEOk w ⟨some ⟨b, o, none⟩, 0, 0, l⟩ := by
  have h1 : l.length + 1 = sm + 1 := h.ln
  have h2 : sm + 1 ≤ 0 + 1 := h.lc
  have h3 : l = [] := List.eq_nil_of_length_eq_zero (by omega)
  subst h3
  exact ⟨by omega, rfl, Nat.le_refl _, Nat.zero_le _, RdV.nil _ _, fun s hs => by cases hs⟩
theorem se_more {w : World} {b o sm sd : Nat} {x : MT} {l : List MT} (h : SEOk w ⟨some ⟨b, o, none⟩, sm + 1, sd + 1, x :: l⟩) : SEOk w ⟨some ⟨b, o + 8, none⟩, sm, sd, l⟩ := by
  have h1 : l.length + 1 = sm + 1 := h.ln
  have h2 : sm + 1 ≤ sd + 1 := h.lc
  have h3 : sm + 1 ≤ 1000000000000000 := h.lm
  refine ⟨by show l.length = sm; omega, by show sm ≤ sd; omega, by show sm ≤ _; omega, ?_, fun s hs => h.rp s (by simp [hs])⟩
  have := h.rd.drop 8
  rw [← flat_tail] at this
  exact this
/-- The world behind the store of what is left of two lists. -/
def StoreCut (g q : Nat) (l l' : List MT) (w1 W2 wx : World) : Prop := ∃ (e : PE) (wm : World), e.a.l = l ∧ e.b.l = l' ∧ POk w1 e ∧ Below W2.heap.size W2 wm ∧ wx = ((wm.setCell ⟨g, q * 2, none⟩ e.a.val).setCell ⟨g, q * 2 + 1, none⟩ e.b.val).drew
/-- What parts answers, of a tree whose parts are known. -/
def PartsPost (v : Value) (w : World) (e : Ending) (w' : World) : Prop := e = .returned v ∧ Below w.heap.size w w'
theorem parts_is (t : MT) (ad : Option Addr) (n cap : Nat) (h : (partsE t).val = .slice ad n cap) (w : World) : Calls Tryd.prog 29 #[t.c.val] w (PartsPost (.slice ad n cap) w) :=
  (parts_any t.c w).mono (fun e w' ⟨h1, h2⟩ => ⟨by rw [h1, ← h, partsE_val], h2⟩)

set_option maxHeartbeats 4000000 in
set_option maxRecDepth 100000 in
theorem treeSame_any (a b : MT) (w : World) (hA : Rep w a) (hB : Rep w b) (na : NumsOk a) (nb : NumsOk b) (hn : a.nodes ≤ 1000000) :
    Calls Tryd.prog 13 #[a.c.val, b.c.val] w (BoolBelow (sameM a b) w) := by
  obtain ⟨Wb, hWb⟩ : ∃ x, two2 w a.c b.c = x := ⟨_, rfl⟩
  have HB0 := Lib.hid (show Below w.heap.size w Wb by rw [← hWb]; exact two_below2 _ _ _)
  have HZ := Lib.hid (show w.heap.size + 1 < Wb.heap.size by rw [← hWb, two2_size]; omega)
  have HBX := Lib.hid (fun W (h : Below Wb.heap.size Wb W) => ((by rw [← hWb] at h; exact ⟨(two2_box w a.c b.c).1.on (h.block _ (by rw [two2_size]; omega)), (two2_box w a.c b.c).2.on (h.block _ (by rw [two2_size]; omega))⟩) : BoxT W w.heap.size a.c ∧ BoxT W (w.heap.size + 1) b.c))
  have KA := Lib.hid (alike_any a b Wb (hA.on HB0.out).own (hB.on HB0.out).own (na a a.sub_refl) (nb b b.sub_refl))
  obtain ⟨pa, pn, pc, hpa⟩ : ∃ x y z, (partsE a).val = .slice x y z := ⟨_, _, _, rfl⟩
  obtain ⟨pa', pn', pc', hpb⟩ : ∃ x y z, (partsE b).val = .slice x y z := ⟨_, _, _, rfl⟩
  have KPA := Lib.hid (parts_is a pa pn pc hpa)
  have KPB := Lib.hid (parts_is b pa' pn' pc' hpb)
  obtain ⟨r, hr⟩ : ∃ r, sameM a b = r := ⟨_, rfl⟩
  have HS := Lib.hid (sameP_start a b)
  rw [hr] at HS ⊢
  obtain ⟨K0, hK0⟩ : ∃ K, 1 + stepsP [⟨partsE a, partsE b⟩] = K := ⟨_, rfl⟩
  have hK1 : K0 ≤ 4000000 := by
    rw [← hK0]
    unfold stepsP
    simp only [List.map_cons, List.map_nil, stepsR]
    have h1 := parts_nodes a
    rw [← partsE_l] at h1
    have h2 := MT.nodes_eq a
    omega
  have HPO := Lib.hid (fun W (h : Below Wb.heap.size Wb W) (he : alikeB a b = true) => parts_ok (hA.on (HB0.out.trans (h.mono HB0.out.size))) (hB.on (HB0.out.trans (h.mono HB0.out.size))) na nb he)
  have hwb := hWb
  have HPV := Lib.hid (show (⟨partsE a, partsE b⟩ : PE).vals = [.slice pa pn pc, .slice pa' pn' pc'] by unfold PE.vals; simp only; rw [hpa, hpb])
  generalize alikeB a b = ab at *
  generalize (⟨partsE a, partsE b⟩ : PE) = p0 at *
  clear hA hB na nb hn hWb hr hpa hpb
  generalize a.c = c at *
  generalize b.c = d at *
  obtain ⟨k, bo, neg, ma, mn, mc, e, st, ka, kn, kc, va, vn, vc⟩ := c
  obtain ⟨xk, xb, xneg, xma, xmn, xmc, xe, xs, xka, xkn, xkc, xva, xvn, xvc⟩ := d
  unfold Cel.val at KA KPA KPB ⊢
  unfold two2 Cel.cells at hwb
  simp only at hwb
  have HWB := Lib.hid hwb
  clear hwb
  go_enter Tryd.func13, Tryd.ntmps13
  go_wp2_with fail
  rw [HWB.out]
  refine KA.out.mono ?_
  rintro r0 w1 ⟨rfl, h1⟩
  have H1 := Lib.hid (HB0.out.trans (h1.mono HB0.out.size))
  have H1b := Lib.hid h1
  clear h1 HWB
  cases ab
  · have hrf := HS.out
    simp only [Bool.false_and] at hrf
    go_wp2
    go_ret
    exact BoolBelow.mk hrf.symm H1.out
  obtain ⟨⟨q0, q1, q2, q3, q4, q5, q6, q7⟩, y0, y1, y2, y3, y4, y5, y6, y7⟩ : _ ∧ _ := ⟨(HBX.out _ H1b.out).1.cells, (HBX.out _ H1b.out).2.cells⟩
  simp only at q0 q1 q2 q3 q4 q5 q6 q7 y0 y1 y2 y3 y4 y5 y6 y7
  have HP0 := Lib.hid (HPO.out _ H1b.out rfl)
  have HSP := Lib.hid (show sameP [p0] = r from by have := HS.out; rw [Bool.true_and] at this; exact this.symm)
  clear HPO HS KA
  have hg1 : w.heap.size < w1.heap.size := by have := HZ.out; have := H1b.out.size; omega
  have hg2 : w.heap.size + 1 < w1.heap.size := by have := HZ.out; have := H1b.out.size; omega
  have HST := Lib.hid (show ∀ W, Below w1.heap.size w1 W → SR w1 r K0 w1 K0 (.slice (some ⟨W.heap.size, 0, none⟩) 1 1) (W.alloc (.cells #[.slice pa pn pc, .slice pa' pn' pc'] 59)) from fun W h => by
    have e : valsP [p0] = [.slice pa pn pc, .slice pa' pn' pc'] := HPV.out
    exact ⟨[p0], by rw [← hK0]; omega, by rw [List.length_singleton]; omega, by rw [e]; exact own_two W w1.heap.size 59 _ _ h.size, (fun p hp => by rw [List.mem_singleton.1 hp]; exact HP0.out), h.alloc h.size _, HSP.out⟩)
  have HBY := Lib.hid (fun W (h : Below w1.heap.size w1 W) => (⟨(HBX.out W (H1b.out.trans (h.mono H1b.out.size))).1.cells, (HBX.out W (H1b.out.trans (h.mono H1b.out.size))).2.cells⟩ : _ ∧ _))
  go_upto_region 3 with fail
  go_cut [5] from 12 to 17 (fun v wx => SR w1 r K0 w1 K0 v wx)
  case first =>
    rename_i J K hJ hK
    have HJ := Lib.hid hJ
    refine wp_first J hK ?_
    clear hJ hK
    go_region_held_law (fun w' => (w'.cell? ⟨w.heap.size, 0, none⟩ = some (.int .i64 k) ∧ w'.cell? ⟨w.heap.size, 1, none⟩ = some (.bool bo) ∧ w'.cell? ⟨w.heap.size, 2, none⟩ = some (.bool neg) ∧ w'.cell? ⟨w.heap.size, 3, none⟩ = some (.slice ma mn mc) ∧ w'.cell? ⟨w.heap.size, 4, none⟩ = some (.int .i64 e) ∧ w'.cell? ⟨w.heap.size, 5, none⟩ = some (.string st) ∧ w'.cell? ⟨w.heap.size, 6, none⟩ = some (.slice ka kn kc) ∧ w'.cell? ⟨w.heap.size, 7, none⟩ = some (.slice va vn vc)) ∧ (w'.cell? ⟨w.heap.size + 1, 0, none⟩ = some (.int .i64 xk) ∧ w'.cell? ⟨w.heap.size + 1, 1, none⟩ = some (.bool xb) ∧ w'.cell? ⟨w.heap.size + 1, 2, none⟩ = some (.bool xneg) ∧ w'.cell? ⟨w.heap.size + 1, 3, none⟩ = some (.slice xma xmn xmc) ∧ w'.cell? ⟨w.heap.size + 1, 4, none⟩ = some (.int .i64 xe) ∧ w'.cell? ⟨w.heap.size + 1, 5, none⟩ = some (.string xs) ∧ w'.cell? ⟨w.heap.size + 1, 6, none⟩ = some (.slice xka xkn xkc) ∧ w'.cell? ⟨w.heap.size + 1, 7, none⟩ = some (.slice xva xvn xvc))) (exact HBY.out _ (by (repeat (first | with_reducible exact HW2.out | with_reducible exact HW3.out | with_reducible exact Below.refl _ _ | with_reducible refine below_drew ?_ | with_reducible refine Below.alloc ?_ (by first | exact HW3.out.size | exact HW2.out.size | omega | (simp; done) | (simp; omega)) _))))
      (first
        | (refine step_callT rfl 29 _ Tryd.func29 (by kernel_rfl) (by kernel_rfl) #[.tmp 12] _ rfl #[.agg #[.int .i64 k, .bool bo, .bool neg, .slice ma mn mc, .int .i64 e, .string st, .slice ka kn kc, .slice va vn vc]] (by simp [Act.eval, Act.put]) (KPA.out _) ?_; rintro r2 w2 ⟨rfl, h2⟩; have HW2 := Lib.hid (show Below w1.heap.size w1 w2 from by with_reducible first | exact bdc h2 | exact bby HW3.out h2); clear h2; refine ⟨_, rfl, ?_⟩)
        | (refine step_callT rfl 29 _ Tryd.func29 (by kernel_rfl) (by kernel_rfl) #[.tmp 14] _ rfl #[.agg #[.int .i64 xk, .bool xb, .bool xneg, .slice xma xmn xmc, .int .i64 xe, .string xs, .slice xka xkn xkc, .slice xva xvn xvc]] (by simp [Act.eval, Act.put]) (KPB.out _) ?_; rintro r3 w3 ⟨rfl, h3⟩; have HW3 := Lib.hid (show Below w1.heap.size w1 w3 from by with_reducible first | exact bdc h3 | exact bby HW2.out h3); clear h3; refine ⟨_, rfl, ?_⟩))
    all_goals first
      | exact HJ.out _ _ ⟨_, _, _, _, _, _, _, HST.out _ HW3.out, rfl⟩
      | exact HJ.out _ _ ⟨_, _, _, _, _, _, _, HST.out _ HW2.out, rfl⟩
  case rest =>
    have HC := Lib.hid hcut
    have HWA := Lib.hid (fun W (h : Below w1.heap.size w1 W) => (H1.out.trans (h.mono H1.out.size) : Below w.heap.size w W))
    clear hcut q0 q1 q2 q3 q4 q5 q6 q7 y0 y1 y2 y3 y4 y5 y6 y7 HST HBY HBX KPA KPB HP0 HSP HPV H1b HB0 HZ hK0
    generalize Value.agg #[Value.int .i64 k, Value.bool bo, Value.bool neg, Value.slice ma mn mc, Value.int .i64 e, Value.string st, Value.slice ka kn kc, Value.slice va vn vc] = A
    generalize Value.agg #[Value.int .i64 xk, Value.bool xb, Value.bool xneg, Value.slice xma xmn xmc, Value.int .i64 xe, Value.string xs, Value.slice xka xkn xkc, Value.slice xva xvn xvc] = B
    generalize Value.pointer (some ⟨w.heap.size, 0, none⟩) = PA
    generalize Value.pointer (some ⟨w.heap.size + 1, 0, none⟩) = PB
    go_wp2
    go_loopg [5] K0 (fun k v wr => SR w1 r K0 w1 k v wr)
    case atStart => exact HC.out
    case round =>
      clear HC
      obtain ⟨R, hst, hlen, ho, hok, hb, hsame⟩ := hrel
      have HO := Lib.hid ho; have HOK := Lib.hid hok; have HB := Lib.hid hb; have HS := Lib.hid hsame
      clear ho hok hb hsame
      cases R with
      | nil =>
        obtain ⟨ad, cap, rfl, _⟩ := own_viewN HO.out
        have HR := Lib.hid (show true = r from HS.out)
        go_wp2
        go_ret
        exact BoolBelow.mk HR.out (HWA.out _ HB.out)
      | cons p R =>
        obtain ⟨k, rfl⟩ : ∃ k, gk = k + 1 := ⟨gk - 1, by have := hst; unfold stepsP at this; rw [List.map_cons, stepsR] at this; omega⟩
        have hown : wr.ownsRow w1.heap.size 59 2 u5 (R.length + 1) (valsP (p :: R)) := HO.out
        obtain ⟨g, cap, rfl, hBg, hgl, hcap, hc0, hc1, hf0, hf1, hset, hpop⟩ := own_open2 hown
        rw [valsP_a] at hc0
        rw [valsP_b] at hc1
        rw [valsP_take] at hpop
        rw [Nat.mul_comm 2 R.length] at hc0 hc1 hf0 hf1
        have HOW := Lib.hid hown; have HPOP := Lib.hid hpop
        clear hown hset hpop HO
        have hpk := HOK.out p (by simp)
        simp only [List.length_cons] at hlen
        obtain ⟨⟨ad, n, pc1, l⟩, ⟨ad', n', pc2, l'⟩⟩ := p
        simp only [SE.val] at hc0 hc1
        have hPa := hpk.a; have hPb := hpk.b; have hln := hpk.n
        have HPA := Lib.hid hPa; have HPB := Lib.hid hPb; have HPK := Lib.hid hpk
        simp only at hln
        have hRl : R.length ≤ 4000000 := by omega
        have hRz : (R.length : Int) < ((R.length + 1 : Nat) : Int) := by omega
        have hn1 : l.length = n := hPa.ln
        have hn2 : l'.length = n' := hPb.ln
        clear hPa hPb hpk
        obtain ⟨W2, hW2⟩ : ∃ x, wr.alloc (.cells #[.slice ad n pc1, .slice ad' n' pc2] 59) = x := ⟨_, rfl⟩
        have HB2 := Lib.hid (show Below wr.heap.size wr W2 by rw [← hW2]; exact (Below.refl _ _).alloc (Nat.le_refl _) _)
        have HBB := Lib.hid (HB.out.trans (HB2.out.mono HB.out.size))
        have hRs : wr.heap.size < W2.heap.size := by rw [← hW2]; simp
        have hW0 : W2.cell? ⟨wr.heap.size, 0, none⟩ = some (.slice ad n pc1) := by rw [← hW2]; simp
        have hW1 : W2.cell? ⟨wr.heap.size, 1, none⟩ = some (.slice ad' n' pc2) := by rw [← hW2]; simp
        have HW2 := Lib.hid hW2
        cases l with
        | nil =>
          have HF := Lib.hid (show SR w1 r K0 w1 k (.slice (some ⟨g, 0, none⟩) R.length cap) W2 from by
            refine ⟨R, ?_, ?_, own_onN HPOP.out HB2.out, fun x hx => HOK.out x (by simp [hx]), HBB.out, ?_⟩
            · have := stepsP_pop (p := ⟨⟨ad, n, pc1, []⟩, ⟨ad', n', pc2, l'⟩⟩) (R := R) rfl; omega
            · have := stepsP_pop (p := ⟨⟨ad, n, pc1, []⟩, ⟨ad', n', pc2, l'⟩⟩) (R := R) rfl; omega
            · rw [← sameP_pop (p := ⟨⟨ad, n, pc1, []⟩, ⟨ad', n', pc2, l'⟩⟩) (R := R) rfl]; exact HS.out)
          simp only [List.length_nil] at hn1
          subst hn1
          clear hst hlen HW2
          generalize R.length = q at *
          go_wp2
          go_roundg k
          case rel => exact HF.out
          case measure => omega
        | cons x l =>
          cases l' with
          | nil => exact absurd hln (by simp)
          | cons y l' =>
            simp only [List.length_cons] at hn1 hn2 hln
            have hsc := HPA.out.lc; have hsc' := HPB.out.lc
            have hlm := HPA.out.lm; have hlm' := HPB.out.lm
            simp only at hsc hsc' hlm hlm'
            obtain ⟨sm, rfl⟩ : ∃ sm, n = sm + 1 := ⟨l.length, hn1.symm⟩
            obtain ⟨sm', rfl⟩ : ∃ sm, n' = sm + 1 := ⟨l'.length, hn2.symm⟩
            obtain ⟨sd, rfl⟩ : ∃ sd, pc1 = sd + 1 := ⟨pc1 - 1, by omega⟩
            obtain ⟨sd', rfl⟩ : ∃ sd, pc2 = sd + 1 := ⟨pc2 - 1, by omega⟩
            have hrx : RdV w1 ad (flat ((x :: l).map MT.c)) := HPA.out.rd
            have hry : RdV w1 ad' (flat ((y :: l').map MT.c)) := HPB.out.rd
            obtain ⟨bk, bo', rfl, hbl⟩ := hrx.shape (by rw [flat_len]; simp)
            obtain ⟨ck, co, rfl, hcl⟩ := hry.shape (by rw [flat_len]; simp)
            have HX := Lib.hid (fun W (h : Below w1.heap.size w1 W) => by have := flat_at (hrx.on h) 0 (by simp) (c := x.c) rfl; simpa only [Nat.zero_mul, Nat.add_zero] using this)
            have HY := Lib.hid (fun W (h : Below w1.heap.size w1 W) => by have := flat_at (hry.on h) 0 (by simp) (c := y.c) rfl; simpa only [Nat.zero_mul, Nat.add_zero] using this)
            have KX := Lib.hid (fun W (h : Below w1.heap.size w1 W) => alike_any x y W (((HPA.out.rp x (by simp)).on h).own) (((HPB.out.rp y (by simp)).on h).own) (HPK.out.na x (by simp) x x.sub_refl) (HPK.out.nb y (by simp) y y.sub_refl))
            obtain ⟨ea, en, ec, hpa⟩ : ∃ a b c, (partsE x).val = .slice a b c := ⟨_, _, _, rfl⟩
            obtain ⟨ea', en', ec', hpb⟩ : ∃ a b c, (partsE y).val = .slice a b c := ⟨_, _, _, rfl⟩
            have KPX := Lib.hid (parts_is x ea en ec hpa)
            have KPY := Lib.hid (parts_is y ea' en' ec' hpb)
            have HN0 := Lib.hid (fun (q : PE) (hqa : q.a.l = l) (hqb : q.b.l = l') => (by
              rw [← sameP_push (p := ⟨⟨some ⟨bk, bo', none⟩, sm + 1, sd + 1, x :: l⟩, ⟨some ⟨ck, co, none⟩, sm' + 1, sd' + 1, y :: l'⟩⟩) (q := q) (R := R) (t := x) (s := y) (by rw [hqa]) (by rw [hqb])]
              exact HS.out : (alikeB x y && sameP (⟨partsE x, partsE y⟩ :: q :: R)) = r))
            have HPOK := Lib.hid (fun he => parts_ok (HPA.out.rp x (by simp)) (HPB.out.rp y (by simp)) (HPK.out.na x (by simp)) (HPK.out.nb y (by simp)) he)
            have HPVX := Lib.hid (show (⟨partsE x, partsE y⟩ : PE).vals = [.slice ea en ec, .slice ea' en' ec'] by unfold PE.vals; simp only; rw [hpa, hpb])
            generalize alikeB x y = xy at *
            have e7 := HX.out W2 HBB.out
            have f7 := HY.out W2 HBB.out
            generalize x.c = cx at *
            generalize y.c = cy at *
            obtain ⟨k1, b1, neg1, ma1, mn1, mc1, e1, s1, ka1, kn1, kc1, va1, vn1, vc1⟩ := cx
            obtain ⟨k2, b2, neg2, ma2, mn2, mc2, e2, s2, ka2, kn2, kc2, va2, vn2, vc2⟩ := cy
            unfold Cel.val at KX KPX KPY
            simp only at e7 f7
            obtain ⟨c0, c1, c2, c3, c4, c5, c6, c7⟩ := e7
            obtain ⟨d0, d1, d2, d3, d4, d5, d6, d7⟩ := f7
            have HST := Lib.hid hst; have HLE := Lib.hid hlen
            generalize hq : R.length = q at *
            have HQ := Lib.hid hq
            have hbk : bk < W2.heap.size := Nat.lt_of_lt_of_le hbl HBB.out.size
            have hck : ck < W2.heap.size := Nat.lt_of_lt_of_le hcl HBB.out.size
            clear hq hst hlen hrx hry hn1 hn2 hln hsc hsc' hlm hlm' hpa hpb HW2
            go_wp2_with fail
            go_cut [44] from 18 to 68 (fun v wx => v = .bool (!xy) ∧ Below W2.heap.size W2 wx)
            case first =>
              rename_i J K hJ hK
              have HJ := Lib.hid hJ
              refine wp_first J hK ?_
              clear hJ hK
              go_region_law (refine step_callT rfl 28 _ Tryd.func28 (by kernel_rfl) (by kernel_rfl) #[.tmp 38, .tmp 42] _ rfl #[.agg #[.int .i64 k1, .bool b1, .bool neg1, .slice ma1 mn1 mc1, .int .i64 e1, .string s1, .slice ka1 kn1 kc1, .slice va1 vn1 vc1], .agg #[.int .i64 k2, .bool b2, .bool neg2, .slice ma2 mn2 mc2, .int .i64 e2, .string s2, .slice ka2 kn2 kc2, .slice va2 vn2 vc2]] (by simp [Act.eval, Act.put]) (KX.out _ (below_drew HBB.out)) ?_; rintro r3 w3 ⟨rfl, h3⟩; have HW3 := Lib.hid (bdc h3); clear h3; refine ⟨_, rfl, ?_⟩)
              all_goals
                refine HJ.out _ _ ?_
                (repeat apply Exists.intro)
                exact ⟨⟨rfl, HW3.out⟩, rfl⟩
            case rest =>
              obtain ⟨rfl, hb3⟩ := hcut
              have HB3 := Lib.hid hb3
              clear hb3
              cases xy
              · have hrf := HN0.out ⟨⟨none, 0, 0, l⟩, ⟨none, 0, 0, l'⟩⟩ rfl rfl
                simp only [Bool.false_and] at hrf
                go_wp2
                go_ret
                exact BoolBelow.mk hrf (HWA.out _ (HBB.out.trans (HB3.out.mono HBB.out.size)))
              · go_wp2_with fail
                have hgw : g < wc.heap.size := Nat.lt_of_lt_of_le hgl (HB2.out.trans (HB3.out.mono HB2.out.size)).size
                have hrw : wr.heap.size < wc.heap.size := Nat.lt_of_lt_of_le hRs HB3.out.size
                have HBW := Lib.hid (HB2.out.trans (HB3.out.mono HB2.out.size))
                have x0 : wc.cell? ⟨g, q * 2, none⟩ = some (.slice (some ⟨bk, bo', none⟩) (sm + 1) (sd + 1)) := (HBW.out.cell (p := ⟨g, q * 2, none⟩) hgl).trans hc0
                have x1 : wc.cell? ⟨g, q * 2 + 1, none⟩ = some (.slice (some ⟨ck, co, none⟩) (sm' + 1) (sd' + 1)) := (HBW.out.cell (p := ⟨g, q * 2 + 1, none⟩) hgl).trans hc1
                have x2 : wc.frozen? ⟨g, q * 2, none⟩ = false := (HBW.out.frozen (p := ⟨g, q * 2, none⟩) hgl).trans hf0
                have x3 : wc.frozen? ⟨g, q * 2 + 1, none⟩ = false := (HBW.out.frozen (p := ⟨g, q * 2 + 1, none⟩) hgl).trans hf1
                have x4 : wc.cell? ⟨wr.heap.size, 0, none⟩ = some (.slice (some ⟨bk, bo', none⟩) (sm + 1) (sd + 1)) := (HB3.out.cell (p := ⟨wr.heap.size, 0, none⟩) hRs).trans hW0
                have x5 : wc.cell? ⟨wr.heap.size, 1, none⟩ = some (.slice (some ⟨ck, co, none⟩) (sm' + 1) (sd' + 1)) := (HB3.out.cell (p := ⟨wr.heap.size, 1, none⟩) hRs).trans hW1
                have HLL := Lib.hid (show l.length = l'.length from by have : (x :: l).length = (y :: l').length := HPK.out.n; simpa using this)
                have HNA := Lib.hid (fun t (h : t ∈ l) => HPK.out.na t (by simp [h]))
                have HNB := Lib.hid (fun t (h : t ∈ l') => HPK.out.nb t (by simp [h]))
                have HW0 := Lib.hid hW0; have HW1 := Lib.hid hW1
                clear hc0 hc1 hf0 hf1 hW0 hW1 c0 c1 c2 c3 c4 c5 c6 c7 d0 d1 d2 d3 d4 d5 d6 d7
                go_cut [] from 18 to 68 (fun wx => StoreCut g q l l' w1 W2 wx)
                case first =>
                  rename_i J K hJ hK
                  have HJ := Lib.hid hJ
                  refine wp_first J hK ?_
                  clear hJ hK
                  by_cases hsd : sd = 0
                  · subst hsd
                    by_cases hsd' : sd' = 0
                    · subst hsd'
                      obtain ⟨rfl, hea⟩ := se_none HPA.out
                      have HEA := Lib.hid hea; clear hea
                      obtain ⟨rfl, heb⟩ := se_none HPB.out
                      have HEB := Lib.hid heb; clear heb
                      have HSC := Lib.hid (fun wm (h : Below W2.heap.size W2 wm) => (⟨⟨⟨some ⟨bk, bo', none⟩, 0, 0, l⟩, ⟨some ⟨ck, co, none⟩, 0, 0, l'⟩⟩, wm, rfl, rfl, ⟨HEA.out, HEB.out, HLL.out, HNA.out, HNB.out⟩, h, rfl⟩ : StoreCut g q l l' w1 W2 (((wm.setCell ⟨g, q * 2, none⟩ (.slice (some ⟨bk, bo', none⟩) 0 0)).setCell ⟨g, q * 2 + 1, none⟩ (.slice (some ⟨ck, co, none⟩) 0 0))).drew))
                      clear HPA HPB HEA HEB
                      go_region
                      all_goals
                        refine HJ.out _ _ ?_
                        (repeat apply Exists.intro)
                        exact ⟨HSC.out _ (by first | exact HB3.out | exact below_drew HB3.out), rfl⟩
                    · have hsd2' : ¬ sd' + 1 = 1 := by omega
                      obtain ⟨rfl, hea⟩ := se_none HPA.out
                      have HEA := Lib.hid hea; clear hea
                      have HEB := Lib.hid (se_more HPB.out)
                      have HSC := Lib.hid (fun wm (h : Below W2.heap.size W2 wm) => (⟨⟨⟨some ⟨bk, bo', none⟩, 0, 0, l⟩, ⟨some ⟨ck, co + 8, none⟩, sm', sd', l'⟩⟩, wm, rfl, rfl, ⟨HEA.out, HEB.out, HLL.out, HNA.out, HNB.out⟩, h, rfl⟩ : StoreCut g q l l' w1 W2 (((wm.setCell ⟨g, q * 2, none⟩ (.slice (some ⟨bk, bo', none⟩) 0 0)).setCell ⟨g, q * 2 + 1, none⟩ (.slice (some ⟨ck, co + 8, none⟩) sm' sd'))).drew))
                      clear HPA HPB HEA HEB
                      go_region
                      all_goals
                        refine HJ.out _ _ ?_
                        (repeat apply Exists.intro)
                        exact ⟨HSC.out _ (by first | exact HB3.out | exact below_drew HB3.out), rfl⟩
                  · have hsd2 : ¬ sd + 1 = 1 := by omega
                    by_cases hsd' : sd' = 0
                    · subst hsd'
                      have HEA := Lib.hid (se_more HPA.out)
                      obtain ⟨rfl, heb⟩ := se_none HPB.out
                      have HEB := Lib.hid heb; clear heb
                      have HSC := Lib.hid (fun wm (h : Below W2.heap.size W2 wm) => (⟨⟨⟨some ⟨bk, bo' + 8, none⟩, sm, sd, l⟩, ⟨some ⟨ck, co, none⟩, 0, 0, l'⟩⟩, wm, rfl, rfl, ⟨HEA.out, HEB.out, HLL.out, HNA.out, HNB.out⟩, h, rfl⟩ : StoreCut g q l l' w1 W2 (((wm.setCell ⟨g, q * 2, none⟩ (.slice (some ⟨bk, bo' + 8, none⟩) sm sd)).setCell ⟨g, q * 2 + 1, none⟩ (.slice (some ⟨ck, co, none⟩) 0 0))).drew))
                      clear HPA HPB HEA HEB
                      go_region
                      all_goals
                        refine HJ.out _ _ ?_
                        (repeat apply Exists.intro)
                        exact ⟨HSC.out _ (by first | exact HB3.out | exact below_drew HB3.out), rfl⟩
                    · have hsd2' : ¬ sd' + 1 = 1 := by omega
                      have HEA := Lib.hid (se_more HPA.out)
                      have HEB := Lib.hid (se_more HPB.out)
                      have HSC := Lib.hid (fun wm (h : Below W2.heap.size W2 wm) => (⟨⟨⟨some ⟨bk, bo' + 8, none⟩, sm, sd, l⟩, ⟨some ⟨ck, co + 8, none⟩, sm', sd', l'⟩⟩, wm, rfl, rfl, ⟨HEA.out, HEB.out, HLL.out, HNA.out, HNB.out⟩, h, rfl⟩ : StoreCut g q l l' w1 W2 (((wm.setCell ⟨g, q * 2, none⟩ (.slice (some ⟨bk, bo' + 8, none⟩) sm sd)).setCell ⟨g, q * 2 + 1, none⟩ (.slice (some ⟨ck, co + 8, none⟩) sm' sd'))).drew))
                      clear HPA HPB HEA HEB
                      go_region
                      all_goals
                        refine HJ.out _ _ ?_
                        (repeat apply Exists.intro)
                        exact ⟨HSC.out _ (by first | exact HB3.out | exact below_drew HB3.out), rfl⟩
                case rest =>
                  obtain ⟨e, wm, hla, hlb, hpo, hbm, hwc⟩ := hcut
                  clear x0 x1 x2 x3 x4 x5 hgw hrw HBW HB3
                  have hbw := HB2.out.trans (hbm.mono HB2.out.size)
                  have hgr : wr.heap.size ≠ g := by omega
                  have hgm : g < wm.heap.size := Nat.lt_of_lt_of_le hgl hbw.size
                  have hrm : wr.heap.size < wm.heap.size := Nat.lt_of_lt_of_le hRs hbm.size
                  have ho4 : wc.ownsRow w1.heap.size 59 2 (.slice (some ⟨g, 0, none⟩) (q + 1) cap) (q + 1) (valsP (e :: R)) := by
                    have h1 := own_set2 (own_set2 (own_onN HOW.out hbw) (q * 2) e.a.val) (q * 2 + 1) e.b.val
                    rw [show q * 2 = 2 * R.length by rw [HQ.out]; omega, valsP_set] at h1
                    rw [hwc, show q * 2 = 2 * R.length by rw [HQ.out]; omega]
                    exact own_onN h1 (below_drew (Below.refl _ _))
                  have HO4 := Lib.hid ho4
                  have HD4 := Lib.hid (show Below w1.heap.size w1 wc from by
                    rw [hwc]
                    exact below_drew ((HBB.out.trans (hbm.mono HBB.out.size)).setCell hBg _ |>.setCell hBg _))
                  have x0 : wc.cell? ⟨wr.heap.size, 0, none⟩ = some (.slice (some ⟨bk, bo', none⟩) (sm + 1) (sd + 1)) := by
                    rw [hwc, set2_cell _ _ hgr]; exact (hbm.cell (p := ⟨wr.heap.size, 0, none⟩) hRs).trans HW0.out
                  have x1 : wc.cell? ⟨wr.heap.size, 1, none⟩ = some (.slice (some ⟨ck, co, none⟩) (sm' + 1) (sd' + 1)) := by
                    rw [hwc, set2_cell _ _ hgr]; exact (hbm.cell (p := ⟨wr.heap.size, 1, none⟩) hRs).trans HW1.out
                  have h4s : wr.heap.size < wc.heap.size := by rw [hwc]; simpa [World.setCell] using hrm
                  have hbk4 : bk < wc.heap.size := Nat.lt_of_lt_of_le hbl HD4.out.size
                  have hck4 : ck < wc.heap.size := Nat.lt_of_lt_of_le hcl HD4.out.size
                  have hbkg : bk ≠ g := by omega
                  have hckg : ck ≠ g := by omega
                  obtain ⟨⟨a0, a1, a2, a3, a4, a5, a6, a7⟩, b0, b1', b2', b3, b4, b5, b6, b7⟩ := And.intro (HX.out wc HD4.out) (HY.out wc HD4.out)
                  have HALG := Lib.hid (fun (W : World) (h : ∀ b o, b = wr.heap.size ∨ b = bk ∨ b = ck → W.cell? ⟨b, o, none⟩ = wc.cell? ⟨b, o, none⟩) => And.intro (And.intro ((h _ 0 (.inl rfl)).trans x0) ((h _ 1 (.inl rfl)).trans x1)) (And.intro (And.intro ((h bk (bo') (.inr (.inl rfl))).trans a0) (And.intro ((h bk (bo' + 1) (.inr (.inl rfl))).trans a1) (And.intro ((h bk (bo' + 2) (.inr (.inl rfl))).trans a2) (And.intro ((h bk (bo' + 3) (.inr (.inl rfl))).trans a3) (And.intro ((h bk (bo' + 4) (.inr (.inl rfl))).trans a4) (And.intro ((h bk (bo' + 5) (.inr (.inl rfl))).trans a5) (And.intro ((h bk (bo' + 6) (.inr (.inl rfl))).trans a6) ((h bk (bo' + 7) (.inr (.inl rfl))).trans a7)))))))) (And.intro ((h ck (co) (.inr (.inr rfl))).trans b0) (And.intro ((h ck (co + 1) (.inr (.inr rfl))).trans b1') (And.intro ((h ck (co + 2) (.inr (.inr rfl))).trans b2') (And.intro ((h ck (co + 3) (.inr (.inr rfl))).trans b3) (And.intro ((h ck (co + 4) (.inr (.inr rfl))).trans b4) (And.intro ((h ck (co + 5) (.inr (.inr rfl))).trans b5) (And.intro ((h ck (co + 6) (.inr (.inr rfl))).trans b6) ((h ck (co + 7) (.inr (.inr rfl))).trans b7))))))))))
                  have HALL := Lib.hid (fun (W : World) (h : Below wc.heap.size wc W) => HALG.out W (fun b o hb => h.cell (p := ⟨b, o, none⟩) (by rcases hb with rfl | rfl | rfl <;> assumption)))
                  have HALF := Lib.hid (fun (W W' : World) (h : Below wc.heap.size wc W) (hg : W.grownBy W' (Value.slice (some ⟨g, 0, none⟩) (q + 1) cap).ownBlock) => HALG.out W' (fun b o hb => (World.cell?_of_block (a := ⟨b, o, none⟩) (hg.block b (by have := h.size; rcases hb with rfl | rfl | rfl <;> omega) (by simp only [Value.ownBlock]; intro e; have e2 := Option.some.inj e; rcases hb with rfl | rfl | rfl <;> omega))).trans (h.cell (p := ⟨b, o, none⟩) (by rcases hb with rfl | rfl | rfl <;> assumption))))
                  clear a0 a1 a2 a3 a4 a5 a6 a7 b0 b1' b2' b3 b4 b5 b6 b7
                  have HONE := Lib.hid (show ∀ u ∈ [Value.slice ea en ec, Value.slice ea' en' ec'], u.oneCell' = true from fun u hu => by
                    simp only [List.mem_cons, List.not_mem_nil, or_false] at hu
                    rcases hu with rfl | rfl <;> rfl)
                  have HFIN := Lib.hid (show ∀ v7 w7 W, Below wc.heap.size wc W → w7.ownsRow w1.heap.size 59 2 v7 (q + 1 + 1) (valsP (e :: R) ++ [.slice ea en ec, .slice ea' en' ec']) → W.grownBy w7 (Value.slice (some ⟨g, 0, none⟩) (q + 1) cap).ownBlock → SR w1 r K0 w1 k v7 w7 from fun v7 w7 W hW ho hg => by
                    have hd := HD4.out.trans (hW.mono HD4.out.size)
                    have hp := stepsP_push (p := ⟨⟨some ⟨bk, bo', none⟩, sm + 1, sd + 1, x :: l⟩, ⟨some ⟨ck, co, none⟩, sm' + 1, sd' + 1, y :: l'⟩⟩) (q := e) (R := R) (t := x) (by rw [hla]) y
                    have h1 := HST.out
                    have h2 := HLE.out
                    have h3 := HQ.out
                    refine ⟨⟨partsE x, partsE y⟩ :: e :: R, by omega, by simp only [List.length_cons]; omega, ?_, ?_, hd.grown hg hd.size (fun j hj => by simp [Value.ownBlock] at hj; omega), ?_⟩
                    · rw [valsP, HPVX.out, List.length_cons, List.length_cons, h3]; exact ho
                    · intro p hp
                      rcases List.mem_cons.1 hp with rfl | hp
                      · exact HPOK.out (by simp)
                      · rcases List.mem_cons.1 hp with rfl | hp
                        · exact hpo
                        · exact HOK.out p (by simp [hp])
                    · have := HN0.out e hla hlb
                      rwa [Bool.true_and] at this)
                  clear hla hlb hpo hbm hwc hbw hgm hrm ho4 HX HY HST HLE HQ HOK
                  go_wp2_with fail
                  refine wp_norm (fun J hJ => ?_)
                  have HJ := Lib.hid hJ
                  clear hJ
                  go_region_held_law (fun w' => (w'.cell? ⟨wr.heap.size, 0, none⟩ = some (.slice (some ⟨bk, bo', none⟩) (sm + 1) (sd + 1)) ∧ w'.cell? ⟨wr.heap.size, 1, none⟩ = some (.slice (some ⟨ck, co, none⟩) (sm' + 1) (sd' + 1))) ∧ (w'.cell? ⟨bk, bo', none⟩ = some (.int .i64 k1) ∧ w'.cell? ⟨bk, bo' + 1, none⟩ = some (.bool b1) ∧ w'.cell? ⟨bk, bo' + 2, none⟩ = some (.bool neg1) ∧ w'.cell? ⟨bk, bo' + 3, none⟩ = some (.slice ma1 mn1 mc1) ∧ w'.cell? ⟨bk, bo' + 4, none⟩ = some (.int .i64 e1) ∧ w'.cell? ⟨bk, bo' + 5, none⟩ = some (.string s1) ∧ w'.cell? ⟨bk, bo' + 6, none⟩ = some (.slice ka1 kn1 kc1) ∧ w'.cell? ⟨bk, bo' + 7, none⟩ = some (.slice va1 vn1 vc1)) ∧ (w'.cell? ⟨ck, co, none⟩ = some (.int .i64 k2) ∧ w'.cell? ⟨ck, co + 1, none⟩ = some (.bool b2) ∧ w'.cell? ⟨ck, co + 2, none⟩ = some (.bool neg2) ∧ w'.cell? ⟨ck, co + 3, none⟩ = some (.slice ma2 mn2 mc2) ∧ w'.cell? ⟨ck, co + 4, none⟩ = some (.int .i64 e2) ∧ w'.cell? ⟨ck, co + 5, none⟩ = some (.string s2) ∧ w'.cell? ⟨ck, co + 6, none⟩ = some (.slice ka2 kn2 kc2) ∧ w'.cell? ⟨ck, co + 7, none⟩ = some (.slice va2 vn2 vc2))) (first | with_reducible exact HF7.out | exact HALL.out _ (by (repeat (first | with_reducible exact HW5.out | with_reducible exact HW6.out | with_reducible exact Below.refl _ _ | with_reducible refine below_drew ?_ | with_reducible refine Below.alloc ?_ (by first | exact HW6.out.size | exact HW5.out.size | omega | (simp; done) | (simp; omega)) _))))
                    (first
                      | (refine step_callT rfl 29 _ Tryd.func29 (by kernel_rfl) (by kernel_rfl) #[.tmp 59] _ rfl #[.agg #[.int .i64 k1, .bool b1, .bool neg1, .slice ma1 mn1 mc1, .int .i64 e1, .string s1, .slice ka1 kn1 kc1, .slice va1 vn1 vc1]] (by simp [Act.eval, Act.put]) (KPX.out _) ?_; rintro r5 w5 ⟨rfl, h5⟩; have HW5 := Lib.hid (show Below wc.heap.size wc w5 from by with_reducible first | exact bdc h5 | exact bby HW6.out h5); clear h5; refine ⟨_, rfl, ?_⟩)
                      | (refine step_callT rfl 29 _ Tryd.func29 (by kernel_rfl) (by kernel_rfl) #[.tmp 64] _ rfl #[.agg #[.int .i64 k2, .bool b2, .bool neg2, .slice ma2 mn2 mc2, .int .i64 e2, .string s2, .slice ka2 kn2 kc2, .slice va2 vn2 vc2]] (by simp [Act.eval, Act.put]) (KPY.out _) ?_; rintro r6 w6 ⟨rfl, h6⟩; have HW6 := Lib.hid (show Below wc.heap.size wc w6 from by with_reducible first | exact bdc h6 | exact bby HW5.out h6); clear h6; refine ⟨_, rfl, ?_⟩)
                      | (refine step_appV Tryd.underlying60 info_pair rfl (by decide) (by decide) _ rfl (.tmp 55) (.tmp 67) rfl w1.heap.size (.slice (some ⟨g, 0, none⟩) (q + 1) cap) (q + 1) (valsP (e :: R)) (by simp [Act.eval, Act.put]) (own_onN HO4.out (by (repeat (first | with_reducible exact HW5.out | with_reducible exact HW6.out | with_reducible exact Below.refl _ _ | with_reducible refine below_drew ?_ | with_reducible refine Below.alloc ?_ (by first | exact HW6.out.size | exact HW5.out.size | omega | (simp; done) | (simp; omega)) _)))) (some ⟨w6.heap.size, 0, none⟩) 1 1 [.slice ea en ec, .slice ea' en' ec'] (by simp [Act.eval, Act.put]) rfl (rd_two _ _ _ _) HONE.out (fun h => by cases h) (by omega) (by first | exact (HD4.out.trans ((show Below wc.heap.size wc _ from by (repeat (first | with_reducible exact HW5.out | with_reducible exact HW6.out | with_reducible exact Below.refl _ _ | with_reducible refine below_drew ?_ | with_reducible refine Below.alloc ?_ (by first | exact HW6.out.size | exact HW5.out.size | omega | (simp; done) | (simp; omega)) _))).mono HD4.out.size)).size) ?_; intro v7 w7 ho7 hg7; have HF := Lib.hid (HFIN.out v7 w7 _ (by (repeat (first | with_reducible exact HW5.out | with_reducible exact HW6.out | with_reducible exact Below.refl _ _ | with_reducible refine below_drew ?_ | with_reducible refine Below.alloc ?_ (by first | exact HW6.out.size | exact HW5.out.size | omega | (simp; done) | (simp; omega)) _))) ho7 hg7); have HF7 := Lib.hid (HALF.out _ _ (by (repeat (first | with_reducible exact HW5.out | with_reducible exact HW6.out | with_reducible exact Below.refl _ _ | with_reducible refine below_drew ?_ | with_reducible refine Below.alloc ?_ (by first | exact HW6.out.size | exact HW5.out.size | omega | (simp; done) | (simp; omega)) _))) hg7); clear ho7 hg7))
                  all_goals
                    refine HJ.out _ _ ?_
                    dsimp
                    go_wp2
                    go_roundg k
                    case rel => exact HF.out
                    case measure => omega
end Go.Proofs.YtipibipaocpojaaDoor
