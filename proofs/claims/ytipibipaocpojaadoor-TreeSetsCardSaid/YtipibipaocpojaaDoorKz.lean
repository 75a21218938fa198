/- The walk of the law TreeSets. -/
import Derived.Test.YtipibipaocpojaaDoorKp
import Derived.Test.YtipibipaocpojaaDoorRg
namespace Go.Proofs.YtipibipaocpojaaDoor
open Go.RowKit Go.Shelf
set_option linter.unusedVariables false
set_option linter.unusedSimpArgs false

/-- Boxes of trees, what lies in them; trees that can be read. -/
structure Stg (w W : World) (bx : List (Nat × Cel)) (rp : List MT) : Prop where
  below : Below w.heap.size w W
  box : ∀ x ∈ bx, BoxT W x.1 x.2
  rep : ∀ t ∈ rp, Rep W t
theorem Stg.on {w W W' : World} {bx : List (Nat × Cel)} {rp : List MT} (h : Stg w W bx rp) (hb : Below W.heap.size W W') : Stg w W' bx rp :=
  ⟨h.below.trans (hb.mono h.below.size), fun x hx => (h.box x hx).on (hb.block _ (h.box x hx).lt), fun t ht => (h.rep t ht).on hb⟩
theorem Stg.drew {w W : World} {bx : List (Nat × Cel)} {rp : List MT} (h : Stg w W bx rp) : Stg w W.drew bx rp := h.on (below_drew (Below.refl _ _))
theorem Stg.push {w W : World} {bx : List (Nat × Cel)} {rp : List MT} (h : Stg w W bx rp) (c : Cel) : Stg w (W.alloc (.cells c.cells.toArray 28)) ((W.heap.size, c) :: bx) rp := by
  have h2 := h.on ((Below.refl W.heap.size W).alloc (Nat.le_refl _) (.cells c.cells.toArray 28))
  refine ⟨h2.below, fun x hx => ?_, h2.rep⟩
  rcases List.mem_cons.1 hx with rfl | hx
  · exact heap_alloc_new W _
  · exact h2.box x hx
theorem Stg.add {w W : World} {bx : List (Nat × Cel)} {rp : List MT} (h : Stg w W bx rp) {t : MT} (ht : Rep W t) : Stg w W bx (t :: rp) :=
  ⟨h.below, h.box, fun x hx => by rcases List.mem_cons.1 hx with rfl | hx; exact ht; exact h.rep x hx⟩
theorem Stg.cel {w W : World} {bx : List (Nat × Cel)} {rp : List MT} (h : Stg w W bx rp) (b : Nat) (c : Cel) (hm : (b, c) ∈ bx) : BoxT W b c := h.box (b, c) hm
theorem step_callW {w : World} {ops : Array Oper} {o : Oper} {a : Act} {K : Act → World → Prop} {Q : Exit → Act → World → Prop} {E : Prop} (hw : Region.wanted o (yielded ops a.tmps) = true) (n : Nat) (fn : Func) (hf : Tryd.prog.funcs[n]? = some fn) (hn : (fn.name == "runtime.NumGoroutine") = false) (hb : fn.body.isNone = false)
    (args : Array Operand) (ts : Array TypeId) (ho : o.op = .call { callee := .value (.func n), args := args, argTypes := ts }) (vs : Array Value) (hv : args.map a.eval = vs) {Post : Ending → World → Prop} (C : Calls Tryd.prog n vs w Post)
    (h : ∀ r w', Post r w' → ∃ v, r = .returned v ∧ K (a.put o.dst v) w') :
    if Region.wanted o (yielded ops a.tmps) = true then Oper.wp Tryd.prog o a w K Q else E := by
  rw [if_pos hw]
  have hx : (execOp a.eval o).run Tryd.prog w = .ok (.enter n vs) w := by
    have e0 : a.eval (.func n) = .func (.func n) #[] #[] := rfl
    simp [execOp, ho, resolve, Deferred.ofValue, invoke, callFunc, hf, hv, e0, go_sem]
    rw [if_neg (by simpa using hn), if_neg (by intro h0; rw [h0] at hb; cases hb)]
  unfold Oper.wp
  rw [hx, Oper.upon_enter]
  exact C.mono (fun r w' hp => by obtain ⟨v, rfl, hk⟩ := h r w' hp; exact hk)
theorem boxT_range {w : World} {b : Nat} {c : Cel} (h : BoxT w b c) : w.rangeAt b 0 c.cells := fun j v hv => by
  unfold BoxT at h
  simp [World.cell?, h, hv]
/-- What holds from round to round of the second loop. -/
def LM (W0 : World) (n k : Nat) (i : Value) (wr : World) : Prop :=
  ∃ j : Nat, 1 ≤ j ∧ j ≤ n ∧ n - j ≤ k ∧ i = .int .i64 (j : Int) ∧ Below W0.heap.size W0 wr
/-- What Member's answer is put into. -/
def MCut (wr : World) (P : Cel → Prop) (v14 v15 : Value) (wx : World) : Prop := ∃ b c, v14 = .pointer (some ⟨b, 0, none⟩) ∧ v15 = .bool true ∧ P c ∧ BoxT wx b c ∧ Below wr.heap.size wr wx
theorem mcut_late {wr w' : World} {P : Cel → Prop} {c : Cel} (hp : P c) (h : Below wr.heap.size wr w') : MCut wr P (.pointer (some ⟨w'.heap.size, 0, none⟩)) (.bool true) (w'.alloc (.cells c.cells.toArray 28)) :=
  ⟨w'.heap.size, c, rfl, rfl, hp, heap_alloc_new w' _, h.alloc h.size _⟩
theorem mcut_early {wr w' : World} {P : Cel → Prop} {c : Cel} (hp : P c) (h : Below (wr.alloc (.cells #[.int .i64 0, .bool false, .bool false, .slice none 0 0, .int .i64 0, .string ⟨#[]⟩, .slice none 0 0, .slice none 0 0] 28)).heap.size (wr.alloc (.cells #[.int .i64 0, .bool false, .bool false, .slice none 0 0, .int .i64 0, .string ⟨#[]⟩, .slice none 0 0, .slice none 0 0] 28)) w') : MCut wr P (.pointer (some ⟨wr.heap.size, 0, none⟩)) (.bool true) (put0 w' wr.heap.size c) := by
  have h1 : Below wr.heap.size wr w' := ((Below.refl wr.heap.size wr).alloc (Nat.le_refl _) _).trans (h.mono (by simp))
  have hz : BoxT w' wr.heap.size (leafC 0 false ⟨#[]⟩) := (show BoxT _ wr.heap.size (leafC 0 false ⟨#[]⟩) from heap_alloc_new wr _).on (h.block _ (by simp))
  exact ⟨wr.heap.size, c, rfl, rfl, hp, put0_box hz, h1.trans ((put0_but _ _ _).below (Nat.le_refl _) h1.size)⟩
theorem stg_two (w : World) (c d : Cel) (rp : List MT) (h : ∀ t ∈ rp, Rep w t) : Stg w (two2 w c d) [(w.heap.size, c), (w.heap.size + 1, d)] rp := by
  refine ⟨two_below2 _ _ _, fun x hx => ?_, fun t ht => (h t ht).on (two_below2 _ _ _)⟩
  rcases List.mem_cons.1 hx with rfl | hx
  · exact (two2_box w c d).1
  · rw [List.mem_singleton.1 hx]; exact (two2_box w c d).2

set_option maxHeartbeats 60000000 in
set_option maxRecDepth 100000 in
theorem treeSets_walk (t : MT) (s : ByteArray) (v : MT) (w : World) (hR : Rep w t) (hs : s.size ≤ maxLen) (hV : Rep w v) (hT : UT w) :
    Calls Tryd.prog 3 #[t.c.val, .string s, v.c.val] w (BoolBelow true w) := by
  have KAW := Lib.hid (fun W (h : Below w.heap.size w W) => awake5_any W (hT.below h))
  have KC1 := Lib.hid (fun W (h : Below w.heap.size w W) => checkT_any t W (hR.on h) (hT.below h))
  have KC2 := Lib.hid (fun W (h : Below w.heap.size w W) => checkT_any v W (hV.on h) (hT.below h))
  have KL1 := Lib.hid (fun W (h : Below w.heap.size w W) => lightB_any t 100 W (by decide) (by decide) (hR.on h))
  have KL2 := Lib.hid (fun W (h : Below w.heap.size w W) => lightB_any v 60 W (by decide) (by decide) (hV.on h))
  have KSE := Lib.hid (fun (h : ObjOk t) p j has (hp : PlaceOk t s p j has) W (h1 : Rep W t) (h2 : Rep W v) => set_law h hp W h1 h2 hs)
  have KMT := Lib.hid (fun (h : ObjOk t) p j has (hp : PlaceOk t s p j has) W (h1 : Rep W t) => member_t h hp W h1)
  have KUT := Lib.hid (fun (h : ObjOk t) p j has (hp : PlaceOk t s p j has) W (h1 : Rep W t) => unset_t h hp W h1)
  have HST := Lib.hid (stg_two w t.c v.c [t, v] (fun x hx => by simp at hx; rcases hx with rfl | rfl; exact hR; exact hV))
  have HOK := Lib.hid (fun (h1 : checkB t = true) (h2 : t.c.k = 7) => obj_ok hR h1 h2)
  have HNV := Lib.hid (fun (h1 : checkB v = true) => (⟨check_nums h1, (check_sound h1).1⟩ : NumsOk v ∧ v.nodes ≤ 2000))
  have KVV := Lib.hid (fun W (h : Rep W v) (h1 : NumsOk v) (h2 : v.nodes ≤ 2000) => (by have := treeSame_any v v W h h h1 h1 (by omega); rwa [sameM_refl] at this : Calls Tryd.prog 13 #[v.c.val, v.c.val] W (BoolBelow true W)))
  have HKN := Lib.hid (show ∀ (h : ObjOk t), t.c.kn = t.k.length ∧ t.c.vn = t.k.length from fun h => ⟨h.kn, h.vn.trans h.kv.symm⟩)
  have HKR := Lib.hid (fun W (h : Rep W t) => h.own.kr)
  have HVR := Lib.hid (fun W (h : Rep W t) => h.own.vr)
  clear hR hV hT
  generalize checkB t = ch1 at *
  generalize checkB v = ch2 at *
  generalize hc1 : t.c = c1 at *
  generalize hc2 : v.c = c2 at *
  obtain ⟨k1, b1, neg1, ma1, mn1, mc1, e1, s1, ka1, kn1, kc1, va1, vn1, vc1⟩ := c1
  obtain ⟨k2, b2, neg2, ma2, mn2, mc2, e2, s2, ka2, kn2, kc2, va2, vn2, vc2⟩ := c2
  have HC1 := Lib.hid hc1; have HC2 := Lib.hid hc2
  clear hc1 hc2
  obtain ⟨W0, hW0⟩ : ∃ x, two2 w ⟨k1, b1, neg1, ma1, mn1, mc1, e1, s1, ka1, kn1, kc1, va1, vn1, vc1⟩ ⟨k2, b2, neg2, ma2, mn2, mc2, e2, s2, ka2, kn2, kc2, va2, vn2, vc2⟩ = x := ⟨_, rfl⟩
  rw [hW0] at HST
  unfold two2 Cel.cells at hW0
  unfold Cel.val at KC1 KC2 KL1 KL2 KSE KMT KUT KVV ⊢
  simp only at hW0 HOK HKN HKR HVR
  have HW0 := Lib.hid hW0
  clear hW0
  go_enter Tryd.func3, Tryd.ntmps3
  go_wp2_with fail
  rw [HW0.out]
  refine (KC1.out _ HST.out.below).mono ?_
  rintro r1 w1 ⟨rfl, h1⟩
  have HS1 := Lib.hid (HST.out.on h1)
  clear h1 HST HW0
  cases ch1
  · go_wp2_with fail
    refine (KAW.out _ HS1.out.below).mono ?_
    rintro ra wa ⟨rfl, ha⟩
    have HA := Lib.hid ((HS1.out.on ha).below)
    clear ha
    go_wp2
    go_ret
    exact BoolBelow.mk rfl HA.out
  obtain ⟨y0, y1, y2, y3, y4, y5, y6, y7⟩ := ((HS1.out).cel (w.heap.size + 1) ⟨k2, b2, neg2, ma2, mn2, mc2, e2, s2, ka2, kn2, kc2, va2, vn2, vc2⟩ (by simp)).cells; simp only at y0 y1 y2 y3 y4 y5 y6 y7
  go_wp2_with fail
  refine (KC2.out _ HS1.out.below).mono ?_
  rintro r2 w2 ⟨rfl, h2⟩
  have HS2 := Lib.hid (HS1.out.on h2)
  clear h2 HS1
  clear y0 y1 y2 y3 y4 y5 y6 y7
  cases ch2
  · go_wp2_with fail
    refine (KAW.out _ HS2.out.below).mono ?_
    rintro ra wa ⟨rfl, ha⟩
    have HA := Lib.hid ((HS2.out.on ha).below)
    clear ha
    go_wp2
    go_ret
    exact BoolBelow.mk rfl HA.out
  obtain ⟨y0, y1, y2, y3, y4, y5, y6, y7⟩ := ((HS2.out).cel w.heap.size ⟨k1, b1, neg1, ma1, mn1, mc1, e1, s1, ka1, kn1, kc1, va1, vn1, vc1⟩ (by simp)).cells; simp only at y0 y1 y2 y3 y4 y5 y6 y7
  go_wp2_with fail
  refine (KL1.out _ HS2.out.below).mono ?_
  rintro r3 w3 ⟨l1, rfl, h3⟩
  have HS3 := Lib.hid (HS2.out.on h3)
  clear h3 HS2
  clear y0 y1 y2 y3 y4 y5 y6 y7
  cases l1
  · go_wp2_with fail
    refine (KAW.out _ HS3.out.below).mono ?_
    rintro ra wa ⟨rfl, ha⟩
    have HA := Lib.hid ((HS3.out.on ha).below)
    clear ha
    go_wp2
    go_ret
    exact BoolBelow.mk rfl HA.out
  obtain ⟨y0, y1, y2, y3, y4, y5, y6, y7⟩ := ((HS3.out).cel (w.heap.size + 1) ⟨k2, b2, neg2, ma2, mn2, mc2, e2, s2, ka2, kn2, kc2, va2, vn2, vc2⟩ (by simp)).cells; simp only at y0 y1 y2 y3 y4 y5 y6 y7
  go_wp2_with fail
  refine (KL2.out _ HS3.out.below).mono ?_
  rintro r4 w4 ⟨l2, rfl, h4⟩
  have HS4 := Lib.hid (HS3.out.on h4)
  clear h4 HS3
  clear y0 y1 y2 y3 y4 y5 y6 y7
  cases l2
  · go_wp2_with fail
    refine (KAW.out _ HS4.out.below).mono ?_
    rintro ra wa ⟨rfl, ha⟩
    have HA := Lib.hid ((HS4.out.on ha).below)
    clear ha
    go_wp2
    go_ret
    exact BoolBelow.mk rfl HA.out
  obtain ⟨y0, y1, y2, y3, y4, y5, y6, y7⟩ := ((HS4.out).cel w.heap.size ⟨k1, b1, neg1, ma1, mn1, mc1, e1, s1, ka1, kn1, kc1, va1, vn1, vc1⟩ (by simp)).cells; simp only at y0 y1 y2 y3 y4 y5 y6 y7
  obtain ⟨x0, x1, x2, x3, x4, x5, x6, x7⟩ := ((HS4.out).cel (w.heap.size + 1) ⟨k2, b2, neg2, ma2, mn2, mc2, e2, s2, ka2, kn2, kc2, va2, vn2, vc2⟩ (by simp)).cells; simp only at x0 x1 x2 x3 x4 x5 x6 x7
  by_cases h7 : k1 = 7
  case neg =>
    have h7b : (k1 != 7) = true := by rw [bne_iff_ne]; exact h7
    clear x0 x1 x2 x3 x4 x5 x6 x7
    go_wp2_with fail
    refine (KAW.out _ HS4.out.below).mono ?_
    rintro ra wa ⟨rfl, ha⟩
    have HA := Lib.hid ((HS4.out.on ha).below)
    clear ha
    go_wp2
    go_ret
    exact BoolBelow.mk rfl HA.out
  subst h7
  by_cases h100 : (100 : Int) < (s.size : Int)
  · clear x0 x1 x2 x3 x4 x5 x6 x7
    go_wp2_with fail
    refine (KAW.out _ HS4.out.below).mono ?_
    rintro ra wa ⟨rfl, ha⟩
    have HA := Lib.hid ((HS4.out.on ha).below)
    clear ha
    go_wp2
    go_ret
    exact BoolBelow.mk rfl HA.out
  have HO := Lib.hid (HOK.out (by simp) rfl)
  have HN := Lib.hid (HNV.out (by simp))
  obtain ⟨p, j, has, hp⟩ := place_ok HO.out s
  have HP := Lib.hid hp
  clear hp HOK HNV KC1 KC2 KL1 KL2
  go_wp2_with fail
  refine (KSE.out HO.out p j has HP.out _ (HS4.out.rep t (by simp)) (HS4.out.rep v (by simp))).mono ?_
  rintro r5 w5 ⟨u, rfl, h5r, h5u, h5⟩
  have HU := Lib.hid h5u
  have HS5 := Lib.hid ((HS4.out.on h5).add h5r)
  clear h5r h5u h5 HS4 KSE
  clear x0 x1 x2 x3 x4 x5 x6 x7 y0 y1 y2 y3 y4 y5 y6 y7
  have KMU := Lib.hid (fun W (h : Rep W u) => (by have := member_u HO.out HP.out HU.out W h; rwa [HC2.out] at this : Calls Tryd.prog 11 #[u.c.val, .string s] W (MemPost (fun c => c = ⟨k2, b2, neg2, ma2, mn2, mc2, e2, s2, ka2, kn2, kc2, va2, vn2, vc2⟩) true W)))
  have KUU := Lib.hid (fun W (h : Rep W u) => unset_u HO.out HP.out HU.out W h)
  have KMI := Lib.hid (fun W (h : Rep W u) i hi => member_i HO.out HP.out HU.out W h i hi)
  have HUK := Lib.hid (show u.c.kn = u.k.length ∧ u.c.vn = u.k.length from ⟨HU.out.kn, HU.out.vn.trans HU.out.kv.symm⟩)
  have HUR := Lib.hid (fun W (h : Rep W u) => h.own.kr)
  have HUI := Lib.hid (show Ris u.k by rw [HU.out.k]; exact spl_ris HO.out.ris HP.out.spl)
  have HUL := Lib.hid HU.out.le
  have HS6 := Lib.hid (HS5.out.push u.c)
  generalize hc3 : u.c = c3 at *
  obtain ⟨k3, b3, neg3, ma3, mn3, mc3, e3, s3, ka3, kn3, kc3, va3, vn3, vc3⟩ := c3
  have HC3 := Lib.hid hc3
  unfold Cel.val at KMU KUU KMI ⊢
  simp only at HUK HUR
  obtain ⟨w6, hw6⟩ : ∃ x, w5.alloc (.cells (Cel.cells ⟨k3, b3, neg3, ma3, mn3, mc3, e3, s3, ka3, kn3, kc3, va3, vn3, vc3⟩).toArray 28) = x := ⟨_, rfl⟩
  rw [hw6] at HS6
  unfold Cel.cells at hw6
  simp only at hw6
  clear hc3 HS5
  obtain ⟨y0, y1, y2, y3, y4, y5, y6, y7⟩ := ((HS6.out).cel w5.heap.size ⟨k3, b3, neg3, ma3, mn3, mc3, e3, s3, ka3, kn3, kc3, va3, vn3, vc3⟩ (by simp)).cells; simp only at y0 y1 y2 y3 y4 y5 y6 y7
  go_wp2_with fail
  clear hw6
  clear y0 y1 y2 y3 y4 y5 y6 y7
  generalize w5.heap.size = bu at HS6 ⊢
  refine (KMU.out _ (HS6.out.rep u (by simp))).mono ?_
  rintro r7 w7 ⟨c4, rfl, rfl, h7⟩
  have HS7 := Lib.hid (HS6.out.on h7)
  have HS8 := Lib.hid (HS7.out.push ⟨k2, b2, neg2, ma2, mn2, mc2, e2, s2, ka2, kn2, kc2, va2, vn2, vc2⟩)
  clear h7 HS6 KMU
  obtain ⟨w8, hw8⟩ : ∃ x, w7.alloc (.cells (Cel.cells ⟨k2, b2, neg2, ma2, mn2, mc2, e2, s2, ka2, kn2, kc2, va2, vn2, vc2⟩).toArray 28) = x := ⟨_, rfl⟩
  rw [hw8] at HS8
  unfold Cel.cells at hw8
  simp only at hw8
  obtain ⟨y0, y1, y2, y3, y4, y5, y6, y7⟩ := ((HS8.out).cel w.heap.size ⟨7, b1, neg1, ma1, mn1, mc1, e1, s1, ka1, kn1, kc1, va1, vn1, vc1⟩ (by simp)).cells; simp only at y0 y1 y2 y3 y4 y5 y6 y7
  unfold Cel.val
  go_wp2_with fail
  clear hw8 HS7
  clear y0 y1 y2 y3 y4 y5 y6 y7
  generalize w7.heap.size = bx at HS8 ⊢
  refine (KMT.out HO.out p j has HP.out _ (HS8.out.rep t (by simp))).mono ?_
  rintro r9 w9 ⟨c5, rfl, _, h9⟩
  have HS9 := Lib.hid (HS8.out.on h9)
  have HS10 := Lib.hid (HS9.out.on ((Below.refl w9.heap.size w9).alloc (Nat.le_refl _) (.cells c5.cells.toArray 28)))
  clear h9 HS8 KMT
  obtain ⟨k5, b5, neg5, ma5, mn5, mc5, e5, s5, ka5, kn5, kc5, va5, vn5, vc5⟩ := c5
  obtain ⟨w10, hw10⟩ : ∃ x, w9.alloc (.cells (Cel.cells ⟨k5, b5, neg5, ma5, mn5, mc5, e5, s5, ka5, kn5, kc5, va5, vn5, vc5⟩).toArray 28) = x := ⟨_, rfl⟩
  rw [hw10] at HS10
  unfold Cel.cells at hw10
  simp only at hw10
  obtain ⟨y0, y1, y2, y3, y4, y5, y6, y7⟩ := ((HS10.out).cel bu ⟨k3, b3, neg3, ma3, mn3, mc3, e3, s3, ka3, kn3, kc3, va3, vn3, vc3⟩ (by simp)).cells; simp only at y0 y1 y2 y3 y4 y5 y6 y7
  unfold Cel.val
  go_wp2_with fail
  clear hw10 HS9
  clear y0 y1 y2 y3 y4 y5 y6 y7
  generalize w9.heap.size = bz at ⊢
  refine (KUU.out _ (HS10.out.rep u (by simp))).mono ?_
  rintro r11 w11 ⟨y, rfl, h11r, h11u, h11⟩
  have HY := Lib.hid h11u
  have HS11 := Lib.hid ((HS10.out.on h11).add h11r)
  have HS12 := Lib.hid (HS11.out.push y.c)
  clear h11 h11r h11u HS10 KUU
  have HYK := Lib.hid (show y.c.kn = y.k.length from HY.out.kn)
  have HYL := Lib.hid HY.out.le
  generalize hc6 : y.c = c6 at *
  obtain ⟨k6, b6, neg6, ma6, mn6, mc6, e6, s6, ka6, kn6, kc6, va6, vn6, vc6⟩ := c6
  have HC6 := Lib.hid hc6
  simp only at HYK
  obtain ⟨w12, hw12⟩ : ∃ x, w11.alloc (.cells (Cel.cells ⟨k6, b6, neg6, ma6, mn6, mc6, e6, s6, ka6, kn6, kc6, va6, vn6, vc6⟩).toArray 28) = x := ⟨_, rfl⟩
  rw [hw12] at HS12
  unfold Cel.cells at hw12
  simp only at hw12
  clear hc6 HS11


  obtain ⟨y0, y1, y2, y3, y4, y5, y6, y7⟩ := ((HS12.out).cel bu ⟨k3, b3, neg3, ma3, mn3, mc3, e3, s3, ka3, kn3, kc3, va3, vn3, vc3⟩ (by simp)).cells; simp only at y0 y1 y2 y3 y4 y5 y6 y7
  obtain ⟨x0, x1, x2, x3, x4, x5, x6, x7⟩ := ((HS12.out).cel bx ⟨k2, b2, neg2, ma2, mn2, mc2, e2, s2, ka2, kn2, kc2, va2, vn2, vc2⟩ (by simp)).cells; simp only at x0 x1 x2 x3 x4 x5 x6 x7
  obtain ⟨z0, z1, z2, z3, z4, z5, z6, z7⟩ := ((HS12.out).cel (w.heap.size + 1) ⟨k2, b2, neg2, ma2, mn2, mc2, e2, s2, ka2, kn2, kc2, va2, vn2, vc2⟩ (by simp)).cells; simp only at z0 z1 z2 z3 z4 z5 z6 z7
  unfold Cel.val
  go_upto_region 7 with fail
  clear hw12
  generalize w11.heap.size = bj at HS12 ⊢
  have hk6 : kn6 ≤ 300 := by have h1 := HO.out.le; have h2 := HYK.out; have h4 := HYL.out; have h5 := HP.out.spl.pq; omega
  have HQ := Lib.hid hk6
  clear hk6
  have e3 : kn3 = kn6 + 1 := by have h1 := HUK.out; have h2 := HYK.out; have h3 := HUL.out; have h4 := HYL.out; omega
  have e4 : vn3 = kn6 + 1 := by have h1 := HUK.out; have h2 := HYK.out; have h3 := HUL.out; have h4 := HYL.out; omega
  subst e3 e4
  go_cut [102] from 17 to 175 (fun v wx => v = .bool false ∧ Below w12.heap.size w12 wx)
  case first =>
    rename_i J K hJ hK
    have HJ := Lib.hid hJ
    refine wp_first J hK ?_
    clear hJ hK
    go_wp2_with fail
    clear x0 x1 x2 x3 x4 x5 x6 x7 y0 y1 y2 y3 y4 y5 y6 y7 z0 z1 z2 z3 z4 z5 z6 z7
    refine (KVV.out _ (HS12.out.rep v (by simp)) HN.out.1 HN.out.2).mono ?_
    rintro r13 w13 ⟨rfl, h13⟩
    have HB13 := Lib.hid h13
    have HS13 := Lib.hid (HS12.out.on h13)
    clear h13 HS12 KVV
    have hk6' : (kn6 : Int) ≤ 300 := by have := HQ.out; omega
    obtain ⟨y0, y1, y2, y3, y4, y5, y6, y7⟩ := ((HS13.out).cel bu ⟨k3, b3, neg3, ma3, mn3, mc3, e3, s3, ka3, (kn6 + 1), kc3, va3, (kn6 + 1), vc3⟩ (by simp)).cells; simp only at y0 y1 y2 y3 y4 y5 y6 y7
    obtain ⟨x0, x1, x2, x3, x4, x5, x6, x7⟩ := ((HS13.out).cel bj ⟨k6, b6, neg6, ma6, mn6, mc6, e6, s6, ka6, kn6, kc6, va6, vn6, vc6⟩ (by simp)).cells; simp only at x0 x1 x2 x3 x4 x5 x6 x7
    obtain ⟨z0, z1, z2, z3, z4, z5, z6, z7⟩ := ((HS13.out).cel w.heap.size ⟨7, b1, neg1, ma1, mn1, mc1, e1, s1, ka1, kn1, kc1, va1, vn1, vc1⟩ (by simp)).cells; simp only at z0 z1 z2 z3 z4 z5 z6 z7
    have hq : ((kn6 : Int) + 1 == (kn1 : Int)) = has := by
      have h1 := (HKN.out HO.out).1; have h2 := HYK.out; have h4 := HYL.out
      cases has with
      | true =>
        obtain ⟨_, h5⟩ := HP.out.yes rfl
        have : (kn6 : Int) + 1 = (kn1 : Int) := by omega
        rw [this]; simp
      | false =>
        obtain ⟨_, h5, _⟩ := HP.out.no rfl
        have : ¬ (kn6 : Int) + 1 = (kn1 : Int) := by omega
        simp [this]
    go_wp2_with fail
    refine HJ.out _ _ ?_
    (repeat apply Exists.intro)
    exact ⟨⟨rfl, HB13.out⟩, rfl⟩
  case rest =>
  obtain ⟨rfl, hb13⟩ := hcut
  obtain ⟨w13, hw13⟩ : ∃ x, x = wc := ⟨_, rfl⟩
  subst hw13
  have HS13 := Lib.hid (HS12.out.on hb13)
  clear hb13 HS12 KVV
  clear x0 x1 x2 x3 x4 x5 x6 x7 y0 y1 y2 y3 y4 y5 y6 y7 z0 z1 z2 z3 z4 z5 z6 z7
  obtain ⟨z0, z1, z2, z3, z4, z5, z6, z7⟩ := ((HS13.out).cel w.heap.size ⟨7, b1, neg1, ma1, mn1, mc1, e1, s1, ka1, kn1, kc1, va1, vn1, vc1⟩ (by simp)).cells; simp only at z0 z1 z2 z3 z4 z5 z6 z7
  generalize Value.agg #[.int .i64 7, .bool b1, .bool neg1, .slice ma1 mn1 mc1, .int .i64 e1, .string s1, .slice ka1 kn1 kc1, .slice va1 vn1 vc1] = A1
  generalize Value.agg #[.int .i64 k2, .bool b2, .bool neg2, .slice ma2 mn2 mc2, .int .i64 e2, .string s2, .slice ka2 kn2 kc2, .slice va2 vn2 vc2] = A2
  go_wp2_with fail
  clear z0 z1 z2 z3 z4 z5 z6 z7

  go_loopg [13] kn1 (fun k i wr => LN w13 kn1 k i wr)
  case atStart => exact ⟨0, Nat.zero_le _, by omega, rfl, Below.refl _ _⟩
  case round =>
    obtain ⟨i, hi, hk, rfl, hb⟩ := hrel
    have HSr := Lib.hid (HS13.out.on hb)
    have HB := Lib.hid hb
    clear hb
    by_cases hlt : i < kn1
    · obtain ⟨k, rfl⟩ : ∃ k, gk = k + 1 := ⟨gk - 1, by omega⟩
      have hiz : (i : Int) < (kn1 : Int) := by omega
      have hil : i < t.k.length := by have := (HKN.out HO.out).1; omega
      have hi3 : i ≤ 300 := by have := HO.out.le; omega
      have hi3z : (i : Int) ≤ 300 := by omega
      have hiv : i < t.v.length := by have := HO.out.kv; omega
      obtain ⟨bk, o, rfl, hbl, hc⟩ := HKR.out wr (HSr.out.rep t (by simp)) i (by rw [sv_len]; exact hil)
      rw [sv_get _ _ hil] at hc
      have KM := Lib.hid (fun W (h : Rep W u) => KMI.out W h i hil)
      obtain ⟨y0, y1, y2, y3, y4, y5, y6, y7⟩ := ((HSr.out).cel bu ⟨k3, b3, neg3, ma3, mn3, mc3, e3, s3, ka3, (kn6 + 1), kc3, va3, (kn6 + 1), vc3⟩ (by simp)).cells; simp only at y0 y1 y2 y3 y4 y5 y6 y7
      obtain ⟨z0, z1, z2, z3, z4, z5, z6, z7⟩ := ((HSr.out).cel w.heap.size ⟨7, b1, neg1, ma1, mn1, mc1, e1, s1, (some ⟨bk, o, none⟩), kn1, kc1, va1, vn1, vc1⟩ (by simp)).cells; simp only at z0 z1 z2 z3 z4 z5 z6 z7
      have hbu : bu < wr.heap.size := (HSr.out.cel bu ⟨k3, b3, neg3, ma3, mn3, mc3, e3, s3, ka3, (kn6 + 1), kc3, va3, (kn6 + 1), vc3⟩ (by simp)).lt
      have hbt : w.heap.size < wr.heap.size := (HSr.out.cel w.heap.size ⟨7, b1, neg1, ma1, mn1, mc1, e1, s1, (some ⟨bk, o, none⟩), kn1, kc1, va1, vn1, vc1⟩ (by simp)).lt
      have HSz := Lib.hid (show Stg w (wr.alloc (.cells #[.int .i64 0, .bool false, .bool false, .slice none 0 0, .int .i64 0, .string ⟨#[]⟩, .slice none 0 0, .slice none 0 0] 28)) _ _ from HSr.out.push (leafC 0 false ⟨#[]⟩))
      generalize hx : t.k.getD i ByteArray.empty = x at KM hc
      generalize hvc : (t.v.getD i (leafT 0 false ⟨#[]⟩)).c = cv at KM
      have HXX := Lib.hid hx; have HVC := Lib.hid hvc
      clear hx hvc
      go_wp2_with fail
      go_cut [14, 15] from 103 to 140 (fun v14 v15 wx => MCut wr (fun c => x ≠ s → c = cv) v14 v15 wx)
      case first =>
        rename_i J K hJ hK
        have HJ := Lib.hid hJ
        refine wp_first J hK ?_
        clear hJ hK
        go_region_law (refine step_callT rfl 11 _ Tryd.func11 (by kernel_rfl) (by kernel_rfl) #[.tmp 111, .tmp 116] _ rfl #[.agg #[.int .i64 k3, .bool b3, .bool neg3, .slice ma3 mn3 mc3, .int .i64 e3, .string s3, .slice ka3 (kn6 + 1) kc3, .slice va3 (kn6 + 1) vc3], .string x] (by simp [Act.eval, Act.put]) (KM.out _ (by with_reducible first | exact HSr.out.drew.rep u (by simp) | exact HSz.out.drew.rep u (by simp))) ?_; rintro r14 w14 ⟨c8, hr14, hP, h14⟩; obtain ⟨k8, b8, neg8, ma8, mn8, mc8, e8, s8, ka8, kn8, kc8, va8, vn8, vc8⟩ := c8; unfold Cel.val at hr14; simp only at hr14; subst hr14; first | (have HF1 := Lib.hid (mcut_late (P := fun c => x ≠ s → c = cv) (c := ⟨k8, b8, neg8, ma8, mn8, mc8, e8, s8, ka8, kn8, kc8, va8, vn8, vc8⟩) hP (show Below wr.heap.size wr w14 from by with_reducible exact bdc h14))) | (have HF2 := Lib.hid (mcut_early (P := fun c => x ≠ s → c = cv) (c := ⟨k8, b8, neg8, ma8, mn8, mc8, e8, s8, ka8, kn8, kc8, va8, vn8, vc8⟩) hP (bdc h14)); have hvv := ((HSz.out.on (bdc h14)).cel wr.heap.size (leafC 0 false ⟨#[]⟩) (by simp)).var; unfold Var at hvv; obtain ⟨⟨g0, g1, g2, g3, g4, g5, g6, g7⟩, f0, f1, f2, f3, f4, f5, f6, f7⟩ := hvv; simp only [leafC] at g0 g1 g2 g3 g4 g5 g6 g7); clear h14; refine ⟨_, rfl, ?_⟩)
        all_goals
          refine HJ.out _ _ ?_
          (repeat apply Exists.intro)
          first
            | exact ⟨HF1.out, rfl⟩
            | exact ⟨HF2.out, rfl⟩
      case rest =>
        obtain ⟨b9, c9, rfl, rfl, hP, hbx9, hb9⟩ := hcut
        have HSc := Lib.hid (HSr.out.on hb9)
        have HB9 := Lib.hid (bby HB.out hb9)
        have HNX := Lib.hid (show ∀ W, Below w13.heap.size w13 W → LN w13 kn1 k (.int .i64 ((i : Int) + 1)) W from fun W h => ⟨i + 1, by omega, by omega, rfl, h⟩)
        clear y0 y1 y2 y3 y4 y5 y6 y7 z0 z1 z2 z3 z4 z5 z6 z7
        have hc9 : wc.cell? ⟨bk, o + i, none⟩ = some (.string x) := (hb9.cell (p := ⟨bk, o + i, none⟩) hbl).trans hc
        clear hc
        obtain ⟨z0, z1, z2, z3, z4, z5, z6, z7⟩ := ((HSc.out).cel w.heap.size ⟨7, b1, neg1, ma1, mn1, mc1, e1, s1, (some ⟨bk, o, none⟩), kn1, kc1, va1, vn1, vc1⟩ (by simp)).cells; simp only at z0 z1 z2 z3 z4 z5 z6 z7
        have hlk : bk < wc.heap.size := Nat.lt_of_lt_of_le hbl hb9.size
        by_cases hne : x = s
        · have he2 : eqS x s = true := eqS_iff.2 hne
          unfold eqS at he2
          clear hne hP hbx9 hb9
          go_wp2_with fail
          go_quiet (fail)
          go_wp2
          go_roundg k
          case rel => exact HNX.out _ (below_drewN' HB9.out _)
          case measure => omega
        · have he2 : eqS x s = false := eqS_no.2 hne
          unfold eqS at he2
          obtain rfl := hP hne
          have hmem : t.v.getD i (leafT 0 false ⟨#[]⟩) ∈ t.v := by simp [List.getD, hiv]
          have hrd := HVR.out wc (HSc.out.rep t (by simp))
          obtain ⟨xbk, xo, rfl, hxl⟩ := hrd.shape (by rw [flat_len, List.length_map]; omega)
          have hxx := flat_at hrd i (by rw [List.length_map]; omega) (c := c9) (by rw [getD_mapc hiv (leafT 0 false ⟨#[]⟩)]; exact HVC.out)
          have KSV := Lib.hid (fun W (h : Rep W t) => (by
            have hnn := HO.out.nums.part hmem
            have hnd : (t.v.getD i (leafT 0 false ⟨#[]⟩)).nodes ≤ 1000000 := by have h1 := MT.nodes_mem hmem; have h2 := MT.nodes_eq t; have h3 := HO.out.nodes; omega
            have := treeSame_any _ _ W (h.part hmem) (h.part hmem) hnn hnn hnd
            rw [sameM_refl, HVC.out] at this
            exact this : Calls Tryd.prog 13 #[c9.val, c9.val] W (BoolBelow true W)))
          clear hrd hP HVC
          have hb9l : b9 < wc.heap.size := hbx9.lt
          obtain ⟨k9, b9, neg9, ma9, mn9, mc9, e9, s9, ka9, kn9, kc9, va9, vn9, vc9⟩ := c9
          unfold Cel.val at KSV
          obtain ⟨q0, q1, q2, q3, q4, q5, q6, q7⟩ := hbx9.cells
          obtain ⟨x0, x1, x2, x3, x4, x5, x6, x7⟩ := hxx
          simp only at q0 q1 q2 q3 q4 q5 q6 q7 x0 x1 x2 x3 x4 x5 x6 x7
          have hivz : (i : Int) < (vn1 : Int) := by have := (HKN.out HO.out).2; omega
          clear hbx9 hne hb9
          go_wp2_with fail
          go_region_with (go_at_call 13; refine (KSV.out _ (by with_reducible exact HSc.out.drew.rep t (by simp))).mono ?_; rintro r15 w15 ⟨rfl, h15⟩; have HF := Lib.hid (HNX.out _ (bby HB9.out (bdc h15))); clear h15)
          all_goals
            go_wp2
            go_roundg k
            case rel => exact HF.out
            case measure => omega
    · have hiz : ¬ (i : Int) < (kn1 : Int) := by omega
      obtain ⟨z0, z1, z2, z3, z4, z5, z6, z7⟩ := ((HSr.out).cel w.heap.size ⟨7, b1, neg1, ma1, mn1, mc1, e1, s1, ka1, kn1, kc1, va1, vn1, vc1⟩ (by simp)).cells; simp only at z0 z1 z2 z3 z4 z5 z6 z7
      go_wp2
      clear z0 z1 z2 z3 z4 z5 z6 z7
      clear HB
      obtain ⟨wl, hwl⟩ : ∃ x, x = wr := ⟨_, rfl⟩
      subst hwl
      go_loopg [16] (kn6 + 1) (fun k i w' => LM wl (kn6 + 1) k i w')
      case atStart => exact ⟨1, Nat.le_refl _, by omega, by omega, rfl, Below.refl _ _⟩
      case round =>
        obtain ⟨i2, hi1, hi2, hk2, rfl, hb2⟩ := hrel
        have HSq := Lib.hid (HSr.out.on hb2)
        have HB2 := Lib.hid hb2
        clear hb2
        by_cases hlt2 : i2 < kn6 + 1
        · obtain ⟨k, rfl⟩ : ∃ k, gk = k + 1 := ⟨gk - 1, by omega⟩
          have hkl : kn6 + 1 = u.k.length := HUK.out.1
          have hil : i2 < u.k.length := by omega
          have hiz2 : (i2 : Int) < (kn6 : Int) + 1 := by omega
          have hi3 : i2 ≤ 301 := by have := HQ.out; omega
          have hi3z : (i2 : Int) ≤ 301 := by omega
          have hi1z : 1 ≤ (i2 : Int) := by omega
          obtain ⟨bk, o, rfl, hbl, hc⟩ := HUR.out wr (HSq.out.rep u (by simp)) i2 (by rw [sv_len]; exact hil)
          rw [sv_get _ _ hil] at hc
          have hcp : wr.cell? ⟨bk, o + (i2 - 1), none⟩ = some (.string (u.k.getD (i2 - 1) ByteArray.empty)) := by
            obtain ⟨b', o', e, _, hc⟩ := HUR.out wr (HSq.out.rep u (by simp)) (i2 - 1) (by rw [sv_len]; omega)
            cases e
            rw [sv_get _ _ (by omega)] at hc; exact hc
          obtain ⟨he1, he2⟩ := ltS_yes (HUI.out (i2 - 1) i2 (by omega) hil)
          have HNX := Lib.hid (show ∀ W, Below wl.heap.size wl W → LM wl (kn6 + 1) k (.int .i64 ((i2 : Int) + 1)) W from fun W h => ⟨i2 + 1, by omega, by omega, by omega, rfl, h⟩)
          generalize u.k.getD i2 ByteArray.empty = x at hc he1 he2
          generalize u.k.getD (i2 - 1) ByteArray.empty = z at hcp he1 he2
          obtain ⟨y0, y1, y2, y3, y4, y5, y6, y7⟩ := ((HSq.out).cel bu ⟨k3, b3, neg3, ma3, mn3, mc3, e3, s3, (some ⟨bk, o, none⟩), (kn6 + 1), kc3, va3, (kn6 + 1), vc3⟩ (by simp)).cells; simp only at y0 y1 y2 y3 y4 y5 y6 y7
          go_wp2_with fail
          go_quiet (fail)
          go_wp2
          go_roundg k
          case rel => exact HNX.out _ (below_drewN' HB2.out _)
          case measure => omega
        · have hiz2 : ¬ (i2 : Int) < (kn6 : Int) + 1 := by omega
          obtain ⟨y0, y1, y2, y3, y4, y5, y6, y7⟩ := ((HSq.out).cel bu ⟨k3, b3, neg3, ma3, mn3, mc3, e3, s3, ka3, (kn6 + 1), kc3, va3, (kn6 + 1), vc3⟩ (by simp)).cells; simp only at y0 y1 y2 y3 y4 y5 y6 y7
          have hbj : bj < wr.heap.size := (HSq.out.cel bj ⟨k6, b6, neg6, ma6, mn6, mc6, e6, s6, ka6, kn6, kc6, va6, vn6, vc6⟩ (by simp)).lt
          have hbt : w.heap.size < wr.heap.size := (HSq.out.cel w.heap.size ⟨7, b1, neg1, ma1, mn1, mc1, e1, s1, ka1, kn1, kc1, va1, vn1, vc1⟩ (by simp)).lt
          have HFF := Lib.hid (fun W (h : Below wr.heap.size wr W) => And.intro ((HSq.out.on h).cel bj ⟨k6, b6, neg6, ma6, mn6, mc6, e6, s6, ka6, kn6, kc6, va6, vn6, vc6⟩ (by simp)).cells ((HSq.out.on h).cel w.heap.size ⟨7, b1, neg1, ma1, mn1, mc1, e1, s1, ka1, kn1, kc1, va1, vn1, vc1⟩ (by simp)).cells)
          have KUT2 := Lib.hid (fun W h => KUT.out HO.out p j has HP.out W h)
          have KS1 := Lib.hid (fun W zt (hz : UnsetY t p j zt) (h1 : Rep W y) (h2 : Rep W zt) => (by
            have := treeSame_any y zt W h1 h2 (HY.out.nums HO.out) (hz.nums HO.out) (HY.out.nodes HO.out HP.out.spl.pq)
            rw [HY.out.same hz, HC6.out] at this
            exact this : Calls Tryd.prog 13 #[(Cel.val ⟨k6, b6, neg6, ma6, mn6, mc6, e6, s6, ka6, kn6, kc6, va6, vn6, vc6⟩), zt.c.val] W (BoolBelow true W)))
          have KS2 := Lib.hid (fun W (hh : has = false) (h1 : Rep W y) (h2 : Rep W t) => (by
            have hp := HP.out
            rw [hh] at hp
            have := treeSame_any y t W h1 h2 (HY.out.nums HO.out) HO.out.nums (HY.out.nodes HO.out HP.out.spl.pq)
            rw [HY.out.back HO.out hp, HC6.out, HC1.out] at this
            exact this : Calls Tryd.prog 13 #[(Cel.val ⟨k6, b6, neg6, ma6, mn6, mc6, e6, s6, ka6, kn6, kc6, va6, vn6, vc6⟩), (Cel.val ⟨7, b1, neg1, ma1, mn1, mc1, e1, s1, ka1, kn1, kc1, va1, vn1, vc1⟩)] W (BoolBelow true W)))
          unfold Cel.val at KS2
          have KS1 := Lib.hid (show ∀ W zt, UnsetY t p j zt → Rep W y → Rep W zt → Calls Tryd.prog 13 #[.agg #[.int .i64 k6, .bool b6, .bool neg6, .slice ma6 mn6 mc6, .int .i64 e6, .string s6, .slice ka6 kn6 kc6, .slice va6 vn6 vc6], zt.c.val] W (BoolBelow true W) from KS1.out)
          have hF0 := HFF.out wr (Below.refl _ _)
          simp only at hF0
          obtain ⟨⟨x0, x1, x2, x3, x4, x5, x6, x7⟩, z0, z1, z2, z3, z4, z5, z6, z7⟩ := hF0
          clear KUT
          cases has
          · skip
            go_wp2_with fail
            refine wp_norm (fun J hJ => ?_)
            have HJ := Lib.hid hJ
            clear hJ
            refine wp_region_held_drew (S := fun W => Below wr.heap.size wr W) (by kernel_rfl) (below_drew (Below.refl _ _)) (fun hH => ?_)
            refine rg_loadM 0 _ 28 (.tmp 12) bj 0 (Cel.cells ⟨k6, b6, neg6, ma6, mn6, mc6, e6, s6, ka6, kn6, kc6, va6, vn6, vc6⟩) _ (some 160) rfl (by kernel_rfl) (by kernel_rfl) (by kernel_rfl) (by kernel_rfl) (fun _ _ _ h => h) (by kernel_rfl) rfl (by kernel_rfl) Tryd.underlying28 rfl (by kernel_rfl) (fun W hW => boxT_range ((HSq.out.on hW).cel bj ⟨k6, b6, neg6, ma6, mn6, mc6, e6, s6, ka6, kn6, kc6, va6, vn6, vc6⟩ (by simp))) hH ?_
            refine rg_loadM 1 _ 28 (.tmp 3) w.heap.size 0 (Cel.cells ⟨7, b1, neg1, ma1, mn1, mc1, e1, s1, ka1, kn1, kc1, va1, vn1, vc1⟩) _ (some 161) rfl (by kernel_rfl) (by kernel_rfl) (by kernel_rfl) (by kernel_rfl) (fun _ _ _ h => h) (by kernel_rfl) rfl (by kernel_rfl) Tryd.underlying28 rfl (by kernel_rfl) (fun W hW => boxT_range ((HSq.out.on hW).cel w.heap.size ⟨7, b1, neg1, ma1, mn1, mc1, e1, s1, ka1, kn1, kc1, va1, vn1, vc1⟩ (by simp))) hH ?_
            refine rg_pure 2 _ (.string s) (some 162) rfl (by kernel_rfl) (by kernel_rfl) (by kernel_rfl) (by kernel_rfl) (fun _ _ _ h => h) (by kernel_rfl) (fun w => by kernel_rfl) hH ?_
            refine rg_call 3 _ 12 _ _ _ _ #[.agg #[.int .i64 7, .bool b1, .bool neg1, .slice ma1 mn1 mc1, .int .i64 e1, .string s1, .slice ka1 kn1 kc1, .slice va1 vn1 vc1], .string s] (some 163) rfl (by kernel_rfl) (by kernel_rfl) (by kernel_rfl) rfl (by kernel_rfl) Tryd.func12 (by kernel_rfl) (by kernel_rfl) (by kernel_rfl) (KUT2.out _ ((HSq.out.on hH).rep t (by simp))) ?_
            rintro r' w' ⟨zt, rfl, hzr, hzu, hA⟩
            replace hH := bby hH hA
            refine ⟨_, rfl, hH, ?_⟩
            refine rg_call 4 _ 13 _ _ _ _ #[.agg #[.int .i64 k6, .bool b6, .bool neg6, .slice ma6 mn6 mc6, .int .i64 e6, .string s6, .slice ka6 kn6 kc6, .slice va6 vn6 vc6], zt.c.val] (some 164) rfl (by kernel_rfl) (by kernel_rfl) (by kernel_rfl) rfl (by kernel_rfl) Tryd.func13 (by kernel_rfl) (by kernel_rfl) (by kernel_rfl) (KS1.out _ zt hzu ((HSq.out.on hH).rep y (by simp)) hzr) ?_
            rintro r' w' ⟨rfl, hA⟩
            replace hH := bby hH hA
            refine ⟨_, rfl, hH, ?_⟩
            refine rg_pure 5 _ (.bool true) (some 165) rfl (by kernel_rfl) (by kernel_rfl) (by kernel_rfl) (by kernel_rfl) (fun _ _ _ h => h) (by kernel_rfl) (fun w => by kernel_rfl) hH ?_
            refine rg_pure 6 _ (.bool false) (some 166) rfl (by kernel_rfl) (by kernel_rfl) (by kernel_rfl) (by kernel_rfl) (fun _ _ _ h => h) (by kernel_rfl) (fun w => by kernel_rfl) hH ?_
            refine rg_pure 7 _ (.bool false) (some 167) rfl (by kernel_rfl) (by kernel_rfl) (by kernel_rfl) (by kernel_rfl) (fun _ _ _ h => h) (by kernel_rfl) (fun w => by kernel_rfl) hH ?_
            refine rg_loadM 8 _ 28 (.tmp 12) bj 0 (Cel.cells ⟨k6, b6, neg6, ma6, mn6, mc6, e6, s6, ka6, kn6, kc6, va6, vn6, vc6⟩) _ (some 168) rfl (by kernel_rfl) (by kernel_rfl) (by kernel_rfl) (by kernel_rfl) (fun _ _ _ h => h) (by kernel_rfl) rfl (by kernel_rfl) Tryd.underlying28 rfl (by kernel_rfl) (fun W hW => boxT_range ((HSq.out.on hW).cel bj ⟨k6, b6, neg6, ma6, mn6, mc6, e6, s6, ka6, kn6, kc6, va6, vn6, vc6⟩ (by simp))) hH ?_
            refine rg_loadM 9 _ 28 (.tmp 3) w.heap.size 0 (Cel.cells ⟨7, b1, neg1, ma1, mn1, mc1, e1, s1, ka1, kn1, kc1, va1, vn1, vc1⟩) _ (some 169) rfl (by kernel_rfl) (by kernel_rfl) (by kernel_rfl) (by kernel_rfl) (fun _ _ _ h => h) (by kernel_rfl) rfl (by kernel_rfl) Tryd.underlying28 rfl (by kernel_rfl) (fun W hW => boxT_range ((HSq.out.on hW).cel w.heap.size ⟨7, b1, neg1, ma1, mn1, mc1, e1, s1, ka1, kn1, kc1, va1, vn1, vc1⟩ (by simp))) hH ?_
            refine rg_call 10 _ 13 _ _ _ _ #[.agg #[.int .i64 k6, .bool b6, .bool neg6, .slice ma6 mn6 mc6, .int .i64 e6, .string s6, .slice ka6 kn6 kc6, .slice va6 vn6 vc6], .agg #[.int .i64 7, .bool b1, .bool neg1, .slice ma1 mn1 mc1, .int .i64 e1, .string s1, .slice ka1 kn1 kc1, .slice va1 vn1 vc1]] (some 170) rfl (by kernel_rfl) (by kernel_rfl) (by kernel_rfl) rfl (by kernel_rfl) Tryd.func13 (by kernel_rfl) (by kernel_rfl) (by kernel_rfl) (KS2.out _ (by first | trivial | rfl) ((HSq.out.on hH).rep y (by simp)) ((HSq.out.on hH).rep t (by simp))) ?_
            rintro r' w' ⟨rfl, hA⟩
            replace hH := bby hH hA
            refine ⟨_, rfl, hH, ?_⟩
            refine rg_pure 11 _ (.bool true) (some 171) rfl (by kernel_rfl) (by kernel_rfl) (by kernel_rfl) (by kernel_rfl) (fun _ _ _ h => h) (by kernel_rfl) (fun w => by kernel_rfl) hH ?_
            refine rg_pure 12 _ (.bool true) (some 172) rfl (by kernel_rfl) (by kernel_rfl) (by kernel_rfl) (by kernel_rfl) (fun _ _ _ h => h) (by kernel_rfl) (fun w => by kernel_rfl) hH ?_
            refine rg_pure 13 _ (.bool true) (some 173) rfl (by kernel_rfl) (by kernel_rfl) (by kernel_rfl) (by kernel_rfl) (fun _ _ _ h => h) (by kernel_rfl) (fun w => by kernel_rfl) hH ?_
            refine rg_call 14 _ 9 _ _ _ _ #[] (some 174) rfl (by kernel_rfl) (by kernel_rfl) (by kernel_rfl) rfl (by kernel_rfl) Tryd.func9 (by kernel_rfl) (by kernel_rfl) (by kernel_rfl) (KAW.out _ (HSq.out.on hH).below) ?_
            rintro r' w' ⟨rfl, hA⟩
            replace hH := bby hH hA
            refine ⟨_, rfl, hH, ?_⟩
            refine rg_pure 15 _ (.bool true) (some 175) rfl (by kernel_rfl) (by kernel_rfl) (by kernel_rfl) (by kernel_rfl) (fun _ _ _ h => h) (by kernel_rfl) (fun w => by kernel_rfl) hH ?_
            refine rg_pure 16 _ (.bool true) (some 6) rfl (by kernel_rfl) (by kernel_rfl) (by kernel_rfl) (by kernel_rfl) (fun _ _ _ h => h) (by kernel_rfl) (fun w => by kernel_rfl) hH ?_
            refine wpAnyH_done (by kernel_rfl) ?_ _
            refine HJ.out _ _ ?_
            simp only [Act.put, List.setIfInBounds_toArray, List.set_cons_zero, List.set_cons_succ]
            go_wp2
            go_ret
            exact BoolBelow.mk rfl ((HSq.out.on hH).below)
          · skip
            go_wp2_with fail
            refine wp_norm (fun J hJ => ?_)
            have HJ := Lib.hid hJ
            clear hJ
            refine wp_region_held_drew (S := fun W => Below wr.heap.size wr W) (by kernel_rfl) (below_drew (Below.refl _ _)) (fun hH => ?_)
            refine rg_loadM 0 _ 28 (.tmp 12) bj 0 (Cel.cells ⟨k6, b6, neg6, ma6, mn6, mc6, e6, s6, ka6, kn6, kc6, va6, vn6, vc6⟩) _ (some 160) rfl (by kernel_rfl) (by kernel_rfl) (by kernel_rfl) (by kernel_rfl) (fun _ _ _ h => h) (by kernel_rfl) rfl (by kernel_rfl) Tryd.underlying28 rfl (by kernel_rfl) (fun W hW => boxT_range ((HSq.out.on hW).cel bj ⟨k6, b6, neg6, ma6, mn6, mc6, e6, s6, ka6, kn6, kc6, va6, vn6, vc6⟩ (by simp))) hH ?_
            refine rg_loadM 1 _ 28 (.tmp 3) w.heap.size 0 (Cel.cells ⟨7, b1, neg1, ma1, mn1, mc1, e1, s1, ka1, kn1, kc1, va1, vn1, vc1⟩) _ (some 161) rfl (by kernel_rfl) (by kernel_rfl) (by kernel_rfl) (by kernel_rfl) (fun _ _ _ h => h) (by kernel_rfl) rfl (by kernel_rfl) Tryd.underlying28 rfl (by kernel_rfl) (fun W hW => boxT_range ((HSq.out.on hW).cel w.heap.size ⟨7, b1, neg1, ma1, mn1, mc1, e1, s1, ka1, kn1, kc1, va1, vn1, vc1⟩ (by simp))) hH ?_
            refine rg_pure 2 _ (.string s) (some 162) rfl (by kernel_rfl) (by kernel_rfl) (by kernel_rfl) (by kernel_rfl) (fun _ _ _ h => h) (by kernel_rfl) (fun w => by kernel_rfl) hH ?_
            refine rg_call 3 _ 12 _ _ _ _ #[.agg #[.int .i64 7, .bool b1, .bool neg1, .slice ma1 mn1 mc1, .int .i64 e1, .string s1, .slice ka1 kn1 kc1, .slice va1 vn1 vc1], .string s] (some 163) rfl (by kernel_rfl) (by kernel_rfl) (by kernel_rfl) rfl (by kernel_rfl) Tryd.func12 (by kernel_rfl) (by kernel_rfl) (by kernel_rfl) (KUT2.out _ ((HSq.out.on hH).rep t (by simp))) ?_
            rintro r' w' ⟨zt, rfl, hzr, hzu, hA⟩
            replace hH := bby hH hA
            refine ⟨_, rfl, hH, ?_⟩
            refine rg_call 4 _ 13 _ _ _ _ #[.agg #[.int .i64 k6, .bool b6, .bool neg6, .slice ma6 mn6 mc6, .int .i64 e6, .string s6, .slice ka6 kn6 kc6, .slice va6 vn6 vc6], zt.c.val] (some 164) rfl (by kernel_rfl) (by kernel_rfl) (by kernel_rfl) rfl (by kernel_rfl) Tryd.func13 (by kernel_rfl) (by kernel_rfl) (by kernel_rfl) (KS1.out _ zt hzu ((HSq.out.on hH).rep y (by simp)) hzr) ?_
            rintro r' w' ⟨rfl, hA⟩
            replace hH := bby hH hA
            refine ⟨_, rfl, hH, ?_⟩
            refine rg_pure 5 _ (.bool true) (some 165) rfl (by kernel_rfl) (by kernel_rfl) (by kernel_rfl) (by kernel_rfl) (fun _ _ _ h => h) (by kernel_rfl) (fun w => by kernel_rfl) hH ?_
            refine rg_pure 6 _ (.bool true) (some 166) rfl (by kernel_rfl) (by kernel_rfl) (by kernel_rfl) (by kernel_rfl) (fun _ _ _ h => h) (by kernel_rfl) (fun w => by kernel_rfl) hH ?_
            refine rg_pure 7 _ (.bool true) (some 167) rfl (by kernel_rfl) (by kernel_rfl) (by kernel_rfl) (by kernel_rfl) (fun _ _ _ h => h) (by kernel_rfl) (fun w => by kernel_rfl) hH ?_
            refine rg_skip 8 _ (some 168) rfl (by kernel_rfl) (by kernel_rfl) (by kernel_rfl) (by kernel_rfl) (fun _ _ _ h => h) (by kernel_rfl) hH ?_
            refine rg_skip 9 _ (some 169) rfl (by kernel_rfl) (by kernel_rfl) (by kernel_rfl) (by kernel_rfl) (fun _ _ _ h => h) (by kernel_rfl) hH ?_
            refine rg_skip 10 _ (some 170) rfl (by kernel_rfl) (by kernel_rfl) (by kernel_rfl) (by kernel_rfl) (fun _ _ _ h => h) (by kernel_rfl) hH ?_
            refine rg_pure 11 _ (.bool true) (some 171) rfl (by kernel_rfl) (by kernel_rfl) (by kernel_rfl) (by kernel_rfl) (fun _ _ _ h => h) (by kernel_rfl) (fun w => by kernel_rfl) hH ?_
            refine rg_pure 12 _ (.bool true) (some 172) rfl (by kernel_rfl) (by kernel_rfl) (by kernel_rfl) (by kernel_rfl) (fun _ _ _ h => h) (by kernel_rfl) (fun w => by kernel_rfl) hH ?_
            refine rg_pure 13 _ (.bool true) (some 173) rfl (by kernel_rfl) (by kernel_rfl) (by kernel_rfl) (by kernel_rfl) (fun _ _ _ h => h) (by kernel_rfl) (fun w => by kernel_rfl) hH ?_
            refine rg_call 14 _ 9 _ _ _ _ #[] (some 174) rfl (by kernel_rfl) (by kernel_rfl) (by kernel_rfl) rfl (by kernel_rfl) Tryd.func9 (by kernel_rfl) (by kernel_rfl) (by kernel_rfl) (KAW.out _ (HSq.out.on hH).below) ?_
            rintro r' w' ⟨rfl, hA⟩
            replace hH := bby hH hA
            refine ⟨_, rfl, hH, ?_⟩
            refine rg_pure 15 _ (.bool true) (some 175) rfl (by kernel_rfl) (by kernel_rfl) (by kernel_rfl) (by kernel_rfl) (fun _ _ _ h => h) (by kernel_rfl) (fun w => by kernel_rfl) hH ?_
            refine rg_pure 16 _ (.bool true) (some 6) rfl (by kernel_rfl) (by kernel_rfl) (by kernel_rfl) (by kernel_rfl) (fun _ _ _ h => h) (by kernel_rfl) (fun w => by kernel_rfl) hH ?_
            refine wpAnyH_done (by kernel_rfl) ?_ _
            refine HJ.out _ _ ?_
            simp only [Act.put, List.setIfInBounds_toArray, List.set_cons_zero, List.set_cons_succ]
            go_wp2
            go_ret
            exact BoolBelow.mk rfl ((HSq.out.on hH).below)

end Go.Proofs.YtipibipaocpojaaDoor
