/- Values by numbers: Made. -/
import Derived.Test.YtipibipaocpojaaDoorQM6
namespace Go.Proofs.YtipibipaocpojaaDoor
open Go.RowKit Go.Shelf
set_option linter.unusedVariables false
set_option linter.unusedSimpArgs false

set_option maxHeartbeats 8000000 in
set_option maxRecDepth 100000 in
theorem made_none (d : Nat) (a : Option Addr) (c : Nat) (w : World) : Calls Tryd.prog 31 #[.slice a 0 c, .int .i64 (d : Int)] w (MadeP d (.slice a 0 c) w) := by
  obtain ⟨wA, hwA⟩ : ∃ W, w.alloc (.cells #[.int .i64 0, .bool false, .bool false, .slice none 0 0, .int .i64 0, .string ⟨#[]⟩, .slice none 0 0, .slice none 0 0] 28) = W := ⟨_, rfl⟩
  have hbA : Below w.heap.size w wA := by rw [← hwA]; exact (Below.refl _ _).alloc (Nat.le_refl _) _
  have HB4 := Lib.hid (show BoxT wA w.heap.size (leafC 0 false ⟨#[]⟩) by rw [← hwA]; exact heap_alloc_new w _)
  have HBA := Lib.hid hbA
  have hvar := HB4.out.var
  unfold Var at hvar
  obtain ⟨⟨g0, g1, g2, g3, g4, g5, g6, g7⟩, f0, f1, f2, f3, f4, f5, f6, f7⟩ := hvar
  simp only [leafC] at g0 g1 g2 g3 g4 g5 g6 g7
  have hbx := (put0_box HB4.out (c := (leafC 1 false ⟨#[]⟩))).cells
  unfold put0 leafC at hbx
  simp only at hbx
  obtain ⟨e0, e1, e2, e3, e4, e5, e6, e7⟩ := hbx
  have HF := Lib.hid (made_leaf (d := d) (v0 := .slice a 0 c) (u0 := .slice none 0 0) 1 false ⟨#[]⟩ HBA.out (fun W _ => intsV_nil W) (by decide) (by decide) rfl)
  unfold put0 leafC Cel.val at HF
  simp only at HF
  clear hbA
  go_enter Tryd.func31, Tryd.ntmps31
  go_wp2_with fail
  exact bodyPost_ret (v := .tuple #[.agg #[.int .i64 1, .bool false, .bool false, .slice none 0 0, .int .i64 0, .string ⟨#[]⟩, .slice none 0 0, .slice none 0 0], .slice none 0 0]) (by simp [results, Tryd.results31, go_sem, e0, e1, e2, e3, e4, e5, e6, e7]) rfl HF.out
theorem made_all : ∀ d : Nat, d ≤ 10 → ∀ (v : Value) (w : World), IntsV w v → Calls Tryd.prog 31 #[v, .int .i64 (d : Int)] w (MadeP d v w) := by
  intro d
  induction d with
  | zero =>
    intro hd v w hI
    obtain ⟨a, n, c, xs, rfl, h2, h3, h4, h5, h6⟩ := id hI
    cases n with
    | zero => exact made_none 0 a c w
    | succ n =>
      obtain ⟨bl, ol, rfl, _⟩ := h2.shape (by rw [List.length_map]; omega)
      exact madeV_any 0 hd (fun d' h => by omega) (n + 1) c bl ol w hI (by omega)
  | succ d ih =>
    intro hd v w hI
    obtain ⟨a, n, c, xs, rfl, h2, h3, h4, h5, h6⟩ := id hI
    cases n with
    | zero => exact made_none (d + 1) a c w
    | succ n =>
      obtain ⟨bl, ol, rfl, _⟩ := h2.shape (by rw [List.length_map]; omega)
      exact madeV_any (d + 1) hd (fun d' h => by obtain rfl : d' = d := (by omega); exact ih (by omega)) (n + 1) c bl ol w hI (by omega)
/-- A value by numbers: it may be, and is as deep as was asked. -/
def MadeT (d : Nat) (w : World) (e : Ending) (w' : World) : Prop := ∃ t, e = .returned t.c.val ∧ Rep w' t ∧ Fit d t ∧ Below w.heap.size w w'
set_option maxHeartbeats 8000000 in
set_option maxRecDepth 100000 in
theorem Made_any (d : Nat) (hd : d ≤ 10) (v : Value) (w : World) (hI : IntsV w v) : Calls Tryd.prog 17 #[v, .int .i64 (d : Int)] w (MadeT d w) := by
  obtain ⟨wA, hwA⟩ : ∃ W, w.alloc (.cells #[.int .i64 0, .bool false, .bool false, .slice none 0 0, .int .i64 0, .string ⟨#[]⟩, .slice none 0 0, .slice none 0 0] 28) = W := ⟨_, rfl⟩
  have hbA : Below w.heap.size w wA := by rw [← hwA]; exact (Below.refl _ _).alloc (Nat.le_refl _) _
  have HSA := Lib.hid (show wA.heap.size = w.heap.size + 1 by rw [← hwA]; simp)
  have HB4 := Lib.hid (show BoxT wA w.heap.size (leafC 0 false ⟨#[]⟩) by rw [← hwA]; exact heap_alloc_new w _)
  have HBA := Lib.hid hbA
  have KM := Lib.hid (made_all d hd v wA (hI.on hbA))
  have HWA := Lib.hid hwA
  clear hbA hI hwA
  go_enter Tryd.func17, Tryd.ntmps17
  go_wp2_with fail
  rw [HWA.out]
  refine KM.out.mono ?_
  rintro r w1 ⟨t, v', rfl, hi, hf, _, hb⟩
  have h4 := HB4.out.on (hb.block _ HB4.out.lt)
  have hvar := h4.var
  unfold Var at hvar
  obtain ⟨⟨g0, g1, g2, g3, g4, g5, g6, g7⟩, f0, f1, f2, f3, f4, f5, f6, f7⟩ := hvar
  simp only [leafC] at g0 g1 g2 g3 g4 g5 g6 g7
  have h4l := h4.lt
  have HE := Lib.hid (fun (o : Obj) => ((put0_box h4 (c := t.c)).on (((Below.refl (put0 w1 w.heap.size t.c).heap.size _).alloc (Nat.le_refl _) o).block _ (Nat.lt_of_lt_of_le h4l (put0_but _ _ _).size))).cells)
  have HF := Lib.hid (fun (o : Obj) => (show MadeT d w (.returned t.c.val) ((put0 w1 w.heap.size t.c).alloc o) from by
    have hp := put0_but w1 w.heap.size t.c
    have ha := (Below.refl (put0 w1 w.heap.size t.c).heap.size (put0 w1 w.heap.size t.c)).alloc (Nat.le_refl _) o
    have hb0 : Below w.heap.size w w1 := HBA.out.trans (hb.mono HBA.out.size)
    refine ⟨t, rfl, ?_, hf, (hb0.trans (hp.below (Nat.le_refl _) hb0.size)).trans (ha.mono (Nat.le_trans hb0.size hp.size))⟩
    exact ((hi.to hp.size (fun k hk hx => hp.block k hk (fun e => hx (by have := HSA.out; omega))) (fun _ _ h => h) (fun _ h => h) : Ind (fun k => k < wA.heap.size) _ (fun W => Rep W t)).below ha).here))
  obtain ⟨c, hc⟩ : ∃ c, t.c = c := ⟨_, rfl⟩
  rw [hc] at HE HF ⊢
  clear hi hf hb h4 hc
  obtain ⟨zk, zb, zneg, zma, zmn, zmc, ze, zs, zka, zkn, zkc, zva, zvn, zvc⟩ := c
  have hE := HE.out (.cells #[.int .i64 zk, .bool zb, .bool zneg, .slice zma zmn zmc, .int .i64 ze, .string zs, .slice zka zkn zkc, .slice zva zvn zvc] 28)
  have HF := Lib.hid (HF.out (.cells #[.int .i64 zk, .bool zb, .bool zneg, .slice zma zmn zmc, .int .i64 ze, .string zs, .slice zka zkn zkc, .slice zva zvn zvc] 28))
  unfold put0 Cel.val at HF
  unfold put0 at hE
  simp only at hE HF
  obtain ⟨e0, e1, e2, e3, e4, e5, e6, e7⟩ := hE
  clear HE
  unfold Cel.val
  go_wp2_with fail
  exact bodyPost_ret (v := .agg #[.int .i64 zk, .bool zb, .bool zneg, .slice zma zmn zmc, .int .i64 ze, .string zs, .slice zka zkn zkc, .slice zva zvn zvc]) (by simp [results, Tryd.results17, go_sem, e0, e1, e2, e3, e4, e5, e6, e7]) rfl HF.out
end Go.Proofs.YtipibipaocpojaaDoor
/- The walk of the law TreeFields. -/
namespace Go.Proofs.YtipibipaocpojaaDoor
open Go.RowKit Go.Shelf
set_option linter.unusedVariables false
set_option linter.unusedSimpArgs false

theorem check_root {t : MT} (h : soundB t = false) : checkB t = false := by
  unfold checkB
  rw [MT.pre_eq, List.all_cons, h]
  simp
theorem check_part {t s : MT} (hs : s ∈ t.v) (h : soundB s = false) : checkB t = false := by
  cases hc : checkB t
  · rfl
  · have := (check_sound hc).2 s (MT.sub_v hs s.sub_refl)
    rw [h] at this; cases this
theorem sml_of {w : World} {t : MT} (hR : Rep w t) (h : checkB t = true) : Sml t := by
  intro s hs
  have h1 := (check_sound h).2 s hs
  have h2 := hR s hs
  have hm := h2.mn; have hk := h2.kn
  unfold soundB blankB at h1
  split at h1
  · simp at h1; omega
  · split at h1
    · simp at h1; omega
    · split at h1
      · simp at h1
        have := chkB_bounds h1.1
        omega
      · split at h1
        · simp at h1; omega
        · split at h1
          · simp at h1; omega
          · split at h1
            · simp at h1; omega
            · split at h1
              · simp at h1; omega
              · cases h1
theorem check_false {t : MT} {W : World} {vs : Array Value} (hv : #[t.c.val] = vs) (hR : Rep W t) (hT : UT W) (h : checkB t = false) : Calls Tryd.prog 7 vs W (BoolBelow false W) := by
  subst hv
  have := checkT_any t W hR hT
  rwa [h] at this
theorem but_alloc {g : Nat} {a w : World} (h : But g a w) (o : Obj) : But g a (w.alloc o) := h.trans (But.of_below ((Below.refl _ _).alloc (Nat.le_refl _) o))
theorem rdv_eq {W : World} {g : Nat} {cs vs : List Value} {e : TypeId} (hg : W.heap.size = g) (hcs : cs = vs) : RdV (W.alloc (.cells cs.toArray e)) (some ⟨g, 0, none⟩) vs := by
  subst hg hcs; exact rdv_new W cs e
theorem rdv_eq2 {W : World} {g : Nat} {cs vs : List Value} {e : TypeId} {o : Obj} (hg : W.heap.size = g) (hcs : cs = vs) : RdV ((W.alloc (.cells cs.toArray e)).alloc o) (some ⟨g, 0, none⟩) vs := by
  subst hg hcs; exact (rdv_new W cs e).on ((Below.refl _ _).alloc (Nat.le_refl _) _)
theorem rd_eq10 {W : World} {g : Nat} (hg : W.heap.size = g) : Rd (W.alloc (.cells #[.int .u32 10] 45)) (some ⟨g, 0, none⟩) [10] := by
  subst hg; exact rd_new W 10
theorem leafT_c (k : Int) (b : Bool) (s : ByteArray) : (leafT k b s).c = leafC k b s := rfl
theorem sound_ba (ka va : Option Addr) (l : List MT) : soundB (objT ka 2 2 va 2 2 [⟨#[98]⟩, ⟨#[97]⟩] l) = false := by
  have h : risesB [⟨#[98]⟩, ⟨#[97]⟩] = false := by decide +kernel
  unfold soundB objT objC7
  simp [MT.c, MT.k, h]
theorem rdv_at (W : World) (g : Nat) (cs : List Value) (e : TypeId) (hg : W.heap.size = g) : RdV (W.alloc (.cells cs.toArray e)) (some ⟨g, 0, none⟩) cs := by
  subst hg; exact rdv_new W cs e
theorem rep_num {W : World} {u : MT} {uk : Int} {ub uneg : Bool} {uma : Option Addr} {umn umc : Nat} {ue : Int} {us : ByteArray} {uka : Option Addr} {ukn ukc : Nat} {uva : Option Addr} {uvn uvc : Nat} {ad : Option Addr} (h : Rep W u) (hc : u.c = ⟨uk, ub, uneg, uma, umn, umc, ue, us, uka, ukn, ukc, uva, uvn, uvc⟩) (hr : Rd W ad [10]) :
    Rep W (MT.mk ⟨uk, ub, false, ad, 1, 1, 0, us, uka, ukn, ukc, uva, uvn, uvc⟩ [10] u.k u.v) := by
  have o := h.own
  have a1 := o.kn; have a2 := o.kc; have a3 := o.kr; have a4 := o.vn; have a5 := o.vc; have a6 := o.vr; have a7 := o.lm; have a8 := o.ls; have a9 := o.lq
  rw [hc] at a1 a2 a3 a4 a5 a6 a7 a8 a9
  exact Rep.mk ⟨rfl, Nat.le_refl _, (fun x hx => by have hx' : x ∈ [10] := hx; rw [List.mem_singleton] at hx'; subst hx'; decide), hr, a1, a2, a3, a4, a5, a6, ⟨(show (1 : Nat) ≤ 1000000000000000 by decide), a7.2.1, a7.2.2⟩, a8, o.lk, li0, a9⟩ (fun s hs => h.part hs)
theorem sound_num (uk : Int) (ub : Bool) (ad : Option Addr) (us : ByteArray) (uka : Option Addr) (ukn ukc : Nat) (uva : Option Addr) (uvn uvc : Nat) (ks : List ByteArray) (vs : List MT) (_u : Unit) :
    soundB (MT.mk ⟨uk, ub, false, ad, 1, 1, 0, us, uka, ukn, ukc, uva, uvn, uvc⟩ [10] ks vs) = false := by
  have h : chkB false [10] 0 = false := by decide +kernel
  unfold soundB
  simp [MT.c, MT.m, h, blankB]
set_option maxHeartbeats 16000000 in
set_option maxRecDepth 100000 in
theorem treeFields_walk (ad : Option Addr) (n cap : Nat) (xs : List Int) (how : Int) (w : World) (hn : xs.length = n) (hcap : n ≤ cap) (hx : ∀ x ∈ xs, -9223372036854775808 ≤ x ∧ x ≤ 9223372036854775807) (hr : RdV w ad (xs.map iz)) (hh : -9223372036854775808 ≤ how ∧ how ≤ 9223372036854775807) (hT : UT w) :
    Calls Tryd.prog 5 #[.slice ad n cap, .int .i64 how] w (BoolBelow true w) := by
  have KAW := Lib.hid (fun W (h : Below w.heap.size w W) => awake5_any W (hT.below h))
  by_cases h60 : n ≤ 60
  case neg =>
    have h60z : (60 : Int) < (n : Int) := by omega
    go_enter Tryd.func5, Tryd.ntmps5
    go_wp2_with fail
    refine (KAW.out _ (Below.refl _ _)).mono ?_
    rintro r w1 ⟨rfl, h1⟩
    have HF := Lib.hid h1
    clear h1
    go_wp2
    go_ret
    exact BoolBelow.mk rfl HF.out
  have h60z : ¬ (60 : Int) < (n : Int) := by omega
  have KM := Lib.hid (Made_any 4 (by decide) (.slice ad n cap) w ⟨ad, n, cap, xs, rfl, hr, hn, hcap, by omega, hx⟩)
  have HUT := Lib.hid (fun W (h : Below w.heap.size w W) => hT.below h)
  have KP := Lib.hid (fun W => place_any how 6 W hh (by decide))
  clear hT hr hx hn
  go_enter Tryd.func5, Tryd.ntmps5
  go_wp2_with fail
  refine KM.out.mono ?_
  rintro r w1 ⟨t, rfl, htr, htf, hb1⟩
  have hck := fit_check htf (by decide)
  have HSM := Lib.hid (sml_of htr hck)
  have HCK := Lib.hid hck
  have HB1 := Lib.hid hb1
  obtain ⟨W1, hW1⟩ : ∃ x, w1.alloc (.cells t.c.cells.toArray 28) = x := ⟨_, rfl⟩
  have hb11 : Below w1.heap.size w1 W1 := by rw [← hW1]; exact (Below.refl _ _).alloc (Nat.le_refl _) _
  have HBW1 := Lib.hid (hb1.trans (hb11.mono hb1.size))
  have HT5 := Lib.hid (show BoxT W1 w1.heap.size t.c by rw [← hW1]; exact heap_alloc_new w1 _)
  have HTR := Lib.hid (htr.on hb11)
  have KC := Lib.hid (fun W (h : Below W1.heap.size W1 W) => (by have := checkT_any t W (HTR.out.on h) (HUT.out W (HBW1.out.trans (h.mono HBW1.out.size))); rwa [HCK.out] at this : Calls Tryd.prog 7 #[t.c.val] W (BoolBelow true W)))
  have KCP := Lib.hid (fun W (h : Below W1.heap.size W1 W) => copy_any t W HSM.out (HTR.out.on h))
  clear htr htf hck hb1 hb11
  obtain ⟨ct, hct⟩ : ∃ c, t.c = c := ⟨_, rfl⟩
  rw [hct] at KC KCP HT5 hW1 ⊢
  have HCT := Lib.hid hct
  clear hct
  obtain ⟨tk, tb, tneg, tma, tmn, tmc, te, ts, tka, tkn, tkc, tva, tvn, tvc⟩ := ct
  unfold Cel.val at KC KCP ⊢
  unfold Cel.cells at hW1
  simp only at hW1
  obtain ⟨x0, x1, x2, x3, x4, x5, x6, x7⟩ := HT5.out.cells
  simp only at x0 x1 x2 x3 x4 x5 x6 x7
  have HW1 := Lib.hid hW1
  go_wp2_with fail
  refine (KC.out _ (Below.refl _ _)).mono ?_
  rintro r w2 ⟨rfl, hb2⟩
  have HB2 := Lib.hid hb2
  obtain ⟨x0, x1, x2, x3, x4, x5, x6, x7⟩ := (HT5.out.on (hb2.block _ HT5.out.lt)).cells
  simp only at x0 x1 x2 x3 x4 x5 x6 x7
  clear hb2 hW1
  go_wp2_with fail
  refine (KCP.out _ HB2.out).mono ?_
  rintro r w3 ⟨u, rfl, hui, hub, hb3⟩
  have HUI := Lib.hid hui
  have HB3 := Lib.hid (HB2.out.trans (hb3.mono HB2.out.size))
  obtain ⟨cu, hcu⟩ : ∃ c, u.c = c := ⟨_, rfl⟩
  rw [hcu]
  have HCU := Lib.hid hcu
  clear hui hub hb3 hcu x0 x1 x2 x3 x4 x5 x6 x7 KC KCP HW1
  obtain ⟨uk, ub, uneg, uma, umn, umc, ue, us, uka, ukn, ukc, uva, uvn, uvc⟩ := cu
  obtain ⟨W4, hW4⟩ : ∃ x, w3.alloc (.cells #[.int .i64 uk, .bool ub, .bool uneg, .slice uma umn umc, .int .i64 ue, .string us, .slice uka ukn ukc, .slice uva uvn uvc] 28) = x := ⟨_, rfl⟩
  have hb4 : Below w3.heap.size w3 W4 := by rw [← hW4]; exact (Below.refl _ _).alloc (Nat.le_refl _) _
  have HS34 := Lib.hid hb4
  have HB4 := Lib.hid (HB3.out.trans (hb4.mono HB3.out.size))
  have HX6 := Lib.hid (show BoxT W4 w3.heap.size ⟨uk, ub, uneg, uma, umn, umc, ue, us, uka, ukn, ukc, uva, uvn, uvc⟩ by rw [← hW4]; exact heap_alloc_new w3 _)
  have HX5 := Lib.hid (HT5.out.on (HB4.out.block _ HT5.out.lt))
  have HW4 := Lib.hid hW4
  have HR4 := Lib.hid (HTR.out.on HB4.out)
  have HU4 := Lib.hid ((HUI.out.below hb4).here)
  have HUT4 := Lib.hid (fun W (h : Below W4.heap.size W4 W) => HUT.out W (HBW1.out.trans ((HB4.out.trans (h.mono HB4.out.size)).mono HBW1.out.size)))
  have HWB := Lib.hid (HBW1.out.trans (HB4.out.mono HBW1.out.size))
  have HNE := Lib.hid (show w1.heap.size < w3.heap.size from Nat.lt_of_lt_of_le HT5.out.lt HB3.out.size)
  clear hb4 hW4
  unfold Cel.val
  go_wp2_with fail
  rw [HW4.out]
  refine (KP.out _).mono ?_
  rintro r w0 ⟨rfl, rfl⟩
  have HTX := Lib.hid (fun W (h : But w3.heap.size w0 W) => (have hb : Below W1.heap.size W1 W := HB4.out.trans (h.below HB3.out.size HB4.out.size); And.intro (HTR.out.on hb) (And.intro (HUT.out W (HBW1.out.trans (hb.mono HBW1.out.size))) (HBW1.out.trans (hb.mono HBW1.out.size)))))
  have HUX := Lib.hid (fun W (h : But w3.heap.size w0 W) => HUI.out W (Nat.le_trans HS34.out.size h.size) (fun k hk _ => (h.block k (Nat.lt_of_lt_of_le hk HS34.out.size) (Nat.ne_of_lt hk)).trans (HS34.out.block k hk)))
  have hvar := HX6.out.var
  unfold Var at hvar
  obtain ⟨⟨g0, g1, g2, g3, g4, g5, g6, g7⟩, f0, f1, f2, f3, f4, f5, f6, f7⟩ := hvar
  simp only at g0 g1 g2 g3 g4 g5 g6 g7
  obtain ⟨x0, x1, x2, x3, x4, x5, x6, x7⟩ := HX5.out.cells
  simp only at x0 x1 x2 x3 x4 x5 x6 x7
  have l5 := HX5.out.lt
  have l6 := HX6.out.lt
  have hj : how % 6 = 0 ∨ how % 6 = 1 ∨ how % 6 = 2 ∨ how % 6 = 3 ∨ how % 6 = 4 ∨ how % 6 = 5 := by omega
  rcases hj with hj | hj | hj | hj | hj | hj
  · cases ub <;> go_wp2_with fail
    all_goals
      refine (check_false (t := leafT 1 true ⟨#[]⟩) rfl ?rep (HTX.out _ (by (repeat (first | with_reducible exact But.refl _ _ | with_reducible refine But.setCell ?_ _ _ | with_reducible refine but_alloc ?_ _)))).2.1 ?chk).mono ?_
      case rep => exact leafT_rep _ _ _ _ (by decide) (by decide)
      case chk => exact check_root rfl
      rintro r w5 ⟨rfl, hb5⟩
      have HF := Lib.hid ((HTX.out _ (by (repeat (first | with_reducible exact But.refl _ _ | with_reducible refine But.setCell ?_ _ _ | with_reducible refine but_alloc ?_ _)))).2.2.trans (hb5.mono (HTX.out _ (by (repeat (first | with_reducible exact But.refl _ _ | with_reducible refine But.setCell ?_ _ _ | with_reducible refine but_alloc ?_ _)))).2.2.size))
      clear hb5
      go_wp2_with fail
      refine (KAW.out _ HF.out).mono ?_
      rintro r w6 ⟨rfl, hb6⟩
      have HF2 := Lib.hid (HF.out.trans (hb6.mono HF.out.size))
      clear hb6
      go_wp2
      go_ret
      exact BoolBelow.mk rfl HF2.out
  · go_wp2_with fail
    refine (check_false (t := MT.mk ⟨uk, ub, false, some ⟨w0.heap.size, 0, none⟩, 1, 1, 0, us, uka, ukn, ukc, uva, uvn, uvc⟩ [10] u.k u.v) rfl ?rep (HTX.out _ (by (repeat (first | with_reducible exact But.refl _ _ | with_reducible refine But.setCell ?_ _ _ | with_reducible refine but_alloc ?_ _)))).2.1 ?chk).mono ?_
    case rep => exact rep_num (HUX.out _ (by (repeat (first | with_reducible exact But.refl _ _ | with_reducible refine But.setCell ?_ _ _ | with_reducible refine but_alloc ?_ _)))) HCU.out (rd_eq10 (by simp [World.setCell]))
    case chk => exact check_root (sound_num _ _ _ _ _ _ _ _ _ _ _ _ ())
    rintro r w5 ⟨rfl, hb5⟩
    have HF := Lib.hid ((HTX.out _ (by (repeat (first | with_reducible exact But.refl _ _ | with_reducible refine But.setCell ?_ _ _ | with_reducible refine but_alloc ?_ _)))).2.2.trans (hb5.mono (HTX.out _ (by (repeat (first | with_reducible exact But.refl _ _ | with_reducible refine But.setCell ?_ _ _ | with_reducible refine but_alloc ?_ _)))).2.2.size))
    clear hb5
    go_wp2_with fail
    refine (KAW.out _ HF.out).mono ?_
    rintro r w6 ⟨rfl, hb6⟩
    have HF2 := Lib.hid (HF.out.trans (hb6.mono HF.out.size))
    clear hb6
    go_wp2
    go_ret
    exact BoolBelow.mk rfl HF2.out
  · go_wp2_with fail
    refine (check_false (t := arrT (some ⟨w0.heap.size, 0, none⟩) 2 2 [t, leafT 0 false ⟨#[]⟩]) rfl ?rep (HTX.out _ (by (repeat (first | with_reducible exact But.refl _ _ | with_reducible refine But.setCell ?_ _ _ | with_reducible refine but_alloc ?_ _)))).2.1 ?chk).mono ?_
    case rep => exact arrT_rep rfl (Nat.le_refl _) (by decide) (rdv_eq (by simp [World.setCell]) (by simp [flat, HCT.out, Cel.cells, leafT_c, leafC])) (fun y hy => by simp at hy; rcases hy with rfl | rfl; exact (HTX.out _ (by (repeat (first | with_reducible exact But.refl _ _ | with_reducible refine But.setCell ?_ _ _ | with_reducible refine but_alloc ?_ _)))).1; exact leafT_rep _ _ _ _ (by decide) (by decide))
    case chk => exact check_part (s := leafT 0 false ⟨#[]⟩) (by simp [arrT, MT.v]) rfl
    rintro r w5 ⟨rfl, hb5⟩
    have HF := Lib.hid ((HTX.out _ (by (repeat (first | with_reducible exact But.refl _ _ | with_reducible refine But.setCell ?_ _ _ | with_reducible refine but_alloc ?_ _)))).2.2.trans (hb5.mono (HTX.out _ (by (repeat (first | with_reducible exact But.refl _ _ | with_reducible refine But.setCell ?_ _ _ | with_reducible refine but_alloc ?_ _)))).2.2.size))
    clear hb5
    go_wp2_with fail
    refine (KAW.out _ HF.out).mono ?_
    rintro r w6 ⟨rfl, hb6⟩
    have HF2 := Lib.hid (HF.out.trans (hb6.mono HF.out.size))
    clear hb6
    go_wp2
    go_ret
    exact BoolBelow.mk rfl HF2.out
  · go_wp2_with fail
    refine (check_false (t := objT (some ⟨w0.heap.size, 0, none⟩) 2 2 (some ⟨w0.heap.size + 1, 0, none⟩) 2 2 [⟨#[98]⟩, ⟨#[97]⟩] [t, t]) rfl ?rep (HTX.out _ (by (repeat (first | with_reducible exact But.refl _ _ | with_reducible refine But.setCell ?_ _ _ | with_reducible refine but_alloc ?_ _)))).2.1 ?chk).mono ?_
    case rep => exact objT_rep rfl (Nat.le_refl _) (by decide) (rdv_eq2 (by simp [World.setCell]) rfl) (by decide) rfl (Nat.le_refl _) (by decide) (rdv_eq (by simp [World.setCell]) (by simp [flat, HCT.out, Cel.cells])) (fun y hy => by simp at hy; subst hy; exact (HTX.out _ (by (repeat (first | with_reducible exact But.refl _ _ | with_reducible refine But.setCell ?_ _ _ | with_reducible refine but_alloc ?_ _)))).1)
    case chk => exact check_root (sound_ba _ _ _)
    rintro r w5 ⟨rfl, hb5⟩
    have HF := Lib.hid ((HTX.out _ (by (repeat (first | with_reducible exact But.refl _ _ | with_reducible refine But.setCell ?_ _ _ | with_reducible refine but_alloc ?_ _)))).2.2.trans (hb5.mono (HTX.out _ (by (repeat (first | with_reducible exact But.refl _ _ | with_reducible refine But.setCell ?_ _ _ | with_reducible refine but_alloc ?_ _)))).2.2.size))
    clear hb5
    go_wp2_with fail
    refine (KAW.out _ HF.out).mono ?_
    rintro r w6 ⟨rfl, hb6⟩
    have HF2 := Lib.hid (HF.out.trans (hb6.mono HF.out.size))
    clear hb6
    go_wp2
    go_ret
    exact BoolBelow.mk rfl HF2.out
  · go_wp2_with fail
    refine (check_false (t := objT (some ⟨w0.heap.size, 0, none⟩) 1 1 (some ⟨w0.heap.size + 1, 0, none⟩) 2 2 [⟨#[97]⟩] [t, t]) rfl ?rep (HTX.out _ (by (repeat (first | with_reducible exact But.refl _ _ | with_reducible refine But.setCell ?_ _ _ | with_reducible refine but_alloc ?_ _)))).2.1 ?chk).mono ?_
    case rep => exact objT_rep rfl (Nat.le_refl _) (by decide) (rdv_eq2 (by simp [World.setCell]) rfl) (by decide) rfl (Nat.le_refl _) (by decide) (rdv_eq (by simp [World.setCell]) (by simp [flat, HCT.out, Cel.cells])) (fun y hy => by simp at hy; subst hy; exact (HTX.out _ (by (repeat (first | with_reducible exact But.refl _ _ | with_reducible refine But.setCell ?_ _ _ | with_reducible refine but_alloc ?_ _)))).1)
    case chk => exact check_root (by unfold soundB objT objC7; simp [MT.c])
    rintro r w5 ⟨rfl, hb5⟩
    have HF := Lib.hid ((HTX.out _ (by (repeat (first | with_reducible exact But.refl _ _ | with_reducible refine But.setCell ?_ _ _ | with_reducible refine but_alloc ?_ _)))).2.2.trans (hb5.mono (HTX.out _ (by (repeat (first | with_reducible exact But.refl _ _ | with_reducible refine But.setCell ?_ _ _ | with_reducible refine but_alloc ?_ _)))).2.2.size))
    clear hb5
    go_wp2_with fail
    refine (KAW.out _ HF.out).mono ?_
    rintro r w6 ⟨rfl, hb6⟩
    have HF2 := Lib.hid (HF.out.trans (hb6.mono HF.out.size))
    clear hb6
    go_wp2
    go_ret
    exact BoolBelow.mk rfl HF2.out
  · go_wp2_with fail
    refine (check_false (t := leafT 4 false ⟨#[255]⟩) rfl ?rep (HTX.out _ (by (repeat (first | with_reducible exact But.refl _ _ | with_reducible refine But.setCell ?_ _ _ | with_reducible refine but_alloc ?_ _)))).2.1 ?chk).mono ?_
    case rep => exact leafT_rep _ _ _ _ (by decide) (by decide)
    case chk => exact check_root (by decide +kernel)
    rintro r w5 ⟨rfl, hb5⟩
    have HF := Lib.hid ((HTX.out _ (by (repeat (first | with_reducible exact But.refl _ _ | with_reducible refine But.setCell ?_ _ _ | with_reducible refine but_alloc ?_ _)))).2.2.trans (hb5.mono (HTX.out _ (by (repeat (first | with_reducible exact But.refl _ _ | with_reducible refine But.setCell ?_ _ _ | with_reducible refine but_alloc ?_ _)))).2.2.size))
    clear hb5
    go_wp2_with fail
    refine (KAW.out _ HF.out).mono ?_
    rintro r w6 ⟨rfl, hb6⟩
    have HF2 := Lib.hid (HF.out.trans (hb6.mono HF.out.size))
    clear hb6
    go_wp2
    go_ret
    exact BoolBelow.mk rfl HF2.out
end Go.Proofs.YtipibipaocpojaaDoor
