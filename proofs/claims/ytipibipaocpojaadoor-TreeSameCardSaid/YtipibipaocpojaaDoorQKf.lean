/- The walks of tree's Member, Unset, Set. -/
import Derived.Test.YtipibipaocpojaaDoorQj
namespace Go.Proofs.YtipibipaocpojaaDoor
open Go.RowKit Go.Shelf
set_option linter.unusedVariables false
set_option linter.unusedSimpArgs false

/-- An object's names, its values: as many of both; of another value none. -/
def nmsL (t : MT) : List ByteArray := if t.c.k = 7 then t.k.take (min t.c.kn t.c.vn) else []
def valsL (t : MT) : List MT := if t.c.k = 7 then t.v.take (min t.c.kn t.c.vn) else []
theorem nms_len {w : World} {t : MT} (h : Rd1 w t) : (nmsL t).length = (valsL t).length := by
  unfold nmsL valsL
  split
  · have := h.kn; have := h.vn; simp; omega
  · rfl
/-- What members answers, as slices that can be read. -/
theorem mem_ok {w : World} {t : MT} (h : Rd1 w t) : ∃ ad n cap ad' cap', (if t.c.k = 7 then #[.slice t.c.ka (min t.c.kn t.c.vn) t.c.kc, .slice t.c.va (min t.c.kn t.c.vn) t.c.vc] else #[.slice none 0 0, .slice none 0 0]) = #[Value.slice ad n cap, Value.slice ad' n cap'] ∧
    (nmsL t).length = n ∧ (valsL t).length = n ∧ n ≤ cap ∧ n ≤ cap' ∧ n ≤ t.c.kn ∧ n ≤ t.c.vn ∧ RdV w ad (sv (nmsL t)) ∧ RdV w ad' (flat ((valsL t).map MT.c)) := by
  unfold nmsL valsL
  split
  · have h1 := h.kn; have h2 := h.vn; have h3 := h.kc; have h4 := h.vc
    refine ⟨_, _, _, _, _, rfl, by simp; omega, by simp; omega, by omega, by omega, by omega, by omega, ?_, ?_⟩
    · have := h.kr.take (min t.c.kn t.c.vn)
      simpa [sv, List.map_take] using this
    · rw [List.map_take, flat_take]; exact h.vr.take _
  · exact ⟨_, _, _, _, _, rfl, rfl, rfl, Nat.le_refl _, Nat.le_refl _, Nat.zero_le _, Nat.zero_le _, RdV.nil _ _, RdV.nil _ _⟩
/-- The member of a name. -/
def memC (t : MT) (s : ByteArray) : Cel := match ixL (nmsL t) s with | none => leafC 0 false ⟨#[]⟩ | some i => ((valsL t).getD i (leafT 0 false ⟨#[]⟩)).c
def memB (t : MT) (s : ByteArray) : Bool := (ixL (nmsL t) s).isSome
theorem memC_no {t : MT} {s : ByteArray} (h : ixL (nmsL t) s = none) : memC t s = leafC 0 false ⟨#[]⟩ := by unfold memC; rw [h]
theorem memC_at {t : MT} {s : ByteArray} {i : Nat} (h : ixL (nmsL t) s = some i) : memC t s = ((valsL t).getD i (leafT 0 false ⟨#[]⟩)).c := by unfold memC; rw [h]

/-- The world behind the store of a value into a variable. -/
def put0 (w : World) (b : Nat) (c : Cel) : World :=
  (((((((w.setCell ⟨b, 0, none⟩ (.int .i64 c.k)).setCell ⟨b, 1, none⟩ (.bool c.b)).setCell ⟨b, 2, none⟩ (.bool c.neg)).setCell ⟨b, 3, none⟩ (.slice c.ma c.mn c.mc)).setCell ⟨b, 4, none⟩ (.int .i64 c.e)).setCell ⟨b, 5, none⟩ (.string c.s)).setCell ⟨b, 6, none⟩ (.slice c.ka c.kn c.kc)).setCell ⟨b, 7, none⟩ (.slice c.va c.vn c.vc)
theorem put0_eq (w : World) (b : Nat) (c : Cel) : put0 w b c = put8 w b (0 * 8) c := by simp [put0, put8]
theorem box_blk {w : World} {b : Nat} {c : Cel} (h : BoxT w b c) : BlkV w b 28 (flat [c]) := by unfold BlkV; unfold BoxT at h; simpa [flat] using h
theorem blk_box {w : World} {b : Nat} {c : Cel} (h : BlkV w b 28 (flat [c])) : BoxT w b c := by unfold BlkV at h; unfold BoxT; simpa [flat] using h
theorem put0_box {w : World} {b : Nat} {c0 c : Cel} (h : BoxT w b c0) : BoxT (put0 w b c) b c := by
  rw [put0_eq]
  exact blk_box (put8_blk (box_blk h) 0 (by simp) c)
theorem put0_but (w : World) (b : Nat) (c : Cel) : But b w (put0 w b c) := by rw [put0_eq]; exact put8_but _ _ _ _
/-- A variable's cells: what they hold, and that they may be written. -/
def Var (w : World) (b : Nat) (c : Cel) : Prop :=
  (w.cell? ⟨b, 0, none⟩ = some (.int .i64 c.k) ∧ w.cell? ⟨b, 1, none⟩ = some (.bool c.b) ∧ w.cell? ⟨b, 2, none⟩ = some (.bool c.neg) ∧ w.cell? ⟨b, 3, none⟩ = some (.slice c.ma c.mn c.mc) ∧
    w.cell? ⟨b, 4, none⟩ = some (.int .i64 c.e) ∧ w.cell? ⟨b, 5, none⟩ = some (.string c.s) ∧ w.cell? ⟨b, 6, none⟩ = some (.slice c.ka c.kn c.kc) ∧ w.cell? ⟨b, 7, none⟩ = some (.slice c.va c.vn c.vc)) ∧
  (w.frozen? ⟨b, 0, none⟩ = false ∧ w.frozen? ⟨b, 1, none⟩ = false ∧ w.frozen? ⟨b, 2, none⟩ = false ∧ w.frozen? ⟨b, 3, none⟩ = false ∧ w.frozen? ⟨b, 4, none⟩ = false ∧ w.frozen? ⟨b, 5, none⟩ = false ∧ w.frozen? ⟨b, 6, none⟩ = false ∧ w.frozen? ⟨b, 7, none⟩ = false)
theorem BoxT.var {w : World} {b : Nat} {c : Cel} (h : BoxT w b c) : Var w b c := ⟨h.cells, h.free 0, h.free 1, h.free 2, h.free 3, h.free 4, h.free 5, h.free 6, h.free 7⟩
theorem two2_box (w : World) (c d : Cel) : BoxT (two2 w c d) w.heap.size c ∧ BoxT (two2 w c d) (w.heap.size + 1) d := by
  refine ⟨(Below.heap_alloc _ _ _ (by simp)).trans (heap_alloc_new w _), ?_⟩
  have := heap_alloc_new (w.alloc (.cells c.cells.toArray 28)) (.cells d.cells.toArray 28)
  rw [World.size_alloc] at this; exact this
theorem two2_size (w : World) (c d : Cel) : (two2 w c d).heap.size = w.heap.size + 2 := by simp [two2]

theorem getD_mapc {l : List MT} {i : Nat} (h : i < l.length) (d : MT) : (l.map MT.c).getD i zeroC = (l.getD i d).c := by simp [List.getD, h]
set_option maxHeartbeats 4000000 in
set_option maxRecDepth 100000 in
theorem member_any (t : MT) (s : ByteArray) (w : World) (hR : Rd1 w t) :
    Calls Tryd.prog 11 #[t.c.val, .string s] w (fun e w' => e = .returned (.tuple #[(memC t s).val, .bool (memB t s)]) ∧ Below w.heap.size w w') := by
  have KM := Lib.hid (fun W => members_any t.c W hR.lm.2.1 hR.lm.2.2 hR.kc hR.vc)
  obtain ⟨ad, n, cap, ad', cap', he, hn1, hn2, hc1, hc2, hk1, hk2, hr1, hr2⟩ := mem_ok hR
  rw [he] at KM
  have hn15 : n ≤ 1000000000000000 := by have := hR.lm.2.1; omega
  have KI := Lib.hid (fun W (h : Below w.heap.size w W) => index_any ad n cap (nmsL t) s W hn1 hc1 hn15 (hr1.on h))
  have HV := Lib.hid (fun W (h : Below w.heap.size w W) => hr2.on h)
  have HN1 := Lib.hid hn1; have HN2 := Lib.hid hn2
  have HM := Lib.hid (⟨fun h => memC_no h, fun i h => memC_at h⟩ : (ixL (nmsL t) s = none → memC t s = leafC 0 false ⟨#[]⟩) ∧ ∀ i, ixL (nmsL t) s = some i → memC t s = ((valsL t).getD i (leafT 0 false ⟨#[]⟩)).c)
  have HMB := Lib.hid (show memB t s = (ixL (nmsL t) s).isSome from rfl)
  have hcs := ixL_cases (nmsL t) s
  obtain ⟨Wb, hWb⟩ : ∃ x, two2 w t.c (leafC 0 false ⟨#[]⟩) = x := ⟨_, rfl⟩
  have HB0 := Lib.hid (show Below w.heap.size w Wb by rw [← hWb]; exact two_below2 _ _ _)
  have HBX := Lib.hid (fun W (h : Below Wb.heap.size Wb W) => ((by rw [← hWb] at h; exact (two2_box _ _ _).2.on (h.block _ (by rw [two2_size]; omega))) : BoxT W (w.heap.size + 1) (leafC 0 false ⟨#[]⟩)))
  have HRT := Lib.hid (fun (c : Cel) (W W2 : World) (e : put0 W (w.heap.size + 1) c = W2) (h : Below Wb.heap.size Wb W) => (by
    rw [← e]
    exact ⟨put0_box (HBX.out W h), (HB0.out.trans (h.mono HB0.out.size)).trans ((put0_but _ _ _).below (by omega) (by have := HB0.out.size; have := h.size; omega))⟩ : BoxT W2 (w.heap.size + 1) c ∧ Below w.heap.size w W2))
  have hwb := hWb
  clear hR he hr1 hr2 hn1 hn2 hWb
  generalize t.c = c at *
  obtain ⟨k, b, neg, ma, mn, mc, e, st, ka, kn, kc, va, vn, vc⟩ := c
  simp only at hk1 hk2
  unfold ixZ at KI
  unfold Cel.val at KM ⊢
  unfold two2 leafC Cel.cells at hwb
  simp only at hwb
  have HWB := Lib.hid hwb
  clear hwb
  rcases hcs with ⟨h1, h2⟩ | ⟨i, h1, h2, h3, h4⟩
  · rw [h1] at KI HMB
    rw [HM.out.1 h1, HMB.out]
    clear h1 h2 HM HMB
    go_enter Tryd.func11, Tryd.ntmps11
    go_wp2_with fail
    rw [HWB.out]
    refine (KM.out _).mono ?_
    rintro r w1 ⟨rfl, h1⟩
    have H1 := Lib.hid h1
    have H0 := Lib.hid (HB0.out.trans (h1.mono HB0.out.size))
    have hvar := (HBX.out _ h1).var
    unfold Var at hvar
    obtain ⟨⟨q0, q1, q2, q3, q4, q5, q6, q7⟩, f0, f1, f2, f3, f4, f5, f6, f7⟩ := hvar
    simp only [leafC] at q0 q1 q2 q3 q4 q5 q6 q7
    clear h1 HWB
    go_wp2_with fail
    refine (KI.out _ H0.out).mono ?_
    rintro r w2 ⟨rfl, h2⟩
    subst h2
    obtain ⟨W2, hW2⟩ : ∃ x, put0 w2 (w.heap.size + 1) (leafC 0 false ⟨#[]⟩) = x := ⟨_, rfl⟩
    have HQ := Lib.hid (HRT.out _ _ _ hW2 H1.out)
    have hw2 := hW2
    unfold put0 leafC at hw2
    simp only at hw2
    obtain ⟨z0, z1, z2, z3, z4, z5, z6, z7⟩ := HQ.out.1.cells
    simp only [leafC] at z0 z1 z2 z3 z4 z5 z6 z7
    clear hW2
    go_wp2
    exact bodyPost_ret (v := .tuple #[(leafC 0 false ⟨#[]⟩).val, .bool false]) (by simp [results, Tryd.results11, go_sem, z0, z1, z2, z3, z4, z5, z6, z7, leafC, Cel.val]) rfl ⟨rfl, HQ.out.2⟩
  · rw [h1] at KI HMB
    rw [HN1.out] at h2
    have hlt : (i : Int) < (n : Int) := by omega
    have hge : ¬ (i : Int) < 0 := by omega
    have hge2 : (0 : Int) ≤ (i : Int) := by omega
    rw [HM.out.2 i h1, HMB.out]
    obtain ⟨xc, hxc⟩ : ∃ x, ((valsL t).getD i (leafT 0 false ⟨#[]⟩)).c = x := ⟨_, rfl⟩
    have HXC := Lib.hid hxc
    rw [hxc]
    clear h1 h3 h4 HM HMB hxc
    go_enter Tryd.func11, Tryd.ntmps11
    go_wp2_with fail
    rw [HWB.out]
    refine (KM.out _).mono ?_
    rintro r w1 ⟨rfl, h1⟩
    have H1 := Lib.hid h1
    have H0 := Lib.hid (HB0.out.trans (h1.mono HB0.out.size))
    have hvar := (HBX.out _ h1).var
    unfold Var at hvar
    obtain ⟨⟨q0, q1, q2, q3, q4, q5, q6, q7⟩, f0, f1, f2, f3, f4, f5, f6, f7⟩ := hvar
    simp only [leafC] at q0 q1 q2 q3 q4 q5 q6 q7
    clear h1 HWB
    go_wp2_with fail
    refine (KI.out _ H0.out).mono ?_
    rintro r w2 ⟨rfl, h2⟩
    subst h2
    have hrd := HV.out _ H0.out
    have hsh := hrd.shape (by rw [flat_len, List.length_map, HN2.out]; omega)
    obtain ⟨xbk, xo, rfl, _⟩ := hsh
    obtain ⟨x0, x1, x2, x3, x4, x5, x6, x7⟩ := flat_at hrd i (by rw [List.length_map, HN2.out]; omega) (c := xc) (by rw [← HXC.out]; exact getD_mapc (by rw [HN2.out]; omega) _)
    clear hrd
    obtain ⟨W2, hW2⟩ : ∃ x, put0 w2 (w.heap.size + 1) xc = x := ⟨_, rfl⟩
    have HQ := Lib.hid (HRT.out _ _ _ hW2 H1.out)
    have hw2 := hW2
    unfold put0 at hw2
    obtain ⟨z0, z1, z2, z3, z4, z5, z6, z7⟩ := HQ.out.1.cells
    obtain ⟨xk, xb, xneg, xma, xmn, xmc, xe, xs, xka, xkn, xkc, xva, xvn, xvc⟩ := xc
    simp only at z0 z1 z2 z3 z4 z5 z6 z7 hw2 x0 x1 x2 x3 x4 x5 x6 x7
    clear hW2
    go_wp2
    exact bodyPost_ret (v := .tuple #[(⟨xk, xb, xneg, xma, xmn, xmc, xe, xs, xka, xkn, xkc, xva, xvn, xvc⟩ : Cel).val, .bool true]) (by simp [results, Tryd.results11, go_sem, z0, z1, z2, z3, z4, z5, z6, z7, Cel.val]) rfl ⟨rfl, HQ.out.2⟩
end Go.Proofs.YtipibipaocpojaaDoor
