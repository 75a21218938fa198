/- erratumlaw00's SameTree of what is the same. -/
import Derived.Test.YtndjdmgncjiggaaQl
import Derived.Lib.QuietBelow
namespace Go.Proofs.Ytndjdmgncjiggaa
open Go.RowKit Go.Shelf Go.Sort
set_option linter.unusedVariables false
set_option linter.unusedSimpArgs false
/-- The same but for where it lies. -/
theorem bare_parts {t u : MT} (h : t.bare = u.bare) : t.c.bare = u.c.bare ∧ t.m = u.m ∧ t.k = u.k ∧ t.v.map MT.bare = u.v.map MT.bare := by
  rw [MT.bare_eq, MT.bare_eq u] at h
  injection h with h1 h2 h3 h4
  exact ⟨h1, h2, h3, h4⟩
set_option maxHeartbeats 8000000 in
set_option maxRecDepth 100000 in
theorem sameTree_any (t : MT) : ∀ (u : MT) (w : World), t.bare = u.bare → Sml t → Rep w t → Rep w u → Calls Try.prog 20 #[t.c.val, u.c.val] w (BoolBelow true w) := by
  refine MT.ind (P := fun t => ∀ (u : MT) (w : World), t.bare = u.bare → Sml t → Rep w t → Rep w u → Calls Try.prog 20 #[t.c.val, u.c.val] w (BoolBelow true w)) ?_ t
  intro t ih u w hb hS hR hU
  obtain ⟨e1, e2, e3, e4⟩ := bare_parts hb
  have own := hR.own
  have ow2 := hU.own
  obtain ⟨hs1, hs2, hs3⟩ := hS t t.sub_refl
  obtain ⟨Wb, hWb⟩ : ∃ x, two2 w t.c u.c = x := ⟨_, rfl⟩
  have hb0 : Below w.heap.size w Wb := by rw [← hWb]; exact ((Below.refl _ _).alloc (Nat.le_refl _) _).alloc (by simp) _
  have hsz : Wb.heap.size = w.heap.size + 2 := by rw [← hWb]; exact two2_size _ _ _
  have HB0 := Lib.hid (fun W (h : Below Wb.heap.size Wb W) => hb0.trans (h.mono hb0.size))
  have HBX := Lib.hid (fun W (h : Below Wb.heap.size Wb W) => ((by rw [← hWb] at h; exact ⟨(two2_box w t.c u.c).1.on (h.block _ (by rw [two2_size]; omega)), (two2_box w t.c u.c).2.on (h.block _ (by rw [two2_size]; omega))⟩) : BoxT W w.heap.size t.c ∧ BoxT W (w.heap.size + 1) u.c))
  have HV := Lib.hid (fun W (h : Below w.heap.size w W) => And.intro (own.vr.on h) (ow2.vr.on h))
  have HVL := Lib.hid own.vn
  have HVL2 := Lib.hid ow2.vn
  have KI := Lib.hid (fun (j : Nat) (hj : j < t.v.length) (hj2 : j < u.v.length) (W : World) (h : Below w.heap.size w W) => ih (t.v.getD j (leafT 0 false ⟨#[]⟩)) (by simp [List.getD, hj]) (u.v.getD j (leafT 0 false ⟨#[]⟩)) W (by
      have h1 := congrArg (fun l => l[j]?) e4
      simp only [List.getElem?_map, List.getElem?_eq_getElem hj, List.getElem?_eq_getElem hj2, Option.map_some, Option.some.injEq] at h1
      simpa [List.getD, hj, hj2] using h1) (hS.part (by simp [List.getD, hj])) ((hR.part (by simp [List.getD, hj])).on h) ((hU.part (by simp [List.getD, hj2])).on h))
  have HKN := Lib.hid (fun W (h : Below w.heap.size w W) => sameNum_any t.c.neg t.c.ma t.c.mn t.c.mc t.m t.c.e u.c.ma u.c.mc W own.mn own.mc (by have := ow2.mc; have := congrArg Cel.mn e1; simp [Cel.bare] at this; omega) (by omega) (own.mr.below h) (by rw [e2]; exact ow2.mr.below h))
  have HKS := Lib.hid (fun W (h : Below w.heap.size w W) => sameStrings_any t.c.ka t.c.kn t.c.kc t.k u.c.ka u.c.kc W own.kn own.kc (by have := ow2.kc; have := congrArg Cel.kn e1; simp [Cel.bare] at this; omega) (by omega) (own.kr.on h) (by rw [e3]; exact ow2.kr.on h))
  have HEND := Lib.hid (show ∀ W, Below Wb.heap.size Wb W → BoolBelow true w (.returned (.bool true)) W from fun W h => BoolBelow.mk rfl (HB0.out W h))
  have HWB := Lib.hid (show Below Wb.heap.size Wb (two2 w t.c u.c) by rw [hWb]; exact Below.refl _ _)
  have HZ := Lib.hid hsz
  have hvc := own.vc
  have hvc2 := ow2.vc
  clear hb0 hsz own ow2 hR hU hS ih hWb e2 e3 e4 hb hs1 hs2
  generalize t.k = names at *
  generalize t.v = vals at *
  generalize u.v = vals2 at *
  generalize t.m = limbs at *
  generalize t.c = c at *
  generalize u.c = d at *
  obtain ⟨k, b, neg, ma, mn, mc, e, st, ka, kn, kc, va, vn, vc⟩ := c
  obtain ⟨k', b', neg', ma', mn', mc', e', st', ka', kn', kc', va', vn', vc'⟩ := d
  simp only [Cel.bare, Cel.mk.injEq, true_and, and_true] at e1
  obtain ⟨rfl, rfl, rfl, rfl, rfl, rfl, rfl, rfl⟩ := e1
  unfold Cel.val
  unfold two2 Cel.cells at HWB
  simp only at HWB HKN HKS hvc hvc2 HVL HVL2 HV hs3
  go_enter Try.func20, Try.ntmps20
  go_wp2_with fail
  refine (HKN.out _ (HB0.out _ HWB.out)).mono ?_
  rintro r w1 ⟨rfl, hb1⟩
  have HB1 := Lib.hid (below_on HWB.out hb1)
  clear hb1
  obtain ⟨⟨c0, c1, c2, c3, c4, c5, c6, c7⟩, ⟨d0, d1, d2, d3, d4, d5, d6, d7⟩⟩ := And.intro (HBX.out _ HB1.out).1.cells (HBX.out _ HB1.out).2.cells
  simp only at c0 c1 c2 c3 c4 c5 c6 c7 d0 d1 d2 d3 d4 d5 d6 d7
  have hst : (st.toList == st.toList) = true := by simp
  go_wp2_with fail
  refine (HKS.out _ (HB0.out _ HB1.out)).mono ?_
  rintro r w2 ⟨rfl, q, rfl⟩
  have HB2 := Lib.hid (below_drewN HB1.out q)
  go_wp2_with fail
  clear c0 c1 c2 c3 c4 c5 c6 c7 d0 d1 d2 d3 d4 d5 d6 d7 hst
  generalize World.drewN _ q = w3 at HB2 ⊢
  go_loopg [5] vn (fun k i wr => LN2 Wb vn k i wr)
  case atStart => exact ⟨0, Nat.zero_le _, by omega, rfl, HB2.out⟩
  case round =>
    obtain ⟨j, hj, hk, rfl, hb⟩ := hrel
    have HB := Lib.hid hb
    obtain ⟨⟨c0, c1, c2, c3, c4, c5, c6, c7⟩, ⟨d0, d1, d2, d3, d4, d5, d6, d7⟩⟩ := And.intro (HBX.out _ hb).1.cells (HBX.out _ hb).2.cells
    simp only at c0 c1 c2 c3 c4 c5 c6 c7 d0 d1 d2 d3 d4 d5 d6 d7
    clear c0 c1 c2 c3 c4 c5 c6 d0 d1 d2 d3 d4 d5 d6 hb
    by_cases hlt : j < vn
    · obtain ⟨g, rfl⟩ : ∃ k, gk = k + 1 := ⟨gk - 1, by omega⟩
      have hjz : (j : Int) < (vn : Int) := by omega
      have hj0 : (0 : Int) ≤ (j : Int) := by omega
      have hjl : j < vals.length := by rw [HVL.out]; exact hlt
      have hjl2 : j < vals2.length := by rw [HVL2.out]; exact hlt
      obtain ⟨hrd, hrd2⟩ := HV.out wr (HB0.out _ HB.out)
      obtain ⟨xbk, xo, rfl, _⟩ := hrd.shape (by rw [flat_len, List.length_map]; omega)
      obtain ⟨ybk, yo, rfl, _⟩ := hrd2.shape (by rw [flat_len, List.length_map]; omega)
      obtain ⟨x0, x1, x2, x3, x4, x5, x6, x7⟩ := flat_at hrd j (by rw [List.length_map]; omega) (c := (vals.getD j (leafT 0 false ⟨#[]⟩)).c) (getD_mapc hjl _)
      obtain ⟨y0, y1, y2, y3, y4, y5, y6, y7⟩ := flat_at hrd2 j (by rw [List.length_map]; omega) (c := (vals2.getD j (leafT 0 false ⟨#[]⟩)).c) (getD_mapc hjl2 _)
      have K := KI.out j hjl hjl2
      clear hrd hrd2
      generalize (vals.getD j (leafT 0 false ⟨#[]⟩)).c = xc at *
      generalize (vals2.getD j (leafT 0 false ⟨#[]⟩)).c = yc at *
      obtain ⟨xk, xb, xneg, xma, xmn, xmc, xe, xs, xka, xkn, xkc, xva, xvn, xvc⟩ := xc
      obtain ⟨yk, yb, yneg, yma, ymn, ymc, ye, ys, yka, ykn, ykc, yva, yvn, yvc⟩ := yc
      unfold Cel.val at K
      simp only at K x0 x1 x2 x3 x4 x5 x6 x7 y0 y1 y2 y3 y4 y5 y6 y7
      have CD := fun d os => (K (grow (redrawn wr d) os) ((HB0.out _ HB.out).trans ((below_regrown wr d os).mono (HB0.out _ HB.out).size))).regrown_of
      have k7 := cell_regrown c7
      have l7 := cell_regrown d7
      have kx0 := cell_regrown x0
      have kx1 := cell_regrown x1
      have kx2 := cell_regrown x2
      have kx3 := cell_regrown x3
      have kx4 := cell_regrown x4
      have kx5 := cell_regrown x5
      have kx6 := cell_regrown x6
      have kx7 := cell_regrown x7
      have ky0 := cell_regrown y0
      have ky1 := cell_regrown y1
      have ky2 := cell_regrown y2
      have ky3 := cell_regrown y3
      have ky4 := cell_regrown y4
      have ky5 := cell_regrown y5
      have ky6 := cell_regrown y6
      have ky7 := cell_regrown y7
      have HN := Lib.hid (fun (W : World) (h : Below wr.heap.size wr W) => (⟨j + 1, by omega, by omega, rfl, HB.out.trans (h.mono HB.out.size)⟩ : LN2 Wb vn g (.int .i64 ((j : Int) + 1)) W))
      clear K
      go_wp2_with fail
      refine wp_region_quiet_below (by kernel_rfl) (by kernel_rfl) ?_
      repeat (quiet_step (with_reducible exact CD _ _))
      refine wpQuiet_nil ?_
      intro _ hw'
      obtain ⟨⟨dq, osq⟩, hw''⟩ := hw'
      subst hw''
      have HF := Lib.hid (HN.out _ (below_regrown wr dq osq))
      generalize grow (redrawn wr dq) osq = wn at HF ⊢
      clear CD k7 l7 kx0 kx1 kx2 kx3 kx4 kx5 kx6 kx7 ky0 ky1 ky2 ky3 ky4 ky5 ky6 ky7
      go_wp2_with fail
      go_roundg g
      case rel => exact HF.out
      case measure => omega
    · have hjz : ¬ (j : Int) < (vn : Int) := by omega
      go_wp2
      go_ret
      exact HEND.out _ HB.out
end Go.Proofs.Ytndjdmgncjiggaa
/- erratumlaw00's Trees: copies of trees. -/
namespace Go.Proofs.Ytndjdmgncjiggaa
open Go.RowKit Go.Shelf Go.Sort
set_option linter.unusedVariables false
set_option linter.unusedSimpArgs false
theorem wpl_appT {w : World} {ops : Array Oper} {rest : List Oper} {o : Oper} {a : Act} {Q : Exit → Act → World → Prop} (hgd : o.guard = none) (s x : Operand)
    (ho : o.op = .call { callee := .builtin .append, args := #[s, x], argTypes := #[23, 23] }) (B : Nat) (v : Value) (n : Nat) (xs : List Value) (hs : a.eval s = v) (hown : w.ownsRow B 31 8 v n xs)
    (ad : Addr) (c : Nat) (y : Cel) (hx : a.eval x = .slice (some ad) 1 c) (hr : RdV w (some ad) y.cells) (hn : n ≤ 1000000000) (hB : B ≤ w.heap.size)
    (h : ∀ g cap w', w'.ownsRow B 31 8 (.slice (some ⟨g, 0, none⟩) (n + 1) cap) (n + 1) (xs ++ y.cells) → w.grownBy w' v.ownBlock → (v.ownBlock = some g ∨ g = w.heap.size) → wpList Try.prog ops Q rest (a.put o.dst (.slice (some ⟨g, 0, none⟩) (n + 1) cap)) w') :
    wpList Try.prog ops Q (o :: rest) a w := by
  obtain ⟨i0, hi, hz0, hz1, hz2⟩ := info_parts info_tree
  refine wpList_append_lies w hgd s x 23 ho B 31 i0 zeroC.val 8 120 Try.underlying23 hi hz0 hz1 hz2 rfl (by decide) v n xs hs hown ad 1 c y.cells hx rfl ?_ (cel_one y) (by decide) (by unfold maxLen; omega) (by omega) hB _ rfl (fun g cap w' h1 h2 h3 _ => h g cap w' h1 h2 h3)
  intro j u hj
  have hjl : j < y.cells.length := (List.getElem?_eq_some_iff.1 hj).1
  obtain ⟨b, o', e, _, hc⟩ := hr j hjl
  cases e
  have hadd : (⟨b, o', none⟩ : Addr).add j = ⟨b, o' + j, none⟩ := by unfold Addr.add; split <;> simp_all
  rw [hadd, hc, hj]
theorem own_at {w : World} {B : Nat} {e : TypeId} {size : Nat} {v : Value} {n : Nat} {xs : List Value} (h : w.ownsRow B e size v n xs) {k : Nat} (hk : v.ownBlock = some k) : B ≤ k ∧ k < w.heap.size := by
  rcases h.2 with ⟨rfl, _⟩ | ⟨g, cap, cur, rfl, hB, hg, _⟩
  · cases hk
  · simp only [Value.ownBlock, Option.some.injEq] at hk
    subst hk
    exact ⟨hB, (Array.getElem?_eq_some_iff.1 hg).1⟩
/-- What may change behind growing copies: elder blocks, their list's own. -/
def AX (B : Nat) (v : Value) (k : Nat) : Prop := k < B ∨ v.ownBlock = some k
/-- Copies as they grow. -/
structure ArT (w0 : World) (us : List MT) (v : Value) (wr : World) : Prop where
  bel : Below w0.heap.size w0 wr
  ow : wr.ownsRow w0.heap.size 31 8 v us.length (flat (us.map MT.c))
  ind : Ind (AX w0.heap.size v) wr (fun W => ∀ x ∈ us, Rep W x)
theorem ArT.step {w0 wr w1 w5 : World} {us : List MT} {x : MT} {v : Value} {o : Obj} {g cap : Nat} (h : ArT w0 us v wr) (h1 : Below wr.heap.size wr w1) (hx : Ind (fun k => k < wr.heap.size) w1 (fun W => Rep W x))
    (ho5 : w5.ownsRow w0.heap.size 31 8 (.slice (some ⟨g, 0, none⟩) (us.length + 1) cap) (us.length + 1) (flat (us.map MT.c) ++ x.c.cells)) (hg5 : (w1.alloc o).grownBy w5 v.ownBlock) (hor : v.ownBlock = some g ∨ g = (w1.alloc o).heap.size) :
    ArT w0 (us ++ [x]) (.slice (some ⟨g, 0, none⟩) (us.length + 1) cap) w5 := by
  have hown := fun k (hk : v.ownBlock = some k) => own_at h.ow hk
  have hs1 := h1.size; have hs5 := hg5.size; have hsw := h.bel.size
  simp only [World.size_alloc] at hs5
  have hb1 : Below w0.heap.size w0 (w1.alloc o) := (h.bel.trans (h1.mono hsw)).alloc (by omega) _
  have hkeep : ∀ k, k < w1.heap.size → v.ownBlock ≠ some k → w5.heap[k]? = w1.heap[k]? := fun k hk hne => by
    rw [hg5.block k (by simp; omega) (fun e => hne e.symm), Below.heap_alloc _ _ _ hk]
  have e1 : (us ++ [x]).length = us.length + 1 := by simp
  have e2 : flat ((us ++ [x]).map MT.c) = flat (us.map MT.c) ++ x.c.cells := by simp [flat]
  refine ⟨hb1.grown hg5 (by simp; omega) (fun k hk => (hown k hk).1), by rw [e1, e2]; exact ho5, ?_⟩
  intro W hs hk y hy
  have hW : ∀ k, k < w1.heap.size → w0.heap.size ≤ k → v.ownBlock ≠ some k → W.heap[k]? = w1.heap[k]? := fun k h1' h2' h3' => by
    rw [hk k (by omega) (fun hx => by
      rcases hx with hx | hx
      · omega
      · simp only [Value.ownBlock, Option.some.injEq] at hx
        rcases hor with ho | ho
        · rw [hx] at ho; exact h3' ho
        · simp at ho; omega), hkeep k h1' h3']
  rcases List.mem_append.1 hy with hy | hy
  · exact h.ind W (by omega) (fun k hk1 hk2 => by
      rw [hW k (by omega) (Nat.le_of_not_lt (fun h => hk2 (.inl h))) (fun e => hk2 (.inr e)), h1.block k hk1]) y hy
  · rw [List.mem_singleton.1 hy]
    exact hx W (by omega) (fun k hk1 hk2 => hW k hk1 (by omega) (fun e => by have := (hown k e).2; omega))
/-- What Trees leaves. -/
def TreesP (l : List MT) (w : World) (e : Ending) (w' : World) : Prop :=
  ∃ (us : List MT) (ad : Option Addr) (cap : Nat), e = .returned (.slice ad l.length cap) ∧ us.map MT.bare = l.map MT.bare ∧ l.length ≤ cap ∧ RdV w' ad (flat (us.map MT.c)) ∧ (∀ u ∈ us, Rep w' u) ∧ Below w.heap.size w w'
/-- What holds from round to round. -/
def TRL (w0 : World) (l : List MT) (n g : Nat) (v i : Value) (wr : World) : Prop :=
  ∃ us : List MT, us.length ≤ n ∧ n - us.length ≤ g ∧ i = .int .i64 (us.length : Int) ∧ ArT w0 us v wr ∧ us.map MT.bare = (l.take us.length).map MT.bare
theorem TRL.step {w0 wr w1 w5 : World} {l us : List MT} {x : MT} {v : Value} {o : Obj} {g' g cap n : Nat} (hlt : us.length < n) (hl : l.length = n) (hg : n - us.length ≤ g + 1) (h : ArT w0 us v wr) (hm : us.map MT.bare = (l.take us.length).map MT.bare) (h1 : Below wr.heap.size wr w1) (hx : Ind (fun k => k < wr.heap.size) w1 (fun W => Rep W x)) (hxb : x.bare = (l.getD us.length (leafT 0 false ⟨#[]⟩)).bare)
    (ho5 : w5.ownsRow w0.heap.size 31 8 (.slice (some ⟨g', 0, none⟩) (us.length + 1) cap) (us.length + 1) (flat (us.map MT.c) ++ x.c.cells)) (hg5 : (w1.alloc o).grownBy w5 v.ownBlock) (hor : v.ownBlock = some g' ∨ g' = (w1.alloc o).heap.size) :
    TRL w0 l n g (.slice (some ⟨g', 0, none⟩) (us.length + 1) cap) (.int .i64 ((us.length : Int) + 1)) w5 := by
  refine ⟨us ++ [x], by simp; omega, by simp; omega, by simp, h.step h1 hx ho5 hg5 hor, ?_⟩
  have hll : us.length < l.length := by omega
  rw [List.map_append, hm, List.length_append, List.length_singleton, List.take_add_one, List.getElem?_eq_getElem hll]
  simp [hxb, List.getD, hll]
  rw [List.take_add_one]; simp [hll]
set_option maxHeartbeats 4000000 in
set_option maxRecDepth 100000 in
theorem trees_any (ad : Option Addr) (n cap : Nat) (l : List MT) (w : World) (hl : l.length = n) (hn : n ≤ 1000000) (hr : RdV w ad (flat (l.map MT.c))) (hS : ∀ t ∈ l, Sml t) (hR : ∀ t ∈ l, Rep w t) :
    Calls Try.prog 9 #[.slice ad n cap] w (TreesP l w) := by
  have HV := Lib.hid (fun W (h : Below w.heap.size w W) => hr.on h)
  have KI := Lib.hid (fun (j : Nat) (hj : j < l.length) (W : World) (h : Below w.heap.size w W) => copy_any (l.getD j (leafT 0 false ⟨#[]⟩)) W (hS _ (by simp [List.getD, hj])) ((hR _ (by simp [List.getD, hj])).on h))
  have HL := Lib.hid hl
  have HS0 := Lib.hid (show TRL w l n n (.slice none 0 0) (.int .i64 0) w from ⟨[], Nat.zero_le _, by simp, rfl, ⟨Below.refl _ _, World.ownsRow_nil _ _ _ _, fun W _ _ x hx => by cases hx⟩, by simp⟩)
  have HEND := Lib.hid (fun (us : List MT) (v : Value) (W : World) (h1 : us.length = n) (h : ArT w us v W) (hm : us.map MT.bare = (l.take us.length).map MT.bare) => show TreesP l w (.returned v) W from by
    obtain ⟨a, c, rfl, hc, hrd, _⟩ := own_viewN h.ow
    refine ⟨us, a, c, by rw [hl, h1], by rw [hm, List.take_of_length_le (by omega)], by omega, hrd, h.ind.here, h.bel⟩)
  clear hr hS hR hl
  generalize hTP : TreesP l w = TP at *
  go_enter Try.func9, Try.ntmps9
  go_wp2_with fail
  clear hTP
  go_loopg [3, 4] n (fun g v i wr => TRL w l n g v i wr)
  case atStart => exact HS0.out
  case round =>
    obtain ⟨us, hul, hug, rfl, hA, hm⟩ := hrel
    have HA := Lib.hid hA; have HM := Lib.hid hm
    clear hA hm
    by_cases hlt : us.length < n
    · obtain ⟨g, rfl⟩ : ∃ k, gk = k + 1 := ⟨gk - 1, by omega⟩
      have hjz : (us.length : Int) < (n : Int) := by omega
      have hjl : us.length < l.length := by rw [HL.out]; exact hlt
      have hrd := HV.out wr HA.out.bel
      obtain ⟨xbk, xo, rfl, _⟩ := hrd.shape (by rw [flat_len, List.length_map]; omega)
      obtain ⟨x0, x1, x2, x3, x4, x5, x6, x7⟩ := flat_at hrd us.length (by rw [List.length_map]; omega) (c := (l.getD us.length (leafT 0 false ⟨#[]⟩)).c) (getD_mapc hjl _)
      have K := Lib.hid (KI.out us.length hjl wr HA.out.bel)
      unfold CopyPost at K
      have HT := Lib.hid (fun (x : MT) (w1 w5 : World) (o : Obj) (g' cap : Nat) h1 hx hxb ho5 hg5 hor => TRL.step (g := g) (g' := g') (cap := cap) (x := x) (w1 := w1) (w5 := w5) (o := o) hlt HL.out hug HA.out HM.out h1 hx hxb ho5 hg5 hor)
      generalize (l.getD us.length (leafT 0 false ⟨#[]⟩)).bare = TB at K HT
      generalize (l.getD us.length (leafT 0 false ⟨#[]⟩)).c = xc at *
      obtain ⟨xk, xb, xneg, xma, xmn, xmc, xe, xs, xka, xkn, xkc, xva, xvn, xvc⟩ := xc
      simp only [Cel.val] at K
      simp only at x0 x1 x2 x3 x4 x5 x6 x7
      have hu6 : (us.length : Int) ≤ 1000000 := by omega
      clear hrd hug
      go_wp2_with fail
      refine K.out.mono ?_
      rintro r w1 ⟨y, rfl, hy, hyb, h1⟩
      have HY := Lib.hid hy; have HYB := Lib.hid hyb; have HB1 := Lib.hid h1
      have HO := Lib.hid (own_onN HA.out.ow h1)
      have hbz := HA.out.bel.size
      have hbs := h1.size
      clear hy hyb h1
      have HT2 := Lib.hid (fun w5 o g' cap ho5 hg5 hor => HT.out y w1 w5 o g' cap HB1.out HY.out HYB.out ho5 hg5 hor)
      obtain ⟨cy, hcy⟩ : ∃ c, y.c = c := ⟨_, rfl⟩
      rw [hcy] at HT2 ⊢
      clear hcy HT HY HYB
      obtain ⟨yk, yb, yneg, yma, ymn, ymc, ye, ys, yka, ykn, ykc, yva, yvn, yvc⟩ := cy
      simp only [Cel.val]
      go_wp2_with (at_builtin; refine wpl_appT rfl _ _ rfl w.heap.size _ us.length (flat (us.map MT.c)) rfl (own_onN HO.out ((Below.refl _ _).alloc (Nat.le_refl _) _)) ⟨w1.heap.size, 0, none⟩ 1 ⟨yk, yb, yneg, yma, ymn, ymc, ye, ys, yka, ykn, ykc, yva, yvn, yvc⟩ rfl (rdv_new _ _ _) (by omega) (by simp; omega) ?_)
      intro gg cap w7 ho7 hg7 hor
      have HF := Lib.hid (HT2.out w7 _ gg cap ho7 hg7 (by simpa using hor))
      clear ho7 hg7 hor
      go_wp2_with fail
      go_roundg g
      case rel => exact HF.out
      case measure => omega
    · have hjz : ¬ (us.length : Int) < (n : Int) := by omega
      have HE := Lib.hid (HEND.out us _ wr (by omega) HA.out HM.out)
      go_wp2_with fail
      exact HE.out
end Go.Proofs.Ytndjdmgncjiggaa
