/- erratumlaw08.JsonBack: for every input it answers true, and what came in stays: the row, and its tied card. Conditions: what the row's own cells say (the tables of Go's library that it lists start as the program's text lays them). -/
import Derived.Test.YtijaphbccnadbaaGreatDoorVP
import Derived.Lib.QuietBelow
import Derived.Test.YtijaphbccnadbaaGreatDoorVJ
import Derived.Test.YtijaphbccnadbaaGreatDoorVu
import Derived.Deep.CutBlock
import Derived.Deep.CutRange
import Derived.Test.YtijaphbccnadbaaGreatDoorVm
import Derived.Test.YtijaphbccnadbaaGreatDoorTie
import Derived.ProofKit
import Derived.SizedLaws
import Derived.OpenShut
import Derived.LaidMore
import Derived.Lay
import Derived.SevenTiedAt
import Derived.Stop.Joined
import Derived.Lib.LaidU8T
import Derived.Test.YtijaphbccnadbaaGreatDoorVr
import Derived.SliceStrings
import Derived.Test.YtijaphbccnadbaaGreatDoorVw
import Derived.Lib.LaidTab
import Derived.Test.YtijaphbccnadbaaGreatDoorCards
namespace Go.Proofs.YtijaphbccnadbaaGreatDoor
open Go.RowKit Go.Shelf Go.Sort
set_option linter.unusedVariables false
set_option linter.unusedSimpArgs false
theorem bare_parts {t u : MT} (h : t.bare = u.bare) : t.c.bare = u.c.bare ∧ t.m = u.m ∧ t.k = u.k ∧ t.v.map MT.bare = u.v.map MT.bare := by
  rw [MT.bare_eq, MT.bare_eq u] at h
  injection h with h1 h2 h3 h4
  exact ⟨h1, h2, h3, h4⟩
set_option maxHeartbeats 8000000 in
set_option maxRecDepth 100000 in
theorem sameTree_any (t : MT) : ∀ (u : MT) (w : World), t.bare = u.bare → Sml t → Rep w t → Rep w u → Calls Tryz.prog 16 #[t.c.val, u.c.val] w (BoolBelow true w) := by
  refine MT.ind (P := fun t => ∀ (u : MT) (w : World), t.bare = u.bare → Sml t → Rep w t → Rep w u → Calls Tryz.prog 16 #[t.c.val, u.c.val] w (BoolBelow true w)) ?_ t
  intro t ih u w hb hS hR hU
  obtain ⟨e1, e2, e3, e4⟩ := bare_parts hb
  have own := hR.own
  have ow2 := hU.own
  obtain ⟨hs1, hs2, hs3⟩ := hS t t.sub_refl
  obtain ⟨Wb, hWb⟩ : ∃ x, two2 w t.c u.c = x := ⟨_, rfl⟩
  have hb0 : Below w.heap.size w Wb := by rw [← hWb]; exact ((Below.refl _ _).alloc (Nat.le_refl _) _).alloc (by simp) _
  have hsz : Wb.heap.size = w.heap.size + 2 := by rw [← hWb]; exact two2_size _ _ _
  have HB0 := Lib.hid (fun W (h : Below Wb.heap.size Wb W) => hb0.trans (h.mono hb0.size))
  have HBX := Lib.hid (fun W (h : Below Wb.heap.size Wb W) => ((by rw [← hWb] at h; exact ⟨(two2_box w t.c u.c).1.on (h.block _ (by rw [two2_size]; omega)), (two2_box w t.c u.c).2.on (h.block _ (by rw [two2_size]; omega))⟩) : BoxT W w.heap.size t.c ∧ BoxT W (w.heap.size + 1) u.c))
  have HV := Lib.hid (fun W (h : Below w.heap.size w W) => And.intro (own.vr.on h) (ow2.vr.on h))
  have HVL := Lib.hid own.vn
  have HVL2 := Lib.hid ow2.vn
  have KI := Lib.hid (fun (j : Nat) (hj : j < t.v.length) (hj2 : j < u.v.length) (W : World) (h : Below w.heap.size w W) => ih (t.v.getD j (leafT 0 false ⟨#[]⟩)) (by simp [List.getD, hj]) (u.v.getD j (leafT 0 false ⟨#[]⟩)) W (by
      have h1 := congrArg (fun l => l[j]?) e4
      simp only [List.getElem?_map, List.getElem?_eq_getElem hj, List.getElem?_eq_getElem hj2, Option.map_some, Option.some.injEq] at h1
      simpa [List.getD, hj, hj2] using h1) (hS.part (by simp [List.getD, hj])) ((hR.part (by simp [List.getD, hj])).on h) ((hU.part (by simp [List.getD, hj2])).on h))
  have HKN := Lib.hid (fun W (h : Below w.heap.size w W) => sameNum_any t.c.neg t.c.ma t.c.mn t.c.mc t.m t.c.e u.c.ma u.c.mc W own.mn own.mc (by have := ow2.mc; have := congrArg Cel.mn e1; simp [Cel.bare] at this; omega) (by omega) (own.mr.below h) (by rw [e2]; exact ow2.mr.below h))
  have HKS := Lib.hid (fun W (h : Below w.heap.size w W) => sameStrings_any t.c.ka t.c.kn t.c.kc t.k u.c.ka u.c.kc W own.kn own.kc (by have := ow2.kc; have := congrArg Cel.kn e1; simp [Cel.bare] at this; omega) (by omega) (own.kr.on h) (by rw [e3]; exact ow2.kr.on h))
  have HEND := Lib.hid (show ∀ W, Below Wb.heap.size Wb W → BoolBelow true w (.returned (.bool true)) W from fun W h => BoolBelow.mk rfl (HB0.out W h))
  have HWB := Lib.hid (show Below Wb.heap.size Wb (two2 w t.c u.c) by rw [hWb]; exact Below.refl _ _)
  have HZ := Lib.hid hsz
  have hvc := own.vc
  have hvc2 := ow2.vc
  clear hb0 hsz own ow2 hR hU hS ih hWb e2 e3 e4 hb hs1 hs2
  generalize t.k = names at *
  generalize t.v = vals at *
  generalize u.v = vals2 at *
  generalize t.m = limbs at *
  generalize t.c = c at *
  generalize u.c = d at *
  obtain ⟨k, b, neg, ma, mn, mc, e, st, ka, kn, kc, va, vn, vc⟩ := c
  obtain ⟨k', b', neg', ma', mn', mc', e', st', ka', kn', kc', va', vn', vc'⟩ := d
  simp only [Cel.bare, Cel.mk.injEq, true_and, and_true] at e1
  obtain ⟨rfl, rfl, rfl, rfl, rfl, rfl, rfl, rfl⟩ := e1
  unfold Cel.val
  unfold two2 Cel.cells at HWB
  simp only at HWB HKN HKS hvc hvc2 HVL HVL2 HV hs3
  go_enter Tryz.func16, Tryz.ntmps16
  go_wp2_with fail
  refine (HKN.out _ (HB0.out _ HWB.out)).mono ?_
  rintro r w1 ⟨rfl, hb1⟩
  have HB1 := Lib.hid (below_on HWB.out hb1)
  clear hb1
  obtain ⟨⟨c0, c1, c2, c3, c4, c5, c6, c7⟩, ⟨d0, d1, d2, d3, d4, d5, d6, d7⟩⟩ := And.intro (HBX.out _ HB1.out).1.cells (HBX.out _ HB1.out).2.cells
  simp only at c0 c1 c2 c3 c4 c5 c6 c7 d0 d1 d2 d3 d4 d5 d6 d7
  have hst : (st.toList == st.toList) = true := by simp
  go_wp2_with fail
  refine (HKS.out _ (HB0.out _ HB1.out)).mono ?_
  rintro r w2 ⟨rfl, q, rfl⟩
  have HB2 := Lib.hid (below_drewN HB1.out q)
  go_wp2_with fail
  clear c0 c1 c2 c3 c4 c5 c6 c7 d0 d1 d2 d3 d4 d5 d6 d7 hst
  generalize World.drewN _ q = w3 at HB2 ⊢
  go_loopg [5] vn (fun k i wr => LN2 Wb vn k i wr)
  case atStart => exact ⟨0, Nat.zero_le _, by omega, rfl, HB2.out⟩
  case round =>
    obtain ⟨j, hj, hk, rfl, hb⟩ := hrel
    have HB := Lib.hid hb
    obtain ⟨⟨c0, c1, c2, c3, c4, c5, c6, c7⟩, ⟨d0, d1, d2, d3, d4, d5, d6, d7⟩⟩ := And.intro (HBX.out _ hb).1.cells (HBX.out _ hb).2.cells
    simp only at c0 c1 c2 c3 c4 c5 c6 c7 d0 d1 d2 d3 d4 d5 d6 d7
    clear c0 c1 c2 c3 c4 c5 c6 d0 d1 d2 d3 d4 d5 d6 hb
    by_cases hlt : j < vn
    · obtain ⟨g, rfl⟩ : ∃ k, gk = k + 1 := ⟨gk - 1, by omega⟩
      have hjz : (j : Int) < (vn : Int) := by omega
      have hj0 : (0 : Int) ≤ (j : Int) := by omega
      have hjl : j < vals.length := by rw [HVL.out]; exact hlt
      have hjl2 : j < vals2.length := by rw [HVL2.out]; exact hlt
      obtain ⟨hrd, hrd2⟩ := HV.out wr (HB0.out _ HB.out)
      obtain ⟨xbk, xo, rfl, _⟩ := hrd.shape (by rw [flat_len, List.length_map]; omega)
      obtain ⟨ybk, yo, rfl, _⟩ := hrd2.shape (by rw [flat_len, List.length_map]; omega)
      obtain ⟨x0, x1, x2, x3, x4, x5, x6, x7⟩ := flat_at hrd j (by rw [List.length_map]; omega) (c := (vals.getD j (leafT 0 false ⟨#[]⟩)).c) (getD_mapc hjl _)
      obtain ⟨y0, y1, y2, y3, y4, y5, y6, y7⟩ := flat_at hrd2 j (by rw [List.length_map]; omega) (c := (vals2.getD j (leafT 0 false ⟨#[]⟩)).c) (getD_mapc hjl2 _)
      have K := KI.out j hjl hjl2
      clear hrd hrd2
      generalize (vals.getD j (leafT 0 false ⟨#[]⟩)).c = xc at *
      generalize (vals2.getD j (leafT 0 false ⟨#[]⟩)).c = yc at *
      obtain ⟨xk, xb, xneg, xma, xmn, xmc, xe, xs, xka, xkn, xkc, xva, xvn, xvc⟩ := xc
      obtain ⟨yk, yb, yneg, yma, ymn, ymc, ye, ys, yka, ykn, ykc, yva, yvn, yvc⟩ := yc
      unfold Cel.val at K
      simp only at K x0 x1 x2 x3 x4 x5 x6 x7 y0 y1 y2 y3 y4 y5 y6 y7
      have CD := fun d os => (K (grow (redrawn wr d) os) ((HB0.out _ HB.out).trans ((below_regrown wr d os).mono (HB0.out _ HB.out).size))).regrown_of
      have k7 := cell_regrown c7
      have l7 := cell_regrown d7
      have kx0 := cell_regrown x0
      have kx1 := cell_regrown x1
      have kx2 := cell_regrown x2
      have kx3 := cell_regrown x3
      have kx4 := cell_regrown x4
      have kx5 := cell_regrown x5
      have kx6 := cell_regrown x6
      have kx7 := cell_regrown x7
      have ky0 := cell_regrown y0
      have ky1 := cell_regrown y1
      have ky2 := cell_regrown y2
      have ky3 := cell_regrown y3
      have ky4 := cell_regrown y4
      have ky5 := cell_regrown y5
      have ky6 := cell_regrown y6
      have ky7 := cell_regrown y7
      have HN := Lib.hid (fun (W : World) (h : Below wr.heap.size wr W) => (⟨j + 1, by omega, by omega, rfl, HB.out.trans (h.mono HB.out.size)⟩ : LN2 Wb vn g (.int .i64 ((j : Int) + 1)) W))
      clear K
      go_wp2_with fail
      refine wp_region_quiet_below (by kernel_rfl) (by kernel_rfl) ?_
      repeat (quiet_step (with_reducible exact CD _ _))
      refine wpQuiet_nil ?_
      intro _ hw'
      obtain ⟨⟨dq, osq⟩, hw''⟩ := hw'
      subst hw''
      have HF := Lib.hid (HN.out _ (below_regrown wr dq osq))
      generalize grow (redrawn wr dq) osq = wn at HF ⊢
      clear CD k7 l7 kx0 kx1 kx2 kx3 kx4 kx5 kx6 kx7 ky0 ky1 ky2 ky3 ky4 ky5 ky6 ky7
      go_wp2_with fail
      go_roundg g
      case rel => exact HF.out
      case measure => omega
    · have hjz : ¬ (j : Int) < (vn : Int) := by omega
      go_wp2
      go_ret
      exact HEND.out _ HB.out
end Go.Proofs.YtijaphbccnadbaaGreatDoor
namespace Go.Proofs.YtijaphbccnadbaaGreatDoor
open Go.RowKit Go.Shelf
set_option linter.unusedVariables false
set_option linter.unusedSimpArgs false
theorem box8 {k : Int} {b neg : Bool} {ma : Option Addr} {mn mc : Nat} {e : Int} {s : ByteArray} {ka : Option Addr} {kn kc : Nat} {va : Option Addr} {vn vc : Nat} (w : World) {W : World}
    (h : Below (w.alloc (.cells #[.int .i64 k, .bool b, .bool neg, .slice ma mn mc, .int .i64 e, .string s, .slice ka kn kc, .slice va vn vc] 28)).heap.size (w.alloc (.cells #[.int .i64 k, .bool b, .bool neg, .slice ma mn mc, .int .i64 e, .string s, .slice ka kn kc, .slice va vn vc] 28)) W) :
    W.cell? ⟨w.heap.size, 0, none⟩ = some (.int .i64 k) ∧ W.cell? ⟨w.heap.size, 1, none⟩ = some (.bool b) ∧ W.cell? ⟨w.heap.size, 2, none⟩ = some (.bool neg) ∧ W.cell? ⟨w.heap.size, 3, none⟩ = some (.slice ma mn mc) ∧ W.cell? ⟨w.heap.size, 4, none⟩ = some (.int .i64 e) ∧ W.cell? ⟨w.heap.size, 5, none⟩ = some (.string s) ∧ W.cell? ⟨w.heap.size, 6, none⟩ = some (.slice ka kn kc) ∧ W.cell? ⟨w.heap.size, 7, none⟩ = some (.slice va vn vc) := by
  have q := (h.block _ (by simp)).trans (heap_alloc_new w (.cells #[.int .i64 k, .bool b, .bool neg, .slice ma mn mc, .int .i64 e, .string s, .slice ka kn kc, .slice va vn vc] 28))
  exact ⟨(box_cellsJ q 0 _ rfl).1, (box_cellsJ q 1 _ rfl).1, (box_cellsJ q 2 _ rfl).1, (box_cellsJ q 3 _ rfl).1, (box_cellsJ q 4 _ rfl).1, (box_cellsJ q 5 _ rfl).1, (box_cellsJ q 6 _ rfl).1, (box_cellsJ q 7 _ rfl).1⟩
theorem below_new (w : World) (o : Obj) : Below w.heap.size w (w.alloc o) := (Below.refl _ _).alloc (Nat.le_refl _) _
theorem sml_leaf (k : Int) (b : Bool) (s : ByteArray) : Sml (leafT k b s) := by
  intro u hu
  rcases MT.sub_cases hu with rfl | ⟨v, hv, _⟩
  · exact ⟨Nat.zero_le _, Nat.zero_le _, Nat.zero_le _⟩
  · cases hv
theorem sameZero_any (w : World) : Calls Tryz.prog 16 #[.agg #[.int .i64 0, .bool false, .bool false, .slice none 0 0, .int .i64 0, .string ⟨#[]⟩, .slice none 0 0, .slice none 0 0], .agg #[.int .i64 0, .bool false, .bool false, .slice none 0 0, .int .i64 0, .string ⟨#[]⟩, .slice none 0 0, .slice none 0 0]] w (BoolBelow true w) :=
  sameTree_any (leafT 0 false ⟨#[]⟩) (leafT 0 false ⟨#[]⟩) w rfl (sml_leaf _ _ _) (leafT_rep w 0 false ⟨#[]⟩ (by decide) (Nat.zero_le _)) (leafT_rep w 0 false ⟨#[]⟩ (by decide) (Nat.zero_le _))
theorem encodeL_err {t : MT} {x : Int} (h : encodeL t = .inr x) : x = 1 ∨ x = 4 ∨ x = 6 := by
  unfold encodeL at h
  split at h
  · cases h; exact .inl rfl
  · split at h
    · split at h
      · cases h
      · cases h; exact .inr (.inl rfl)
    · cases h; exact .inr (.inr rfl)
theorem encodeL_ok {t : MT} {l : List UInt8} (h : encodeL t = .inl l) : checkB t = true ∧ NoB t ∧ (encJ t).length ≤ 32768 ∧ l = encJ t := by
  unfold encodeL at h
  split at h
  · cases h
  · rename_i hc
    split at h
    · rename_i hn
      split at h
      · rename_i hl
        cases h
        exact ⟨by cases hq : checkB t <;> simp_all, hn, hl, rfl⟩
      · cases h
    · cases h
theorem encodeL_may {t : MT} (h : checkB t = true) (h2 : NoB t) : encodeL t = .inl (encJ t) ∧ (encJ t).length ≤ 32768 ∨ encodeL t = .inr 4 := by
  unfold encodeL
  rw [if_neg (by rw [h]; decide), if_pos h2]
  by_cases hl : (encJ t).length ≤ 32768
  · rw [if_pos hl]; exact .inl ⟨rfl, hl⟩
  · rw [if_neg hl]; exact .inr rfl
theorem decode_nil : decodeL [] = .inr 2 := by
  unfold decodeL
  rw [if_neg (by decide)]
  rfl
def BkCut (W1 : World) (W : World) : Prop := Below W1.heap.size W1 W
set_option maxHeartbeats 8000000 in
set_option maxRecDepth 100000 in
theorem jsonBack_walk (s0 : ByteArray) (t : MT) (w : World) (hs : s0.size ≤ maxLen) (hR : Rep w t) (hU : UT w) (hT : TB w) :
    Calls Tryz.prog 4 #[.string s0, t.c.val] w (BoolBelow true w) := by
  have hmx : s0.size ≤ 9223372036854775807 := by unfold maxLen at hs; omega
  have AW := Lib.hid (fun W (h : Below w.heap.size w W) => show Calls Tryz.prog 10 #[] W (BoolBelow true w) from (awakeJ_any W (hU.below h) (hT.below h)).mono fun _ _ hp => ⟨hp.1, below_on h hp.2⟩)
  have KL := Lib.hid (fun W (h : Below w.heap.size w W) => lightB_any t 150 W (by decide) (by decide) (hR.on h))
  have KE := Lib.hid (fun W (h : Below w.heap.size w W) => encode_anyj t W (hR.on h) (hU.below h) (hT.below h))
  have KEA := Lib.hid (fun (t : MT) W (h : Below w.heap.size w W) (hR : Rep W t) => encode_anyj t W hR (hU.below h) (hT.below h))
  have KD := Lib.hid (fun (l : List UInt8) (hl : l.length ≤ 1000000) W (h : Below w.heap.size w W) => decode_anyj l W hl (hU.below h))
  have KS := Lib.hid (fun (u : MT) (hu : u.bare = t.bare) (hc : checkB t = true) W (h : Below w.heap.size w W) (hU : Rep W u) => refSame_yes (t := u) (u := t) (d := 1) (w := W) hu (SndD.of (by rw [← checkB_bare, hu, checkB_bare]; exact hc)).1 hU (hR.on h))
  have HCO := Lib.hid (Coh.of hR)
  clear hs hR hU hT
  obtain ⟨l0, hl0⟩ : ∃ l : List UInt8, s0 = ⟨l.toArray⟩ := ⟨s0.data.toList, by cases s0; simp⟩
  have hsz : s0.size = l0.length := by rw [hl0, str_size]
  have HL0 := Lib.hid hl0
  have HE := Lib.hid (fun x => encodeL_err (t := t) (x := x))
  have HK := Lib.hid (fun l => encodeL_ok (t := t) (l := l))
  have HDE := Lib.hid (fun (h : checkB t = true) (h2 : NoB t) (h3 : (encJ t).length ≤ 32768) => decode_enc h h2 HCO.out h3)
  clear hl0
  generalize hbt : t.bare = tb at *
  generalize hen : encodeL t = en at *
  clear hen
  generalize t.c = c at *
  obtain ⟨qk, qb, qneg, qma, qmn, qmc, qe, qs, qka, qkn, qkc, qva, qvn, qvc⟩ := c
  unfold Cel.val at *
  obtain ⟨W1, hW1⟩ : ∃ x, w.alloc (.cells #[.int .i64 qk, .bool qb, .bool qneg, .slice qma qmn qmc, .int .i64 qe, .string qs, .slice qka qkn qkc, .slice qva qvn qvc] 28) = x := ⟨_, rfl⟩
  have hb1 : Below w.heap.size w W1 := by rw [← hW1]; exact below_new _ _
  have HW1 := Lib.hid hW1; have HB1 := Lib.hid hb1
  have HY := Lib.hid (fun W (h : Below W1.heap.size W1 W) => (by rw [← hW1] at h; exact box8 w h : W.cell? ⟨w.heap.size, 0, none⟩ = some (.int .i64 qk) ∧ W.cell? ⟨w.heap.size, 1, none⟩ = some (.bool qb) ∧ W.cell? ⟨w.heap.size, 2, none⟩ = some (.bool qneg) ∧ W.cell? ⟨w.heap.size, 3, none⟩ = some (.slice qma qmn qmc) ∧ W.cell? ⟨w.heap.size, 4, none⟩ = some (.int .i64 qe) ∧ W.cell? ⟨w.heap.size, 5, none⟩ = some (.string qs) ∧ W.cell? ⟨w.heap.size, 6, none⟩ = some (.slice qka qkn qkc) ∧ W.cell? ⟨w.heap.size, 7, none⟩ = some (.slice qva qvn qvc)))
  clear hW1 hb1
  by_cases h5 : s0.size ≤ 5000
  · have h5z : ¬ (5000 : Int) < (s0.size : Int) := by omega
    have HLN := Lib.hid (show l0.length ≤ 5000 by omega)
    go_enter Tryz.func4, Tryz.ntmps4
    go_wp2_with fail
    rw [HW1.out]
    refine (KL.out _ HB1.out).mono ?_
    rintro r w2 ⟨lb, rfl, hb2⟩
    have HB2 := Lib.hid (below_on HB1.out hb2)
    have H12 := Lib.hid (hb2.mono (Nat.le_refl _) : Below W1.heap.size W1 w2)
    obtain ⟨c0, c1, c2, c3, c4, c5, c6, c7⟩ := HY.out _ H12.out
    clear hb2
    cases lb
    · go_wp2_with fail
      refine (AW.out _ HB2.out).mono ?_
      rintro r w9 ⟨rfl, hb9⟩
      have HB9 := Lib.hid hb9
      clear hb9
      go_wp2_with fail
      go_ret
      exact BoolBelow.mk rfl HB9.out
    · go_wp2_with fail
      refine (KE.out _ HB2.out).mono ?_
      intro r w3 hP
      obtain ⟨er, ex, hr, hb3, hok⟩ : ∃ (er : ByteArray) (ex : Int), r = .returned (.tuple #[.string er, .int .i64 ex]) ∧ Below w2.heap.size w2 w3 ∧ (ex = 0 ∧ (∃ l, en = .inl l ∧ er = ⟨l.toArray⟩) ∨ ex ≠ 0) := by
        unfold EncPost at hP
        split at hP
        · rename_i l; exact ⟨_, _, hP.1, hP.2, .inl ⟨rfl, l, rfl, rfl⟩⟩
        · rename_i x; exact ⟨_, _, hP.1, hP.2, .inr (by have := HE.out x rfl; omega)⟩
      subst hr
      have HB3 := Lib.hid (below_on HB2.out hb3)
      have H13 := Lib.hid (below_on H12.out hb3)
      clear hP hb3 c0 c1 c2 c3 c4 c5 c6 c7
      obtain ⟨c0, c1, c2, c3, c4, c5, c6, c7⟩ := HY.out _ H13.out
      have HOK := Lib.hid hok
      clear hok
      go_upto_if 30 with fail
      go_cut [] from 7 to 43 (fun W => BkCut W1 W)
      case first =>
        rcases HOK.out with ⟨rfl, l, rfl, rfl⟩ | hne
        · obtain ⟨hck, hnb, hlen, rfl⟩ := HK.out _ rfl
          have KD1 := Lib.hid (KD.out (encJ t) (by omega) w3 HB3.out)
          rw [HDE.out hck hnb hlen] at KD1
          have HCK := Lib.hid hck
          clear hck hnb hlen
          unfold DecPost at KD1
          generalize (⟨(encJ t).toArray⟩ : ByteArray) = et at *
          go_wp2_with fail
          refine KD1.out.mono ?_
          rintro r w4 ⟨u, rfl, hub, hRu, hb4⟩
          have KS1 := Lib.hid (fun W (h : Below w4.heap.size w4 W) => KS.out u hub HCK.out W (below_on (below_on HB3.out hb4) h) (hRu.on h))
          have H14 := Lib.hid (below_on H13.out hb4)
          clear hub hRu hb4
          generalize u.c = uc at KS1 ⊢
          obtain ⟨uk, ub', uneg, uma, umn, umc, ue, us, uka, ukn, ukc, uva, uvn, uvc⟩ := uc
          dsimp only at KS1
          (try unfold Cel.val)
          obtain ⟨d0, d1, d2, d3, d4, d5, d6, d7⟩ := HY.out _ (below_on H14.out (below_new w4 (.cells #[.int .i64 uk, .bool ub', .bool uneg, .slice uma umn umc, .int .i64 ue, .string us, .slice uka ukn ukc, .slice uva uvn uvc] 28)))
          go_wp2_with fail
          refine (KS1.out _ (below_new w4 (.cells #[.int .i64 uk, .bool ub', .bool uneg, .slice uma umn umc, .int .i64 ue, .string us, .slice uka ukn ukc, .slice uva uvn uvc] 28))).mono ?_
          rintro r w5 ⟨rfl, hb5⟩
          have H15 := Lib.hid (below_on (below_on H14.out (below_new w4 (.cells #[.int .i64 uk, .bool ub', .bool uneg, .slice uma umn umc, .int .i64 ue, .string us, .slice uka ukn ukc, .slice uva uvn uvc] 28))) hb5)
          clear hb5
          go_wp2_with fail
          go_meet
          exact H15.out
        · go_wp2_with fail
          go_meet
          exact H13.out
      case rest =>
        have H1C := Lib.hid (show Below W1.heap.size W1 wc from hcut)
        have HBC := Lib.hid (HB1.out.trans (H1C.out.mono HB1.out.size))
        clear hcut c0 c1 c2 c3 c4 c5 c6 c7 HOK HY KS KE HE HK HDE
        rw [HL0.out]
        have KD2 := Lib.hid (KD.out l0 (by have := HLN.out; omega) wc HBC.out)
        unfold DecPost at KD2
        have hdo := Lib.hid (fun u => decodeL_ok (l := l0) (u := u))
        have hde := Lib.hid (fun x => decodeL_err (l := l0) (x := x))
        generalize decodeL l0 = dr at *
        generalize (⟨l0.toArray⟩ : ByteArray) = sx at *
        go_wp2_with fail
        refine KD2.out.mono ?_
        cases dr with
        | inr x =>
          rintro r w4 ⟨rfl, hb4⟩
          have HB4 := Lib.hid (below_on (below_on HBC.out hb4) (below_new w4 (.cells #[.int .i64 0, .bool false, .bool false, .slice none 0 0, .int .i64 0, .string ⟨#[]⟩, .slice none 0 0, .slice none 0 0] 28)))
          have hx := hde.out x rfl
          have KZ := Lib.hid (fun W => sameZero_any W)
          clear hb4
          rcases hx with rfl | rfl
          all_goals
            go_wp2_with fail
            refine (KZ.out _).mono ?_
            rintro r w5 ⟨rfl, hb5⟩
            have HB5 := Lib.hid (below_on HB4.out hb5)
            clear hb5
            go_wp2_with fail
            refine (AW.out _ HB5.out).mono ?_
            rintro r w9 ⟨rfl, hb9⟩
            have HB9 := Lib.hid hb9
            clear hb9
            go_wp2_with fail
            go_ret
            exact BoolBelow.mk rfl HB9.out
        | inl ub =>
          rintro r w4 ⟨u, rfl, hub, hRu, hb4⟩
          obtain ⟨hck, hnb, _, _⟩ := hdo.out ub rfl
          rw [← hub, checkB_bare] at hck
          rw [← hub, noB_bare] at hnb
          have HB4 := Lib.hid (below_on HBC.out hb4)
          have hco := Coh.of hRu
          have KE2 := Lib.hid (fun W (h : Below w4.heap.size w4 W) => KEA.out u W (below_on HB4.out h) (hRu.on h))
          have KC2 := Lib.hid (fun W (h : Below w4.heap.size w4 W) => refCheckT_yes u W (hRu.on h) hck hnb)
          have KS2 := Lib.hid (fun (v : MT) (hv : v.bare = u.bare) W (h : Below w4.heap.size w4 W) (hV : Rep W v) => refSame_yes (t := u) (u := v) (d := 1) (w := W) hv.symm (SndD.of hck).1 (hRu.on h) hV)
          have hmay := encodeL_may hck hnb
          have HDN := Lib.hid (fun h3 => decode_enc hck hnb hco h3)
          clear hub hRu hb4 hck hnb hco
          unfold EncPost at KE2
          generalize hbu : u.bare = bu at *
          clear hbu
          have hjl := Lib.hid hmay
          clear hmay
          generalize encodeL u = en2 at *
          generalize encJ u = ej at *
          generalize u.c = uc at *
          obtain ⟨uk, ub', uneg, uma, umn, umc, ue, us, uka, ukn, ukc, uva, uvn, uvc⟩ := uc
          unfold Cel.val at *
          obtain ⟨W5, hW5⟩ : ∃ x, w4.alloc (.cells #[.int .i64 uk, .bool ub', .bool uneg, .slice uma umn umc, .int .i64 ue, .string us, .slice uka ukn ukc, .slice uva uvn uvc] 28) = x := ⟨_, rfl⟩
          have hb5 : Below w4.heap.size w4 W5 := by rw [← hW5]; exact below_new _ _
          have HW5 := Lib.hid hW5; have H45 := Lib.hid hb5
          have HY := Lib.hid (fun W (h : Below W5.heap.size W5 W) => (by rw [← hW5] at h; exact box8 w4 h : W.cell? ⟨w4.heap.size, 0, none⟩ = some (.int .i64 uk) ∧ W.cell? ⟨w4.heap.size, 1, none⟩ = some (.bool ub') ∧ W.cell? ⟨w4.heap.size, 2, none⟩ = some (.bool uneg) ∧ W.cell? ⟨w4.heap.size, 3, none⟩ = some (.slice uma umn umc) ∧ W.cell? ⟨w4.heap.size, 4, none⟩ = some (.int .i64 ue) ∧ W.cell? ⟨w4.heap.size, 5, none⟩ = some (.string us) ∧ W.cell? ⟨w4.heap.size, 6, none⟩ = some (.slice uka ukn ukc) ∧ W.cell? ⟨w4.heap.size, 7, none⟩ = some (.slice uva uvn uvc)))
          clear hb5 hW5
          go_wp2_with fail
          rw [HW5.out]
          refine (KE2.out _ H45.out).mono ?_
          rcases hjl.out with ⟨hen, hln⟩ | hen
          · subst hen
            rintro r w6 ⟨rfl, hb6⟩
            have H56 := Lib.hid hb6
            have HB6 := Lib.hid (below_on (below_on HB4.out H45.out) hb6)
            have KD3 := Lib.hid (KD.out ej (by omega) w6 HB6.out)
            rw [HDN.out hln] at KD3
            unfold DecPost at KD3
            clear hb6 hln
            generalize (⟨ej.toArray⟩ : ByteArray) = et at *
            go_wp2_with fail
            refine KD3.out.mono ?_
            rintro r w7 ⟨v, rfl, hvb, hRv, hb7⟩
            have H57 := Lib.hid (below_on H56.out hb7)
            have KS3 := Lib.hid (fun W (h : Below w7.heap.size w7 W) => KS2.out v hvb W (H45.out.trans ((below_on H57.out h).mono H45.out.size)) (hRv.on h))
            have HB7 := Lib.hid (below_on HB6.out hb7)
            clear hvb hRv hb7
            generalize v.c = xc at KS3 ⊢
            obtain ⟨vk, vb, vneg, vma, vmn, vmc, ve, vs, vka, vkn, vkc, vva, vvn, vvc⟩ := xc
            dsimp only at KS3
            (try unfold Cel.val)
            obtain ⟨W8, hW8⟩ : ∃ x, w7.alloc (.cells #[.int .i64 vk, .bool vb, .bool vneg, .slice vma vmn vmc, .int .i64 ve, .string vs, .slice vka vkn vkc, .slice vva vvn vvc] 28) = x := ⟨_, rfl⟩
            have hb8 : Below w7.heap.size w7 W8 := by rw [← hW8]; exact below_new _ _
            have H58 := Lib.hid (below_on H57.out hb8)
            obtain ⟨d0, d1, d2, d3, d4, d5, d6, d7⟩ := HY.out _ H58.out
            rw [← hW8] at d0 d1 d2 d3 d4 d5 d6 d7
            have HYV := Lib.hid (fun W (h : Below W8.heap.size W8 W) => (by rw [← hW8] at h; exact box8 w7 h : W.cell? ⟨w7.heap.size, 0, none⟩ = some (.int .i64 vk) ∧ W.cell? ⟨w7.heap.size, 1, none⟩ = some (.bool vb) ∧ W.cell? ⟨w7.heap.size, 2, none⟩ = some (.bool vneg) ∧ W.cell? ⟨w7.heap.size, 3, none⟩ = some (.slice vma vmn vmc) ∧ W.cell? ⟨w7.heap.size, 4, none⟩ = some (.int .i64 ve) ∧ W.cell? ⟨w7.heap.size, 5, none⟩ = some (.string vs) ∧ W.cell? ⟨w7.heap.size, 6, none⟩ = some (.slice vka vkn vkc) ∧ W.cell? ⟨w7.heap.size, 7, none⟩ = some (.slice vva vvn vvc)))
            have HW8 := Lib.hid hW8; have H78 := Lib.hid hb8
            clear hW8 hb8
            go_wp2_with fail
            rw [HW8.out]
            refine (KC2.out _ (H45.out.trans (H58.out.mono H45.out.size))).mono ?_
            rintro r w9 ⟨rfl, hb9⟩
            have H89 := Lib.hid hb9
            have H59 := Lib.hid (below_on H58.out hb9)
            have H79 := Lib.hid (below_on H78.out hb9)
            clear hb9 d0 d1 d2 d3 d4 d5 d6 d7
            obtain ⟨d0, d1, d2, d3, d4, d5, d6, d7⟩ := HY.out _ H59.out
            obtain ⟨e0, e1, e2, e3, e4, e5, e6, e7⟩ := HYV.out _ H89.out
            go_wp2_with fail
            refine (KS3.out _ H79.out).mono ?_
            rintro r wa ⟨rfl, hba⟩
            have HBA := Lib.hid (below_on (below_on HB7.out H79.out) hba)
            clear hba
            go_wp2_with fail
            refine (AW.out _ HBA.out).mono ?_
            rintro r w9 ⟨rfl, hb9⟩
            have HB9 := Lib.hid hb9
            clear hb9
            go_wp2_with fail
            go_ret
            exact BoolBelow.mk rfl HB9.out
          · subst hen
            rintro r w6 ⟨rfl, hb6⟩
            have H56 := Lib.hid hb6
            have HB6 := Lib.hid (below_on (below_on HB4.out H45.out) hb6)
            have KD3 := Lib.hid (KD.out [] (by decide) w6 HB6.out)
            rw [decode_nil] at KD3
            unfold DecPost at KD3
            clear hb6
            go_wp2_with fail
            refine KD3.out.mono ?_
            rintro r w7 ⟨rfl, hb7⟩
            have H57 := Lib.hid (below_on H56.out hb7)
            have H58 := Lib.hid (below_on H57.out (below_new w7 (.cells #[.int .i64 0, .bool false, .bool false, .slice none 0 0, .int .i64 0, .string ⟨#[]⟩, .slice none 0 0, .slice none 0 0] 28)))
            obtain ⟨d0, d1, d2, d3, d4, d5, d6, d7⟩ := HY.out _ H58.out
            have HB8 := Lib.hid (below_on (below_on HB6.out hb7) (below_new w7 (.cells #[.int .i64 0, .bool false, .bool false, .slice none 0 0, .int .i64 0, .string ⟨#[]⟩, .slice none 0 0, .slice none 0 0] 28)))
            clear hb7
            go_wp2_with fail
            refine (KC2.out _ (H45.out.trans (H58.out.mono H45.out.size))).mono ?_
            rintro r w9 ⟨rfl, hb9⟩
            have HBA := Lib.hid (below_on HB8.out hb9)
            clear hb9
            go_wp2_with fail
            refine (AW.out _ HBA.out).mono ?_
            rintro r wz ⟨rfl, hbz⟩
            have HBZ := Lib.hid hbz
            clear hbz
            go_wp2_with fail
            go_ret
            exact BoolBelow.mk rfl HBZ.out
  · have h5z : (5000 : Int) < (s0.size : Int) := by omega
    go_enter Tryz.func4, Tryz.ntmps4
    go_wp2_with fail
    rw [HW1.out]
    refine (AW.out _ HB1.out).mono ?_
    rintro r w9 ⟨rfl, hb9⟩
    have HB9 := Lib.hid hb9
    clear hb9
    go_wp2_with fail
    go_ret
    exact BoolBelow.mk rfl HB9.out
end Go.Proofs.YtijaphbccnadbaaGreatDoor
namespace Go.Proofs.YtijaphbccnadbaaGreatDoor
open Go.ChangeShapes Go.WideShapes Go.ChangeAt Go.RowKit Go.Shelf
set_option linter.unusedVariables false
set_option linter.unusedSimpArgs false
theorem own : ownKnob Tryz.prog.godebug = none := by kernel_rfl
theorem laidOut : laidOutB Tryz.prog = true := by kernel_rfl
theorem i64_bd {n : Int} (h : (Lit.int .i64 n).wf = true) : -9223372036854775808 ≤ n ∧ n ≤ 9223372036854775807 := by
  simpa [Lit.wf, IntKind.min, IntKind.max, IntKind.signed, IntKind.bits] using h
theorem hargs_keep {H : Type} {enc : TypeId × Value → H} {t : TypeId} {W W' : World} {v : Value} {d : DataW H} {ps : List MemPlace} (hr : Tryz.prog.readableRec t = true) (hrow : t < Tryz.prog.types.size)
    (h : DataW.Trod enc Tryz.prog W 0 (fun _ => true) true t v d ps) (hb : Below W.heap.size W W') (hlt : ∀ x ∈ ps, x.block < W.heap.size) :
    DataW.Trod enc Tryz.prog W' 0 (fun b => decide (b < W.heap.size)) true t v d ps := Below.trod laidOut hr hrow h hb hlt
def ren8 : Go.Shelf.Ren := ⟨fun n => n, fun | 5 => 5 | 119 => 200 | 138 => 202 | 139 => 203 | n => n, fun | 3 => 0 | 4 => 1 | n => n⟩
theorem types8 : U8Types Tryz.prog ren8 := { t5 := Tryz.underlying5, t119 := Tryz.underlying200, t138 := Tryz.underlying202, t139 := Tryz.underlying203 }
theorem extra8 : U8Extra Tryz.prog ren8 := { n3 := by kernel_rfl, n4 := by kernel_rfl, y3 := by kernel_rfl, y4 := by kernel_rfl, c5 := by kernel_rfl, c119 := by kernel_rfl, c138 := by kernel_rfl }
theorem first_data : Rows.laid_unicode_utf8_first = Lib.firstData := by kernel_rfl
theorem accept_data : (Rows.laid_unicode_utf8_acceptRanges : DataW Unit) = Lib.acceptData := by kernel_rfl
theorem ut_of_laid {l : List (String × DataW Unit)} {W : World} (h : laidMet Tryz.prog l W) (h1 : ("unicode/utf8.first", Rows.laid_unicode_utf8_first) ∈ l) (h2 : ("unicode/utf8.acceptRanges", Rows.laid_unicode_utf8_acceptRanges) ∈ l) : UT W := by
  have r1 := Lib.laidMet.reads h h1
  have r2 := Lib.laidMet.reads h h2
  rw [first_data] at r1
  rw [accept_data] at r2
  exact utf8Tabs_of_readsT types8 extra8 r1 r2
end Go.Proofs.YtijaphbccnadbaaGreatDoor
namespace Go.Proofs.YtijaphbccnadbaaGreatDoor
open Go.ChangeShapes Go.WideShapes Go.ChangeAt Go.RowKit Go.Shelf
set_option linter.unusedVariables false
set_option linter.unusedSimpArgs false
theorem cells_u32' : Tryz.prog.cellsOf 130 = 1 := by kernel_rfl
theorem cells_string' : Tryz.prog.cellsOf 9 = 1 := by kernel_rfl
theorem cells_tree : Tryz.prog.cellsOf 28 = 8 := by kernel_rfl
theorem bytes_u32 : Tryz.prog.bytesOf 130 = 4 := by kernel_rfl
theorem bytes_string : Tryz.prog.bytesOf 9 = 16 := by kernel_rfl
theorem bytes_tree : Tryz.prog.bytesOf 28 = 120 := by kernel_rfl
theorem wf_u32' {n : Int} (h : (Lit.int .u32 n).wf = true) : 0 ≤ n ∧ n ≤ 4294967295 := by
  simpa [Lit.wf, IntKind.min, IntKind.max, IntKind.signed, IntKind.bits] using h
theorem reach_eq : reachBytes = 140737488351232 := rfl
section
variable {H : Type} {enc : TypeId × Value → H} {W : World}
theorem limbs_in {v : Value} {fuel : Nat} {y : DataW H × List MemPlace}
    (hf : DataW.trod enc Tryz.prog W 0 (fun _ => true) true fuel 22 [v] = some y) (hz : ∀ n ∈ y.1.weights Tryz.prog 22, n ≤ reachBytes) :
    ∃ ad len cap xs, v = .slice ad len cap ∧ xs.length = len ∧ len ≤ cap ∧ Okl xs ∧ Rd W ad xs ∧ len ≤ 1000000000000000 := by
  rcases open_ints Tryz.underlying22 Tryz.underlying130 cells_u32' hf with ⟨hcs, hx⟩ | ⟨a, len', cap', zs, hcs, _, hl, hm, hzl, hx, hcell, hwz⟩
  · simp only [List.cons.injEq, and_true] at hcs
    exact ⟨none, 0, 0, [], hcs, rfl, Nat.le_refl _, Okl.nil, Rd.nil _ _, Nat.zero_le _⟩
  · simp only [List.cons.injEq, and_true] at hcs
    subst hcs
    simp only [if_true] at hzl
    refine ⟨some a, len', cap', (zs.take len').map Int.toNat, rfl, by simp; omega, hl, ?_, ?_, ?_⟩
    · intro x hx
      obtain ⟨z, hz1, rfl⟩ := List.mem_map.1 hx
      have := wf_u32' (hwz z (List.mem_of_mem_take hz1))
      rw [B32_eq]; omega
    · intro i hi
      have hi' : i < len' := by simp at hi; omega
      have hil : i < zs.length := by omega
      have hc := hcell i hil
      have h0 := hcell 0 (by omega)
      obtain ⟨b, off, spot⟩ := a
      have hspot : spot = none := by simpa [Addr.add] using World.cell?_spot h0
      subst hspot
      have e : (Addr.add ⟨b, off, none⟩ i) = ⟨b, off + i, none⟩ := by unfold Addr.add; split <;> simp_all
      rw [e] at hc
      refine ⟨b, off, rfl, ?_, ?_⟩
      · rcases Nat.lt_or_ge b W.heap.size with h1 | h1
        · exact h1
        · simp [World.cell?, Array.getElem?_eq_none h1] at hc
      · rw [hc]
        have hw := wf_u32' (hwz (zs.getD i 0) (by simp [List.getD, hil]))
        have e2 : ((zs.take len').map Int.toNat).getD i 0 = (zs.getD i 0).toNat := by
          simp [List.getD, hi', hil]
        rw [e2]
        congr 2; omega
    · rcases DataW.trod_slice Tryz.underlying22 hf with ⟨h0, _⟩ | ⟨a2, len2, cap2, elems, rest, n2, _, h0, hy, _, _, _, h1, _⟩
      · cases h0
      · cases h0
        rw [hy] at hz
        have := hz ((elems.length + rest.length) * Tryz.prog.bytesOf 130) (by simp [DataW.weights, Tryz.underlying22])
        rw [bytes_u32, reach_eq] at this
        omega
theorem texts_in {v : Value} {fuel : Nat} {y : DataW H × List MemPlace}
    (hf : DataW.trod enc Tryz.prog W 0 (fun _ => true) true fuel 25 [v] = some y) (hz : ∀ n ∈ y.1.weights Tryz.prog 25, n ≤ reachBytes) :
    ∃ ad len cap l, v = .slice ad len cap ∧ l.length = len ∧ len ≤ cap ∧ len ≤ 1000000000000000 ∧ (∀ s ∈ l, s.size ≤ maxLen) ∧ RdV W ad (sv l) := by
  rcases open_strings Tryz.underlying25 Tryz.underlying9 cells_string' hf with ⟨hcs, hx⟩ | ⟨a, len', cap', ss, hcs, _, hl, hm, hzl, hx, hcell, hsz⟩
  · simp only [List.cons.injEq, and_true] at hcs
    exact ⟨none, 0, 0, [], hcs, rfl, Nat.le_refl _, Nat.zero_le _, (fun s hs => by cases hs), RdV.nil _ _⟩
  · simp only [List.cons.injEq, and_true] at hcs
    subst hcs
    simp only [if_true] at hzl
    refine ⟨some a, len', cap', ss.take len', rfl, by simp; omega, hl, ?_, fun s hs => hsz s (List.mem_of_mem_take hs), ?_⟩
    · rcases DataW.trod_slice Tryz.underlying25 hf with ⟨h0, _⟩ | ⟨a2, len2, cap2, elems, rest, n2, _, h0, hy, _, _, _, h1, _⟩
      · cases h0
      · cases h0
        rw [hy] at hz
        have := hz ((elems.length + rest.length) * Tryz.prog.bytesOf 9) (by simp [DataW.weights, Tryz.underlying25])
        rw [bytes_string, reach_eq] at this
        omega
    · intro i hi
      have hi' : i < len' := by simp [sv] at hi; omega
      have hil : i < ss.length := by omega
      have hc := hcell i hil
      have h0 := hcell 0 (by omega)
      obtain ⟨b, off, spot⟩ := a
      have hspot : spot = none := by simpa [Addr.add] using World.cell?_spot h0
      subst hspot
      have e : (Addr.add ⟨b, off, none⟩ i) = ⟨b, off + i, none⟩ := by unfold Addr.add; split <;> simp_all
      rw [e] at hc
      refine ⟨b, off, rfl, ?_, ?_⟩
      · rcases Nat.lt_or_ge b W.heap.size with h1 | h1
        · exact h1
        · simp [World.cell?, Array.getElem?_eq_none h1] at hc
      · rw [hc, sv_get _ _ (by simp; omega)]
        simp [List.getD, hi', hil]
theorem list_of {α : Type} {P : Nat → α → Prop} : ∀ n, (∀ i, i < n → ∃ x, P i x) → ∃ l : List α, l.length = n ∧ ∀ i (h : i < l.length), P i l[i] := by
  intro n
  induction n with
  | zero => intro _; exact ⟨[], rfl, fun i h => by simp at h⟩
  | succ n ih =>
    intro h
    obtain ⟨l, h1, h2⟩ := ih (fun i hi => h i (by omega))
    obtain ⟨x, hx⟩ := h n (by omega)
    refine ⟨l ++ [x], by simp [h1], fun i hi => ?_⟩
    by_cases hn : i < l.length
    · rw [List.getElem_append_left hn]; exact h2 i hn
    · have : i = l.length := by simp at hi; omega
      subst this
      simp; rw [h1]; exact hx
theorem weights_all_mem {P : Program} {e : TypeId} {d : DataW H} {n : Nat} (hn : n ∈ d.weights P e) : ∀ {l : List (DataW H)}, d ∈ l → n ∈ DataW.weightsAll P e l
  | [], h => by cases h
  | x :: l, h => by
    rw [DataW.weightsAll, List.mem_append]
    rcases List.mem_cons.1 h with rfl | h
    · exact .inl hn
    · exact .inr (weights_all_mem hn h)
set_option maxRecDepth 100000 in
theorem tree_in : ∀ (fuel : Nat) (cs : List Value) (y : DataW H × List MemPlace), DataW.trod enc Tryz.prog W 0 (fun _ => true) true fuel 28 cs = some y → (∀ n ∈ y.1.weights Tryz.prog 28, n ≤ reachBytes) →
    ∃ t : MT, cs = t.c.cells ∧ Rep W t := by
  intro fuel
  induction fuel using Nat.strongRecOn with
  | ind fuel ih =>
    intro cs y hy hz
    obtain ⟨xs, n, rfl, rfl, hcl, hxl, hfs⟩ := DataW.trod_struct Tryz.underlying28 hy
    rw [cells_tree] at hcl
    simp only [List.size_toArray, List.length_cons, List.length_nil] at hxl
    obtain ⟨c0, c1, c2, c3, c4, c5, c6, c7, rfl⟩ : ∃ c0 c1 c2 c3 c4 c5 c6 c7, cs = [c0, c1, c2, c3, c4, c5, c6, c7] := by
      match cs, hcl with
      | [c0, c1, c2, c3, c4, c5, c6, c7], _ => exact ⟨c0, c1, c2, c3, c4, c5, c6, c7, rfl⟩
    obtain ⟨x0, x1, x2, x3, x4, x5, rfl⟩ : ∃ x0 x1 x2 x3 x4 x5, xs = [x0, x1, x2, x3, x4, x5] := by
      match xs, hxl with
      | [x0, x1, x2, x3, x4, x5], _ => exact ⟨x0, x1, x2, x3, x4, x5, rfl⟩
    have h0 := hfs 0 _ rfl
    have h1 := hfs 1 _ rfl
    have h2 := hfs 2 _ rfl
    have h3 := hfs 3 _ rfl
    have h4 := hfs 4 _ rfl
    have h5 := hfs 5 _ rfl
    have hw : ∀ k, k ∈ DataW.weightsEach Tryz.prog [3, 4, 24, 9, 25, 26] [x0.1, x1.1, x2.1, x3.1, x4.1, x5.1] → k ≤ reachBytes := fun k hk => hz k (by
      simp only [DataW.weights, Tryz.underlying28]; exact hk)
    have hw2 : ∀ k ∈ x2.1.weights Tryz.prog 24, k ≤ reachBytes := fun k hk => hw k (by simp [DataW.weightsEach, hk])
    have hw4 : ∀ k ∈ x4.1.weights Tryz.prog 25, k ≤ reachBytes := fun k hk => hw k (by simp [DataW.weightsEach, hk])
    have hw5 : ∀ k ∈ x5.1.weights Tryz.prog 26, k ≤ reachBytes := fun k hk => hw k (by simp [DataW.weightsEach, hk])
    clear hz hw hfs hy
    replace h0 : DataW.trod enc Tryz.prog W 0 (fun _ => true) true n 3 [c0] = some x0 := h0
    replace h1 : DataW.trod enc Tryz.prog W 0 (fun _ => true) true n 4 [c1] = some x1 := h1
    replace h2 : DataW.trod enc Tryz.prog W 0 (fun _ => true) true n 24 [c2, c3, c4] = some x2 := h2
    replace h3 : DataW.trod enc Tryz.prog W 0 (fun _ => true) true n 9 [c5] = some x3 := h3
    replace h4 : DataW.trod enc Tryz.prog W 0 (fun _ => true) true n 25 [c6] = some x4 := h4
    replace h5 : DataW.trod enc Tryz.prog W 0 (fun _ => true) true n 26 [c7] = some x5 := h5
    obtain ⟨k, hk, _, hkw⟩ := DataW.trod_int Tryz.underlying3 h0
    obtain ⟨b, hb, _⟩ := DataW.trod_bool Tryz.underlying4 h1
    obtain ⟨s, hs, _, hsz⟩ := DataW.trod_string Tryz.underlying9 h3
    obtain ⟨ka, kn, kc, ks, hK, hk1, hk2, hk3, hk4, hk5⟩ := texts_in h4 hw4
    obtain ⟨zs, n2, rfl, rfl, _, hzl, hgs⟩ := DataW.trod_struct Tryz.underlying24 h2
    simp only [List.size_toArray, List.length_cons, List.length_nil] at hzl
    obtain ⟨z0, z1, z2, rfl⟩ : ∃ x0 x1 x2, zs = [x0, x1, x2] := by
      match zs, hzl with
      | [x0, x1, x2], _ => exact ⟨x0, x1, x2, rfl⟩
    have g0 := hgs 0 _ rfl
    have g1 := hgs 1 _ rfl
    have g2 := hgs 2 _ rfl
    have hwn : ∀ k ∈ z1.1.weights Tryz.prog 22, k ≤ reachBytes := fun k hk => hw2 k (by
      simp only [DataW.weights, Tryz.underlying24]
      show k ∈ DataW.weightsEach Tryz.prog [4, 22, 3] [z0.1, z1.1, z2.1]
      simp [DataW.weightsEach, hk])
    replace g0 : DataW.trod enc Tryz.prog W 0 (fun _ => true) true n2 4 [c2] = some z0 := g0
    replace g1 : DataW.trod enc Tryz.prog W 0 (fun _ => true) true n2 22 [c3] = some z1 := g1
    replace g2 : DataW.trod enc Tryz.prog W 0 (fun _ => true) true n2 3 [c4] = some z2 := g2
    obtain ⟨neg, hneg, _⟩ := DataW.trod_bool Tryz.underlying4 g0
    obtain ⟨ma, mn, mc, ms, hM, hm1, hm2, hm3, hm4, hm5⟩ := limbs_in g1 hwn
    obtain ⟨e, he, _, hew⟩ := DataW.trod_int Tryz.underlying3 g2
    simp only [List.cons.injEq, and_true] at hk hb hs hneg he
    subst hk hb hs hneg he hK hM
    have hkb := i64_bd hkw
    have heb := i64_bd hew
    obtain ⟨va, vn, vc, vs, hV, hv1, hv2, hv3, hv4, hv5⟩ : ∃ va vn vc, ∃ vs : List MT, c7 = .slice va vn vc ∧ vs.length = vn ∧ vn ≤ vc ∧ vn ≤ 1000000000000000 ∧ RdV W va (flat (vs.map MT.c)) ∧ ∀ t ∈ vs, Rep W t := by
      rcases DataW.trod_slice Tryz.underlying26 h5 with ⟨hcs, _⟩ | ⟨a, len, cap, elems, rest, n3, hn3, hcs, hy, _, hlc, _, hel, hat, _⟩
      · simp only [List.cons.injEq, and_true] at hcs
        exact ⟨none, 0, 0, [], hcs, rfl, Nat.le_refl _, Nat.zero_le _, RdV.nil _ _, nofun⟩
      · simp only [List.cons.injEq, and_true] at hcs
        rw [hy] at hw5
        have hwe : ∀ d ∈ elems, ∀ k ∈ d.1.weights Tryz.prog 28, k ≤ reachBytes := fun d hd k hk => hw5 k (by
          simp only [DataW.weights, Tryz.underlying26]
          rw [List.mem_cons, List.mem_append]
          exact .inr (.inl (weights_all_mem hk (List.mem_map_of_mem hd))))
        have hlen := hw5 ((elems.length + rest.length) * Tryz.prog.bytesOf 28) (by simp [DataW.weights, Tryz.underlying26])
        rw [bytes_tree, reach_eq] at hlen
        have each : ∀ i, i < len → ∃ t : MT, W.cells? 0 (a.add (i * 8)) 8 = some t.c.cells ∧ Rep W t := by
          intro i hi
          have h6 := hat i hi
          rw [cells_tree] at h6
          obtain ⟨y6, hy6⟩ : ∃ y6, elems[i]? = some y6 := ⟨elems[i], by simp [hel, hi]⟩
          rw [hy6] at h6
          obtain ⟨cs6, h7, h8⟩ := Option.bind_eq_some_iff.1 h6
          obtain ⟨t, rfl, ht⟩ := ih n3 (by omega) cs6 y6 h8 (hwe y6 (List.mem_of_getElem? hy6))
          exact ⟨t, h7, ht⟩
        obtain ⟨l, hl1, hl2⟩ := list_of len each
        refine ⟨some a, len, cap, l, hcs, hl1, hlc, by omega, ?_, ?_⟩
        · intro q hq
          rw [flat_len, List.length_map, hl1] at hq
          have hi : q / 8 < len := by omega
          obtain ⟨h9, _⟩ := hl2 (q / 8) (by omega)
          obtain ⟨_, _, h10⟩ := World.cells?_some h9
          have h11 := h10 (q % 8) (Nat.mod_lt _ (by decide))
          obtain ⟨bk, off, spot⟩ := a
          have h12 : (l[q / 8]'(by omega)).c.cells[q % 8]? = (flat (l.map MT.c))[q]? := by
            have := flat_get (l.map MT.c) (q / 8) (q % 8) (by simp; omega) (Nat.mod_lt _ (by decide))
            rw [show q / 8 * 8 + q % 8 = q by omega] at this
            rw [this]; simp
          rw [h12] at h11
          have h13 : ∃ v, (flat (l.map MT.c))[q]? = some v := ⟨(flat (l.map MT.c))[q]'(by rw [flat_len, List.length_map, hl1]; exact hq), by simp⟩
          obtain ⟨v13, h13⟩ := h13
          rw [h13] at h11 ⊢
          have hspot : spot = none := by
            obtain ⟨_, _, k1⟩ := World.cells?_some (hl2 0 (by omega)).1
            have k2 := k1 0 (by decide)
            exact World.cell?_spot (a := ⟨bk, off, spot⟩) k2
          subst hspot
          have e1 : (Addr.add (Addr.add ⟨bk, off, none⟩ (q / 8 * 8)) (q % 8)) = ⟨bk, off + q, none⟩ := by
            have a1 : (Addr.add ⟨bk, off, none⟩ (q / 8 * 8)) = ⟨bk, off + q / 8 * 8, none⟩ := by unfold Addr.add; split <;> simp_all
            have a2 : (Addr.add ⟨bk, off + q / 8 * 8, none⟩ (q % 8)) = ⟨bk, off + q / 8 * 8 + q % 8, none⟩ := by unfold Addr.add; split <;> simp_all
            rw [a1, a2]; congr 1; omega
          rw [e1] at h11
          refine ⟨bk, off, rfl, ?_, h11⟩
          rcases Nat.lt_or_ge bk W.heap.size with h1 | h1
          · exact h1
          · simp [World.cell?, Array.getElem?_eq_none h1] at h11
        · intro t ht
          obtain ⟨i, hi, rfl⟩ := List.mem_iff_getElem.1 ht
          exact (hl2 i hi).2
    subst hV
    refine ⟨.mk ⟨k, b, neg, ma, mn, mc, e, s, ka, kn, kc, va, vn, vc⟩ ms ks vs, rfl, Rep.mk ⟨hm1, hm2, hm3, hm4, hk1, hk2, hk5, hv1, hv2, hv4, ⟨hm5, hk3, hv3⟩, hsz, hk4, heb, hkb⟩ hv5⟩
set_option maxRecDepth 100000 in
/-- An argument that is a tree. -/
theorem tree_arg {base : Nat} {v : Value} {d : DataW H} {p : List MemPlace} (hok : Value.okWide Tryz.prog W .any base 28 v) (h : DataW.Trod enc Tryz.prog W 0 (fun _ => true) true 28 v d p)
    (hz : ∀ n ∈ d.weights Tryz.prog 28, n ≤ reachBytes) : ∃ t : MT, v = t.c.val ∧ Rep W t := by
  obtain ⟨cs, rfl, _⟩ := okWide_struct Tryz.underlying28 hok
  obtain ⟨fuel, hf⟩ := h
  obtain ⟨t, ht, hr⟩ := tree_in fuel _ _ hf hz
  refine ⟨t, ?_, hr⟩
  have : cs.toList = t.c.cells := ht
  rw [show cs = t.c.cells.toArray by rw [← this]]
  rfl
end
end Go.Proofs.YtijaphbccnadbaaGreatDoor
namespace Go.Proofs.YtijaphbccnadbaaGreatDoor
open Go.ChangeShapes Go.WideShapes Go.ChangeAt Go.RowKit
set_option linter.unusedVariables false
set_option linter.unusedSimpArgs false
theorem laidMet_tail {P : Program} {x : String × DataW Unit} {l : List (String × DataW Unit)} {w : World} (h : laidMet P (x :: l) w) : laidMet P l w := by
  obtain ⟨ps, ⟨g', t', cs, fuel, p, q, hg', ht', hvar, hd, h6, h7⟩, hn, h3⟩ := h
  subst h7
  exact ⟨q, h6, (List.nodup_append.1 hn).2.1, fun b off hq => h3 b off (List.mem_append_right _ hq)⟩
theorem g_tab : Tryz.prog.globalNamed "internal/strconv.uint64pow10" = some 3 := by kernel_rfl
theorem g_type : (Tryz.prog.globals[3]?).map (·.type) = some 222 := by kernel_rfl
theorem tab_data : (Rows.laid_internal_strconv_uint64pow10 : DataW Unit) = Lib.tabData .u64 Lib.pow10Tab := by kernel_rfl
theorem tb_of_laid {a b : String × DataW Unit} {l : List (String × DataW Unit)} {W : World} (h : laidMet Tryz.prog (a :: b :: ("internal/strconv.uint64pow10", Rows.laid_internal_strconv_uint64pow10) :: l) W) : TB W := by
  have h2 := laidMet_tail (laidMet_tail h)
  rw [tab_data] at h2
  exact Lib.tabIs_of_head g_tab g_type Tryz.underlying222 Tryz.underlying131 (by kernel_rfl) (by kernel_rfl) h2
end Go.Proofs.YtijaphbccnadbaaGreatDoor
namespace Go.Proofs.YtijaphbccnadbaaGreatDoor.jsonBack
open Go.ChangeShapes Go.WideShapes Go.ChangeAt Go.RowKit
open Go.ChangeMaps (open_string shut_string)
set_option linter.unusedVariables false
set_option maxRecDepth 100000 in
theorem lifted (os : Os) (started : os.Started) (H : Type) (enc : TypeId × Value → H) :
    ReturnsInHanded {} Tryz.checked os 4 .any (fun w args => (Rows.jsonBackSpec.pre enc Tryz.prog Tryz.f4 Rows.jsonBackRow.domain false w args ∧ laidMetH Tryz.prog Rows.jsonBackRow.laid w) ∧ sizedMet enc Tryz.prog Tryz.f4 (OpenSpec.ofChange Rows.jsonBackSpec) false w args)
      (Rows.jsonBackSpec.post enc Tryz.prog Tryz.f4 false true false false) := by
  refine returnsInHanded_of_change_and (C := Tryz.checked) (X := fun w _ => laidMetH Tryz.prog Rows.jsonBackRow.laid w) (fun _ _ _ hh h => h.of_heap hh) own started (by kernel_rfl) Tryz.func4
    (ChangeSpec.witness_shaped (enc := enc) (C := Tryz.checked) (os := os) (X := fun w _ => laidMetH Tryz.prog Rows.jsonBackRow.laid w) false (World.laidAll Tryz.prog os Rows.jsonBackRow.laid) #[.string ByteArray.empty, .agg #[.int .i64 0, .bool false, .bool false, .slice none 0 0, .int .i64 0, .string ByteArray.empty, .slice none 0 0, .slice none 0 0]] 8 (World.laidAll_os _ _ _)
      (World.shaped_of_ZipB (by kernel_rfl) (by kernel_rfl)) (by kernel_rfl) (by kernel_rfl) (by kernel_rfl)
      (by rw [MakeChecks.laidMetH_plain _ _ _ (by kernel_rfl)]; exact laidMet_laidAll _ (by kernel_rfl) (by kernel_rfl))) ?_
  intro W base args ds gs before hval0 hW hc hsz0 hL _
  have hval : ∀ (j : Nat) t v, Tryz.f4.params[j]? = some t → args[j]? = some v → Value.okWide Tryz.prog W .any base t v := hval0
  have hW' := hW
  obtain ⟨p, q, hA0, hV, rfl, _, _⟩ := hW
  have hA : DataW.TrodAll enc Tryz.prog W 0 (fun _ => true) true Tryz.f4.params.toList args.toList ds p := hA0
  rw [Tryz.params4] at hA hval
  obtain ⟨v0, vs0, d0, ds0, p0, q0, hargsE, rfl, rfl, h0, r0⟩ := trodAll_cons hA
  obtain ⟨v1, vs1, d1, ds1, p1, q1, rfl, rfl, rfl, h1, r1⟩ := trodAll_cons r0
  obtain ⟨rfl, rfl, rfl⟩ := trodAll_nil r1
  obtain rfl : args = #[v0, v1] := by cases args; simp_all
  obtain ⟨rfl, rfl⟩ := trodVars_none hV
  clear hA0 hval0
  have hL2 := hL
  rw [MakeChecks.laidMetH_plain _ _ _ (by kernel_rfl)] at hL2
  have htb : UT W := ut_of_laid hL2 (by simp [Rows.jsonBackRow]) (by simp [Rows.jsonBackRow])
  have htb2 : TB W := tb_of_laid hL2
  obtain ⟨s0, rfl, rfl, rfl, hs0⟩ := open_string Tryz.underlying9 (hval 0 9 v0 rfl rfl) h0
  have hlt1 : ∀ x ∈ p1, x.block < W.heap.size := fun x hx => by have := hW'.lt x (by simp [hx]); simpa using this
  have hk1 := h1
  have hw1 : ∀ n ∈ d1.weights Tryz.prog 28, n ≤ reachBytes := fun n hn => by
    have := List.all_eq_true.1 hsz0 n (DataW.weights_mem_each (j := 1) (by rw [Tryz.params4]; rfl) rfl n hn)
    simpa using this
  obtain ⟨t1, rfl, hr1⟩ := tree_arg (hval 1 28 v1 rfl rfl) h1 hw1
  refine (jsonBack_walk s0 t1 W hs0 hr1 htb htb2).mono fun e W' ⟨he, hb⟩ => ?_
  subst he
  have e1 : Rows.jsonBackSpec.fn H ([.lit (.string s0.data.toList), d1] ++ []) = { results := [.lit (.bool true)], args := [.lit (.string s0.data.toList), d1] } := by simp [Rows.jsonBackSpec]
  refine ⟨_, rfl, _, _, _, [], ([] ++ (p1 ++ [])), [], hW', ?_, ?_, ?_, hb.frame fun p => p ∈ ([] ++ (p1 ++ [])) ++ [] ∧ (p ∈ ([] : List MemPlace) ∨ p ∈ ([] ++ (p1 ++ [])) ∨ p ∈ ([] : List MemPlace)), fun h => by cases h⟩
  · rw [e1]; exact trodAll_mk1 (shut_bool Tryz.underlying4 true)
  · rw [e1]; exact (trodAll_cons_mk (shut_string Tryz.underlying9 hs0) (trodAll_cons_mk (hargs_keep (by kernel_rfl) (of_decide_eq_true (by kernel_rfl)) hk1 hb hlt1) trodAll_mk0))
  · rw [e1]; rfl
theorem over : Rows.jsonBackRow.holds Tryz.pinned (OpenSpec.ofChange Rows.jsonBackSpec) :=
  OpenClaim.holds_of_wide 4 Tryz.f4 rfl rfl rfl rfl rfl rfl rfl ⟨rfl, rfl, rfl, rfl, rfl⟩ rfl rfl rfl rfl rfl (by kernel_rfl) Tryz.func4 (by kernel_rfl)
    (of_decide_eq_true (by kernel_rfl)) (by unfold Func.isWrapper; first | (rw [if_pos (by decide +kernel)]; kernel_rfl) | (rw [if_neg (by decide +kernel)]; exact ⟨rfl, rfl⟩))
    (fun os started H enc _ => lifted os started H enc)
theorem proved : Rows.JsonBackCardSaid :=
  Claim7.holds_tied_plain_at .later [] [.data, .data, .data, .data, .pinned] true Rows.jsonBackCard.stood.harness Rows.jsonBackCard.stood.looks over (fun _ h => by cases h) (by kernel_rfl) (fun _ h => by cases h) jsonBack_row_tie rfl ⟨rfl, rfl⟩ (by kernel_rfl) rfl
    (fun f fn hf hfn => by
      obtain rfl : f = 4 := Option.some.inj ((show Tryz.prog.funcNamed Rows.jsonBackRow.func = some 4 by kernel_rfl).symm.trans hf) |>.symm
      obtain rfl : fn = Tryz.f4 := (Option.some.inj (Tryz.func4.symm.trans hfn)).symm
      exact ⟨by kernel_rfl, fun j t ht => by
        rw [Tryz.params4] at ht
        have hm : t ∈ ([9, 28] : List TypeId) := by simpa using Array.mem_of_getElem? ht
        have hall : (([9, 28] : List TypeId).all fun u => !Tryz.prog.wantsStandIn u) = true := by kernel_rfl
        exact (show Tryz.prog.wantsStandIn t = false by simpa using List.all_eq_true.1 hall t hm)⟩)
    (by kernel_rfl)
#print axioms proved
end Go.Proofs.YtijaphbccnadbaaGreatDoor.jsonBack
