/- The reference's Member, of an object: whether a name is there. -/
import Derived.Test.YtipibipaocpojaaDoorQM1
namespace Go.Proofs.YtipibipaocpojaaDoor
open Go.RowKit Go.Shelf
set_option linter.unusedVariables false
set_option linter.unusedSimpArgs false

/-- An object as it is made: its names rise. -/
structure Obj7 (t : MT) : Prop where
  k7 : t.c.k = 7
  kn : t.c.kn = t.k.length
  vn : t.c.vn = t.k.length
  kv : t.v.length = t.k.length
  le : t.k.length ≤ 100
  ris : Ris t.k
theorem spl_at {N : List ByteArray} {s : ByteArray} {p q i : Nat} (h : Spl N s p q) (hi : i < N.length) :
    (i < p → eqS (N.getD i ByteArray.empty) s = false ∧ ltS s (N.getD i ByteArray.empty) = false ∧ ltS (N.getD i ByteArray.empty) s = true) ∧
    (p ≤ i → i < q → eqS (N.getD i ByteArray.empty) s = true) ∧ (q ≤ i → eqS (N.getD i ByteArray.empty) s = false ∧ ltS s (N.getD i ByteArray.empty) = true ∧ ltS (N.getD i ByteArray.empty) s = false) := by
  have h1 := h.pq; have h2 := h.qp
  refine ⟨fun hp => ?_, fun h3 h4 => ?_, fun h3 => ?_⟩
  · have h5 := h.lo i hp
    refine ⟨eqS_no.2 (fun e => by rw [e] at h5; rw [ltS_irr] at h5; cases h5), ?_, h5⟩
    cases h6 : ltS s (N.getD i ByteArray.empty)
    · rfl
    · have := ltS_tr h5 h6; rw [ltS_irr] at this; cases this
  · obtain rfl : i = p := by omega
    exact eqS_iff.2 (h.mid (by omega))
  · have h5 := h.hi i h3 hi
    refine ⟨eqS_no.2 (fun e => by rw [e] at h5; rw [ltS_irr] at h5; cases h5), h5, ?_⟩
    cases h6 : ltS (N.getD i ByteArray.empty) s
    · rfl
    · have := ltS_tr h5 h6; rw [ltS_irr] at this; cases this
def MRel (Wb : World) (n q p k : Nat) (i : Value) (wr : World) : Prop := ∃ j : Nat, j ≤ n ∧ n - j ≤ k ∧ (q = p + 1 → j ≤ p) ∧ i = .int .i64 (j : Int) ∧ Below Wb.heap.size Wb wr
def RMem (b : Bool) (w : World) (e : Ending) (w' : World) : Prop := ∃ c : Cel, e = .returned (.tuple #[c.val, .bool b]) ∧ Below w.heap.size w w'
set_option maxHeartbeats 8000000 in
set_option maxRecDepth 100000 in
theorem refMember_any (t : MT) (s : ByteArray) (p q : Nat) (w : World) (hR : Rep w t) (ho : Obj7 t) (hp : Spl t.k s p q) (hs : s.size ≤ maxLen) :
    Calls Tryd.prog 51 #[t.c.val, .string s] w (RMem (decide (q = p + 1)) w) := by
  obtain ⟨Wb, hWb⟩ : ∃ x, two2 w t.c (leafC 0 false ⟨#[]⟩) = x := ⟨_, rfl⟩
  have HB0 := Lib.hid (show Below w.heap.size w Wb by rw [← hWb]; exact two_below2 _ _ _)
  have HBX := Lib.hid (fun W (h : Below Wb.heap.size Wb W) => ((by rw [← hWb] at h; exact ⟨(two2_box w t.c (leafC 0 false ⟨#[]⟩)).1.on (h.block _ (by rw [two2_size]; omega)), (two2_box w t.c (leafC 0 false ⟨#[]⟩)).2.on (h.block _ (by rw [two2_size]; omega))⟩) : BoxT W w.heap.size t.c ∧ BoxT W (w.heap.size + 1) (leafC 0 false ⟨#[]⟩)))
  have HRR := Lib.hid (fun W (h : Below Wb.heap.size Wb W) => (hR.on (HB0.out.trans (h.mono HB0.out.size)) : Rep W t))
  obtain ⟨c, hc⟩ : ∃ c, t.c = c := ⟨_, rfl⟩
  have HK := Lib.hid (fun W (h : Rep W t) => h.own.kr)
  have HV := Lib.hid (fun W (h : Rep W t) => h.own.vr)
  have HAT := Lib.hid (fun i (hi : i < t.k.length) => spl_at hp hi)
  have HVL := Lib.hid ho.kv
  have hpq := hp.pq; have hqp := hp.qp; have hql := hp.ql
  have h7 := ho.k7; have hkn := ho.kn; have hvn := ho.vn; have hle := ho.le
  rw [hc] at HBX HK HV h7 hkn hvn hWb ⊢
  have HC := Lib.hid hc
  clear hR ho hp hc
  obtain ⟨k, b0, neg, ma, mn, mc, e, st, ka, kn, kc, va, vn, vc⟩ := c
  simp only at h7 hkn hvn HK HV
  subst h7 hkn hvn
  unfold Cel.val
  unfold two2 Cel.cells leafC at hWb
  simp only at hWb
  have HWB := Lib.hid hWb
  clear hWb
  have HN300 := Lib.hid hle
  generalize hn : t.k.length = n at *
  have HNL := Lib.hid hn
  clear hn
  go_enter Tryd.func51, Tryd.ntmps51
  go_wp2_with fail
  rw [HWB.out]
  clear HWB
  go_loopg [6] n (fun k i wr => MRel Wb n q p k i wr)
  case atStart => exact ⟨0, Nat.zero_le _, by omega, by omega, rfl, Below.refl _ _⟩
  case round =>
    obtain ⟨j, hj, hk, hjp, rfl, hb⟩ := hrel
    obtain ⟨c0, c1, c2, c3, c4, c5, c6, c7⟩ := (HBX.out _ hb).1.cells
    simp only at c0 c1 c2 c3 c4 c5 c6 c7
    have hvar := (HBX.out _ hb).2.var
    unfold Var at hvar
    obtain ⟨⟨g0, g1, g2, g3, g4, g5, g6, g7⟩, f0, f1, f2, f3, f4, f5, f6, f7⟩ := hvar
    simp only [leafC] at g0 g1 g2 g3 g4 g5 g6 g7
    have HB := Lib.hid hb
    have HBOX := Lib.hid (HBX.out _ hb).2
    have HEND := Lib.hid (fun cc => (show Below w.heap.size w (put0 wr (w.heap.size + 1) cc) from (HB0.out.trans (hb.mono HB0.out.size)).trans ((put0_but _ _ _).below (by omega) (Nat.le_trans HB0.out.size hb.size))))
    clear hb
    by_cases hlt : j < n
    · obtain ⟨kk, rfl⟩ : ∃ k, gk = k + 1 := ⟨gk - 1, by omega⟩
      have hjz : (j : Int) < (n : Int) := by omega
      have hjl : j < t.k.length := by rw [HNL.out]; exact hlt
      have hat := HAT.out j hlt
      obtain ⟨bk, o, rfl, hbl, hcx⟩ := HK.out wr (HRR.out _ HB.out) j (by rw [sv_len]; exact hjl)
      rw [sv_get _ _ hjl] at hcx
      generalize t.k.getD j ByteArray.empty = x at *
      by_cases hjq : j = p ∧ q = p + 1
      · obtain ⟨rfl, hq⟩ := hjq
        have he := hat.2.1 (Nat.le_refl _) (by omega)
        clear hat
        unfold eqS at he
        have hvl : j < t.v.length := by rw [HVL.out]; exact hlt
        have hrd := HV.out wr (HRR.out _ HB.out)
        obtain ⟨xbk, xo, rfl, hxl⟩ := hrd.shape (by rw [flat_len, List.length_map]; omega)
        obtain ⟨x0, x1, x2, x3, x4, x5, x6, x7⟩ := flat_at hrd j (by rw [List.length_map]; omega) (c := (t.v.getD j (leafT 0 false ⟨#[]⟩)).c) (getD_mapc hvl _)
        clear hrd
        generalize (t.v.getD j (leafT 0 false ⟨#[]⟩)).c = xc at *
        obtain ⟨xk, xb, xneg, xma, xmn, xmc, xe, xs, xka, xkn, xkc, xva, xvn, xvc⟩ := xc
        simp only at x0 x1 x2 x3 x4 x5 x6 x7
        have HD := Lib.hid (decide_eq_true hq)
        have HE2 := Lib.hid (HEND.out ⟨xk, xb, xneg, xma, xmn, xmc, xe, xs, xka, xkn, xkc, xva, xvn, xvc⟩)
        have hbx := (put0_box HBOX.out (c := ⟨xk, xb, xneg, xma, xmn, xmc, xe, xs, xka, xkn, xkc, xva, xvn, xvc⟩)).cells
        unfold put0 at hbx HE2
        simp only at hbx HE2
        obtain ⟨d0, d1, d2, d3, d4, d5, d6, d7⟩ := hbx
        clear hq hjp
        go_wp2
        exact bodyPost_ret (v := .tuple #[.agg #[.int .i64 xk, .bool xb, .bool xneg, .slice xma xmn xmc, .int .i64 xe, .string xs, .slice xka xkn xkc, .slice xva xvn xvc], .bool true]) (by simp [results, Tryd.results51, go_sem, d0, d1, d2, d3, d4, d5, d6, d7]) rfl ⟨⟨xk, xb, xneg, xma, xmn, xmc, xe, xs, xka, xkn, xkc, xva, xvn, xvc⟩, by rw [HD.out]; rfl, HE2.out⟩
      · have he : eqS x s = false := by
          by_cases h1 : j < p
          · exact (hat.1 h1).1
          · exact (hat.2.2 (by omega)).1
        clear hat
        unfold eqS at he
        have HN := Lib.hid (show MRel Wb n q p kk (.int .i64 ((j : Int) + 1)) wr from ⟨j + 1, by omega, by omega, by omega, rfl, HB.out⟩)
        clear hjp hjq
        have hj100 : (j : Int) ≤ 100 := by have := HN300.out; omega
        go_wp2
        go_roundg kk
        case rel => exact HN.out
        case measure => omega
    · have hjz : ¬ (j : Int) < (n : Int) := by omega
      have HD := Lib.hid (show decide (q = p + 1) = false from decide_eq_false (by omega))
      have HE2 := Lib.hid (HEND.out (leafC 0 false ⟨#[]⟩))
      have hbx := (put0_box HBOX.out (c := leafC 0 false ⟨#[]⟩)).cells
      unfold put0 leafC at hbx HE2
      simp only at hbx HE2
      obtain ⟨d0, d1, d2, d3, d4, d5, d6, d7⟩ := hbx
      clear hjp
      go_wp2
      exact bodyPost_ret (v := .tuple #[.agg #[.int .i64 0, .bool false, .bool false, .slice none 0 0, .int .i64 0, .string ⟨#[]⟩, .slice none 0 0, .slice none 0 0], .bool false]) (by simp [results, Tryd.results51, go_sem, d0, d1, d2, d3, d4, d5, d6, d7]) rfl ⟨leafC 0 false ⟨#[]⟩, by rw [HD.out]; rfl, HE2.out⟩
end Go.Proofs.YtipibipaocpojaaDoor
