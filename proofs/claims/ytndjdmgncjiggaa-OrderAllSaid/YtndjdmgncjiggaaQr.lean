/- Objects as trees; Light, Less of the reference. -/
import Derived.Test.YtndjdmgncjiggaaQY8
namespace Go.Proofs.Ytndjdmgncjiggaa
open Go.RowKit Go.Shelf Go.Sort
set_option linter.unusedVariables false
set_option linter.unusedSimpArgs false
theorem sml_bare (t : MT) : ∀ u : MT, t.bare = u.bare → Sml t → Sml u :=
  MT.ind (P := fun t => ∀ u : MT, t.bare = u.bare → Sml t → Sml u) (fun t ih u hb hS s hs => by
    obtain ⟨e1, _, _, e4⟩ := bare_parts hb
    rcases MT.sub_cases hs with rfl | ⟨x, hx, hs⟩
    · have h := hS t t.sub_refl
      have a1 := congrArg Cel.mn e1; have a2 := congrArg Cel.kn e1; have a3 := congrArg Cel.vn e1
      simp only [Cel.bare] at a1 a2 a3
      rw [← a1, ← a2, ← a3]; exact h
    · obtain ⟨j, hj, rfl⟩ := List.getElem_of_mem hx
      have hj2 : j < t.v.length := by have := congrArg List.length e4; simp at this; omega
      have h1 := congrArg (fun l => l[j]?) e4
      simp only [List.getElem?_map, List.getElem?_eq_getElem hj, List.getElem?_eq_getElem hj2, Option.map_some, Option.some.injEq] at h1
      exact ih t.v[j] (List.getElem_mem _) u.v[j] h1 (hS.part (List.getElem_mem _)) s hs) t
/-- An object's tree without its addresses. -/
def BT (l : List ByteArray) (v : List MT) (m : Nat) (f : Bool) : MT :=
  if f then .mk zeroC [] [] [] else .mk ⟨7, false, false, none, 0, 0, 0, ByteArray.empty, none, m, 0, none, m, 0⟩ [] (pickB l (srt Op.bytesLess (keyB l) 0 m)) ((pickM v (srt Op.bytesLess (keyB l) 0 m)).map MT.bare)
theorem pickM_bare {us v : List MT} (h : us.map MT.bare = v.map MT.bare) (S : List Nat) : (pickM us S).map MT.bare = (pickM v S).map MT.bare := by
  unfold pickM
  rw [List.map_map, List.map_map]
  apply List.map_congr_left
  intro p _
  show (us.getD p _).bare = (v.getD p _).bare
  have h1 := congrArg (fun l => l[p]?) h
  have h2 := congrArg List.length h
  simp only [List.getElem?_map] at h1
  simp only [List.length_map] at h2
  simp only [List.getD_eq_getElem?_getD]
  rcases Nat.lt_or_ge p us.length with hp | hp
  · rw [List.getElem?_eq_getElem hp, List.getElem?_eq_getElem (by omega : p < v.length)] at h1 ⊢
    simpa using h1
  · rw [List.getElem?_eq_none hp, List.getElem?_eq_none (by omega)]
theorem BT_bare {us v : List MT} (h : us.map MT.bare = v.map MT.bare) (l : List ByteArray) (m : Nat) (f : Bool) : BT l us m f = BT l v m f := by
  unfold BT; rw [pickM_bare h]
theorem pickC_map (us : List MT) (S : List Nat) (h : ∀ p ∈ S, p < us.length) : pickC (us.map MT.c) S = (pickM us S).map MT.c := by
  unfold pickC pickM
  rw [List.map_map]
  apply List.map_congr_left
  intro p hp
  have := h p hp
  simp [List.getD, this]
theorem pickM_mem {us : List MT} {S : List Nat} (h : ∀ p ∈ S, p < us.length) {x : MT} (hx : x ∈ pickM us S) : x ∈ us := by
  unfold pickM at hx
  obtain ⟨p, hp, rfl⟩ := List.mem_map.1 hx
  have := h p hp
  simp [List.getD, this]
theorem pickB_mem {l : List ByteArray} {S : List Nat} (h : ∀ p ∈ S, p < l.length) {x : ByteArray} (hx : x ∈ pickB l S) : x ∈ l := by
  unfold pickB at hx
  obtain ⟨p, hp, rfl⟩ := List.mem_map.1 hx
  have := h p hp
  simp [List.getD, this]
theorem zero_rep (w : World) : Rep w (.mk zeroC [] [] []) := by
  refine Rep.mk ⟨rfl, Nat.le_refl _, Okl.nil, Rd.nil _ _, rfl, Nat.le_refl _, RdV.nil _ _, rfl, Nat.le_refl _, RdV.nil _ _, by decide, by decide, (fun s hs => by cases hs), by decide, by decide⟩ (fun s hs => by cases hs)
/-- An object in memory is a tree. -/
theorem obj_rep {w : World} {ka va : Option Addr} {kc vc m : Nat} {s0 : ByteArray} {K : List ByteArray} {V : List MT} (hs : s0.size = 0) (hm : m ≤ 1000) (hK : K.length = m) (hV : V.length = m) (hkc : m ≤ kc) (hvc : m ≤ vc) (hk : RdV w ka (sv K)) (hv : RdV w va (flat (V.map MT.c))) (hz : ∀ s ∈ K, s.size ≤ maxLen) (hR : ∀ x ∈ V, Rep w x) :
    Rep w (.mk ⟨7, false, false, none, 0, 0, 0, s0, ka, m, kc, va, m, vc⟩ [] K V) := by
  refine Rep.mk ⟨rfl, Nat.le_refl _, Okl.nil, Rd.nil _ _, hK, hkc, hk, hV, hvc, hv, ⟨Nat.zero_le _, (by show m ≤ _; omega), (by show m ≤ _; omega)⟩, (by show s0.size ≤ _; rw [hs]; exact Nat.zero_le _), hz, ⟨(by show (-9223372036854775808 : Int) ≤ 0; decide), (by show (0 : Int) ≤ 9223372036854775807; decide)⟩, ⟨(by show (-9223372036854775808 : Int) ≤ 7; decide), (by show (7 : Int) ≤ 9223372036854775807; decide)⟩⟩ hR
/-- What an object's maker answers: a tree, or none. -/
def ObjT (l : List ByteArray) (v : List MT) (m : Nat) (w : World) (e : Ending) (w' : World) : Prop :=
  ∃ lo f T, Twc (keyB l) m lo f ∧ e = .returned (.tuple #[T.c.val, .int .i64 ((if f then lo else 0 : Nat) : Int), .bool (!f)]) ∧ T.bare = BT l v m f ∧ Rep w' T ∧ Below w.heap.size w w'
theorem obj_core {l : List ByteArray} {us : List MT} {m : Nat} {w w' : World} {e : Ending} (h : ObjPost l (us.map MT.c) m w e w') (hm : m ≤ 1000) (hl : l.length = m) (hu : m ≤ us.length) (hz : ∀ s ∈ l, s.size ≤ maxLen) (hR : ∀ u ∈ us, Rep w u) : ObjT l us m w e w' := by
  obtain ⟨lo, f, hT, h1, h2⟩ := h
  cases f
  · obtain ⟨g1, g2, rfl, _, _, hk1, hk2, hb⟩ := h1 rfl
    have hS : ∀ p ∈ srt Op.bytesLess (keyB l) 0 m, p < m := fun p hp => by have := srt_mem.1 hp; omega
    rw [pickC_map us _ (fun p hp => by have := hS p hp; omega)] at hk2
    refine ⟨lo, false, .mk (objC g1 g2 m) [] (pickB l (srt Op.bytesLess (keyB l) 0 m)) (pickM us (srt Op.bytesLess (keyB l) 0 m)), hT, rfl, ?_, ?_, hb⟩
    · rw [MT.bare_eq]; unfold BT; rfl
    · exact obj_rep rfl hm (by rw [pickB_len, srt_len]) (by unfold pickM; rw [List.length_map, srt_len]) (Nat.le_refl _) (Nat.le_refl _) hk1.all hk2.all (fun s hs => hz s (pickB_mem (fun p hp => by have := hS p hp; omega) hs)) (fun x hx => (hR x (pickM_mem (fun p hp => by have := hS p hp; omega) hx)).on hb)
  · obtain ⟨rfl, hb⟩ := h2 rfl
    exact ⟨lo, true, .mk zeroC [] [] [], hT, rfl, by rw [MT.bare_eq]; unfold BT; rfl, zero_rep _, hb⟩
theorem obj_ref {l : List ByteArray} {v : List MT} {m : Nat} {w w' : World} {e : Ending} (h : ROP l v m w e w') (hm : m ≤ 1000) (hl : l.length = m) (hu : m ≤ v.length) (hz : ∀ s ∈ l, s.size ≤ maxLen) (hR : ∀ u ∈ v, Rep w u) : ObjT l v m w e w' := by
  obtain ⟨lo, f, hT, h1, h2⟩ := h
  cases f
  · obtain ⟨ka, kc, va, vc, rfl, hkc, hvc, hk1, hk2, hb⟩ := h1 rfl
    have hS : ∀ p ∈ srt Op.bytesLess (keyB l) 0 m, p < m := fun p hp => by have := srt_mem.1 hp; omega
    refine ⟨lo, false, .mk (objK ka m kc va m vc) [] (pickB l (srt Op.bytesLess (keyB l) 0 m)) (pickM v (srt Op.bytesLess (keyB l) 0 m)), hT, rfl, ?_, ?_, hb⟩
    · rw [MT.bare_eq]; unfold BT; rfl
    · exact obj_rep rfl hm (by rw [pickB_len, srt_len]) (by unfold pickM; rw [List.length_map, srt_len]) hkc hvc hk1 hk2 (fun s hs => hz s (pickB_mem (fun p hp => by have := hS p hp; omega) hs)) (fun x hx => (hR x (pickM_mem (fun p hp => by have := hS p hp; omega) hx)).on hb)
  · obtain ⟨rfl, hb⟩ := h2 rfl
    exact ⟨lo, true, .mk zeroC [] [] [], hT, rfl, by rw [MT.bare_eq]; unfold BT; rfl, zero_rep _, hb⟩
theorem bt_sml {l : List ByteArray} {v : List MT} {m : Nat} {f : Bool} {T : MT} (h : T.bare = BT l v m f) (hm : m ≤ 1000) (hu : m ≤ v.length) (hS : ∀ u ∈ v, Sml u) : Sml T := by
  intro s hs
  rcases MT.sub_cases hs with rfl | ⟨x, hx, hs⟩
  · rw [MT.bare_eq] at h
    unfold BT at h
    cases f
    · injection h with h1 _ _ _
      have a1 := congrArg Cel.mn h1; have a2 := congrArg Cel.kn h1; have a3 := congrArg Cel.vn h1
      simp only [Cel.bare] at a1 a2 a3
      omega
    · injection h with h1 _ _ _
      have a1 := congrArg Cel.mn h1; have a2 := congrArg Cel.kn h1; have a3 := congrArg Cel.vn h1
      simp only [Cel.bare, zeroC] at a1 a2 a3
      omega
  · rw [MT.bare_eq] at h
    unfold BT at h
    cases f
    · injection h with _ _ _ h4
      obtain ⟨j, hj, rfl⟩ := List.getElem_of_mem hx
      have hj2 : j < (pickM v (srt Op.bytesLess (keyB l) 0 m)).length := by have := congrArg List.length h4; simp at this; omega
      have h1 := congrArg (fun l => l[j]?) h4
      simp only [List.getElem?_map, List.getElem?_eq_getElem hj, List.getElem?_eq_getElem hj2, Option.map_some, Option.some.injEq] at h1
      exact sml_bare _ _ h1.symm (hS _ (pickM_mem (fun p hp => by have := srt_mem.1 hp; omega) (List.getElem_mem hj2))) s hs
    · injection h with _ _ _ h4
      have : T.v = [] := by simpa using h4
      rw [this] at hx; cases hx
theorem refLess_any (a b : ByteArray) (w : World) :
    Calls Try.prog 19 #[.string a, .string b] w fun e w' => e = .returned (.bool (Op.bytesLess a.toList b.toList)) ∧ w = w' := by
  generalize hl : Op.bytesLess a.toList b.toList = r
  go_enter Try.func19, Try.ntmps19
  go_wp2
  go_ret
  exact ⟨rfl, rfl⟩
theorem light3_any (t : MT) (n : Int) (w : World) (h0 : 0 ≤ n) (h1 : n ≤ 1000) (hR : Rep w t) :
    Calls Try.prog 6 #[t.c.val, .int .i64 n] w fun e w' => ∃ b, e = .returned (.bool b) ∧ (b = true → Sml t) ∧ Below w.heap.size w w' := by
  obtain ⟨Wb, hWb⟩ : ∃ x, w.alloc (.cells t.c.cells.toArray 31) = x := ⟨_, rfl⟩
  have hb0 : Below w.heap.size w Wb := by rw [← hWb]; exact (Below.refl _ _).alloc (Nat.le_refl _) _
  have K := Lib.hid (light2_any t n Wb h0 h1 (hR.on hb0))
  unfold LightP2 at K
  have HB0 := Lib.hid hb0
  have hwb := hWb
  generalize Sml t = ST at *
  clear hR hb0 hWb
  generalize t.c = c at *
  obtain ⟨k, bo, neg, ma, mn, mc, e, st, ka, kn, kc, va, vn, vc⟩ := c
  unfold Cel.val at K ⊢
  unfold Cel.cells at hwb
  simp only at hwb
  have HWB := Lib.hid hwb
  clear hwb
  go_enter Try.func6, Try.ntmps6
  go_wp2_with fail
  rw [HWB.out]
  refine K.out.mono ?_
  rintro r w1 ⟨z, rfl, z1, z2, hz, hb⟩
  have HZ := Lib.hid hz; have HB := Lib.hid (HB0.out.trans (hb.mono HB0.out.size))
  clear hz hb
  go_wp2
  go_ret
  exact ⟨_, rfl, (fun h => HZ.out (of_decide_eq_true h)), HB.out⟩
end Go.Proofs.Ytndjdmgncjiggaa
/- The walk of the law OrderAll. -/
namespace Go.Proofs.Ytndjdmgncjiggaa
open Go.RowKit Go.Shelf Go.Sort
set_option linter.unusedVariables false
set_option linter.unusedSimpArgs false
theorem sv_take (l : List ByteArray) (m : Nat) : (sv l).take m = sv (l.take m) := by simp [sv, List.map_take]
/-- What holds from round to round. -/
def LGT (w : World) (v : List MT) (n g : Nat) (iv : Value) (wr : World) : Prop :=
  ∃ j : Nat, j ≤ n ∧ n - j ≤ g ∧ iv = .int .i64 (j : Int) ∧ (∀ s ∈ v.take j, Sml s) ∧ Below w.heap.size w wr
set_option maxHeartbeats 8000000 in
set_option maxRecDepth 100000 in
theorem orderAll_main (ad : Option Addr) (n cap : Nat) (l : List ByteArray) (ad' : Option Addr) (n' cap' : Nat) (v : List MT) (a b : ByteArray) (w : World) (hl : l.length = n) (hcap : n ≤ cap) (hm : n ≤ 60) (hz : ∀ s ∈ l, s.size ≤ 300) (hr : RdV w ad (sv l)) (hf : fewB l = true) (hv : v.length = n') (hcap' : n' ≤ cap') (hm' : n' ≤ 60) (hr' : RdV w ad' (flat (v.map MT.c))) (hR : ∀ u ∈ v, Rep w u) :
    Calls Try.prog 3 #[.slice ad n cap, .slice ad' n' cap', .string a, .string b] w (BoolBelow true w) := by
  have AW := Lib.hid (fun W (h : Below w.heap.size w W) => show Calls Try.prog 5 #[] W (BoolBelow true w) from (awake_any W).mono fun _ _ hp => ⟨hp.1, below_on h hp.2⟩)
  have KF := Lib.hid (fun W (h : Below w.heap.size w W) => few_any ad n cap l W hl hcap (by unfold maxLen; omega) (fun s hs => by have := hz s hs; unfold maxLen; omega) (hr.on h))
  rw [hf] at KF
  have HRL := Lib.hid (fun W (h : Below w.heap.size w W) => hr.on h)
  have HRV := Lib.hid (fun W (h : Below w.heap.size w W) => hr'.on h)
  have HREP := Lib.hid (fun W (h : Below w.heap.size w W) => show ∀ u ∈ v, Rep W u from fun u hu => (hR u hu).on h)
  have HL := Lib.hid hl; have HV := Lib.hid hv; have HZ := Lib.hid hz
  have hnz : ¬ (60 : Int) < (n' : Int) := by omega
  clear hl hz hr hf hv hr' hR
  go_enter Try.func3, Try.ntmps3
  go_wp2_with fail
  refine (KF.out _ (Below.refl _ _)).mono ?_
  rintro r w1 ⟨rfl, rfl⟩
  go_wp2_with fail
  clear hnz KF
  go_loopg [9] n' (fun g iv wr => LGT w v n' g iv wr)
  case atStart => exact ⟨0, Nat.zero_le _, by omega, rfl, fun s hs => (by simp at hs), Below.refl _ _⟩
  case round =>
    obtain ⟨j, hj, hjg, rfl, hsm, hb⟩ := hrel
    have HSM := Lib.hid hsm; have HB := Lib.hid hb
    clear hsm hb
    by_cases hlt : j < n'
    · obtain ⟨g, rfl⟩ : ∃ k, gk = k + 1 := ⟨gk - 1, by omega⟩
      have hjz : (j : Int) < (n' : Int) := by omega
      have hj0 : (0 : Int) ≤ (j : Int) := by omega
      have hjl : j < v.length := by rw [HV.out]; exact hlt
      have hrd := HRV.out wr HB.out
      obtain ⟨xbk, xo, rfl, _⟩ := hrd.shape (by rw [flat_len, List.length_map]; omega)
      obtain ⟨x0, x1, x2, x3, x4, x5, x6, x7⟩ := flat_at hrd j (by rw [List.length_map]; omega) (c := (v.getD j (leafT 0 false ⟨#[]⟩)).c) (getD_mapc hjl _)
      have K := Lib.hid (light3_any (v.getD j (leafT 0 false ⟨#[]⟩)) 20 wr (by decide) (by decide) (HREP.out wr HB.out _ (by simp [List.getD, hjl])))
      have HST := Lib.hid (fun (W : World) (hs : Sml (v.getD j (leafT 0 false ⟨#[]⟩))) (h : Below wr.heap.size wr W) => show LGT w v n' g (.int .i64 ((j : Int) + 1)) W from ⟨j + 1, by omega, by omega, rfl, fun s hs2 => by
        rw [List.take_add_one, List.getElem?_eq_getElem hjl] at hs2
        simp only [Option.toList, List.mem_append, List.mem_singleton] at hs2
        rcases hs2 with hs2 | rfl
        · exact HSM.out s hs2
        · rwa [show v.getD j (leafT 0 false ⟨#[]⟩) = v[j] by simp [List.getD, hjl]] at hs, HB.out.trans (h.mono HB.out.size)⟩)
      generalize Sml (v.getD j (leafT 0 false ⟨#[]⟩)) = ST at *
      generalize (v.getD j (leafT 0 false ⟨#[]⟩)).c = xc at *
      obtain ⟨xk, xb, xneg, xma, xmn, xmc, xe, xs, xka, xkn, xkc, xva, xvn, xvc⟩ := xc
      simp only [Cel.val] at K
      simp only at x0 x1 x2 x3 x4 x5 x6 x7
      clear hrd
      go_wp2_with fail
      refine K.out.mono ?_
      rintro r w2 ⟨bb, rfl, hs, hb⟩
      have HSS := Lib.hid hs; have HB2 := Lib.hid hb
      clear hs hb
      cases bb
      · go_wp2_with fail
        refine (AW.out _ (below_on HB.out HB2.out)).mono ?_
        rintro r w3 ⟨rfl, hb3⟩
        have HB3 := Lib.hid hb3
        clear hb3
        go_wp2_with fail
        go_ret
        exact BoolBelow.mk rfl HB3.out
      · have HF := Lib.hid (HST.out w2 (HSS.out rfl) HB2.out)
        go_wp2_with fail
        go_roundg g
        case rel => exact HF.out
        case measure => omega
    · obtain rfl : j = n' := by omega
      have hjz : ¬ (j : Int) < (j : Int) := by omega
      have HSA := Lib.hid (show ∀ s ∈ v, Sml s from fun s hs => HSM.out s (by rw [List.take_of_length_le (by rw [HV.out]; exact Nat.le_refl _)]; exact hs))
      clear HSM
      obtain ⟨m, hmin⟩ : ∃ m, n ≤ j ∧ m = n ∨ j < n ∧ m = j := by
        rcases Nat.lt_or_ge j n with h | h
        · exact ⟨j, .inr ⟨h, rfl⟩⟩
        · exact ⟨n, .inl ⟨h, rfl⟩⟩
      have HMIN := Lib.hid hmin
      have hmm : m ≤ n ∧ m ≤ j := by omega
      have HLM := Lib.hid (show (l.take m).length = m by rw [List.length_take, HL.out]; omega)
      have HZM := Lib.hid (show ∀ s ∈ l.take m, s.size ≤ maxLen from fun s hs => by have := HZ.out s (List.mem_of_mem_take hs); unfold maxLen; omega)
      have KSTR := Lib.hid (fun W (h : Below w.heap.size w W) => strings_any ad n cap l W HL.out (by omega) (HRL.out W h))
      have KTRE := Lib.hid (fun W (h : Below w.heap.size w W) => trees_any ad' j cap' v W HV.out (by omega) (HRV.out W h) HSA.out (HREP.out W h))
      have KROB := Lib.hid (fun W (h : Below w.heap.size w W) => (refObject_any ad n cap m (l.take m) ad' j cap' v W hcap (by omega) HLM.out (by rw [← sv_take]; exact (HRL.out W h).take m) HV.out hcap' (by omega) (HRV.out W h) HMIN.out).mono fun _ _ hp => obj_ref hp (by omega) HLM.out (by rw [HV.out]; exact hmm.2) HZM.out (HREP.out W h))
      have KRTW := Lib.hid (fun W (h : Below w.heap.size w W) => refTwice_any ad n cap l W HL.out (by omega) (HRL.out W h))
      have KRS := Lib.hid (fun W (h : Below w.heap.size w W) => refSort_any ad n cap l W HL.out (by omega) (HRL.out W h))
      have KRC := Lib.hid (fun W (h : Below w.heap.size w W) => refCBOR_any ad n cap l W HL.out (by omega) (fun s hs => by have := HZ.out s hs; omega) (HRL.out W h))
      clear hmin hjg
      go_wp2_with fail
      refine (KSTR.out _ HB.out).mono ?_
      rintro r w2 ⟨v2, rfl, ho2, hb2⟩
      have B2 := Lib.hid (below_on HB.out hb2)
      obtain ⟨ad2, cap2, rfl, hc2, hr2, hl2, _⟩ := own_view ho2
      rw [sv_len, HL.out]
      rw [sv_len, HL.out] at hc2
      have HR2 := Lib.hid hr2
      clear ho2 hr2 hl2 hb2
      go_wp2_with fail
      refine (KTRE.out _ B2.out).mono ?_
      rintro r w3 ⟨us, ad3, cap3, rfl, hub, hc3, hr3, hu3, hb3⟩
      rw [HV.out] at hc3 ⊢
      have B3 := Lib.hid (below_on B2.out hb3)
      have HUL := Lib.hid (show us.length = j by have := congrArg List.length hub; simp at this; rw [this, HV.out])
      have KOB := Lib.hid ((object_core ad2 n cap2 m (l.take m) ad3 j cap3 (us.map MT.c) w3 hc2 (by omega) HLM.out (by rw [← sv_take]; exact (HR2.out.on hb3).take m) (by rw [List.length_map]; exact HUL.out) hc3 (by omega) hr3 HMIN.out).mono fun _ _ hp => obj_core hp (by omega) HLM.out (by rw [HUL.out]; exact hmm.2) HZM.out hu3)
      have HUB := Lib.hid hub
      clear hub hr3 hu3 hb3 HR2
      go_wp2_with fail
      refine KOB.out.mono ?_
      rintro r w4 ⟨lo, f, T1, hT1, rfl, hbare1, hrep1, hb4⟩
      have B4 := Lib.hid (below_on B3.out hb4)
      have HT1 := Lib.hid hT1; have HE1 := Lib.hid hbare1; have HP1 := Lib.hid hrep1
      obtain ⟨at1, hat⟩ : ∃ x, (if f then lo else 0 : Nat) = x := ⟨_, rfl⟩
      obtain ⟨ok1, hok⟩ : ∃ x, (!f) = x := ⟨_, rfl⟩
      rw [hat, hok]
      have HAT := Lib.hid hat; have HOK := Lib.hid hok
      obtain ⟨c1, hc1⟩ : ∃ c, T1.c = c := ⟨_, rfl⟩
      have HC1 := Lib.hid hc1
      rw [hc1]
      obtain ⟨pk, pb, pneg, pma, pmn, pmc, pe, ps, pka, pkn, pkc, pva, pvn, pvc⟩ := c1
      simp only [Cel.val]
      clear hT1 hbare1 hrep1 hb4 hc1 KOB hat hok
      obtain ⟨W5, hW5⟩ : ∃ x, w4.alloc (.cells #[.int .i64 pk, .bool pb, .bool pneg, .slice pma pmn pmc, .int .i64 pe, .string ps, .slice pka pkn pkc, .slice pva pvn pvc] 31) = x := ⟨_, rfl⟩
      have B5 := Lib.hid (show Below w.heap.size w W5 by rw [← hW5]; exact B4.out.alloc B4.out.size _)
      have hbx : BoxT W5 w4.heap.size ⟨pk, pb, pneg, pma, pmn, pmc, pe, ps, pka, pkn, pkc, pva, pvn, pvc⟩ := by unfold BoxT; rw [← hW5]; exact heap_alloc_new _ _
      have HX1 := Lib.hid (fun W (h : Below W5.heap.size W5 W) => hbx.on (h.block _ hbx.lt))
      have HP5 := Lib.hid (fun W (h : Below W5.heap.size W5 W) => HP1.out.on (((show Below w4.heap.size w4 W5 by rw [← hW5]; exact (Below.refl _ _).alloc (Nat.le_refl _) _)).trans (h.mono (by rw [← hW5]; simp))))
      have HW5 := Lib.hid hW5
      clear hbx hW5 HP1
      go_wp2_with fail
      rw [HW5.out]
      refine (KROB.out _ B5.out).mono ?_
      rintro r w6 ⟨lo2, f2, T2, hT2, rfl, hbare2, hrep2, hb6⟩
      obtain ⟨e1, e2⟩ := twc_unique hT2 HT1.out
      subst e1 e2
      rw [HAT.out, HOK.out]
      have B6 := Lib.hid (below_on B5.out hb6)
      have B56 := Lib.hid hb6
      have HP2 := Lib.hid hrep2
      have HBB := Lib.hid (show T1.bare = T2.bare by rw [HE1.out, hbare2]; exact BT_bare HUB.out _ _ _)
      have HS1 := Lib.hid (sml_bare T2 T1 HBB.out.symm (bt_sml hbare2 (by omega) (by rw [HV.out]; exact hmm.2) HSA.out))
      obtain ⟨c2, hc2⟩ : ∃ c, T2.c = c := ⟨_, rfl⟩
      have HC2 := Lib.hid hc2
      rw [hc2]
      obtain ⟨qk, qb, qneg, qma, qmn, qmc, qe, qs, qka, qkn, qkc, qva, qvn, qvc⟩ := c2
      simp only [Cel.val]
      clear hT2 hbare2 hrep2 hb6 hc2 HT1 HE1
      obtain ⟨W7, hW7⟩ : ∃ x, w6.alloc (.cells #[.int .i64 qk, .bool qb, .bool qneg, .slice qma qmn qmc, .int .i64 qe, .string qs, .slice qka qkn qkc, .slice qva qvn qvc] 31) = x := ⟨_, rfl⟩
      have B7 := Lib.hid (show Below w.heap.size w W7 by rw [← hW7]; exact B6.out.alloc B6.out.size _)
      have B57 := Lib.hid (show Below W5.heap.size W5 W7 by rw [← hW7]; exact B56.out.alloc B56.out.size _)
      have hbx : BoxT W7 w6.heap.size ⟨qk, qb, qneg, qma, qmn, qmc, qe, qs, qka, qkn, qkc, qva, qvn, qvc⟩ := by unfold BoxT; rw [← hW7]; exact heap_alloc_new _ _
      have HX2 := Lib.hid (fun W (h : Below W7.heap.size W7 W) => hbx.on (h.block _ hbx.lt))
      have HP7 := Lib.hid (fun W (h : Below W7.heap.size W7 W) => HP2.out.on (((show Below w6.heap.size w6 W7 by rw [← hW7]; exact (Below.refl _ _).alloc (Nat.le_refl _) _)).trans (h.mono (by rw [← hW7]; simp))))
      have HW7 := Lib.hid hW7
      have KST := Lib.hid (fun W (h : Below W7.heap.size W7 W) => show Calls Try.prog 20 #[Cel.val ⟨pk, pb, pneg, pma, pmn, pmc, pe, ps, pka, pkn, pkc, pva, pvn, pvc⟩, Cel.val ⟨qk, qb, qneg, qma, qmn, qmc, qe, qs, qka, qkn, qkc, qva, qvn, qvc⟩] W (BoolBelow true W) from by
        have := sameTree_any T1 T2 W HBB.out HS1.out (HP5.out W (below_on B57.out h)) (HP7.out W h)
        rwa [HC1.out, HC2.out] at this)
      simp only [Cel.val] at KST
      have HXX := Lib.hid (fun W (h : Below W7.heap.size W7 W) => And.intro (HX1.out W (below_on B57.out h)).cells (HX2.out W h).cells)
      have KSORT := Lib.hid (fun aa cc W (hc : n ≤ cc) (hr : RdV W aa (sv l)) => sort_any aa n cc l W HL.out hc (by omega) hr)
      have KCBOR := Lib.hid (fun aa cc W (hc : n ≤ cc) (hr : RdV W aa (sv l)) => cbor_any aa n cc l W HL.out hc (by omega) (fun s hs => by have := HZ.out s hs; omega) hr)
      have KTW := Lib.hid (fun aa cc W (hc : n ≤ cc) (hr : RdV W aa (sv l)) => twice_any aa n cc l W HL.out hc (by omega) hr)
      clear hbx hW7 HP2 KROB KTRE HX1 HX2 HP5 HP7 HAT HOK HRV HREP HSA HUB HUL HBB HS1 HC1 HC2 B56
      unfold TwicePost at KTW KRTW
      go_wp2_with fail
      rw [HW7.out]
      refine (KSTR.out _ B7.out).mono ?_
      rintro r w8 ⟨v8, rfl, ho8, hb8⟩
      have B8 := Lib.hid (below_on B7.out hb8); have D8 := Lib.hid hb8
      obtain ⟨ad8, cap8, rfl, hc8, hr8, _, _⟩ := own_view ho8
      rw [sv_len, HL.out]
      rw [sv_len, HL.out] at hc8
      have HR8 := Lib.hid hr8
      clear ho8 hr8 hb8
      go_wp2_with fail
      refine (KTW.out _ _ _ hc8 HR8.out).mono ?_
      rintro r w9 ⟨lo3, f3, rfl, hT3, hb9⟩
      have B9 := Lib.hid (below_on B8.out hb9); have D9 := Lib.hid (below_on D8.out hb9)
      have HT3 := Lib.hid hT3
      clear hT3 hb9 HR8
      go_wp2_with fail
      refine (KRTW.out _ B9.out).mono ?_
      rintro r wa ⟨lo4, f4, rfl, hT4, hba⟩
      obtain ⟨e1, e2⟩ := twc_unique hT4 HT3.out
      subst e1 e2
      have BA := Lib.hid (below_on B9.out hba); have DA := Lib.hid (below_on D9.out hba)
      clear hT4 hba HT3
      go_wp2_with fail
      refine (KSTR.out _ BA.out).mono ?_
      rintro r wb ⟨vb, rfl, hob, hbb⟩
      have BB := Lib.hid (below_on BA.out hbb); have DB := Lib.hid (below_on DA.out hbb)
      obtain ⟨adb, capb, rfl, hcb, hrb, _, _⟩ := own_view hob
      rw [sv_len, HL.out]
      rw [sv_len, HL.out] at hcb
      have HRB := Lib.hid hrb
      clear hob hrb hbb
      go_wp2_with fail
      refine (KSORT.out _ _ _ hcb HRB.out).mono ?_
      rintro r wc ⟨gc, rfl, _, hkc, hbc⟩
      have BC := Lib.hid (below_on BB.out hbc); have DC := Lib.hid (below_on DB.out hbc)
      have HKC := Lib.hid hkc
      clear hkc hbc HRB
      go_wp2_with fail
      refine (KRS.out _ BC.out).mono ?_
      rintro r wd ⟨add, capd, rfl, hcd, hrd2, _, hbd⟩
      have BD := Lib.hid (below_on BC.out hbd); have DD := Lib.hid (below_on DC.out hbd)
      have HKD := Lib.hid (sameInts_any (some ⟨gc, 0, none⟩) n n (srt Op.bytesLess (keyB l) 0 n) add n capd (srt Op.bytesLess (keyB l) 0 n) wd (srt_len _ _ _ _) (by omega) (HKC.out.all.on hbd) (srt_len _ _ _ _) (by omega) hrd2 (Nat.le_refl _) hcd)
      clear hrd2 hbd HKC
      go_wp2_with fail
      refine HKD.out.mono ?_
      rintro r we ⟨rfl, q1, rfl⟩
      have BE := Lib.hid (below_drewN BD.out q1); have DE := Lib.hid (below_drewN DD.out q1)
      try simp only [decide_true]
      generalize World.drewN wd q1 = we at BE DE ⊢
      clear HKD
      go_wp2_with fail
      refine (KSTR.out _ BE.out).mono ?_
      rintro r wf ⟨vf, rfl, hof, hbf⟩
      have BF := Lib.hid (below_on BE.out hbf); have DF := Lib.hid (below_on DE.out hbf)
      obtain ⟨adf, capf, rfl, hcf, hrf, _, _⟩ := own_view hof
      rw [sv_len, HL.out]
      rw [sv_len, HL.out] at hcf
      have HRF := Lib.hid hrf
      clear hof hrf hbf
      go_wp2_with fail
      refine (KCBOR.out _ _ _ hcf HRF.out).mono ?_
      rintro r wg ⟨gg, rfl, _, hkg, hbg⟩
      have BG := Lib.hid (below_on BF.out hbg); have DG := Lib.hid (below_on DF.out hbg)
      have HKG := Lib.hid hkg
      clear hkg hbg HRF
      go_wp2_with fail
      refine (KRC.out _ BG.out).mono ?_
      rintro r wh ⟨adh, caph, rfl, hch, hrh, _, hbh⟩
      have BH := Lib.hid (below_on BG.out hbh); have DH := Lib.hid (below_on DG.out hbh)
      have HKH := Lib.hid (sameInts_any (some ⟨gg, 0, none⟩) n n (srt shortL (keyB l) 0 n) adh n caph (srt shortL (keyB l) 0 n) wh (srt_len _ _ _ _) (by omega) (HKG.out.all.on hbh) (srt_len _ _ _ _) (by omega) hrh (Nat.le_refl _) hch)
      clear hrh hbh HKG
      go_wp2_with fail
      refine HKH.out.mono ?_
      rintro r wi ⟨rfl, q2, rfl⟩
      have BI := Lib.hid (below_drewN BH.out q2); have DI := Lib.hid (below_drewN DH.out q2)
      try simp only [decide_true]
      generalize World.drewN wh q2 = wi at BI DI ⊢
      clear HKH
      go_wp2_with fail
      refine (less_any _ _ _).mono ?_
      rintro r wj ⟨rfl, rfl⟩
      have hls : (Op.bytesLess a.toList b.toList == Op.bytesLess a.toList b.toList) = true := by simp
      have KRL := Lib.hid (refLess_any a b wi)
      generalize Op.bytesLess a.toList b.toList = ls at *
      go_wp2_with fail
      refine KRL.out.mono ?_
      rintro r wk ⟨rfl, rfl⟩
      obtain ⟨⟨x0, x1, x2, x3, x4, x5, x6, x7⟩, ⟨y0, y1, y2, y3, y4, y5, y6, y7⟩⟩ := HXX.out wi DI.out
      try simp only at x0 x1 x2 x3 x4 x5 x6 x7 y0 y1 y2 y3 y4 y5 y6 y7
      have K := Lib.hid (KST.out wi DI.out)
      clear KRL KST HXX
      go_wp2_with fail
      refine K.out.mono ?_
      rintro r wl ⟨rfl, hbl⟩
      have BL := Lib.hid (below_on BI.out hbl)
      clear hbl x0 x1 x2 x3 x4 x5 x6 x7 y0 y1 y2 y3 y4 y5 y6 y7
      go_wp2_with fail
      refine (AW.out _ BL.out).mono ?_
      rintro r wm ⟨rfl, hbm⟩
      have BM := Lib.hid hbm
      clear hbm
      go_wp2_with fail
      go_ret
      exact BoolBelow.mk rfl BM.out
set_option maxHeartbeats 2000000 in
set_option maxRecDepth 100000 in
theorem orderAll_walk (ad : Option Addr) (n cap : Nat) (l : List ByteArray) (ad' : Option Addr) (n' cap' : Nat) (v : List MT) (a b : ByteArray) (w : World) (hl : l.length = n) (hcap : n ≤ cap) (hm : n ≤ maxLen) (hz : ∀ s ∈ l, s.size ≤ maxLen) (hr : RdV w ad (sv l)) (h0 : ad = none → cap = 0) (hv : v.length = n') (hcap' : n' ≤ cap') (hr' : RdV w ad' (flat (v.map MT.c))) (hR : ∀ u ∈ v, Rep w u) (hmv : n' ≤ 1000000000000000) (ha : a.size ≤ maxLen) (hb : b.size ≤ maxLen) :
    Calls Try.prog 3 #[.slice ad n cap, .slice ad' n' cap', .string a, .string b] w (BoolBelow true w) := by
  have KF := Lib.hid (few_any ad n cap l w hl hcap hm hz hr)
  have AW := Lib.hid (awake_any w)
  by_cases hf : fewB l = true
  · by_cases h60 : n' ≤ 60
    · obtain ⟨h1, h2⟩ := fewB_true hf
      exact orderAll_main ad n cap l ad' n' cap' v a b w hl hcap (by omega) h2 hr hf hv hcap' h60 hr' hR
    · have hnz : (60 : Int) < (n' : Int) := by omega
      rw [hf] at KF
      clear hl hm hz hr h0 hv hr' hR hf
      go_enter Try.func3, Try.ntmps3
      go_wp2_with fail
      refine KF.out.mono ?_
      rintro r w1 ⟨rfl, rfl⟩
      go_wp2_with fail
      refine AW.out.mono ?_
      rintro r w2 ⟨rfl, hb2⟩
      have HB := Lib.hid hb2
      clear hb2
      go_wp2_with fail
      go_ret
      exact BoolBelow.mk rfl HB.out
  · have hf : fewB l = false := by simpa using hf
    rw [hf] at KF
    clear hl hm hz hr h0 hv hr' hR hf
    go_enter Try.func3, Try.ntmps3
    go_wp2_with fail
    refine KF.out.mono ?_
    rintro r w1 ⟨rfl, rfl⟩
    go_wp2_with fail
    refine AW.out.mono ?_
    rintro r w2 ⟨rfl, hb2⟩
    have HB := Lib.hid hb2
    clear hb2
    go_wp2_with fail
    go_ret
    exact BoolBelow.mk rfl HB.out
end Go.Proofs.Ytndjdmgncjiggaa
