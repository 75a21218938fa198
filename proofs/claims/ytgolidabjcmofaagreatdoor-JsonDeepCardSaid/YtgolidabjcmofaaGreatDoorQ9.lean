/- Texts of the claim. -/
import Derived.Test.YtgolidabjcmofaaGreatDoorQWe
import Derived.Test.YtgolidabjcmofaaGreatDoorQ8
import Derived.Test.YtgolidabjcmofaaGreatDoorQp
namespace Go.Proofs.YtgolidabjcmofaaGreatDoor
open Go.Shelf Go.RowKit
set_option linter.unusedVariables false
set_option linter.unusedSimpArgs false
mutual
def depM : MT → Nat | .mk c m k v => depML v + 1
def depML : List MT → Nat | [] => 0 | t :: l => max (depM t) (depML l)
end
theorem depM_eq (t : MT) : depM t = depML t.v + 1 := by obtain ⟨c, m, k, v⟩ := t; rw [depM]; rfl
theorem depML_snoc (l : List MT) (t : MT) : depML (l ++ [t]) = max (depML l) (depM t) := by
  induction l with
  | nil => rw [List.nil_append, depML, depML, depML]; omega
  | cons u l ih => rw [List.cons_append, depML, ih, depML]; omega
theorem depML_mem {l : List MT} {t : MT} (h : t ∈ l) : depM t ≤ depML l := by
  induction l with
  | nil => cases h
  | cons u l ih =>
    rw [depML]
    rcases List.mem_cons.1 h with rfl | h
    · omega
    · have := ih h; omega
theorem depML_take (l : List MT) (j : Nat) : depML (l.take j) ≤ depML l := by
  have key : ∀ k : List MT, (∀ t ∈ k, t ∈ l) → depML k ≤ depML l := by
    intro k
    induction k with
    | nil => intro _; rw [depML]; exact Nat.zero_le _
    | cons u k ih =>
      intro h
      rw [depML]
      have h1 := depML_mem (h u (by simp))
      have h2 := ih (fun t ht => h t (by simp [ht]))
      omega
  exact key _ (fun t ht => List.mem_of_mem_take ht)
theorem depM_bare (t : MT) : depM t.bare = depM t := by
  refine MT.ind (P := fun t => depM t.bare = depM t) ?_ t
  intro t ih
  rw [depM_eq, depM_eq, MT.bare_eq]
  show depML (t.v.map MT.bare) + 1 = _
  have key : ∀ l : List MT, (∀ u ∈ l, depM u.bare = depM u) → depML (l.map MT.bare) = depML l := by
    intro l
    induction l with
    | nil => intro _; rfl
    | cons u l ih2 => intro h; rw [List.map_cons, depML, depML, h u (by simp), ih2 (fun x hx => h x (by simp [hx]))]
  rw [key _ ih]
def DeW (us : List MT) (n : Nat) (w : World) (W1 : World) (g : Nat) (m i : Value) (wr : World) : Prop :=
  ∃ j, i = .int .i64 ((j : Nat) : Int) ∧ m = .int .i64 ((depML (us.take j) : Nat) : Int) ∧ j ≤ n ∧ n - j ≤ g ∧ Below W1.heap.size W1 wr
set_option maxHeartbeats 8000000 in
set_option maxRecDepth 100000 in
theorem refDepth_any (t : MT) : ∀ w, Rep w t → depM t ≤ 1000 → Calls Tryz.prog 22 #[t.c.val] w (IntBelow (depM t) w) := by
  refine MT.ind (P := fun t => ∀ w, Rep w t → depM t ≤ 1000 → Calls Tryz.prog 22 #[t.c.val] w (IntBelow (depM t) w)) ?_ t
  intro t ih w hR hD
  have own := hR.own
  rw [depM_eq] at hD ⊢
  have HV := Lib.hid (fun j (hj : j < t.v.length) W (h : Below w.heap.size w W) => ih (t.v.getD j (leafT 0 false ⟨#[]⟩)) (by simp [List.getD, hj]) W ((hR.part (by simp [List.getD, hj])).on h) (by
    have := depML_mem (l := t.v) (t := t.v.getD j (leafT 0 false ⟨#[]⟩)) (by simp [List.getD, hj])
    omega))
  have HRD := Lib.hid (fun W (h : Below w.heap.size w W) => own.vr.on h)
  have HLN := Lib.hid own.vn
  have hm := own.lm.2.2
  clear ih hR own
  generalize t.v = us at *
  generalize t.c = c at *
  obtain ⟨k, b0, neg, ma, mn, mc, e, s, ka, kn, kc, va, vn, vc⟩ := c
  unfold Cel.val
  simp only at HRD HLN hm
  obtain ⟨W1, hW1⟩ : ∃ x, w.alloc (.cells #[.int .i64 k, .bool b0, .bool neg, .slice ma mn mc, .int .i64 e, .string s, .slice ka kn kc, .slice va vn vc] 28) = x := ⟨_, rfl⟩
  have hb1 : Below w.heap.size w W1 := by rw [← hW1]; exact (Below.refl _ _).alloc (Nat.le_refl _) _
  have q1 : W1.heap[w.heap.size]? = some (.cells #[.int .i64 k, .bool b0, .bool neg, .slice ma mn mc, .int .i64 e, .string s, .slice ka kn kc, .slice va vn vc] 28) := by rw [← hW1]; exact heap_alloc_new w _
  have HW1 := Lib.hid hW1; have HB1 := Lib.hid hb1
  have HY := Lib.hid (fun W (h : Below W1.heap.size W1 W) => (show W.cell? ⟨w.heap.size, 7, none⟩ = some (.slice va vn vc) from by
    have := (h.block _ (Array.getElem?_eq_some_iff.1 q1).1).trans q1
    exact (box_cellsJ this 7 _ rfl).1))
  have HST := Lib.hid (show DeW us vn w W1 vn (.int .i64 ((0 : Nat) : Int)) (.int .i64 ((0 : Nat) : Int)) W1 from ⟨0, rfl, by rw [List.take_zero, depML], Nat.zero_le _, by omega, Below.refl _ _⟩)
  clear hW1 hb1 q1
  go_enter Tryz.func22, Tryz.ntmps22
  go_wp2_with fail
  rw [HW1.out]
  try go_wp2_with fail
  go_loopg [3, 4] vn (fun g m i wr => DeW us vn w W1 g m i wr)
  case atStart => exact HST.out
  case round =>
    clear HST
    obtain ⟨j, rfl, rfl, hjn, hgj, hbw⟩ := hrel
    have HBW := Lib.hid hbw
    have y7 := HY.out wr hbw
    have hdt := depML_take us j
    clear hbw
    by_cases hlt : j < vn
    · obtain ⟨g, rfl⟩ : ∃ g, gk = g + 1 := ⟨gk - 1, by omega⟩
      have hltz : (j : Int) < (vn : Int) := by omega
      have hju : j < us.length := by have := HLN.out; omega
      have hj6 : (j : Int) ≤ 1000000000000000 := by omega
      have hb0 := HB1.out.trans (HBW.out.mono HB1.out.size)
      have hrd := HRD.out wr hb0
      obtain ⟨xbk, xo, rfl, hxl⟩ := hrd.shape (by rw [flat_len, List.length_map]; omega)
      have hxx := flat_at hrd j (by rw [List.length_map]; omega) (c := (us.getD j (leafT 0 false ⟨#[]⟩)).c) (getD_mapc hju _)
      have KV := Lib.hid (HV.out j hju wr hb0)
      have htk : us.take (j + 1) = us.take j ++ [us.getD j (leafT 0 false ⟨#[]⟩)] := by rw [List.take_succ_eq_append_getElem hju]; simp [List.getD, hju]
      have HTK : Hid (depML (us.take (j + 1)) = max (depML (us.take j)) (depM (us.getD j (leafT 0 false ⟨#[]⟩)))) := Lib.hid (by rw [htk, depML_snoc])
      have hdj : depM (us.getD j (leafT 0 false ⟨#[]⟩)) ≤ depML us := depML_mem (by simp [List.getD, hju])
      clear htk hrd hb0
      unfold IntBelow at KV
      generalize depM (us.getD j (leafT 0 false ⟨#[]⟩)) = dj at *
      generalize (us.getD j (leafT 0 false ⟨#[]⟩)).c = cx at KV hxx
      obtain ⟨xk, xb, xneg, xma, xmn, xmc, xe, xs, xka, xkn, xkc, xva, xvn, xvc⟩ := cx
      unfold Cel.val at KV
      obtain ⟨x0, x1, x2, x3, x4, x5, x6, x7⟩ := hxx
      try simp only at x0 x1 x2 x3 x4 x5 x6 x7
      generalize depML (us.take j) = dm at *
      go_wp2_with fail
      refine KV.out.mono ?_
      rintro r w4 ⟨rfl, hb4⟩
      have HF := Lib.hid (show DeW us vn w W1 g (.int .i64 (max (dm : Int) (dj : Int))) (.int .i64 ((j : Int) + 1)) w4 from ⟨j + 1, by simp, by rw [HTK.out]; congr 1; omega, by omega, by omega, HBW.out.trans (hb4.mono HBW.out.size)⟩)
      clear hb4 KV
      go_wp2
      go_roundg g
      case rel => exact HF.out
      case measure => omega
    · obtain rfl : j = vn := by omega
      have hjz : ¬ (j : Int) < (j : Int) := by omega
      have hall : us.take j = us := List.take_of_length_le (by have := HLN.out; omega)
      rw [hall]
      have HZ := Lib.hid (show IntBelow ((depML us + 1 : Nat) : Int) w (.returned (.int .i64 ((depML us : Int) + 1))) wr from ⟨by rw [Int.natCast_add]; rfl, HB1.out.trans (HBW.out.mono HB1.out.size)⟩)
      generalize depML us = dm at *
      have hdz : (dm : Int) ≤ 1000 := by omega
      go_wp2
      go_ret
      exact HZ.out
end Go.Proofs.YtgolidabjcmofaaGreatDoor
namespace Go.Proofs.YtgolidabjcmofaaGreatDoor
open Go.Shelf Go.RowKit Go.Lib
set_option linter.unusedVariables false
set_option linter.unusedSimpArgs false
def strU (l : List UInt8) : ByteArray := ⟨l.toArray⟩
theorem strU_app (a b : List UInt8) : strU a ++ strU b = strU (a ++ b) := by
  apply ByteArray.ext
  simp [strU, ByteArray.data_append]
theorem strU_size (l : List UInt8) : (strU l).size = l.length := by simp [strU, ByteArray.size]
theorem strU_one (x : UInt8) : (⟨#[x]⟩ : ByteArray) = strU [x] := rfl
def DpA (d : Nat) (w : World) (g : Nat) (s t i : Value) (wr : World) : Prop := ∃ j, j ≤ d ∧ d - j ≤ g ∧ s = .string (strU (List.replicate j 91)) ∧ t = .string (strU (List.replicate j 93)) ∧ i = .int .i64 ((j : Nat) : Int) ∧ Below w.heap.size w wr
def DpB (n : Nat) (w : World) (g : Nat) (u i : Value) (wr : World) : Prop := ∃ j, j ≤ n ∧ n - j ≤ g ∧ u = .string (strU (91 :: itsL j)) ∧ i = .int .i64 ((j : Nat) : Int) ∧ Below w.heap.size w wr
theorem itsL_len (w : Nat) : (itsL w).length ≤ 2 * w := by
  induction w with
  | zero => simp [itsL]
  | succ w ih => unfold itsL cmaL; rw [List.length_append, List.length_append]; split <;> simp <;> omega
theorem tow_str (d : Nat) : List.replicate d 91 ++ [49] ++ List.replicate d 93 = towL d [] := by unfold towL; simp
theorem towerT_dep (d : Nat) : depM (towerT d) = d + 1 := by
  induction d with
  | zero => rw [depM_eq]; show depML [] + 1 = 1; rw [depML]
  | succ d ih => rw [depM_eq]; show depML [towerT d] + 1 = _; rw [depML, depML, ih]; omega
set_option maxHeartbeats 16000000 in
set_option maxRecDepth 100000 in
theorem jsonDeep_walk (n0 k0 : Int) (w : World) (hn0 : -9223372036854775808 ≤ n0 ∧ n0 ≤ 9223372036854775807) (hk0 : -9223372036854775808 ≤ k0 ∧ k0 ≤ 9223372036854775807) (hU : UT w) (hT : TB w) :
    Calls Tryz.prog 8 #[.int .i64 n0, .int .i64 k0] w (BoolBelow true w) := by
  have KP1 := Lib.hid (place_any n0 80 w hn0 (by decide))
  have KP2 := Lib.hid (fun W => place_any k0 320 W hk0 (by decide))
  obtain ⟨d, hd, hd80⟩ : ∃ d : Nat, n0 % 80 = (d : Int) ∧ d < 80 := ⟨(n0 % 80).toNat, by omega, by omega⟩
  obtain ⟨m, hm, hm320⟩ : ∃ m : Nat, k0 % 320 = (m : Int) ∧ m < 320 := ⟨(k0 % 320).toNat, by omega, by omega⟩
  rw [hd] at KP1
  rw [hm] at KP2
  have HU := Lib.hid (fun W (h : Below w.heap.size w W) => hU.below h); have HT := Lib.hid (fun W (h : Below w.heap.size w W) => hT.below h)
  have AW : Hid (∀ W, Below w.heap.size w W → Calls Tryz.prog 10 #[] W (BoolBelow true w)) := Lib.hid (fun W h => (awakeJ_any W (hU.below h) (hT.below h)).mono fun _ _ hp => ⟨hp.1, below_on h hp.2⟩)
  clear hn0 hk0 hU hT hd hm
  go_enter Tryz.func8, Tryz.ntmps8
  go_wp2_with fail
  refine KP1.out.mono ?_
  rintro r w1 ⟨rfl, rfl⟩
  go_wp2_with fail
  refine (KP2.out _).mono ?_
  rintro r w2 ⟨rfl, rfl⟩
  clear KP1 KP2
  have hwB : Below w2.heap.size w2 w2 := Below.refl _ _
  go_wp2_with fail
  go_loopg [7, 8, 9] d (fun g s t i wr => DpA d w2 g s t i wr)
  case atStart => exact ⟨0, Nat.zero_le _, by omega, rfl, rfl, rfl, Below.refl _ _⟩
  case round =>
    obtain ⟨j, hjd, hgj, rfl, rfl, rfl, hbw⟩ := hrel
    have HBW := Lib.hid hbw
    clear hbw
    by_cases hlt : j < d
    · obtain ⟨g, rfl⟩ : ∃ g, gk = g + 1 := ⟨gk - 1, by omega⟩
      have hltz : (j : Int) < (d : Int) := by omega
      have hj6 : (j : Int) ≤ 80 := by omega
      have e1 := strU_app (List.replicate j 91) [91]
      have e2 := strU_app (List.replicate j 93) [93]
      rw [← List.replicate_succ'] at e1 e2
      rw [← strU_one] at e1 e2
      have z1 := strU_size (List.replicate j 91)
      have z2 := strU_size (List.replicate j 93)
      rw [List.length_replicate] at z1 z2
      have HE := Lib.hid (And.intro e1 e2)
      clear e1 e2
      generalize hs1 : strU (List.replicate j 91) = s1 at *
      generalize hs2 : strU (List.replicate j 93) = s2 at *
      clear hs1 hs2
      have hz1 : s1.size ≤ 80 := by omega
      have hz2 : s2.size ≤ 80 := by omega
      clear z1 z2
      go_wp2_with fail
      go_roundg g
      case rel => exact ⟨j + 1, by omega, by omega, by rw [HE.out.1], by rw [HE.out.2], by simp, HBW.out⟩
      case measure => omega
    · obtain rfl : j = d := by omega
      have hjz : ¬ (j : Int) < (j : Int) := by omega
      go_wp2_with fail
      go_loopg [10, 11] m (fun g u i wr => DpB m w2 g u i wr)
      case atStart => exact ⟨0, Nat.zero_le _, by omega, rfl, rfl, HBW.out⟩
      case round =>
        obtain ⟨q, hqm, hgq, rfl, rfl, hbq⟩ := hrel
        have HBQ := Lib.hid hbq
        clear hbq HBW
        by_cases hlq : q < m
        · obtain ⟨g, rfl⟩ : ∃ g, gk = g + 1 := ⟨gk - 1, by omega⟩
          have hltz : (q : Int) < (m : Int) := by omega
          have hq6 : (q : Int) ≤ 320 := by omega
          have hil := itsL_len q
          have z1 := strU_size (91 :: itsL q)
          rw [List.length_cons] at z1
          have hz1 : (strU (91 :: itsL q)).size ≤ 700 := by omega
          clear z1 hil
          by_cases hq0 : 0 < q
          · have e1 : strU (91 :: itsL q) ++ ⟨#[44]⟩ ++ ⟨#[48]⟩ = strU (91 :: itsL (q + 1)) := by
              rw [strU_one, strU_one, strU_app, strU_app]
              congr 1
              show _ = 91 :: (itsL q ++ (cmaL q ++ [48]))
              unfold cmaL
              rw [if_pos hq0]
              simp
            have z2 : (strU (91 :: itsL q) ++ ⟨#[44]⟩ : ByteArray).size ≤ 701 := by rw [ByteArray.size_append]; exact Nat.add_le_add hz1 (Nat.le_refl _)
            have HE := Lib.hid e1
            clear e1
            generalize strU (91 :: itsL q) = s1 at *
            have hqz : (0 : Int) < (q : Int) := by omega
            go_wp2_with fail
            go_roundg g
            case rel => exact ⟨q + 1, by omega, by omega, by rw [← HE.out], by simp, HBQ.out⟩
            case measure => omega
          · obtain rfl : q = 0 := by omega
            have e1 : strU (91 :: itsL 0) ++ ⟨#[48]⟩ = strU (91 :: itsL (0 + 1)) := by
              rw [strU_one, strU_app]; rfl
            have HE := Lib.hid e1
            clear e1
            generalize strU (91 :: itsL 0) = s1 at *
            go_wp2_with fail
            go_roundg g
            case rel => exact ⟨0 + 1, by omega, by omega, by rw [← HE.out], by simp, HBQ.out⟩
            case measure => omega
        · obtain rfl : q = m := by omega
          have hqz : ¬ (q : Int) < (q : Int) := by omega
          have e1 : strU (List.replicate j 91) ++ ⟨#[49]⟩ ++ strU (List.replicate j 93) = strU (towL j []) := by rw [strU_one, strU_app, strU_app, tow_str]
          have e2 : strU (91 :: itsL q) ++ ⟨#[93]⟩ = strU (91 :: (itsL q ++ [93])) := by rw [strU_one, strU_app]; rfl
          have z1 := strU_size (List.replicate j 91)
          have z2 := strU_size (List.replicate j 93)
          rw [List.length_replicate] at z1 z2
          have z3 := strU_size (91 :: itsL q)
          rw [List.length_cons] at z3
          have hil := itsL_len q
          have z4 : (strU (List.replicate j 91) ++ ⟨#[49]⟩ : ByteArray).size ≤ 81 := by rw [ByteArray.size_append]; show _ + 1 ≤ _; omega
          have y1 : (strU (List.replicate j 91)).size ≤ 80 := by omega
          have y2 : (strU (List.replicate j 93)).size ≤ 80 := by omega
          have y3 : (strU (91 :: itsL q)).size ≤ 700 := by omega
          have KD1 := Lib.hid (decode_anyj (towL j []) wr (by rw [towL_len]; omega) (HU.out wr HBQ.out))
          have KD2 := Lib.hid (fun W (h : Below w2.heap.size w2 W) => decode_anyj (91 :: (itsL q ++ [93])) W (by simp; omega) (HU.out W h))
          have HE1 := Lib.hid e1
          have HE2 := Lib.hid e2
          rw [decodeL_tower j hd80] at KD1
          have HN := Lib.hid (decodeL_noughts q hm320)
          change Hid (Calls _ _ #[.string (strU (towL j []))] _ _) at KD1
          change Hid (∀ W, _ → Calls _ _ #[.string (strU (91 :: (itsL q ++ [93])))] _ _) at KD2
          clear e1 e2 z1 z2 z3 hil
          generalize strU (List.replicate j 91) = s1 at *
          generalize strU (List.replicate j 93) = s2 at *
          generalize strU (91 :: itsL q) = s3 at *
          generalize strU (towL j []) = s4 at *
          generalize strU (91 :: (itsL q ++ [93])) = s5 at *
          generalize decodeL (91 :: (itsL q ++ [93])) = R2 at *
          go_wp2_with fail
          rw [HE1.out]
          refine KD1.out.mono ?_
          intro r w3 hp3
          by_cases hd64 : j < 64
          · rw [if_pos hd64] at hp3
            obtain ⟨t1, rfl, hbare, hR, hb3⟩ := hp3
            have hdep : depM t1 = j + 1 := by rw [← depM_bare, hbare, towerT_dep]
            have KDP := Lib.hid (fun W (h : Below w3.heap.size w3 W) => (by
              have := refDepth_any t1 W (hR.on h) (by omega)
              rwa [hdep] at this : Calls Tryz.prog 22 #[t1.c.val] W (IntBelow ((j + 1 : Nat) : Int) W)))
            unfold IntBelow at KDP
            have hge : decide ((64 : Int) ≤ (j : Int)) = false := decide_eq_false (by omega)
            have hj6 : (j : Int) ≤ 80 := by omega
            have hcast : ((j + 1 : Nat) : Int) = (j : Int) + 1 := by omega
            rw [hcast] at KDP
            generalize t1.c = c1 at *
            obtain ⟨xk, xb, xneg, xma, xmn, xmc, xe, xs, xka, xkn, xkc, xva, xvn, xvc⟩ := c1
            unfold Cel.val at *
            obtain ⟨w4, hw4⟩ : ∃ x, w3.alloc (.cells #[.int .i64 xk, .bool xb, .bool xneg, .slice xma xmn xmc, .int .i64 xe, .string xs, .slice xka xkn xkc, .slice xva xvn xvc] 28) = x := ⟨_, rfl⟩
            have hb34 : Below w3.heap.size w3 w4 := by rw [← hw4]; exact (Below.refl _ _).alloc (Nat.le_refl _) _
            have Q4 := Lib.hid (show w4.heap[w3.heap.size]? = some (.cells #[.int .i64 xk, .bool xb, .bool xneg, .slice xma xmn xmc, .int .i64 xe, .string xs, .slice xka xkn xkc, .slice xva xvn xvc] 28) by rw [← hw4]; exact heap_alloc_new w3 _)
            have HB4 := Lib.hid (HBQ.out.trans ((hb3.trans (hb34.mono hb3.size)).mono HBQ.out.size))
            have HW4 := Lib.hid hw4
            clear hb3 hR hbare hdep KD1 hw4 hcast
            go_wp2_with fail
            rw [HW4.out]
            go_wp2_with fail
            rw [HE2.out]
            refine (KD2.out _ HB4.out).mono ?_
            intro r w5a hp5
            by_cases hm3 : q ≤ 300
            · obtain ⟨t2, ht2⟩ := HN.out.1 hm3
              rw [ht2] at hp5
              obtain ⟨t3, rfl, _, _, hb5⟩ := hp5
              generalize t3.c = c3 at *
              obtain ⟨k3, b3, neg3, ma3, mn3, mc3, e3, s3', ka3, kn3, kc3, va3, vn3, vc3⟩ := c3
              unfold Cel.val
              have hgt : decide ((300 : Int) < (q : Int)) = false := decide_eq_false (by omega)
              have hb5b : Below w5a.heap.size w5a (w5a.alloc (.cells #[.int .i64 k3, .bool b3, .bool neg3, .slice ma3 mn3 mc3, .int .i64 e3, .string s3', .slice ka3 kn3 kc3, .slice va3 vn3 vc3] 28)) := (Below.refl _ _).alloc (Nat.le_refl _) _
              have hb45 := hb5.trans (hb5b.mono hb5.size)
              have HB5 := Lib.hid (HB4.out.trans (hb45.mono HB4.out.size))
              have q5 := (hb45.block _ (Array.getElem?_eq_some_iff.1 Q4.out).1).trans Q4.out
              have hb35 := hb34.trans (hb45.mono hb34.size)
              have KDE := Lib.hid (fun W (h : Below w2.heap.size w2 W) => KDP.out _ hb35)
              have x0 : (w5a.alloc (.cells #[.int .i64 k3, .bool b3, .bool neg3, .slice ma3 mn3 mc3, .int .i64 e3, .string s3', .slice ka3 kn3 kc3, .slice va3 vn3 vc3] 28)).cell? ⟨w3.heap.size, 0, none⟩ = some (.int .i64 xk) := (box_cellsJ q5 0 _ rfl).1
              have x1 : (w5a.alloc (.cells #[.int .i64 k3, .bool b3, .bool neg3, .slice ma3 mn3 mc3, .int .i64 e3, .string s3', .slice ka3 kn3 kc3, .slice va3 vn3 vc3] 28)).cell? ⟨w3.heap.size, 1, none⟩ = some (.bool xb) := (box_cellsJ q5 1 _ rfl).1
              have x2 : (w5a.alloc (.cells #[.int .i64 k3, .bool b3, .bool neg3, .slice ma3 mn3 mc3, .int .i64 e3, .string s3', .slice ka3 kn3 kc3, .slice va3 vn3 vc3] 28)).cell? ⟨w3.heap.size, 2, none⟩ = some (.bool xneg) := (box_cellsJ q5 2 _ rfl).1
              have x3 : (w5a.alloc (.cells #[.int .i64 k3, .bool b3, .bool neg3, .slice ma3 mn3 mc3, .int .i64 e3, .string s3', .slice ka3 kn3 kc3, .slice va3 vn3 vc3] 28)).cell? ⟨w3.heap.size, 3, none⟩ = some (.slice xma xmn xmc) := (box_cellsJ q5 3 _ rfl).1
              have x4 : (w5a.alloc (.cells #[.int .i64 k3, .bool b3, .bool neg3, .slice ma3 mn3 mc3, .int .i64 e3, .string s3', .slice ka3 kn3 kc3, .slice va3 vn3 vc3] 28)).cell? ⟨w3.heap.size, 4, none⟩ = some (.int .i64 xe) := (box_cellsJ q5 4 _ rfl).1
              have x5 : (w5a.alloc (.cells #[.int .i64 k3, .bool b3, .bool neg3, .slice ma3 mn3 mc3, .int .i64 e3, .string s3', .slice ka3 kn3 kc3, .slice va3 vn3 vc3] 28)).cell? ⟨w3.heap.size, 5, none⟩ = some (.string xs) := (box_cellsJ q5 5 _ rfl).1
              have x6 : (w5a.alloc (.cells #[.int .i64 k3, .bool b3, .bool neg3, .slice ma3 mn3 mc3, .int .i64 e3, .string s3', .slice ka3 kn3 kc3, .slice va3 vn3 vc3] 28)).cell? ⟨w3.heap.size, 6, none⟩ = some (.slice xka xkn xkc) := (box_cellsJ q5 6 _ rfl).1
              have x7 : (w5a.alloc (.cells #[.int .i64 k3, .bool b3, .bool neg3, .slice ma3 mn3 mc3, .int .i64 e3, .string s3', .slice ka3 kn3 kc3, .slice va3 vn3 vc3] 28)).cell? ⟨w3.heap.size, 7, none⟩ = some (.slice xva xvn xvc) := (box_cellsJ q5 7 _ rfl).1
              clear q5 hb35
              clear hb5 hb5b hb45 KD2
              go_wp2_with fail
              refine (KDE.out _ HB5.out).mono ?_
              rintro r w6 ⟨rfl, hb6⟩
              have HB6 := Lib.hid (HB5.out.trans (hb6.mono HB5.out.size))
              clear hb6
              go_wp2_with fail
              refine (AW.out _ (by exact HB6.out)).mono ?_
              rintro r w7 ⟨rfl, hb7⟩
              have HB7 := Lib.hid hb7
              clear hb7
              go_wp2
              go_ret
              exact BoolBelow.mk rfl HB7.out
            · have ht2 := HN.out.2 (by omega)
              rw [ht2] at hp5
              obtain ⟨rfl, hb5⟩ := hp5
              have hgt : decide ((300 : Int) < (q : Int)) = true := decide_eq_true (by omega)
              have hb5b : Below w5a.heap.size w5a (w5a.alloc (.cells #[.int .i64 0, .bool false, .bool false, .slice none 0 0, .int .i64 0, .string ⟨#[]⟩, .slice none 0 0, .slice none 0 0] 28)) := (Below.refl _ _).alloc (Nat.le_refl _) _
              have hb45 := hb5.trans (hb5b.mono hb5.size)
              have HB5 := Lib.hid (HB4.out.trans (hb45.mono HB4.out.size))
              have q5 := (hb45.block _ (Array.getElem?_eq_some_iff.1 Q4.out).1).trans Q4.out
              have hb35 := hb34.trans (hb45.mono hb34.size)
              have KDE := Lib.hid (fun W (h : Below w2.heap.size w2 W) => KDP.out _ hb35)
              have x0 : (w5a.alloc (.cells #[.int .i64 0, .bool false, .bool false, .slice none 0 0, .int .i64 0, .string ⟨#[]⟩, .slice none 0 0, .slice none 0 0] 28)).cell? ⟨w3.heap.size, 0, none⟩ = some (.int .i64 xk) := (box_cellsJ q5 0 _ rfl).1
              have x1 : (w5a.alloc (.cells #[.int .i64 0, .bool false, .bool false, .slice none 0 0, .int .i64 0, .string ⟨#[]⟩, .slice none 0 0, .slice none 0 0] 28)).cell? ⟨w3.heap.size, 1, none⟩ = some (.bool xb) := (box_cellsJ q5 1 _ rfl).1
              have x2 : (w5a.alloc (.cells #[.int .i64 0, .bool false, .bool false, .slice none 0 0, .int .i64 0, .string ⟨#[]⟩, .slice none 0 0, .slice none 0 0] 28)).cell? ⟨w3.heap.size, 2, none⟩ = some (.bool xneg) := (box_cellsJ q5 2 _ rfl).1
              have x3 : (w5a.alloc (.cells #[.int .i64 0, .bool false, .bool false, .slice none 0 0, .int .i64 0, .string ⟨#[]⟩, .slice none 0 0, .slice none 0 0] 28)).cell? ⟨w3.heap.size, 3, none⟩ = some (.slice xma xmn xmc) := (box_cellsJ q5 3 _ rfl).1
              have x4 : (w5a.alloc (.cells #[.int .i64 0, .bool false, .bool false, .slice none 0 0, .int .i64 0, .string ⟨#[]⟩, .slice none 0 0, .slice none 0 0] 28)).cell? ⟨w3.heap.size, 4, none⟩ = some (.int .i64 xe) := (box_cellsJ q5 4 _ rfl).1
              have x5 : (w5a.alloc (.cells #[.int .i64 0, .bool false, .bool false, .slice none 0 0, .int .i64 0, .string ⟨#[]⟩, .slice none 0 0, .slice none 0 0] 28)).cell? ⟨w3.heap.size, 5, none⟩ = some (.string xs) := (box_cellsJ q5 5 _ rfl).1
              have x6 : (w5a.alloc (.cells #[.int .i64 0, .bool false, .bool false, .slice none 0 0, .int .i64 0, .string ⟨#[]⟩, .slice none 0 0, .slice none 0 0] 28)).cell? ⟨w3.heap.size, 6, none⟩ = some (.slice xka xkn xkc) := (box_cellsJ q5 6 _ rfl).1
              have x7 : (w5a.alloc (.cells #[.int .i64 0, .bool false, .bool false, .slice none 0 0, .int .i64 0, .string ⟨#[]⟩, .slice none 0 0, .slice none 0 0] 28)).cell? ⟨w3.heap.size, 7, none⟩ = some (.slice xva xvn xvc) := (box_cellsJ q5 7 _ rfl).1
              clear q5 hb35
              clear hb5 hb5b hb45 KD2
              go_wp2_with fail
              refine (KDE.out _ HB5.out).mono ?_
              rintro r w6 ⟨rfl, hb6⟩
              have HB6 := Lib.hid (HB5.out.trans (hb6.mono HB5.out.size))
              clear hb6
              go_wp2_with fail
              refine (AW.out _ (by exact HB6.out)).mono ?_
              rintro r w7 ⟨rfl, hb7⟩
              have HB7 := Lib.hid hb7
              clear hb7
              go_wp2
              go_ret
              exact BoolBelow.mk rfl HB7.out
          · rw [if_neg hd64] at hp3
            obtain ⟨rfl, hb3⟩ := hp3
            have hge : decide ((64 : Int) ≤ (j : Int)) = true := decide_eq_true (by omega)
            obtain ⟨w4, hw4⟩ : ∃ x, w3.alloc (.cells #[.int .i64 0, .bool false, .bool false, .slice none 0 0, .int .i64 0, .string ⟨#[]⟩, .slice none 0 0, .slice none 0 0] 28) = x := ⟨_, rfl⟩
            have hb34 : Below w3.heap.size w3 w4 := by rw [← hw4]; exact (Below.refl _ _).alloc (Nat.le_refl _) _
            have HB4 := Lib.hid (HBQ.out.trans ((hb3.trans (hb34.mono hb3.size)).mono HBQ.out.size))
            have HW4 := Lib.hid hw4
            clear hb3 KD1 hw4
            go_wp2_with fail
            rw [HW4.out]
            go_wp2_with fail
            rw [HE2.out]
            refine (KD2.out _ HB4.out).mono ?_
            intro r w5a hp5
            by_cases hm3 : q ≤ 300
            · obtain ⟨t2, ht2⟩ := HN.out.1 hm3
              rw [ht2] at hp5
              obtain ⟨t3, rfl, _, _, hb5⟩ := hp5
              generalize t3.c = c3 at *
              obtain ⟨k3, b3, neg3, ma3, mn3, mc3, e3, s3', ka3, kn3, kc3, va3, vn3, vc3⟩ := c3
              unfold Cel.val
              have hgt : decide ((300 : Int) < (q : Int)) = false := decide_eq_false (by omega)
              have hb5b : Below w5a.heap.size w5a (w5a.alloc (.cells #[.int .i64 k3, .bool b3, .bool neg3, .slice ma3 mn3 mc3, .int .i64 e3, .string s3', .slice ka3 kn3 kc3, .slice va3 vn3 vc3] 28)) := (Below.refl _ _).alloc (Nat.le_refl _) _
              have hb45 := hb5.trans (hb5b.mono hb5.size)
              have HB5 := Lib.hid (HB4.out.trans (hb45.mono HB4.out.size))
              clear hb5 hb5b hb45 KD2
              go_wp2_with fail
              refine (AW.out _ (by exact HB5.out)).mono ?_
              rintro r w7 ⟨rfl, hb7⟩
              have HB7 := Lib.hid hb7
              clear hb7
              go_wp2
              go_ret
              exact BoolBelow.mk rfl HB7.out
            · have ht2 := HN.out.2 (by omega)
              rw [ht2] at hp5
              obtain ⟨rfl, hb5⟩ := hp5
              have hgt : decide ((300 : Int) < (q : Int)) = true := decide_eq_true (by omega)
              have hb5b : Below w5a.heap.size w5a (w5a.alloc (.cells #[.int .i64 0, .bool false, .bool false, .slice none 0 0, .int .i64 0, .string ⟨#[]⟩, .slice none 0 0, .slice none 0 0] 28)) := (Below.refl _ _).alloc (Nat.le_refl _) _
              have hb45 := hb5.trans (hb5b.mono hb5.size)
              have HB5 := Lib.hid (HB4.out.trans (hb45.mono HB4.out.size))
              clear hb5 hb5b hb45 KD2
              go_wp2_with fail
              refine (AW.out _ (by exact HB5.out)).mono ?_
              rintro r w7 ⟨rfl, hb7⟩
              have HB7 := Lib.hid hb7
              clear hb7
              go_wp2
              go_ret
              exact BoolBelow.mk rfl HB7.out
end Go.Proofs.YtgolidabjcmofaaGreatDoor
