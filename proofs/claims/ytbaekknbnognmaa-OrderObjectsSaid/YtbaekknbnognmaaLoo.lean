/- The walk of the law OrderObjects. -/
import Derived.Test.YtbaekknbnognmaaG4
import Derived.Test.YtbaekknbnognmaaPlv
import Derived.Deep.DeepCutAuto
namespace Go.Proofs.Ytbaekknbnognmaa
open Go.RowKit
set_option linter.unusedVariables false
set_option linter.unusedSimpArgs false

/-- What holds from round to round of the first loop: so many values are laid. -/
def OT (l : List ByteArray) (n B : Nat) (w : World) (v i : Value) (wr : World) : Prop :=
  ∃ k : Nat, k ≤ n ∧ i = .int .i64 (k : Int) ∧ wr.ownsRow B 31 8 v k (flat ((l.map textC).take k)) ∧ Below B w wr
theorem OT.step {l : List ByteArray} {n B k : Nat} {w wr w' : World} {v v' : Value} {o : Obj} (hn : l.length = n) (hlt : k < n) (ho : wr.ownsRow B 31 8 v k (flat ((l.map textC).take k))) (hb : Below B w wr) (hB : w.heap.size = B)
    (h1 : w'.ownsRow B 31 8 v' (k + 1) (flat ((l.map textC).take k) ++ (textC (l.getD k ByteArray.empty)).cells)) (h2 : (wr.alloc o).grownBy w' v.ownBlock) : OT l n B w v' (.int .i64 ((k : Int) + 1)) w' := by
  refine ⟨k + 1, by omega, by congr 1, ?_, ?_⟩
  · rw [List.take_succ_eq_append_getElem (by rw [List.length_map]; omega), flat_app, flat_one]
    have : (l.map textC)[k]'(by rw [List.length_map]; omega) = textC (l.getD k ByteArray.empty) := by simp [List.getD, show k < l.length by omega]
    rw [this]; exact h1
  · exact (hb.alloc (by have := hb.size; omega) o).grown h2 (by have := hb.size; simp; omega) (fun g hg => (ho.lt g hg).1)

/-- Where the rest of a list begins. -/
theorem rest_of {w : World} {size n cap k q : Nat} {o : Option Addr} {vs : List Value} (h : RdV w o vs) (hq : q = k * size) (hl : vs.length = n * size) (hk : k ≤ n) (hc : n ≤ cap) (h0 : o = none → cap = 0) :
    ∃ ad, (if cap = k then o else Option.map (fun x => x.add q) o) = ad ∧ RdV w ad (vs.drop (k * size)) ∧ (ad = none → cap - k = 0) := by
  refine ⟨_, rfl, ?_, ?_⟩
  · by_cases hd : vs.drop (k * size) = []
    · rw [hd]; exact RdV.nil _ _
    · have hp : 0 < vs.length := by
        rcases Nat.eq_zero_or_pos vs.length with h | h
        · rw [List.eq_nil_of_length_eq_zero h] at hd; simp at hd
        · exact h
      obtain ⟨b, o2, rfl, _⟩ := h.shape hp
      by_cases hck : cap = k
      · exfalso; apply hd
        rw [List.drop_of_length_le]
        rw [hl, show k = n by omega]; exact Nat.le_refl _
      · rw [if_neg hck, hq]
        have hadd : (⟨b, o2, none⟩ : Addr).add (k * size) = ⟨b, o2 + k * size, none⟩ := by unfold Addr.add; split <;> simp_all
        rw [Option.map_some, hadd]
        exact h.drop _
  · cases o with
    | none => intro _; have := h0 rfl; omega
    | some a => split <;> intro h <;> cases h
/-- The names, turned about. -/
def M1 (l : List ByteArray) (n k : Nat) (w : World) (v : Value) (W : World) : Prop :=
  ∃ ad cap, v = .slice ad n cap ∧ n ≤ cap ∧ RdV W ad (sv (l.drop k ++ l.take k)) ∧ Below w.heap.size w W
theorem M1.of {l : List ByteArray} {n k : Nat} {w W : World} {v : Value} (hk : k ≤ n) (h : W.ownsRow w.heap.size 9 1 v (0 + (n - k) + k) ([] ++ (sv l).drop (k * 1) ++ (sv l).take k)) (hb : Below w.heap.size w W) : M1 l n k w v W := by
  rw [List.nil_append, show 0 + (n - k) + k = n by omega, Nat.mul_one, show (sv l).drop k ++ (sv l).take k = sv (l.drop k ++ l.take k) by simp [sv, List.map_drop, List.map_take]] at h
  obtain ⟨ad, cap, h1, h2, h3, _⟩ := own_viewN h
  exact ⟨ad, cap, h1, h2, h3, hb⟩
/-- The values, turned about. -/
def M2 (l : List ByteArray) (n k : Nat) (w : World) (v : Value) (W : World) : Prop :=
  ∃ ad cap, v = .slice ad n cap ∧ n ≤ cap ∧ RdV W ad (flat ((l.drop k ++ l.take k).map textC)) ∧ Below w.heap.size w W
theorem M2.of {l : List ByteArray} {n k : Nat} {w W : World} {v : Value} (hk : k ≤ n) (h : W.ownsRow w.heap.size 31 8 v (0 + (n - k) + k) ([] ++ (flat (l.map textC)).drop (k * 8) ++ (flat (l.map textC)).take (k * 8))) (hb : Below w.heap.size w W) : M2 l n k w v W := by
  rw [List.nil_append, show 0 + (n - k) + k = n by omega, ← flat_drop, ← flat_take, ← flat_app, ← List.map_drop, ← List.map_take, ← List.map_append] at h
  obtain ⟨ad, cap, h1, h2, h3, _⟩ := own_viewN h
  exact ⟨ad, cap, h1, h2, h3, hb⟩
set_option maxHeartbeats 4000000 in
set_option maxRecDepth 100000 in
theorem orderObjects_main (ad : Option Addr) (n cap : Nat) (l : List ByteArray) (by0 : Int) (w : World) (hn : l.length = n) (hcap : n ≤ cap) (hm : n ≤ maxLen) (hz : ∀ s ∈ l, s.size ≤ maxLen) (hr : RdV w ad (sv l)) (hby : -9223372036854775808 ≤ by0 ∧ by0 ≤ 9223372036854775807) (hf : fewB l = true) (h0 : ad = none → cap = 0) :
    Calls Try.prog 5 #[.slice ad n cap, .int .i64 by0] w (BoolBelow true w) := by
  obtain ⟨hl60, hz300⟩ := fewB_true hf
  have KF := Lib.hid (few_any ad n cap l w hn hcap hm hz hr)
  rw [hf] at KF
  have hn60 : n ≤ 60 := by omega
  have KP := Lib.hid (fun W => place_any by0 ((n : Int) + 1) W hby ⟨by omega, by omega⟩)
  have c1 := Int.emod_nonneg by0 (show ((n : Int) + 1) ≠ 0 by omega)
  have c2 := Int.emod_lt_of_pos by0 (show (0 : Int) < (n : Int) + 1 by omega)
  generalize by0 % ((n : Int) + 1) = r at *
  obtain ⟨k, rfl⟩ : ∃ k : Nat, r = k := ⟨r.toNat, by omega⟩
  have hk : k ≤ n := by omega
  have HN := Lib.hid hn; have HR := Lib.hid hr; have H0 := Lib.hid h0
  clear hn hr hz hz300 hf hm hl60 c1 c2 hby h0
  go_enter Try.func5, Try.ntmps5
  go_wp2_with fail
  refine KF.out.mono ?_
  rintro r w0 ⟨rfl, rfl⟩
  go_wp2_with fail
  refine (KP.out _).mono ?_
  rintro r w0 ⟨rfl, rfl⟩
  go_wp2_with fail
  have HST := Lib.hid (show OT l n w0.heap.size w0 (.slice none 0 0) (.int .i64 0) w0 from ⟨0, Nat.zero_le _, rfl, World.ownsRow_nil _ _ _ _, Below.refl _ _⟩)
  generalize hB : w0.heap.size = B at *
  have HB := Lib.hid hB; clear hB
  go_loopw [5, 9] (fun v i wr => OT l n B w0 v i wr) (fun _ i _ => n - (intOf i).toNat)
  case atStart => exact HST.out
  case round =>
    obtain ⟨i, hi, rfl, ho, hbl⟩ := hrel
    have HO := Lib.hid ho; have HBL := Lib.hid hbl
    clear ho hbl
    by_cases hlt : i < n
    · have h1 : (i : Int) < (n : Int) := by omega
      have h2 : (0 : Int) ≤ (i : Int) := by omega
      obtain ⟨b, o, rfl, _, cx⟩ := (HR.out.below HBL.out (fun a e hp => by have := HR.out.lt a e hp; have := HB.out; omega)) i (by rw [sv_len, HN.out]; exact hlt)
      rw [sv_get _ _ (by rw [HN.out]; exact hlt)] at cx
      have HSTEP := Lib.hid (fun v' w' o => OT.step (v' := v') (w' := w') (o := o) HN.out hlt HO.out HBL.out HB.out)
      generalize l.getD i ByteArray.empty = S at *
      have hBs := HBL.out.size
      go_wp2_with (at_builtin; refine wpl_appV Try.underlying23 info_tree rfl (by decide) (by decide) _ rfl _ _ rfl B u5 i (flat ((l.map textC).take i)) rfl (HO.out.alloc _) (some ⟨wr.heap.size, 0, none⟩) 1 1 (textC S).cells rfl rfl (lit_blk wr (textC S).cells _ _ rfl).all (by have h := flat_one' [textC S]; rw [flat_one] at h; exact h) (fun h => by cases h) (by omega) (by have := HB.out; simp; omega) ?_)
      intro v' w2 h2 hg2
      have HR2 := Lib.hid (HSTEP.out v' w2 _ h2 hg2)
      clear h2 hg2 hBs
      go_wp2
      go_roundw
      case rel => exact HR2.out
      case measure => simp [intOf]; omega
    · obtain rfl : i = n := by omega
      have h1 : ¬ (i : Int) < (i : Int) := by omega
      rw [List.take_of_length_le (by rw [List.length_map, HN.out]; exact Nat.le_refl _)] at HO
      obtain ⟨adv, capv, rfl, hcv, hrv, _, hav, h0v⟩ := own_viewN HO.out
      have HRV := Lib.hid hrv; have HAV := Lib.hid hav; have H0V := Lib.hid h0v
      have HRW := Lib.hid (HR.out.below HBL.out (fun a e hp => by have := HR.out.lt a e hp; have := HB.out; omega))
      clear hrv hav h0v HO
      obtain ⟨ad1, hs1, hr1, hn1⟩ := rest_of (size := 1) (o := ad) (n := i) (cap := cap) (k := k) (q := k) HRW.out (by omega) (by rw [sv_len, HN.out]; omega) hk hcap H0.out
      obtain ⟨ad2, hs2, hr2, hn2⟩ := rest_of (size := 8) (o := adv) (n := i) (cap := capv) (k := k) (q := k * 8) HRV.out rfl (by rw [flat_len, List.length_map, HN.out]) hk hcv (fun h => (H0V.out h).1)
      have k1 : (k : Int) ≤ (i : Int) := by omega
      have k2 : (0 : Int) ≤ (k : Int) := by omega
      have k3 : (k : Int) ≤ (cap : Int) := by omega
      have k4 : (k : Int) ≤ (capv : Int) := by omega
      have k5 : (i : Int) ≤ (cap : Int) := by omega
      have k6 : (i : Int) ≤ (capv : Int) := by omega
      have HS1 := Lib.hid hs1; have HR1 := Lib.hid hr1; have HN1 := Lib.hid hn1
      have HS2 := Lib.hid hs2; have HR2 := Lib.hid hr2; have HN2 := Lib.hid hn2
      clear hs1 hr1 hn1 hs2 hr2 hn2
      have L1 := Lib.hid (show ((sv l).drop (k * 1)).length = (i - k) * 1 by rw [List.length_drop, sv_len, HN.out]; omega)
      have L2 := Lib.hid (show ((sv l).take k).length = k * 1 by rw [List.length_take, sv_len, HN.out]; omega)
      have O1 := Lib.hid (show ∀ u ∈ (sv l).drop (k * 1), u.oneCell' = true from fun u hu => sv_one l u (List.mem_of_mem_drop hu))
      have O2 := Lib.hid (show ∀ u ∈ (sv l).take k, u.oneCell' = true from fun u hu => sv_one l u (List.mem_of_mem_take hu))
      have HBZ := Lib.hid (show w0.heap.size ≤ wr.heap.size from HBL.out.size)
      go_upto_region 10 with fail
      go_cut [7] (fun v W => M1 l i k wr v W)
      case first =>
        go_region_law (first | (refine step_appV Try.underlying22 info_string rfl (by decide) (by decide) _ rfl (.tmp 42) (.tmp 45) rfl wr.heap.size (.slice none 0 0) 0 [] (by simp [Act.eval, Act.put]) (World.ownsRow_nil _ _ _ _) ad1 (i - k) (cap - k) ((sv l).drop (k * 1)) (by simp [Act.eval, Act.put]; exact HS1.out) L1.out HR1.out O1.out HN1.out (by omega) (Nat.le_refl _) ?_; intro v1 w1 h1 g1; have G1 := Lib.hid h1; have D1 := Lib.hid (show Below wr.heap.size wr.drew w1 from (Below.refl _ _).grown g1 (Nat.le_refl _) (fun g hg => by simp [Value.ownBlock] at hg)); clear h1 g1) | (refine step_appV Try.underlying22 info_string rfl (by decide) (by decide) _ rfl (.tmp 46) (.tmp 49) rfl wr.heap.size v1 (0 + (i - k)) ([] ++ (sv l).drop (k * 1)) (by simp [Act.eval, Act.put]) G1.out ad k cap ((sv l).take k) (by simp [Act.eval, Act.put]) L2.out ((show RdV wr.drew ad ((sv l).take k) from HRW.out.take _).below (B := wr.heap.size) D1.out (fun a e hp => HRW.out.lt a e (by rw [List.length_take] at hp; omega))) O2.out H0.out (by omega) D1.out.size ?_; intro v2 w2 h2 g2; have G2 := Lib.hid h2; have D2 := Lib.hid (((Below.refl wr.heap.size wr).drew).trans (D1.out.grown g2 D1.out.size (fun g hg => (G1.out.lt g hg).1))); clear h2 g2 D1 G1))
        have HM := Lib.hid (M1.of hk G2.out D2.out)
        rw [HS1.out]
        go_wp2_with fail
        go_meet
        exact HM.out
      case rest =>
        obtain ⟨adm, capm, rfl, hcm, hrm, hbm⟩ := hcut
        have HRM := Lib.hid hrm
        have HBM := Lib.hid hbm
        have HRV2 := Lib.hid (HRV.out.on hbm)
        have HR2' := Lib.hid (HR2.out.on hbm)
        have HRW2 := Lib.hid (HRW.out.on hbm)
        clear hrm hbm HR2 HR1 HN1 L1 L2 O1 O2
        have L3 := Lib.hid (show ((flat (l.map textC)).drop (k * 8)).length = (i - k) * 8 by rw [List.length_drop, flat_len, List.length_map, HN.out]; omega)
        have L4 := Lib.hid (show ((flat (l.map textC)).take (k * 8)).length = k * 8 by rw [List.length_take, flat_len, List.length_map, HN.out]; omega)
        have O3 := Lib.hid (show ∀ u ∈ (flat (l.map textC)).drop (k * 8), u.oneCell' = true from fun u hu => flat_one' _ u (List.mem_of_mem_drop hu))
        have O4 := Lib.hid (show ∀ u ∈ (flat (l.map textC)).take (k * 8), u.oneCell' = true from fun u hu => flat_one' _ u (List.mem_of_mem_take hu))
        go_upto_region 11 with fail
        go_cut [6] (fun v W => M2 l i k wc v W)
        case first =>
          go_region_law (first | (refine step_appV Try.underlying23 info_tree rfl (by decide) (by decide) _ rfl (.tmp 51) (.tmp 54) rfl wc.heap.size (.slice none 0 0) 0 [] (by simp [Act.eval, Act.put]) (World.ownsRow_nil _ _ _ _) ad2 (i - k) (capv - k) ((flat (l.map textC)).drop (k * 8)) (by simp [Act.eval, Act.put]; exact HS2.out) L3.out HR2'.out O3.out HN2.out (by omega) (Nat.le_refl _) ?_; intro v1t w1t h1 g1; have G1t := Lib.hid h1; have D1t := Lib.hid (show Below wc.heap.size wc.drew w1t from (Below.refl _ _).grown g1 (Nat.le_refl _) (fun g hg => by simp [Value.ownBlock] at hg)); clear h1 g1) | (refine step_appV Try.underlying23 info_tree rfl (by decide) (by decide) _ rfl (.tmp 55) (.tmp 58) rfl wc.heap.size v1t (0 + (i - k)) ([] ++ (flat (l.map textC)).drop (k * 8)) (by simp [Act.eval, Act.put]) G1t.out adv k capv ((flat (l.map textC)).take (k * 8)) (by simp [Act.eval, Act.put]) L4.out ((show RdV wc.drew adv ((flat (l.map textC)).take (k * 8)) from HRV2.out.take _).below (B := wc.heap.size) D1t.out (fun a e hp => HRV2.out.lt a e (by rw [List.length_take] at hp; omega))) O4.out (fun h => (H0V.out h).1) (by omega) D1t.out.size ?_; intro v2t w2t h2 g2; have G2t := Lib.hid h2; have D2t := Lib.hid (((Below.refl wc.heap.size wc).drew).trans (D1t.out.grown g2 D1t.out.size (fun g hg => (G1t.out.lt g hg).1))); clear h2 g2 D1t G1t))
          have HM := Lib.hid (M2.of hk G2t.out D2t.out)
          rw [HS2.out]
          go_wp2_with fail
          go_meet
          exact HM.out
        case rest =>
          obtain ⟨adn, capn, rfl, hcn, hrn, hbn⟩ := hcut
          have HRN := Lib.hid hrn
          have HBN := Lib.hid hbn
          have HMp := turn_perm l k
          generalize hm : l.drop k ++ l.take k = m at *
          have HRM2 := Lib.hid (HRM.out.on hbn)
          have KO1 := Lib.hid (object_core ad i cap i l adv i capv (l.map textC) wc hcap (by omega) HN.out (HRW2.out.on hbn) (by rw [List.length_map]; exact HN.out) hcv (by omega) (HRV2.out.on hbn) (.inl ⟨Nat.le_refl _, rfl⟩))
          have KT1 := Lib.hid (fun W (h : Below wc.heap.size wc W) => twice_any ad i cap l W HN.out hcap (by omega) ((HRW2.out.on hbn).on h))
          have HNm : m.length = i := by rw [HMp.length_eq]; exact HN.out
          have KO2 := Lib.hid (fun W (h : Below wc.heap.size wc W) => object_core adm i capm i m adn i capn (m.map textC) W hcm (by omega) HNm (HRM2.out.on h) (by rw [List.length_map]; exact HNm) hcn (by omega) (hrn.on h) (.inl ⟨Nat.le_refl _, rfl⟩))
          have HNM := Lib.hid HNm
          have HPM := Lib.hid HMp
          clear hrn hbn hm HNm HMp
          go_wp2_with fail
          refine KO1.out.mono ?_
          rintro r w1 ⟨lo, f, hT, hY, hNo⟩
          have HD := Lib.hid (twc_nodup HN.out hT)
          have HT := Lib.hid hT
          clear hT
          cases f
          · obtain ⟨g1, g2, rfl, hg1, hg2, hk1, hk2, hb1⟩ := hY rfl
            have B1 := Lib.hid hb1
            have HK1 := Lib.hid hk1; have HK2 := Lib.hid hk2
            clear hY hNo hb1 hk1 hk2 hg1 hg2
            have HND := Lib.hid (HD.out.1 rfl)
            have V1 := Lib.hid (B1.out.alloc B1.out.size (.cells (objC g1 g2 i).cells.toArray 31))
            have HBA := Lib.hid (lit_blk w1 (objC g1 g2 i).cells 31 _ rfl)
            have HK1' := Lib.hid (HK1.out.below ((Below.refl _ _).alloc (Nat.le_refl _) (.cells (objC g1 g2 i).cells.toArray 31)) HK1.out.lt)
            have HK2' := Lib.hid (HK2.out.below ((Below.refl _ _).alloc (Nat.le_refl _) (.cells (objC g1 g2 i).cells.toArray 31)) HK2.out.lt)
            have KO3 := Lib.hid (KO2.out _ V1.out)
            clear HK1 HK2 KO1 KO2
            unfold objC Cel.val
            go_wp2_with fail
            refine KO3.out.mono ?_
            rintro r w2 ⟨lo2, f2, hT2, hY2, hNo2⟩
            obtain rfl : f2 = false := (twc_nodup HNM.out hT2).2 (HPM.out.nodup_iff.2 HND.out)
            obtain ⟨g1', g2', rfl, _, _, hl1, hl2, hb2⟩ := hY2 rfl
            clear hY2 hNo2 hT2 KO3
            rw [pickB_turn HN.out HPM.out] at hl1
            rw [pick_text _ _ (fun p hp => by have := srt_mem.1 hp; have := HNM.out; omega), pickB_turn HN.out HPM.out] at hl2
            have HL1 := Lib.hid (hl1.below ((Below.refl _ _).alloc (Nat.le_refl _) (.cells (objC g1' g2' i).cells.toArray 31)) hl1.lt)
            have HL2 := Lib.hid (hl2.below ((Below.refl _ _).alloc (Nat.le_refl _) (.cells (objC g1' g2' i).cells.toArray 31)) hl2.lt)
            have HBB := Lib.hid (lit_blk w2 (objC g1' g2' i).cells 31 _ rfl)
            have V12 := Lib.hid (hb2.alloc hb2.size (.cells (objC g1' g2' i).cells.toArray 31))
            have V2 := Lib.hid (below_on V1.out V12.out)
            clear hl1 hl2 hb2
            have KT2 := Lib.hid (KT1.out _ V2.out)
            unfold objC Cel.val
            go_wp2_with fail
            refine KT2.out.mono ?_
            rintro r w3 ⟨lo3, f3, rfl, hT3, hb3⟩
            obtain ⟨rfl, rfl⟩ := twc_unique hT3 HT.out
            obtain rfl : lo3 = 0 := (hT3.1 rfl).1
            clear hT3
            have B3 := Lib.hid (below_on V2.out hb3)
            have V13 := V12.out.trans (hb3.mono V12.out.size)
            have HXA := Lib.hid (HBA.out.below V13 HBA.out.lt)
            have HXK := Lib.hid (HK1'.out.below V13 HK1'.out.lt)
            have HXV := HK2'.out.below V13 HK2'.out.lt
            rw [pick_text _ _ (fun p hp => by have := srt_mem.1 hp; have := HN.out; omega)] at HXV
            have HXV := Lib.hid HXV
            have HXB := Lib.hid (HBB.out.below hb3 HBB.out.lt)
            have HXL := Lib.hid (HL1.out.below hb3 HL1.out.lt)
            have HXM := Lib.hid (HL2.out.below hb3 HL2.out.lt)
            have HRISE := Lib.hid (fun q hq => pickB_rise HN.out HT.out q hq)
            have HLEN := Lib.hid (show (pickB l (srt Op.bytesLess (keyB l) 0 i)).length = i by rw [pickB_len, srt_len])
            have KSM := Lib.hid (fun W (h : Below w3.heap.size w3 W) => same_objs g1 g2 g1' g2' i (pickB l (srt Op.bytesLess (keyB l) 0 i)) (pickB l (srt Op.bytesLess (keyB l) 0 i)) W HLEN.out (by omega) rfl (HXK.out.below h HXK.out.lt) (HXV.out.below h HXV.out.lt) (HXL.out.below h HXL.out.lt) (HXM.out.below h HXM.out.lt))
            generalize pickB l (srt Op.bytesLess (keyB l) 0 i) = P at *
            clear V13 hb3 HBA HK1' HK2' HBB HL1 HL2 KT2 KT1 V12
            have a4 := HXA.out.cell 6; have a5 := HXA.out.cell 7
            have ax0 := HXA.out.cell 0; have ax1 := HXA.out.cell 1; have ax2 := HXA.out.cell 2; have ax3 := HXA.out.cell 3; have ax4 := HXA.out.cell 4; have ax5 := HXA.out.cell 5
            have bx0 := HXB.out.cell 0; have bx1 := HXB.out.cell 1; have bx2 := HXB.out.cell 2; have bx3 := HXB.out.cell 3; have bx4 := HXB.out.cell 4; have bx5 := HXB.out.cell 5; have bx6 := HXB.out.cell 6; have bx7 := HXB.out.cell 7
            simp only [objC, Cel.cells, List.getElem?_cons_zero, List.getElem?_cons_succ] at a4 a5 ax0 ax1 ax2 ax3 ax4 ax5 bx0 bx1 bx2 bx3 bx4 bx5 bx6 bx7
            unfold objC Cel.val at KSM
            generalize hA : w1.heap.size = A at *
            generalize hBb : w2.heap.size = Bb at *
            clear hA hBb HXA HXB
            go_wp2_with fail
            go_loopw [18] (fun q wr => ∃ j d : Nat, j ≤ i ∧ q = .int .i64 (j : Int) ∧ wr = w3.drewN d) (fun q _ => i - (intOf q).toNat)
            case atStart => exact ⟨0, 0, Nat.zero_le _, rfl, rfl⟩
            case round =>
              obtain ⟨q, d, hq, rfl, hd⟩ := hrel
              by_cases hqi : q < i
              · have q1 : (q : Int) < (i : Int) := by omega
                have q2 : (0 : Int) ≤ (q : Int) := by omega
                have q3 : decide ((i : Int) ≤ (q : Int)) = false := by rw [decide_eq_false_iff_not]; omega
                have q3n : decide (i ≤ q) = false := by rw [decide_eq_false_iff_not]; omega
                have ck := (HXK.out.cell q).trans (sv_get _ _ (by rw [HLEN.out]; exact hqi))
                obtain ⟨p0, p1, p2, p3, p4, p5, p6, p7⟩ := flat_at HXV.out.all q (by rw [List.length_map, HLEN.out]; exact hqi) (c := textC (P.getD q ByteArray.empty)) (by simp [List.getD, HLEN.out, hqi])
                simp only [textC, Nat.zero_add] at p0 p1 p2 p3 p4 p5 p6 p7
                clear p0 p1 p2 p3 p4 p6 p7
                subst hd
                by_cases hq0 : q = 0
                · have z1 : decide ((0 : Int) < (q : Int)) = false := by rw [decide_eq_false_iff_not]; omega
                  have z1n : decide (0 < q) = false := by rw [decide_eq_false_iff_not]; omega
                  generalize P.getD q ByteArray.empty = kq at *
                  have ne : (kq.toList != kq.toList) = false := by simp
                  clear hq0
                  go_wp2
                  go_quiet (fail)
                  go_wp2
                  go_roundw
                  case rel => exact ⟨q + 1, _, by omega, by go_num, rfl⟩
                  case measure => simp [intOf]; omega
                · have z1 : decide ((0 : Int) < (q : Int)) = true := by rw [decide_eq_true_eq]; omega
                  have z1n : decide (0 < q) = true := by rw [decide_eq_true_eq]; omega
                  obtain ⟨j, hj⟩ : ∃ j, q = j + 1 := ⟨q - 1, by omega⟩
                  have cj := (HXK.out.cell j).trans (sv_get _ _ (by rw [HLEN.out]; omega))
                  have hrise := HRISE.out j (by omega)
                  rw [← hj] at hrise
                  have hj1 : ((q : Int) - 1).toNat = j := by omega
                  have hj2 : (0 : Int) ≤ (q : Int) - 1 := by omega
                  have hj3 : (q : Int) - 1 < (i : Int) := by omega
                  have hj4 : (1 : Int) ≤ (q : Int) := by omega
                  generalize P.getD q ByteArray.empty = kq at *
                  generalize P.getD j ByteArray.empty = kj at *
                  have ne : (kq.toList != kq.toList) = false := by simp
                  have r1 := sto_bytes.asym hrise
                  have r2 : (kq.toList == kj.toList) = false := by
                    rw [beq_eq_false_iff_ne]; intro e
                    rw [e, bytesLess_irr] at hrise; cases hrise
                  have ww : IntKind.i64.wrap ((q : Int) - 1) = (q : Int) - 1 := IntWalk.i64_in _ (by omega)
                  clear hq0 hj hrise
                  go_wp2
                  go_quiet (fail)
                  go_wp2
                  go_roundw
                  case rel => exact ⟨q + 1, _, by omega, by go_num, rfl⟩
                  case measure => simp [intOf]; omega
              · obtain rfl : q = i := by omega
                have q1 : ¬ (q : Int) < (q : Int) := by omega
                have qq : ((q : Int) == (q : Int)) = true := by simp
                have KS2 := Lib.hid (KSM.out _ (below_drewN (Below.refl _ _) d))
                have B4 := Lib.hid (below_drewN B3.out d)
                subst hd
                go_wp2_with fail
                refine KS2.out.mono ?_
                rintro r w4 ⟨rfl, hb4⟩
                have B5 := Lib.hid (below_on B4.out hb4)
                clear hb4
                go_wp2_with fail
                refine (awake_any _).mono ?_
                rintro r w5 ⟨rfl, hb5⟩
                have B6 := Lib.hid (HBL.out.trans ((below_on HBM.out (below_on HBN.out (below_on B5.out hb5))).mono (by have := HBL.out.size; have := HB.out; omega)))
                clear hb5
                go_wp2
                go_ret
                rw [← HB.out] at B6
                exact BoolBelow.mk rfl B6.out
          · obtain ⟨rfl, hb1⟩ := hNo rfl
            have B1 := Lib.hid hb1
            clear hY hNo hb1
            have V1 := Lib.hid (B1.out.alloc B1.out.size (.cells zeroC.cells.toArray 31))
            have HBA := Lib.hid (lit_blk w1 zeroC.cells 31 _ rfl)
            have KO3 := Lib.hid (KO2.out _ V1.out)
            clear KO1 KO2
            unfold zeroC Cel.val
            go_wp2_with fail
            refine KO3.out.mono ?_
            rintro r w2 ⟨lo2, f2, hT2, hY2, hNo2⟩
            obtain rfl : f2 = true := by
              cases f2
              · exfalso
                have := HD.out.2 (HPM.out.nodup_iff.1 ((twc_nodup HNM.out hT2).1 rfl))
                cases this
              · rfl
            obtain ⟨rfl, hb2⟩ := hNo2 rfl
            clear hY2 hNo2 hT2 KO3
            have V12 := Lib.hid (hb2.alloc hb2.size (.cells zeroC.cells.toArray 31))
            have V2 := Lib.hid (below_on V1.out V12.out)
            clear hb2
            have KT2 := Lib.hid (KT1.out _ V2.out)
            unfold zeroC Cel.val
            go_wp2_with fail
            refine KT2.out.mono ?_
            rintro r w3 ⟨lo3, f3, rfl, hT3, hb3⟩
            obtain ⟨hlo, hf3⟩ := twc_unique hT3 HT.out
            subst hf3
            obtain rfl : lo = lo3 := hlo.symm
            clear hT3
            have B3 := Lib.hid (below_on V2.out hb3)
            have V13 := V12.out.trans (hb3.mono V12.out.size)
            have HXA := HBA.out.below V13 HBA.out.lt
            have a4 := HXA.cell 6
            simp only [zeroC, Cel.cells, List.getElem?_cons_zero, List.getElem?_cons_succ] at a4
            have ll : ((lo : Int) != (lo : Int)) = false := by simp
            generalize hA : w1.heap.size = A at *
            clear hA V13 hb3 HXA HBA KT2 KT1 V12
            go_wp2_with fail
            refine wp_loop_rounds 1 ?_
            rw [rounds_succ]
            go_wp2_with fail
            refine (awake_any _).mono ?_
            rintro r w5 ⟨rfl, hb5⟩
            have B6 := Lib.hid (HBL.out.trans ((below_on HBM.out (below_on HBN.out (below_on B3.out hb5))).mono (by have := HBL.out.size; have := HB.out; omega)))
            clear hb5
            go_wp2
            go_ret
            rw [← HB.out] at B6
            exact BoolBelow.mk rfl B6.out

set_option maxHeartbeats 4000000 in
set_option maxRecDepth 100000 in
theorem orderObjects_walk (ad : Option Addr) (n cap : Nat) (l : List ByteArray) (by0 : Int) (w : World) (hn : l.length = n) (hcap : n ≤ cap) (hm : n ≤ maxLen) (hz : ∀ s ∈ l, s.size ≤ maxLen) (hr : RdV w ad (sv l)) (h0 : ad = none → cap = 0) (hby : -9223372036854775808 ≤ by0 ∧ by0 ≤ 9223372036854775807) :
    Calls Try.prog 5 #[.slice ad n cap, .int .i64 by0] w (BoolBelow true w) := by
  cases hf : fewB l
  · have KF := Lib.hid (few_any ad n cap l w hn hcap hm hz hr)
    rw [hf] at KF
    have KA := Lib.hid (awake_any w)
    unfold maxLen at hm
    clear hn hr hz hf hby h0
    go_enter Try.func5, Try.ntmps5
    go_wp2_with fail
    refine KF.out.mono ?_
    rintro r w0 ⟨rfl, rfl⟩
    go_wp2_with fail
    refine KA.out.mono ?_
    rintro r w9 ⟨rfl, hb9⟩
    have B9 := Lib.hid hb9
    clear hb9
    go_wp2
    go_ret
    exact BoolBelow.mk rfl B9.out
  · exact orderObjects_main ad n cap l by0 w hn hcap hm hz hr hby hf h0
end Go.Proofs.Ytbaekknbnognmaa
