/- Walks: few, SameInts; package order's again and Twice. -/
import Derived.Test.YtndjdmgncjiggaaQOw6
namespace Go.Proofs.Ytndjdmgncjiggaa
open Go.RowKit
set_option linter.unusedVariables false
set_option linter.unusedSimpArgs false

/-- Not too many texts, none too long. -/
def fewB (l : List ByteArray) : Bool := (l.take 60).all (fun s => decide (s.size ≤ 300)) && decide (l.length ≤ 60)
theorem fewB_true {l : List ByteArray} (h : fewB l = true) : l.length ≤ 60 ∧ ∀ s ∈ l, s.size ≤ 300 := by
  simp only [fewB, Bool.and_eq_true, decide_eq_true_eq, List.all_eq_true] at h
  refine ⟨h.2, fun s hs => h.1 s ?_⟩
  rw [List.take_of_length_le h.2]; exact hs
theorem take_all_snoc (l : List ByteArray) (k : Nat) (hk : k < l.length) : (l.take (k + 1)).all (fun s => decide (s.size ≤ 300)) = ((l.take k).all (fun s => decide (s.size ≤ 300)) && decide ((l.getD k ByteArray.empty).size ≤ 300)) := by
  rw [List.take_succ_eq_append_getElem hk, List.all_append]
  simp [List.getD, hk]
theorem take_all_no (l : List ByteArray) (k : Nat) (hk : k < l.length) (h60 : k < 60) (h : ¬ (l.getD k ByteArray.empty).size ≤ 300) : fewB l = false := by
  have : (l.take 60).all (fun s => decide (s.size ≤ 300)) = false := by
    rw [Bool.eq_false_iff]
    intro ha
    rw [List.all_eq_true] at ha
    have hm : l.getD k ByteArray.empty ∈ l.take 60 := by
      rw [List.mem_take_iff_getElem]
      exact ⟨k, by omega, by simp [List.getD, hk]⟩
    have := ha _ hm
    simp at this; exact h this
  simp [fewB, this]
set_option maxHeartbeats 1000000 in
theorem few_any (ad : Option Addr) (n cap : Nat) (l : List ByteArray) (w : World) (hn : l.length = n) (hcap : n ≤ cap) (hm : n ≤ maxLen) (hz : ∀ s ∈ l, s.size ≤ maxLen) (hr : RdV w ad (sv l)) :
    Calls Try.prog 4 #[.slice ad n cap] w fun e w' => e = .returned (.bool (fewB l)) ∧ w = w' := by
  unfold maxLen at hm hz
  have HN := Lib.hid hn; have HR := Lib.hid hr; have HZ := Lib.hid hz
  clear hn hr hz
  go_enter Try.func4, Try.ntmps4
  go_wp2
  go_loop [3] (fun i => ∃ k : Nat, k ≤ n ∧ k ≤ 60 ∧ i = .int .i64 (k : Int) ∧ (l.take k).all (fun s => decide (s.size ≤ 300)) = true) (fun i => n - (intOf i).toNat)
  case atStart => exact ⟨0, Nat.zero_le _, by decide, rfl, by simp⟩
  case round =>
    obtain ⟨k, hk, hk6, rfl, ha⟩ := hrel
    have HA := Lib.hid ha; clear ha
    by_cases hlt : k < n
    · have h1 : (k : Int) < (n : Int) := by omega
      by_cases h6 : k < 60
      · have h61 : (k : Int) < 60 := by omega
        obtain ⟨b, o, rfl, _, hc⟩ := HR.out k (by rw [sv_len, HN.out]; exact hlt)
        rw [sv_get l k (by rw [HN.out]; exact hlt)] at hc
        have hzz := HZ.out (l.getD k ByteArray.empty) (by simp [List.getD, HN.out, hlt])
        have h2 : (0 : Int) ≤ (k : Int) := by omega
        have HT := Lib.hid (take_all_snoc l k (by rw [HN.out]; exact hlt))
        have HF := Lib.hid (take_all_no l k (by rw [HN.out]; exact hlt) h6)
        generalize l.getD k ByteArray.empty = s at *
        by_cases hs : s.size ≤ 300
        · have h3 : ¬ (300 : Int) < (s.size : Int) := by omega
          have HT2 := Lib.hid (show (l.take (k + 1)).all (fun s => decide (s.size ≤ 300)) = true by rw [HT.out, HA.out, decide_eq_true hs]; rfl)
          go_wp2
          go_round
          case rel => exact ⟨k + 1, by omega, by omega, by go_num, HT2.out⟩
          case measure => simp [intOf]; omega
        · have h3 : (300 : Int) < (s.size : Int) := by omega
          have HF2 := Lib.hid (HF.out hs)
          go_wp2
          go_ret
          exact ⟨by rw [HF2.out]; rfl, rfl⟩
      · have h61 : ¬ (k : Int) < 60 := by omega
        have h7 : ¬ (n : Int) ≤ 60 := by omega
        have HF2 := Lib.hid (show fewB l = false by have := HN.out; simp [fewB]; intro; omega)
        go_wp2
        go_ret
        exact ⟨by rw [HF2.out]; rfl, rfl⟩
    · have h1 : ¬ (k : Int) < (n : Int) := by omega
      have h7 : (n : Int) ≤ 60 := by omega
      have HF2 := Lib.hid (show fewB l = true by
        have h1 := HN.out; have h2 := HA.out
        simp only [fewB, Bool.and_eq_true, decide_eq_true_eq]
        rw [List.take_of_length_le (by omega)] at h2 ⊢
        exact ⟨h2, by omega⟩)
      go_wp2
      go_ret
      exact ⟨by rw [HF2.out]; rfl, rfl⟩

theorem eq_upto {xs ys : List Nat} (hl : xs.length = ys.length) (h : ∀ i, i < xs.length → xs.getD i 0 = ys.getD i 0) : xs = ys := by
  apply List.ext_getElem hl
  intro i h1 h2
  have := h i h1
  simpa [List.getD, h1, h2] using this
set_option maxHeartbeats 1000000 in
theorem sameInts_any (ad : Option Addr) (n cap : Nat) (xs : List Nat) (ad' : Option Addr) (n' cap' : Nat) (ys : List Nat) (w : World) (hn : xs.length = n) (hm : n ≤ 1000000000) (hr : RdV w ad (xs.map iv)) (hn' : ys.length = n') (hm' : n' ≤ 1000000000) (hr' : RdV w ad' (ys.map iv))
    (hcap : n ≤ cap) (hcap' : n' ≤ cap') :
    Calls Try.prog 13 #[.slice ad n cap, .slice ad' n' cap'] w fun e w' => e = .returned (.bool (decide (xs = ys))) ∧ ∃ q, w' = w.drewN q := by
  have HN := Lib.hid hn; have HR := Lib.hid hr; have HN' := Lib.hid hn'; have HR' := Lib.hid hr'
  clear hn hr hn' hr'
  by_cases he : n = n'
  · have h0 : ((n : Int) != (n' : Int)) = false := by simp [he]
    subst he
    go_enter Try.func13, Try.ntmps13
    go_wp2
    clear h0
    go_loopw [5] (fun i wr => ∃ k q : Nat, k ≤ n ∧ i = .int .i64 (k : Int) ∧ (∀ j, j < k → xs.getD j 0 = ys.getD j 0) ∧ wr = w.drewN q) (fun i _ => n - (intOf i).toNat)
    case atStart => exact ⟨0, 0, Nat.zero_le _, rfl, fun j hj => absurd hj (by omega), rfl⟩
    case round =>
      obtain ⟨k, q, hk, rfl, ha, hq⟩ := hrel
      have HA := Lib.hid ha; clear ha
      by_cases hlt : k < n
      · have h1 : (k : Int) < (n : Int) := by omega
        have h2 : (0 : Int) ≤ (k : Int) := by omega
        obtain ⟨b, o, rfl, _, hc⟩ := HR.out k (by rw [List.length_map, HN.out]; exact hlt)
        obtain ⟨b', o', rfl, _, hc'⟩ := HR'.out k (by rw [List.length_map, HN'.out]; exact hlt)
        rw [iv_get _ _ (by rw [HN.out]; exact hlt)] at hc
        rw [iv_get _ _ (by rw [HN'.out]; exact hlt)] at hc'
        by_cases hx : xs.getD k 0 = ys.getD k 0
        · have HA2 := Lib.hid (show ∀ j, j < k + 1 → xs.getD j 0 = ys.getD j 0 from fun j hj => by
            by_cases e : j = k
            · subst e; exact hx
            · exact HA.out j (by omega))
          rw [hx] at hc
          clear hx
          generalize ys.getD k 0 = y at hc hc'
          subst hq
          go_wp2
          go_quiet (fail)
          go_wp2
          go_roundw
          case rel => exact ⟨k + 1, _, by omega, by go_num, HA2.out, rfl⟩
          case measure => simp [intOf]; omega
        · have HF := Lib.hid (show decide (xs = ys) = false by simp; intro e; exact hx (by rw [e]))
          have h3 : (((xs.getD k 0 : Nat) : Int) != ((ys.getD k 0 : Nat) : Int)) = true := by rw [bne_iff_ne]; omega
          clear hx
          generalize xs.getD k 0 = x at hc h3
          generalize ys.getD k 0 = y at hc' h3
          subst hq
          go_wp2
          go_quiet (fail)
          go_wp2
          go_ret
          exact ⟨by rw [HF.out]; rfl, _, by rw [World.drewN_drewN]⟩
      · obtain rfl : k = n := by omega
        have h1 : ¬ (k : Int) < (k : Int) := by omega
        have HF := Lib.hid (show decide (xs = ys) = true by
          have h1 := HN.out; have h2 := HN'.out
          simp only [decide_eq_true_eq]; exact eq_upto (by omega) (fun i hi => HA.out i (by omega)))
        subst hq
        go_wp2
        go_ret
        exact ⟨by rw [HF.out]; rfl, _, rfl⟩
  · have h0 : ((n : Int) != (n' : Int)) = true := by rw [bne_iff_ne]; omega
    have HF := Lib.hid (show decide (xs = ys) = false by
      have h1 := HN.out; have h2 := HN'.out
      simp only [decide_eq_false_iff_not]; intro e; rw [e] at h1; omega)
    go_enter Try.func13, Try.ntmps13
    go_wp2
    go_ret
    exact ⟨by rw [HF.out]; rfl, 0, rfl⟩

/-- A text against another one, by their keys. -/
theorem key_eq (a b : ByteArray) : (a.toList == b.toList) = decide (a.toList = b.toList) := by rw [Bool.eq_iff_iff]; simp
def AgainPost (key : Nat → List UInt8) (S : List Nat) (n : Nat) (w : World) (e : Ending) (w' : World) : Prop :=
  ∃ lo f q, e = .returned (.tuple #[.int .i64 ((lo : Nat) : Int), .bool f]) ∧ Low key S n lo f ∧ w' = w.drewN q
/-- The loop of again. -/
def ARo (key : Nat → List UInt8) (S : List Nat) (n : Nat) (w : World) (lo f i : Value) (wr : World) : Prop :=
  ∃ (m lw q : Nat) (fb : Bool), i = .int .i64 ((m : Int) + 1) ∧ lo = .int .i64 (lw : Int) ∧ f = .bool fb ∧ (m = 0 ∨ m + 1 ≤ n) ∧ Low key S (m + 1) lw fb ∧ wr = w.drewN q
theorem Low.zero {key : Nat → List UInt8} {S : List Nat} {lo : Nat} {f : Bool} (h : Low key S 1 lo f) : Low key S 0 lo f :=
  ⟨fun hf => ⟨(h.1 hf).1, fun i hi => absurd hi (by omega)⟩, fun hf => absurd (h.2 hf).1 (by rintro ⟨i, hi, _⟩; omega)⟩
set_option maxHeartbeats 2000000 in
theorem again_any (ad : Option Addr) (k0 cap : Nat) (l : List ByteArray) (ad' : Option Addr) (n cap' : Nat) (S : List Nat) (w : World) (hk0 : l.length = k0) (hn : S.length = n) (hm : n ≤ 1000000000) (hm0 : k0 ≤ 1000000000) (hr : RdV w ad (sv l)) (hr' : RdV w ad' (S.map iv)) (hS : ∀ i, i < n → S.getD i 0 < k0) (hcap : k0 ≤ cap) (hcap' : n ≤ cap') :
    Calls Try.prog 22 #[.slice ad k0 cap, .slice ad' n cap'] w (AgainPost (keyB l) S n w) := by
  have HN := Lib.hid hn; have HR := Lib.hid hr; have HK := Lib.hid hk0; have HR' := Lib.hid hr'; have HS := Lib.hid hS
  clear hn hr hk0 hr' hS
  go_enter Try.func22, Try.ntmps22
  go_wp2
  go_loopw [6, 7, 8] (fun lo f i wr => ARo (keyB l) S n w lo f i wr) (fun _ _ i _ => n + 1 - (intOf i).toNat)
  case atStart => exact ⟨0, 0, 0, false, rfl, rfl, rfl, .inl rfl, Low.start _ _, rfl⟩
  case round =>
    obtain ⟨m, lw, q, fb, rfl, rfl, rfl, hmn, hL, hq⟩ := hrel
    have HL := Lib.hid hL; clear hL
    by_cases hlt : m + 1 < n
    · have h1 : (m : Int) + 1 < (n : Int) := by omega
      have h2 : (0 : Int) ≤ (m : Int) + 1 := by omega
      have h3 : (0 : Int) ≤ (m : Int) := by omega
      have h4 : (m : Int) < (n : Int) := by omega
      have h5 : ((m : Int) + 1).toNat = m + 1 := by omega
      obtain ⟨b', o', rfl, _, hc⟩ := HR'.out m (by rw [List.length_map, HN.out]; omega)
      have hc' := HR'.out.at (m + 1) (by rw [List.length_map, HN.out]; omega)
      rw [iv_get _ _ (by rw [HN.out]; omega)] at hc hc'
      have hx := HS.out m (by omega)
      have hy := HS.out (m + 1) (by omega)
      obtain ⟨b, o, rfl, _, hd⟩ := HR.out (S.getD m 0) (by rw [sv_len, HK.out]; exact hx)
      have hd' := HR.out.at (S.getD (m + 1) 0) (by rw [sv_len, HK.out]; exact hy)
      rw [sv_get _ _ (by rw [HK.out]; exact hx)] at hd
      rw [sv_get _ _ (by rw [HK.out]; exact hy)] at hd'
      have HKeep := Lib.hid (fun h => HL.out.keep (key := keyB l) (S := S) (m := m) h)
      have HTake := Lib.hid (fun h => HL.out.take (key := keyB l) (S := S) (m := m) h)
      have HE1 := Lib.hid (keyB_def l (S.getD m 0))
      have HE2 := Lib.hid (keyB_def l (S.getD (m + 1) 0))
      generalize S.getD (m + 1) 0 = y at *
      generalize S.getD m 0 = x at *
      generalize l.getD x ByteArray.empty = kx at *
      generalize l.getD y ByteArray.empty = ky at *
      rw [← HE1.out, ← HE2.out] at HKeep HTake
      have hx2 : (x : Int) < (k0 : Int) := by omega
      have hy2 : (y : Int) < (k0 : Int) := by omega
      have hx3 : (0 : Int) ≤ (x : Int) := by omega
      have hy3 : (0 : Int) ≤ (y : Int) := by omega
      subst hq
      by_cases hk : kx.toList = ky.toList
      · have hkb : (kx.toList == ky.toList) = true := by rw [key_eq]; simp [hk]
        have HKE := Lib.hid hk
        clear hk
        cases fb
        · have HT := Lib.hid (HTake.out HKE.out (.inl rfl))
          clear HKeep HTake
          go_wp2
          go_quiet (fail)
          go_wp2
          go_quiet (fail)
          go_wp2
          go_roundw
          case rel => exact ⟨m + 1, y, _, true, by go_num, rfl, rfl, .inr (by omega), HT.out, rfl⟩
          case measure => simp [intOf]; omega
        · by_cases hlw : y < lw
          · have hlw2 : decide ((y : Int) < (lw : Int)) = true := by simp; omega
            have HT := Lib.hid (HTake.out HKE.out (.inr hlw))
            clear HKeep HTake
            go_wp2
            go_quiet (fail)
            go_wp2
            go_quiet (fail)
            go_wp2
            go_roundw
            case rel => exact ⟨m + 1, y, _, true, by go_num, rfl, rfl, .inr (by omega), HT.out, rfl⟩
            case measure => simp [intOf]; omega
          · have hlw2 : decide ((y : Int) < (lw : Int)) = false := by simp; omega
            have HT := Lib.hid (HKeep.out (.inr ⟨rfl, by omega⟩))
            clear HKeep HTake
            go_wp2
            go_quiet (fail)
            go_wp2
            go_quiet (fail)
            go_wp2
            go_roundw
            case rel => exact ⟨m + 1, lw, _, true, by go_num, rfl, rfl, .inr (by omega), HT.out, rfl⟩
            case measure => simp [intOf]; omega
      · have hkb : (kx.toList == ky.toList) = false := by rw [key_eq]; simp [hk]
        have HT := Lib.hid (HKeep.out (.inl hk))
        clear hk HKeep HTake
        go_wp2
        go_quiet (fail)
        go_wp2
        go_quiet (fail)
        go_wp2
        go_roundw
        case rel => exact ⟨m + 1, lw, _, fb, by go_num, rfl, rfl, .inr (by omega), HT.out, rfl⟩
        case measure => simp [intOf]; omega
    · have h1 : ¬ (m : Int) + 1 < (n : Int) := by omega
      have HF := Lib.hid (show Low (keyB l) S n lw fb by
        rcases hmn with h | h
        · subst h
          by_cases e : n = 0
          · subst e; exact HL.out.zero
          · rw [show n = 0 + 1 by omega]; exact HL.out
        · rw [show n = m + 1 by omega]; exact HL.out)
      subst hq
      go_wp2
      go_ret2
      exact ⟨lw, fb, _, rfl, HF.out, rfl⟩

/-- What Twice tells. -/
def TwicePost (key : Nat → List UInt8) (n : Nat) (w : World) (e : Ending) (w' : World) : Prop :=
  ∃ lo f, e = .returned (.tuple #[.int .i64 ((lo : Nat) : Int), .bool f]) ∧ Twc key n lo f ∧ Below w.heap.size w w'
theorem twice_any (ad : Option Addr) (n cap : Nat) (l : List ByteArray) (w : World) (hn : l.length = n) (hcap : n ≤ cap) (hm : n ≤ 1000000) (hr : RdV w ad (sv l)) :
    Calls Try.prog 11 #[.slice ad n cap] w (TwicePost (keyB l) n w) := by
  have K := Lib.hid (sort_any ad n cap l w hn hcap hm hr)
  have K2 := Lib.hid (fun W (hb : Below w.heap.size w W) g (hk : BlkV W g 3 ((srt Op.bytesLess (keyB l) 0 n).map iv)) =>
    again_any ad n cap l (some ⟨g, 0, none⟩) n n (srt Op.bytesLess (keyB l) 0 n) W hn (srt_len _ _ _ _) (by omega) (by omega) (hr.on hb) hk.all (fun i hi => srt_lt _ _ _ i hi) hcap (Nat.le_refl _))
  clear hn hr
  go_enter Try.func11, Try.ntmps11
  go_wp2_with fail
  refine K.out.mono ?_
  rintro r w1 ⟨g, rfl, hg, hk, hw⟩
  have HW := Lib.hid hw
  have K3 := Lib.hid (K2.out w1 hw g hk)
  clear hw hk
  go_wp2_with fail
  refine K3.out.mono ?_
  rintro r w2 ⟨lo, f, q, rfl, hL, rfl⟩
  have HL := Lib.hid (hL.twc sto_bytes)
  have HB := Lib.hid (below_drewN HW.out q)
  clear hL
  go_wp2
  go_ret2
  exact ⟨lo, f, rfl, HL.out, HB.out⟩
end Go.Proofs.Ytndjdmgncjiggaa
