/- The walk of the law UtfBack. -/
import Derived.Test.YtllcikobepeemaaDoorU7
import Derived.Lib.QuietBelow
import Derived.Deep.QuietTactic
import Derived.BigQuiet
namespace Go.Proofs.YtllcikobepeemaaDoor
open Go.RowKit Go.Shelf Go.Sort
set_option linter.unusedVariables false
set_option linter.unusedSimpArgs false

theorem size_listb (s : ByteArray) : s.data.toList.length = s.size := by simp
theorem of_list (s : ByteArray) : (⟨s.data.toList.toArray⟩ : ByteArray) = s := by cases s; simp
theorem Rk.drewN {k : IntKind} {w : World} {ad : Option Addr} {xs : List Int} (h : Rk k w ad xs) (q : Nat) : Rk k (w.drewN q) ad xs := h
theorem below_drewNb {B : Nat} {a w : World} (h : Below B a w) (n : Nat) : Below B a (w.drewN n) := h.trans ⟨rfl, rfl, rfl, Nat.le_refl _, fun _ _ => rfl⟩
/-- An answer of Runes that can be read. -/
def ReadPost (l : List Int) (w : World) (e : Ending) (w' : World) : Prop := ∃ ad cap, e = .returned (.slice ad l.length cap) ∧ l.length ≤ cap ∧ Rk .i32 w' ad l ∧ Below w.heap.size w w'
theorem RunesPost.read {l : List Int} {w : World} {e : Ending} {w' : World} (h : RunesPost l w e w') : ReadPost l w e w' := by
  obtain ⟨v, rfl, ho, hb⟩ := h
  obtain ⟨ad, cap, rfl, hc, hr⟩ := own_rk ho
  exact ⟨ad, cap, rfl, hc, hr, hb⟩
def ReadN (l : List Int) (n : Nat) (w : World) (e : Ending) (w' : World) : Prop := ∃ ad cap, e = .returned (.slice ad n cap) ∧ n ≤ cap ∧ Rk .i32 w' ad l ∧ Below w.heap.size w w'
theorem ReadPost.n {l : List Int} {n : Nat} {w : World} {e : Ending} {w' : World} (h : ReadPost l w e w') (hn : l.length = n) : ReadN l n w e w' := by subst hn; exact h
/-- What holds from round to round of the range. -/
def BR (s : ByteArray) (B : Nat) (w : World) (k : Nat) (v : Value) (wr : World) : Prop :=
  ∃ pos i, s.size - pos ≤ k ∧ v = .int .i64 ((i : Nat) : Int) ∧ runesL (tailL s pos) = (runesL s.data.toList).drop i ∧ i ≤ (runesL s.data.toList).length ∧ RI s B w pos wr
def BRV (s : ByteArray) (B : Nat) (w : World) (k : Nat) (v : Value) (wr : World) : Prop :=
  ∃ pos i, s.size - pos ≤ k ∧ v = .int .i64 ((i : Nat) : Int) ∧ runesL (tailL s pos) = (runesL s.data.toList).drop i ∧ i ≤ (runesL s.data.toList).length ∧ validL (tailL s pos) = true ∧ RI s B w pos wr
/-- .. of the loop over the code points. -/
def CR (n : Nat) (w : World) (k : Nat) (v : Value) (wr : World) : Prop := ∃ i q, n - i ≤ k ∧ i ≤ n ∧ v = .int .i64 ((i : Nat) : Int) ∧ wr = w.drewN q
theorem runesL_ok {l : List UInt8} (h : validL l = true) : ∀ r ∈ runesL l, -2147483648 ≤ r ∧ r ≤ 2147483647 := by
  intro r hr
  have := (List.all_eq_true.1 (join_runes h).1) r hr
  rw [okR_iff] at this; omega
theorem drop_head {l : List Int} {i : Nat} {x : Int} {t : List Int} (h : x :: t = l.drop i) : i < l.length ∧ l.getD i 0 = x ∧ t = l.drop (i + 1) := by
  have hi : i < l.length := by
    rcases Nat.lt_or_ge i l.length with h1 | h1
    · exact h1
    · rw [List.drop_eq_nil_of_le h1] at h; cases h
  rw [List.drop_eq_getElem_cons hi] at h
  injection h with h1 h2
  exact ⟨hi, by simp [List.getD, hi, h1], h2⟩

set_option maxHeartbeats 4000000 in
set_option maxRecDepth 1000000 in
theorem utfBack_main (s : ByteArray) (ad : Option Addr) (n cap : Nat) (l : List Int) (w : World) (hs : s.size ≤ 1000) (hn : l.length = n) (hcap : n ≤ cap) (hm : n ≤ 300) (h32 : ∀ r ∈ l, -2147483648 ≤ r ∧ r ≤ 2147483647) (hr : Rk .i32 w ad l) (hT : UT w) :
    Calls Tryd.prog 4 #[.string s, .slice ad n cap] w (BoolBelow true w) := by
  have HA := Lib.hid (fun W (h : Below w.heap.size w W) => awake_any W (hT.below h))
  have KR := Lib.hid ((runes_any s w (by omega) hT).mono fun _ _ h => h.read)
  have KV := Lib.hid (fun W (h : Below w.heap.size w W) => valid_any s W (by unfold maxLen; omega) (hT.below h))
  have JL := Lib.hid (fun W (h : Below w.heap.size w W) => join_any ad n cap l W hn hcap (by omega) h32 (hr.below h))
  have HT := Lib.hid hT; clear hT
  have HN := Lib.hid hn; clear hn
  have HR := Lib.hid hr; clear hr
  have H32 := Lib.hid h32; clear h32
  have hlr := runesL_le s.data.toList
  rw [size_listb] at hlr
  have hs1 : ¬ (1000 : Int) < (s.size : Int) := by omega
  have hs2 : ¬ (300 : Int) < (n : Int) := by omega
  have hsz : s.size ≤ 1000 := hs
  clear hs
  have HTX := Lib.hid (fun (h : okAll l = true) => h)
  cases hv : validL s.data.toList
  · rw [hv] at KV
    clear hv
    go_enter Tryd.func4, Tryd.ntmps4
    go_wp2_with fail
    refine KR.out.mono ?_
    rintro x w1 ⟨adx, capx, rfl, hcx, hrx, h1⟩
    have B1 := Lib.hid h1; have HRX := Lib.hid hrx; clear h1 hrx
    go_wp2_with fail
    refine (KV.out _ B1.out).mono ?_
    rintro x w2 ⟨rfl, h2⟩
    have B2 := Lib.hid (below_on B1.out h2); clear h2
    clear hs1 hs2 hlr hcx
    go_wp2_with fail
    refine (JL.out _ B2.out).mono ?_
    rintro x w5 ⟨rfl, h5⟩
    have B5 := Lib.hid (below_on B2.out h5); clear h5
    cases hok : okAll l
    · rw [hok] at HTX
      clear hok
      simp only [Bool.false_eq_true, if_false]
      go_wp2_with fail
      refine (HA.out _ B5.out).mono ?_
      rintro x w6 ⟨rfl, h6⟩
      have B6 := Lib.hid (below_on B5.out h6); clear h6
      go_wp2
      go_ret
      exact BoolBelow.mk rfl B6.out
    · simp only [if_true]
      have HS2 := HTX.out hok
      have HL := Lib.hid (HN.out)
      have hjl := joinL_length l
      have hvj := Lib.hid (valid_join hok)
      have hrj := runes_join_nil hok
      generalize hZ : (⟨(joinL l).toArray⟩ : ByteArray) = Z at *
      have hZl : Z.data.toList = joinL l := by rw [← hZ]
      have hZs : Z.size ≤ 1200 := by rw [← size_listb, hZl]; have := HN.out; omega
      have KY := Lib.hid ((runes_any Z w5 (by omega) (HT.out.below B5.out)).mono fun _ _ h => h.read.n (by simpa [hZl, hrj] using HN.out))
      rw [hZl, hrj] at KY
      have KVZ := Lib.hid (fun W (h : Below w.heap.size w W) => valid_any Z W (by unfold maxLen; omega) (HT.out.below h))
      rw [hZl, hvj.out] at KVZ
      clear hZ hZl hjl hrj hok HTX HS2
      go_wp2_with fail
      refine KY.out.mono ?_
      rintro x w6 ⟨ady, capy, rfl, hcy, hry, h6⟩
      have HRY := Lib.hid hry
      have B6 := Lib.hid (below_on B5.out h6); clear h6 hry
      have HRL := Lib.hid (HR.out.below B6.out)
      go_wp2_with fail
      go_loopg [14] n (fun k v wr => CR n w6 k v wr)
      case atStart => exact ⟨0, 0, by omega, Nat.zero_le _, rfl, rfl⟩
      case round =>
        obtain ⟨i, q, hk, hi, rfl, rfl⟩ := hrel
        by_cases hp : i < n
        · obtain ⟨k, rfl⟩ : ∃ k, gk = k + 1 := ⟨gk - 1, by omega⟩
          obtain ⟨b1, o1, hd1, _, c1⟩ := HRY.out i (by rw [HN.out]; exact hp)
          obtain ⟨b2, o2, hd2, _, c2⟩ := HRL.out i (by rw [HN.out]; exact hp)
          subst hd1 hd2
          generalize l.getD i 0 = y at *
          have hpz : (i : Int) < (n : Int) := by omega
          have hnn : ((n : Int) != (n : Int)) = false := by simp
          go_wp2
          go_quiet (fail)
          go_wp2
          go_roundg k
          case rel => exact ⟨i + 1, _, by omega, by omega, by go_num, rfl⟩
          case measure => omega
        · have hpz : ¬ (i : Int) < (n : Int) := by omega
          have B7 := Lib.hid (below_drewNb B6.out q)
          generalize w6.drewN q = w7 at *
          go_wp2_with fail
          refine (KVZ.out _ B7.out).mono ?_
          rintro x w8 ⟨rfl, h8⟩
          have B8 := Lib.hid (below_on B7.out h8); clear h8
          go_wp2_with fail
          refine (HA.out _ B8.out).mono ?_
          rintro x w9 ⟨rfl, h9⟩
          have B9 := Lib.hid (below_on B8.out h9); clear h9
          go_wp2
          go_ret
          exact BoolBelow.mk rfl B9.out
  · rw [hv] at KV
    obtain ⟨j1, j2⟩ := join_runes hv
    have HV := Lib.hid hv
    have JX := Lib.hid (fun adx capx W hc hrx => join_any adx (runesL s.data.toList).length capx (runesL s.data.toList) W rfl hc (by omega) (runesL_ok hv) hrx)
    unfold JoinPost at JX
    rw [j1, if_pos rfl, j2, of_list] at JX
    clear hv j1 j2
    go_enter Tryd.func4, Tryd.ntmps4
    go_wp2_with fail
    refine KR.out.mono ?_
    rintro x w1 ⟨adx, capx, rfl, hcx, hrx, h1⟩
    have B1 := Lib.hid h1; have HRX := Lib.hid hrx; clear h1 hrx
    go_wp2_with fail
    refine (KV.out _ B1.out).mono ?_
    rintro x w2 ⟨rfl, h2⟩
    have HRX2 := Lib.hid (HRX.out.below h2)
    have B2 := Lib.hid (below_on B1.out h2); clear h2
    clear hs1 hs2
    go_wp2_with fail
    refine (JX.out adx capx w2 hcx HRX2.out).mono ?_
    rintro x w3 ⟨rfl, h3⟩
    have HRX3 := Lib.hid (HRX2.out.below h3)
    have B3 := Lib.hid (below_on B2.out h3); clear h3
    have HCX := Lib.hid hcx; clear hcx
    go_wp2_with fail
    have hst := RI.start s w3
    have HB0 := Lib.hid B3.out.size
    have hst2 := Lib.hid (show BR s w3.heap.size w3 s.size (.int .i64 ((0 : Nat) : Int)) (w3.iter s 0) from ⟨0, 0, by omega, rfl, by rw [tailL_zero]; rfl, Nat.zero_le _, hst⟩)
    have HVT := Lib.hid (show validL (tailL s 0) = true by rw [tailL_zero]; exact HV.out)
    have hst3 := Lib.hid (show BRV s w3.heap.size w3 s.size (.int .i64 ((0 : Nat) : Int)) (w3.iter s 0) from ⟨0, 0, by omega, rfl, by rw [tailL_zero]; rfl, Nat.zero_le _, HVT.out, hst⟩)
    clear hst hst2
    generalize hX : runesL s.data.toList = X at *
    have HX := Lib.hid hX; clear hX
    generalize hB : w3.heap.size = B at *
    have HB := Lib.hid hB; clear hB
    go_loopg [8] s.size (fun k v wr => BRV s B w3 k v wr)
    case atStart => exact hst3.out
    case round =>
      obtain ⟨pos, i, hk, rfl, hdr, hi, hvt, hri⟩ := hrel
      rw [HX.out] at hdr hi
      have HDR := Lib.hid hdr; clear hdr
      have HI := Lib.hid hri
      by_cases hp : pos < s.size
      · obtain ⟨k, rfl⟩ : ∃ k, gk = k + 1 := ⟨gk - 1, by omega⟩
        have hnx : ∀ ty, (Instr.next (.pointer (some ⟨B, 0, none⟩)) true ty).run Tryd.prog wr = _ := fun ty => Lib.run_next_any_at wr B s pos ty hri.1 hp
        rw [decode_tail] at hnx
        rw [valid_tail hp, Bool.and_eq_true, decide_eq_true_eq] at hvt
        obtain ⟨v1, v2⟩ := hvt
        obtain ⟨_, _, v3, v4⟩ := runeL_inv (tailL s pos) (tailL_ne hp) v1
        have hdr2 := HDR.out
        rw [runesL_cons (tailL_ne hp), tailL_drop] at hdr2
        obtain ⟨d1, d2, d3⟩ := drop_head hdr2
        rw [v4] at d2
        rw [v3] at d3 v2
        have hw := decL_width (tailL s pos) (tailL_ne hp)
        rw [tailL_length] at hw
        have hri2 := Lib.hid (hri.next (pos + (decL (tailL s pos)).2))
        have HRX4 := HRX3.out.below (show Below w3.heap.size w3 _ by rw [HB.out]; exact hri2.out.2)
        obtain ⟨bx, ox, hadx, _, hcx⟩ := HRX4 i d1
        rw [d2] at hcx
        clear HRX4 hri d2 v1 v3 v4 hdr2
        generalize (decL (tailL s pos)).1 = c at *
        generalize (decL (tailL s pos)).2 = m at *
        have D3 := Lib.hid d3; have V2 := Lib.hid v2
        subst hadx
        have hi1 : (i : Int) < (X.length : Int) := by omega
        clear d3 v2
        go_wp2_with fail
        go_roundg k
        case rel => exact ⟨pos + m, i + 1, by omega, by go_num, by rw [HX.out]; exact D3.out, by rw [HX.out]; omega, V2.out, hri2.out⟩
        case measure => omega
      · have hnx : ∀ ty, (Instr.next (.pointer (some ⟨B, 0, none⟩)) true ty).run Tryd.prog wr = _ := fun ty => Lib.run_next_end_at wr B s pos ty hri.1 hp
        have hil : X.length = i := by
          have h1 := HDR.out
          rw [tailL_end (by omega), runesL_nil] at h1
          have := congrArg List.length h1
          rw [List.length_drop] at this
          simp only [List.length_nil] at this; omega
        subst hil
        have B4 := Lib.hid (show Below w.heap.size w wr from B3.out.trans (hri.2.mono (by exact HB0.out)))
        clear hi hvt hri
        go_wp2_with fail
        refine (JL.out _ B4.out).mono ?_
        rintro x w5 ⟨rfl, h5⟩
        have B5 := Lib.hid (below_on B4.out h5); clear h5
        cases hok : okAll l
        · rw [hok] at HTX
          clear hok
          simp only [Bool.false_eq_true, if_false]
          go_wp2_with fail
          refine (HA.out _ B5.out).mono ?_
          rintro x w6 ⟨rfl, h6⟩
          have B6 := Lib.hid (below_on B5.out h6); clear h6
          go_wp2
          go_ret
          exact BoolBelow.mk rfl B6.out
        · simp only [if_true]
          have HS2 := HTX.out hok
          have HL := Lib.hid (HN.out)
          have hjl := joinL_length l
          have hvj := Lib.hid (valid_join hok)
          have hrj := runes_join_nil hok
          generalize hZ : (⟨(joinL l).toArray⟩ : ByteArray) = Z at *
          have hZl : Z.data.toList = joinL l := by rw [← hZ]
          have hZs : Z.size ≤ 1200 := by rw [← size_listb, hZl]; have := HN.out; omega
          have KY := Lib.hid ((runes_any Z w5 (by omega) (HT.out.below B5.out)).mono fun _ _ h => h.read.n (by simpa [hZl, hrj] using HN.out))
          rw [hZl, hrj] at KY
          have KVZ := Lib.hid (fun W (h : Below w.heap.size w W) => valid_any Z W (by unfold maxLen; omega) (HT.out.below h))
          rw [hZl, hvj.out] at KVZ
          clear hZ hZl hjl hrj hok HTX HS2
          go_wp2_with fail
          refine KY.out.mono ?_
          rintro x w6 ⟨ady, capy, rfl, hcy, hry, h6⟩
          have HRY := Lib.hid hry
          have B6 := Lib.hid (below_on B5.out h6); clear h6 hry
          have HRL := Lib.hid (HR.out.below B6.out)
          go_wp2_with fail
          go_loopg [14] n (fun k v wr => CR n w6 k v wr)
          case atStart => exact ⟨0, 0, by omega, Nat.zero_le _, rfl, rfl⟩
          case round =>
            obtain ⟨i, q, hk, hi, rfl, rfl⟩ := hrel
            by_cases hp : i < n
            · obtain ⟨k, rfl⟩ : ∃ k, gk = k + 1 := ⟨gk - 1, by omega⟩
              obtain ⟨b1, o1, hd1, _, c1⟩ := HRY.out i (by rw [HN.out]; exact hp)
              obtain ⟨b2, o2, hd2, _, c2⟩ := HRL.out i (by rw [HN.out]; exact hp)
              subst hd1 hd2
              generalize l.getD i 0 = y at *
              have hpz : (i : Int) < (n : Int) := by omega
              have hnn : ((n : Int) != (n : Int)) = false := by simp
              go_wp2
              go_quiet (fail)
              go_wp2
              go_roundg k
              case rel => exact ⟨i + 1, _, by omega, by omega, by go_num, rfl⟩
              case measure => omega
            · have hpz : ¬ (i : Int) < (n : Int) := by omega
              have B7 := Lib.hid (below_drewNb B6.out q)
              generalize w6.drewN q = w7 at *
              go_wp2_with fail
              refine (KVZ.out _ B7.out).mono ?_
              rintro x w8 ⟨rfl, h8⟩
              have B8 := Lib.hid (below_on B7.out h8); clear h8
              go_wp2_with fail
              refine (HA.out _ B8.out).mono ?_
              rintro x w9 ⟨rfl, h9⟩
              have B9 := Lib.hid (below_on B8.out h9); clear h9
              go_wp2
              go_ret
              exact BoolBelow.mk rfl B9.out

set_option maxHeartbeats 4000000 in
set_option maxRecDepth 1000000 in
theorem utfBack_walk (s : ByteArray) (ad : Option Addr) (n cap : Nat) (l : List Int) (w : World) (hs : s.size ≤ maxLen) (hn : l.length = n) (hcap : n ≤ cap) (h32 : ∀ r ∈ l, -2147483648 ≤ r ∧ r ≤ 2147483647) (hr : Rk .i32 w ad l) (hT : UT w) :
    Calls Tryd.prog 4 #[.string s, .slice ad n cap] w (BoolBelow true w) := by
  have HA := Lib.hid (awake_any w hT)
  by_cases h1 : 1000 < s.size
  · have h1' : (1000 : Int) < (s.size : Int) := by omega
    unfold maxLen at hs
    clear hT hn h32 hr
    go_enter Tryd.func4, Tryd.ntmps4
    go_wp2_with fail
    refine HA.out.mono ?_
    rintro x w1 ⟨rfl, h1⟩
    have B1 := Lib.hid h1; clear h1
    go_wp2
    go_ret
    exact BoolBelow.mk rfl B1.out
  · have h1' : ¬ (1000 : Int) < (s.size : Int) := by omega
    by_cases h2 : 300 < n
    · have h2' : (300 : Int) < (n : Int) := by omega
      unfold maxLen at hs
      clear hT hn h32 hr
      go_enter Tryd.func4, Tryd.ntmps4
      go_wp2_with fail
      refine HA.out.mono ?_
      rintro x w1 ⟨rfl, h1⟩
      have B1 := Lib.hid h1; clear h1
      go_wp2
      go_ret
      exact BoolBelow.mk rfl B1.out
    · exact utfBack_main s ad n cap l w (by omega) hn hcap (by omega) h32 hr hT
end Go.Proofs.YtllcikobepeemaaDoor
