/- Texts of the claim. -/
import Derived.Test.YtgolidabjcmofaaGreatDoorQl
namespace Go.Proofs.YtgolidabjcmofaaGreatDoor
open Go.RowKit Go.Shelf Go.Lib
set_option linter.unusedVariables false
set_option linter.unusedSimpArgs false
theorem i32_or16 (x y : Int) (hx : 0 ≤ x) (hx2 : x ≤ 1000000) (hm : x % 16 = 0) (h₀ : 0 ≤ y) (h₁ : y < 16) : bits .or .i32 x y = x + y :=
  bits_join .i32 31 (by decide) wraps_i32 4 x y hx (by simpa using hm) (by simpa using (show x < 2147483648 by omega)) h₀ (by simpa using h₁) (by simpa using (show y < 2147483648 by omega))
theorem tail_cons {s : ByteArray} {n : Nat} (h : n < s.size) : tailL s n = s[n]'h :: tailL s (n + 1) := by
  unfold tailL
  rw [List.drop_eq_getElem_cons (by simpa using h)]
  congr 1
def HalfPost (g : Nat) (r : Option Nat) (n : Nat) (w : World) (e : Ending) (w' : World) : Prop :=
  match r with
  | some r => e = .returned (.int .i32 ((r : Nat) : Int)) ∧ Stepd g ((n + 4 : Nat) : Int) w w'
  | none => ThrowsR g w e w'
def HR (g : Nat) (s : ByteArray) (n : Nat) (w : World) (k : Nat) (v i : Value) (wr : World) : Prop :=
  ∃ j x : Nat, j ≤ 4 ∧ 4 - j ≤ k ∧ i = .int .i64 (j : Int) ∧ v = .int .i32 (x : Int) ∧ x < 16 ^ j ∧ hexF (4 - j) x (tailL s (n + j)) = fourL (tailL s n) ∧ Stepd g ((n + j : Nat) : Int) w wr
set_option maxHeartbeats 1000000 in
theorem half_any (g : Nat) (s : ByteArray) (n : Nat) (w : World) (hs : s.size ≤ 1000000) (hr : Rdr g s n w) (hn : n ≤ 2000000) :
    Calls Tryz.prog 209 #[.pointer (some ⟨g, 0, none⟩)] w (HalfPost g (fourL (tailL s n)) n w) := by
  have HRD := Lib.hid (fun (k : Nat) W (h : Stepd g (k : Int) w W) => h.rdr hr)
  have HST := Lib.hid (show HR g s n w 4 (.int .i32 0) (.int .i64 0) w from ⟨0, 0, by omega, by omega, rfl, rfl, by decide, rfl, Stepd.of_below hr (Below.refl _ _)⟩)
  clear hr
  go_enter Tryz.func209, Tryz.ntmps209
  go_wp2
  go_loopg [3, 4] 4 (fun k v i wr => HR g s n w k v i wr)
  case atStart => exact HST.out
  case round =>
    obtain ⟨j, x, hj, hk, rfl, rfl, hx, he, hst⟩ := hrel
    have HE := Lib.hid he; have HS := Lib.hid hst; have HX := Lib.hid hx
    have hr := HRD.out _ _ hst
    clear he hst
    by_cases h4 : j < 4
    · obtain ⟨k, rfl⟩ : ∃ k, gk = k + 1 := ⟨gk - 1, by omega⟩
      have hjz : (j : Int) < 4 := by omega
      have hxb : x < 4096 := by
        have : 16 ^ j ≤ 16 ^ 3 := Nat.pow_le_pow_right (by decide) (by omega)
        omega
      clear hx
      by_cases hl : n + j < s.size
      · have HT := Lib.hid (tail_cons hl)
        have KT := Lib.hid (take_yes g s (n + j) wr hs hr hl _ rfl)
        generalize s[n + j] = c at *
        have hc := c.toNat_lt
        cases hd : hexN c.toNat with
        | none =>
          have HN := Lib.hid (show fourL (tailL s n) = none by
            rw [← HE.out, HT.out, show 4 - j = (3 - j) + 1 by omega]; simp only [hexF, hd])
          have KD := Lib.hid (fun W => digit_no c.toNat W hc hd)
          clear hd hr
          unfold ThrowsW at KD
          go_wp2_with fail
          refine KT.out.mono ?_
          rintro r w1 ⟨rfl, h1⟩
          have H1 := Lib.hid (HS.out.trans h1); clear h1
          go_wp2_with fail
          refine (KD.out _).mono ?_
          rintro r w2 ⟨rfl, rfl⟩
          go_wp2
          unfold HalfPost
          rw [HN.out]
          exact ⟨rfl, rfl, _, H1.out⟩
        | some d =>
          have hdl := hexN_lt hd
          have HN := Lib.hid (show hexF (4 - (j + 1)) (x * 16 + d) (tailL s (n + (j + 1))) = fourL (tailL s n) by
            rw [← HE.out, HT.out, show 4 - j = (4 - (j + 1)) + 1 by omega]; simp only [hexF, hd]; rfl)
          have KD := Lib.hid (fun W => digit_yes c.toNat d W hc hd)
          have hor := i32_or16 ((x : Int) * 16) (d : Int) (by omega) (by omega) (by omega) (by omega) (by omega)
          have HP := Lib.hid (show x * 16 + d < 16 ^ (j + 1) by have := HX.out; rw [Nat.pow_succ]; omega)
          clear hd hr
          go_wp2_with fail
          refine KT.out.mono ?_
          rintro r w1 ⟨rfl, h1⟩
          have H1 := Lib.hid (HS.out.trans h1); clear h1
          go_wp2_with fail
          refine (KD.out _).mono ?_
          rintro r w2 ⟨rfl, rfl⟩
          go_wp2
          go_roundg k
          case rel => exact ⟨j + 1, x * 16 + d, by omega, by omega, by go_num, by first | rfl | (congr 1) | skip, HP.out, HN.out, H1.out⟩
          case measure => omega
      · have HN := Lib.hid (show fourL (tailL s n) = none by
          rw [← HE.out, tailL_end (by omega), show 4 - j = (3 - j) + 1 by omega]; rfl)
        have KT := Lib.hid (take_no g s ((n + j : Nat) : Int) wr hs hr (by omega) (by omega))
        clear hr
        go_wp2_with fail
        refine KT.out.mono ?_
        rintro r w1 ⟨rfl, q, h1⟩
        have H1 := Lib.hid (HS.out.trans h1); clear h1
        go_wp2
        unfold HalfPost
        rw [HN.out]
        exact ⟨rfl, rfl, _, H1.out⟩
    · obtain rfl : j = 4 := by omega
      have HN := Lib.hid (show fourL (tailL s n) = some x by rw [← HE.out]; rfl)
      clear hr hx
      go_wp2
      go_ret
      unfold HalfPost
      rw [HN.out]
      exact ⟨rfl, HS.out⟩
end Go.Proofs.YtgolidabjcmofaaGreatDoor
namespace Go.Proofs.YtgolidabjcmofaaGreatDoor
open Go.RowKit Go.Shelf Go.Lib
set_option linter.unusedVariables false
set_option linter.unusedSimpArgs false
def cpL (l : List UInt8) : Option (Nat × Nat) :=
  match fourL l with
  | none => none
  | some r => if r < 55296 ∨ 57343 < r then some (r, 4) else if 56320 ≤ r then none else
    match lowL (l.drop 4) with
    | none => none
    | some low => some (65536 + (r - 55296) * 1024 + (low - 56320), 10)
theorem escL_u {c : UInt8} (h : c.toNat = 117) (l : List UInt8) : escL (c :: l) = (cpL l).map fun p => (enc (p.1 : Int), p.2 + 1) := by
  simp only [escL, if_pos h, cpL]
  cases fourL l with
  | none => rfl
  | some r =>
    simp only
    split
    · rfl
    · split
      · rfl
      · cases lowL (l.drop 4) <;> rfl
theorem bt_tail {s : ByteArray} {k j : Nat} {c : UInt8} (hc : c.toNat ≠ 0) : bt (tailL s k) j = c.toNat ↔ s.data.toList[k + j]? = some c := by
  unfold bt tailL
  rw [List.getD, List.getElem?_drop]
  cases h : s.data.toList[k + j]? with
  | none => simp; omega
  | some x =>
    simp only [Option.getD_some, Option.some.injEq]
    exact UInt8.toNat_inj
theorem get_some {s : ByteArray} {k : Nat} {c : UInt8} (h : s.data.toList[k]? = some c) : ∃ hk : k < s.size, s[k]'hk = c := by
  obtain ⟨h1, h2⟩ := List.getElem?_eq_some_iff.1 h
  exact ⟨by simpa using h1, by rw [← h2]; rfl⟩
def CpPost (g : Nat) (r : Option (Nat × Nat)) (n : Nat) (w : World) (e : Ending) (w' : World) : Prop :=
  match r with
  | some p => e = .returned (.int .i32 ((p.1 : Nat) : Int)) ∧ Stepd g ((n + p.2 : Nat) : Int) w w'
  | none => ThrowsR g w e w'
set_option maxHeartbeats 2000000 in
theorem codePoint_any (g : Nat) (s : ByteArray) (n : Nat) (w : World) (hs : s.size ≤ 1000000) (hr : Rdr g s n w) (hn : n ≤ 1000000) :
    Calls Tryz.prog 193 #[.pointer (some ⟨g, 0, none⟩)] w (CpPost g (cpL (tailL s n)) n w) := by
  have KH := Lib.hid (half_any g s n w hs hr (by omega))
  have HRD := Lib.hid (fun (k : Nat) W (h : Stepd g (k : Int) w W) => h.rdr hr)
  clear hr
  cases hf : fourL (tailL s n) with
  | none =>
    have HC := Lib.hid (show cpL (tailL s n) = none by unfold cpL; rw [hf])
    rw [hf] at KH
    clear hf
    unfold HalfPost at KH
    go_enter Tryz.func193, Tryz.ntmps193
    go_wp2_with fail
    refine KH.out.mono ?_
    rintro r w1 ⟨rfl, j, h1⟩
    have H1 := Lib.hid h1; clear h1
    go_wp2
    unfold CpPost
    rw [HC.out]
    exact ⟨rfl, rfl, _, H1.out⟩
  | some r =>
    have hlt := fourL_lt hf
    have h4 := fourL_len hf
    rw [tailL_length] at h4
    rw [hf] at KH
    unfold HalfPost at KH
    by_cases hsur : r < 55296 ∨ 57343 < r
    · have HC := Lib.hid (show cpL (tailL s n) = some (r, 4) by unfold cpL; rw [hf]; simp only [if_pos hsur])
      clear hf
      by_cases h0 : r < 55296
      · have b0 : decide ((r : Int) < 55296) = true := decide_eq_true (by omega)
        go_enter Tryz.func193, Tryz.ntmps193
        go_wp2_with fail
        refine KH.out.mono ?_
        rintro x w1 ⟨rfl, h1⟩
        have H1 := Lib.hid h1; clear h1
        go_wp2
        go_ret
        unfold CpPost
        rw [HC.out]
        exact ⟨rfl, H1.out⟩
      · have b0 : decide ((r : Int) < 55296) = false := decide_eq_false (by omega)
        have b1 : decide ((57343 : Int) < (r : Int)) = true := decide_eq_true (by omega)
        go_enter Tryz.func193, Tryz.ntmps193
        go_wp2_with fail
        refine KH.out.mono ?_
        rintro x w1 ⟨rfl, h1⟩
        have H1 := Lib.hid h1; clear h1
        go_wp2
        go_ret
        unfold CpPost
        rw [HC.out]
        exact ⟨rfl, H1.out⟩
    · have b0 : decide ((r : Int) < 55296) = false := decide_eq_false (by omega)
      have b1 : decide ((57343 : Int) < (r : Int)) = false := decide_eq_false (by omega)
      have hr1 : 55296 ≤ r ∧ r ≤ 57343 := by omega
      have HCN := Lib.hid (fun (h : 56320 ≤ r ∨ lowL (tailL s (n + 4)) = none) => (by
        unfold cpL; rw [hf]; simp only [if_neg hsur]
        split
        · rfl
        · rename_i h5
          rw [tailL_drop]
          rcases h with h | h
          · exact absurd h h5
          · rw [h] : cpL (tailL s n) = none))
      have HCY := Lib.hid (fun low (h : lowL (tailL s (n + 4)) = some low) (h5 : r < 56320) => (by
        unfold cpL; rw [hf]; simp only [if_neg hsur, if_neg (show ¬ 56320 ≤ r by omega)]
        rw [tailL_drop, h] : cpL (tailL s n) = some (65536 + (r - 55296) * 1024 + (low - 56320), 10)))
      clear hf hsur hlt
      have hl0 : (55296 : Int) ≤ (r : Int) := by omega
      have hl1 : (r : Int) ≤ 57343 := by omega
      by_cases hA : s.data.toList[n + 4]? = some 92
      · obtain ⟨hAk, hA2⟩ := get_some hA
        have KM1 := Lib.hid (fun W (h : Stepd g ((n + 4 : Nat) : Int) w W) => must_yes g s (n + 4) W 92 hs (HRD.out _ W h) hAk hA2)
        by_cases hB : s.data.toList[n + 5]? = some 117
        · obtain ⟨hBk, hB2⟩ := get_some hB
          have KM2 := Lib.hid (fun W (h : Stepd g ((n + 5 : Nat) : Int) w W) => must_yes g s (n + 5) W 117 hs (HRD.out _ W h) hBk hB2)
          have KH2 := Lib.hid (fun W (h : Stepd g ((n + 6 : Nat) : Int) w W) => half_any g s (n + 6) W hs (HRD.out _ W h) (by omega))
          have hlow : lowL (tailL s (n + 4)) = match fourL (tailL s (n + 6)) with | none => none | some r => if 56320 ≤ r ∧ r ≤ 57343 then some r else none := by
            unfold lowL
            rw [if_pos ⟨(bt_tail (c := 92) (by decide)).2 hA, (bt_tail (c := 117) (by decide)).2 hB⟩, tailL_drop]
            rfl
          have HL := Lib.hid hlow
          clear hA hB hAk hBk hA2 hB2 hlow
          cases hf2 : fourL (tailL s (n + 6)) with
          | none =>
            have HC := Lib.hid (HCN.out (.inr (by rw [HL.out, hf2])))
            rw [hf2] at KH2
            clear hf2
            unfold HalfPost at KH2
            go_enter Tryz.func193, Tryz.ntmps193
            go_wp2_with fail
            refine KH.out.mono ?_
            rintro x w1 ⟨rfl, h1⟩
            have H1 := Lib.hid h1; clear h1
            go_wp2_with fail
            refine (KM1.out w1 H1.out).mono ?_
            rintro x w2 ⟨rfl, h2⟩
            have H2 := Lib.hid (H1.out.trans h2); clear h2
            go_wp2_with fail
            refine (KM2.out w2 H2.out).mono ?_
            rintro x w3 ⟨rfl, h3⟩
            have H3 := Lib.hid (H2.out.trans h3); clear h3
            go_wp2_with fail
            refine (KH2.out w3 H3.out).mono ?_
            rintro x w4 ⟨rfl, q, h4⟩
            have H4 := Lib.hid (H3.out.trans h4); clear h4
            go_wp2
            unfold CpPost
            rw [HC.out]
            exact ⟨rfl, rfl, _, H4.out⟩
          | some low =>
            have hll := fourL_lt hf2
            rw [hf2] at KH2
            unfold HalfPost at KH2
            by_cases hr5 : 56320 ≤ r
            · have HC := Lib.hid (HCN.out (.inl hr5))
              have b2 : decide ((56320 : Int) ≤ (r : Int)) = true := decide_eq_true (by omega)
              clear hf2
              go_enter Tryz.func193, Tryz.ntmps193
              go_wp2_with fail
              refine KH.out.mono ?_
              rintro x w1 ⟨rfl, h1⟩
              have H1 := Lib.hid h1; clear h1
              go_wp2_with fail
              refine (KM1.out w1 H1.out).mono ?_
              rintro x w2 ⟨rfl, h2⟩
              have H2 := Lib.hid (H1.out.trans h2); clear h2
              go_wp2_with fail
              refine (KM2.out w2 H2.out).mono ?_
              rintro x w3 ⟨rfl, h3⟩
              have H3 := Lib.hid (H2.out.trans h3); clear h3
              go_wp2_with fail
              refine (KH2.out w3 H3.out).mono ?_
              rintro x w4 ⟨rfl, h4⟩
              have H4 := Lib.hid (H3.out.trans h4); clear h4
              go_wp2
              unfold CpPost
              rw [HC.out]
              exact ⟨rfl, rfl, _, H4.out⟩
            · have b2 : decide ((56320 : Int) ≤ (r : Int)) = false := decide_eq_false (by omega)
              by_cases hlo : low < 56320
              · have HC := Lib.hid (HCN.out (.inr (by rw [HL.out, hf2]; simp only; rw [if_neg (by omega)])))
                have b3 : decide ((low : Int) < 56320) = true := decide_eq_true (by omega)
                clear hf2
                go_enter Tryz.func193, Tryz.ntmps193
                go_wp2_with fail
                refine KH.out.mono ?_
                rintro x w1 ⟨rfl, h1⟩
                have H1 := Lib.hid h1; clear h1
                go_wp2_with fail
                refine (KM1.out w1 H1.out).mono ?_
                rintro x w2 ⟨rfl, h2⟩
                have H2 := Lib.hid (H1.out.trans h2); clear h2
                go_wp2_with fail
                refine (KM2.out w2 H2.out).mono ?_
                rintro x w3 ⟨rfl, h3⟩
                have H3 := Lib.hid (H2.out.trans h3); clear h3
                go_wp2_with fail
                refine (KH2.out w3 H3.out).mono ?_
                rintro x w4 ⟨rfl, h4⟩
                have H4 := Lib.hid (H3.out.trans h4); clear h4
                go_wp2
                unfold CpPost
                rw [HC.out]
                exact ⟨rfl, rfl, _, H4.out⟩
              · have b3 : decide ((low : Int) < 56320) = false := decide_eq_false (by omega)
                by_cases hhi : 57343 < low
                · have HC := Lib.hid (HCN.out (.inr (by rw [HL.out, hf2]; simp only; rw [if_neg (by omega)])))
                  have b4 : decide ((57343 : Int) < (low : Int)) = true := decide_eq_true (by omega)
                  clear hf2
                  go_enter Tryz.func193, Tryz.ntmps193
                  go_wp2_with fail
                  refine KH.out.mono ?_
                  rintro x w1 ⟨rfl, h1⟩
                  have H1 := Lib.hid h1; clear h1
                  go_wp2_with fail
                  refine (KM1.out w1 H1.out).mono ?_
                  rintro x w2 ⟨rfl, h2⟩
                  have H2 := Lib.hid (H1.out.trans h2); clear h2
                  go_wp2_with fail
                  refine (KM2.out w2 H2.out).mono ?_
                  rintro x w3 ⟨rfl, h3⟩
                  have H3 := Lib.hid (H2.out.trans h3); clear h3
                  go_wp2_with fail
                  refine (KH2.out w3 H3.out).mono ?_
                  rintro x w4 ⟨rfl, h4⟩
                  have H4 := Lib.hid (H3.out.trans h4); clear h4
                  go_wp2
                  unfold CpPost
                  rw [HC.out]
                  exact ⟨rfl, rfl, _, H4.out⟩
                · have HC := Lib.hid (HCY.out low (by rw [HL.out, hf2]; simp only; rw [if_pos (by omega)]) (by omega))
                  have b4 : decide ((57343 : Int) < (low : Int)) = false := decide_eq_false (by omega)
                  have hv : (65536 : Int) + ((r : Int) - 55296) * 1024 + ((low : Int) - 56320) = ((65536 + (r - 55296) * 1024 + (low - 56320) : Nat) : Int) := by omega
                  have HV := Lib.hid hv
                  have c1 : (56320 : Int) ≤ (low : Int) := by omega
                  have c2 : (low : Int) ≤ 57343 := by omega
                  have c3 : (r : Int) < 56320 := by omega
                  clear hf2 hv
                  go_enter Tryz.func193, Tryz.ntmps193
                  go_wp2_with fail
                  refine KH.out.mono ?_
                  rintro x w1 ⟨rfl, h1⟩
                  have H1 := Lib.hid h1; clear h1
                  go_wp2_with fail
                  refine (KM1.out w1 H1.out).mono ?_
                  rintro x w2 ⟨rfl, h2⟩
                  have H2 := Lib.hid (H1.out.trans h2); clear h2
                  go_wp2_with fail
                  refine (KM2.out w2 H2.out).mono ?_
                  rintro x w3 ⟨rfl, h3⟩
                  have H3 := Lib.hid (H2.out.trans h3); clear h3
                  go_wp2_with fail
                  refine (KH2.out w3 H3.out).mono ?_
                  rintro x w4 ⟨rfl, h4⟩
                  have H4 := Lib.hid (H3.out.trans h4); clear h4
                  go_wp2
                  go_ret
                  unfold CpPost
                  rw [HC.out]
                  refine ⟨?_, H4.out⟩
                  simp only
                  rw [← HV.out]
                  rfl
        · have KM2 := Lib.hid (fun W (h : Stepd g ((n + 5 : Nat) : Int) w W) => must_no g s ((n + 5 : Nat) : Int) W 117 hs (HRD.out _ W h) (by omega) (by
            intro m hm; obtain rfl : n + 5 = m := by omega
            exact hB))
          have HC := Lib.hid (HCN.out (.inr (by
            unfold lowL; rw [if_neg]
            intro h; exact hB ((bt_tail (s := s) (k := n + 4) (j := 1) (c := 117) (by decide)).1 h.2))))
          clear hA hB hAk hA2
          go_enter Tryz.func193, Tryz.ntmps193
          go_wp2_with fail
          refine KH.out.mono ?_
          rintro x w1 ⟨rfl, h1⟩
          have H1 := Lib.hid h1; clear h1
          go_wp2_with fail
          refine (KM1.out w1 H1.out).mono ?_
          rintro x w2 ⟨rfl, h2⟩
          have H2 := Lib.hid (H1.out.trans h2); clear h2
          go_wp2_with fail
          refine (KM2.out w2 H2.out).mono ?_
          rintro x w3 ⟨rfl, q, h3⟩
          have H3 := Lib.hid (H2.out.trans h3); clear h3
          go_wp2
          unfold CpPost
          rw [HC.out]
          exact ⟨rfl, rfl, _, H3.out⟩
      · have KM1 := Lib.hid (fun W (h : Stepd g ((n + 4 : Nat) : Int) w W) => must_no g s ((n + 4 : Nat) : Int) W 92 hs (HRD.out _ W h) (by omega) (by
          intro m hm; obtain rfl : n + 4 = m := by omega
          exact hA))
        have HC := Lib.hid (HCN.out (.inr (by
          unfold lowL; rw [if_neg]
          intro h; exact hA ((bt_tail (s := s) (k := n + 4) (j := 0) (c := 92) (by decide)).1 h.1))))
        clear hA
        go_enter Tryz.func193, Tryz.ntmps193
        go_wp2_with fail
        refine KH.out.mono ?_
        rintro x w1 ⟨rfl, h1⟩
        have H1 := Lib.hid h1; clear h1
        go_wp2_with fail
        refine (KM1.out w1 H1.out).mono ?_
        rintro x w2 ⟨rfl, q, h2⟩
        have H2 := Lib.hid (H1.out.trans h2); clear h2
        go_wp2
        unfold CpPost
        rw [HC.out]
        exact ⟨rfl, rfl, _, H2.out⟩
end Go.Proofs.YtgolidabjcmofaaGreatDoor
