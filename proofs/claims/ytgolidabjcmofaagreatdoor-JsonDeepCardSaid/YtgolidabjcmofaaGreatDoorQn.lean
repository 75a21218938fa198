/- Texts of the claim. -/
import Derived.Test.YtgolidabjcmofaaGreatDoorQm
import Derived.Deep.QuietTactic
import Derived.BigQuiet
namespace Go.Proofs.YtgolidabjcmofaaGreatDoor
open Go.RowKit Go.Shelf Go.Lib
set_option linter.unusedVariables false
set_option linter.unusedSimpArgs false
theorem cpL_ok {l : List UInt8} {p : Nat × Nat} (h : cpL l = some p) : okR (p.1 : Int) = true ∧ p.2 ≤ 10 := by
  unfold cpL at h
  cases hf : fourL l with
  | none => rw [hf] at h; cases h
  | some r =>
    rw [hf] at h
    have hlt := fourL_lt hf
    simp only at h
    split at h
    · cases h; rw [okR_iff]; simp only; omega
    · split at h
      · cases h
      · cases hl : lowL (l.drop 4) with
        | none => rw [hl] at h; cases h
        | some low =>
          rw [hl] at h
          have := lowL_len hl
          simp only [Option.some.injEq] at h
          subst h
          rw [okR_iff]; simp only; omega
theorem putS_ok {r : Int} (h : okR r = true) : putS r = ⟨(enc r).toArray⟩ := by unfold putS; rw [h]; rfl
def EsPost (g : Nat) (r : Option (List UInt8 × Nat)) (n : Nat) (w : World) (e : Ending) (w' : World) : Prop :=
  match r with
  | some p => e = .returned (.string ⟨p.1.toArray⟩) ∧ Stepd g ((n + p.2 : Nat) : Int) w w'
  | none => ThrowsR g w e w'
theorem index_not (c : UInt8) (h : ¬ (c.toNat = 34 ∨ c.toNat = 92 ∨ c.toNat = 98 ∨ c.toNat = 102 ∨ c.toNat = 110 ∨ c.toNat = 114 ∨ c.toNat = 116)) : Lib.indexByte (⟨#[34, 92, 98, 102, 110, 114, 116]⟩ : ByteArray).data.toList c = -1 := by
  have key : ∀ k : UInt8, c.toNat ≠ k.toNat → (k == c) = false := by
    intro k hk; rw [beq_eq_false_iff_ne]; intro e; exact hk (by rw [e])
  simp only [Lib.indexByte, key 34 (by intro e; simp at e; omega), key 92 (by intro e; simp at e; omega), key 98 (by intro e; simp at e; omega), key 102 (by intro e; simp at e; omega), key 110 (by intro e; simp at e; omega), key 114 (by intro e; simp at e; omega), key 116 (by intro e; simp at e; omega)]
  rfl
set_option maxHeartbeats 2000000 in
set_option maxRecDepth 100000 in
theorem escaped_any (g : Nat) (s : ByteArray) (n : Nat) (w : World) (hs : s.size ≤ 1000000) (hr : Rdr g s n w) (hn : n ≤ 1000000) :
    Calls Tryz.prog 164 #[.pointer (some ⟨g, 0, none⟩)] w (EsPost g (escL (tailL s n)) n w) := by
  have HRD := Lib.hid (fun (k : Nat) W (h : Stepd g (k : Int) w W) => h.rdr hr)
  by_cases hl : n < s.size
  · have KT := Lib.hid (take_yes g s n w hs hr hl _ rfl)
    have HT := Lib.hid (tail_cons hl)
    generalize s[n]'hl = c at *
    rw [HT.out]
    by_cases hu : c.toNat = 117
    · have KC := Lib.hid (fun W (h : Stepd g ((n + 1 : Nat) : Int) w W) => codePoint_any g s (n + 1) W hs (HRD.out _ W h) (by omega))
      have HE := Lib.hid (escL_u hu (tailL s (n + 1)))
      have hc : c = 117 := UInt8.toNat_inj.1 hu
      subst hc
      clear hr hu
      cases hp : cpL (tailL s (n + 1)) with
      | none =>
        rw [hp] at KC
        have HN := Lib.hid (show escL (117 :: tailL s (n + 1)) = none by rw [HE.out, hp]; rfl)
        clear hp
        unfold CpPost at KC
        go_enter Tryz.func164, Tryz.ntmps164
        go_wp2_with fail
        refine KT.out.mono ?_
        rintro x w1 ⟨rfl, h1⟩
        have H1 := Lib.hid h1; clear h1
        go_wp2_with fail
        refine (KC.out w1 H1.out).mono ?_
        rintro x w2 ⟨rfl, q, h2⟩
        have H2 := Lib.hid (H1.out.trans h2); clear h2
        go_wp2
        unfold EsPost
        rw [HN.out]
        exact ⟨rfl, rfl, _, H2.out⟩
      | some p =>
        obtain ⟨r, m⟩ := p
        rw [hp] at KC
        have HN := Lib.hid (show escL (117 :: tailL s (n + 1)) = some (enc (r : Int), m + 1) by rw [HE.out, hp]; rfl)
        have hok := (cpL_ok hp).1
        have HP := Lib.hid (putS_ok hok)
        clear hp hok
        have KP := Lib.hid (fun W => put_any (r : Int) W)
        unfold CpPost at KC
        go_enter Tryz.func164, Tryz.ntmps164
        go_wp2_with fail
        refine KT.out.mono ?_
        rintro x w1 ⟨rfl, h1⟩
        have H1 := Lib.hid h1; clear h1
        go_wp2_with fail
        refine (KC.out w1 H1.out).mono ?_
        rintro x w2 ⟨rfl, h2⟩
        have H2 := Lib.hid (H1.out.trans h2); clear h2
        go_wp2_with fail
        refine (KP.out w2).mono ?_
        rintro x w3 ⟨rfl, rfl⟩
        go_wp2
        go_ret
        unfold EsPost
        rw [HN.out, HP.out]
        refine ⟨rfl, ?_⟩
        have := H2.out
        rw [show n + 1 + m = n + (m + 1) by omega] at this
        exact this
    · by_cases h7 : c.toNat = 47
      · have hc : c = 47 := UInt8.toNat_inj.1 h7
        subst hc
        clear hr hu h7
        go_enter Tryz.func164, Tryz.ntmps164
        go_wp2_with fail
        refine KT.out.mono ?_
        rintro x w1 ⟨rfl, h1⟩
        have H1 := Lib.hid h1; clear h1
        go_wp2
        go_ret
        exact ⟨rfl, H1.out⟩
      · have KI := Lib.hid (fun W => Tryz.strings_IndexByte ⟨#[34, 92, 98, 102, 110, 114, 116]⟩ ((c.toNat : Nat) : Int) W)
        have e : (((c.toNat : Nat) : Int)).toNat.toUInt8 = c := by simp
        rw [e] at KI
        have b1 : ((c.toNat : Int) == 117) = false := by rw [beq_eq_false_iff_ne]; omega
        have b2 : ((c.toNat : Int) == 47) = false := by rw [beq_eq_false_iff_ne]; omega
        clear e
        by_cases h1 : c.toNat = 34 ∨ c.toNat = 92 ∨ c.toNat = 98 ∨ c.toNat = 102 ∨ c.toNat = 110 ∨ c.toNat = 114 ∨ c.toNat = 116
        · have hofn : ∀ k : Nat, c.toNat = k → c = UInt8.ofNat k := by intro k hk; subst hk; simp
          rcases h1 with h1 | h1 | h1 | h1 | h1 | h1 | h1
          all_goals
            have h2 := hofn _ h1
            clear h1 hofn hr hu h7 b1 b2
            subst h2
            go_enter Tryz.func164, Tryz.ntmps164
            go_wp2_with fail
            refine KT.out.mono ?_
            rintro x w1 ⟨rfl, h1⟩
            have H1 := Lib.hid h1; clear h1
            go_wp2_with fail
            refine (KI.out w1).mono ?_
            rintro x w2 ⟨rfl, rfl⟩
            dsimp only [Lib.indexByte]
            go_wp2
            go_ret
            exact ⟨rfl, H1.out⟩
        · rw [index_not c h1] at KI
          have HN := Lib.hid (show escL (c :: tailL s (n + 1)) = none by
            simp only [escL, if_neg hu]
            have : simpleE c.toNat = none := by
              unfold simpleE
              simp only [show ¬ c.toNat = 34 by omega, show ¬ c.toNat = 92 by omega, show ¬ c.toNat = 47 by omega, show ¬ c.toNat = 98 by omega, show ¬ c.toNat = 102 by omega, show ¬ c.toNat = 110 by omega, show ¬ c.toNat = 114 by omega, show ¬ c.toNat = 116 by omega, if_false]
            rw [this])
          clear hr hu h7 h1
          go_enter Tryz.func164, Tryz.ntmps164
          go_wp2_with fail
          refine KT.out.mono ?_
          rintro x w1 ⟨rfl, h1⟩
          have H1 := Lib.hid h1; clear h1
          go_wp2_with fail
          refine (KI.out w1).mono ?_
          rintro x w2 ⟨rfl, rfl⟩
          go_wp2
          unfold EsPost
          rw [HN.out]
          exact ⟨rfl, rfl, _, H1.out⟩
  · have KT := Lib.hid (take_no g s n w hs hr (by omega) (by omega))
    have HN := Lib.hid (show escL (tailL s n) = none by rw [tailL_end (by omega)]; rfl)
    clear hr
    go_enter Tryz.func164, Tryz.ntmps164
    go_wp2_with fail
    refine KT.out.mono ?_
    rintro x w1 ⟨rfl, q, h1⟩
    have H1 := Lib.hid h1; clear h1
    go_wp2
    unfold EsPost
    rw [HN.out]
    exact ⟨rfl, rfl, _, H1.out⟩
end Go.Proofs.YtgolidabjcmofaaGreatDoor
namespace Go.Proofs.YtgolidabjcmofaaGreatDoor
open Go.RowKit Go.Shelf Go.Lib
set_option linter.unusedVariables false
set_option linter.unusedSimpArgs false
def PlPost (g : Nat) (s : ByteArray) (n N : Nat) (ok : Bool) (w : World) (e : Ending) (w' : World) : Prop :=
  if ok = true then e = .returned (.string (s.extract n (n + N))) ∧ Stepd g ((n + N : Nat) : Int) w w' else ThrowsR g w e w'
theorem below_drewNJ (w : World) (n : Nat) : Below w.heap.size w (w.drewN n) := ⟨rfl, rfl, rfl, Nat.le_refl _, fun _ _ => rfl⟩
theorem run_list (s : ByteArray) (n N : Nat) : (s.extract n (n + N)).data.toList = (tailL s n).take N := by
  rw [ByteArray.data_extract, Array.toList_extract]
  simp [tailL, List.extract_eq_take_drop]
set_option maxHeartbeats 2000000 in
set_option maxRecDepth 100000 in
theorem plain_any (g : Nat) (s : ByteArray) (n : Nat) (w : World) (hs : s.size ≤ 1000000) (hr : Rdr g s n w) (hn : n ≤ s.size) (hT : UT w) :
    Calls Tryz.prog 162 #[.pointer (some ⟨g, 0, none⟩)] w (PlPost g s n (plainN (tailL s n)) (validL ((tailL s n).take (plainN (tailL s n)))) w) := by
  have HRD := Lib.hid (fun (k : Nat) W (h : Stepd g (k : Int) w W) => h.rdr hr)
  have HSB := Lib.hid (fun W (h : Below w.heap.size w W) => Stepd.of_below hr h)
  have hlt := hr.lt
  have hst : (s.extract n s.size).data.toList = tailL s n := extract_list s n
  have hle := plainN_le (tailL s n)
  rw [tailL_length] at hle
  have KP := Lib.hid (fun W => (plainBytes_any (s.extract n s.size) W (by unfold maxLen; rw [ByteArray.size_extract]; omega)).mono (R' := fun e w' => e = .returned (.int .i64 ((plainN (tailL s n) : Nat) : Int)) ∧ w' = W) fun _ _ h => by rw [hst] at h; exact ⟨h.1, h.2.symm⟩)
  have KV := Lib.hid (fun W (h : UT W) => valid_any (s.extract n (n + plainN (tailL s n))) W (by unfold maxLen; rw [ByteArray.size_extract]; omega) h)
  rw [run_list] at KV
  have HUT := Lib.hid (fun W (h : Below w.heap.size w W) => hT.below h)
  obtain ⟨c0, c1, f1⟩ := hr
  clear hst hT
  generalize hN : plainN (tailL s n) = N at *
  have HN := Lib.hid hN; clear hN
  have hsum : IntKind.i64.wrap ((n : Int) + (N : Int)) = ((n + N : Nat) : Int) := by
    rw [IntWalk.i64_in _ (by omega)]; rfl
  have hnz : (n : Int) ≤ (s.size : Int) := by omega
  have hnN : (n : Int) ≤ ((n + N : Nat) : Int) := by omega
  have hNz : ((n + N : Nat) : Int) ≤ (s.size : Int) := by omega
  have hNz2 : n + N ≤ s.size := by omega
  cases hv : validL ((tailL s n).take N)
  · rw [hv] at KV
    clear hv
    go_enter Tryz.func162, Tryz.ntmps162
    go_wp2
    go_quiet ((go_at_call 102; exact Calls.quiet_of_same (KP.out _)))
    go_wp2
    go_region
    go_wp2_with fail
    refine (KV.out _ (HUT.out _ (below_drewNJ w _))).mono ?_
    rintro r w1 ⟨rfl, h1⟩
    have HB := Lib.hid ((below_drewNJ w _).trans h1); clear h1
    go_wp2
    exact ⟨rfl, rfl, _, HSB.out _ HB.out⟩
  · rw [hv] at KV
    clear hv
    go_enter Tryz.func162, Tryz.ntmps162
    go_wp2
    go_quiet ((go_at_call 102; exact Calls.quiet_of_same (KP.out _)))
    go_wp2
    go_region
    go_wp2_with fail
    refine (KV.out _ (HUT.out _ (below_drewNJ w _))).mono ?_
    rintro r w1 ⟨rfl, h1⟩
    have hb := (below_drewNJ w _).trans h1
    have d1 : w1.cell? ⟨g, 1, none⟩ = some (.int .i64 (n : Int)) := by rw [hb.cell (p := ⟨g, 1, none⟩) hlt]; exact c1
    have e1 : w1.frozen? ⟨g, 1, none⟩ = false := by rw [hb.frozen (p := ⟨g, 1, none⟩) hlt]; exact f1
    have HF := Lib.hid ((HSB.out _ hb).trans (show Stepd g ((n + N : Nat) : Int) w1 (w1.setCell ⟨g, 1, none⟩ (.int .i64 ((n + N : Nat) : Int))) from Below.refl _ _))
    clear h1 hb c0 c1 f1
    go_wp2
    go_ret
    exact ⟨rfl, HF.out⟩
end Go.Proofs.YtgolidabjcmofaaGreatDoor
