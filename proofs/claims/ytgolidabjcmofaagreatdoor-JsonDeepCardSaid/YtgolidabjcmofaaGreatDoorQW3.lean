/- Texts of the claim. -/
import Derived.Test.YtgolidabjcmofaaGreatDoorQh
import Derived.Test.YtgolidabjcmofaaGreatDoorQo
namespace Go.Proofs.YtgolidabjcmofaaGreatDoor
open Go.RowKit Go.Shelf Go.Lib
set_option linter.unusedVariables false
set_option linter.unusedSimpArgs false
def textL (l : List UInt8) : (List UInt8 × List UInt8) ⊕ Int :=
  match unqAt ⟨l.toArray⟩ 0 with
  | none => .inr 2
  | some (t, k) => if t.length > 2000 then .inr 4 else .inl (t, l.drop k)
theorem unqF_le : ∀ (f : Nat) (l : List UInt8) (p : List UInt8 × Nat), unqF f l = some p → p.2 ≤ l.length := by
  intro f
  induction f with
  | zero => intro l p h; cases h
  | succ f ih =>
    intro l p h
    cases l with
    | nil => cases h
    | cons c l =>
      have key : ∀ (x : List UInt8) (n : Nat) (r : List UInt8), glue x n (unqF f r) = some p → n + r.length ≤ (c :: l).length → p.2 ≤ (c :: l).length := by
        intro x n r hg hn
        unfold glue at hg
        obtain ⟨q, hq, rfl⟩ := Option.map_eq_some_iff.1 hg
        have := ih _ _ hq
        simp only; omega
      have hrun := runeL_width (c :: l) (by simp)
      unfold unqF at h
      simp only at h
      split at h
      · simp only [Option.some.injEq] at h; subst h; simp
      · split at h
        · cases he : escL l with
          | none => rw [he] at h; cases h
          | some y =>
            obtain ⟨x, n⟩ := y
            rw [he] at h
            simp only at h
            have := escL_len he
            exact key _ _ _ h (by simp only [List.length_drop, List.length_cons]; omega)
        · split at h
          · cases h
          · exact key _ _ _ h (by rw [List.length_drop]; omega)
theorem unqAt_le {s : ByteArray} {k : Int} {p : List UInt8 × Nat} (h : unqAt s k = some p) : p.2 ≤ s.size := by
  unfold unqAt at h
  split at h
  · rename_i h0
    obtain ⟨q, hq, rfl⟩ := Option.map_eq_some_iff.1 h
    have := unqF_le _ _ q (by unfold unqL at hq; exact hq)
    rw [tailL_length] at this
    have h2 := (List.getElem?_eq_some_iff.1 h0.2).1
    simp at h2
    simp only; omega
  · cases h
def TextJ (g : Nat) (l : List UInt8) (d n : Nat) (w : World) (e : Ending) (w' : World) : Prop :=
  match textL l with
  | .inl (t, r) => e = .returned (.string ⟨t.toArray⟩) ∧ StJ g r d n w w'
  | .inr x => ThrowJ x g w e w'
theorem TextJ.yes {g : Nat} {l t r : List UInt8} {d n : Nat} {w w' : World} {e : Ending} (h : textL l = .inl (t, r)) (he : e = .returned (.string ⟨t.toArray⟩)) (hs : StJ g r d n w w') : TextJ g l d n w e w' := by
  unfold TextJ; rw [h]; exact ⟨he, hs⟩
theorem TextJ.no {g : Nat} {l : List UInt8} {d n : Nat} {w w' : World} {e : Ending} {x : Int} (h : textL l = .inr x) (hs : ThrowJ x g w e w') : TextJ g l d n w e w' := by
  unfold TextJ; rw [h]; exact hs
theorem str_drop (l : List UInt8) (k : Nat) (hk : k ≤ l.length) : ({ data := l.toArray } : ByteArray).extract k ({ data := l.toArray } : ByteArray).size = { data := (l.drop k).toArray } := by
  apply ByteArray.ext
  apply Array.ext'
  simp [ByteArray.data_extract, ByteArray.size, List.take_of_length_le]
theorem str_size (l : List UInt8) : ({ data := l.toArray } : ByteArray).size = l.length := by simp [ByteArray.size]
set_option maxHeartbeats 1000000 in
theorem text_anyj (g : Nat) (l : List UInt8) (d n : Nat) (w : World) (hl : l.length ≤ 1000000) (hr : RdJ g l d n w) (hT : UT w) :
    Calls Tryz.prog 48 #[.pointer (some ⟨g, 0, none⟩)] w (TextJ g l d n w) := by
  have K := Lib.hid (unquote_any ⟨l.toArray⟩ 0 w (by rw [str_size]; exact hl) (by decide) hT)
  have H0 := Lib.hid hr
  have c0 := hr.c0
  have f0 := hr.fz 0
  clear hr hT
  go_enter Tryz.func48, Tryz.ntmps48
  go_wp2_with fail
  refine K.out.mono ?_
  intro r w1 hp
  clear c0 f0 K
  cases hq : unqAt ⟨l.toArray⟩ 0 with
  | none =>
    rw [hq] at hp
    obtain ⟨rfl, hb⟩ := hp
    have HB := Lib.hid (StJ.of_below H0.out hb)
    have HT : Hid (textL l = .inr 2) := Lib.hid (by unfold textL; rw [hq])
    clear hb hq
    go_wp2
    exact ⟨rfl, TextJ.no HT.out ⟨rfl, _, _, _, HB.out⟩⟩
  | some p =>
    obtain ⟨t, k⟩ := p
    rw [hq] at hp
    obtain ⟨rfl, hb⟩ := hp
    have hk := unqAt_le hq
    rw [str_size] at hk
    have hk : k ≤ l.length := hk
    have HB := Lib.hid (StJ.of_below H0.out hb)
    have hts := str_size t
    by_cases h2 : t.length > 2000
    · have HT : Hid (textL l = .inr 4) := Lib.hid (by unfold textL; rw [hq]; simp [h2])
      have b2 : decide ((2000 : Int) < (t.length : Int)) = true := decide_eq_true (by omega)
      clear hb hq h2
      generalize ({ data := t.toArray } : ByteArray) = ts at *
      go_wp2
      exact ⟨rfl, TextJ.no HT.out ⟨rfl, _, _, _, HB.out⟩⟩
    · have HT : Hid (textL l = .inl (t, l.drop k)) := Lib.hid (by unfold textL; rw [hq]; simp [h2])
      have b2 : decide ((2000 : Int) < (t.length : Int)) = false := decide_eq_false (by omega)
      have c0 := HB.out.rd.c0
      have f0 := HB.out.rd.fz 0
      have hsz := str_size l
      have hext := str_drop l k hk
      rw [hsz] at hext
      have HL := Lib.hid (HB.out.left (l' := l.drop k))

      clear hb hq h2
      generalize hts' : ({ data := t.toArray } : ByteArray) = ts at *
      generalize ({ data := l.toArray } : ByteArray) = s at *
      clear HB H0
      have HTS := Lib.hid hts'; clear hts'
      go_wp2
      go_ret
      refine TextJ.yes HT.out (by rw [HTS.out]; rfl) ?_
      exact HL.out
end Go.Proofs.YtgolidabjcmofaaGreatDoor
