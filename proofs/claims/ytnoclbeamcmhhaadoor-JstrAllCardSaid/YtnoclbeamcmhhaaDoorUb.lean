/- Chapter 4's own Runes, Valid, Join. -/
import Derived.Test.YtnoclbeamcmhhaaDoorUa
namespace Go.Proofs.YtnoclbeamcmhhaaDoor
open Go.RowKit Go.Shelf Go.Lib
set_option linter.unusedVariables false
set_option linter.unusedSimpArgs false

/-- What holds from round to round of Runes. -/
def QR (s : ByteArray) (B : Nat) (w : World) (k : Nat) (v a : Value) (wr : World) : Prop :=
  ∃ pos acc, s.size - pos ≤ k ∧ a = .int .i64 ((pos : Nat) : Int) ∧ acc ++ runesL (tailL s pos) = runesL s.data.toList ∧ acc.length ≤ pos ∧ pos ≤ s.size ∧ wr.ownsRow B 21 1 v acc.length (rv acc) ∧ Below B w wr
theorem QR.step {s : ByteArray} {B : Nat} {w wr w' : World} {k pos : Nat} {acc : List Int} {v v' : Value} {o : Obj} (hp : pos < s.size) (hk : s.size - pos ≤ k + 1) (ha : acc ++ runesL (tailL s pos) = runesL s.data.toList) (hl : acc.length ≤ pos)
    (ho : wr.ownsRow B 21 1 v acc.length (rv acc)) (hb : Below B w wr) (hB : B ≤ wr.heap.size)
    (h1 : w'.ownsRow B 21 1 v' (acc.length + 1) (rv acc ++ [.int .i32 (runeL (tailL s pos)).1])) (h2 : (wr.alloc o).grownBy w' v.ownBlock) : QR s B w k v' (.int .i64 ((pos + (runeL (tailL s pos)).2 : Nat) : Int)) w' := by
  have hw := runeL_width (tailL s pos) (tailL_ne hp)
  rw [tailL_length] at hw
  refine ⟨pos + (runeL (tailL s pos)).2, acc ++ [(runeL (tailL s pos)).1], by omega, rfl, ?_, by simp; omega, by omega, ?_, ?_⟩
  · rw [← ha, runesL_cons (tailL_ne hp), tailL_drop]; simp
  · simpa [rv] using h1
  · exact (hb.alloc hB o).grown h2 (by simp; omega) (fun g hg => (ho.lt g hg).1)

set_option maxHeartbeats 1000000 in
theorem refRunes_any (s : ByteArray) (w : World) (hs : s.size ≤ 1000000) :
    Calls Tryd.prog 56 #[.string s] w (RunesPost (runesL s.data.toList) w) := by
  have hst : QR s w.heap.size w s.size (.slice none 0 0) (.int .i64 0) w :=
    ⟨0, [], by omega, rfl, by rw [tailL_zero]; rfl, Nat.le_refl _, Nat.zero_le _, World.ownsRow_nil _ _ _ _, Below.refl _ _⟩
  have HST := Lib.hid hst; clear hst
  have HUN := Lib.hid (fun W (h : Below w.heap.size w W) => h.size)
  generalize hB : w.heap.size = B at *
  have HB := Lib.hid hB; clear hB
  go_enter Tryd.func56, Tryd.ntmps56
  go_wp2
  go_loopg [3, 4] s.size (fun k v a wr => QR s B w k v a wr)
  case atStart => exact HST.out
  case round =>
    obtain ⟨pos, acc, hk, rfl, ha, hl, hps, ho, hb⟩ := hrel
    have HA := Lib.hid ha; have HO := Lib.hid ho; have HBL := Lib.hid hb
    clear ha ho hb
    by_cases hp : pos < s.size
    · obtain ⟨k, rfl⟩ : ∃ k, gk = k + 1 := ⟨gk - 1, by omega⟩
      have hw := runeL_width (tailL s pos) (tailL_ne hp)
      rw [tailL_length] at hw
      have KR := Lib.hid ((refRune_in s pos wr hs hp).mono fun _ _ h => h.below)
      have hpz : (pos : Int) < (s.size : Int) := by omega
      have HS := Lib.hid (fun W o v' W' p1 p2 p3 => QR.step (s := s) (B := B) (w := w) (wr := W) (k := k) (v := u3) (v' := v') (o := o) (w' := W') hp hk HA.out hl p1 p2 (HUN.out W p2) p3)
      generalize hd : (runeL (tailL s pos)).1 = x at *
      generalize hm : (runeL (tailL s pos)).2 = m at *
      clear hd hm
      go_wp2_with fail
      refine KR.out.mono ?_
      rintro r w1 ⟨rfl, h1⟩
      have ho1 := Lib.hid (own_below HO.out h1)
      have hb1 := Lib.hid (HBL.out.trans (h1.mono (HUN.out _ HBL.out)))
      clear h1
      go_wp2_with (at_builtin; refine wpl_app _ rfl _ _ rfl B _ acc.length (rv acc) rfl (ho1.out.alloc _) w1.heap.size x rfl (by simp) (by omega) (by have := HUN.out _ hb1.out; simp; omega) ?_)
      intro v' w4 ho4 hg4
      have hr1 := HS.out w1 _ v' w4 ho1.out hb1.out ho4 hg4
      rw [Int.natCast_add] at hr1
      have HR := Lib.hid hr1; clear hr1
      clear ho4 hg4
      go_wp2
      go_roundg k
      case rel => exact HR.out
      case measure => omega
    · have hpz : ¬ (pos : Int) < (s.size : Int) := by omega
      have hac : acc = runesL s.data.toList := by rw [← HA.out, tailL_end (by omega), runesL_nil, List.append_nil]
      have HR := Lib.hid (show RunesPost (runesL s.data.toList) w (.returned u3) wr from ⟨_, rfl, by rw [HB.out, ← hac]; exact HO.out, by rw [HB.out]; exact HBL.out⟩)
      clear hac
      go_wp2
      go_ret
      exact HR.out

theorem valid_get {l : List UInt8} : validL l = true ↔ ∀ i, i < (runesL l).length → 0 ≤ (runesL l).getD i 0 := by
  unfold validL
  rw [List.all_eq_true]
  constructor
  · intro h i hi
    have := h (runesL l)[i] (List.getElem_mem hi)
    simpa [List.getD, hi] using this
  · intro h r hr
    obtain ⟨i, hi, rfl⟩ := List.getElem_of_mem hr
    have := h i hi
    simpa [List.getD, hi] using this
/-- What holds from round to round of Valid. -/
def PR (X : List Int) (w : World) (k : Nat) (v : Value) (wr : World) : Prop := ∃ i, X.length - i ≤ k ∧ i ≤ X.length ∧ v = .int .i64 ((i : Nat) : Int) ∧ (∀ j, j < i → 0 ≤ X.getD j 0) ∧ wr = w

set_option maxHeartbeats 1000000 in
theorem refValid_any (s : ByteArray) (w : World) (hs : s.size ≤ 1000000) :
    Calls Tryd.prog 28 #[.string s] w fun e w' => e = .returned (.bool (validL s.data.toList)) ∧ Below w.heap.size w w' := by
  have KR := Lib.hid (refRunes_any s w hs)
  have hlen := runesL_le s.data.toList
  have hsz : s.data.toList.length = s.size := by simp
  rw [hsz] at hlen
  have HV := Lib.hid (valid_get (l := s.data.toList))
  clear hsz
  go_enter Tryd.func28, Tryd.ntmps28
  go_wp2_with fail
  refine KR.out.mono ?_
  rintro r w1 ⟨v, rfl, ho, hb⟩
  obtain ⟨ad, cap, rfl, hc, hr⟩ := own_rk ho
  have HR := Lib.hid hr; have HB := Lib.hid hb; have HC := Lib.hid hc
  clear ho hr hb hc
  generalize hX : runesL s.data.toList = X at *
  have HX := Lib.hid hX; clear hX
  go_wp2
  go_loopg [4] X.length (fun k v wr => PR X w1 k v wr)
  case atStart => exact ⟨0, by omega, Nat.zero_le _, rfl, fun j hj => by omega, rfl⟩
  case round =>
    obtain ⟨i, hk, hi, rfl, hpos, rfl⟩ := hrel
    have HP := Lib.hid hpos; clear hpos
    by_cases hp : i < X.length
    · obtain ⟨k, rfl⟩ : ∃ k, gk = k + 1 := ⟨gk - 1, by omega⟩
      obtain ⟨b1, o1, hd1, _, c1⟩ := HR.out i hp
      subst hd1
      have hpz : (i : Int) < (X.length : Int) := by omega
      have HS := Lib.hid (fun (h : 0 ≤ X.getD i 0) j (hj : j < i + 1) => (by
        by_cases e : j = i
        · subst e; exact h
        · exact HP.out j (by omega) : 0 ≤ X.getD j 0))
      have HF := Lib.hid (fun (h : ¬ 0 ≤ X.getD i 0) => (by
        cases hv : validL s.data.toList
        · rfl
        · exact absurd (HV.out.1 hv i hp) h : validL s.data.toList = false))
      generalize X.getD i 0 = y at *
      by_cases hy : y < 0
      · have HF2 := Lib.hid (HF.out (by omega))
        have hyb : decide (y < 0) = true := decide_eq_true hy
        go_wp2
        go_ret
        exact ⟨by rw [HF2.out]; rfl, HB.out⟩
      · have HS2 := Lib.hid (HS.out (by omega))
        have hyb : decide (y < 0) = false := decide_eq_false hy
        go_wp2
        go_roundg k
        case rel => exact ⟨i + 1, by omega, by omega, by go_num, HS2.out, rfl⟩
        case measure => omega
    · have hpz : ¬ (i : Int) < (X.length : Int) := by omega
      have HF2 := Lib.hid (HV.out.2 (fun j hj => HP.out j (by omega)))
      go_wp2
      go_ret
      exact ⟨by rw [HF2.out]; rfl, HB.out⟩

/-- What holds from round to round of Join. -/
def SR (rs : List Int) (w : World) (k : Nat) (t v : Value) (wr : World) : Prop :=
  ∃ i, rs.length - i ≤ k ∧ i ≤ rs.length ∧ v = .int .i64 ((i : Nat) : Int) ∧ okAll (rs.take i) = true ∧ t = .string ⟨(joinL (rs.take i)).toArray⟩ ∧ Below w.heap.size w wr
theorem str_app (a : List UInt8) {r : Int} (h : okR r = true) : (⟨a.toArray⟩ : ByteArray) ++ putS r = ⟨(a ++ enc r).toArray⟩ := by
  apply ByteArray.ext
  unfold putS; rw [h]
  simp
theorem putS_no {r : Int} (h : okR r = false) : putS r = ⟨#[]⟩ := by unfold putS; rw [h]; rfl
theorem putS_ne {r : Int} (h : okR r = true) : putS r ≠ ⟨#[]⟩ := by
  unfold putS; rw [h]; intro e
  have := congrArg (fun b : ByteArray => b.data.toList) e
  exact enc_ne r (by simpa using this)

end Go.Proofs.YtnoclbeamcmhhaaDoor
