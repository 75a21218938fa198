/- The walks of package utf: validBytes, Valid. -/
import Derived.Test.YtipibipaocpojaaDoorU3
import Derived.Deep.LoopGhost
import Derived.Lib.OthersKept
namespace Go.Proofs.YtipibipaocpojaaDoor
open Go.RowKit Go.Shelf
set_option linter.unusedVariables false
set_option linter.unusedSimpArgs false

/-- What holds of the bytes from the front on that are UTF-8. -/
def VB (s : ByteArray) (B : Nat) (w : World) (e : Ending) (w' : World) : Prop :=
  ∃ n : Nat, e = .returned (.int .i64 n) ∧ n ≤ s.size ∧ (n = s.size ↔ validL s.data.toList = true) ∧ Below B w w'

/-- The walk of a range over a text: the iterator's block, and where it stands. -/
def RI (s : ByteArray) (B : Nat) (w : World) (pos : Nat) (wr : World) : Prop :=
  wr.heap[B]? = some (.stringIter s pos) ∧ Below B w wr
theorem RI.start (s : ByteArray) (w : World) : RI s w.heap.size w 0 (w.iter s 0) :=
  ⟨World.iter_heap w s 0, (Below.refl _ w).alloc (Nat.le_refl _) _⟩
theorem RI.lt {s : ByteArray} {B : Nat} {w : World} {pos : Nat} {wr : World} (h : RI s B w pos wr) : B < wr.heap.size := (Array.getElem?_eq_some_iff.1 h.1).1
theorem RI.next {s : ByteArray} {B : Nat} {w : World} {pos : Nat} {wr : World} (h : RI s B w pos wr) (q : Nat) : RI s B w q (wr.iterAt B s q) :=
  ⟨Lib.iterAt_heap wr B s pos q h.1, Lib.below_iterAt h.2 (Nat.le_refl _) s q⟩
theorem RI.below {s : ByteArray} {B : Nat} {w : World} {pos : Nat} {wr w' : World} (h : RI s B w pos wr) (hb : Below wr.heap.size wr w') : RI s B w pos w' :=
  ⟨by rw [hb.block B h.lt]; exact h.1, h.2.trans (hb.mono (Nat.le_of_lt h.lt))⟩
theorem RI.pos {s : ByteArray} {B : Nat} {w : World} {pos : Nat} {wr : World} (h : RI s B w pos wr) : wr.iterPos B = pos := by
  simp [World.iterPos, h.1]

/-- The text from a place on. -/
def tailL (s : ByteArray) (k : Nat) : List UInt8 := s.data.toList.drop k
theorem tailL_zero (s : ByteArray) : tailL s 0 = s.data.toList := by simp [tailL]
theorem tailL_length (s : ByteArray) (k : Nat) : (tailL s k).length = s.size - k := by simp [tailL]
theorem tailL_ne {s : ByteArray} {k : Nat} (h : k < s.size) : tailL s k ≠ [] := by
  intro e; have := congrArg List.length e; rw [tailL_length] at this; simp only [List.length_nil] at this; omega
theorem tailL_end {s : ByteArray} {k : Nat} (h : s.size ≤ k) : tailL s k = [] := List.eq_nil_of_length_eq_zero (by rw [tailL_length]; omega)
theorem tailL_drop (s : ByteArray) (k m : Nat) : (tailL s k).drop m = tailL s (k + m) := by simp [tailL, List.drop_drop]
theorem decode_tail (s : ByteArray) (k : Nat) : Utf8.decode s k = decL (tailL s k) := decode_list s k
theorem runeAt_tail {s : ByteArray} {k : Nat} (h : k < s.size) : runeAt s k = ((runeL (tailL s k)).1, ((runeL (tailL s k)).2 : Int)) := by
  unfold runeAt; rw [if_neg (by omega)]; rfl
theorem noneAt_tail {s : ByteArray} {k : Nat} (h : k < s.size) : noneAt s k = decide ((runeL (tailL s k)).1 = -1) := by
  unfold noneAt; rw [runeAt_tail h]
theorem valid_tail {s : ByteArray} {k : Nat} (h : k < s.size) : validL (tailL s k) = (decide (0 ≤ (runeL (tailL s k)).1) && validL (tailL s (k + (runeL (tailL s k)).2))) := by
  rw [valid_cons (tailL_ne h), tailL_drop]
/-- Where the model's code point is not that of what is wrong, it is the one there. -/
theorem rune_not {l : List UInt8} (h : (decL l).1 ≠ 65533) : runeL l = (((decL l).1 : Int), (decL l).2) := by
  unfold runeL; rw [if_neg]; intro e; exact h (congrArg Prod.fst e)
theorem runeL_lo (l : List UInt8) : -1 ≤ (runeL l).1 := by unfold runeL; split <;> simp <;> omega
theorem rune_width (l : List UInt8) : (runeL l).2 = (decL l).2 := by unfold runeL; split; rename_i e; rw [e]; rfl

/-- What holds from round to round of validBytes. -/
def VR (s : ByteArray) (B : Nat) (w : World) (k : Nat) (e : Value) (wr : World) : Prop :=
  ∃ pos, s.size - pos ≤ k ∧ e = .int .i64 s.size ∧ validL s.data.toList = validL (tailL s pos) ∧ RI s B w pos wr

set_option maxHeartbeats 1000000 in
theorem validBytes_any (s : ByteArray) (w : World) (hs : s.size ≤ maxLen) (hT : UT w) :
    Calls Tryd.prog 46 #[.string s] w (VB s w.heap.size w) := by
  unfold maxLen at hs
  have HT := Lib.hid hT; clear hT
  go_enter Tryd.func46, Tryd.ntmps46
  go_wp2
  go_step3
  go_wp2
  go_step3
  go_wp2
  have hst := RI.start s w
  generalize hB : w.heap.size = B at *
  have HB0 := Lib.hid hB; clear hB
  go_loopg [3] s.size (fun k e wr => VR s B w k e wr)
  case atStart => exact ⟨0, by omega, rfl, by rw [tailL_zero], hst⟩
  case round =>
    obtain ⟨pos, hk, rfl, hv, hri⟩ := hrel
    have HV := Lib.hid hv; clear hv
    by_cases hp : pos < s.size
    · obtain ⟨k, rfl⟩ : ∃ k, gk = k + 1 := ⟨gk - 1, by omega⟩
      have hnx : ∀ ty, (Instr.next (.pointer (some ⟨B, 0, none⟩)) true ty).run Tryd.prog wr = _ := fun ty => Lib.run_next_any_at wr B s pos ty hri.1 hp
      rw [decode_tail] at hnx
      have hw := decL_width (tailL s pos) (tailL_ne hp)
      have hvt := valid_tail hp
      rw [tailL_length] at hw
      have HVT := Lib.hid hvt; clear hvt
      by_cases hc : (decL (tailL s pos)).1 = 65533
      · have hri2 := Lib.hid (hri.next (pos + (decL (tailL s pos)).2))
        have hrw := Lib.hid (rune_width (tailL s pos))
        have hlo := Lib.hid (runeL_lo (tailL s pos))
        have KW := Lib.hid (wrong_any s pos (wr.iterAt B s (pos + (decL (tailL s pos)).2)) (by unfold maxLen; omega) (by omega) (HT.out.below (by rw [HB0.out]; exact hri2.out.2)))
        rw [noneAt_tail hp] at KW
        generalize hm : (decL (tailL s pos)).2 = m at *
        have hnx2 : ∀ ty, (Instr.next (.pointer (some ⟨B, 0, none⟩)) true ty).run Tryd.prog wr = Result.ok (Value.tuple #[Value.bool true, Value.int IntKind.i64 ↑pos, Value.int IntKind.i32 65533]) (wr.iterAt B s (pos + m)) := by
          intro ty; rw [hnx ty, hc]; rfl
        clear hnx hc hm
        by_cases hn : (runeL (tailL s pos)).1 = -1
        · have hd : decide ((runeL (tailL s pos)).1 = -1) = true := decide_eq_true hn
          rw [hd] at KW
          have hbad := Lib.hid (show validL s.data.toList = false by rw [HV.out, HVT.out, hn]; rfl)
          clear hn hd hri
          go_wp2_with fail
          refine KW.out.mono ?_
          rintro r w' ⟨rfl, hb⟩
          have hri3 := Lib.hid (hri2.out.below hb); clear hb
          go_wp2
          rw [Exit.noGoto_ret]
          go_ret
          exact ⟨pos, rfl, by omega, ⟨fun h => absurd h (by omega), fun h => by rw [hbad.out] at h; cases h⟩, hri3.out.2⟩
        · have hd : decide ((runeL (tailL s pos)).1 = -1) = false := decide_eq_false hn
          rw [hd] at KW
          have hgo := Lib.hid (show validL s.data.toList = validL (tailL s (pos + m)) by
            rw [HV.out, HVT.out, hrw.out, decide_eq_true (by have := hlo.out; omega), Bool.true_and])
          clear hn hd hri
          go_wp2_with fail
          refine KW.out.mono ?_
          rintro r w' ⟨rfl, hb⟩
          have hri3 := Lib.hid (hri2.out.below hb); clear hb
          go_wp2
          go_roundg k
          case rel => exact ⟨pos + m, by omega, rfl, hgo.out, hri3.out⟩
          case measure => omega
      · have hc' : ¬ ((decL (tailL s pos)).1 : Int) = 65533 := by omega
        have hr := rune_not hc
        have hgo := Lib.hid (show validL s.data.toList = validL (tailL s (pos + (decL (tailL s pos)).2)) by
          rw [HV.out, HVT.out, hr, decide_eq_true (by simp), Bool.true_and])
        clear hr
        generalize hD : decL (tailL s pos) = D at *
        obtain ⟨c, m⟩ := D
        simp only at hnx hc hc' hw
        have hri2 := Lib.hid (hri.next (pos + m))
        clear hD hri
        go_wp2
        go_roundg k
        case rel => exact ⟨pos + m, by omega, rfl, hgo.out, hri2.out⟩
        case measure => omega
    · have hnx : ∀ ty, (Instr.next (.pointer (some ⟨B, 0, none⟩)) true ty).run Tryd.prog wr = _ := fun ty => Lib.run_next_end_at wr B s pos ty hri.1 hp
      have hok := Lib.hid (show validL s.data.toList = true by rw [HV.out, tailL_end (by omega)]; rfl)
      have hb := Lib.hid hri.2
      clear hri
      go_wp2
      rw [Exit.noGoto_ret]
      go_ret
      exact ⟨s.size, rfl, Nat.le_refl _, ⟨fun _ => hok.out, fun _ => rfl⟩, hb.out⟩

set_option maxHeartbeats 1000000 in
theorem valid_any (s : ByteArray) (w : World) (hs : s.size ≤ maxLen) (hT : UT w) :
    Calls Tryd.prog 36 #[.string s] w fun e w' => e = .returned (.bool (validL s.data.toList)) ∧ Below w.heap.size w w' := by
  have K := Lib.hid (validBytes_any s w hs hT)
  unfold maxLen at hs
  clear hT
  cases hv : validL s.data.toList
  · have HV := Lib.hid hv; clear hv
    go_enter Tryd.func36, Tryd.ntmps36
    go_wp2_with fail
    refine K.out.mono ?_
    rintro r w' ⟨n, rfl, h1, h2, hb⟩
    have hn : ¬ (n : Int) = (s.size : Int) := by
      intro e
      have e' : n = s.size := by omega
      have := h2.1 e'
      rw [HV.out] at this; cases this
    have HB := Lib.hid hb
    clear h2 hb
    go_wp2
    go_ret
    exact ⟨by simp; omega, HB.out⟩
  · have HV := Lib.hid hv; clear hv
    go_enter Tryd.func36, Tryd.ntmps36
    go_wp2_with fail
    refine K.out.mono ?_
    rintro r w' ⟨n, rfl, h1, h2, hb⟩
    have hn := h2.2 HV.out
    have HB := Lib.hid hb
    clear h2 hb h1
    subst hn
    go_wp2
    go_ret
    exact ⟨by simp, HB.out⟩
end Go.Proofs.YtipibipaocpojaaDoor
