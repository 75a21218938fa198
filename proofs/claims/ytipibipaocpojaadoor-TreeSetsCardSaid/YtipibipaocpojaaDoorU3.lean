/- The walks of package utf: Rune, wrong. -/
import Derived.Test.YtipibipaocpojaaDoorU1
import Derived.Test.YtipibipaocpojaaDoorShelf
import Derived.Test.YtipibipaocpojaaDoorRows
import Derived.Below
import Derived.WalkKit
import Derived.WalkMore
import Derived.WalkSpells
import Derived.WalkLawsBesides
import Derived.Deep.QuietTactic
import Derived.BigQuiet
import Derived.Lib.Hide
import Derived.Lib.Strings
namespace Go.Proofs.YtipibipaocpojaaDoor
open Go.RowKit Go.Shelf
set_option linter.unusedVariables false
set_option linter.unusedSimpArgs false

/-- The two tables of the library's decoder. -/
def UT (w : World) : Prop := Lib.Utf8Tabs 0 1 w
theorem UT.below {w w' : World} (h : UT w) (hb : Below w.heap.size w w') : UT w' := by
  refine ⟨fun c hc => ?_, fun i hi => ⟨?_, ?_⟩⟩
  · have h1 := h.1 c hc
    rw [hb.cell (World.block_lt_of_cell? w _ h1)]; exact h1
  · have h1 := (h.2 i hi).1
    rw [hb.cell (World.block_lt_of_cell? w _ h1)]; exact h1
  · have h1 := (h.2 i hi).2
    rw [hb.cell (World.block_lt_of_cell? w _ h1)]; exact h1

/-- Chapter 4's Rune of a text, at a place. -/
def runeAt (s : ByteArray) (k : Int) : Int × Int :=
  if k < 0 ∨ (s.size : Int) ≤ k then (-1, 0) else ((runeL (s.data.toList.drop k.toNat)).1, ((runeL (s.data.toList.drop k.toNat)).2 : Int))

theorem extract_list (s : ByteArray) (k : Nat) : (s.extract k s.size).data.toList = s.data.toList.drop k := by
  rw [ByteArray.data_extract, Array.toList_extract]
  simp [List.extract_eq_take_drop]
  exact List.take_of_length_le (by simp)
theorem decodeGo_drop (s : ByteArray) (k : Nat) (h : k < s.size) : Lib.decodeGo (s.extract k s.size) = decL (s.data.toList.drop k) := by
  have hz : (s.extract k s.size).size ≠ 0 := by rw [ByteArray.size_extract]; omega
  unfold Lib.decodeGo
  rw [if_neg hz, decode_list]
  congr 1
  rw [List.drop_zero]
  exact extract_list s k

set_option maxHeartbeats 400000 in
theorem uRune_any (s : ByteArray) (k : Int) (w : World) (hs : s.size ≤ maxLen) (hk : -9223372036854775808 ≤ k ∧ k ≤ 9223372036854775807) (hT : UT w) :
    Calls Tryd.prog 54 #[.string s, .int .i64 k] w fun e w' => e = .returned (.tuple #[.int .i32 (runeAt s k).1, .int .i64 (runeAt s k).2]) ∧ Below w.heap.size w w' := by
  unfold maxLen at hs
  by_cases h0 : k < 0
  · have e : runeAt s k = (-1, 0) := by unfold runeAt; rw [if_pos (.inl h0)]
    rw [e]; clear e hT
    go_enter Tryd.func54, Tryd.ntmps54
    go_wp2
    go_ret2
    exact ⟨rfl, Below.refl _ _⟩
  · by_cases h1 : (s.size : Int) ≤ k
    · have e : runeAt s k = (-1, 0) := by unfold runeAt; rw [if_pos (.inr h1)]
      rw [e]; clear e hT
      go_enter Tryd.func54, Tryd.ntmps54
      go_wp2
      go_ret2
      exact ⟨rfl, Below.refl _ _⟩
    · obtain ⟨n, rfl⟩ : ∃ n : Nat, k = n := ⟨k.toNat, by omega⟩
      have hn : n < s.size := by omega
      have e : runeAt s n = ((runeL (s.data.toList.drop n)).1, ((runeL (s.data.toList.drop n)).2 : Int)) := by unfold runeAt; rw [if_neg (by omega)]; rfl
      rw [e]; clear e
      have hd := decodeGo_drop s n hn
      have KD := Lib.hid (Tryd.utf8_DecodeRuneInString (s.extract n s.size) w hT)
      rw [hd] at KD
      clear hT hd
      unfold runeL
      generalize hD : decL (s.data.toList.drop n) = D at *
      obtain ⟨c, m⟩ := D
      clear hD
      have h1' : ¬ (s.size : Int) ≤ (n : Int) := h1
      by_cases hc : c = 65533
      · subst hc
        by_cases hm : m = 1
        · subst hm
          rw [if_pos rfl]
          go_enter Tryd.func54, Tryd.ntmps54
          go_wp2_with fail
          refine KD.out.mono ?_
          rintro r w' ⟨rfl, hb⟩
          have HB := Lib.hid hb; clear hb
          go_wp2
          go_ret2
          exact ⟨rfl, HB.out⟩
        · rw [if_neg (by intro e; exact hm (congrArg Prod.snd e))]
          have hm' : ¬ (m : Int) = 1 := by omega
          go_enter Tryd.func54, Tryd.ntmps54
          go_wp2_with fail
          refine KD.out.mono ?_
          rintro r w' ⟨rfl, hb⟩
          have HB := Lib.hid hb; clear hb
          go_wp2
          go_ret2
          exact ⟨rfl, HB.out⟩
      · rw [if_neg (by intro e; exact hc (congrArg Prod.fst e))]
        have hc' : ¬ (c : Int) = 65533 := by omega
        go_enter Tryd.func54, Tryd.ntmps54
        go_wp2_with fail
        refine KD.out.mono ?_
        rintro r w' ⟨rfl, hb⟩
        have HB := Lib.hid hb; clear hb
        go_wp2
        go_ret2
        exact ⟨rfl, HB.out⟩

/-- Whether the code point at a place is none. -/
def noneAt (s : ByteArray) (k : Int) : Bool := decide ((runeAt s k).1 = -1)
set_option maxHeartbeats 400000 in
theorem wrong_any (s : ByteArray) (k : Int) (w : World) (hs : s.size ≤ maxLen) (hk : -9223372036854775808 ≤ k ∧ k ≤ 9223372036854775807) (hT : UT w) :
    Calls Tryd.prog 52 #[.string s, .int .i64 k] w fun e w' => e = .returned (.bool (noneAt s k)) ∧ Below w.heap.size w w' := by
  have K := Lib.hid (uRune_any s k w hs hk hT)
  unfold noneAt
  generalize hR : runeAt s k = R at *
  obtain ⟨c, m⟩ := R
  clear hR hT
  by_cases hc : c = -1
  · subst hc
    go_enter Tryd.func52, Tryd.ntmps52
    go_wp2_with fail
    refine K.out.mono ?_
    rintro r w' ⟨rfl, hb⟩
    have HB := Lib.hid hb; clear hb
    go_wp2
    go_ret
    exact ⟨rfl, HB.out⟩
  · go_enter Tryd.func52, Tryd.ntmps52
    go_wp2_with fail
    refine K.out.mono ?_
    rintro r w' ⟨rfl, hb⟩
    have HB := Lib.hid hb; clear hb
    go_wp2
    go_ret
    simp [hc]; exact HB.out
end Go.Proofs.YtipibipaocpojaaDoor
