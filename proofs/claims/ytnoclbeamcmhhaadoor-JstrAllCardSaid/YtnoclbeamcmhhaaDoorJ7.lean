/- The walks of jstr's reader: take, must, digit. -/
import Derived.Test.YtnoclbeamcmhhaaDoorJ6
import Derived.Deep.RegionHeld3
namespace Go.Proofs.YtnoclbeamcmhhaaDoor
open Go.RowKit Go.Shelf Go.Lib
set_option linter.unusedVariables false
set_option linter.unusedSimpArgs false

theorem setCell_selfJ {w : World} {g j : Nat} {v : Value} (h : w.cell? ⟨g, j, none⟩ = some v) : w.setCell ⟨g, j, none⟩ v = w := by
  have e : (w.setCell ⟨g, j, none⟩ v).heap = w.heap := by
    apply Array.ext_getElem?
    intro k
    simp only [World.setCell, Array.getElem?_modify]
    by_cases hk : g = k
    · subst hk
      rw [if_pos rfl]
      unfold World.cell? at h
      cases hh : w.heap[g]? with
      | none => rfl
      | some o =>
        cases o with
        | cells c t f =>
          simp only [hh] at h
          have h2 : c[j]? = some v := by simpa using h
          obtain ⟨h3, h4⟩ := Array.getElem?_eq_some_iff.1 h2
          have h5 : c.setIfInBounds j v = c := by
            apply Array.ext_getElem?
            intro i
            rw [Array.getElem?_setIfInBounds]
            split
            · rename_i hij; subst hij; first | exact h2.symm | (rw [if_pos h3]; exact h2.symm)
            · rfl
          simp [h5]
        | _ => rfl
    · rw [if_neg hk]
  show ({ w with heap := (w.setCell ⟨g, j, none⟩ v).heap } : World) = w
  rw [e]
theorem setCell_twice (w : World) (a : Addr) (x y : Value) : (w.setCell a x).setCell a y = w.setCell a y := by
  have e : ((w.setCell a x).setCell a y).heap = (w.setCell a y).heap := by
    apply Array.ext_getElem?
    intro k
    simp only [World.setCell, Array.getElem?_modify]
    by_cases hk : a.block = k
    · simp only [if_pos hk]
      cases hh : w.heap[k]? with
      | none => rfl
      | some o =>
        cases o <;> simp
        by_cases ha : a.spot.isSome = true <;> simp [ha]
    · simp only [if_neg hk]
  show ({ w with heap := ((w.setCell a x).setCell a y).heap } : World) = { w with heap := (w.setCell a y).heap }
  rw [e]

/-- The reader in block g, at a place. -/
structure Rdr (g : Nat) (s : ByteArray) (k : Int) (w : World) : Prop where
  c0 : w.cell? ⟨g, 0, none⟩ = some (.string s)
  c1 : w.cell? ⟨g, 1, none⟩ = some (.int .i64 k)
  f1 : w.frozen? ⟨g, 1, none⟩ = false
theorem Rdr.lt {g : Nat} {s : ByteArray} {k : Int} {w : World} (h : Rdr g s k w) : g < w.heap.size := World.block_lt_of_cell? w _ h.c0
/-- Nothing that was there has turned but the reader's place. -/
def Stepd (g : Nat) (k : Int) (w w' : World) : Prop := Below w.heap.size (w.setCell ⟨g, 1, none⟩ (.int .i64 k)) w'
theorem Stepd.size {g : Nat} {k : Int} {w w' : World} (h : Stepd g k w w') : w.heap.size ≤ w'.heap.size := by
  have := Below.size h; simpa [World.setCell] using this
theorem Stepd.of_below {g : Nat} {s : ByteArray} {k : Int} {w w' : World} (hr : Rdr g s k w) (h : Below w.heap.size w w') : Stepd g k w w' := by
  unfold Stepd; rw [setCell_selfJ hr.c1]; exact h
theorem Stepd.trans {g : Nat} {k j : Int} {w w1 w2 : World} (h : Stepd g k w w1) (h2 : Stepd g j w1 w2) : Stepd g j w w2 := by
  have hs := h.size
  refine ⟨?_, ?_, ?_, ?_, ?_⟩
  · have a := Below.os h2; have b := Below.os h; exact a.trans b
  · have a := Below.tape h2; have b := Below.tape h; exact a.trans b
  · have a := Below.output h2; have b := Below.output h; exact a.trans b
  · have a := h2.size; have b := h.size; simp [World.setCell]; omega
  · intro i hi
    rw [Below.block h2 i (by omega)]
    by_cases hg : i = g
    · have e : (w1.setCell ⟨g, 1, none⟩ (.int .i64 j)).heap[i]? = ((w.setCell ⟨g, 1, none⟩ (.int .i64 k)).setCell ⟨g, 1, none⟩ (.int .i64 j)).heap[i]? := by
        simp only [World.setCell, Array.getElem?_modify]
        have := Below.block h i hi
        simp only [World.setCell, Array.getElem?_modify] at this
        rw [this]
      rw [e, setCell_twice]
    · rw [Below.heap_setCell _ _ _ _ (by simpa using hg), Below.heap_setCell _ _ _ _ (by simpa using hg), Below.block h i hi, Below.heap_setCell _ _ _ _ (by simpa using hg)]
theorem Stepd.rdr {g : Nat} {s : ByteArray} {k j : Int} {w w' : World} (hr : Rdr g s k w) (h : Stepd g j w w') : Rdr g s j w' := by
  have hlt := hr.lt
  refine ⟨?_, ?_, ?_⟩
  · rw [Below.cell h (p := ⟨g, 0, none⟩) hlt, World.cell?_setCell_other (h := by simp)]; exact hr.c0
  · rw [Below.cell h (p := ⟨g, 1, none⟩) hlt]
    exact World.cell?_setCell_same _ _ _ hr.c1
  · rw [Below.frozen h (p := ⟨g, 1, none⟩) hlt, World.frozen?_setCell]
    exact hr.f1
theorem Stepd.block {g : Nat} {j : Int} {w w' : World} (h : Stepd g j w w') {i : Nat} (hi : i < w.heap.size) (hg : i ≠ g) : w'.heap[i]? = w.heap[i]? := by
  rw [Below.block h i hi, Below.heap_setCell _ _ _ _ (by simpa using hg)]
theorem Stepd.below {g B : Nat} {j : Int} {w w' : World} (h : Stepd g j w w') (hB : B ≤ g) (hs : B ≤ w.heap.size) : Below B w w' :=
  ((Below.refl B w).setCell (by simpa using hB) _).trans (Below.mono h hs)
/-- A throw, wherever the reader then stands. -/
def ThrowsR (g : Nat) (w : World) (e : Ending) (w' : World) : Prop := e = .panicked [{ v := .iface 48 (.int .i64 2), recovered := false }] ∧ ∃ k, Stepd g k w w'
theorem ThrowsR.on {g : Nat} {k : Int} {w w1 w' : World} {e : Ending} (h : Stepd g k w w1) (h2 : ThrowsR g w1 e w') : ThrowsR g w e w' := by
  obtain ⟨he, j, hj⟩ := h2
  exact ⟨he, j, h.trans hj⟩

def TakeY (g : Nat) (c : UInt8) (n : Nat) (w : World) (e : Ending) (w' : World) : Prop := e = .returned (.int .u8 ((c.toNat : Nat) : Int)) ∧ Stepd g ((n + 1 : Nat) : Int) w w'
set_option maxHeartbeats 1000000 in
theorem take_no (g : Nat) (s : ByteArray) (k : Int) (w : World) (hs : s.size ≤ 1000000) (hr : Rdr g s k w) (hk : -9223372036854775808 ≤ k ∧ k ≤ 9223372036854775807) (hno : k < 0 ∨ (s.size : Int) ≤ k) :
    Calls Tryd.prog 69 #[.pointer (some ⟨g, 0, none⟩)] w (ThrowsR g w) := by
  have HF := Lib.hid (fun W (h : Below w.heap.size w W) => Stepd.of_below hr h)
  obtain ⟨c0, c1, f1⟩ := hr
  by_cases h0 : k < 0
  · have b0 : decide (k < 0) = true := decide_eq_true h0
    go_enter Tryd.func69, Tryd.ntmps69
    go_wp2
    go_region
    go_wp2
    exact ⟨rfl, rfl, k, HF.out _ (Below.refl _ _).drew⟩
  · have b0 : decide (k < 0) = false := decide_eq_false h0
    have b1 : (s.size : Int) ≤ k := by omega
    go_enter Tryd.func69, Tryd.ntmps69
    go_wp2
    go_region
    go_wp2
    exact ⟨rfl, rfl, k, HF.out _ (Below.refl _ _).drew⟩
set_option maxHeartbeats 1000000 in
theorem take_yes (g : Nat) (s : ByteArray) (n : Nat) (w : World) (hs : s.size ≤ 1000000) (hr : Rdr g s n w) (hn : n < s.size) (c : UInt8) (hc : s[n]'hn = c) :
    Calls Tryd.prog 69 #[.pointer (some ⟨g, 0, none⟩)] w (TakeY g c n w) := by
  have hlt := Lib.hid hr.lt
  obtain ⟨c0, c1, f1⟩ := hr
  have b0 : decide ((n : Int) < 0) = false := decide_eq_false (by omega)
  have b1 : ¬ (s.size : Int) ≤ (n : Int) := by omega
  go_enter Tryd.func69, Tryd.ntmps69
  go_wp2
  go_region
  go_wp2
  go_region
  go_wp2
  go_ret
  exact ⟨rfl, ((Below.refl _ _).drew).drew⟩

def MustY (g : Nat) (n : Nat) (w : World) (e : Ending) (w' : World) : Prop := e = .returned (.tuple #[]) ∧ Stepd g ((n + 1 : Nat) : Int) w w'
set_option maxHeartbeats 1000000 in
theorem must_yes (g : Nat) (s : ByteArray) (n : Nat) (w : World) (c : UInt8) (hs : s.size ≤ 1000000) (hr : Rdr g s n w) (hn : n < s.size) (hc : s[n]'hn = c) :
    Calls Tryd.prog 67 #[.pointer (some ⟨g, 0, none⟩), .int .u8 ((c.toNat : Nat) : Int)] w (MustY g n w) := by
  have K := Lib.hid (take_yes g s n w hs hr hn c hc)
  clear hr hc
  go_enter Tryd.func67, Tryd.ntmps67
  go_wp2_with fail
  refine K.out.mono ?_
  rintro r w1 ⟨rfl, h1⟩
  have H1 := Lib.hid h1; clear h1
  go_wp2
  exact bodyPost_ret (v := .tuple #[]) (by simp [results, Tryd.results67, go_sem]) rfl ⟨rfl, H1.out⟩
set_option maxHeartbeats 1000000 in
theorem must_no (g : Nat) (s : ByteArray) (k : Int) (w : World) (c : UInt8) (hs : s.size ≤ 1000000) (hr : Rdr g s k w) (hk : -9223372036854775808 ≤ k ∧ k ≤ 9223372036854775807) (hno : ∀ n : Nat, k = n → s.data.toList[n]? ≠ some c) :
    Calls Tryd.prog 67 #[.pointer (some ⟨g, 0, none⟩), .int .u8 ((c.toNat : Nat) : Int)] w (ThrowsR g w) := by
  by_cases h0 : k < 0 ∨ (s.size : Int) ≤ k
  · have K := Lib.hid (take_no g s k w hs hr hk h0)
    clear hr hno h0
    go_enter Tryd.func67, Tryd.ntmps67
    go_wp2_with fail
    refine K.out.mono ?_
    rintro r w1 ⟨rfl, j, h1⟩
    have H1 := Lib.hid h1; clear h1
    go_wp2
    exact ⟨rfl, rfl, j, H1.out⟩
  · obtain ⟨n, rfl⟩ : ∃ n : Nat, k = n := ⟨k.toNat, by omega⟩
    have hn : n < s.size := by omega
    have hne : s[n]'hn ≠ c := by
      intro e; apply hno n rfl
      rw [List.getElem?_eq_getElem (by simpa using hn)]
      rw [← e]; rfl
    have K := Lib.hid (take_yes g s n w hs hr hn _ rfl)
    generalize s[n]'hn = d at *
    have hne2 : d.toNat ≠ c.toNat := fun e => hne (UInt8.toNat_inj.1 e)
    have b1 : ((d.toNat : Int) == (c.toNat : Int)) = false := by rw [beq_eq_false_iff_ne]; omega
    have b2 : ((d.toNat : Int) != (c.toNat : Int)) = true := by rw [bne_iff_ne]; omega
    clear hr hno h0 hne hne2
    go_enter Tryd.func67, Tryd.ntmps67
    go_wp2_with fail
    refine K.out.mono ?_
    rintro r w1 ⟨rfl, h1⟩
    have H1 := Lib.hid h1; clear h1
    go_wp2
    exact ⟨rfl, rfl, _, H1.out⟩

def ThrowsW (w : World) (e : Ending) (w' : World) : Prop := e = .panicked [{ v := .iface 48 (.int .i64 2), recovered := false }] ∧ w' = w
set_option maxHeartbeats 1000000 in
theorem digit_yes (c d : Nat) (w : World) (hc : c < 256) (hd : hexN c = some d) :
    Calls Tryd.prog 96 #[.int .u8 (c : Int)] w fun e w' => e = .returned (.int .i32 (d : Int)) ∧ w' = w := by
  have hcz : 0 ≤ (c : Int) ∧ (c : Int) ≤ 255 := by omega
  unfold hexN at hd
  split at hd
  · rename_i h1
    simp only [Option.some.injEq] at hd
    have hd2 : (d : Int) = (c : Int) - 48 := by omega
    have b1 : decide ((65 : Int) ≤ (c : Int)) = false := decide_eq_false (by omega)
    have b2 : decide ((97 : Int) ≤ (c : Int)) = false := decide_eq_false (by omega)
    have b3 : decide ((48 : Int) ≤ (c : Int)) = true := decide_eq_true (by omega)
    have b4 : decide ((c : Int) ≤ 57) = true := decide_eq_true (by omega)
    have l1 : (48 : Int) ≤ (c : Int) := by omega
    have l2 : (c : Int) ≤ 57 := by omega
    have HD := Lib.hid hd2
    clear hd hd2 h1 hc hcz
    generalize (c : Int) = x at *
    go_enter Tryd.func96, Tryd.ntmps96
    go_wp2
    go_ret
    exact ⟨by rw [HD.out]; rfl, rfl⟩
  · rename_i h1
    split at hd
    · rename_i h2
      simp only [Option.some.injEq] at hd
      have hd2 : (d : Int) = (c : Int) - 97 + 10 := by omega
      have b1 : decide ((65 : Int) ≤ (c : Int)) = true := decide_eq_true (by omega)
      have b0 : decide ((c : Int) ≤ 70) = false := decide_eq_false (by omega)
      have b2 : decide ((97 : Int) ≤ (c : Int)) = true := decide_eq_true (by omega)
      have b4 : decide ((c : Int) ≤ 102) = true := decide_eq_true (by omega)
      have l1 : (97 : Int) ≤ (c : Int) := by omega
      have l2 : (c : Int) ≤ 102 := by omega
      have HD := Lib.hid hd2
      clear hd hd2 h1 h2 hc hcz
      generalize (c : Int) = x at *
      go_enter Tryd.func96, Tryd.ntmps96
      go_wp2
      go_ret
      exact ⟨by rw [HD.out]; first | rfl | (refine congrArg Ending.returned ?_; show Value.int _ _ = _; congr 1), rfl⟩
    · rename_i h2
      split at hd
      · rename_i h3
        simp only [Option.some.injEq] at hd
        have hd2 : (d : Int) = (c : Int) + 32 - 97 + 10 := by omega
        have b1 : decide ((65 : Int) ≤ (c : Int)) = true := decide_eq_true (by omega)
        have b0 : decide ((c : Int) ≤ 70) = true := decide_eq_true (by omega)
        have l1 : (65 : Int) ≤ (c : Int) := by omega
        have l2 : (c : Int) ≤ 70 := by omega
        have l3 : 97 ≤ (c : Int) + 32 := by omega
        have l4 : (c : Int) + 32 ≤ 102 := by omega
        have HD := Lib.hid hd2
        clear hd hd2 h1 h2 h3 hc hcz
        generalize (c : Int) = x at *
        go_enter Tryd.func96, Tryd.ntmps96
        go_wp2
        go_ret
        exact ⟨by rw [HD.out]; first | rfl | (refine congrArg Ending.returned ?_; show Value.int _ _ = _; congr 1; omega), rfl⟩
      · cases hd
set_option maxHeartbeats 1000000 in
theorem digit_no (c : Nat) (w : World) (hc : c < 256) (hd : hexN c = none) :
    Calls Tryd.prog 96 #[.int .u8 (c : Int)] w (ThrowsW w) := by
  have hno : ¬ (48 ≤ c ∧ c ≤ 57) ∧ ¬ (97 ≤ c ∧ c ≤ 102) ∧ ¬ (65 ≤ c ∧ c ≤ 70) := by
    unfold hexN at hd
    refine ⟨?_, ?_, ?_⟩
    · intro h; rw [if_pos h] at hd; cases hd
    · intro h; rw [if_neg (by omega), if_pos h] at hd; cases hd
    · intro h; rw [if_neg (by omega), if_neg (by omega), if_pos h] at hd; cases hd
  have hcz : 0 ≤ (c : Int) ∧ (c : Int) ≤ 255 := by omega
  unfold ThrowsW
  have h4 : (c < 48) ∨ (58 ≤ c ∧ c < 65) ∨ (71 ≤ c ∧ c < 97) ∨ 103 ≤ c := by omega
  rcases h4 with h | h | h | h
  · have b1 : decide ((65 : Int) ≤ (c : Int)) = false := decide_eq_false (by omega)
    have b2 : decide ((97 : Int) ≤ (c : Int)) = false := decide_eq_false (by omega)
    have b3 : decide ((48 : Int) ≤ (c : Int)) = false := decide_eq_false (by omega)
    clear hd hno h hc
    generalize (c : Int) = x at *
    go_enter Tryd.func96, Tryd.ntmps96
    go_wp2
    exact ⟨rfl, rfl, rfl⟩
  · have b1 : decide ((65 : Int) ≤ (c : Int)) = false := decide_eq_false (by omega)
    have b2 : decide ((97 : Int) ≤ (c : Int)) = false := decide_eq_false (by omega)
    have b3 : decide ((48 : Int) ≤ (c : Int)) = true := decide_eq_true (by omega)
    have b4 : decide ((c : Int) ≤ 57) = false := decide_eq_false (by omega)
    clear hd hno h hc
    generalize (c : Int) = x at *
    go_enter Tryd.func96, Tryd.ntmps96
    go_wp2
    exact ⟨rfl, rfl, rfl⟩
  · have b1 : decide ((65 : Int) ≤ (c : Int)) = true := decide_eq_true (by omega)
    have b5 : decide ((c : Int) ≤ 70) = false := decide_eq_false (by omega)
    have b2 : decide ((97 : Int) ≤ (c : Int)) = false := decide_eq_false (by omega)
    have b3 : decide ((48 : Int) ≤ (c : Int)) = true := decide_eq_true (by omega)
    have b4 : decide ((c : Int) ≤ 57) = false := decide_eq_false (by omega)
    clear hd hno h hc
    generalize (c : Int) = x at *
    go_enter Tryd.func96, Tryd.ntmps96
    go_wp2
    exact ⟨rfl, rfl, rfl⟩
  · have b1 : decide ((65 : Int) ≤ (c : Int)) = true := decide_eq_true (by omega)
    have b5 : decide ((c : Int) ≤ 70) = false := decide_eq_false (by omega)
    have b2 : decide ((97 : Int) ≤ (c : Int)) = true := decide_eq_true (by omega)
    have b6 : decide ((c : Int) ≤ 102) = false := decide_eq_false (by omega)
    have b3 : decide ((48 : Int) ≤ (c : Int)) = true := decide_eq_true (by omega)
    have b4 : decide ((c : Int) ≤ 57) = false := decide_eq_false (by omega)
    clear hd hno h hc
    generalize (c : Int) = x at *
    go_enter Tryd.func96, Tryd.ntmps96
    go_wp2
    exact ⟨rfl, rfl, rfl⟩
end Go.Proofs.YtnoclbeamcmhhaaDoor
