/- Bytes as texts; the document's example; how many bytes a head has; its number. -/
import Derived.Test.YtokgodobmcbdoaaH3
import Derived.Deep.QuietTactic
import Derived.BigQuiet
namespace Go.Proofs.Ytokgodobmcbdoaa
open Go.RowKit Go.Lib
set_option linter.unusedVariables false
set_option linter.unusedSimpArgs false

/-- What a law answers. -/
def BoolBelow (b : Bool) (w : World) (e : Ending) (w' : World) : Prop := e = .returned (.bool b) ∧ Below w.heap.size w w'
theorem BoolBelow.mk {b : Bool} {w w' : World} {e : Ending} (h : e = .returned (.bool b)) (hb : Below w.heap.size w w') : BoolBelow b w e w' := ⟨h, hb⟩
/-- Bytes as a text. -/
def strB (l : List Nat) : ByteArray := ⟨(l.map fun x => UInt8.ofNat x).toArray⟩
theorem strB_list (l : List Nat) : (strB l).toList = l.map fun x => UInt8.ofNat x := by rw [ByteArray.toList_eq]; simp [strB]
theorem strB_nums (l : List Nat) : strOfNums (l.map fun (x : Nat) => (x : Int)) = strB l := by
  unfold strOfNums strB; simp
theorem conv_bv (w : World) (ad : Option Addr) (n c : Nat) (l : List Nat) (hl : l.length = n) (hr : RdV w ad (bv l)) :
    Sem.run Try.prog (convert 22 9 (.slice ad n c)) w = .ok (.string (strB l)) w := by
  rw [← strB_nums]
  cases ad with
  | none =>
    have h0 : l = [] := by
      rcases Nat.eq_zero_or_pos (bv l).length with h0 | h0
      · rw [bv_len] at h0; exact List.eq_nil_of_length_eq_zero h0
      · obtain ⟨_, _, e, _⟩ := hr 0 h0
        cases e
    subst h0
    exact run_convert_bytes_nil w 22 5 Try.underlying22 Try.underlying5 _ _ 9 Try.underlying9
  | some a =>
    have hsp : ∀ i, i < n → w.cell? ⟨a.block, a.off + i, none⟩ = some (.int .u8 ((l.map fun (x : Nat) => (x : Int)).getD i 0)) ∧ a.spot = none := by
      intro i hi
      obtain ⟨b, o, e, _, hc⟩ := hr i (by rw [bv_len]; omega)
      cases e
      refine ⟨?_, rfl⟩
      rw [hc, bv_get l i (by omega)]
      simp [List.getD, show i < l.length by omega]
    rcases Nat.eq_zero_or_pos n with h0 | h0
    · subst h0
      have : l = [] := List.eq_nil_of_length_eq_zero hl
      subst this
      rw [run_convert_bytes_string w 22 9 5 _ _ _ Try.underlying22 Try.underlying5 Try.underlying9]
      simp [Conv.bytesToString, loadCells, strOfNums]
      rfl
    · obtain ⟨_, hs⟩ := hsp 0 h0
      obtain ⟨b, o, sp⟩ := a
      simp at hs; subst hs
      exact run_convert_bytes_arg w 22 5 Try.underlying22 Try.underlying5 b o n c _ (by simpa using hl) (fun i hi => (hsp i hi).1) 9 Try.underlying9

/-- What Put leaves, as it is read. -/
theorem PutL.view {l : List Nat} {w w' : World} {e : Ending} (h : PutL l w e w') : ∃ ad cap, e = .returned (.slice ad l.length cap) ∧ l.length ≤ cap ∧ RdV w' ad (bv l) ∧ Below w.heap.size w w' ∧ (ad = none → cap = 0) := by
  obtain ⟨v, rfl, ho, hb⟩ := h
  obtain ⟨ad, cap, rfl, hc, hr, _, _, h0⟩ := own_viewN ho
  exact ⟨ad, cap, rfl, hc, hr, hb, fun h => (h0 h).1⟩

set_option maxHeartbeats 1000000 in
set_option maxRecDepth 100000 in
theorem awake_any (w : World) : Calls Try.prog 6 #[] w (BoolBelow true w) := by
  have K1 := Lib.hid (put_any none [] 0 0 500 2 w rfl (by decide) (by decide) (RdV.nil _ _) (by decide))
  have e : [] ++ hd ((2 : Int) % 8).toNat 500 = [89, 1, 244] := by rfl
  rw [e] at K1
  go_enter Try.func6, Try.ntmps6
  go_wp2_with fail
  refine K1.out.mono ?_
  intro x w1 h1
  obtain ⟨ad, cap, rfl, hc, hr, hb, _⟩ := h1.view
  have HB := Lib.hid hb
  have hcv := conv_bv w1 ad 3 cap [89, 1, 244] rfl hr
  clear h1 hb hr e
  have hs : (strB [89, 1, 244]).toList == [89, 1, 244] := by rw [strB_list]; rfl
  go_wp2
  go_ret
  exact BoolBelow.mk rfl HB.out

set_option maxHeartbeats 1000000 in
set_option maxRecDepth 100000 in
theorem sizeOf_0 (i : Nat) (w : World) (hi : i < 24 ∨ i = 31) : Calls Try.prog 15 #[.int .i64 (i : Int)] w fun e w' => e = .returned (.tuple #[.int .i64 0, .bool true]) ∧ w' = w := by
  rcases hi with h | rfl
  · have e1 : decide ((i : Int) ≤ 23) = true := decide_eq_true (by omega)
    go_enter Try.func15, Try.ntmps15
    go_wp2_with fail
    go_ret2
    exact ⟨rfl, rfl⟩
  · go_enter Try.func15, Try.ntmps15
    go_wp2_with fail
    go_ret2
    exact ⟨rfl, rfl⟩
set_option maxHeartbeats 1000000 in
set_option maxRecDepth 100000 in
theorem sizeOf_1 (i : Nat) (w : World) (h0 : 24 ≤ i) (hi : i ≤ 27) : Calls Try.prog 15 #[.int .i64 (i : Int)] w fun e w' => e = .returned (.tuple #[.int .i64 ((2 ^ (i - 24) : Nat) : Int), .bool true]) ∧ w' = w := by
  have : i = 24 ∨ i = 25 ∨ i = 26 ∨ i = 27 := by omega
  clear h0 hi
  rcases this with rfl | rfl | rfl | rfl
  · go_enter Try.func15, Try.ntmps15
    go_wp2_with fail
    go_ret2
    exact ⟨rfl, rfl⟩
  · go_enter Try.func15, Try.ntmps15
    go_wp2_with fail
    go_ret2
    exact ⟨rfl, rfl⟩
  · go_enter Try.func15, Try.ntmps15
    go_wp2_with fail
    go_ret2
    exact ⟨rfl, rfl⟩
  · go_enter Try.func15, Try.ntmps15
    go_wp2_with fail
    go_ret2
    exact ⟨rfl, rfl⟩
set_option maxHeartbeats 1000000 in
set_option maxRecDepth 100000 in
theorem sizeOf_no (i : Nat) (w : World) (h0 : 28 ≤ i) (hi : i ≤ 30) : Calls Try.prog 15 #[.int .i64 (i : Int)] w fun e w' => e = .returned (.tuple #[.int .i64 0, .bool false]) ∧ w' = w := by
  have : i = 28 ∨ i = 29 ∨ i = 30 := by omega
  clear h0 hi
  rcases this with rfl | rfl | rfl
  · go_enter Try.func15, Try.ntmps15
    go_wp2_with fail
    go_ret2
    exact ⟨rfl, rfl⟩
  · go_enter Try.func15, Try.ntmps15
    go_wp2_with fail
    go_ret2
    exact ⟨rfl, rfl⟩
  · go_enter Try.func15, Try.ntmps15
    go_wp2_with fail
    go_ret2
    exact ⟨rfl, rfl⟩
theorem results_tmp5 {fn : Func} {t u v x y : Tmp} (h : fn.results = #[.tmp t, .tmp u, .tmp v, .tmp x, .tmp y]) (tmps : Array Value) (P : Program) (w : World) :
    (results fn tmps).run P w = .ok (.tuple #[tmps.getD t undef, tmps.getD u undef, tmps.getD v undef, tmps.getD x undef, tmps.getD y undef]) w := by
  simp [results, h]
end Go.Proofs.Ytokgodobmcbdoaa
