/- Bytes as texts; the document's example; how many bytes a head has; its number. -/
import Derived.Test.YtmnaccojekojkaaH3
import Derived.Deep.QuietTactic
import Derived.BigQuiet
namespace Go.Proofs.Ytmnaccojekojkaa
open Go.RowKit Go.Lib
set_option linter.unusedVariables false
set_option linter.unusedSimpArgs false

/-- What a law answers. -/
def BoolBelow (b : Bool) (w : World) (e : Ending) (w' : World) : Prop := e = .returned (.bool b) ∧ Below w.heap.size w w'
theorem BoolBelow.mk {b : Bool} {w w' : World} {e : Ending} (h : e = .returned (.bool b)) (hb : Below w.heap.size w w') : BoolBelow b w e w' := ⟨h, hb⟩
/-- Bytes as a text. -/
def strB (l : List Nat) : ByteArray := ⟨(l.map fun x => UInt8.ofNat x).toArray⟩
theorem strB_list (l : List Nat) : (strB l).toList = l.map fun x => UInt8.ofNat x := by rw [ByteArray.toList_eq]; simp [strB]
theorem strB_nums (l : List Nat) : strOfNums (l.map fun (x : Nat) => (x : Int)) = strB l := by
  unfold strOfNums strB; simp
theorem conv_bv (w : World) (ad : Option Addr) (n c : Nat) (l : List Nat) (hl : l.length = n) (hr : RdV w ad (bv l)) :
    Sem.run Try.prog (convert 22 9 (.slice ad n c)) w = .ok (.string (strB l)) w := by
  rw [← strB_nums]
  cases ad with
  | none =>
    have h0 : l = [] := by
      rcases Nat.eq_zero_or_pos (bv l).length with h0 | h0
      · rw [bv_len] at h0; exact List.eq_nil_of_length_eq_zero h0
      · obtain ⟨_, _, e, _⟩ := hr 0 h0
        cases e
    subst h0
    exact run_convert_bytes_nil w 22 5 Try.underlying22 Try.underlying5 _ _ 9 Try.underlying9
  | some a =>
    have hsp : ∀ i, i < n → w.cell? ⟨a.block, a.off + i, none⟩ = some (.int .u8 ((l.map fun (x : Nat) => (x : Int)).getD i 0)) ∧ a.spot = none := by
      intro i hi
      obtain ⟨b, o, e, _, hc⟩ := hr i (by rw [bv_len]; omega)
      cases e
      refine ⟨?_, rfl⟩
      rw [hc, bv_get l i (by omega)]
      simp [List.getD, show i < l.length by omega]
    rcases Nat.eq_zero_or_pos n with h0 | h0
    · subst h0
      have : l = [] := List.eq_nil_of_length_eq_zero hl
      subst this
      rw [run_convert_bytes_string w 22 9 5 _ _ _ Try.underlying22 Try.underlying5 Try.underlying9]
      simp [Conv.bytesToString, loadCells, strOfNums]
      rfl
    · obtain ⟨_, hs⟩ := hsp 0 h0
      obtain ⟨b, o, sp⟩ := a
      simp at hs; subst hs
      exact run_convert_bytes_arg w 22 5 Try.underlying22 Try.underlying5 b o n c _ (by simpa using hl) (fun i hi => (hsp i hi).1) 9 Try.underlying9

/-- What Put leaves, as it is read. -/
theorem PutL.view {l : List Nat} {w w' : World} {e : Ending} (h : PutL l w e w') : ∃ ad cap, e = .returned (.slice ad l.length cap) ∧ l.length ≤ cap ∧ RdV w' ad (bv l) ∧ Below w.heap.size w w' ∧ (ad = none → cap = 0) := by
  obtain ⟨v, rfl, ho, hb⟩ := h
  obtain ⟨ad, cap, rfl, hc, hr, _, _, h0⟩ := own_viewN ho
  exact ⟨ad, cap, rfl, hc, hr, hb, fun h => (h0 h).1⟩

theorem results_tmp5 {fn : Func} {t u v x y : Tmp} (h : fn.results = #[.tmp t, .tmp u, .tmp v, .tmp x, .tmp y]) (tmps : Array Value) (P : Program) (w : World) :
    (results fn tmps).run P w = .ok (.tuple #[tmps.getD t undef, tmps.getD u undef, tmps.getD v undef, tmps.getD x undef, tmps.getD y undef]) w := by
  simp [results, h]
end Go.Proofs.Ytmnaccojekojkaa
