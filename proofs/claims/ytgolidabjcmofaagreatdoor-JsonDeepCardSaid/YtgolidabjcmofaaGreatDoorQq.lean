/- Texts of the claim. -/
import Derived.Test.YtgolidabjcmofaaGreatDoorQp
namespace Go.Proofs.YtgolidabjcmofaaGreatDoor
open Go.RowKit Go.Shelf
set_option linter.unusedVariables false
set_option linter.unusedSimpArgs false
def RepB (s : Nat) (w : World) (t : MT) : Prop := ∀ W, But s w W → Rep W t
theorem RepB.on {s : Nat} {w W : World} {t : MT} (h : RepB s w t) (hb : But s w W) : RepB s W t := fun U hU => h U (hb.trans hU)
theorem RepB.rep {s : Nat} {w : World} {t : MT} (h : RepB s w t) : Rep w t := h w (But.refl s w)
theorem cel_one (c : Cel) : ∀ u ∈ c.cells, u.oneCell' = true := by
  intro u hu; simp [Cel.cells] at hu
  rcases hu with rfl | rfl | rfl | rfl | rfl | rfl | rfl | rfl <;> rfl
theorem own_other {w w' : World} {B : Nat} {e : TypeId} {size : Nat} {v : Value} {n : Nat} {xs : List Value} (h : w.ownsRow B e size v n xs) (hk : ∀ k, v.ownBlock = some k → w'.heap[k]? = w.heap[k]?) : w'.ownsRow B e size v n xs := by
  refine ⟨h.1, ?_⟩
  rcases h.2 with h2 | ⟨g, cap, cur, rfl, hB, hg, rest⟩
  · exact .inl h2
  · refine .inr ⟨g, cap, cur, rfl, hB, ?_, rest⟩
    rw [hk g rfl]; exact hg
def L1 (w : World) (s d : Nat) (k : Nat) (i : Value) (wr : World) : Prop :=
  ∃ bs : List Nat, bs.length ≤ d ∧ d - bs.length ≤ k ∧ i = .int .i64 (bs.length : Int) ∧ BlkV wr s 28 (flat [(Tw bs).c]) ∧ RepB s wr (Tw bs) ∧ Below w.heap.size w wr
def L2 (w1 : World) (s n : Nat) (k : Nat) (i : Value) (wr : World) : Prop :=
  ∃ (m : Nat) (ad : Option Addr) (cap : Nat), m ≤ n ∧ n - m ≤ k ∧ i = .int .i64 (m : Int) ∧ BlkV wr s 28 (flat [arrC ad m cap]) ∧ wr.ownsRow (s + 1) 28 8 (.slice ad m cap) m (flat (List.replicate m (leafC 2 true ⟨#[]⟩))) ∧ Below w1.heap.size w1 wr
end Go.Proofs.YtgolidabjcmofaaGreatDoor
namespace Go.Proofs.YtgolidabjcmofaaGreatDoor
open Go.RowKit Go.Shelf
set_option linter.unusedVariables false
set_option linter.unusedSimpArgs false
def eqS (a b : ByteArray) : Bool := a.toList == b.toList
theorem eqS_iff {a b : ByteArray} : eqS a b = true ↔ a = b := by
  unfold eqS
  rw [beq_iff_eq]
  refine ⟨fun h => ?_, fun h => by rw [h]⟩
  rw [Lib.toList_data, Lib.toList_data] at h
  exact ByteArray.ext (Array.toList_inj.1 h)
theorem eqS_refl (a : ByteArray) : eqS a a = true := eqS_iff.2 rfl
def ixL : List ByteArray → ByteArray → Option Nat
  | [], _ => none
  | x :: l, s => if eqS x s then some 0 else (ixL l s).map (· + 1)
def plL : List ByteArray → ByteArray → Nat
  | [], _ => 0
  | x :: l, s => if ltS s x then 0 else plL l s + 1
end Go.Proofs.YtgolidabjcmofaaGreatDoor
