/- The walk of package utf's Join. Lists of whole numbers in memory. -/
import Derived.Test.YtipibipaocpojaaDoorU5
namespace Go.Proofs.YtipibipaocpojaaDoor
open Go.RowKit Go.Shelf
set_option linter.unusedVariables false
set_option linter.unusedSimpArgs false

/-- The cells that a slice's address leads to read as these whole numbers of the kind k. -/
def Rk (k : IntKind) (w : World) (ad : Option Addr) (xs : List Int) : Prop :=
  ∀ i, i < xs.length → ∃ b o, ad = some ⟨b, o, none⟩ ∧ b < w.heap.size ∧ w.cell? ⟨b, o + i, none⟩ = some (.int k (xs.getD i 0))
theorem Rk.at {k : IntKind} {w : World} {b o : Nat} {xs : List Int} (h : Rk k w (some ⟨b, o, none⟩) xs) (i : Nat) (hi : i < xs.length) :
    w.cell? ⟨b, o + i, none⟩ = some (.int k (xs.getD i 0)) := by
  obtain ⟨b', o', e, _, hc⟩ := h i hi
  cases e; exact hc
theorem Rk.nil (k : IntKind) (w : World) (ad : Option Addr) : Rk k w ad [] := by intro i h; simp at h
theorem Rk.below {k : IntKind} {w w' : World} {ad : Option Addr} {xs : List Int} (h : Rk k w ad xs) (hb : Below w.heap.size w w') : Rk k w' ad xs := by
  intro i hi
  obtain ⟨b, o, e, hlt, hc⟩ := h i hi
  exact ⟨b, o, e, Nat.lt_of_lt_of_le hlt hb.size, by rw [hb.cell (p := ⟨b, o + i, none⟩) hlt]; exact hc⟩
/-- What the call owns can be read. -/
theorem own_rk {w : World} {B : Nat} {v : Value} {l : List Int} (h : w.ownsRow B 21 1 v l.length (rv l)) :
    ∃ ad cap, v = .slice ad l.length cap ∧ l.length ≤ cap ∧ Rk .i32 w ad l := by
  rcases h.2 with ⟨rfl, h0⟩ | ⟨g, cap, cur, rfl, hB, hg, hc, rest⟩
  · have : l = [] := List.eq_nil_of_length_eq_zero h0
    subst this
    exact ⟨none, 0, rfl, Nat.le_refl _, Rk.nil _ _ _⟩
  · refine ⟨_, cap, rfl, hc, ?_⟩
    intro i hi
    refine ⟨g, 0, rfl, (Array.getElem?_eq_some_iff.1 hg).1, ?_⟩
    have := World.ownsRow.cells h (g := g) rfl i (.int .i32 (l.getD i 0)) (by simp [rv, List.getD, hi])
    have hadd : (⟨g, 0, none⟩ : Addr).add i = ⟨g, 0 + i, none⟩ := by unfold Addr.add; split <;> simp_all
    rw [hadd] at this; exact this

def JoinPost (rs : List Int) (w : World) (e : Ending) (w' : World) : Prop :=
  e = .returned (.tuple #[.string ⟨(if okAll rs then joinL rs else []).toArray⟩, .bool (okAll rs)]) ∧ Below w.heap.size w w'

theorem okAll_get {rs : List Int} (h : okAll rs = true) (i : Nat) (hi : i < rs.length) : okR (rs.getD i 0) = true := by
  simp only [okAll, List.all_eq_true] at h
  have := h rs[i] (List.getElem_mem hi)
  simpa [List.getD, hi] using this
theorem take_snocI (rs : List Int) (i : Nat) (hi : i < rs.length) : rs.take (i + 1) = rs.take i ++ [rs.getD i 0] := by
  rw [List.take_succ_eq_append_getElem hi]; simp [List.getD, hi]
theorem okAll_snoc {rs : List Int} {r : Int} (h : okAll rs = true) (hr : okR r = true) : okAll (rs ++ [r]) = true := by
  simp [okAll] at h ⊢; exact ⟨h, hr⟩
end Go.Proofs.YtipibipaocpojaaDoor
