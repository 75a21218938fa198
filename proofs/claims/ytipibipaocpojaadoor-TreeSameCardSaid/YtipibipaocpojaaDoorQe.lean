/- The walks of package utf: Put, Runes, Join. -/
import Derived.Test.YtipibipaocpojaaDoorQd
import Derived.Lib.Small
import Derived.OwnWalk
import Derived.Laws.AppendOwn
import Derived.Laws.MakeOwn
namespace Go.Proofs.YtipibipaocpojaaDoor
open Go.RowKit Go.Shelf
set_option linter.unusedVariables false
set_option linter.unusedSimpArgs false

/-- A code point's bytes as a text; empty of what is none. -/
def putS (r : Int) : ByteArray := ⟨(if okR r then enc r else []).toArray⟩
theorem validRune_ok (r : Int) : Lib.validRune r = okR r := by
  rw [Bool.eq_iff_iff, okR_iff]; unfold Lib.validRune; rw [decide_eq_true_eq]; omega
theorem encode_enc {r : Int} (h : okR r = true) : Utf8.encode r = ⟨(enc r).toArray⟩ := by
  have hv : Utf8.valid r = true := h
  obtain ⟨n, rfl, hn⟩ := okR_nat h
  unfold Utf8.encode enc encN
  simp only [hv, if_true, Int.toNat_natCast]
  repeat' split
  all_goals simp

theorem info_i32 : (Tryd.prog.info? 21).map (fun i => (i.zero, i.size, i.bytes)) = some (some (.int .i32 0), 1, 4) := by kernel_rfl
/-- Code points as values. -/
def rv (l : List Int) : List Value := l.map (Value.int .i32)
/-- A list of code points that the call made. -/
def RunesPost (l : List Int) (w : World) (e : Ending) (w' : World) : Prop :=
  ∃ v, e = .returned v ∧ w'.ownsRow w.heap.size 21 1 v l.length (rv l) ∧ Below w.heap.size w w'

/-- What holds from round to round of Runes. -/
def RR (s : ByteArray) (B IT : Nat) (w : World) (k : Nat) (v : Value) (wr : World) : Prop :=
  ∃ pos acc, s.size - pos ≤ k ∧ acc ++ runesL (tailL s pos) = runesL s.data.toList ∧ acc.length ≤ pos ∧ pos ≤ s.size ∧ wr.ownsRow B 21 1 v acc.length (rv acc) ∧ wr.heap[IT]? = some (.stringIter s pos) ∧ Below B w wr
theorem own_iterAt {w : World} {B : Nat} {e : TypeId} {v : Value} {n : Nat} {xs : List Value} {IT : Nat} {s : ByteArray} {p q : Nat} (h : w.ownsRow B e 1 v n xs) (hi : w.heap[IT]? = some (.stringIter s p)) : (w.iterAt IT s q).ownsRow B e 1 v n xs := by
  refine ⟨h.1, ?_⟩
  rcases h.2 with h2 | ⟨g, cap, cur, rfl, hb, hg, rest⟩
  · exact .inl h2
  · refine .inr ⟨g, cap, cur, rfl, hb, ?_, rest⟩
    rw [Lib.iterAt_other]; exact hg
    intro e; subst e; rw [hg] at hi; cases hi
theorem own_below {w w' : World} {B : Nat} {e : TypeId} {v : Value} {n : Nat} {xs : List Value} (h : w.ownsRow B e 1 v n xs) (hb : Below w.heap.size w w') : w'.ownsRow B e 1 v n xs := by
  refine ⟨h.1, ?_⟩
  rcases h.2 with h2 | ⟨g, cap, cur, rfl, hB, hg, rest⟩
  · exact .inl h2
  · refine .inr ⟨g, cap, cur, rfl, hB, ?_, rest⟩
    rw [hb.block g (Array.getElem?_eq_some_iff.1 hg).1]; exact hg
theorem iter_below {w w' : World} {IT : Nat} {s : ByteArray} {p : Nat} (hi : w.heap[IT]? = some (.stringIter s p)) (hb : Below w.heap.size w w') : w'.heap[IT]? = some (.stringIter s p) := by
  rw [hb.block IT (Array.getElem?_eq_some_iff.1 hi).1]; exact hi
theorem iter_grown {w w' : World} {B : Nat} {e : TypeId} {v : Value} {n : Nat} {xs : List Value} {IT : Nat} {s : ByteArray} {p : Nat} (hi : w.heap[IT]? = some (.stringIter s p)) (h : w.ownsRow B e 1 v n xs) (hg : w.grownBy w' v.ownBlock) : w'.heap[IT]? = some (.stringIter s p) := by
  rw [hg.block IT (Array.getElem?_eq_some_iff.1 hi).1]; exact hi
  intro e
  rcases h.2 with ⟨rfl, _⟩ | ⟨g, cap, cur, rfl, hB, hg, rest⟩
  · simp [Value.ownBlock] at e
  · simp [Value.ownBlock] at e; subst e; rw [hg] at hi; cases hi
theorem iter_alloc {w : World} {IT : Nat} {s : ByteArray} {p : Nat} (hi : w.heap[IT]? = some (.stringIter s p)) (o : Obj) : (w.alloc o).heap[IT]? = some (.stringIter s p) := by
  rw [Lib.alloc_old w o IT (Array.getElem?_eq_some_iff.1 hi).1]; exact hi
/-- One round more: what was appended is the next code point. -/
theorem RR.step {s : ByteArray} {B IT : Nat} {w wr w' : World} {k pos : Nat} {acc : List Int} {v v' : Value} {o : Obj} (hp : pos < s.size) (hk : s.size - pos ≤ k + 1) (ha : acc ++ runesL (tailL s pos) = runesL s.data.toList) (hl : acc.length ≤ pos)
    (ho : wr.ownsRow B 21 1 v acc.length (rv acc)) (hi : wr.heap[IT]? = some (.stringIter s (pos + (runeL (tailL s pos)).2))) (hb : Below B w wr) (hB : B ≤ wr.heap.size)
    (h1 : w'.ownsRow B 21 1 v' (acc.length + 1) (rv acc ++ [.int .i32 (runeL (tailL s pos)).1])) (h2 : (wr.alloc o).grownBy w' v.ownBlock) : RR s B IT w k v' w' := by
  have hw := runeL_width (tailL s pos) (tailL_ne hp)
  rw [tailL_length] at hw
  refine ⟨pos + (runeL (tailL s pos)).2, acc ++ [(runeL (tailL s pos)).1], by omega, ?_, by simp; omega, by omega, ?_, ?_, ?_⟩
  · rw [← ha, runesL_cons (tailL_ne hp), tailL_drop]; simp
  · simpa [rv] using h1
  · exact iter_grown (iter_alloc hi o) (ho.alloc o) h2
  · exact (hb.alloc hB o).grown h2 (by simp; omega) (fun g hg => (ho.lt g hg).1)

end Go.Proofs.YtipibipaocpojaaDoor
/- The walk of package utf's Join. Lists of whole numbers in memory. -/
namespace Go.Proofs.YtipibipaocpojaaDoor
open Go.RowKit Go.Shelf
set_option linter.unusedVariables false
set_option linter.unusedSimpArgs false

/-- The cells that a slice's address leads to read as these whole numbers of the kind k. -/
def Rk (k : IntKind) (w : World) (ad : Option Addr) (xs : List Int) : Prop :=
  ∀ i, i < xs.length → ∃ b o, ad = some ⟨b, o, none⟩ ∧ b < w.heap.size ∧ w.cell? ⟨b, o + i, none⟩ = some (.int k (xs.getD i 0))
theorem Rk.at {k : IntKind} {w : World} {b o : Nat} {xs : List Int} (h : Rk k w (some ⟨b, o, none⟩) xs) (i : Nat) (hi : i < xs.length) :
    w.cell? ⟨b, o + i, none⟩ = some (.int k (xs.getD i 0)) := by
  obtain ⟨b', o', e, _, hc⟩ := h i hi
  cases e; exact hc
theorem Rk.nil (k : IntKind) (w : World) (ad : Option Addr) : Rk k w ad [] := by intro i h; simp at h
theorem Rk.below {k : IntKind} {w w' : World} {ad : Option Addr} {xs : List Int} (h : Rk k w ad xs) (hb : Below w.heap.size w w') : Rk k w' ad xs := by
  intro i hi
  obtain ⟨b, o, e, hlt, hc⟩ := h i hi
  exact ⟨b, o, e, Nat.lt_of_lt_of_le hlt hb.size, by rw [hb.cell (p := ⟨b, o + i, none⟩) hlt]; exact hc⟩
/-- What the call owns can be read. -/
theorem own_rk {w : World} {B : Nat} {v : Value} {l : List Int} (h : w.ownsRow B 21 1 v l.length (rv l)) :
    ∃ ad cap, v = .slice ad l.length cap ∧ l.length ≤ cap ∧ Rk .i32 w ad l := by
  rcases h.2 with ⟨rfl, h0⟩ | ⟨g, cap, cur, rfl, hB, hg, hc, rest⟩
  · have : l = [] := List.eq_nil_of_length_eq_zero h0
    subst this
    exact ⟨none, 0, rfl, Nat.le_refl _, Rk.nil _ _ _⟩
  · refine ⟨_, cap, rfl, hc, ?_⟩
    intro i hi
    refine ⟨g, 0, rfl, (Array.getElem?_eq_some_iff.1 hg).1, ?_⟩
    have := World.ownsRow.cells h (g := g) rfl i (.int .i32 (l.getD i 0)) (by simp [rv, List.getD, hi])
    have hadd : (⟨g, 0, none⟩ : Addr).add i = ⟨g, 0 + i, none⟩ := by unfold Addr.add; split <;> simp_all
    rw [hadd] at this; exact this

def JoinPost (rs : List Int) (w : World) (e : Ending) (w' : World) : Prop :=
  e = .returned (.tuple #[.string ⟨(if okAll rs then joinL rs else []).toArray⟩, .bool (okAll rs)]) ∧ Below w.heap.size w w'

theorem okAll_get {rs : List Int} (h : okAll rs = true) (i : Nat) (hi : i < rs.length) : okR (rs.getD i 0) = true := by
  simp only [okAll, List.all_eq_true] at h
  have := h rs[i] (List.getElem_mem hi)
  simpa [List.getD, hi] using this
theorem take_snocI (rs : List Int) (i : Nat) (hi : i < rs.length) : rs.take (i + 1) = rs.take i ++ [rs.getD i 0] := by
  rw [List.take_succ_eq_append_getElem hi]; simp [List.getD, hi]
theorem okAll_snoc {rs : List Int} {r : Int} (h : okAll rs = true) (hr : okR r = true) : okAll (rs ++ [r]) = true := by
  simp [okAll] at h ⊢; exact ⟨h, hr⟩
end Go.Proofs.YtipibipaocpojaaDoor
