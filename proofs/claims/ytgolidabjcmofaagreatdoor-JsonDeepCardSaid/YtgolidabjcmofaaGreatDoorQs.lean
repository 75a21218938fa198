/- Texts of the claim. -/
import Derived.Test.YtgolidabjcmofaaGreatDoorQr
namespace Go.Proofs.YtgolidabjcmofaaGreatDoor
open Go.RowKit Go.Shelf
set_option linter.unusedVariables false
set_option linter.unusedSimpArgs false
theorem getD_mapc {l : List MT} {i : Nat} (h : i < l.length) (d : MT) : (l.map MT.c).getD i zeroC = (l.getD i d).c := by simp [List.getD, h]
end Go.Proofs.YtgolidabjcmofaaGreatDoor
namespace Go.Proofs.YtgolidabjcmofaaGreatDoor
open Go.RowKit Go.Shelf
set_option linter.unusedVariables false
set_option linter.unusedSimpArgs false
def partsL (t : MT) : List MT := if t.c.k = 6 ∨ t.c.k = 7 then t.v else []
def alikeB (a b : MT) : Bool :=
  if a.c.k = b.c.k then
    if a.c.k = 2 then a.c.b == b.c.b
    else if a.c.k = 3 then decide ((a.c.neg = b.c.neg ∧ a.c.e = b.c.e) ∧ a.m = b.m)
    else if a.c.k = 4 ∨ a.c.k = 5 then eqS a.c.s b.c.s
    else if a.c.k = 7 then decide (a.k = b.k) && decide (a.c.vn = b.c.vn)
    else if a.c.k = 6 then decide (a.c.vn = b.c.vn)
    else true
  else false
mutual
def sameM : MT → MT → Bool | .mk c m k v, u => alikeB (.mk c m k v) u && (if c.k = 6 ∨ c.k = 7 then sameLs v u.v else true)
def sameLs : List MT → List MT → Bool | [], _ => true | _ :: _, [] => false | t :: l, u :: r => sameM t u && sameLs l r
end
theorem sameLs_nil (r : List MT) : sameLs [] r = true := by rw [sameLs]
theorem sameLs_cons (t : MT) (l : List MT) (u : MT) (r : List MT) : sameLs (t :: l) (u :: r) = (sameM t u && sameLs l r) := by rw [sameLs]
theorem alike_kind {a b : MT} (h : alikeB a b = true) : a.c.k = b.c.k := by
  unfold alikeB at h
  split at h
  · assumption
  · cases h
theorem sameM_eq (t u : MT) : sameM t u = (alikeB t u && sameLs (partsL t) (partsL u)) := by
  obtain ⟨c, m, k, v⟩ := t
  rw [sameM]
  cases h : alikeB (.mk c m k v) u
  · rfl
  · have hk : c.k = u.c.k := alike_kind h
    unfold partsL
    rw [← hk]
    show (true && _) = (true && sameLs (if c.k = 6 ∨ c.k = 7 then v else []) _)
    split
    · rfl
    · rw [sameLs_nil]
theorem alike_refl (t : MT) : alikeB t t = true := by
  unfold alikeB
  rw [if_pos rfl]
  split
  · simp
  · split
    · simp
    · split
      · exact eqS_refl _
      · split
        · simp
        · split
          · simp
          · rfl
theorem sameLs_refl (l : List MT) (h : ∀ s ∈ l, sameM s s = true) : sameLs l l = true := by
  induction l with
  | nil => exact sameLs_nil _
  | cons t l ih => rw [sameLs_cons, h t (by simp), ih (fun s hs => h s (by simp [hs]))]; rfl
theorem sameM_refl : ∀ t, sameM t t = true := MT.ind fun t ih => by
  rw [sameM_eq, alike_refl]
  show sameLs _ _ = true
  refine sameLs_refl _ fun s hs => ih s ?_
  unfold partsL at hs
  split at hs
  · exact hs
  · cases hs
theorem sameM_obj {a b : MT} (ha : a.c.k = 7) (hb : b.c.k = 7) (hk : a.k = b.k) (hv : a.v = b.v) (hn : a.c.vn = b.c.vn) : sameM a b = true := by
  rw [sameM_eq]
  have h1 : alikeB a b = true := by
    unfold alikeB
    rw [ha, hb, hk, hn]
    simp
  have h2 : partsL a = partsL b := by
    unfold partsL
    rw [ha, hb, hv]
  rw [h1, h2]
  exact sameLs_refl _ fun s _ => sameM_refl s
def NumsOk (t : MT) : Prop := ∀ s, t.sub s → s.c.k = 3 → chkB s.c.neg s.m s.c.e = true
theorem NumsOk.part {t s : MT} (h : NumsOk t) (hs : s ∈ t.v) : NumsOk s := fun u hu => h u (MT.sub_v hs hu)
theorem NumsOk.mk {t : MT} (h1 : t.c.k = 3 → chkB t.c.neg t.m t.c.e = true) (h2 : ∀ s ∈ t.v, NumsOk s) : NumsOk t := by
  intro u hu
  rcases MT.sub_cases hu with rfl | ⟨s, hs, hu⟩
  · exact h1
  · exact h2 s hs u hu
end Go.Proofs.YtgolidabjcmofaaGreatDoor
namespace Go.Proofs.YtgolidabjcmofaaGreatDoor
open Go.RowKit Go.Shelf
set_option linter.unusedVariables false
set_option linter.unusedSimpArgs false
def Ris (l : List ByteArray) : Prop := ∀ i j, i < j → j < l.length → ltS (l.getD i ByteArray.empty) (l.getD j ByteArray.empty) = true
structure Spl (N : List ByteArray) (s : ByteArray) (p q : Nat) : Prop where
  pq : p ≤ q
  qp : q ≤ p + 1
  ql : q ≤ N.length
  lo : ∀ j, j < p → ltS (N.getD j ByteArray.empty) s = true
  hi : ∀ j, q ≤ j → j < N.length → ltS s (N.getD j ByteArray.empty) = true
  mid : q = p + 1 → N.getD p ByteArray.empty = s
end Go.Proofs.YtgolidabjcmofaaGreatDoor
namespace Go.Proofs.YtgolidabjcmofaaGreatDoor
open Go.RowKit Go.Shelf
set_option linter.unusedVariables false
set_option linter.unusedSimpArgs false
def three (w : World) (c d : Cel) : World := ((w.alloc (.cells c.cells.toArray 28)).alloc (.cells d.cells.toArray 28)).alloc (.cells (leafC 0 false ⟨#[]⟩).cells.toArray 28)
end Go.Proofs.YtgolidabjcmofaaGreatDoor
