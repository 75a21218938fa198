/- Texts of the claim. -/
import Derived.Test.YtijaphbccnadbaaGreatDoorVl
import Derived.Test.YtijaphbccnadbaaGreatDoorRows
import Derived.Below
import Derived.WalkKit
import Derived.WalkSpells
import Derived.WalkLawsBesides
import Derived.Laws.BytesArg
import Derived.Laws.CopyOwn
namespace Go.Proofs.YtijaphbccnadbaaGreatDoor
open Go.RowKit Go.Shelf
set_option linter.unusedVariables false
set_option linter.unusedSimpArgs false
theorem lm0 : (0 : Nat) ≤ 1000000000000000 := Nat.zero_le _
theorem li0 : -9223372036854775808 ≤ (0 : Int) ∧ (0 : Int) ≤ 9223372036854775807 := by decide
theorem li3 : -9223372036854775808 ≤ (3 : Int) ∧ (3 : Int) ≤ 9223372036854775807 := by decide
theorem li6 : -9223372036854775808 ≤ (6 : Int) ∧ (6 : Int) ≤ 9223372036854775807 := by decide
def leafC (k : Int) (b : Bool) (s : ByteArray) : Cel := ⟨k, b, false, none, 0, 0, 0, s, none, 0, 0, none, 0, 0⟩
def leafT (k : Int) (b : Bool) (s : ByteArray) : MT := .mk (leafC k b s) [] [] []
theorem leafT_rep (w : World) (k : Int) (b : Bool) (s : ByteArray) (hk : -9223372036854775808 ≤ k ∧ k ≤ 9223372036854775807) (hs : s.size ≤ maxLen) : Rep w (leafT k b s) :=
  Rep.mk ⟨rfl, Nat.le_refl _, Okl.nil, Rd.nil _ _, rfl, Nat.le_refl _, RdV.nil _ _, rfl, Nat.le_refl _, RdV.nil _ _, ⟨lm0, lm0, lm0⟩, hs, nofun, li0, hk⟩ nofun
def arrC (va : Option Addr) (n cap : Nat) : Cel := ⟨6, false, false, none, 0, 0, 0, ⟨#[]⟩, none, 0, 0, va, n, cap⟩
def arrT (va : Option Addr) (n cap : Nat) (l : List MT) : MT := .mk (arrC va n cap) [] [] l
theorem arrT_rep {w : World} {va : Option Addr} {n cap : Nat} {l : List MT} (hl : l.length = n) (hc : n ≤ cap) (hm : n ≤ 1000000000000000) (hr : RdV w va (flat (l.map MT.c))) (hp : ∀ t ∈ l, Rep w t) : Rep w (arrT va n cap l) :=
  Rep.mk ⟨rfl, Nat.le_refl _, Okl.nil, Rd.nil _ _, rfl, Nat.le_refl _, RdV.nil _ _, hl, hc, hr, ⟨lm0, lm0, hm⟩, Nat.zero_le _, nofun, li0, li6⟩ hp
def objC7 (ka : Option Addr) (kn kc : Nat) (va : Option Addr) (n cap : Nat) : Cel := ⟨7, false, false, none, 0, 0, 0, ⟨#[]⟩, ka, kn, kc, va, n, cap⟩
def objT (ka : Option Addr) (kn kc : Nat) (va : Option Addr) (n cap : Nat) (ks : List ByteArray) (l : List MT) : MT := .mk (objC7 ka kn kc va n cap) [] ks l
def numC (neg : Bool) (ma : Option Addr) (mn mc : Nat) (e : Int) : Cel := ⟨3, false, neg, ma, mn, mc, e, ⟨#[]⟩, none, 0, 0, none, 0, 0⟩
def numT (neg : Bool) (ma : Option Addr) (mn mc : Nat) (e : Int) (m : List Nat) : MT := .mk (numC neg ma mn mc e) m [] []
theorem numT_rep {w : World} {neg : Bool} {ma : Option Addr} {mn mc : Nat} {e : Int} {m : List Nat} (hl : m.length = mn) (hc : mn ≤ mc) (hm : mn ≤ 1000000000000000) (ho : Okl m) (hr : Rd w ma m) (he : -9223372036854775808 ≤ e ∧ e ≤ 9223372036854775807) : Rep w (numT neg ma mn mc e m) :=
  Rep.mk ⟨hl, hc, ho, hr, rfl, Nat.le_refl _, RdV.nil _ _, rfl, Nat.le_refl _, RdV.nil _ _, ⟨hm, lm0, lm0⟩, Nat.zero_le _, nofun, he, li3⟩ nofun
theorem rdv_new (w : World) (vs : List Value) (e : TypeId) : RdV (w.alloc (.cells vs.toArray e)) (some ⟨w.heap.size, 0, none⟩) vs :=
  BlkV.all (e := e) (by unfold BlkV; exact heap_alloc_new w _)
end Go.Proofs.YtijaphbccnadbaaGreatDoor
namespace Go.Proofs.YtijaphbccnadbaaGreatDoor
open Go.RowKit
set_option linter.unusedVariables false
set_option linter.unusedSimpArgs false
end Go.Proofs.YtijaphbccnadbaaGreatDoor
namespace Go.Proofs.YtijaphbccnadbaaGreatDoor
open Go.RowKit Go.Shelf
set_option linter.unusedVariables false
set_option linter.unusedSimpArgs false
def Tw : List Nat → MT
  | [] => leafT 1 false ⟨#[]⟩
  | b :: bs => arrT (some ⟨b, 0, none⟩) 1 1 [Tw bs]
end Go.Proofs.YtijaphbccnadbaaGreatDoor
namespace Go.Proofs.YtijaphbccnadbaaGreatDoor
open Go.RowKit Go.Shelf
set_option linter.unusedVariables false
set_option linter.unusedSimpArgs false
def RepB (s : Nat) (w : World) (t : MT) : Prop := ∀ W, But s w W → Rep W t
theorem RepB.on {s : Nat} {w W : World} {t : MT} (h : RepB s w t) (hb : But s w W) : RepB s W t := fun U hU => h U (hb.trans hU)
theorem RepB.rep {s : Nat} {w : World} {t : MT} (h : RepB s w t) : Rep w t := h w (But.refl s w)
theorem cel_one (c : Cel) : ∀ u ∈ c.cells, u.oneCell' = true := by
  intro u hu; simp [Cel.cells] at hu
  rcases hu with rfl | rfl | rfl | rfl | rfl | rfl | rfl | rfl <;> rfl
theorem own_other {w w' : World} {B : Nat} {e : TypeId} {size : Nat} {v : Value} {n : Nat} {xs : List Value} (h : w.ownsRow B e size v n xs) (hk : ∀ k, v.ownBlock = some k → w'.heap[k]? = w.heap[k]?) : w'.ownsRow B e size v n xs := by
  refine ⟨h.1, ?_⟩
  rcases h.2 with h2 | ⟨g, cap, cur, rfl, hB, hg, rest⟩
  · exact .inl h2
  · refine .inr ⟨g, cap, cur, rfl, hB, ?_, rest⟩
    rw [hk g rfl]; exact hg
def L1 (w : World) (s d : Nat) (k : Nat) (i : Value) (wr : World) : Prop :=
  ∃ bs : List Nat, bs.length ≤ d ∧ d - bs.length ≤ k ∧ i = .int .i64 (bs.length : Int) ∧ BlkV wr s 28 (flat [(Tw bs).c]) ∧ RepB s wr (Tw bs) ∧ Below w.heap.size w wr
def L2 (w1 : World) (s n : Nat) (k : Nat) (i : Value) (wr : World) : Prop :=
  ∃ (m : Nat) (ad : Option Addr) (cap : Nat), m ≤ n ∧ n - m ≤ k ∧ i = .int .i64 (m : Int) ∧ BlkV wr s 28 (flat [arrC ad m cap]) ∧ wr.ownsRow (s + 1) 28 8 (.slice ad m cap) m (flat (List.replicate m (leafC 2 true ⟨#[]⟩))) ∧ Below w1.heap.size w1 wr
end Go.Proofs.YtijaphbccnadbaaGreatDoor
namespace Go.Proofs.YtijaphbccnadbaaGreatDoor
open Go.RowKit Go.Shelf
set_option linter.unusedVariables false
set_option linter.unusedSimpArgs false
def eqS (a b : ByteArray) : Bool := a.toList == b.toList
theorem eqS_iff {a b : ByteArray} : eqS a b = true ↔ a = b := by
  unfold eqS
  rw [beq_iff_eq]
  refine ⟨fun h => ?_, fun h => by rw [h]⟩
  rw [Lib.toList_data, Lib.toList_data] at h
  exact ByteArray.ext (Array.toList_inj.1 h)
theorem eqS_refl (a : ByteArray) : eqS a a = true := eqS_iff.2 rfl
def ixL : List ByteArray → ByteArray → Option Nat
  | [], _ => none
  | x :: l, s => if eqS x s then some 0 else (ixL l s).map (· + 1)
def plL : List ByteArray → ByteArray → Nat
  | [], _ => 0
  | x :: l, s => if ltS s x then 0 else plL l s + 1
end Go.Proofs.YtijaphbccnadbaaGreatDoor
namespace Go.Proofs.YtijaphbccnadbaaGreatDoor
open Go.RowKit Go.Shelf
set_option linter.unusedVariables false
set_option linter.unusedSimpArgs false
end Go.Proofs.YtijaphbccnadbaaGreatDoor
namespace Go.Proofs.YtijaphbccnadbaaGreatDoor
open Go.RowKit Go.Shelf
set_option linter.unusedVariables false
set_option linter.unusedSimpArgs false
theorem cells_len (c : Cel) : c.cells.length = 8 := rfl
end Go.Proofs.YtijaphbccnadbaaGreatDoor
namespace Go.Proofs.YtijaphbccnadbaaGreatDoor
open Go.RowKit Go.Shelf
set_option linter.unusedVariables false
set_option linter.unusedSimpArgs false
theorem two2_box (w : World) (c d : Cel) : BoxT (two2 w c d) w.heap.size c ∧ BoxT (two2 w c d) (w.heap.size + 1) d := by
  refine ⟨(Below.heap_alloc _ _ _ (by simp)).trans (heap_alloc_new w _), ?_⟩
  have := heap_alloc_new (w.alloc (.cells c.cells.toArray 28)) (.cells d.cells.toArray 28)
  rw [World.size_alloc] at this; exact this
theorem two2_size (w : World) (c d : Cel) : (two2 w c d).heap.size = w.heap.size + 2 := by simp [two2]
theorem getD_mapc {l : List MT} {i : Nat} (h : i < l.length) (d : MT) : (l.map MT.c).getD i zeroC = (l.getD i d).c := by simp [List.getD, h]
end Go.Proofs.YtijaphbccnadbaaGreatDoor
namespace Go.Proofs.YtijaphbccnadbaaGreatDoor
open Go.RowKit Go.Shelf
set_option linter.unusedVariables false
set_option linter.unusedSimpArgs false
def partsL (t : MT) : List MT := if t.c.k = 6 ∨ t.c.k = 7 then t.v else []
def alikeB (a b : MT) : Bool :=
  if a.c.k = b.c.k then
    if a.c.k = 2 then a.c.b == b.c.b
    else if a.c.k = 3 then decide ((a.c.neg = b.c.neg ∧ a.c.e = b.c.e) ∧ a.m = b.m)
    else if a.c.k = 4 ∨ a.c.k = 5 then eqS a.c.s b.c.s
    else if a.c.k = 7 then decide (a.k = b.k) && decide (a.c.vn = b.c.vn)
    else if a.c.k = 6 then decide (a.c.vn = b.c.vn)
    else true
  else false
mutual
def sameM : MT → MT → Bool | .mk c m k v, u => alikeB (.mk c m k v) u && (if c.k = 6 ∨ c.k = 7 then sameLs v u.v else true)
def sameLs : List MT → List MT → Bool | [], _ => true | _ :: _, [] => false | t :: l, u :: r => sameM t u && sameLs l r
end
theorem sameLs_nil (r : List MT) : sameLs [] r = true := by rw [sameLs]
theorem sameLs_cons (t : MT) (l : List MT) (u : MT) (r : List MT) : sameLs (t :: l) (u :: r) = (sameM t u && sameLs l r) := by rw [sameLs]
theorem alike_kind {a b : MT} (h : alikeB a b = true) : a.c.k = b.c.k := by
  unfold alikeB at h
  split at h
  · assumption
  · cases h
theorem sameM_eq (t u : MT) : sameM t u = (alikeB t u && sameLs (partsL t) (partsL u)) := by
  obtain ⟨c, m, k, v⟩ := t
  rw [sameM]
  cases h : alikeB (.mk c m k v) u
  · rfl
  · have hk : c.k = u.c.k := alike_kind h
    unfold partsL
    rw [← hk]
    show (true && _) = (true && sameLs (if c.k = 6 ∨ c.k = 7 then v else []) _)
    split
    · rfl
    · rw [sameLs_nil]
theorem alike_refl (t : MT) : alikeB t t = true := by
  unfold alikeB
  rw [if_pos rfl]
  split
  · simp
  · split
    · simp
    · split
      · exact eqS_refl _
      · split
        · simp
        · split
          · simp
          · rfl
theorem sameLs_refl (l : List MT) (h : ∀ s ∈ l, sameM s s = true) : sameLs l l = true := by
  induction l with
  | nil => exact sameLs_nil _
  | cons t l ih => rw [sameLs_cons, h t (by simp), ih (fun s hs => h s (by simp [hs]))]; rfl
theorem sameM_refl : ∀ t, sameM t t = true := MT.ind fun t ih => by
  rw [sameM_eq, alike_refl]
  show sameLs _ _ = true
  refine sameLs_refl _ fun s hs => ih s ?_
  unfold partsL at hs
  split at hs
  · exact hs
  · cases hs
theorem sameM_obj {a b : MT} (ha : a.c.k = 7) (hb : b.c.k = 7) (hk : a.k = b.k) (hv : a.v = b.v) (hn : a.c.vn = b.c.vn) : sameM a b = true := by
  rw [sameM_eq]
  have h1 : alikeB a b = true := by
    unfold alikeB
    rw [ha, hb, hk, hn]
    simp
  have h2 : partsL a = partsL b := by
    unfold partsL
    rw [ha, hb, hv]
  rw [h1, h2]
  exact sameLs_refl _ fun s _ => sameM_refl s
def NumsOk (t : MT) : Prop := ∀ s, t.sub s → s.c.k = 3 → chkB s.c.neg s.m s.c.e = true
theorem NumsOk.part {t s : MT} (h : NumsOk t) (hs : s ∈ t.v) : NumsOk s := fun u hu => h u (MT.sub_v hs hu)
theorem NumsOk.mk {t : MT} (h1 : t.c.k = 3 → chkB t.c.neg t.m t.c.e = true) (h2 : ∀ s ∈ t.v, NumsOk s) : NumsOk t := by
  intro u hu
  rcases MT.sub_cases hu with rfl | ⟨s, hs, hu⟩
  · exact h1
  · exact h2 s hs u hu
end Go.Proofs.YtijaphbccnadbaaGreatDoor
namespace Go.Proofs.YtijaphbccnadbaaGreatDoor
open Go.RowKit Go.Shelf
set_option linter.unusedVariables false
set_option linter.unusedSimpArgs false
theorem ltS_irr (a : ByteArray) : ltS a a = false := bytesLess_irr _
theorem ltS_tr {a b c : ByteArray} (h : ltS a b = true) (h2 : ltS b c = true) : ltS a c = true := bytesLess_tr _ _ _ h h2
theorem ltS_ne {a b : ByteArray} (h : ltS a b = true) : a ≠ b := by
  intro e; subst e; rw [ltS_irr] at h; cases h
def Ris (l : List ByteArray) : Prop := ∀ i j, i < j → j < l.length → ltS (l.getD i ByteArray.empty) (l.getD j ByteArray.empty) = true
theorem ris_of {l : List ByteArray} (h : risesB l = true) : Ris l := by
  intro i j hij
  induction j with
  | zero => omega
  | succ j ih =>
    intro hj
    have h1 := risesB_iff.1 h (j + 1) hj
    unfold nameAt at h1
    simp at h1
    have h2 := h1.2
    by_cases e : i = j
    · subst e; simpa [List.getD] using h2
    · exact ltS_tr (ih (by omega) (by omega)) (by simpa [List.getD] using h2)
structure Spl (N : List ByteArray) (s : ByteArray) (p q : Nat) : Prop where
  pq : p ≤ q
  qp : q ≤ p + 1
  ql : q ≤ N.length
  lo : ∀ j, j < p → ltS (N.getD j ByteArray.empty) s = true
  hi : ∀ j, q ≤ j → j < N.length → ltS s (N.getD j ByteArray.empty) = true
  mid : q = p + 1 → N.getD p ByteArray.empty = s
end Go.Proofs.YtijaphbccnadbaaGreatDoor
