/- Sameness of trees by itself; an object with one member more, or less. -/
import Derived.Test.YtndjdmgncjiggaaQKf
namespace Go.Proofs.Ytndjdmgncjiggaa
open Go.RowKit Go.Shelf
set_option linter.unusedVariables false
set_option linter.unusedSimpArgs false

/-- A tree's parts, if it is of a kind that has any. -/
def partsL (t : MT) : List MT := if t.c.k = 6 ∨ t.c.k = 7 then t.v else []
/-- The same, but for the parts. -/
def alikeB (a b : MT) : Bool :=
  if a.c.k = b.c.k then
    if a.c.k = 2 then a.c.b == b.c.b
    else if a.c.k = 3 then decide ((a.c.neg = b.c.neg ∧ a.c.e = b.c.e) ∧ a.m = b.m)
    else if a.c.k = 4 ∨ a.c.k = 5 then eqS a.c.s b.c.s
    else if a.c.k = 7 then decide (a.k = b.k) && decide (a.c.vn = b.c.vn)
    else if a.c.k = 6 then decide (a.c.vn = b.c.vn)
    else true
  else false
mutual
def sameM : MT → MT → Bool | .mk c m k v, u => alikeB (.mk c m k v) u && (if c.k = 6 ∨ c.k = 7 then sameLs v u.v else true)
def sameLs : List MT → List MT → Bool | [], _ => true | _ :: _, [] => false | t :: l, u :: r => sameM t u && sameLs l r
end
theorem sameLs_nil (r : List MT) : sameLs [] r = true := by rw [sameLs]
theorem sameLs_cons (t : MT) (l : List MT) (u : MT) (r : List MT) : sameLs (t :: l) (u :: r) = (sameM t u && sameLs l r) := by rw [sameLs]
theorem alike_kind {a b : MT} (h : alikeB a b = true) : a.c.k = b.c.k := by
  unfold alikeB at h
  split at h
  · assumption
  · cases h
theorem sameM_eq (t u : MT) : sameM t u = (alikeB t u && sameLs (partsL t) (partsL u)) := by
  obtain ⟨c, m, k, v⟩ := t
  rw [sameM]
  cases h : alikeB (.mk c m k v) u
  · rfl
  · have hk : c.k = u.c.k := alike_kind h
    unfold partsL
    rw [← hk]
    show (true && _) = (true && sameLs (if c.k = 6 ∨ c.k = 7 then v else []) _)
    split
    · rfl
    · rw [sameLs_nil]
theorem alike_refl (t : MT) : alikeB t t = true := by
  unfold alikeB
  rw [if_pos rfl]
  split
  · simp
  · split
    · simp
    · split
      · exact eqS_refl _
      · split
        · simp
        · split
          · simp
          · rfl
theorem sameLs_refl (l : List MT) (h : ∀ s ∈ l, sameM s s = true) : sameLs l l = true := by
  induction l with
  | nil => exact sameLs_nil _
  | cons t l ih => rw [sameLs_cons, h t (by simp), ih (fun s hs => h s (by simp [hs]))]; rfl
theorem sameM_refl : ∀ t, sameM t t = true := MT.ind fun t ih => by
  rw [sameM_eq, alike_refl]
  show sameLs _ _ = true
  refine sameLs_refl _ fun s hs => ih s ?_
  unfold partsL at hs
  split at hs
  · exact hs
  · cases hs
/-- Two objects of the same names and values. -/
theorem sameM_obj {a b : MT} (ha : a.c.k = 7) (hb : b.c.k = 7) (hk : a.k = b.k) (hv : a.v = b.v) (hn : a.c.vn = b.c.vn) : sameM a b = true := by
  rw [sameM_eq]
  have h1 : alikeB a b = true := by
    unfold alikeB
    rw [ha, hb, hk, hn]
    simp
  have h2 : partsL a = partsL b := by
    unfold partsL
    rw [ha, hb, hv]
  rw [h1, h2]
  exact sameLs_refl _ fun s _ => sameM_refl s
/-- All numbers in a tree may be. -/
def NumsOk (t : MT) : Prop := ∀ s, t.sub s → s.c.k = 3 → chkB s.c.neg s.m s.c.e = true
theorem NumsOk.part {t s : MT} (h : NumsOk t) (hs : s ∈ t.v) : NumsOk s := fun u hu => h u (MT.sub_v hs hu)
theorem NumsOk.mk {t : MT} (h1 : t.c.k = 3 → chkB t.c.neg t.m t.c.e = true) (h2 : ∀ s ∈ t.v, NumsOk s) : NumsOk t := by
  intro u hu
  rcases MT.sub_cases hu with rfl | ⟨s, hs, hu⟩
  · exact h1
  · exact h2 s hs u hu
theorem sub_pre {t s : MT} (h : t.sub s) : ∃ n, (n, s) ∈ t.pre 1 := MT.mem_pre_shift t 0 1 s h
/-- What a tree that may be is. -/
theorem check_sound {t : MT} (h : checkB t = true) : t.nodes ≤ 2000 ∧ ∀ s, t.sub s → soundB s = true := by
  unfold checkB at h
  rw [Bool.and_eq_true, decide_eq_true_eq, List.all_eq_true] at h
  refine ⟨h.1, fun s hs => ?_⟩
  obtain ⟨n, hn⟩ := sub_pre hs
  have := h.2 _ hn
  rw [Bool.and_eq_true] at this
  exact this.2
theorem check_nums {t : MT} (h : checkB t = true) : NumsOk t := by
  intro s hs hk
  have := (check_sound h).2 s hs
  unfold soundB at this
  simp [hk] at this
  exact this.1
theorem check_obj {t : MT} (h : checkB t = true) (hk : t.c.k = 7) : t.c.kn = t.c.vn ∧ risesB t.k = true ∧ t.c.vn ≤ 300 := by
  have := (check_sound h).2 t t.sub_refl
  unfold soundB at this
  simp [hk] at this
  exact ⟨this.1, this.2.1, this.2.2.1⟩
end Go.Proofs.Ytndjdmgncjiggaa
/- Names that rise, with one more among them. -/
namespace Go.Proofs.Ytndjdmgncjiggaa
open Go.RowKit Go.Shelf
set_option linter.unusedVariables false
set_option linter.unusedSimpArgs false

theorem ltS_irr (a : ByteArray) : ltS a a = false := bytesLess_irr _
theorem ltS_tr {a b c : ByteArray} (h : ltS a b = true) (h2 : ltS b c = true) : ltS a c = true := bytesLess_tr _ _ _ h h2
theorem ltS_tot (a b : ByteArray) : ltS a b = true ∨ a = b ∨ ltS b a = true := by
  rcases bytesLess_tot a.toList b.toList with h | h | h
  · exact .inl h
  · refine .inr (.inl ?_)
    rw [Lib.toList_data, Lib.toList_data] at h
    exact ByteArray.ext (Array.toList_inj.1 h)
  · exact .inr (.inr h)
theorem ltS_ne {a b : ByteArray} (h : ltS a b = true) : a ≠ b := by
  intro e; subst e; rw [ltS_irr] at h; cases h
/-- Each name above those ahead of it. -/
def Ris (l : List ByteArray) : Prop := ∀ i j, i < j → j < l.length → ltS (l.getD i ByteArray.empty) (l.getD j ByteArray.empty) = true
theorem ris_of {l : List ByteArray} (h : risesB l = true) : Ris l := by
  intro i j hij
  induction j with
  | zero => omega
  | succ j ih =>
    intro hj
    have h1 := risesB_iff.1 h (j + 1) hj
    unfold nameAt at h1
    simp at h1
    have h2 := h1.2
    by_cases e : i = j
    · subst e; simpa [List.getD] using h2
    · exact ltS_tr (ih (by omega) (by omega)) (by simpa [List.getD] using h2)
/-- A place among names: those ahead are below, those behind are above. -/
structure Spl (N : List ByteArray) (s : ByteArray) (p q : Nat) : Prop where
  pq : p ≤ q
  qp : q ≤ p + 1
  ql : q ≤ N.length
  lo : ∀ j, j < p → ltS (N.getD j ByteArray.empty) s = true
  hi : ∀ j, q ≤ j → j < N.length → ltS s (N.getD j ByteArray.empty) = true
  mid : q = p + 1 → N.getD p ByteArray.empty = s
theorem spl_some {N : List ByteArray} {s : ByteArray} {i : Nat} (hr : Ris N) (h : ixL N s = some i) : Spl N s i (i + 1) := by
  rcases ixL_cases N s with ⟨h1, _⟩ | ⟨k, h1, h2, h3, h4⟩
  · rw [h] at h1; cases h1
  · rw [h] at h1; cases h1
    exact ⟨by omega, Nat.le_refl _, h2, fun j hj => by rw [← h3]; exact hr j i hj h2, fun j hj hl => by rw [← h3]; exact hr i j hj hl, fun _ => h3⟩
theorem plL_spec (N : List ByteArray) (s : ByteArray) : (∀ j, j < plL N s → ltS s (N.getD j ByteArray.empty) = false) ∧ (plL N s < N.length → ltS s (N.getD (plL N s) ByteArray.empty) = true) := by
  induction N with
  | nil => exact ⟨fun j hj => by simp [plL] at hj, fun h => by simp at h⟩
  | cons x l ih =>
    unfold plL
    cases hx : ltS s x
    · rw [if_neg (by decide)]
      refine ⟨fun j hj => ?_, fun h => ?_⟩
      · cases j with
        | zero => simpa using hx
        | succ j => have := ih.1 j (by omega); simpa using this
      · have := ih.2 (by simpa using h); simpa using this
    · rw [if_pos rfl]
      exact ⟨fun j hj => by omega, fun _ => by simpa using hx⟩
theorem spl_none {N : List ByteArray} {s : ByteArray} (hr : Ris N) (h : ixL N s = none) : Spl N s (plL N s) (plL N s) := by
  rcases ixL_cases N s with ⟨_, h2⟩ | ⟨k, h1, _⟩
  · have hp := plL_spec N s
    have hl := plL_le N s
    refine ⟨Nat.le_refl _, by omega, hl, fun j hj => ?_, fun j hj hjl => ?_, fun h => by omega⟩
    · rcases ltS_tot (N.getD j ByteArray.empty) s with h3 | h3 | h3
      · exact h3
      · exact absurd h3 (h2 j (by omega))
      · rw [hp.1 j hj] at h3; cases h3
    · have h3 := hp.2 (by omega)
      by_cases e : plL N s = j
      · rw [← e]; exact h3
      · exact ltS_tr h3 (hr _ _ (by omega) hjl)
  · rw [h] at h1; cases h1

/-- One in place of what stands from one place to ahead of another. -/
def put1 {α : Type} (l : List α) (p q : Nat) (x : α) : List α := l.take p ++ [x] ++ l.drop q
theorem put1_len {α : Type} (l : List α) (p q : Nat) (x : α) (h : p ≤ q) (hq : q ≤ l.length) : (put1 l p q x).length + q = l.length + 1 + p := by
  unfold put1; simp; omega
theorem put1_lt {α : Type} (l : List α) (p q : Nat) (x d : α) {i : Nat} (hp : p ≤ l.length) (h : i < p) : (put1 l p q x).getD i d = l.getD i d := by
  unfold put1
  simp only [List.getD, List.append_assoc]
  rw [List.getElem?_append_left (by simp; omega), List.getElem?_take, if_pos h]
theorem put1_at {α : Type} (l : List α) (p q : Nat) (x d : α) (hp : p ≤ l.length) : (put1 l p q x).getD p d = x := by
  unfold put1
  simp only [List.getD, List.append_assoc]
  rw [List.getElem?_append_right (by simp; omega)]
  simp [Nat.min_eq_left hp]
theorem put1_gt {α : Type} (l : List α) (p q : Nat) (x d : α) {i : Nat} (hp : p ≤ l.length) (h : p < i) : (put1 l p q x).getD i d = l.getD (i - p - 1 + q) d := by
  unfold put1
  simp only [List.getD, List.append_assoc]
  rw [List.getElem?_append_right (by simp; omega), List.length_take, Nat.min_eq_left hp, List.getElem?_append_right (by simp; omega), List.getElem?_drop]
  simp
  congr 1
  rw [Nat.add_comm]
theorem put1_take {α : Type} (l : List α) (p q : Nat) (x : α) (hp : p ≤ l.length) : (put1 l p q x).take p = l.take p := by
  unfold put1
  rw [List.append_assoc, List.take_append_of_le_length (by simp; omega), List.take_take, Nat.min_self]
theorem put1_drop {α : Type} (l : List α) (p q : Nat) (x : α) (hp : p ≤ l.length) : (put1 l p q x).drop (p + 1) = l.drop q := by
  unfold put1
  rw [List.drop_append]
  simp [Nat.min_eq_left hp]
theorem spl_ris {N : List ByteArray} {s : ByteArray} {p q : Nat} (hr : Ris N) (h : Spl N s p q) : Ris (put1 N p q s) := by
  intro i j hij hj
  have hl := put1_len N p q s h.pq h.ql
  have h1 := h.pq; have h2 := h.qp; have h3 := h.ql
  have hp : p ≤ N.length := by omega
  rcases Nat.lt_trichotomy i p with hi | rfl | hi
  · rw [put1_lt _ _ _ _ _ hp hi]
    rcases Nat.lt_trichotomy j p with hj2 | rfl | hj2
    · rw [put1_lt _ _ _ _ _ hp hj2]; exact hr _ _ hij (by omega)
    · rw [put1_at _ _ _ _ _ hp]; exact h.lo _ hi
    · rw [put1_gt _ _ _ _ _ hp hj2]; exact hr _ _ (by omega) (by omega)
  · rw [put1_at _ _ _ _ _ hp, put1_gt _ _ _ _ _ hp hij]; exact h.hi _ (by omega) (by omega)
  · rw [put1_gt _ _ _ _ _ hp hi, put1_gt _ _ _ _ _ hp (by omega)]; exact hr _ _ (by omega) (by omega)
theorem spl_ix {N : List ByteArray} {s : ByteArray} {p q : Nat} (h : Spl N s p q) : ixL (put1 N p q s) s = some p := by
  have hl := put1_len N p q s h.pq h.ql
  have h1 := h.pq; have h2 := h.qp; have h3 := h.ql
  have hp : p ≤ N.length := by omega
  refine ixL_some (by omega) (put1_at _ _ _ _ _ hp) fun j hj => ?_
  rw [put1_lt _ _ _ _ _ hp hj]
  exact ltS_ne (h.lo j hj)
/-- Where another name stands then, and that what belongs to it stands there too. -/
theorem spl_other {α : Type} {N : List ByteArray} {V : List α} {s : ByteArray} {p q : Nat} (hr : Ris N) (h : Spl N s p q) (hv : V.length = N.length) (x d : α) {i : Nat} (hi : i < N.length) (hne : N.getD i ByteArray.empty ≠ s) :
    ∃ k, ixL (put1 N p q s) (N.getD i ByteArray.empty) = some k ∧ k < (put1 V p q x).length ∧ (put1 V p q x).getD k d = V.getD i d := by
  have hl := put1_len N p q s h.pq h.ql
  have hlv := put1_len V p q x h.pq (by rw [hv]; exact h.ql)
  have h1 := h.pq; have h2 := h.qp; have h3 := h.ql
  have hp : p ≤ N.length := by omega
  have hris := spl_ris hr h
  have hno : ∀ k, k < (put1 N p q s).length → (put1 N p q s).getD k ByteArray.empty = N.getD i ByteArray.empty → ixL (put1 N p q s) (N.getD i ByteArray.empty) = some k := fun k hk he =>
    ixL_some hk he fun j hj => by rw [← he]; exact ltS_ne (hris j k hj hk)
  by_cases hip : i < p
  · exact ⟨i, hno i (by omega) (put1_lt _ _ _ _ _ hp hip), by omega, put1_lt _ _ _ _ _ (by omega) hip⟩
  · have hiq : q ≤ i := by
      by_cases e : q = p + 1
      · by_cases e2 : i = p
        · subst e2; exact absurd (h.mid e) hne
        · omega
      · omega
    have hgt : p < i - q + p + 1 := by omega
    have he : i - q + p + 1 - p - 1 + q = i := by omega
    refine ⟨i - q + p + 1, hno _ (by omega) ?_, by omega, ?_⟩
    · rw [put1_gt _ _ _ _ _ hp hgt, he]
    · rw [put1_gt _ _ _ _ _ (by omega) hgt, he]
end Go.Proofs.Ytndjdmgncjiggaa
/- The walks of tree's Unset, Set. -/
namespace Go.Proofs.Ytndjdmgncjiggaa
open Go.RowKit Go.Shelf
set_option linter.unusedVariables false
set_option linter.unusedSimpArgs false

/-- An object that was made: its names, its values. -/
def ObjMade (names : List ByteArray) (vals : List MT) (w : World) (e : Ending) (w' : World) : Prop :=
  ∃ t : MT, e = .returned t.c.val ∧ Rep w' t ∧ t.c.k = 7 ∧ t.k = names ∧ t.v = vals ∧ t.c.kn = names.length ∧ t.c.vn = vals.length ∧ Below w.heap.size w w'
/-- An object of two lists that were made, when its variable has been written. -/
theorem obj_made {w W W' : World} {b : Nat} {N : Nat} {ka va : Option Addr} {kc vc : Nat} {names : List ByteArray} {vals : List MT} (hw : Below w.heap.size w W') (hb : But b W W') (h1 : names.length = N) (h2 : vals.length = N) (h3 : N ≤ kc) (h4 : N ≤ vc) (h5 : N ≤ 1000000000000000)
    (hk : RdV W ka (sv names)) (hkb : ∀ a, ka = some a → b < a.block) (hv : RdV W va (flat (vals.map MT.c))) (hvb : ∀ a, va = some a → b < a.block) (hs : ∀ s ∈ names, s.size ≤ maxLen) (hp : ∀ t ∈ vals, Rep w t) :
    ObjMade names vals w (.returned (objC7 ka N kc va N vc).val) W' :=
  ⟨objT ka N kc va N vc names vals, rfl, objT_rep h1 h3 h5 (hb.rd hk (fun a e _ => by have := hkb a e; omega)) hs h2 h4 h5 (hb.rd hv (fun a e _ => by have := hvb a e; omega)) (fun t ht => (hp t ht).on hw), rfl, rfl, rfl, by rw [h1]; rfl, by rw [h2]; rfl, hw⟩
theorem nms_size {w : World} {t : MT} (h : Rd1 w t) : ∀ s ∈ nmsL t, s.size ≤ maxLen := by
  intro s hs
  unfold nmsL at hs
  split at hs
  · exact h.lk s (List.mem_of_mem_take hs)
  · cases hs
theorem vals_rep {w : World} {t : MT} (h : Rep w t) : ∀ s ∈ valsL t, Rep w s := by
  intro s hs
  unfold valsL at hs
  split at hs
  · exact h.part (List.mem_of_mem_take hs)
  · cases hs

/-- A variable, another one, and one that holds nothing yet. -/
def three (w : World) (c d : Cel) : World := ((w.alloc (.cells c.cells.toArray 31)).alloc (.cells d.cells.toArray 31)).alloc (.cells (leafC 0 false ⟨#[]⟩).cells.toArray 31)
theorem three_below (w : World) (c d : Cel) : Below w.heap.size w (three w c d) := (((Below.refl _ _).alloc (Nat.le_refl _) _).alloc (by simp) _).alloc (by simp; omega) _
theorem three_size (w : World) (c d : Cel) : (three w c d).heap.size = w.heap.size + 3 := by simp [three]
theorem three_box (w : World) (c d : Cel) : BoxT (three w c d) (w.heap.size + 1) d ∧ BoxT (three w c d) (w.heap.size + 1 + 1) (leafC 0 false ⟨#[]⟩) := by
  refine ⟨?_, ?_⟩
  · have h := (two2_box w c d).2
    exact h.on (Below.heap_alloc (two2 w c d) _ _ (by rw [two2_size]; omega))
  · have := heap_alloc_new (two2 w c d) (.cells (leafC 0 false ⟨#[]⟩).cells.toArray 31)
    rw [two2_size] at this; exact this

/-- A list that a call made, beside what else is known there. -/
def LP (N bb : Nat) (vs : List Value) (Wb W : World) (e : Ending) (w' : World) : Prop :=
  ∃ ad cap, e = .returned (.slice ad N cap) ∧ N ≤ cap ∧ RdV w' ad vs ∧ (∀ a, ad = some a → bb < a.block) ∧ Below W.heap.size W w' ∧ Below Wb.heap.size Wb w'
theorem lp_of {e : TypeId} {size N bb : Nat} {vs : List Value} {Wb W : World} (hb : Below Wb.heap.size Wb W) (hbb : bb < Wb.heap.size) (r : Ending) (w' : World) (h : OwnPost e size N vs W r w') : LP N bb vs Wb W r w' := by
  obtain ⟨v, rfl, ho, hB⟩ := h
  obtain ⟨ad, cap, rfl, hc, hr, _, ha, _⟩ := own_viewN ho
  exact ⟨ad, cap, rfl, hc, hr, fun a e => by have := (ha a e).1; have := hb.size; omega, hB, below_on hb hB⟩
theorem bal (W : World) (o : Obj) : Below W.heap.size W (W.alloc o) := (Below.refl _ _).alloc (Nat.le_refl _) _
theorem bal0 {Wb W : World} (h : Below Wb.heap.size Wb W) (o : Obj) : Below Wb.heap.size Wb (W.alloc o) := h.alloc h.size _
theorem bal1 {Wb W : World} (h : Below Wb.heap.size Wb W) (o : Obj) : Below Wb.heap.size Wb (W.drew.alloc o) := bal0 h.drew o
theorem bal2 {Wb W : World} (h : Below Wb.heap.size Wb W) (o o2 : Obj) : Below Wb.heap.size Wb ((W.drew.alloc o).alloc o2) := bal0 (bal1 h o) o2
theorem rnS (W : World) (s : ByteArray) (b : Nat) (h : W.heap.size = b) : RdV (W.alloc (.cells #[.string s] 9)) (some ⟨b, 0, none⟩) (sv [s]) := by subst h; exact rdv_new W (sv [s]) _
theorem rnT (W : World) (c : Cel) (b : Nat) (h : W.heap.size = b) : RdV (W.alloc (.cells #[.int .i64 c.k, .bool c.b, .bool c.neg, (.slice c.ma c.mn c.mc), .int .i64 c.e, .string c.s, (.slice c.ka c.kn c.kc), (.slice c.va c.vn c.vc)] 31)) (some ⟨b, 0, none⟩) (flat [c]) := by
  subst h
  have := rdv_new W (flat [c]) 31
  simpa [flat, Cel.cells] using this
theorem bal1d {Wb W : World} (h : Below Wb.heap.size Wb W) (o : Obj) : Below Wb.heap.size Wb (W.alloc o).drew := (bal0 h o).drew
theorem bal2d {Wb W : World} (h : Below Wb.heap.size Wb W) (o o2 : Obj) : Below Wb.heap.size Wb ((W.alloc o).alloc o2).drew := (bal0 (bal0 h o) o2).drew
theorem rnSd (W : World) (s : ByteArray) (b : Nat) (h : W.heap.size = b) : RdV (W.alloc (.cells #[.string s] 9)).drew (some ⟨b, 0, none⟩) (sv [s]) := rnS W s b h
theorem rnS1d (W : World) (s : ByteArray) (b : Nat) (h : W.heap.size = b) (o : Obj) : RdV ((W.alloc (.cells #[.string s] 9)).alloc o).drew (some ⟨b, 0, none⟩) (sv [s]) := (rnS W s b h).on (bal _ o).drew
theorem rnTd (W : World) (c : Cel) (b : Nat) (h : W.heap.size = b) : RdV (W.alloc (.cells #[.int .i64 c.k, .bool c.b, .bool c.neg, (.slice c.ma c.mn c.mc), .int .i64 c.e, .string c.s, (.slice c.ka c.kn c.kc), (.slice c.va c.vn c.vc)] 31)).drew (some ⟨b, 0, none⟩) (flat [c]) := rnT W c b h
theorem rnT1d (W : World) (c : Cel) (b : Nat) (h : W.heap.size = b) (o : Obj) : RdV ((W.alloc (.cells #[.int .i64 c.k, .bool c.b, .bool c.neg, (.slice c.ma c.mn c.mc), .int .i64 c.e, .string c.s, (.slice c.ka c.kn c.kc), (.slice c.va c.vn c.vc)] 31)).alloc o).drew (some ⟨b, 0, none⟩) (flat [c]) := (rnT W c b h).on (bal _ o).drew

end Go.Proofs.Ytndjdmgncjiggaa
