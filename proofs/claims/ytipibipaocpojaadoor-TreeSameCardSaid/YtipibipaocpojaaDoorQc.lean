/- The walks of num's exponentText, sizeText, Text. The walks of num's sizeText, Text. -/
import Derived.Test.YtipibipaocpojaaDoorQb
import Derived.Lib.AppendIntMem
import Derived.Deep.LoopGhost
import Derived.Deep.DeepCutAuto
import Derived.Deep.RegionHeld3
import Derived.Deep.DrawnRows
import Derived.Defers
import Derived.Recover
import Derived.RegionTactic
namespace Go.Proofs.YtipibipaocpojaaDoor
open Go.RowKit Go.Sort
set_option linter.unusedVariables false
set_option linter.unusedSimpArgs false

/-- The table that strconv reads lies as the program's text lays it. -/
def TB (w : World) : Prop := Lib.TabIs Tryd.prog w "internal/strconv.uint64pow10" .u64 Lib.pow10Tab
theorem TB.below {w w' : World} (h : TB w) (hb : Below w.heap.size w w') : TB w' := Lib.tabBelow_of_tabIs h w' hb
def TxtBelow (l : List Nat) (w : World) (e : Ending) (w' : World) : Prop := e = .returned (.string (txt l)) ∧ Below w.heap.size w w'

theorem rets {a b : ByteArray} (h : a = b) : Ending.returned (.string a) = .returned (.string b) := by rw [h]
end Go.Proofs.YtipibipaocpojaaDoor
namespace Go.Proofs.YtipibipaocpojaaDoor
open Go.RowKit Go.Sort
set_option linter.unusedVariables false
set_option linter.unusedSimpArgs false

end Go.Proofs.YtipibipaocpojaaDoor
/- The walks of num's reader: take, digits. The walk of num's read. The walk of num's tens. -/
namespace Go.Proofs.YtipibipaocpojaaDoor
open Go.RowKit Go.Sort
set_option linter.unusedVariables false
set_option linter.unusedSimpArgs false

theorem setCell_self {w : World} {g j : Nat} {v : Value} (h : w.cell? ⟨g, j, none⟩ = some v) : w.setCell ⟨g, j, none⟩ v = w := by
  have e : (w.setCell ⟨g, j, none⟩ v).heap = w.heap := by
    apply Array.ext_getElem?
    intro k
    simp only [World.setCell, Array.getElem?_modify]
    by_cases hk : g = k
    · subst hk
      rw [if_pos rfl]
      unfold World.cell? at h
      cases hh : w.heap[g]? with
      | none => rfl
      | some o =>
        cases o with
        | cells c t f =>
          simp only [hh] at h
          have h2 : c[j]? = some v := by simpa using h
          obtain ⟨h3, h4⟩ := Array.getElem?_eq_some_iff.1 h2
          have h5 : c.setIfInBounds j v = c := by
            apply Array.ext_getElem?
            intro i
            rw [Array.getElem?_setIfInBounds]
            split
            · rename_i hij; subst hij; first | exact h2.symm | (rw [if_pos h3]; exact h2.symm)
            · rfl
          simp [h5]
        | _ => rfl
    · rw [if_neg hk]
  show ({ w with heap := (w.setCell ⟨g, j, none⟩ v).heap } : World) = w
  rw [e]

theorem txt_nil : txt [] = ({ data := #[] } : ByteArray) := rfl
theorem txt_at (l : List Nat) (ho : Okb l) (k : Nat) (h : k < (txt l).size) : (txt l)[k].toNat = l.getD k 0 := by
  have hk : k < l.length := by rw [txt_size] at h; exact h
  have hb := ho l[k] (List.getElem_mem hk)
  have e : (txt l)[k] = UInt8.ofNat l[k] := by simp [txt, ByteArray.getElem_eq_getElem_data]
  rw [e]
  simp [List.getD, hk]
  omega
theorem txt_toList (l : List Nat) : (txt l).toList = l.map UInt8.ofNat := by simp [ByteArray.toList_eq, txt]
theorem txt_cons_ne (x : Nat) (l : List Nat) : ¬ (txt (x :: l)).toList = [] := by rw [txt_toList]; simp
theorem txt_cons_emp (x : Nat) (l : List Nat) : (txt (x :: l)).toList.isEmpty = false := by rw [txt_toList]; rfl

def TakeGives (g : Nat) (l : List Nat) (c : Nat) (w : World) (e : Ending) (w' : World) : Prop := e = .returned (.bool (takes l c)) ∧ w' = w.setCell ⟨g, 0, none⟩ (.string (txt (rest l c)))

def DigsGives (g : Nat) (l : List Nat) (w : World) (e : Ending) (w' : World) : Prop := e = .returned (.string (txt (digs l))) ∧ w' = w.setCell ⟨g, 0, none⟩ (.string (txt (undigs l)))

/-- The digits at the beginning: so many. -/
def DRel (l : List Nat) (i : Value) : Prop := ∃ k : Nat, k ≤ (digs l).length ∧ i = .int .i64 (k : Int)
theorem digs_at {l : List Nat} {k : Nat} (h : k < (digs l).length) : 48 ≤ l.getD k 0 ∧ l.getD k 0 ≤ 57 ∧ k < l.length := by
  have h1 := digs_len l
  have h2 := digs_ok l (digs l)[k] (List.getElem_mem h)
  have e : (digs l)[k] = l[k]'(by omega) := by
    have := (List.takeWhile_prefix isd (l := l))
    exact this.getElem h
  rw [e] at h2
  have e2 : l.getD k 0 = l[k]'(by omega) := by simp [List.getD, show k < l.length by omega]
  rw [e2]
  exact ⟨h2.1, h2.2, by omega⟩
theorem digs_end {l : List Nat} (h : (digs l).length < l.length) : ¬ (48 ≤ l.getD (digs l).length 0 ∧ l.getD (digs l).length 0 ≤ 57) := by
  induction l with
  | nil => simp at h
  | cons x l ih =>
    unfold digs at h ⊢
    rw [List.takeWhile_cons] at h ⊢
    by_cases hx : isd x = true
    · rw [if_pos hx] at h ⊢
      simp only [List.length_cons] at h ⊢
      have := ih (by unfold digs; omega)
      simpa [digs] using this
    · rw [if_neg hx]
      simpa [isd] using hx
theorem digs_split (l : List Nat) : l.take (digs l).length = digs l ∧ l.drop (digs l).length = undigs l := by
  have e : digs l ++ undigs l = l := List.takeWhile_append_dropWhile
  generalize digs l = a at *
  generalize undigs l = b at *
  subst e
  exact ⟨List.take_left, List.drop_left⟩

theorem digs_nil {l : List Nat} (h : (digs l).length = 0) : digs l = [] := List.eq_nil_of_length_eq_zero h

def DLoop (D : Nat) (w : World) (k : Nat) (i : Value) (wr : World) : Prop := k ≤ D ∧ i = .int .i64 ((D - k : Nat) : Int) ∧ wr = w

theorem ten_cases {x : Nat} (h1 : 48 ≤ x) (h2 : x ≤ 57) : x = 48 ∨ x = 49 ∨ x = 50 ∨ x = 51 ∨ x = 52 ∨ x = 53 ∨ x = 54 ∨ x = 55 ∨ x = 56 ∨ x = 57 := by omega

end Go.Proofs.YtipibipaocpojaaDoor
namespace Go.Proofs.YtipibipaocpojaaDoor
open Go.RowKit Go.Sort
set_option linter.unusedVariables false
set_option linter.unusedSimpArgs false

def PtV (p : Pt) : Value := .agg #[.bool p.neg, .string (txt p.whole), .string (txt p.frac), .bool p.down, .string (txt p.exp)]
theorem okb_rest {l : List Nat} (h : Okb l) (c : Nat) : Okb (rest l c) := by
  unfold rest; split
  · exact fun x hx => h x (List.mem_of_mem_tail hx)
  · exact h
theorem okb_undigs {l : List Nat} (h : Okb l) : Okb (undigs l) := fun x hx => h x ((List.dropWhile_sublist isd).subset hx)

theorem third_cell (w : World) (o1 o2 : Obj) (c : Array Value) (t : TypeId) (i : Nat) : (((w.alloc o1).alloc o2).alloc (.cells c t)).cell? ⟨w.heap.size + 1 + 1, i, none⟩ = c[i]? := by
  have := World.cell?_alloc_new ((w.alloc o1).alloc o2) c t i
  simpa using this
theorem third_free (w : World) (o1 o2 : Obj) (c : Array Value) (t : TypeId) (i : Nat) : (((w.alloc o1).alloc o2).alloc (.cells c t)).frozen? ⟨w.heap.size + 1 + 1, i, none⟩ = false := by
  have h : (((w.alloc o1).alloc o2).alloc (.cells c t)).heap[w.heap.size + 1 + 1]? = some (.cells c t) := by
    have := heap_alloc_new ((w.alloc o1).alloc o2) (.cells c t)
    simpa using this
  unfold World.frozen?
  simp only [h]
  simp
theorem readL_bad {l : List Nat} (h : wholeBad (digs (rest l 45))) : readL l = none := by unfold readL; rw [if_pos h]
theorem readL_frac {l : List Nat} (h : ¬ wholeBad (digs (rest l 45))) (h2 : fracL (undigs (rest l 45)) = none) : readL l = none := by unfold readL; rw [if_neg h, h2]
theorem readL_exp {l : List Nat} {f l3 : List Nat} (h : ¬ wholeBad (digs (rest l 45))) (h2 : fracL (undigs (rest l 45)) = some (f, l3)) (h3 : expL l3 = none) : readL l = none := by unfold readL; rw [if_neg h, h2]; simp only; rw [h3]
theorem readL_left {l : List Nat} {f l3 : List Nat} {d : Bool} {x l4 : List Nat} (h : ¬ wholeBad (digs (rest l 45))) (h2 : fracL (undigs (rest l 45)) = some (f, l3)) (h3 : expL l3 = some (d, x, l4)) (h4 : l4 ≠ []) : readL l = none := by
  unfold readL; rw [if_neg h, h2]; simp only; rw [h3]; simp only; rw [if_neg h4]
theorem readL_ok {l : List Nat} {f l3 : List Nat} {d : Bool} {x : List Nat} (h : ¬ wholeBad (digs (rest l 45))) (h2 : fracL (undigs (rest l 45)) = some (f, l3)) (h3 : expL l3 = some (d, x, [])) : readL l = some ⟨takes l 45, digs (rest l 45), f, d, x⟩ := by
  unfold readL; rw [if_neg h, h2]; simp only; rw [h3]; simp

def hasE (l : List Nat) : Bool := takes l 101 || takes l 69
theorem hasE_iff (l : List Nat) : (takes l 101 = true ∨ takes l 69 = true) ↔ hasE l = true := by unfold hasE; simp
theorem expL_yes {l : List Nat} (h : hasE l = true) : expL l = if digs (signL l.tail) = [] then none else some (takes l.tail 45, digs (signL l.tail), undigs (signL l.tail)) := by unfold expL; rw [if_pos ((hasE_iff l).2 h)]
theorem expL_no {l : List Nat} (h : hasE l = false) : expL l = some (false, [], l) := by unfold expL; rw [if_neg (fun h1 => by rw [(hasE_iff l).1 h1] at h; cases h)]
theorem okb_sign {l : List Nat} (h : Okb l) : Okb (signL l) := by
  unfold signL; split
  · exact fun x hx => h x (List.mem_of_mem_tail hx)
  · exact okb_rest h _
theorem sign_len (l : List Nat) : (signL l).length ≤ l.length := by
  unfold signL; split
  · simp
  · exact rest_len _ _

end Go.Proofs.YtipibipaocpojaaDoor
namespace Go.Proofs.YtipibipaocpojaaDoor
open Go.RowKit Go.Sort
set_option linter.unusedVariables false
set_option linter.unusedSimpArgs false

theorem okd_drop {x : List Nat} (h : Okd x) : Okd (x.dropWhile (· == 48)) := fun a ha => h a ((List.dropWhile_sublist _).subset ha)
theorem take_snoc2 (l : List Nat) (k : Nat) (h : k < l.length) : hval (l.take (k + 1)) = 10 * hval (l.take k) + (l.getD k 0 - 48) := by rw [take_snoc' l k h, hval_snoc]

end Go.Proofs.YtipibipaocpojaaDoor
/- The walk of num's number (of parts). The walk of num's number (of parts): a number that has room, and one that has none. -/
namespace Go.Proofs.YtipibipaocpojaaDoor
open Go.RowKit Go.Sort
set_option linter.unusedVariables false
set_option linter.unusedSimpArgs false
attribute [local go_sem ↓] Go.wp_at_zero Go.wp_at_succ

/-- Parts as read hands them on. -/
structure PtOk (p : Pt) : Prop where
  w : Okd p.whole
  w0 : 0 < p.whole.length
  f : Okd p.frac
  x : Okd p.exp
  len : p.whole.length + p.frac.length ≤ 2000
  xlen : p.exp.length ≤ 2000

/-- A way of a drawn region that ends in a panic: what is left to walk is no region. -/
theorem by_any {G : Prop} (h : G) : wpAny Tryd.prog .any #[] (fun _ _ _ => True) 0 #[] { tmps := #[], defers := [] } default → G := fun _ => h
def NumGives (w0 : World) (l : List Ent) (L : Nat) (neg : Bool) (m : Nat) (e : Int) (r : Ending) (w' : World) : Prop :=
  ∃ v, r = .returned (.agg #[.bool neg, v, .int .i64 e]) ∧ Ctx w0 w' (⟨v, L, m, limbs m⟩ :: l)
end Go.Proofs.YtipibipaocpojaaDoor
namespace Go.Proofs.YtipibipaocpojaaDoor
open Go.RowKit Go.Sort
set_option linter.unusedVariables false
set_option linter.unusedSimpArgs false
attribute [local go_sem ↓] Go.wp_at_zero Go.wp_at_succ

/-- Behind the call of Make: the answer's box, the answer. -/
def NumCut (w0 : World) (l : List Ent) (B : Nat) (neg : Bool) (m : Nat) (e : Int) (ok : Bool) (s5 s6 : Value) (wx : World) : Prop :=
  ∃ g v, s5 = .pointer (some ⟨g, 0, none⟩) ∧ s6 = .bool ok ∧ (wx.cell? ⟨g, 0, none⟩ = some (.bool neg) ∧ wx.cell? ⟨g, 1, none⟩ = some v ∧ wx.cell? ⟨g, 2, none⟩ = some (.int .i64 e)) ∧
    Ctx w0 wx (⟨v, 2000, m, limbs m⟩ :: l) ∧ (wx.cell? ⟨B, 0, none⟩ = some (.bool false) ∧ wx.cell? ⟨B, 1, none⟩ = some (.slice none 0 0) ∧ wx.cell? ⟨B, 2, none⟩ = some (.int .i64 0)) ∧ (∀ j, wx.frozen? ⟨B, j, none⟩ = false)

/-- A number's box that was made ahead, or behind another one. -/
theorem boxA {w1 w5 : World} {o : Obj} (h : Below (((w1.alloc (.cells #[.bool false, .slice none 0 0, .int .i64 0] 24)).alloc o).drew).heap.size (((w1.alloc (.cells #[.bool false, .slice none 0 0, .int .i64 0] 24)).alloc o).drew) w5) :
    w5.cell? ⟨w1.heap.size, 0, none⟩ = some (.bool false) ∧ w5.cell? ⟨w1.heap.size, 1, none⟩ = some (.slice none 0 0) ∧ w5.cell? ⟨w1.heap.size, 2, none⟩ = some (.int .i64 0) ∧ ∀ j, w5.frozen? ⟨w1.heap.size, j, none⟩ = false := by
  obtain ⟨h1, h2⟩ := bcell h
  refine ⟨?_, ?_, ?_, fun j => ?_⟩
  · rw [h1 _ _ (by simp <;> omega)]; simp [World.cell?_alloc_lt]
  · rw [h1 _ _ (by simp <;> omega)]; simp [World.cell?_alloc_lt]
  · rw [h1 _ _ (by simp <;> omega)]; simp [World.cell?_alloc_lt]
  · rw [h2 _ _ (by simp <;> omega)]; simp [go_sem]
theorem boxB {w1 w5 : World} {o : Obj} (h : Below (((w1.alloc o).alloc (.cells #[.bool false, .slice none 0 0, .int .i64 0] 24)).drew).heap.size (((w1.alloc o).alloc (.cells #[.bool false, .slice none 0 0, .int .i64 0] 24)).drew) w5) :
    w5.cell? ⟨w1.heap.size + 1, 0, none⟩ = some (.bool false) ∧ w5.cell? ⟨w1.heap.size + 1, 1, none⟩ = some (.slice none 0 0) ∧ w5.cell? ⟨w1.heap.size + 1, 2, none⟩ = some (.int .i64 0) ∧ ∀ j, w5.frozen? ⟨w1.heap.size + 1, j, none⟩ = false := by
  obtain ⟨h1, h2⟩ := bcell h
  refine ⟨?_, ?_, ?_, fun j => ?_⟩
  · rw [h1 _ _ (by simp)]; simp
  · rw [h1 _ _ (by simp)]; simp
  · rw [h1 _ _ (by simp)]; simp
  · rw [h2 _ _ (by simp)]; simp [go_sem]
theorem Ctx.pick {w0 W w5 : World} {l : List Ent} {a b : Ent} (hb : Below w0.heap.size w0 w5) (h5 : Ctx W w5 (a :: b :: l)) : Ctx w0 w5 (a :: l) :=
  ⟨hb, fun x hx => h5.all x (by rcases List.mem_cons.1 hx with h | h <;> simp [h])⟩
theorem cutC {w0 w5 : World} {l : List Ent} {B : Nat} {neg : Bool} {m : Nat} {e : Int} {ok : Bool} {v : Value} (h : Ctx w0 w5 (⟨v, 2000, m, limbs m⟩ :: l)) (b0 : w5.cell? ⟨B, 0, none⟩ = some (.bool false)) (b1 : w5.cell? ⟨B, 1, none⟩ = some (.slice none 0 0)) (b2 : w5.cell? ⟨B, 2, none⟩ = some (.int .i64 0)) (bf : ∀ j, w5.frozen? ⟨B, j, none⟩ = false) (hB : B < w5.heap.size) :
    NumCut w0 l B neg m e ok (.pointer (some ⟨w5.heap.size, 0, none⟩)) (.bool ok) (w5.alloc (.cells #[.bool neg, v, .int .i64 e] 24)) := by
  have hb : Below w5.heap.size w5 (w5.alloc (.cells #[.bool neg, v, .int .i64 e] 24)) := (Below.refl _ _).alloc (Nat.le_refl _) _
  exact ⟨w5.heap.size, v, rfl, rfl, ⟨by simp, by simp, by simp⟩, h.step hb, ⟨(hb.cell (p := ⟨B, 0, none⟩) hB).trans b0, (hb.cell (p := ⟨B, 1, none⟩) hB).trans b1, (hb.cell (p := ⟨B, 2, none⟩) hB).trans b2⟩, fun j => (hb.frozen (p := ⟨B, j, none⟩) hB).trans (bf j)⟩
theorem cutS {w0 w5 : World} {l : List Ent} {B g : Nat} {neg : Bool} {m : Nat} {e : Int} {ok : Bool} {v : Value} (h : Ctx w0 w5 (⟨v, 2000, m, limbs m⟩ :: l)) (hg : w0.heap.size ≤ g) (hne : g ≠ B) (r0 : w5.cell? ⟨g, 0, none⟩ = some (.bool false)) (r1 : w5.cell? ⟨g, 1, none⟩ = some (.slice none 0 0)) (r2 : w5.cell? ⟨g, 2, none⟩ = some (.int .i64 0))
    (b0 : w5.cell? ⟨B, 0, none⟩ = some (.bool false)) (b1 : w5.cell? ⟨B, 1, none⟩ = some (.slice none 0 0)) (b2 : w5.cell? ⟨B, 2, none⟩ = some (.int .i64 0)) (bf : ∀ j, w5.frozen? ⟨B, j, none⟩ = false) :
    NumCut w0 l B neg m e ok (.pointer (some ⟨g, 0, none⟩)) (.bool ok) (((w5.setCell ⟨g, 0, none⟩ (.bool neg)).setCell ⟨g, 1, none⟩ v).setCell ⟨g, 2, none⟩ (.int .i64 e)) := by
  have ho : ∀ j, (((w5.setCell ⟨g, 0, none⟩ (.bool neg)).setCell ⟨g, 1, none⟩ v).setCell ⟨g, 2, none⟩ (.int .i64 e)).cell? ⟨B, j, none⟩ = w5.cell? ⟨B, j, none⟩ := fun j => by
    rw [World.cell?_setCell_other (h := by simp [hne]), World.cell?_setCell_other (h := by simp [hne]), World.cell?_setCell_other (h := by simp [hne])]
  have d1 : (w5.setCell ⟨g, 0, none⟩ (.bool neg)).cell? ⟨g, 1, none⟩ = some (.slice none 0 0) := by rw [World.cell?_setCell_other (h := by simp)]; exact r1
  have d2 : ((w5.setCell ⟨g, 0, none⟩ (.bool neg)).setCell ⟨g, 1, none⟩ v).cell? ⟨g, 2, none⟩ = some (.int .i64 0) := by rw [World.cell?_setCell_other (h := by simp), World.cell?_setCell_other (h := by simp)]; exact r2
  refine ⟨g, v, rfl, rfl, ⟨?_, ?_, ?_⟩, h.box3 hg r0 r1 r2 _ _ _, ⟨(ho 0).trans b0, (ho 1).trans b1, (ho 2).trans b2⟩, fun j => ?_⟩
  · rw [World.cell?_setCell_other (h := by simp), World.cell?_setCell_other (h := by simp)]; exact World.cell?_setCell_same _ _ _ r0
  · rw [World.cell?_setCell_other (h := by simp)]; exact World.cell?_setCell_same _ _ _ d1
  · exact World.cell?_setCell_same _ _ _ d2
  · simp only [World.frozen?_setCell]; exact bf j
end Go.Proofs.YtipibipaocpojaaDoor
/- The walk of num's Parse: what is thrown is caught. -/
namespace Go.Proofs.YtipibipaocpojaaDoor
open Go.RowKit Go.Sort
set_option linter.unusedVariables false
set_option linter.unusedSimpArgs false

def ParsedPost (w0 : World) (l0 : List Ent) : (Bool × Nat × Int) ⊕ Int → Ending → World → Prop
  | .inl (neg, m, e), r, w' => ∃ v, r = .returned (.tuple #[.agg #[.bool neg, v, .int .i64 e], .int .i64 0]) ∧ Ctx w0 w' (⟨v, 2000, m, limbs m⟩ :: l0)
  | .inr n, r, w' => r = .returned (.tuple #[.agg #[.bool false, .slice none 0 0, .int .i64 0], .int .i64 n]) ∧ Ctx w0 w' l0

/-- What was thrown is caught: the world behind. -/
theorem Ctx.thrown {w0 w W : World} {l0 : List Ent} (h : Ctx w0 W l0) (hW : w0.heap.size ≤ w.heap.size)
    (c0 : W.cell? ⟨w.heap.size, 0, none⟩ = some (.bool false)) (c1 : W.cell? ⟨w.heap.size, 1, none⟩ = some (.slice none 0 0)) (c2 : W.cell? ⟨w.heap.size, 2, none⟩ = some (.int .i64 0)) (c3 : W.cell? ⟨w.heap.size + 1, 0, none⟩ = some (.int .i64 0)) (x : Int) :
    Ctx w0 ((((W.setCell ⟨w.heap.size, 0, none⟩ (.bool false)).setCell ⟨w.heap.size, 1, none⟩ (.slice none 0 0)).setCell ⟨w.heap.size, 2, none⟩ (.int .i64 0)).setCell ⟨w.heap.size + 1, 0, none⟩ (.int .i64 x)).drew l0 := by
  have h2 := h.box3 hW c0 c1 c2 (.bool false) (.slice none 0 0) (.int .i64 0)
  have d : (((W.setCell ⟨w.heap.size, 0, none⟩ (.bool false)).setCell ⟨w.heap.size, 1, none⟩ (.slice none 0 0)).setCell ⟨w.heap.size, 2, none⟩ (.int .i64 0)).cell? ⟨w.heap.size + 1, 0, none⟩ = some (.int .i64 0) := by
    rw [World.cell?_setCell_other (h := by simp), World.cell?_setCell_other (h := by simp), World.cell?_setCell_other (h := by simp)]; exact c3
  exact (h2.setBox (by omega) d (fun _ => by simp) _).drewN 1

theorem ptOk_read {l : List Nat} {p : Pt} (hl : l.length ≤ 2000) (h : readL l = some p) : PtOk p := by
  have hb : ¬ wholeBad (digs (rest l 45)) := fun hb => by rw [readL_bad hb] at h; cases h
  have hw0 : 0 < (digs (rest l 45)).length := by
    rcases Nat.eq_zero_or_pos (digs (rest l 45)).length with h1 | h1
    · exact absurd (.inl (List.eq_nil_of_length_eq_zero h1)) hb
    · exact h1
  have e1 : (digs (rest l 45)).length + (undigs (rest l 45)).length = (rest l 45).length := by
    rw [← List.length_append]; exact congrArg List.length List.takeWhile_append_dropWhile
  have hl1 := rest_len l 45
  unfold readL at h
  rw [if_neg hb] at h
  generalize undigs (rest l 45) = l2 at *
  have hd := digs_ok (rest l 45)
  generalize digs (rest l 45) = D at *
  cases hf : fracL l2 with
  | none => rw [hf] at h; cases h
  | some q =>
    obtain ⟨f, l3⟩ := q
    rw [hf] at h
    simp only at h
    have hfo : Okd f ∧ f.length ≤ l2.length ∧ l3.length ≤ l2.length := by
      unfold fracL at hf
      split at hf
      · split at hf
        · cases hf
        · simp only [Option.some.injEq, Prod.mk.injEq] at hf
          obtain ⟨rfl, rfl⟩ := hf
          have := digs_len l2.tail
          have := undigs_len l2.tail
          simp at *
          exact ⟨digs_ok _, by omega, by omega⟩
      · simp only [Option.some.injEq, Prod.mk.injEq] at hf
        obtain ⟨rfl, rfl⟩ := hf
        exact ⟨Okd.nil, by simp, Nat.le_refl _⟩
    cases hx : expL l3 with
    | none => rw [hx] at h; cases h
    | some q =>
      obtain ⟨d, x, l4⟩ := q
      rw [hx] at h
      simp only at h
      have hxo : Okd x ∧ x.length ≤ l3.length := by
        unfold expL at hx
        split at hx
        · split at hx
          · cases hx
          · simp only [Option.some.injEq, Prod.mk.injEq] at hx
            obtain ⟨rfl, rfl, rfl⟩ := hx
            have h1 := digs_len (signL l3.tail)
            have h2 := sign_len l3.tail
            simp only [List.length_tail] at h2
            exact ⟨digs_ok _, by omega⟩
        · simp only [Option.some.injEq, Prod.mk.injEq] at hx
          obtain ⟨rfl, rfl, rfl⟩ := hx
          exact ⟨Okd.nil, by simp⟩
      split at h
      · simp only [Option.some.injEq] at h
        subst h
        exact ⟨hd, hw0, hfo.1, hxo.1, by simp only; omega, by simp only; omega⟩
      · cases h

end Go.Proofs.YtipibipaocpojaaDoor
/- The walks of the laws of layer 2's own awake, few; of SameNum at two that are the same. What the laws of layer 2 share: boxes of numbers, SameNum, few. -/
namespace Go.Proofs.YtipibipaocpojaaDoor
open Go.RowKit Go.Sort
set_option linter.unusedVariables false
set_option linter.unusedSimpArgs false

theorem limbs_small {x : Nat} (h0 : x ≠ 0) (h : x < B32) : limbs x = [x] := by
  rw [limbs_pos h0, Nat.mod_eq_of_lt h, Nat.div_eq_of_lt h, limbs_zero]
theorem awake_parse : parseN [49, 46, 53, 48, 101, 51] = .inl (false, 15, 2) := by decide +kernel
theorem awake_text : numTxt false 15 2 = [49, 53, 48, 48] := by decide +kernel
theorem awake_chk : chkB false [15] 2 = true := by decide +kernel

/-- An entry of the context as a number. -/
theorem Ctx.num {w0 w : World} {l : List Ent} (h : Ctx w0 w l) (i : Nat) {neg : Bool} {ad : Option Addr} {n cap L N : Nat} {xs : List Nat} {e : Int} (hi : l[i]? = some ⟨.slice ad n cap, L, N, xs⟩) (hc : chkB neg xs e = true) : NumOk w neg ad n cap xs e := by
  obtain ⟨ad', cap', h1, h2, h3, h4, h5, h6⟩ := h.get i hi
  simp only [Value.slice.injEq] at h1
  obtain ⟨rfl, rfl, rfl⟩ := h1
  exact ⟨rfl, h2, h4, h5, hc⟩
theorem numSame_ok {w : World} {na nb : Bool} {ad ad' : Option Addr} {n cap n' cap' : Nat} {xs ys : List Nat} {e f : Int} (ha : NumOk w na ad n cap xs e) (hb : NumOk w nb ad' n' cap' ys f) :
    Calls Tryd.prog 39 #[.agg #[.bool na, .slice ad n cap, .int .i64 e], .agg #[.bool nb, .slice ad' n' cap', .int .i64 f]] w (BoolBelow (decide ((na = nb ∧ e = f) ∧ xs = ys)) w) :=
  numSame_core _ _ _ _ rfl rfl na ad n cap xs e nb ad' n' cap' ys f w ha hb na _ e nb _ f rfl rfl (fun W hW => ha.same W hW) (fun W hW => hb.same W hW)

end Go.Proofs.YtipibipaocpojaaDoor
namespace Go.Proofs.YtipibipaocpojaaDoor
open Go.RowKit Go.Sort
set_option linter.unusedVariables false
set_option linter.unusedSimpArgs false

/-- A number's box. -/
structure Bx (w : World) (g : Nat) (neg : Bool) (v : Value) (e : Int) : Prop where
  lt : g < w.heap.size
  c0 : w.cell? ⟨g, 0, none⟩ = some (.bool neg)
  c1 : w.cell? ⟨g, 1, none⟩ = some v
  c2 : w.cell? ⟨g, 2, none⟩ = some (.int .i64 e)
theorem Bx.step {w w' : World} {g : Nat} {neg : Bool} {v : Value} {e : Int} (h : Bx w g neg v e) (hb : Below w.heap.size w w') : Bx w' g neg v e :=
  ⟨Nat.lt_of_lt_of_le h.lt hb.size, (hb.cell (p := ⟨g, 0, none⟩) h.lt).trans h.c0, (hb.cell (p := ⟨g, 1, none⟩) h.lt).trans h.c1, (hb.cell (p := ⟨g, 2, none⟩) h.lt).trans h.c2⟩
theorem bx_new (w : World) (neg : Bool) (v : Value) (e : Int) : Bx (w.alloc (.cells #[.bool neg, v, .int .i64 e] 24)) w.heap.size neg v e := ⟨by simp, by simp, by simp, by simp⟩
theorem Ctx.on {w0 w w' : World} {l l' : List Ent} (hc : Ctx w w' l') (h : Ctx w0 w l) : Ctx w0 w' l' := ⟨below_on h.below hc.below, hc.all⟩
theorem below_box (w : World) (a : Array Value) (t : TypeId) : Below w.heap.size w (w.alloc (.cells a t)) := (Below.refl _ _).alloc (Nat.le_refl _) _
theorem Ctx.lits {w0 w : World} {l : List Ent} (h : Ctx w0 w l) {xs : List Nat} (hx : Okl xs) {N : Nat} (hN : val xs = N) :
    Ctx w0 (w.alloc (.cells (xs.map lv).toArray 45)) (⟨.slice (some ⟨w.heap.size, 0, none⟩) xs.length xs.length, xs.length, N, xs⟩ :: l) :=
  (h.step ((Below.refl _ _).alloc (Nat.le_refl _) _)).push ⟨_, _, rfl, Nat.le_refl _, Nat.le_refl _, hx, (alloc_blk w xs).rd_all, hN⟩

theorem okb_lit {l : List Nat} (h : ∀ x ∈ l, x < 256) : Okb l := h
theorem okb_app {a b : List Nat} (h : Okb a) (k : Okb b) : Okb (a ++ b) := by
  intro x hx; rcases List.mem_append.1 hx with h1 | h1
  · exact h x h1
  · exact k x h1
theorem okb_size (d : List Nat) (hd : Okd d) (e : Int) : Okb (sizeTxt d e) := by
  unfold sizeTxt expTxt
  have hb := hd.b
  have h1 : ∀ k, Okb (d.take k) := fun k x hx => hb x (List.mem_of_mem_take hx)
  have h2 : ∀ k, Okb (d.drop k) := fun k x hx => hb x (List.mem_of_mem_drop hx)
  have h3 : ∀ k, Okb (List.replicate k 48) := fun k => (zeros_ok k).b
  have h4 : Okb [46] := by intro x hx; simp at hx; omega
  have h5 : Okb [48, 46] := by intro x hx; simp at hx; omega
  have h6 : ∀ c, c < 256 → Okb [101, c] := fun c hc x hx => by simp at hx; omega
  repeat' split
  · exact okb_app (h1 1) (okb_app (okb_app h4 (h2 1)) (okb_app (h6 _ (by omega)) (dec_ok _).b))
  · exact okb_app (h1 1) (okb_app (okb_app h4 (h2 1)) (okb_app (h6 _ (by omega)) (dec_ok _).b))
  · exact okb_app (h1 1) (okb_app Okb.nil (okb_app (h6 _ (by omega)) (dec_ok _).b))
  · exact okb_app (h1 1) (okb_app Okb.nil (okb_app (h6 _ (by omega)) (dec_ok _).b))
  · exact okb_app (okb_app h5 (h3 _)) hb
  · exact okb_app (okb_app (h1 _) h4) (h2 _)
  · exact okb_app hb (h3 _)
theorem okb_num (neg : Bool) (N : Nat) (e : Int) : Okb (numTxt neg N e) := by
  unfold numTxt
  split
  · intro x hx; simp at hx; omega
  · refine okb_app ?_ (okb_size _ (dec_ok N) e)
    cases neg
    · exact Okb.nil
    · intro x hx; simp at hx; omega
theorem dec_7 : (dec 7).length ≤ 900 := by rw [dec_small (by decide)]; decide
/-- A new list, behind a box. -/
theorem Ctx.lits2 {w0 w : World} {o : Obj} {l : List Ent} (h : Ctx w0 (w.alloc o) l) {xs : List Nat} (hx : Okl xs) {N : Nat} (hN : val xs = N) (n : Nat) (hn : xs.length = n) (cs : Array Value) (hcs : cs = (xs.map lv).toArray) :
    Ctx w0 ((w.alloc o).alloc (.cells cs 45)) (⟨.slice (some ⟨w.heap.size + 1, 0, none⟩) n n, n, N, xs⟩ :: l) := by
  have h2 := h.lits hx hN
  rw [show (w.alloc o).heap.size = w.heap.size + 1 by simp] at h2
  subst hn hcs
  exact h2
theorem Ctx.lits1 {w0 w : World} {l : List Ent} (h : Ctx w0 w l) {xs : List Nat} (hx : Okl xs) {N : Nat} (hN : val xs = N) (n : Nat) (hn : xs.length = n) (cs : Array Value) (hcs : cs = (xs.map lv).toArray) :
    Ctx w0 (w.alloc (.cells cs 45)) (⟨.slice (some ⟨w.heap.size, 0, none⟩) n n, n, N, xs⟩ :: l) := by
  have h2 := h.lits hx hN
  subst hn hcs
  exact h2
end Go.Proofs.YtipibipaocpojaaDoor
/- The walks of the reference's Norm, limb, Cmp. -/
namespace Go.Proofs.YtipibipaocpojaaDoor
open Go.RowKit
set_option linter.unusedVariables false
set_option linter.unusedSimpArgs false

set_option maxHeartbeats 1000000 in
theorem refNorm_any (ad : Option Addr) (n cap : Nat) (xs : List Nat) (w : World) (hn : xs.length = n) (hcap : n ≤ cap) (hm : n ≤ 100000000) (ho : Okl xs) (hr : Rd w ad xs) :
    Calls Tryd.prog 55 #[.slice ad n cap] w (Gives (val xs) w) := by
  have hcl := cutLen_le xs n
  have hcv := cut_limbs ho
  rw [hn] at hcv
  have hr' := hr.take (cutLen xs n)
  have hlc : (xs.take (cutLen xs n)).length = cutLen xs n := by rw [List.length_take]; omega
  have hot := ho.take (cutLen xs n)
  have HN := Lib.hid hn; clear hn
  have HF : Hid (∀ v w1, Own w.heap.size w1 v ([] ++ xs.take (cutLen xs n)) → Below w.heap.size w w1 → Gives (val xs) w (.returned v) w1) := fun v w1 h1 h2 => ⟨v, rfl, by rw [← hcv]; simpa using h1, h2⟩
  clear hcv
  have HC := Lib.hid (rfl : cutLen xs n = cutLen xs n)
  generalize hc0 : cutLen xs n = c at *
  have HC0 := Lib.hid hc0; clear hc0 HC
  generalize hY : xs.take c = Y at *
  clear hY
  have HLC := Lib.hid hlc; clear hlc
  go_enter Tryd.func55, Tryd.ntmps55
  go_wp2
  go_loop [3] (fun i => ∃ k : Nat, k ≤ n ∧ i = .int .i64 k ∧ cutLen xs k = c) (fun i => (intOf i).toNat)
  case atStart => exact ⟨n, Nat.le_refl _, rfl, HC0.out⟩
  case round =>
    obtain ⟨k, hk, rfl, he⟩ := hrel
    have HE := Lib.hid he; clear he
    rcases k with _ | k
    · have h0 : c = 0 := by rw [← HE.out]; rfl
      subst h0
      go_wp2_with (at_builtin; refine wpl_append_rd rfl _ _ rfl w.heap.size _ [] rfl (Own.nil _ _) _ _ _ Y rfl hot HLC.out hr' (by simp) (Nat.le_refl _) ?_; intro v' w' hv hb)
      go_ret
      exact HF.out _ _ hv hb
    · obtain ⟨b, o, hadd, _, hc⟩ := hr k (by rw [HN.out]; omega)
      subst hadd
      generalize hx : xs.getD k 0 = x at *
      have HX := Lib.hid hx; clear hx
      by_cases hz : x = 0
      · go_wp2
        go_round
        case rel => exact ⟨k, by omega, rfl, by rw [← HE.out]; simp only [cutLen]; rw [if_pos (by rw [HX.out]; exact hz)]⟩
        case measure => simp [intOf]
      · have h0 : c = k + 1 := by rw [← HE.out]; simp only [cutLen]; rw [if_neg (by rw [HX.out]; exact hz)]
        subst h0
        go_wp2_with (at_builtin; refine wpl_append_rd rfl _ _ rfl w.heap.size _ [] rfl (Own.nil _ _) _ _ _ Y rfl hot HLC.out hr' (by simp; omega) (Nat.le_refl _) ?_; intro v' w' hv hb)
        go_ret
        exact HF.out _ _ hv hb

/-- Lists of two lengths, filled up with noughts to one. -/
def pad (xs : List Nat) (m : Nat) : List Nat := xs ++ List.replicate (m - xs.length) 0
theorem pad_len {xs : List Nat} {m : Nat} (h : xs.length ≤ m) : (pad xs m).length = m := by simp [pad]; omega
theorem pad_ok {xs : List Nat} (h : Okl xs) (m : Nat) : Okl (pad xs m) := h.append (Okl.replicate _)
theorem pad_val (xs : List Nat) (m : Nat) : val (pad xs m) = val xs := val_behind xs _
theorem pad_getD (xs : List Nat) (m i : Nat) : (pad xs m).getD i 0 = xs.getD i 0 := by
  unfold pad
  simp only [List.getD, List.getElem?_append, List.getElem?_replicate]
  by_cases h : i < xs.length
  · simp [h]
  · simp only [h, if_false]
    split <;> simp [List.getElem?_eq_none (by omega : xs.length ≤ i)]
theorem val_top_pad {xs ys : List Nat} (hx : Okl xs) (hy : Okl ys) {m : Nat} (h1 : xs.length ≤ m) (h2 : ys.length ≤ m) (j : Nat) (hj : j < m) (hs : ∀ i, j + 1 ≤ i → xs.getD i 0 = ys.getD i 0) (h : xs.getD j 0 < ys.getD j 0) : val xs < val ys := by
  rw [← pad_val xs m, ← pad_val ys m]
  exact val_top_lt (pad_ok hx m) (pad_ok hy m) (by rw [pad_len h1, pad_len h2]) j (by rw [pad_len h1]; exact hj) (fun i hi => by rw [pad_getD, pad_getD]; exact hs i hi) (by rw [pad_getD, pad_getD]; exact h)
theorem val_same_pad {xs ys : List Nat} {m : Nat} (h1 : xs.length ≤ m) (h2 : ys.length ≤ m) (hs : ∀ i, 0 ≤ i → xs.getD i 0 = ys.getD i 0) : val xs = val ys := by
  rw [← pad_val xs m, ← pad_val ys m]
  exact congrArg val (list_eq_of_getD (xs := pad xs m) (ys := pad ys m) (by rw [pad_len h1, pad_len h2]) (fun i hi => by rw [pad_getD, pad_getD]; exact hs i hi))

end Go.Proofs.YtipibipaocpojaaDoor
/- The walks of the reference's Small, of layer 2's reference Check. -/
namespace Go.Proofs.YtipibipaocpojaaDoor
open Go.RowKit
set_option linter.unusedVariables false
set_option linter.unusedSimpArgs false

def SMRel (g n : Nat) (xs : List Nat) (d : Nat) (w1 : World) (c i : Value) (wr : World) : Prop :=
  ∃ (k q : Nat) (zs : List Nat), k ≤ n ∧ i = .int .i64 ((k : Int) - 1) ∧ c = .int .u64 (q : Int) ∧ q < d ∧ zs.length = n ∧ Okl zs ∧ val (zs.drop k) * d + q = val (xs.drop k) ∧ wr = put g zs [] w1
def SmallPost (N d : Nat) (w : World) (e : Ending) (w' : World) : Prop :=
  ∃ v, e = .returned (.tuple #[v, .int .u32 ((N % d : Nat) : Int)]) ∧ Own w.heap.size w' v (limbs (N / d)) ∧ Below w.heap.size w w'

theorem sm_step {g n d j q x : Nat} {xs zs : List Nat} {w1 : World} (hl : zs.length = n) (hn : xs.length = n) (hj : j + 1 ≤ n) (hd : d < B32) (hd0 : 0 < d) (hq : q < d) (hoz : Okl zs) (hx : xs.getD j 0 = x) (hxb : x < B32)
    (he : val (zs.drop (j + 1)) * d + q = val (xs.drop (j + 1))) (hb : Blk w1 g (List.replicate n 0) []) :
    SMRel g n xs d w1 (.int .u64 ((wd q x % d : Nat) : Int)) (.int .i64 ((j : Int) - 1)) ((put g zs [] w1).setCell ⟨g, j, none⟩ (.int .u32 ((wd q x / d : Nat) : Int))) := by
  have hql : wd q x / d < B32 := by
    rw [Nat.div_lt_iff_lt_mul hd0]; unfold wd
    have : (q + 1) * B32 ≤ d * B32 := Nat.mul_le_mul_right _ hq
    rw [Nat.add_mul, Nat.one_mul] at this
    rw [Nat.mul_comm B32 d]; omega
  have hml : wd q x % d < d := Nat.mod_lt _ hd0
  rw [set_blk (put_blk _ _ hb.lt) _ _ (by omega), put_put]
  refine ⟨j, _, zs.set j (wd q x / d), by omega, rfl, rfl, hml, by rw [List.length_set]; exact hl, hoz.set _ _ hql, ?_, rfl⟩
  rw [val_drop_succ _ j (by rw [List.length_set]; omega), val_drop_succ xs j (by omega), hx, List.drop_set_of_lt (by omega)]
  have e3 : (zs.set j (wd q x / d)).getD j 0 = wd q x / d := by simp [List.getD, show j < zs.length by omega]
  rw [e3]
  exact sh_num he (Nat.div_add_mod _ _)

set_option maxHeartbeats 4000000 in
theorem refSmall_any (ad : Option Addr) (n cap : Nat) (xs : List Nat) (d : Nat) (w : World) (hn : xs.length = n) (hcap : n ≤ cap) (hm : n ≤ 100000000) (ho : Okl xs) (hr : Rd w ad xs) (hd : d < B32) (hd0 : 0 < d) :
    Calls Tryd.prog 56 #[.slice ad n cap, .int .u32 (d : Int)] w (SmallPost (val xs) d w) := by
  have HN := Lib.hid hn; clear hn
  have hd' := hd
  rw [B32_eq] at hd'
  have hd0' : ¬ ((d : Int) = 0) := by omega
  go_enter Tryd.func56, Tryd.ntmps56
  go_wp2_with (at_make; refine wpl_make _ rfl _ _ rfl _ _ _ _ n rfl rfl rfl rfl (by omega) ?_; intro w1 hB1 hb1)
  have hg1 := hr.apart (Nat.le_refl w.heap.size)
  have hr1 := hr.below hb1
  go_loopw [7, 8] (fun c i wr => SMRel w.heap.size n xs d w1 c i wr) (fun _ i _ => (intOf i + 1).toNat)
  case atStart => exact ⟨n, 0, List.replicate n 0, Nat.le_refl _, by go_num, rfl, hd0, by simp, Okl.replicate n, by rw [List.drop_of_length_le (by simp), List.drop_of_length_le (by rw [HN.out]; exact Nat.le_refl _)]; simp [val], (put_same hB1).symm⟩
  case round =>
    obtain ⟨k, q, zs, hk, rfl, rfl, hq, hl, hoz, he, rfl⟩ := hrel
    have HL := Lib.hid hl; clear hl
    have HE := Lib.hid he; clear he
    have hbz : Blk (put w.heap.size zs [] w1) w.heap.size zs [] := put_blk _ _ hB1.lt
    rcases k with _ | j
    · have hv := HE.out
      simp only [List.drop_zero] at hv
      have hdv : val xs / d = val zs := by rw [← hv, Nat.mul_comm, Nat.mul_add_div hd0, Nat.div_eq_of_lt hq, Nat.add_zero]
      have hmd : val xs % d = q := by rw [← hv, Nat.mul_comm, Nat.mul_add_mod, Nat.mod_eq_of_lt hq]
      have HD := Lib.hid hdv; clear hdv
      have HM := Lib.hid hmd; clear hmd hv
      have hbl : Below w.heap.size w (put w.heap.size zs [] w1) := put_below hb1 (Nat.le_refl _) _ _
      have KN := Lib.hid (refNorm_any (some ⟨w.heap.size, 0, none⟩) n n zs _ HL.out (Nat.le_refl _) hm hoz hbz.rd_all)
      have hq' : q < 4294967296 := by omega
      rw [show (((0 : Nat) : Int) - 1) = -1 from rfl]
      have HBL := Lib.hid hbl; clear hbl
      generalize put w.heap.size zs [] w1 = W at *
      go_wp2_with fail
      refine KN.out.mono ?_
      rintro e w' ⟨v, rfl, hv, hb'⟩
      go_wp2
      go_ret2
      exact ⟨v, by rw [HM.out]; rfl, by rw [HD.out]; exact hv.mono HBL.out.size, below_on HBL.out hb'⟩
    · rw [show (((j + 1 : Nat) : Int) - 1) = (j : Int) by omega]
      obtain ⟨b, o, rfl, hblt, hc⟩ := (hr1.put (g := w.heap.size) hg1 zs []) j (by rw [HN.out]; omega)
      have hcz := hbz.cell j (by rw [HL.out]; omega)
      have hfz := hbz.free j
      have hxb := ho.getD j
      generalize hx : xs.getD j 0 = x at *
      have R := Lib.hid (sm_step (g := w.heap.size) (w1 := w1) HL.out HN.out hk hd hd0 hq hoz hx hxb HE.out hB1)
      clear hx
      have hq' : q < 4294967296 := by omega
      have hwl := wd_lt (Nat.lt_trans hq hd) hxb
      have hwd : (q : Int) * 4294967296 + (x : Int) = ((wd q x : Nat) : Int) := by unfold wd; rw [B32_eq]; omega
      have hqb : wd q x / d < 4294967296 := by
        have : wd q x / d < B32 := by
          rw [Nat.div_lt_iff_lt_mul hd0]; unfold wd
          have : (q + 1) * B32 ≤ d * B32 := Nat.mul_le_mul_right _ hq
          rw [Nat.add_mul, Nat.one_mul] at this
          rw [Nat.mul_comm B32 d]; omega
        rwa [B32_eq] at this
      rw [B32_eq] at hxb
      generalize wd q x = D at *
      have hml : D % d < 4294967296 := by have := Nat.mod_lt D hd0; omega
      go_wp2
      go_roundw
      case rel =>
        have e1 : IntKind.u64.wrap ((D : Int) / (d : Int)) % 4294967296 = ((D / d : Nat) : Int) := by
          rw [← Int.natCast_ediv]
          generalize D / d = Q at *
          rw [IntWalk.u64_in _ (by omega)]; omega
        rw [e1]; exact R.out
      case measure => simp [intOf]


/-- The law's own condition: may a number be? -/
theorem chkB_ref {neg : Bool} {xs : List Nat} {e : Int} (h : xs.length ≠ 0) (h1 : xs.length ≤ 90) (h2 : xs.getD (xs.length - 1) 0 ≠ 0) (h3 : -1200 ≤ e) (h4 : e ≤ 1200) : chkB neg xs e = decide (val xs % 10 ≠ 0) := by
  rw [chkB_tens h h1 h2 h3 h4]; simp

end Go.Proofs.YtipibipaocpojaaDoor
/- The walks of the reference's Trim, of layer 2's reference Make. -/
namespace Go.Proofs.YtipibipaocpojaaDoor
open Go.RowKit
set_option linter.unusedVariables false
set_option linter.unusedSimpArgs false

def RTPost (a : Nat) (w : World) (e : Ending) (w' : World) : Prop :=
  ∃ v m k, e = .returned (.tuple #[v, .int .i64 ((k : Nat) : Int)]) ∧ Own w.heap.size w' v (limbs m) ∧ Below w.heap.size w w' ∧ a = m * tenN k ∧ (a = 0 → k = 0) ∧ (a ≠ 0 → m % 10 ≠ 0) ∧ k ≤ 400000000
def RTRel (G N : Nat) (w : World) (M : Nat) (lv n : Value) (wr : World) : Prop :=
  ∃ k : Nat, n = .int .i64 (k : Int) ∧ Own G wr lv (limbs M) ∧ N = M * tenN k ∧ (N = 0 → k = 0) ∧ M ≤ N ∧ k ≤ 400000000 ∧ Below G w wr
theorem rt_step {N M k n : Nat} (h : N = M * tenN k) (h0 : M ≠ 0) (hm : M % 10 = 0) (hN : N < B32 ^ n) (hn : n ≤ 10000000) : N = M / 10 * tenN (k + 1) ∧ (N = 0 → k + 1 = 0) ∧ k + 1 ≤ 400000000 := by
  have e := Nat.div_add_mod M 10
  rw [hm, Nat.add_zero] at e
  have hN0 : N ≠ 0 := by rw [h]; exact Nat.mul_ne_zero h0 (tenN_ne _)
  have e1 : N = M / 10 * tenN (k + 1) := by
    rw [h]; conv => lhs; rw [← e]
    rw [tenN_succ]
    generalize tenN k = T; generalize M / 10 = q; grind
  have h1 : M / 10 ≠ 0 := by omega
  have h2 : tenN (k + 1) ≤ N := by rw [e1]; exact Nat.le_mul_of_pos_left _ (by omega)
  have := ten_bound h2 hN
  exact ⟨e1, fun h0 => absurd h0 hN0, by omega⟩

set_option maxHeartbeats 4000000 in
set_option maxRecDepth 100000 in
theorem refTrim_any (ad : Option Addr) (n cap : Nat) (xs : List Nat) (w : World) (hn : xs.length = n) (hcap : n ≤ cap) (hm : n ≤ 10000000) (ho : Okl xs) (hr : Rd w ad xs) :
    Calls Tryd.prog 53 #[.slice ad n cap] w (RTPost (val xs) w) := by
  have KN := Lib.hid (refNorm_any ad n cap xs w hn hcap (by omega) ho hr)
  have hlen := limbs_len_le ho
  rw [hn] at hlen
  have hlt := val_lt ho
  rw [hn] at hlt
  generalize val xs = N at *
  clear ho hr hn
  generalize hG : w.heap.size = G at *
  have HLT := Lib.hid hlt; clear hlt
  go_enter Tryd.func53, Tryd.ntmps53
  go_wp2_with fail
  refine KN.out.mono ?_
  rintro e w' ⟨v, rfl, hv, hbl⟩
  rw [hG] at hv hbl
  have HV := Lib.hid hv; have HB := Lib.hid hbl; clear hv hbl
  go_wp2_with fail
  go_loopg [4, 5] N (fun M lv nv wr => RTRel G N w M lv nv wr)
  case atStart => exact ⟨0, rfl, HV.out, by rw [tenN_zero, Nat.mul_one], fun _ => rfl, Nat.le_refl _, by omega, HB.out⟩
  case round =>
    clear HV HB
    obtain ⟨k, rfl, hown, hT, hk0, hle, hk4, hbl⟩ := hrel
    obtain ⟨ad2, cap2, hve, hc2, hrd, hadd⟩ := hown.view
    have hll : (limbs gk).length ≤ n := Nat.le_trans (limbs_len_mono hle) hlen
    by_cases hM : gk = 0
    · subst hM
      rw [limbs_zero] at hve
      subst hve
      have F := Lib.hid (show RTPost N w (.returned (.tuple #[.slice ad2 0 cap2, .int .i64 ((k : Nat) : Int)])) wr from ⟨_, 0, k, rfl, by rw [hG]; exact hown, by rw [hG]; exact hbl, hT, hk0, fun h => absurd (by rw [hT, Nat.zero_mul]) h, hk4⟩)
      clear hown hrd hadd hT hbl hc2 hll hk0
      go_wp2
      go_ret2
      exact F.out
    · have hpos : (0 : Int) < ((limbs gk).length : Int) := by
        have : (limbs gk).length ≠ 0 := fun h => hM ((limbs_nil_iff gk).1 (List.eq_nil_of_length_eq_zero h))
        omega
      have K := refSmall_any ad2 (limbs gk).length cap2 (limbs gk) 10 wr rfl hc2 (by omega) (limbs_ok gk) hrd (by decide) (by decide)
      rw [val_limbs] at K
      have KS := Lib.hid K; clear K
      have hGs : G ≤ wr.heap.size := Nat.le_trans (by rw [← hG]; exact Nat.le_refl _) hbl.size
      have HT := Lib.hid hT; have HB := Lib.hid hbl; have HO := Lib.hid hown; have HK0 := Lib.hid hk0; have HVE := Lib.hid hve
      subst hve
      clear hown hrd hadd hT hbl hc2 hk0
      go_wp2_with fail
      refine KS.out.mono ?_
      rintro r w1 ⟨v1, rfl, hv1, hb1⟩
      have hv2 := hv1.mono hGs
      have hbl2 := HB.out.trans (hb1.mono hGs)
      have ho2 := HO.out.below hb1
      have h10 : gk % 10 < 10 := Nat.mod_lt _ (by decide)
      have HV2 := Lib.hid hv2; have HB2 := Lib.hid hbl2; have HO2 := Lib.hid ho2
      clear hv1 hb1 hv2 hbl2 KS ho2
      by_cases h0 : gk % 10 = 0
      · have HS := Lib.hid (rt_step HT.out hM h0 HLT.out hm)
        have hqm : gk / 10 < gk := by omega
        have HQN := Lib.hid (show gk / 10 ≤ N by omega)
        have hb : ((((gk % 10 : Nat) : Int)) != 0) = false := by rw [h0]; rfl
        have hi : ((gk % 10 : Nat) : Int) = 0 := by omega
        generalize gk % 10 = r at *
        subst h0
        generalize gk / 10 = q at *
        go_wp2
        go_roundg q
        case measure => exact hqm
        case rel => exact ⟨k + 1, by go_num, HV2.out, HS.out.1, HS.out.2.1, HQN.out, HS.out.2.2, HB2.out⟩
      · have F := Lib.hid (show RTPost N w (.returned (.tuple #[.slice ad2 (limbs gk).length cap2, .int .i64 ((k : Nat) : Int)])) w1 from ⟨_, gk, k, rfl, by rw [hG]; exact HO2.out, by rw [hG]; exact HB2.out, HT.out, HK0.out, fun _ => h0, hk4⟩)
        have hi : ¬ ((gk % 10 : Nat) : Int) = 0 := by omega
        generalize gk % 10 = r at *
        go_wp2
        go_ret2
        exact F.out
end Go.Proofs.YtipibipaocpojaaDoor
/- The walk of layer 2's reference Make. -/
namespace Go.Proofs.YtipibipaocpojaaDoor
open Go.RowKit
set_option linter.unusedVariables false
set_option linter.unusedSimpArgs false

theorem refTrim_c {w0 w : World} {l : List Ent} {v1 : Value} {L1 N1 : Nat} {xs : List Nat} (h : Ctx w0 w l) (i : Nat) (hi : l[i]? = some ⟨v1, L1, N1, xs⟩) (h1 : L1 ≤ 1000000) :
    Calls Tryd.prog 53 #[v1] w fun e w' => ∃ v m k, e = .returned (.tuple #[v, .int .i64 ((k : Nat) : Int)]) ∧ N1 = m * tenN k ∧ (N1 = 0 → k = 0) ∧ (N1 ≠ 0 → m % 10 ≠ 0) ∧ k ≤ 400000000 ∧ Ctx w0 w' (⟨v, L1, m, limbs m⟩ :: l) := by
  obtain ⟨ad, cap, rfl, a2, a3, a4, a5, rfl⟩ := h.get i hi
  refine (refTrim_any ad _ cap xs w rfl a2 (by omega) a4 a5).mono ?_
  rintro e w' ⟨v, m, k, rfl, ho, hb, q1, q2, q3, q4⟩
  refine ⟨v, m, k, rfl, q1, q2, q3, q4, (h.step hb).push (ent_own ho (len_leq a4 ?_ a3))⟩
  rw [q1]
  exact Nat.le_mul_of_pos_right _ (Nat.pow_pos (by decide))

set_option maxHeartbeats 4000000 in
theorem refMake_zero {w0 w : World} {l : List Ent} {v : Value} {L : Nat} {xs : List Nat} (h : Ctx w0 w l) (i : Nat) (hi : l[i]? = some ⟨v, L, 0, xs⟩) (hL : L ≤ 1000000) (neg : Bool) (e : Int) :
    Calls Tryd.prog 50 #[.bool neg, v, .int .i64 e] w (MadePost w0 l L false 0 0 true) := by
  have hb1 : Below w.heap.size w (w.alloc (.cells #[.bool false, .slice none 0 0, .int .i64 0] 24)) := (Below.refl _ _).alloc (Nat.le_refl _) _
  have h1 := h.step hb1
  have hW := Lib.hid h.below.size
  have K := Lib.hid (refTrim_c h1.again i hi (by omega))
  have H1 := Lib.hid h1.below
  clear h h1 hi hb1
  go_enter Tryd.func50, Tryd.ntmps50
  go_wp2_with fail
  refine K.out.mono ?_
  rintro r w1 ⟨t, m, k, rfl, q1, q2, _, _, h2⟩
  have hm : m = 0 := by
    rcases Nat.mul_eq_zero.1 q1.symm with h | h
    · exact h
    · exact absurd h (tenN_ne _)
  subst hm
  have hv := h2.get 0 rfl
  obtain ⟨ad, cap, rfl, _⟩ := hv
  rw [show (limbs 0).length = 0 by rw [limbs_zero]; rfl] at *
  obtain ⟨hc, hf⟩ := bcell h2.below
  have hz : w.heap.size < w1.heap.size := by have := h2.below.size; simp at this; omega
  have H2 := Lib.hid h2; clear h2 q1 q2
  go_wp2
  have H3 := Ctx.back H1.out H2.out
  refine bodyPost_ret (v := .tuple #[.agg #[.bool false, .slice none 0 0, .int .i64 0], .bool true]) (by simp [results, Tryd.results50, go_sem, hc]) rfl ⟨_, rfl, ?_⟩
  have H4 := H3.box3 hW.out (b := false) (a := none) (n := 0) (c := 0) (x := 0) (by simp [hc]) (by simp [hc]) (by simp [hc]) (.bool false) (.slice none 0 0) (.int .i64 0)
  exact (H4.drop1).push (ent_nil _ _)

set_option maxHeartbeats 8000000 in
theorem refMake_yes {w0 w : World} {l : List Ent} {v : Value} {L N : Nat} {xs : List Nat} (h : Ctx w0 w l) (i : Nat) (hi : l[i]? = some ⟨v, L, N, xs⟩) (hL : L ≤ 1000000) (neg : Bool) (e : Int)
    (m k : Nat) (hN : N = m * tenN k) (hm : m % 10 ≠ 0) (hlen : (limbs m).length ≤ 90) (x : Int) (hx : e + (k : Int) = x) (hlo : -1200 ≤ x) (hhi : x ≤ 1200) :
    Calls Tryd.prog 50 #[.bool neg, v, .int .i64 e] w (MadePost w0 l L neg m x true) := by
  subst hx
  have hb1 : Below w.heap.size w (w.alloc (.cells #[.bool false, .slice none 0 0, .int .i64 0] 24)) := (Below.refl _ _).alloc (Nat.le_refl _) _
  have h1 := h.step hb1
  have hW := Lib.hid h.below.size
  have K := Lib.hid (refTrim_c h1.again i hi (by omega))
  have H1 := Lib.hid h1.below
  have hne : m ≠ 0 := by intro h0; rw [h0] at hm; exact hm rfl
  have hlb : (((limbs m).length : Int) == 0) = false := by
    rw [beq_eq_false_iff_ne]
    intro h0
    exact hne ((limbs_nil_iff m).1 (List.eq_nil_of_length_eq_zero (by omega)))
  have hN0 : N ≠ 0 := by rw [hN]; exact Nat.mul_ne_zero hne (tenN_ne _)
  have HM := Lib.hid hm
  have HE := Lib.hid hN
  have HLEN := Lib.hid hlen
  clear h h1 hi hb1 hne hm hN hlen
  go_enter Tryd.func50, Tryd.ntmps50
  go_wp2_with fail
  refine K.out.mono ?_
  rintro r w1 ⟨t, m', k', rfl, q1, q2, q3, hk4, h2⟩
  obtain ⟨rfl, rfl⟩ : m = m' ∧ k = k' := ten_unique (by rw [← q1, ← HE.out]) HM.out (q3 hN0)
  have hv := h2.get 0 rfl
  obtain ⟨ad, cap, rfl, a2, a3, a4, a5, a6⟩ := hv
  obtain ⟨hc, hf⟩ := bcell h2.below
  have hz : w.heap.size < w1.heap.size := by have := h2.below.size; simp at this; omega
  have H2 := Lib.hid h2; clear h2 q1 q2 q3 a4 a5 a6 a3
  have hl90 := HLEN.out
  generalize hn : (limbs m).length = n at *
  have HN := Lib.hid hn; clear hn
  have hsum : IntKind.i64.wrap (e + (k : Int)) = e + (k : Int) := IntWalk.i64_in _ (by omega)
  have g1 : ¬ ((90 : Int) < (n : Int)) := by omega
  have g2 : ¬ (e < -1099511627776) := by omega
  have g3 : ¬ (1099511627776 < e) := by omega
  have g4 : ¬ (1099511627776 < (k : Int)) := by omega
  have g5 : ¬ (e + (k : Int) < -1200) := by omega
  have g6 : ¬ (1200 < e + (k : Int)) := by omega
  go_wp2_with fail
  have H3 := Ctx.back H1.out H2.out
  refine bodyPost_ret (v := .tuple #[.agg #[.bool neg, .slice ad n cap, .int .i64 (e + (k : Int))], .bool true]) (by simp [results, Tryd.results50, go_sem, hc, hz]) rfl ⟨_, rfl, ?_⟩
  exact H3.box3 hW.out (b := false) (a := none) (n := 0) (c := 0) (x := 0) (by simp [hc, hz, World.cell?_alloc_lt]) (by simp [hc, hz, World.cell?_alloc_lt]) (by simp [hc, hz, World.cell?_alloc_lt]) _ _ _
end Go.Proofs.YtipibipaocpojaaDoor
/- For the law NumAll: any number as one that may be, by the program's orZero and by the reference's Is; the reference's Make, of any exponent. -/
namespace Go.Proofs.YtipibipaocpojaaDoor
open Go.RowKit Go.Sort
set_option linter.unusedVariables false
set_option linter.unusedSimpArgs false

end Go.Proofs.YtipibipaocpojaaDoor
/- The walks of num's Of, Int at whole numbers that Go has. -/
namespace Go.Proofs.YtipibipaocpojaaDoor
open Go.RowKit Go.Sort
set_option linter.unusedVariables false
set_option linter.unusedSimpArgs false

theorem Ctx.drop2 {w0 w : World} {l : List Ent} {x y : Ent} (h : Ctx w0 w (x :: y :: l)) : Ctx w0 w (x :: l) :=
  ⟨h.below, fun z hz => h.all z (by rcases List.mem_cons.1 hz with rfl | h1 <;> simp_all)⟩
theorem box3_cells {w : World} {g : Nat} {x0 x1 x2 : Value} (hz : g < w.heap.size) (c0 : w.cell? ⟨g, 0, none⟩ = some x0) (c1 : w.cell? ⟨g, 1, none⟩ = some x1) (c2 : w.cell? ⟨g, 2, none⟩ = some x2) (v0 v1 v2 : Value) (b : Array Value) (t : TypeId) :
    ((((w.setCell ⟨g, 0, none⟩ v0).setCell ⟨g, 1, none⟩ v1).setCell ⟨g, 2, none⟩ v2).alloc (.cells b t)).cell? ⟨g, 0, none⟩ = some v0 ∧ ((((w.setCell ⟨g, 0, none⟩ v0).setCell ⟨g, 1, none⟩ v1).setCell ⟨g, 2, none⟩ v2).alloc (.cells b t)).cell? ⟨g, 1, none⟩ = some v1 ∧ ((((w.setCell ⟨g, 0, none⟩ v0).setCell ⟨g, 1, none⟩ v1).setCell ⟨g, 2, none⟩ v2).alloc (.cells b t)).cell? ⟨g, 2, none⟩ = some v2 := by
  have hb := below_box (((w.setCell ⟨g, 0, none⟩ v0).setCell ⟨g, 1, none⟩ v1).setCell ⟨g, 2, none⟩ v2) b t
  have hs : g < (((w.setCell ⟨g, 0, none⟩ v0).setCell ⟨g, 1, none⟩ v1).setCell ⟨g, 2, none⟩ v2).heap.size := by simpa [World.setCell] using hz
  refine ⟨?_, ?_, ?_⟩
  · rw [hb.cell (p := ⟨g, 0, none⟩) hs]; simp [go_sem, c0, c1, c2]
  · rw [hb.cell (p := ⟨g, 1, none⟩) hs]; simp [go_sem, c0, c1, c2]
  · rw [hb.cell (p := ⟨g, 2, none⟩) hs]; simp [go_sem, c0, c1, c2]
/-- What Of answers. -/
def OfPost (w0 : World) (l : List Ent) (neg : Bool) (m : Nat) (e : Int) (r : Ending) (w' : World) : Prop :=
  ∃ v, r = .returned (.agg #[.bool neg, v, .int .i64 e]) ∧ Ctx w0 w' (⟨v, 2, m, limbs m⟩ :: l)
theorem trim64 {k : Nat} (h0 : k ≠ 0) (h : k < 18446744073709551616) : k = trimM k * tenN (trimK k) ∧ trimM k % 10 ≠ 0 ∧ (limbs (trimM k)).length ≤ 2 ∧ trimK k ≤ 20 := by
  obtain ⟨a, b⟩ := trim_spec h0
  have hm : trimM k ≤ k := by unfold trimM; exact Nat.div_le_self _ _
  refine ⟨a, b, ?_, ?_⟩
  · exact Nat.le_trans (limbs_len_mono hm) (by
      have := limbs_len_le (xs := [k % B32, k / B32]) (Okl.cons (Nat.mod_lt _ B32_pos) (Okl.cons (by rw [B32_eq]; omega) Okl.nil))
      rw [show val [k % B32, k / B32] = k by simp [val]; rw [B32_eq]; omega] at this
      exact this)
  · apply Classical.byContradiction
    intro hc
    have h1 : tenN 20 ≤ tenN (trimK k) := tenN_le (by omega)
    have h2 : 0 < trimM k := by omega
    have h3 : tenN (trimK k) ≤ k := by
      have := Nat.le_mul_of_pos_left (tenN (trimK k)) h2
      omega
    have h4 : (18446744073709551616 : Nat) < tenN 20 := by decide
    omega

end Go.Proofs.YtipibipaocpojaaDoor
/- For the law NumAll: Make of any natural and exponent, the program's and the reference's; the reference's Of. -/
namespace Go.Proofs.YtipibipaocpojaaDoor
open Go.RowKit Go.Sort
set_option linter.unusedVariables false
set_option linter.unusedSimpArgs false

set_option maxHeartbeats 8000000 in
theorem refMake_no2 {w0 w : World} {l : List Ent} {v : Value} {L N : Nat} {xs : List Nat} (h : Ctx w0 w l) (i : Nat) (hi : l[i]? = some ⟨v, L, N, xs⟩) (hL : L ≤ 1000000) (neg : Bool) (e : Int)
    (m k : Nat) (hN : N = m * tenN k) (hm : m % 10 ≠ 0) (hno : ¬ ((limbs m).length ≤ 90 ∧ -1200 ≤ e + (k : Int) ∧ e + (k : Int) ≤ 1200)) (he1 : -1099511627776 ≤ e) (he2 : e ≤ 1099511627776) :
    Calls Tryd.prog 50 #[.bool neg, v, .int .i64 e] w (MadePost w0 l L false 0 0 false) := by
  have hb1 : Below w.heap.size w (w.alloc (.cells #[.bool false, .slice none 0 0, .int .i64 0] 24)) := (Below.refl _ _).alloc (Nat.le_refl _) _
  have h1 := h.step hb1
  have hW := Lib.hid h.below.size
  have K := Lib.hid (refTrim_c h1.again i hi (by omega))
  have H1 := Lib.hid h1.below
  have hne : m ≠ 0 := by intro h0; rw [h0] at hm; exact hm rfl
  have hlb : (((limbs m).length : Int) == 0) = false := by
    rw [beq_eq_false_iff_ne]
    intro h0
    exact hne ((limbs_nil_iff m).1 (List.eq_nil_of_length_eq_zero (by omega)))
  have hN0 : N ≠ 0 := by rw [hN]; exact Nat.mul_ne_zero hne (tenN_ne _)
  have HM := Lib.hid hm
  have HE := Lib.hid hN
  have HNO := Lib.hid hno
  clear h h1 hi hb1 hne hm hN hno
  go_enter Tryd.func50, Tryd.ntmps50
  go_wp2_with fail
  refine K.out.mono ?_
  rintro r w1 ⟨t, m', k', rfl, q1, q2, q3, hk4, h2⟩
  obtain ⟨rfl, rfl⟩ : m = m' ∧ k = k' := ten_unique (by rw [← q1, ← HE.out]) HM.out (q3 hN0)
  have hv := h2.get 0 rfl
  obtain ⟨ad, cap, rfl, a2, a3, a4, a5, a6⟩ := hv
  obtain ⟨hc, hf⟩ := bcell h2.below
  have hz : w.heap.size < w1.heap.size := by have := h2.below.size; simp at this; omega
  have H2 := Lib.hid h2; clear h2 q1 q2 q3 a4 a5 a6 a3
  have hno := HNO.out
  generalize hn : (limbs m).length = n at *
  have HN := Lib.hid hn; clear hn
  have hsum : IntKind.i64.wrap (e + (k : Int)) = e + (k : Int) := IntWalk.i64_in _ (by omega)
  have g2 : ¬ (e < -1099511627776) := by omega
  have g3 : ¬ (1099511627776 < e) := by omega
  have g4 : ¬ (1099511627776 < (k : Int)) := by omega
  by_cases c1 : 90 < n
  · have g1 : (90 : Int) < (n : Int) := by omega
    clear hno
    go_wp2_with fail
    have H3 := Ctx.back H1.out H2.out
    refine bodyPost_ret (v := .tuple #[.agg #[.bool false, .slice none 0 0, .int .i64 0], .bool false]) (by simp [results, Tryd.results50, go_sem, hc]) rfl ⟨_, rfl, ?_⟩
    have H4 := H3.box3 hW.out (b := false) (a := none) (n := 0) (c := 0) (x := 0) (by simp [hc]) (by simp [hc]) (by simp [hc]) (.bool false) (.slice none 0 0) (.int .i64 0)
    exact (H4.drop1).push (ent_nil _ _)
  · have g1 : ¬ (90 : Int) < (n : Int) := by omega
    by_cases c2 : e + (k : Int) < -1200
    · clear hno
      go_wp2_with fail
      have H3 := Ctx.back H1.out H2.out
      refine bodyPost_ret (v := .tuple #[.agg #[.bool false, .slice none 0 0, .int .i64 0], .bool false]) (by simp [results, Tryd.results50, go_sem, hc]) rfl ⟨_, rfl, ?_⟩
      have H4 := H3.box3 hW.out (b := false) (a := none) (n := 0) (c := 0) (x := 0) (by simp [hc]) (by simp [hc]) (by simp [hc]) (.bool false) (.slice none 0 0) (.int .i64 0)
      exact (H4.drop1).push (ent_nil _ _)
    · have g6 : 1200 < e + (k : Int) := by omega
      clear hno
      go_wp2_with fail
      have H3 := Ctx.back H1.out H2.out
      refine bodyPost_ret (v := .tuple #[.agg #[.bool false, .slice none 0 0, .int .i64 0], .bool false]) (by simp [results, Tryd.results50, go_sem, hc]) rfl ⟨_, rfl, ?_⟩
      have H4 := H3.box3 hW.out (b := false) (a := none) (n := 0) (c := 0) (x := 0) (by simp [hc]) (by simp [hc]) (by simp [hc]) (.bool false) (.slice none 0 0) (.int .i64 0)
      exact (H4.drop1).push (ent_nil _ _)
set_option maxHeartbeats 8000000 in
theorem refMake_far {w0 w : World} {l : List Ent} {v : Value} {L N : Nat} {xs : List Nat} (h : Ctx w0 w l) (i : Nat) (hi : l[i]? = some ⟨v, L, N, xs⟩) (hL : L ≤ 1000000) (neg : Bool) (e : Int)
    (m k : Nat) (hN : N = m * tenN k) (hm : m % 10 ≠ 0) (hfar : e < -1099511627776 ∨ 1099511627776 < e) :
    Calls Tryd.prog 50 #[.bool neg, v, .int .i64 e] w (MadePost w0 l L false 0 0 false) := by
  have hb1 : Below w.heap.size w (w.alloc (.cells #[.bool false, .slice none 0 0, .int .i64 0] 24)) := (Below.refl _ _).alloc (Nat.le_refl _) _
  have h1 := h.step hb1
  have hW := Lib.hid h.below.size
  have K := Lib.hid (refTrim_c h1.again i hi (by omega))
  have H1 := Lib.hid h1.below
  have hne : m ≠ 0 := by intro h0; rw [h0] at hm; exact hm rfl
  have hlb : (((limbs m).length : Int) == 0) = false := by
    rw [beq_eq_false_iff_ne]
    intro h0
    exact hne ((limbs_nil_iff m).1 (List.eq_nil_of_length_eq_zero (by omega)))
  have hN0 : N ≠ 0 := by rw [hN]; exact Nat.mul_ne_zero hne (tenN_ne _)
  have HM := Lib.hid hm
  have HE := Lib.hid hN
  clear h h1 hi hb1 hne hm hN
  go_enter Tryd.func50, Tryd.ntmps50
  go_wp2_with fail
  refine K.out.mono ?_
  rintro r w1 ⟨t, m', k', rfl, q1, q2, q3, hk4, h2⟩
  obtain ⟨rfl, rfl⟩ : m = m' ∧ k = k' := ten_unique (by rw [← q1, ← HE.out]) HM.out (q3 hN0)
  have hv := h2.get 0 rfl
  obtain ⟨ad, cap, rfl, a2, a3, a4, a5, a6⟩ := hv
  obtain ⟨hc, hf⟩ := bcell h2.below
  have hz : w.heap.size < w1.heap.size := by have := h2.below.size; simp at this; omega
  have H2 := Lib.hid h2; clear h2 q1 q2 q3 a4 a5 a6 a3
  generalize hn : (limbs m).length = n at *
  have HN := Lib.hid hn; clear hn
  by_cases c1 : 90 < n
  · have g1 : (90 : Int) < (n : Int) := by omega
    clear hfar
    go_wp2_with fail
    have H3 := Ctx.back H1.out H2.out
    refine bodyPost_ret (v := .tuple #[.agg #[.bool false, .slice none 0 0, .int .i64 0], .bool false]) (by simp [results, Tryd.results50, go_sem, hc]) rfl ⟨_, rfl, ?_⟩
    have H4 := H3.box3 hW.out (b := false) (a := none) (n := 0) (c := 0) (x := 0) (by simp [hc]) (by simp [hc]) (by simp [hc]) (.bool false) (.slice none 0 0) (.int .i64 0)
    exact (H4.drop1).push (ent_nil _ _)
  · have g1 : ¬ (90 : Int) < (n : Int) := by omega
    by_cases c2 : e < -1099511627776
    · clear hfar
      go_wp2_with fail
      have H3 := Ctx.back H1.out H2.out
      refine bodyPost_ret (v := .tuple #[.agg #[.bool false, .slice none 0 0, .int .i64 0], .bool false]) (by simp [results, Tryd.results50, go_sem, hc]) rfl ⟨_, rfl, ?_⟩
      have H4 := H3.box3 hW.out (b := false) (a := none) (n := 0) (c := 0) (x := 0) (by simp [hc]) (by simp [hc]) (by simp [hc]) (.bool false) (.slice none 0 0) (.int .i64 0)
      exact (H4.drop1).push (ent_nil _ _)
    · have g2 : 1099511627776 < e := by omega
      clear hfar
      go_wp2_with fail
      have H3 := Ctx.back H1.out H2.out
      refine bodyPost_ret (v := .tuple #[.agg #[.bool false, .slice none 0 0, .int .i64 0], .bool false]) (by simp [results, Tryd.results50, go_sem, hc]) rfl ⟨_, rfl, ?_⟩
      have H4 := H3.box3 hW.out (b := false) (a := none) (n := 0) (c := 0) (x := 0) (by simp [hc]) (by simp [hc]) (by simp [hc]) (.bool false) (.slice none 0 0) (.int .i64 0)
      exact (H4.drop1).push (ent_nil _ _)
/-- What Make answers, of any natural and any exponent. -/
def mkOk (N : Nat) (e : Int) : Bool := decide (N = 0 ∨ ((limbs (trimM N)).length ≤ 90 ∧ -1200 ≤ e + (trimK N : Int) ∧ e + (trimK N : Int) ≤ 1200))
def mkNeg (neg : Bool) (N : Nat) (e : Int) : Bool := mkOk N e && decide (N ≠ 0) && neg
def mkM (N : Nat) (e : Int) : Nat := if mkOk N e = true ∧ N ≠ 0 then trimM N else 0
def mkE (N : Nat) (e : Int) : Int := if mkOk N e = true ∧ N ≠ 0 then e + (trimK N : Int) else 0
theorem rmake_all {w0 w : World} {l : List Ent} {v : Value} {L N : Nat} {xs : List Nat} (h : Ctx w0 w l) (i : Nat) (hi : l[i]? = some ⟨v, L, N, xs⟩) (hL : L ≤ 1000000) (neg : Bool) (e : Int) :
    Calls Tryd.prog 50 #[.bool neg, v, .int .i64 e] w (MadePost w0 l L (mkNeg neg N e) (mkM N e) (mkE N e) (mkOk N e)) := by
  by_cases h0 : N = 0
  · subst h0
    have e1 : mkOk 0 e = true := by unfold mkOk; simp
    rw [show mkNeg neg 0 e = false from by unfold mkNeg; simp, show mkM 0 e = 0 from by unfold mkM; simp, show mkE 0 e = 0 from by unfold mkE; simp, e1]
    exact refMake_zero h i hi hL neg e
  · obtain ⟨a, b⟩ := trim_spec h0
    by_cases hr : (limbs (trimM N)).length ≤ 90 ∧ -1200 ≤ e + (trimK N : Int) ∧ e + (trimK N : Int) ≤ 1200
    · have e1 : mkOk N e = true := by unfold mkOk; exact decide_eq_true (.inr hr)
      rw [show mkNeg neg N e = neg from by unfold mkNeg; rw [e1]; simp [h0], show mkM N e = trimM N from by unfold mkM; rw [if_pos ⟨e1, h0⟩], show mkE N e = e + (trimK N : Int) from by unfold mkE; rw [if_pos ⟨e1, h0⟩], e1]
      exact refMake_yes h i hi hL neg e _ _ a b hr.1 _ rfl hr.2.1 hr.2.2
    · have e1 : mkOk N e = false := by unfold mkOk; exact decide_eq_false (fun h => h.elim h0 hr)
      rw [show mkNeg neg N e = false from by unfold mkNeg; rw [e1]; rfl, show mkM N e = 0 from by unfold mkM; rw [if_neg (fun h => by rw [e1] at h; exact absurd h.1 (by decide))], show mkE N e = 0 from by unfold mkE; rw [if_neg (fun h => by rw [e1] at h; exact absurd h.1 (by decide))], e1]
      by_cases hf : e < -1099511627776 ∨ 1099511627776 < e
      · exact refMake_far h i hi hL neg e _ _ a b hf
      · exact refMake_no2 h i hi hL neg e _ _ a b hr (by omega) (by omega)
set_option maxHeartbeats 8000000 in
set_option maxRecDepth 100000 in
theorem rof_any {w0 w : World} {l : List Ent} (h : Ctx w0 w l) (v : Int) (hv : -9223372036854775808 ≤ v ∧ v ≤ 9223372036854775807) (k : Nat) (hk : v.natAbs = k) (h0 : k ≠ 0) :
    Calls Tryd.prog 49 #[.int .i64 v] w (OfPost w0 l (decide (v < 0)) (trimM k) ((trimK k : Nat) : Int)) := by
  have hk64 : k < 18446744073709551616 := by omega
  obtain ⟨t1, t2, t3, t4⟩ := trim64 h0 hk64
  have hb1 := below_box w #[.bool false, .slice none 0 0, .int .i64 0] 24
  have h1 := h.step hb1
  have hl1 : k % 4294967296 < B32 := by rw [B32_eq]; omega
  have hl2 : k / 4294967296 < B32 := by rw [B32_eq]; omega
  have hvl : val [k % 4294967296, k / 4294967296] = k := by simp [val]; rw [B32_eq]; omega
  have h2 := h1.again.lits2 (Okl.cons hl1 (Okl.cons hl2 Okl.nil)) hvl 2 rfl #[.int .u32 ((k : Int) % 4294967296), .int .u32 ((k : Int) / 4294967296)] (by simp [lv])
  have KM := Lib.hid (refMake_yes h2.again 0 rfl (by decide) (decide (v < 0)) 0 (trimM k) (trimK k) t1 t2 (by omega) ((trimK k : Nat) : Int) (by omega) (by omega) (by omega))
  have H2 := Lib.hid h2
  have H1 := Lib.hid h1
  have hW := Lib.hid h.below.size
  clear h h1 h2 hb1 t1 t2
  by_cases hs : v < 0
  · rw [decide_eq_true hs] at KM
    have HD := Lib.hid (decide_eq_true hs)
    obtain rfl : v = -(k : Int) := by omega
    clear hk
    have hw1 : IntKind.u64.wrap (-IntKind.u64.wrap (-(k : Int))) = (k : Int) := by
      have hx : ∀ x : Int, IntKind.u64.wrap x = x % 18446744073709551616 := fun x => rfl
      rw [hx, hx]; omega
    have hw2 : (k : Int) / 4294967296 % 4294967296 = (k : Int) / 4294967296 := by omega
    go_enter Tryd.func49, Tryd.ntmps49
    go_wp2_with fail
    refine KM.out.mono ?_
    rintro r w1 ⟨v1, rfl, hm1⟩
    obtain ⟨ad1, cap1, hv1, _⟩ := hm1.get 0 rfl
    generalize hn1 : (limbs (trimM k)).length = n1 at *
    subst hv1
    obtain ⟨hc, hf⟩ := bcell hm1.below
    have hz : w.heap.size < w1.heap.size := by have := hm1.below.size; simp at this; omega
    have HM := Lib.hid hm1; have HN1 := Lib.hid hn1
    clear hm1 hn1
    go_wp2
    have d0 : w1.cell? ⟨w.heap.size, 0, none⟩ = some (.bool false) := by rw [hc _ _ (by simp <;> omega)]; simp [World.cell?_alloc_lt]
    have d1 : w1.cell? ⟨w.heap.size, 1, none⟩ = some (.slice none 0 0) := by rw [hc _ _ (by simp <;> omega)]; simp [World.cell?_alloc_lt]
    have d2 : w1.cell? ⟨w.heap.size, 2, none⟩ = some (.int .i64 0) := by rw [hc _ _ (by simp <;> omega)]; simp [World.cell?_alloc_lt]
    have H3 := ((HM.out.on H2.out).on H1.out).drop2
    have H4 := (H3.box3 hW.out d0 d1 d2 (.bool true) (.slice ad1 n1 cap1) (.int .i64 ((trimK k : Nat) : Int))).step (below_box _ #[.bool true, .slice ad1 n1 cap1, .int .i64 ((trimK k : Nat) : Int)] 24)
    obtain ⟨g0, g1, g2⟩ := box3_cells (w := w1) (g := w.heap.size) hz d0 d1 d2 (.bool true) (.slice ad1 n1 cap1) (.int .i64 ((trimK k : Nat) : Int)) #[.bool true, .slice ad1 n1 cap1, .int .i64 ((trimK k : Nat) : Int)] 24
    refine bodyPost_ret (v := .agg #[.bool true, .slice ad1 n1 cap1, .int .i64 ((trimK k : Nat) : Int)]) (by simp [results, Tryd.results49, go_sem, g0, g1, g2]) rfl ⟨_, by rw [HD.out], ?_⟩
    exact H4
  · rw [decide_eq_false hs] at KM
    have HD := Lib.hid (decide_eq_false hs)
    obtain rfl : v = (k : Int) := by omega
    clear hk
    go_enter Tryd.func49, Tryd.ntmps49
    go_wp2_with fail
    refine KM.out.mono ?_
    rintro r w1 ⟨v1, rfl, hm1⟩
    obtain ⟨ad1, cap1, hv1, _⟩ := hm1.get 0 rfl
    generalize hn1 : (limbs (trimM k)).length = n1 at *
    subst hv1
    obtain ⟨hc, hf⟩ := bcell hm1.below
    have hz : w.heap.size < w1.heap.size := by have := hm1.below.size; simp at this; omega
    have HM := Lib.hid hm1; have HN1 := Lib.hid hn1
    clear hm1 hn1
    go_wp2
    have d0 : w1.cell? ⟨w.heap.size, 0, none⟩ = some (.bool false) := by rw [hc _ _ (by simp <;> omega)]; simp [World.cell?_alloc_lt]
    have d1 : w1.cell? ⟨w.heap.size, 1, none⟩ = some (.slice none 0 0) := by rw [hc _ _ (by simp <;> omega)]; simp [World.cell?_alloc_lt]
    have d2 : w1.cell? ⟨w.heap.size, 2, none⟩ = some (.int .i64 0) := by rw [hc _ _ (by simp <;> omega)]; simp [World.cell?_alloc_lt]
    have H3 := ((HM.out.on H2.out).on H1.out).drop2
    have H4 := (H3.box3 hW.out d0 d1 d2 (.bool false) (.slice ad1 n1 cap1) (.int .i64 ((trimK k : Nat) : Int))).step (below_box _ #[.bool false, .slice ad1 n1 cap1, .int .i64 ((trimK k : Nat) : Int)] 24)
    obtain ⟨g0, g1, g2⟩ := box3_cells (w := w1) (g := w.heap.size) hz d0 d1 d2 (.bool false) (.slice ad1 n1 cap1) (.int .i64 ((trimK k : Nat) : Int)) #[.bool false, .slice ad1 n1 cap1, .int .i64 ((trimK k : Nat) : Int)] 24
    refine bodyPost_ret (v := .agg #[.bool false, .slice ad1 n1 cap1, .int .i64 ((trimK k : Nat) : Int)]) (by simp [results, Tryd.results49, go_sem, g0, g1, g2]) rfl ⟨_, by rw [HD.out], ?_⟩
    exact H4
set_option maxHeartbeats 8000000 in
set_option maxRecDepth 100000 in
theorem rof_zero {w0 w : World} {l : List Ent} (h : Ctx w0 w l) : Calls Tryd.prog 49 #[.int .i64 0] w (OfPost w0 l false 0 0) := by
  have hb1 := below_box w #[.bool false, .slice none 0 0, .int .i64 0] 24
  have h1 := h.step hb1
  have h2 := h1.again.lits2 (N := 0) (xs := [0, 0]) (Okl.cons (by decide) (Okl.cons (by decide) Okl.nil)) rfl 2 rfl #[.int .u32 0, .int .u32 0] rfl
  have KM := Lib.hid (refMake_zero h2.again 0 rfl (by decide) false 0)
  have H2 := Lib.hid h2
  have H1 := Lib.hid h1
  have hW := Lib.hid h.below.size
  clear h h1 h2 hb1
  go_enter Tryd.func49, Tryd.ntmps49
  go_wp2_with fail
  refine KM.out.mono ?_
  rintro r w1 ⟨v1, rfl, hm1⟩
  obtain ⟨ad1, cap1, hv1, _⟩ := hm1.get 0 rfl
  rw [show (limbs 0).length = 0 by rw [limbs_zero]; rfl] at hv1
  subst hv1
  obtain ⟨hc, hf⟩ := bcell hm1.below
  have hz : w.heap.size < w1.heap.size := by have := hm1.below.size; simp at this; omega
  have HM := Lib.hid hm1
  clear hm1
  go_wp2
  have d0 : w1.cell? ⟨w.heap.size, 0, none⟩ = some (.bool false) := by rw [hc _ _ (by simp <;> omega)]; simp [World.cell?_alloc_lt]
  have d1 : w1.cell? ⟨w.heap.size, 1, none⟩ = some (.slice none 0 0) := by rw [hc _ _ (by simp <;> omega)]; simp [World.cell?_alloc_lt]
  have d2 : w1.cell? ⟨w.heap.size, 2, none⟩ = some (.int .i64 0) := by rw [hc _ _ (by simp <;> omega)]; simp [World.cell?_alloc_lt]
  have H3 := ((HM.out.on H2.out).on H1.out).drop2
  have H4 := (H3.box3 hW.out d0 d1 d2 (.bool false) (.slice ad1 0 cap1) (.int .i64 0)).step (below_box _ #[.bool false, .slice ad1 0 cap1, .int .i64 0] 24)
  obtain ⟨g0, g1, g2⟩ := box3_cells (w := w1) (g := w.heap.size) hz d0 d1 d2 (.bool false) (.slice ad1 0 cap1) (.int .i64 0) #[.bool false, .slice ad1 0 cap1, .int .i64 0] 24
  refine bodyPost_ret (v := .agg #[.bool false, .slice ad1 0 cap1, .int .i64 0]) (by simp [results, Tryd.results49, go_sem, g0, g1, g2]) rfl ⟨_, rfl, ?_⟩
  exact H4

theorem rof_all {w0 w : World} {l : List Ent} (h : Ctx w0 w l) (v : Int) (hv : -9223372036854775808 ≤ v ∧ v ≤ 9223372036854775807) :
    Calls Tryd.prog 49 #[.int .i64 v] w (OfPost w0 l (decide (v < 0)) (trimM v.natAbs) ((trimK v.natAbs : Nat) : Int)) := by
  by_cases h0 : v.natAbs = 0
  · obtain rfl : v = 0 := by omega
    exact rof_zero h
  · exact rof_any h v hv _ rfl h0

end Go.Proofs.YtipibipaocpojaaDoor
