/- The walk of tree's Same, part 1: what its own list of pairs is, and what holds from round to round. -/
import Derived.Test.YtndjdmgncjiggaaQKl
import Derived.Test.YtndjdmgncjiggaaQh
namespace Go.Proofs.Ytndjdmgncjiggaa
open Go.RowKit Go.Shelf
set_option linter.unusedVariables false
set_option linter.unusedSimpArgs false

/-- What is owned, opened: elements of two cells. -/
theorem own_open2 {w : World} {B : Nat} {e : TypeId} {v : Value} {n : Nat} {xs : List Value} (h : w.ownsRow B e 2 v (n + 1) xs) :
    ∃ g cap, v = .slice (some ⟨g, 0, none⟩) (n + 1) cap ∧ B ≤ g ∧ g < w.heap.size ∧ n + 1 ≤ cap ∧ w.cell? ⟨g, 2 * n, none⟩ = xs[2 * n]? ∧ w.cell? ⟨g, 2 * n + 1, none⟩ = xs[2 * n + 1]? ∧ w.frozen? ⟨g, 2 * n, none⟩ = false ∧ w.frozen? ⟨g, 2 * n + 1, none⟩ = false ∧
      (∀ x i, (w.setCell ⟨g, i, none⟩ x).ownsRow B e 2 v (n + 1) (xs.set i x)) ∧ w.ownsRow B e 2 (.slice (some ⟨g, 0, none⟩) n cap) n (xs.take (2 * n)) := by
  rcases h.2 with ⟨_, h0⟩ | ⟨g, cap, cur, rfl, hB, hg, hc, hm, hs, ht⟩
  · omega
  · have hlt : g < w.heap.size := (Array.getElem?_eq_some_iff.1 hg).1
    have hsz : cur.size = cap * 2 := hs
    have hx : ∀ i, i < (n + 1) * 2 → xs[i]? = cur[i]? := by
      intro i hi
      rw [← ht, List.getElem?_take, if_pos hi]; simp
    refine ⟨g, cap, rfl, hB, hlt, hc, ?_, ?_, ?_, ?_, fun x i => ⟨?_, .inr ⟨g, cap, cur.setIfInBounds i x, rfl, hB, ?_, hc, hm, ?_, ?_⟩⟩, ⟨?_, .inr ⟨g, cap, cur, rfl, hB, hg, by omega, hm, hs, ?_⟩⟩⟩
    · rw [hx _ (by omega)]; simp [World.cell?, hg]
    · rw [hx _ (by omega)]; simp [World.cell?, hg]
    · simp [World.frozen?, hg]
    · simp [World.frozen?, hg]
    · rw [List.length_set]; exact h.1
    · simp [World.setCell, Array.getElem?_modify, hg]
    · simp; omega
    · rw [← ht, Array.toList_setIfInBounds, List.take_set]
    · rw [List.length_take, h.1]; omega
    · rw [← ht, List.take_take]; congr 1; omega

/-- Two lists of trees at one place. -/
structure PE where
  a : SE
  b : SE
def PE.vals (p : PE) : List Value := [p.a.val, p.b.val]
def valsP : List PE → List Value
  | [] => []
  | p :: R => valsP R ++ p.vals
theorem valsP_len (R : List PE) : (valsP R).length = 2 * R.length := by
  induction R with
  | nil => rfl
  | cons p R ih => rw [valsP, List.length_append, ih]; simp [PE.vals]; omega
theorem valsP_a (p : PE) (R : List PE) : (valsP (p :: R))[2 * R.length]? = some p.a.val := by
  rw [valsP, List.getElem?_append_right (by rw [valsP_len]; omega), valsP_len]; simp [PE.vals]
theorem valsP_b (p : PE) (R : List PE) : (valsP (p :: R))[2 * R.length + 1]? = some p.b.val := by
  rw [valsP, List.getElem?_append_right (by rw [valsP_len]; omega), valsP_len]; simp [PE.vals]
theorem valsP_take (p : PE) (R : List PE) : (valsP (p :: R)).take (2 * R.length) = valsP R := by
  rw [valsP, List.take_append_of_le_length (by rw [valsP_len]; omega), List.take_of_length_le (by rw [valsP_len]; omega)]
theorem valsP_set (p q : PE) (R : List PE) : ((valsP (p :: R)).set (2 * R.length) q.a.val).set (2 * R.length + 1) q.b.val = valsP (q :: R) := by
  rw [valsP, valsP, List.set_append_right _ _ (by rw [valsP_len]; omega), valsP_len, List.set_append_right _ _ (by rw [valsP_len]; omega), valsP_len]
  simp [PE.vals]
structure POk (w : World) (p : PE) : Prop where
  a : SEOk w p.a
  b : SEOk w p.b
  n : p.a.l.length = p.b.l.length
  na : ∀ t ∈ p.a.l, NumsOk t
  nb : ∀ t ∈ p.b.l, NumsOk t
def sameP (R : List PE) : Bool := R.all (fun p => sameLs p.a.l p.b.l)
def stepsP (R : List PE) : Nat := stepsR (R.map (·.a.l))
/-- A tree's parts as a place on the way. -/
def partsE (t : MT) : SE := if t.c.k = 6 ∨ t.c.k = 7 then ⟨t.c.va, t.c.vn, t.c.vc, t.v⟩ else ⟨none, 0, 0, []⟩
theorem partsE_l (t : MT) : (partsE t).l = partsL t := by unfold partsE partsL; split <;> rfl
theorem partsE_val (t : MT) : (partsE t).val = if t.c.k = 6 ∨ t.c.k = 7 then .slice t.c.va t.c.vn t.c.vc else .slice none 0 0 := by unfold partsE SE.val; split <;> rfl
theorem partsE_ok {w : World} {t : MT} (h : Rep w t) : SEOk w (partsE t) := by
  unfold partsE
  split
  · exact MT.se_ok h
  · exact ⟨rfl, Nat.le_refl _, by decide, RdV.nil _ _, fun s hs => by cases hs⟩
theorem parts_sub {t s : MT} (h : s ∈ partsL t) : s ∈ t.v := by
  unfold partsL at h
  split at h
  · exact h
  · cases h
theorem parts_nodes (t : MT) : MT.nodesL (partsL t) ≤ MT.nodesL t.v := by
  unfold partsL
  split
  · exact Nat.le_refl _
  · rw [MT.nodesL_nil]; omega
theorem alike_parts {a b : MT} {w : World} (ha : Rd1 w a) (hb : Rd1 w b) (h : alikeB a b = true) : (partsL a).length = (partsL b).length := by
  have hk := alike_kind h
  unfold partsL
  rw [← hk]
  by_cases h67 : a.c.k = 6 ∨ a.c.k = 7
  · rw [if_pos h67, if_pos h67, ha.vn, hb.vn]
    unfold alikeB at h
    rw [if_pos hk] at h
    rcases h67 with h6 | h6
    · simpa [h6] using h
    · have : (decide (a.k = b.k) && decide (a.c.vn = b.c.vn)) = true := by simpa [h6] using h
      rw [Bool.and_eq_true] at this
      simpa using this.2
  · rw [if_neg h67, if_neg h67]
theorem parts_ok {w : World} {a b : MT} (ha : Rep w a) (hb : Rep w b) (na : NumsOk a) (nb : NumsOk b) (h : alikeB a b = true) : POk w ⟨partsE a, partsE b⟩ :=
  ⟨partsE_ok ha, partsE_ok hb, by show (partsE a).l.length = (partsE b).l.length; rw [partsE_l, partsE_l]; exact alike_parts ha.own hb.own h,
    fun t ht => na.part (parts_sub (by rw [← partsE_l]; exact ht)), fun t ht => nb.part (parts_sub (by rw [← partsE_l]; exact ht))⟩
theorem stepsP_pop {p : PE} {R : List PE} (h : p.a.l = []) : stepsP (p :: R) = stepsP R + 1 := by
  unfold stepsP; rw [List.map_cons, h, stepsR_pop]
theorem stepsP_push {p q : PE} {R : List PE} {t : MT} (h : p.a.l = t :: q.a.l) (s : MT) : stepsP (⟨partsE t, partsE s⟩ :: q :: R) + 1 ≤ stepsP (p :: R) := by
  unfold stepsP
  rw [List.map_cons, List.map_cons, List.map_cons, h, stepsR, stepsR, stepsR, MT.nodesL_cons, MT.nodes_eq t]
  have := parts_nodes t
  rw [← partsE_l] at this
  show 2 * MT.nodesL (partsE t).l + 1 + _ + 1 ≤ _
  omega
theorem sameP_pop {p : PE} {R : List PE} (h : p.a.l = []) : sameP (p :: R) = sameP R := by
  unfold sameP; rw [List.all_cons, h, sameLs_nil]; rfl
theorem sameP_push {p q : PE} {R : List PE} {t s : MT} (h : p.a.l = t :: q.a.l) (h2 : p.b.l = s :: q.b.l) : sameP (p :: R) = (alikeB t s && sameP (⟨partsE t, partsE s⟩ :: q :: R)) := by
  unfold sameP
  rw [List.all_cons, List.all_cons, List.all_cons, h, h2, sameLs_cons, sameM_eq, partsE_l, partsE_l]
  simp [Bool.and_assoc]
theorem sameP_start (a b : MT) : sameM a b = (alikeB a b && sameP [⟨partsE a, partsE b⟩]) := by
  rw [sameM_eq]
  unfold sameP
  rw [List.all_cons, partsE_l, partsE_l]
  simp
end Go.Proofs.Ytndjdmgncjiggaa
