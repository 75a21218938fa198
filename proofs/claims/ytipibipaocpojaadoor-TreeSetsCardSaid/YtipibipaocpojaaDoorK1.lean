/- Trees with where their parts lie: their nodes one behind the other, as all goes through them; how they read in memory. -/
import Derived.Test.YtipibipaocpojaaDoorK0
namespace Go.Proofs.YtipibipaocpojaaDoor
open Go.RowKit
set_option linter.unusedVariables false
set_option linter.unusedSimpArgs false

/-- A tree: its own cells, the limbs, the names and the trees that its slices lead to. -/
inductive MT where
  | mk (c : Cel) (m : List Nat) (k : List ByteArray) (v : List MT)
def MT.c : MT → Cel | .mk c _ _ _ => c
def MT.m : MT → List Nat | .mk _ m _ _ => m
def MT.k : MT → List ByteArray | .mk _ _ k _ => k
def MT.v : MT → List MT | .mk _ _ _ v => v
mutual
def MT.nodes : MT → Nat | .mk _ _ _ v => 1 + MT.nodesL v
def MT.nodesL : List MT → Nat | [] => 0 | t :: l => MT.nodes t + MT.nodesL l
end
mutual
/-- All nodes of a tree, each with how deep it is, each ahead of those in it. -/
def MT.pre : MT → Nat → List (Nat × MT) | .mk c m k v, d => (d, .mk c m k v) :: MT.preL v (d + 1)
def MT.preL : List MT → Nat → List (Nat × MT) | [], _ => [] | t :: l, d => MT.pre t d ++ MT.preL l d
end
theorem MT.pre_eq (t : MT) (d : Nat) : t.pre d = (d, t) :: MT.preL t.v (d + 1) := by cases t; rw [MT.pre]; rfl
theorem MT.preL_nil (d : Nat) : MT.preL [] d = [] := by rw [MT.preL]
theorem MT.preL_cons (t : MT) (l : List MT) (d : Nat) : MT.preL (t :: l) d = t.pre d ++ MT.preL l d := by rw [MT.preL]
theorem MT.nodes_eq (t : MT) : t.nodes = 1 + MT.nodesL t.v := by cases t; rw [MT.nodes]; rfl
theorem MT.nodesL_nil : MT.nodesL [] = 0 := by rw [MT.nodesL]
theorem MT.nodesL_cons (t : MT) (l : List MT) : MT.nodesL (t :: l) = t.nodes + MT.nodesL l := by rw [MT.nodesL]
theorem MT.nodes_pos (t : MT) : 1 ≤ t.nodes := by rw [MT.nodes_eq]; omega
theorem MT.nodes_mem {t : MT} {l : List MT} (h : t ∈ l) : t.nodes ≤ MT.nodesL l := by
  induction l with
  | nil => cases h
  | cons x l ih =>
    rw [MT.nodesL_cons]
    rcases List.mem_cons.1 h with rfl | h
    · omega
    · have := ih h; omega
/-- Induction over a tree's parts. -/
theorem MT.ind {P : MT → Prop} (h : ∀ t, (∀ s ∈ t.v, P s) → P t) : ∀ t, P t := by
  have key : ∀ n t, MT.nodes t ≤ n → P t := by
    intro n
    induction n with
    | zero => intro t ht; have := t.nodes_pos; omega
    | succ n ih =>
      intro t ht
      refine h t fun s hs => ih s ?_
      have := MT.nodes_mem hs
      rw [MT.nodes_eq] at ht
      omega
  exact fun t => key _ t (Nat.le_refl _)
theorem MT.preL_len (l : List MT) (h : ∀ s ∈ l, ∀ d, (s.pre d).length = s.nodes) : ∀ d, (MT.preL l d).length = MT.nodesL l := by
  induction l with
  | nil => intro d; rw [MT.preL_nil, MT.nodesL_nil]; rfl
  | cons t l ih =>
    intro d
    rw [MT.preL_cons, List.length_append, MT.nodesL_cons, h t (by simp), ih (fun s hs => h s (by simp [hs]))]
theorem MT.pre_len (t : MT) : ∀ d, (t.pre d).length = t.nodes :=
  MT.ind (P := fun t => ∀ d, (t.pre d).length = t.nodes) (fun t ih d => by
    rw [MT.pre_eq, List.length_cons, MT.preL_len t.v ih, MT.nodes_eq]; omega) t
theorem MT.preL_length (l : List MT) (d : Nat) : (MT.preL l d).length = MT.nodesL l := MT.preL_len l (fun s _ => s.pre_len) d
theorem MT.mem_preL {l : List MT} {d : Nat} {x : Nat × MT} : x ∈ MT.preL l d ↔ ∃ s ∈ l, x ∈ s.pre d := by
  induction l with
  | nil => rw [MT.preL_nil]; simp
  | cons t l ih => rw [MT.preL_cons, List.mem_append, ih]; simp
/-- The nodes do not hang on where they are counted from. -/
theorem MT.mem_pre_shift (t : MT) : ∀ d e s, (∃ n, (n, s) ∈ t.pre d) → ∃ n, (n, s) ∈ t.pre e :=
  MT.ind (P := fun t => ∀ d e s, (∃ n, (n, s) ∈ t.pre d) → ∃ n, (n, s) ∈ t.pre e) (fun t ih d e s h => by
    obtain ⟨n, h⟩ := h
    rw [MT.pre_eq, List.mem_cons] at h
    rcases h with h | h
    · exact ⟨e, by rw [MT.pre_eq]; simp at h ⊢; exact .inl h.2⟩
    · obtain ⟨u, hu, hx⟩ := MT.mem_preL.1 h
      obtain ⟨n', h'⟩ := ih u hu (d + 1) (e + 1) s ⟨n, hx⟩
      exact ⟨n', by rw [MT.pre_eq]; exact List.mem_cons_of_mem _ (MT.mem_preL.2 ⟨u, hu, h'⟩)⟩) t
/-- A part of a tree, itself too. -/
def MT.sub (t s : MT) : Prop := ∃ n, (n, s) ∈ t.pre 0
theorem MT.sub_refl (t : MT) : t.sub t := ⟨0, by rw [MT.pre_eq]; simp⟩
theorem MT.sub_v {t u s : MT} (hu : u ∈ t.v) (h : u.sub s) : t.sub s := by
  obtain ⟨n, h⟩ := MT.mem_pre_shift u 0 1 s h
  exact ⟨n, by rw [MT.pre_eq]; exact List.mem_cons_of_mem _ (MT.mem_preL.2 ⟨u, hu, h⟩)⟩
theorem MT.sub_cases {t s : MT} (h : t.sub s) : s = t ∨ ∃ u ∈ t.v, u.sub s := by
  obtain ⟨n, h⟩ := h
  rw [MT.pre_eq, List.mem_cons] at h
  rcases h with h | h
  · left; simp at h; exact h.2
  · right
    obtain ⟨u, hu, hx⟩ := MT.mem_preL.1 h
    exact ⟨u, hu, MT.mem_pre_shift u 1 0 s ⟨n, hx⟩⟩
theorem MT.sub_of_pre {t s : MT} {n d : Nat} (h : (n, s) ∈ t.pre d) : t.sub s := MT.mem_pre_shift t d 0 s ⟨n, h⟩

/-- A tree's own cells lead to what it says. -/
structure Rd1 (w : World) (t : MT) : Prop where
  mn : t.m.length = t.c.mn
  mc : t.c.mn ≤ t.c.mc
  mo : Okl t.m
  mr : Rd w t.c.ma t.m
  kn : t.k.length = t.c.kn
  kc : t.c.kn ≤ t.c.kc
  kr : RdV w t.c.ka (sv t.k)
  vn : t.v.length = t.c.vn
  vc : t.c.vn ≤ t.c.vc
  vr : RdV w t.c.va (flat (t.v.map MT.c))
  lm : t.c.mn ≤ 1000000000000000 ∧ t.c.kn ≤ 1000000000000000 ∧ t.c.vn ≤ 1000000000000000
  ls : t.c.s.size ≤ maxLen
  lk : ∀ s ∈ t.k, s.size ≤ maxLen
  le : -9223372036854775808 ≤ t.c.e ∧ t.c.e ≤ 9223372036854775807
  lq : -9223372036854775808 ≤ t.c.k ∧ t.c.k ≤ 9223372036854775807
/-- A tree that can be read. -/
def Rep (w : World) (t : MT) : Prop := ∀ s, t.sub s → Rd1 w s
theorem Rep.own {w : World} {t : MT} (h : Rep w t) : Rd1 w t := h t t.sub_refl
theorem Rep.part {w : World} {t s : MT} (h : Rep w t) (hs : s ∈ t.v) : Rep w s := fun u hu => h u (MT.sub_v hs hu)
theorem Rep.mk {w : World} {t : MT} (h1 : Rd1 w t) (h2 : ∀ s ∈ t.v, Rep w s) : Rep w t := by
  intro u hu
  rcases MT.sub_cases hu with rfl | ⟨s, hs, hu⟩
  · exact h1
  · exact h2 s hs u hu
theorem Rd1.on {w w' : World} {t : MT} (h : Rd1 w t) (hb : Below w.heap.size w w') : Rd1 w' t :=
  ⟨h.mn, h.mc, h.mo, h.mr.below hb, h.kn, h.kc, h.kr.on hb, h.vn, h.vc, h.vr.on hb, h.lm, h.ls, h.lk, h.le, h.lq⟩
theorem Rep.on {w w' : World} {t : MT} (h : Rep w t) (hb : Below w.heap.size w w') : Rep w' t := fun s hs => (h s hs).on hb

/-- What is left to go through: lists of trees, the one that is gone through first ahead. -/
def outR : List (List MT) → List (Nat × MT)
  | [] => []
  | l :: R => MT.preL l (R.length + 2) ++ outR R
theorem outR_pop (R : List (List MT)) : outR ([] :: R) = outR R := by rw [outR, MT.preL_nil]; rfl
theorem outR_push (t : MT) (l : List MT) (R : List (List MT)) : outR ((t :: l) :: R) = (R.length + 2, t) :: outR (t.v :: l :: R) := by
  rw [outR, outR, outR, MT.preL_cons, MT.pre_eq]
  simp
theorem outR_start (t : MT) : t.pre 1 = (1, t) :: outR [t.v] := by rw [MT.pre_eq, outR, outR]; simp
/-- So many steps are left. -/
def stepsR : List (List MT) → Nat
  | [] => 0
  | l :: R => 2 * MT.nodesL l + 1 + stepsR R
theorem stepsR_pop (R : List (List MT)) : stepsR ([] :: R) = stepsR R + 1 := by rw [stepsR, MT.nodesL_nil]; omega
theorem stepsR_push (t : MT) (l : List MT) (R : List (List MT)) : stepsR ((t :: l) :: R) = stepsR (t.v :: l :: R) + 1 := by
  rw [stepsR, stepsR, stepsR, MT.nodesL_cons, MT.nodes_eq]; omega

/-- A place on the way: a slice of trees, where it lies, and the trees. -/
structure SE where
  ad : Option Addr
  n : Nat
  cap : Nat
  l : List MT
def SE.val (s : SE) : Value := .slice s.ad s.n s.cap
structure SEOk (w : World) (s : SE) : Prop where
  ln : s.l.length = s.n
  lc : s.n ≤ s.cap
  lm : s.n ≤ 1000000000000000
  rd : RdV w s.ad (flat (s.l.map MT.c))
  rp : ∀ t ∈ s.l, Rep w t
theorem SEOk.on {w w' : World} {s : SE} (h : SEOk w s) (hb : Below w.heap.size w w') : SEOk w' s :=
  ⟨h.ln, h.lc, h.lm, h.rd.on hb, fun t ht => (h.rp t ht).on hb⟩
/-- A tree's parts as such a place. -/
def MT.se (t : MT) : SE := ⟨t.c.va, t.c.vn, t.c.vc, t.v⟩
theorem MT.se_ok {w : World} {t : MT} (h : Rep w t) : SEOk w t.se := ⟨h.own.vn, h.own.vc, h.own.lm.2.2, h.own.vr, fun s hs => h.part hs⟩
theorem flat_cons (c : Cel) (l : List Cel) : flat (c :: l) = c.cells ++ flat l := rfl
theorem flat_tail (l : List Cel) : flat l.tail = (flat l).drop 8 := by
  cases l with
  | nil => rfl
  | cons c l => rw [flat_cons, List.tail_cons, List.drop_left' (by rfl)]
end Go.Proofs.YtipibipaocpojaaDoor
