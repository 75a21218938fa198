/- For the law TreeSame: sameness, weights, numbers of nodes, depths of trees by themselves. -/
import Derived.Test.YtipibipaocpojaaDoorQn
import Derived.Test.YtipibipaocpojaaDoorQh
import Derived.Test.YtipibipaocpojaaDoorQm
import Derived.Test.YtipibipaocpojaaDoorQRg
namespace Go.Proofs.YtipibipaocpojaaDoor
open Go.RowKit Go.Shelf
set_option linter.unusedVariables false
set_option linter.unusedSimpArgs false

/-- As many parts as its own cells say. -/
def Wf (t : MT) : Prop := ∀ s, t.sub s → s.v.length = s.c.vn
theorem wf_rep {w : World} {t : MT} (h : Rep w t) : Wf t := fun s hs => (h s hs).vn
theorem Wf.part {t s : MT} (h : Wf t) (hs : s ∈ t.v) : Wf s := fun u hu => h u (MT.sub_v hs hu)
theorem eqS_symm (a b : ByteArray) : eqS a b = eqS b a := by
  cases h : eqS a b
  · exact (eqS_no.2 (fun e => eqS_no.1 h e.symm)).symm
  · rw [eqS_iff.1 h, eqS_iff.2 rfl]
theorem alike_symm (a b : MT) : alikeB a b = alikeB b a := by
  unfold alikeB
  by_cases hk : a.c.k = b.c.k
  · rw [if_pos hk, if_pos hk.symm, ← hk, eqS_symm a.c.s b.c.s, Bool.beq_comm (a := a.c.b)]
    have e1 : decide ((a.c.neg = b.c.neg ∧ a.c.e = b.c.e) ∧ a.m = b.m) = decide ((b.c.neg = a.c.neg ∧ b.c.e = a.c.e) ∧ b.m = a.m) := by
      congr 1; simp only [eq_comm]
    have e2 : decide (a.k = b.k) = decide (b.k = a.k) := by congr 1; simp only [eq_comm]
    have e3 : decide (a.c.vn = b.c.vn) = decide (b.c.vn = a.c.vn) := by congr 1; simp only [eq_comm]
    rw [e1, e2, e3]
  · rw [if_neg hk, if_neg (fun h => hk h.symm)]
theorem alike_len {a b : MT} (ha : a.v.length = a.c.vn) (hb : b.v.length = b.c.vn) (h : alikeB a b = true) : (partsL a).length = (partsL b).length := by
  have hk := alike_kind h
  unfold partsL
  rw [← hk]
  by_cases h6 : a.c.k = 6 ∨ a.c.k = 7
  · rw [if_pos h6, if_pos h6, ha, hb]
    unfold alikeB at h
    rw [if_pos hk] at h
    rcases h6 with h6 | h6
    · simp [h6] at h; exact h
    · simp [h6] at h; exact h.2
  · rw [if_neg h6, if_neg h6]
theorem parts_mem {t s : MT} (h : s ∈ partsL t) : s ∈ t.v := by
  unfold partsL at h
  split at h
  · exact h
  · cases h
theorem same_symm : ∀ a b : MT, Wf a → Wf b → sameM a b = sameM b a := by
  intro a
  refine MT.ind (P := fun a => ∀ b, Wf a → Wf b → sameM a b = sameM b a) ?_ a
  intro a ih b ha hb
  rw [sameM_eq, sameM_eq, alike_symm a b]
  cases h : alikeB b a
  · rfl
  · have hl := alike_len (hb b b.sub_refl) (ha a a.sub_refl) h
    simp only [Bool.true_and]
    have key : ∀ l r : List MT, l.length = r.length → (∀ x ∈ l, x ∈ a.v) → (∀ y ∈ r, y ∈ b.v) → sameLs l r = sameLs r l := by
      intro l
      induction l with
      | nil => intro r hr _ _; rw [List.length_nil] at hr; rw [List.eq_nil_of_length_eq_zero hr.symm]
      | cons x l ihl =>
        intro r hr h1 h2
        cases r with
        | nil => simp at hr
        | cons y r =>
          rw [sameLs_cons, sameLs_cons, ih x (h1 x (by simp)) y (ha.part (h1 x (by simp))) (hb.part (h2 y (by simp))), ihl r (by simpa using hr) (fun z hz => h1 z (by simp [hz])) (fun z hz => h2 z (by simp [hz]))]
    exact key _ _ hl.symm (fun x hx => parts_mem hx) (fun x hx => parts_mem hx)
theorem bare_c {t u : MT} (h : u.bare = t.bare) : u.c.bare = t.c.bare ∧ u.m = t.m ∧ u.k = t.k ∧ u.v.map MT.bare = t.v.map MT.bare := by
  rw [MT.bare_eq, MT.bare_eq] at h
  simpa using h
theorem cel_bare {c d : Cel} (h : c.bare = d.bare) : c.k = d.k ∧ c.b = d.b ∧ c.neg = d.neg ∧ c.mn = d.mn ∧ c.e = d.e ∧ c.s = d.s ∧ c.kn = d.kn ∧ c.vn = d.vn := by
  unfold Cel.bare at h
  simp only [Cel.mk.injEq] at h
  obtain ⟨h1, h2, h3, _, h4, _, h5, h6, _, h7, _, _, h8, _⟩ := h
  exact ⟨h1, h2, h3, h4, h5, h6, h7, h8⟩
theorem same_copy : ∀ t u : MT, u.bare = t.bare → sameM t u = true := by
  intro t
  refine MT.ind (P := fun t => ∀ u, u.bare = t.bare → sameM t u = true) ?_ t
  intro t ih u h
  obtain ⟨hc, hm, hk, hv⟩ := bare_c h
  obtain ⟨c1, c2, c3, c4, c5, c6, c7, c8⟩ := cel_bare hc
  rw [sameM_eq, Bool.and_eq_true]
  refine ⟨?_, ?_⟩
  · unfold alikeB
    rw [if_pos c1.symm, c2, c3, c5, c6, c8, hm, hk, eqS_iff.2 rfl]
    simp
  · unfold partsL
    rw [c1]
    by_cases h6 : t.c.k = 6 ∨ t.c.k = 7
    · rw [if_pos h6, if_pos h6]
      have key : ∀ l r : List MT, (∀ x ∈ l, x ∈ t.v) → r.map MT.bare = l.map MT.bare → sameLs l r = true := by
        intro l
        induction l with
        | nil => intro r _ _; rw [sameLs_nil]
        | cons x l ihl =>
          intro r h1 h2
          cases r with
          | nil => simp at h2
          | cons y r =>
            simp only [List.map_cons, List.cons.injEq] at h2
            rw [sameLs_cons, ih x (h1 x (by simp)) y h2.1, ihl r (fun z hz => h1 z (by simp [hz])) h2.2]
            rfl
      exact key _ _ (fun _ h => h) hv
    · rw [if_neg h6, if_neg h6, sameLs_nil]
/-- A value's parts are all it has. -/
theorem parts_all {w : World} {t : MT} (hR : Rep w t) (h : soundB t = true) : partsL t = t.v := by
  unfold partsL
  by_cases h6 : t.c.k = 6 ∨ t.c.k = 7
  · rw [if_pos h6]
  · rw [if_neg h6]
    have hv := hR.own.vn
    have : t.c.vn = 0 := by
      unfold soundB blankB at h
      split at h
      · simp at h; omega
      · split at h
        · simp at h; omega
        · split at h
          · simp at h; omega
          · split at h
            · simp at h; omega
            · split at h
              · simp at h; omega
              · split at h
                · rename_i h7; exact absurd (.inr h7) h6
                · split at h
                  · rename_i h7; exact absurd (.inl h7) h6
                  · cases h
    exact (List.eq_nil_of_length_eq_zero (by omega)).symm
theorem same_nodes {w : World} : ∀ a b : MT, Rep w a → Rep w b → (∀ s, a.sub s → soundB s = true) → (∀ s, b.sub s → soundB s = true) → sameM a b = true → a.nodes = b.nodes := by
  intro a
  refine MT.ind (P := fun a => ∀ b, Rep w a → Rep w b → (∀ s, a.sub s → soundB s = true) → (∀ s, b.sub s → soundB s = true) → sameM a b = true → a.nodes = b.nodes) ?_ a
  intro a ih b ha hb sa sb h
  rw [sameM_eq, Bool.and_eq_true] at h
  have hl := alike_len ha.own.vn hb.own.vn h.1
  have h2 := h.2
  rw [parts_all ha (sa a a.sub_refl), parts_all hb (sb b b.sub_refl)] at hl h2
  rw [MT.nodes_eq, MT.nodes_eq]
  congr 1
  have key : ∀ l r : List MT, l.length = r.length → (∀ x ∈ l, x ∈ a.v) → (∀ y ∈ r, y ∈ b.v) → sameLs l r = true → MT.nodesL l = MT.nodesL r := by
    intro l
    induction l with
    | nil => intro r hr _ _ _; rw [List.length_nil] at hr; rw [List.eq_nil_of_length_eq_zero hr.symm]
    | cons x l ihl =>
      intro r hr h1 h2 h3
      cases r with
      | nil => simp at hr
      | cons y r =>
        rw [sameLs_cons, Bool.and_eq_true] at h3
        rw [MT.nodesL_cons, MT.nodesL_cons, ih x (h1 x (by simp)) y (ha.part (h1 x (by simp))) (hb.part (h2 y (by simp))) (fun s hs => sa s (MT.sub_v (h1 x (by simp)) hs)) (fun s hs => sb s (MT.sub_v (h2 y (by simp)) hs)) h3.1,
          ihl r (by simpa using hr) (fun z hz => h1 z (by simp [hz])) (fun z hz => h2 z (by simp [hz])) h3.2]
  exact key _ _ hl (fun _ h => h) (fun _ h => h) h2
/-- Weights and depths do not hang on where they are counted from. -/
theorem wt_shift : ∀ (t : MT) (d e : Nat), wtL (t.pre d) = wtL (t.pre e) := by
  intro t
  refine MT.ind (P := fun t => ∀ d e, wtL (t.pre d) = wtL (t.pre e)) ?_ t
  intro t ih d e
  rw [MT.pre_eq, MT.pre_eq]
  have key : ∀ l : List MT, (∀ x ∈ l, x ∈ t.v) → wtL (MT.preL l (d + 1)) = wtL (MT.preL l (e + 1)) := by
    intro l
    induction l with
    | nil => intro _; rw [MT.preL_nil, MT.preL_nil]
    | cons x l ihl =>
      intro h
      rw [MT.preL_cons, MT.preL_cons, wtL_app, wtL_app, ih x (h x (by simp)) (d + 1) (e + 1), ihl (fun y hy => h y (by simp [hy]))]
  have h1 : ∀ (k : Nat) (l : List (Nat × MT)), wtL ((k, t) :: l) = wt t.c + wtL l := fun k l => by
    rw [show (k, t) :: l = [(k, t)] ++ l from rfl, wtL_app]; simp [wtL]
  rw [h1, h1, key t.v (fun _ h => h)]
theorem deep_shift : ∀ (t : MT) (d : Nat), deepL (t.pre (d + 1)) = deepL (t.pre d) + 1 := by
  intro t
  refine MT.ind (P := fun t => ∀ d, deepL (t.pre (d + 1)) = deepL (t.pre d) + 1) ?_ t
  intro t ih d
  rw [MT.pre_eq, MT.pre_eq]
  have h1 : ∀ (k : Nat) (l : List (Nat × MT)), deepL ((k, t) :: l) = max k (deepL l) := fun k l => by
    rw [show (k, t) :: l = [(k, t)] ++ l from rfl, deepL_app]; simp [deepL]
  have key : ∀ l : List MT, (∀ x ∈ l, x ∈ t.v) → deepL (MT.preL l (d + 1 + 1)) = (if l = [] then 0 else deepL (MT.preL l (d + 1)) + 1) := by
    intro l
    induction l with
    | nil => intro _; rw [MT.preL_nil]; rfl
    | cons x l ihl =>
      intro h
      rw [MT.preL_cons, MT.preL_cons, deepL_app, deepL_app, ih x (h x (by simp)) (d + 1), ihl (fun y hy => h y (by simp [hy])), if_neg (show ¬ (x :: l = []) by simp)]
      by_cases hl : l = []
      · rw [if_pos hl, hl, MT.preL_nil]; simp [deepL]
      · rw [if_neg hl]; omega
  rw [h1, h1, key t.v (fun _ h => h)]
  by_cases hv : t.v = []
  · rw [if_pos hv, hv, MT.preL_nil]; simp [deepL]
  · rw [if_neg hv]; omega
end Go.Proofs.YtipibipaocpojaaDoor
/- For the law TreeSame: its nine comparisons by themselves, of any two trees. -/
namespace Go.Proofs.YtipibipaocpojaaDoor
open Go.RowKit Go.Shelf
set_option linter.unusedVariables false
set_option linter.unusedSimpArgs false

theorem arr_same (va : Option Addr) (n cap : Nat) (vb : Option Addr) (capb : Nat) (l r : List MT) : sameM (arrT va n cap l) (arrT vb n capb r) = sameLs l r := by
  rw [sameM_eq]; simp [alikeB, partsL, arrT, arrC, MT.c, MT.v]
theorem arr_more (va : Option Addr) (n cap : Nat) (vb : Option Addr) (m capb : Nat) (l r : List MT) (h : n ≠ m) : sameM (arrT va n cap l) (arrT vb m capb r) = false := by
  rw [sameM_eq]; simp [alikeB, arrT, arrC, MT.c, h]
theorem obj_name (ka : Option Addr) (kn kc : Nat) (va : Option Addr) (n cap : Nat) (ka' : Option Addr) (kn' kc' : Nat) (va' : Option Addr) (n' cap' : Nat) (ks ks' : List ByteArray) (l r : List MT) (h : ks ≠ ks') : sameM (objT ka kn kc va n cap ks l) (objT ka' kn' kc' va' n' cap' ks' r) = false := by
  rw [sameM_eq]; simp [alikeB, objT, objC7, MT.c, MT.k, h]
theorem pair_same {w : World} {t u : MT} (ht : Rep w t) (hu : Rep w u) : sameLs [t, u] [u, t] = sameM t u := by
  rw [sameLs_cons, sameLs_cons, sameLs_nil, same_symm u t (wf_rep hu) (wf_rep ht)]
  cases sameM t u <;> rfl
theorem arr_wt (va : Option Addr) (n cap : Nat) (t u : MT) : wtL ((arrT va n cap [t, u]).pre 1) = 1 + wtL (t.pre 1) + wtL (u.pre 1) := by
  rw [MT.pre_eq, show (arrT va n cap [t, u]).v = [t, u] from rfl, MT.preL_cons, MT.preL_cons, MT.preL_nil, List.append_nil]
  rw [show (1, arrT va n cap [t, u]) :: (t.pre (1 + 1) ++ u.pre (1 + 1)) = [(1, arrT va n cap [t, u])] ++ (t.pre (1 + 1) ++ u.pre (1 + 1)) from rfl, wtL_app, wtL_app, wt_shift t (1 + 1) 1, wt_shift u (1 + 1) 1]
  have : wtL [(1, arrT va n cap [t, u])] = 1 := rfl
  rw [this]; omega
theorem arr_deep (va : Option Addr) (n cap : Nat) (t u : MT) : deepL ((arrT va n cap [t, u]).pre 1) = 1 + max (deepL (t.pre 1)) (deepL (u.pre 1)) := by
  rw [MT.pre_eq, show (arrT va n cap [t, u]).v = [t, u] from rfl, MT.preL_cons, MT.preL_cons, MT.preL_nil, List.append_nil, deepL_cons, deepL_app, deep_shift t 1, deep_shift u 1]
  simp only
  omega
theorem arr_nodes (va : Option Addr) (n cap : Nat) (l : List MT) : (arrT va n cap l).nodes = 1 + MT.nodesL l := by rw [MT.nodes_eq]; rfl
theorem obj_nodes (ka : Option Addr) (kn kc : Nat) (va : Option Addr) (n cap : Nat) (ks : List ByteArray) (t : MT) : (objT ka kn kc va n cap ks [t]).nodes = 1 + t.nodes := by
  rw [MT.nodes_eq, show (objT ka kn kc va n cap ks [t]).v = [t] from rfl, MT.nodesL_cons, MT.nodesL_nil]; rfl
/-- An object around a tree is not that tree. -/
theorem obj_not {w : World} {ka : Option Addr} {kn kc : Nat} {va : Option Addr} {n cap : Nat} {ks : List ByteArray} {t : MT} (hx : Rep w (objT ka kn kc va n cap ks [t])) (ht : Rep w t) (sx : soundB (objT ka kn kc va n cap ks [t]) = true) (st : ∀ s, t.sub s → soundB s = true) : sameM (objT ka kn kc va n cap ks [t]) t = false := by
  cases h : sameM (objT ka kn kc va n cap ks [t]) t
  · rfl
  · have := same_nodes _ _ hx ht (fun s hs => by
      rcases MT.sub_cases hs with rfl | ⟨u, hu, h2⟩
      · exact sx
      · rw [show (objT ka kn kc va n cap ks [t]).v = [t] from rfl, List.mem_singleton] at hu
        subst hu; exact st s h2) st h
    rw [obj_nodes] at this
    omega
end Go.Proofs.YtipibipaocpojaaDoor
/- For the law TreeSame: steps that its last region wants; what a copy keeps; bounds. -/
namespace Go.Proofs.YtipibipaocpojaaDoor
open Go.RowKit Go.Shelf
set_option linter.unusedVariables false
set_option linter.unusedSimpArgs false

theorem ts_rng {w : World} {b : Nat} {c : Cel} (h : BoxT w b c) : w.rangeAt b 0 c.cells := fun j v hv => by
  unfold BoxT at h
  simp [World.cell?, h, hv]
section
variable {P : Program} {ops : Array Oper} {Q : Exit → Act → World → Prop} {S : World → Prop}
theorem ts_max (w : World) (ev : Operand → Value) (o : Oper) (x y : Operand) (ts : Array TypeId) (A B : Nat) (ho : o.op = .call { callee := .builtin .max, args := #[x, y], argTypes := ts }) (hx : ev x = .int .i64 (A : Int)) (hy : ev y = .int .i64 (B : Int)) :
    (execOp ev o).run P w = .ok (.value (.int .i64 (((max A B) : Nat) : Int))) w := by
  simp [execOp, ho, hx, hy, resolve, go_sem]
  omega
/-- An operation that alone may come up, to a value and a world. -/
theorem rg_val {fuel : Nat} {L : Array Bool} {a : Act} {w : World} (i : Nat) (o : Oper) (v : Value) (w' : World) (dd : Option Tmp) (hi : ops[i]? = some o) (hdd : o.dst = dd) (hr : Region.ready .any ops L = [i]) (hw : Region.wanted o (yielded ops a.tmps) = true)
    (hx : (execOp a.eval o).run P w = .ok (.value v) w') (h0 : S w') (h : wpAnyH P .any ops Q S fuel (L.setIfInBounds i true) (a.put dd v) w') : wpAnyH P .any ops Q S (fuel + 1) L a w := by
  subst hdd
  refine wpAnyH_all hr (by simp) (fun j hj => ?_)
  rw [List.mem_singleton.1 hj]
  unfold wpOp
  simp only [hi]
  rw [if_pos hw]
  refine .inl ?_
  unfold Oper.wp
  rw [hx]
  exact ⟨h0, h⟩
end
theorem nums_copy : ∀ t u : MT, u.bare = t.bare → NumsOk t → NumsOk u := by
  intro t
  refine MT.ind (P := fun t => ∀ u, u.bare = t.bare → NumsOk t → NumsOk u) ?_ t
  intro t ih u h hn
  obtain ⟨hc, hm, hk, hv⟩ := bare_c h
  obtain ⟨c1, c2, c3, c4, c5, c6, c7, c8⟩ := cel_bare hc
  refine NumsOk.mk (fun h3 => ?_) ?_
  · rw [c3, c5, hm]; exact hn t t.sub_refl (c1 ▸ h3)
  · have key : ∀ l r : List MT, (∀ x ∈ l, x ∈ t.v) → r.map MT.bare = l.map MT.bare → ∀ y ∈ r, NumsOk y := by
      intro l
      induction l with
      | nil => intro r _ h2 y hy; simp at h2; subst h2; cases hy
      | cons x l ihl =>
        intro r h1 h2 y hy
        cases r with
        | nil => cases hy
        | cons z r =>
          simp only [List.map_cons, List.cons.injEq] at h2
          rcases List.mem_cons.1 hy with rfl | hy
          · exact ih x (h1 x (by simp)) _ h2.1 (hn.part (h1 x (by simp)))
          · exact ihl r (fun z hz => h1 z (by simp [hz])) h2.2 y hy
    exact key _ _ (fun _ h => h) hv
theorem wtL_le (k : Nat) : ∀ l : List (Nat × MT), (∀ x ∈ l, wt x.2.c ≤ k) → wtL l ≤ k * l.length := by
  intro l
  induction l with
  | nil => intro _; exact Nat.zero_le _
  | cons x l ih =>
    intro h
    have h1 := h x (by simp)
    have h2 := ih (fun y hy => h y (by simp [hy]))
    rw [show x :: l = [x] ++ l from rfl, wtL_app]
    have h3 : wtL [x] = wt x.2.c := by simp [wtL]
    rw [h3, List.length_append, Nat.mul_add]
    simp
    omega
theorem wt_sound {w : World} {t : MT} (hR : Rd1 w t) (h : soundB t = true) : wt t.c ≤ 10000 := by
  unfold wt
  split
  · rename_i h3
    have := hR.mn
    unfold soundB at h
    simp [h3] at h
    have h4 := chkB_bounds h.1
    omega
  · split
    · rename_i h3 h4
      unfold soundB at h
      rcases h4 with h4 | h4
      · simp [h4] at h; omega
      · simp [h4] at h; omega
    · omega
end Go.Proofs.YtipibipaocpojaaDoor
/- For the law TreeSame: what its last region's calls answer. -/
namespace Go.Proofs.YtipibipaocpojaaDoor
open Go.RowKit Go.Shelf
set_option linter.unusedVariables false
set_option linter.unusedSimpArgs false

/-- A tree that Made makes, four deep at most. -/
structure Mk4 (W : World) (t : MT) : Prop where
  rep : Rep W t
  fit : Fit 4 t
theorem Mk4.on {W W' : World} {t : MT} (h : Mk4 W t) (hb : Below W.heap.size W W') : Mk4 W' t := ⟨h.rep.on hb, h.fit⟩
theorem Mk4.check {W : World} {t : MT} (h : Mk4 W t) : checkB t = true := fit_check h.fit (by decide)
theorem Mk4.nums {W : World} {t : MT} (h : Mk4 W t) : NumsOk t := check_nums h.check
theorem Mk4.nodes {W : World} {t : MT} (h : Mk4 W t) : t.nodes ≤ 256 := fit_nodes h.fit
theorem Mk4.sound {W : World} {t : MT} (h : Mk4 W t) : ∀ s, t.sub s → soundB s = true := (check_sound h.check).2
theorem Mk4.wt {W : World} {t : MT} (h : Mk4 W t) : wtL (t.pre 1) ≤ 2560000 := by
  have h1 := wtL_le 10000 (t.pre 1) (fun x hx => by
    have hs : t.sub x.2 := MT.mem_pre_shift t 1 0 x.2 ⟨x.1, hx⟩
    exact wt_sound (h.rep x.2 hs) (fit_pre h.fit x hx).2)
  rw [MT.pre_len] at h1
  have := h.nodes
  omega
theorem deepL_le (k : Nat) : ∀ l : List (Nat × MT), (∀ x ∈ l, x.1 ≤ k) → deepL l ≤ k := by
  intro l
  induction l with
  | nil => intro _; exact Nat.zero_le _
  | cons x l ih =>
    intro h
    rw [deepL_cons]
    exact Nat.max_le.2 ⟨h x (by simp), ih (fun y hy => h y (by simp [hy]))⟩
theorem Mk4.deep {W : World} {t : MT} (h : Mk4 W t) : deepL (t.pre 1) ≤ 256 := by
  have := deepL_le 5 (t.pre 1) (fun x hx => (fit_pre h.fit x hx).1)
  omega
section
variable {W : World} {t u : MT} (ht : Mk4 W t) (hu : Mk4 W u)
include ht
theorem ts_copy : Calls Tryd.prog 18 #[t.c.val] W (CopyPost t W) := copy_any t W (sml_of ht.rep ht.check) ht.rep
theorem ts_kept (u2 : MT) (h2 : Rep W u2) (hb : u2.bare = t.bare) : Calls Tryd.prog 13 #[t.c.val, u2.c.val] W (BoolBelow true W) := by
  have := treeSame_any t u2 W ht.rep h2 ht.nums (nums_copy t u2 hb ht.nums) (by have := ht.nodes; omega)
  rwa [same_copy t u2 hb] at this
theorem ts_obj {ka : Option Addr} {kn kc : Nat} {va : Option Addr} {n cap : Nat} {ks : List ByteArray} (hx : Rep W (objT ka kn kc va n cap ks [t])) (sx : soundB (objT ka kn kc va n cap ks [t]) = true) : Calls Tryd.prog 13 #[(objT ka kn kc va n cap ks [t]).c.val, t.c.val] W (BoolBelow false W) := by
  have := treeSame_any _ t W hx ht.rep (NumsOk.mk (fun h => by cases h) (fun s hs => by rw [List.mem_singleton.1 hs]; exact ht.nums)) ht.nums (by rw [obj_nodes]; have := ht.nodes; omega)
  rwa [obj_not hx ht.rep sx ht.sound] at this
theorem ts_names {ka : Option Addr} {kn kc : Nat} {va : Option Addr} {n cap : Nat} {ks : List ByteArray} {ka' : Option Addr} {kn' kc' : Nat} {va' : Option Addr} {n' cap' : Nat} {ks' : List ByteArray} (hx : Rep W (objT ka kn kc va n cap ks [t])) (hy : Rep W (objT ka' kn' kc' va' n' cap' ks' [t])) (hk : ks ≠ ks') : Calls Tryd.prog 13 #[(objT ka kn kc va n cap ks [t]).c.val, (objT ka' kn' kc' va' n' cap' ks' [t]).c.val] W (BoolBelow false W) := by
  have := treeSame_any _ _ W hx hy (NumsOk.mk (fun h => by cases h) (fun s hs => by rw [List.mem_singleton.1 hs]; exact ht.nums)) (NumsOk.mk (fun h => by cases h) (fun s hs => by rw [List.mem_singleton.1 hs]; exact ht.nums)) (by rw [obj_nodes]; have := ht.nodes; omega)
  rwa [obj_name _ _ _ _ _ _ _ _ _ _ _ _ _ _ _ _ hk] at this
theorem ts_objn {ka : Option Addr} {kn kc : Nat} {va : Option Addr} {n cap : Nat} {ks : List ByteArray} (hx : Rep W (objT ka kn kc va n cap ks [t])) : Calls Tryd.prog 19 #[(objT ka kn kc va n cap ks [t]).c.val] W (fun e w' => e = .returned (.int .i64 ((1 + t.nodes : Nat) : Int)) ∧ Below W.heap.size W w') := by
  have := nodes_any _ W hx (by rw [obj_nodes]; have := ht.nodes; omega)
  rwa [obj_nodes] at this
include hu
theorem nums_pair {va : Option Addr} {n cap : Nat} : NumsOk (arrT va n cap [t, u]) := NumsOk.mk (fun h => by cases h) (fun s hs => by
  rcases List.mem_cons.1 hs with rfl | hs
  · exact ht.nums
  · rw [List.mem_singleton.1 hs]; exact hu.nums)
theorem pair_nodes {va : Option Addr} {n cap : Nat} : (arrT va n cap [t, u]).nodes ≤ 513 := by
  have h1 := ht.nodes; have h2 := hu.nodes
  rw [arr_nodes, MT.nodesL_cons, MT.nodesL_cons, MT.nodesL_nil]; omega
theorem ts_two : Calls Tryd.prog 13 #[t.c.val, u.c.val] W (BoolBelow (sameM t u) W) := treeSame_any t u W ht.rep hu.rep ht.nums hu.nums (by have := ht.nodes; omega)
theorem ts_two' : Calls Tryd.prog 13 #[u.c.val, t.c.val] W (BoolBelow (sameM t u) W) := by
  have := treeSame_any u t W hu.rep ht.rep hu.nums ht.nums (by have := hu.nodes; omega)
  rwa [same_symm u t (wf_rep hu.rep) (wf_rep ht.rep)] at this
theorem ts_pairs {va : Option Addr} {cap : Nat} {vb : Option Addr} {capb : Nat} (ha : Rep W (arrT va 2 cap [t, u])) (hb : Rep W (arrT vb 2 capb [u, t])) : Calls Tryd.prog 13 #[(arrT va 2 cap [t, u]).c.val, (arrT vb 2 capb [u, t]).c.val] W (BoolBelow (sameM t u) W) := by
  have := treeSame_any _ _ W ha hb (nums_pair ht hu) (nums_pair hu ht) (by have := pair_nodes ht hu (va := va) (n := 2) (cap := cap); omega)
  rwa [arr_same, pair_same ht.rep hu.rep] at this
theorem ts_more {va : Option Addr} {cap : Nat} {g : Nat} (ha : Rep W (arrT va 2 cap [t, u])) (hg : RdV W (some ⟨g, 0, none⟩) t.c.cells) : Calls Tryd.prog 13 #[(arrT va 2 cap [t, u]).c.val, (arrC (some ⟨g, 0, none⟩) 1 1).val] W (BoolBelow false W) := by
  have hr : Rep W (arrT (some ⟨g, 0, none⟩) 1 1 [t]) := arrT_rep rfl (Nat.le_refl _) (by decide) (by simpa [flat] using hg) (fun s hs => by rw [List.mem_singleton.1 hs]; exact ht.rep)
  have := treeSame_any _ _ W ha hr (nums_pair ht hu) (NumsOk.mk (fun h => by cases h) (fun s hs => by rw [List.mem_singleton.1 hs]; exact ht.nums)) (by have := pair_nodes ht hu (va := va) (n := 2) (cap := cap); omega)
  rwa [arr_more _ _ _ _ _ _ _ _ (by decide)] at this
theorem ts_weight {va : Option Addr} {cap : Nat} (ha : Rep W (arrT va 2 cap [t, u])) : Calls Tryd.prog 16 #[(arrT va 2 cap [t, u]).c.val] W (fun e w' => e = .returned (.int .i64 ((1 + wtL (t.pre 1) + wtL (u.pre 1) : Nat) : Int)) ∧ Below W.heap.size W w') := by
  have := weight_any _ W ha (by have := pair_nodes ht hu (va := va) (n := 2) (cap := cap); omega) (by rw [arr_wt]; have := ht.wt; have := hu.wt; omega)
  rwa [arr_wt] at this
theorem ts_depth {va : Option Addr} {cap : Nat} (ha : Rep W (arrT va 2 cap [t, u])) : Calls Tryd.prog 15 #[(arrT va 2 cap [t, u]).c.val] W (fun e w' => e = .returned (.int .i64 ((1 + (max (deepL (t.pre 1)) (deepL (u.pre 1))) : Nat) : Int)) ∧ Below W.heap.size W w') := by
  have := depth_any _ W ha (by have := pair_nodes ht hu (va := va) (n := 2) (cap := cap); omega)
  rwa [arr_deep] at this
end
end Go.Proofs.YtipibipaocpojaaDoor
/- For the law TreeSame: memory that is made in a row. -/
namespace Go.Proofs.YtipibipaocpojaaDoor
open Go.RowKit Go.Shelf
set_option linter.unusedVariables false
set_option linter.unusedSimpArgs false

def allocs : World → List Obj → World
  | w, [] => w
  | w, o :: l => allocs (w.alloc o) l
theorem allocs_below : ∀ (l : List Obj) (w : World), Below w.heap.size w (allocs w l)
  | [], w => Below.refl _ _
  | o :: l, w => by
    have h := allocs_below l (w.alloc o)
    exact ((Below.refl w.heap.size w).alloc (Nat.le_refl _) o).trans (h.mono (by simp))
theorem allocs_at : ∀ (l : List Obj) (w : World) (k : Nat) (o : Obj), l[k]? = some o → (allocs w l).heap[w.heap.size + k]? = some o
  | [], w, k, o, h => by simp at h
  | x :: l, w, 0, o, h => by
    simp at h; subst h
    exact ((allocs_below l (w.alloc x)).block _ (by simp)).trans (heap_alloc_new w x)
  | x :: l, w, k + 1, o, h => by
    have := allocs_at l (w.alloc x) k o (by simpa using h)
    rw [World.size_alloc] at this
    rw [← this]
    show (allocs (w.alloc x) l).heap[w.heap.size + (k + 1)]? = _
    rw [show w.heap.size + (k + 1) = w.heap.size + 1 + k by omega]
theorem rdv_blk {w : World} {b : Nat} {vs : List Value} {e : TypeId} (h : w.heap[b]? = some (.cells vs.toArray e)) : RdV w (some ⟨b, 0, none⟩) vs := BlkV.all (e := e) (by unfold BlkV; exact h)
/-- What TreeSame makes. -/
def tsL (g : Nat) (c d : Cel) : List Obj :=
  [.cells c.cells.toArray 28, .cells d.cells.toArray 28,
   .cells (flat [c, d]).toArray 28, .cells (arrC (some ⟨g + 1 + 1, 0, none⟩) 2 2).cells.toArray 28,
   .cells (flat [d, c]).toArray 28, .cells (arrC (some ⟨g + 1 + 1 + 1 + 1, 0, none⟩) 2 2).cells.toArray 28,
   .cells (sv [⟨#[97]⟩]).toArray 9, .cells (flat [c]).toArray 28,
   .cells (objC7 (some ⟨g + 1 + 1 + 1 + 1 + 1 + 1, 0, none⟩) 1 1 (some ⟨g + 1 + 1 + 1 + 1 + 1 + 1 + 1, 0, none⟩) 1 1).cells.toArray 28,
   .cells (sv [⟨#[98]⟩]).toArray 9, .cells (flat [c]).toArray 28,
   .cells (objC7 (some ⟨g + 1 + 1 + 1 + 1 + 1 + 1 + 1 + 1 + 1, 0, none⟩) 1 1 (some ⟨g + 1 + 1 + 1 + 1 + 1 + 1 + 1 + 1 + 1 + 1, 0, none⟩) 1 1).cells.toArray 28]
def tsA (g : Nat) (t u : MT) : MT := arrT (some ⟨g + 1 + 1, 0, none⟩) 2 2 [t, u]
def tsB (g : Nat) (t u : MT) : MT := arrT (some ⟨g + 1 + 1 + 1 + 1, 0, none⟩) 2 2 [u, t]
def tsX (g : Nat) (t : MT) : MT := objT (some ⟨g + 1 + 1 + 1 + 1 + 1 + 1, 0, none⟩) 1 1 (some ⟨g + 1 + 1 + 1 + 1 + 1 + 1 + 1, 0, none⟩) 1 1 [⟨#[97]⟩] [t]
def tsY (g : Nat) (t : MT) : MT := objT (some ⟨g + 1 + 1 + 1 + 1 + 1 + 1 + 1 + 1 + 1, 0, none⟩) 1 1 (some ⟨g + 1 + 1 + 1 + 1 + 1 + 1 + 1 + 1 + 1 + 1, 0, none⟩) 1 1 [⟨#[98]⟩] [t]
structure TsW (g : Nat) (t u : MT) (W : World) : Prop where
  mt : Mk4 W t
  mu : Mk4 W u
  a : Rep W (tsA g t u)
  b : Rep W (tsB g t u)
  x : Rep W (tsX g t)
  y : Rep W (tsY g t)
  b5 : BoxT W g t.c
  b6 : BoxT W (g + 1) u.c
  b7 : BoxT W (g + 1 + 1 + 1) (tsA g t u).c
  b8 : BoxT W (g + 1 + 1 + 1 + 1 + 1) (tsB g t u).c
  b9 : BoxT W (g + 1 + 1 + 1 + 1 + 1 + 1 + 1 + 1) (tsX g t).c
  b10 : BoxT W (g + 1 + 1 + 1 + 1 + 1 + 1 + 1 + 1 + 1 + 1 + 1) (tsY g t).c
theorem TsW.on {g : Nat} {t u : MT} {W W' : World} (h : TsW g t u W) (hb : Below W.heap.size W W') : TsW g t u W' :=
  ⟨h.mt.on hb, h.mu.on hb, h.a.on hb, h.b.on hb, h.x.on hb, h.y.on hb, h.b5.on (hb.block _ h.b5.lt), h.b6.on (hb.block _ h.b6.lt), h.b7.on (hb.block _ h.b7.lt), h.b8.on (hb.block _ h.b8.lt), h.b9.on (hb.block _ h.b9.lt), h.b10.on (hb.block _ h.b10.lt)⟩
theorem two_mem {P : MT → Prop} {t u : MT} (h1 : P t) (h2 : P u) : ∀ s ∈ [t, u], P s := fun s hs => by
  rcases List.mem_cons.1 hs with rfl | hs
  · exact h1
  · rw [List.mem_singleton.1 hs]; exact h2
theorem one_mem {α : Type} {P : α → Prop} {t : α} (h1 : P t) : ∀ s ∈ [t], P s := fun s hs => by rw [List.mem_singleton.1 hs]; exact h1
theorem tsW_new {t u : MT} {w : World} (ht : Mk4 w t) (hu : Mk4 w u) : TsW w.heap.size t u (allocs w (tsL w.heap.size t.c u.c)) := by
  have hb := allocs_below (tsL w.heap.size t.c u.c) w
  have at' := fun k o h => allocs_at (tsL w.heap.size t.c u.c) w k o h
  have ht' := ht.on hb
  have hu' := hu.on hb
  exact ⟨ht', hu',
    arrT_rep rfl (Nat.le_refl _) (by decide) (rdv_blk (at' 2 _ rfl)) (two_mem ht'.rep hu'.rep),
    arrT_rep rfl (Nat.le_refl _) (by decide) (rdv_blk (at' 4 _ rfl)) (two_mem hu'.rep ht'.rep),
    objT_rep rfl (Nat.le_refl _) (by decide) (rdv_blk (at' 6 _ rfl)) (one_mem (by decide)) rfl (Nat.le_refl _) (by decide) (rdv_blk (at' 7 _ rfl)) (one_mem ht'.rep),
    objT_rep rfl (Nat.le_refl _) (by decide) (rdv_blk (at' 9 _ rfl)) (one_mem (by decide)) rfl (Nat.le_refl _) (by decide) (rdv_blk (at' 10 _ rfl)) (one_mem ht'.rep),
    at' 0 _ rfl, at' 1 _ rfl, at' 3 _ rfl, at' 5 _ rfl, at' 8 _ rfl, at' 11 _ rfl⟩
theorem wp_at {P : Program} {C : Code} {Q : Exit → Act → World → Prop} {a : Act} {W W' : World} (h : W = W') (H : C.wp P Q a W') : C.wp P Q a W := h ▸ H
end Go.Proofs.YtipibipaocpojaaDoor
/- The walk of the law TreeSame (tools/genta.py prints it: FULL=1). -/
namespace Go.Proofs.YtipibipaocpojaaDoor
open Go.RowKit Go.Shelf
set_option linter.unusedVariables false
set_option linter.unusedSimpArgs false
section
variable {P : Program} {ops : Array Oper} {Q : Exit → Act → World → Prop} {S : World → Prop}
theorem ts_eqB (w : World) (ev : Operand → Value) (o : Oper) (ty ty' : TypeId) (x y : Operand) (b : Bool) (hu : P.underlying ty = some .bool) (ho : o.op = .binOp .eql ty x y ty') (hx : ev x = .bool b) (hy : ev y = .bool b) :
    (execOp ev o).run P w = .ok (.value (.bool true)) w := by
  have h1 : (Op.equal ty (.bool b) (.bool b)).run P w = .ok true w := by
    show (Op.equalIn (_ + 1) ty (.bool b) (.bool b)).run P w = _
    rw [Op.equalIn]
    simp [Sem.run_bind, run_underlying hu]
  have h2 : (binOp .eql ty (.bool b) (.bool b)).run P w = .ok (.bool true) w := by
    show (do pure (Value.bool (← Op.equal ty (.bool b) (.bool b)))).run P w = _
    simp [Sem.run_bind, h1, Result.andThen]
  simp [execOp, ho, hx, hy, go_sem, h2, Result.andThen]
theorem ts_eqI (w : World) (ev : Operand → Value) (o : Oper) (ty ty' : TypeId) (x y : Operand) (k : IntKind) (n : Int) (ho : o.op = .binOp .eql ty x y ty') (hx : ev x = .int k n) (hy : ev y = .int k n) :
    (execOp ev o).run P w = .ok (.value (.bool true)) w := by
  simp [execOp, ho, hx, hy, go_sem]
theorem ts_eqS (w : World) (ev : Operand → Value) (o : Oper) (ty ty' : TypeId) (x y : Operand) (s : ByteArray) (ho : o.op = .binOp .eql ty x y ty') (hx : ev x = .string s) (hy : ev y = .string s) :
    (execOp ev o).run P w = .ok (.value (.bool true)) w := by
  simp [execOp, ho, hx, hy, go_sem, binOp, Op.stringOp]
/-- Nothing but its normal end. -/
def TsQ (R : Act → World → Prop) (e : Exit) (a : Act) (w : World) : Prop := match e with | .normal => R a w | _ => False
theorem ts_norm {C : Code} {a : Act} {w : World} (h : ∀ J : Act → World → Prop, (∀ a' w', Q .normal a' w' → J a' w') → C.wp P (TsQ J) a w) : C.wp P Q a w :=
  Code.wp_mono (fun e a' w' hr => by cases e <;> first | exact hr | exact absurd hr id) (h (fun a w => Q .normal a w) (fun _ _ h => h))
end
set_option maxHeartbeats 60000000 in
set_option maxRecDepth 100000 in
theorem treeSame_walk (ad : Option Addr) (n cap : Nat) (xs : List Int) (ad' : Option Addr) (n' cap' : Nat) (ys : List Int) (w : World) (hn : xs.length = n) (hcap : n ≤ cap) (hx : ∀ x ∈ xs, -9223372036854775808 ≤ x ∧ x ≤ 9223372036854775807) (hr : RdV w ad (xs.map iz)) (hn' : ys.length = n') (hcap' : n' ≤ cap') (hx' : ∀ x ∈ ys, -9223372036854775808 ≤ x ∧ x ≤ 9223372036854775807) (hr' : RdV w ad' (ys.map iz)) (hT : UT w) :
    Calls Tryd.prog 6 #[.slice ad n cap, .slice ad' n' cap'] w (BoolBelow true w) := by
  have KAW := Lib.hid (fun W (h : Below w.heap.size w W) => awake5_any W (hT.below h))
  by_cases h60 : n ≤ 60
  case neg =>
    have h60z : (60 : Int) < (n : Int) := by omega
    go_enter Tryd.func6, Tryd.ntmps6
    go_wp2_with fail
    refine (KAW.out _ (Below.refl _ _)).mono ?_
    rintro r w1 ⟨rfl, h1⟩
    have HF := Lib.hid h1
    clear h1
    go_wp2
    go_ret
    exact BoolBelow.mk rfl HF.out
  by_cases h60' : n' ≤ 60
  case neg =>
    have h60z : (60 : Int) < (n' : Int) := by omega
    have h60y : ¬ (60 : Int) < (n : Int) := by omega
    go_enter Tryd.func6, Tryd.ntmps6
    go_wp2_with fail
    refine (KAW.out _ (Below.refl _ _)).mono ?_
    rintro r w1 ⟨rfl, h1⟩
    have HF := Lib.hid h1
    clear h1
    go_wp2
    go_ret
    exact BoolBelow.mk rfl HF.out
  have h60z : ¬ (60 : Int) < (n : Int) := by omega
  have h60z' : ¬ (60 : Int) < (n' : Int) := by omega
  have KM := Lib.hid (fun W (h : Below w.heap.size w W) => Made_any 4 (by decide) (.slice ad n cap) W (IntsV.on (⟨ad, n, cap, xs, rfl, hr, hn, hcap, by omega, hx⟩ : IntsV w (.slice ad n cap)) h))
  have KM' := Lib.hid (fun W (h : Below w.heap.size w W) => Made_any 4 (by decide) (.slice ad' n' cap') W (IntsV.on (⟨ad', n', cap', ys, rfl, hr', hn', hcap', by omega, hx'⟩ : IntsV w (.slice ad' n' cap')) h))
  have HUT := Lib.hid (fun W (h : Below w.heap.size w W) => hT.below h)
  clear hT hr hx hn hr' hx' hn'
  go_enter Tryd.func6, Tryd.ntmps6
  go_wp2_with fail
  refine (KM.out _ (by first | exact Below.refl _ _ | exact below_drew (Below.refl _ _))).mono ?_
  rintro r w1 ⟨t, rfl, htr, htf, hb1⟩
  have HB1 := Lib.hid hb1
  have HTR := Lib.hid htr
  have HTF := Lib.hid htf
  obtain ⟨ct, hct⟩ : ∃ c, t.c = c := ⟨_, rfl⟩
  rw [hct]
  have HCT := Lib.hid hct
  clear htr htf hb1 hct
  obtain ⟨tk, tb, tneg, tma, tmn, tmc, te, ts, tka, tkn, tkc, tva, tvn, tvc⟩ := ct
  unfold Cel.val
  go_wp2_with fail
  refine (KM'.out _ HB1.out).mono ?_
  rintro r w2 ⟨u, rfl, hur, huf, hb2⟩
  have HB2 := Lib.hid hb2
  have HUR := Lib.hid hur
  have HUF := Lib.hid huf
  obtain ⟨cu, hcu⟩ : ∃ c, u.c = c := ⟨_, rfl⟩
  rw [hcu]
  have HCU := Lib.hid hcu
  clear hur huf hb2 hcu
  obtain ⟨uk, ub, uneg, uma, umn, umc, ue, us, uka, ukn, ukc, uva, uvn, uvc⟩ := cu
  unfold Cel.val
  go_upto_region 8 with fail
  have HM0 := Lib.hid (Mk4.mk (HTR.out.on HB2.out) HTF.out)
  have HW0 := Lib.hid (tsW_new HM0.out (Mk4.mk HUR.out HUF.out))
  have HBW := Lib.hid ((HB1.out.trans (HB2.out.mono HB1.out.size)).trans ((allocs_below (tsL w2.heap.size t.c u.c) w2).mono (HB1.out.trans (HB2.out.mono HB1.out.size)).size))
  rw [HCT.out, HCU.out] at HBW HW0
  refine wp_at (W' := allocs w2 (tsL w2.heap.size (⟨tk, tb, tneg, tma, tmn, tmc, te, ts, tka, tkn, tkc, tva, tvn, tvc⟩ : Cel) (⟨uk, ub, uneg, uma, umn, umc, ue, us, uka, ukn, ukc, uva, uvn, uvc⟩ : Cel))) (by kernel_rfl) ?_
  obtain ⟨W8, hW8⟩ : ∃ W8, allocs w2 (tsL w2.heap.size (⟨tk, tb, tneg, tma, tmn, tmc, te, ts, tka, tkn, tkc, tva, tvn, tvc⟩ : Cel) (⟨uk, ub, uneg, uma, umn, umc, ue, us, uka, ukn, ukc, uva, uvn, uvc⟩ : Cel)) = W8 := ⟨_, rfl⟩
  rw [hW8] at HW0 HBW ⊢
  clear hW8
  have HW := Lib.hid (fun W (h : Below W8.heap.size W8 W) => HW0.out.on h)
  have KA5 := Lib.hid (fun W (h : Below W8.heap.size W8 W) => KAW.out W (HBW.out.trans (h.mono HBW.out.size)))
  have HB5 := Lib.hid (fun W (h : Below W8.heap.size W8 W) => (HW.out W h).b5)
  have HB6 := Lib.hid (fun W (h : Below W8.heap.size W8 W) => (HW.out W h).b6)
  have HB7 := Lib.hid (fun W (h : Below W8.heap.size W8 W) => (HW.out W h).b7)
  have HB8 := Lib.hid (fun W (h : Below W8.heap.size W8 W) => (HW.out W h).b8)
  have HB9 := Lib.hid (fun W (h : Below W8.heap.size W8 W) => (HW.out W h).b9)
  have HB10 := Lib.hid (fun W (h : Below W8.heap.size W8 W) => (HW.out W h).b10)
  have KCP := Lib.hid (fun W (h : Below W8.heap.size W8 W) => ts_copy (HW.out W h).mt)
  have KSC := Lib.hid (fun W (h : Below W8.heap.size W8 W) u2 h2 hb => ts_kept (HW.out W h).mt u2 h2 hb)
  have KAB := Lib.hid (fun W (h : Below W8.heap.size W8 W) => ts_pairs (HW.out W h).mt (HW.out W h).mu (HW.out W h).a (HW.out W h).b)
  have KTU := Lib.hid (fun W (h : Below W8.heap.size W8 W) => ts_two (HW.out W h).mt (HW.out W h).mu)
  have KUT := Lib.hid (fun W (h : Below W8.heap.size W8 W) => ts_two' (HW.out W h).mt (HW.out W h).mu)
  have KA1 := Lib.hid (fun W (h : Below W8.heap.size W8 W) (g : Nat) (hg : RdV W (some ⟨g, 0, none⟩) t.c.cells) => ts_more (HW.out W h).mt (HW.out W h).mu (HW.out W h).a hg)
  have KXY := Lib.hid (fun W (h : Below W8.heap.size W8 W) => ts_names (HW.out W h).mt (HW.out W h).x (HW.out W h).y (by decide))
  have KXT := Lib.hid (fun W (h : Below W8.heap.size W8 W) => ts_obj (HW.out W h).mt (HW.out W h).x (by rfl))
  have KWA := Lib.hid (fun W (h : Below W8.heap.size W8 W) => ts_weight (HW.out W h).mt (HW.out W h).mu (HW.out W h).a)
  have KWT := Lib.hid (fun W (h : Below W8.heap.size W8 W) => weight_any t W (HW.out W h).mt.rep (by have := (HW.out W h).mt.nodes; omega) (by have := (HW.out W h).mt.wt; omega))
  have KWU := Lib.hid (fun W (h : Below W8.heap.size W8 W) => weight_any u W (HW.out W h).mu.rep (by have := (HW.out W h).mu.nodes; omega) (by have := (HW.out W h).mu.wt; omega))
  have KNX := Lib.hid (fun W (h : Below W8.heap.size W8 W) => ts_objn (HW.out W h).mt (HW.out W h).x)
  have KNT := Lib.hid (fun W (h : Below W8.heap.size W8 W) => nodes_any t W (HW.out W h).mt.rep (by have := (HW.out W h).mt.nodes; omega))
  have KDA := Lib.hid (fun W (h : Below W8.heap.size W8 W) => ts_depth (HW.out W h).mt (HW.out W h).mu (HW.out W h).a)
  have KDT := Lib.hid (fun W (h : Below W8.heap.size W8 W) => depth_any t W (HW.out W h).mt.rep (by have := (HW.out W h).mt.nodes; omega))
  have KDU := Lib.hid (fun W (h : Below W8.heap.size W8 W) => depth_any u W (HW.out W h).mu.rep (by have := (HW.out W h).mu.nodes; omega))
  have HLT := Lib.hid (show wtL (t.pre 1) ≤ 1000000000 ∧ wtL (u.pre 1) ≤ 1000000000 ∧ t.nodes ≤ 1000000000 ∧ deepL (t.pre 1) ≤ 1000000000 ∧ deepL (u.pre 1) ≤ 1000000000 from by
    have h1 := HW0.out.mt.wt; have h2 := HW0.out.mu.wt; have h3 := HW0.out.mt.nodes; have h4 := HW0.out.mt.deep; have h5 := HW0.out.mu.deep
    omega)
  rw [HCT.out] at HB5 KCP KSC KTU KUT KA1 KXT KWT KNT KDT
  rw [HCU.out] at HB6 KTU KUT KWU KDU
  clear HW HW0 HM0 KM KM' KAW
  generalize sameM t u = z at *
  generalize wtL (t.pre 1) = wT at *
  generalize wtL (u.pre 1) = wU at *
  generalize t.nodes = nT at *
  generalize deepL (t.pre 1) = dT at *
  generalize deepL (u.pre 1) = dU at *
  refine ts_norm (fun J hJ => ?_)
  have HJ := Lib.hid hJ
  clear hJ
  refine wp_region_held_drew (S := fun W => Below W8.heap.size W8 W) (by kernel_rfl) (below_drew (Below.refl _ _)) (fun hH => ?_)
  refine rg_loadM 0 _ 28 (.tmp 5) (w2.heap.size) 0 ((⟨tk, tb, tneg, tma, tmn, tmc, te, ts, tka, tkn, tkc, tva, tvn, tvc⟩ : Cel).cells) _ (some 40) rfl (by kernel_rfl) (by kernel_rfl) (by kernel_rfl) (by kernel_rfl) (fun _ _ _ h => h) (by kernel_rfl) rfl (by kernel_rfl) Tryd.underlying28 rfl (by kernel_rfl) (fun W hW => ts_rng (HB5.out W hW)) hH ?_
  refine rg_loadM 1 _ 28 (.tmp 5) (w2.heap.size) 0 ((⟨tk, tb, tneg, tma, tmn, tmc, te, ts, tka, tkn, tkc, tva, tvn, tvc⟩ : Cel).cells) _ (some 41) rfl (by kernel_rfl) (by kernel_rfl) (by kernel_rfl) (by kernel_rfl) (fun _ _ _ h => h) (by kernel_rfl) rfl (by kernel_rfl) Tryd.underlying28 rfl (by kernel_rfl) (fun W hW => ts_rng (HB5.out W hW)) hH ?_
  refine rg_call 2 _ 18 _ _ _ _ #[(⟨tk, tb, tneg, tma, tmn, tmc, te, ts, tka, tkn, tkc, tva, tvn, tvc⟩ : Cel).val] (some 42) rfl (by kernel_rfl) (by kernel_rfl) (by kernel_rfl) rfl (by kernel_rfl) Tryd.func18 (by kernel_rfl) (by kernel_rfl) (by kernel_rfl) (KCP.out _ hH) ?_
  rintro r' w' ⟨u2, rfl, hi, hbr, hb⟩
  have HU2 := Lib.hid hi.here
  have HBR := Lib.hid hbr
  clear hi hbr
  replace hH := hH.trans (hb.mono hH.size)
  refine ⟨_, rfl, hH, ?_⟩
  refine rg_call 3 _ 13 _ _ _ _ #[(⟨tk, tb, tneg, tma, tmn, tmc, te, ts, tka, tkn, tkc, tva, tvn, tvc⟩ : Cel).val, u2.c.val] (some 43) rfl (by kernel_rfl) (by kernel_rfl) (by kernel_rfl) rfl (by kernel_rfl) Tryd.func13 (by kernel_rfl) (by kernel_rfl) (by kernel_rfl) (KSC.out _ hH u2 HU2.out HBR.out) ?_
  rintro r' w' ⟨rfl, hb⟩
  replace hH := hH.trans (hb.mono hH.size)
  refine ⟨_, rfl, hH, ?_⟩
  refine rg_pure 4 _ (.bool true) (some 44) rfl (by kernel_rfl) (by kernel_rfl) (by kernel_rfl) (by kernel_rfl) (fun _ _ _ h => h) (by kernel_rfl) (fun w => by kernel_rfl) hH ?_
  refine rg_loadM 5 _ 28 (.tmp 7) (w2.heap.size + 1 + 1 + 1) 0 ((arrC (some ⟨w2.heap.size + 1 + 1, 0, none⟩) 2 2).cells) _ (some 45) rfl (by kernel_rfl) (by kernel_rfl) (by kernel_rfl) (by kernel_rfl) (fun _ _ _ h => h) (by kernel_rfl) rfl (by kernel_rfl) Tryd.underlying28 rfl (by kernel_rfl) (fun W hW => ts_rng (HB7.out W hW)) hH ?_
  refine rg_loadM 6 _ 28 (.tmp 8) (w2.heap.size + 1 + 1 + 1 + 1 + 1) 0 ((arrC (some ⟨w2.heap.size + 1 + 1 + 1 + 1, 0, none⟩) 2 2).cells) _ (some 46) rfl (by kernel_rfl) (by kernel_rfl) (by kernel_rfl) (by kernel_rfl) (fun _ _ _ h => h) (by kernel_rfl) rfl (by kernel_rfl) Tryd.underlying28 rfl (by kernel_rfl) (fun W hW => ts_rng (HB8.out W hW)) hH ?_
  refine rg_loadM 8 _ 28 (.tmp 5) (w2.heap.size) 0 ((⟨tk, tb, tneg, tma, tmn, tmc, te, ts, tka, tkn, tkc, tva, tvn, tvc⟩ : Cel).cells) _ (some 48) rfl (by kernel_rfl) (by kernel_rfl) (by kernel_rfl) (by kernel_rfl) (fun _ _ _ h => h) (by kernel_rfl) rfl (by kernel_rfl) Tryd.underlying28 rfl (by kernel_rfl) (fun W hW => ts_rng (HB5.out W hW)) hH ?_
  refine rg_loadM 9 _ 28 (.tmp 6) (w2.heap.size + 1) 0 ((⟨uk, ub, uneg, uma, umn, umc, ue, us, uka, ukn, ukc, uva, uvn, uvc⟩ : Cel).cells) _ (some 49) rfl (by kernel_rfl) (by kernel_rfl) (by kernel_rfl) (by kernel_rfl) (fun _ _ _ h => h) (by kernel_rfl) rfl (by kernel_rfl) Tryd.underlying28 rfl (by kernel_rfl) (fun W hW => ts_rng (HB6.out W hW)) hH ?_
  refine rg_call 7 _ 13 _ _ _ _ #[(arrC (some ⟨w2.heap.size + 1 + 1, 0, none⟩) 2 2).val, (arrC (some ⟨w2.heap.size + 1 + 1 + 1 + 1, 0, none⟩) 2 2).val] (some 47) rfl (by kernel_rfl) (by kernel_rfl) (by kernel_rfl) rfl (by kernel_rfl) Tryd.func13 (by kernel_rfl) (by kernel_rfl) (by kernel_rfl) (KAB.out _ hH) ?_
  rintro r' w' ⟨rfl, hb⟩
  replace hH := hH.trans (hb.mono hH.size)
  refine ⟨_, rfl, hH, ?_⟩
  refine rg_call 10 _ 13 _ _ _ _ #[(⟨tk, tb, tneg, tma, tmn, tmc, te, ts, tka, tkn, tkc, tva, tvn, tvc⟩ : Cel).val, (⟨uk, ub, uneg, uma, umn, umc, ue, us, uka, ukn, ukc, uva, uvn, uvc⟩ : Cel).val] (some 50) rfl (by kernel_rfl) (by kernel_rfl) (by kernel_rfl) rfl (by kernel_rfl) Tryd.func13 (by kernel_rfl) (by kernel_rfl) (by kernel_rfl) (KTU.out _ hH) ?_
  rintro r' w' ⟨rfl, hb⟩
  replace hH := hH.trans (hb.mono hH.size)
  refine ⟨_, rfl, hH, ?_⟩
  refine rg_pure 11 _ (.bool true) (some 51) rfl (by kernel_rfl) (by kernel_rfl) (by kernel_rfl) (by kernel_rfl) (fun _ _ _ h => h) (by kernel_rfl) (fun w => ts_eqB w _ _ _ _ _ _ (z) Tryd.underlying4 rfl (by kernel_rfl) (by kernel_rfl)) hH ?_
  refine rg_pure 12 _ (.bool true) (some 52) rfl (by kernel_rfl) (by kernel_rfl) (by kernel_rfl) (by kernel_rfl) (fun _ _ _ h => h) (by kernel_rfl) (fun w => by kernel_rfl) hH ?_
  refine rg_pure 13 _ (.bool true) (some 53) rfl (by kernel_rfl) (by kernel_rfl) (by kernel_rfl) (by kernel_rfl) (fun _ _ _ h => h) (by kernel_rfl) (fun w => by kernel_rfl) hH ?_
  refine rg_loadM 14 _ 28 (.tmp 5) (w2.heap.size) 0 ((⟨tk, tb, tneg, tma, tmn, tmc, te, ts, tka, tkn, tkc, tva, tvn, tvc⟩ : Cel).cells) _ (some 54) rfl (by kernel_rfl) (by kernel_rfl) (by kernel_rfl) (by kernel_rfl) (fun _ _ _ h => h) (by kernel_rfl) rfl (by kernel_rfl) Tryd.underlying28 rfl (by kernel_rfl) (fun W hW => ts_rng (HB5.out W hW)) hH ?_
  refine rg_loadM 15 _ 28 (.tmp 6) (w2.heap.size + 1) 0 ((⟨uk, ub, uneg, uma, umn, umc, ue, us, uka, ukn, ukc, uva, uvn, uvc⟩ : Cel).cells) _ (some 55) rfl (by kernel_rfl) (by kernel_rfl) (by kernel_rfl) (by kernel_rfl) (fun _ _ _ h => h) (by kernel_rfl) rfl (by kernel_rfl) Tryd.underlying28 rfl (by kernel_rfl) (fun W hW => ts_rng (HB6.out W hW)) hH ?_
  refine rg_loadM 17 _ 28 (.tmp 6) (w2.heap.size + 1) 0 ((⟨uk, ub, uneg, uma, umn, umc, ue, us, uka, ukn, ukc, uva, uvn, uvc⟩ : Cel).cells) _ (some 57) rfl (by kernel_rfl) (by kernel_rfl) (by kernel_rfl) (by kernel_rfl) (fun _ _ _ h => h) (by kernel_rfl) rfl (by kernel_rfl) Tryd.underlying28 rfl (by kernel_rfl) (fun W hW => ts_rng (HB6.out W hW)) hH ?_
  refine rg_loadM 18 _ 28 (.tmp 5) (w2.heap.size) 0 ((⟨tk, tb, tneg, tma, tmn, tmc, te, ts, tka, tkn, tkc, tva, tvn, tvc⟩ : Cel).cells) _ (some 58) rfl (by kernel_rfl) (by kernel_rfl) (by kernel_rfl) (by kernel_rfl) (fun _ _ _ h => h) (by kernel_rfl) rfl (by kernel_rfl) Tryd.underlying28 rfl (by kernel_rfl) (fun W hW => ts_rng (HB5.out W hW)) hH ?_
  refine rg_call 16 _ 13 _ _ _ _ #[(⟨tk, tb, tneg, tma, tmn, tmc, te, ts, tka, tkn, tkc, tva, tvn, tvc⟩ : Cel).val, (⟨uk, ub, uneg, uma, umn, umc, ue, us, uka, ukn, ukc, uva, uvn, uvc⟩ : Cel).val] (some 56) rfl (by kernel_rfl) (by kernel_rfl) (by kernel_rfl) rfl (by kernel_rfl) Tryd.func13 (by kernel_rfl) (by kernel_rfl) (by kernel_rfl) (KTU.out _ hH) ?_
  rintro r' w' ⟨rfl, hb⟩
  replace hH := hH.trans (hb.mono hH.size)
  refine ⟨_, rfl, hH, ?_⟩
  refine rg_call 19 _ 13 _ _ _ _ #[(⟨uk, ub, uneg, uma, umn, umc, ue, us, uka, ukn, ukc, uva, uvn, uvc⟩ : Cel).val, (⟨tk, tb, tneg, tma, tmn, tmc, te, ts, tka, tkn, tkc, tva, tvn, tvc⟩ : Cel).val] (some 59) rfl (by kernel_rfl) (by kernel_rfl) (by kernel_rfl) rfl (by kernel_rfl) Tryd.func13 (by kernel_rfl) (by kernel_rfl) (by kernel_rfl) (KUT.out _ hH) ?_
  rintro r' w' ⟨rfl, hb⟩
  obtain ⟨W9, hW9⟩ : ∃ W9, W9 = w' := ⟨_, rfl⟩
  subst hW9
  replace hH := hH.trans (hb.mono hH.size)
  refine ⟨_, rfl, hH, ?_⟩
  refine rg_pure 20 _ (.bool true) (some 60) rfl (by kernel_rfl) (by kernel_rfl) (by kernel_rfl) (by kernel_rfl) (fun _ _ _ h => h) (by kernel_rfl) (fun w => ts_eqB w _ _ _ _ _ _ (z) Tryd.underlying4 rfl (by kernel_rfl) (by kernel_rfl)) hH ?_
  refine rg_pure 21 _ (.bool true) (some 61) rfl (by kernel_rfl) (by kernel_rfl) (by kernel_rfl) (by kernel_rfl) (fun _ _ _ h => h) (by kernel_rfl) (fun w => by kernel_rfl) hH ?_
  refine rg_pure 22 _ (.bool true) (some 62) rfl (by kernel_rfl) (by kernel_rfl) (by kernel_rfl) (by kernel_rfl) (fun _ _ _ h => h) (by kernel_rfl) (fun w => by kernel_rfl) hH ?_
  refine rg_loadM 23 _ 28 (.tmp 7) (w2.heap.size + 1 + 1 + 1) 0 ((arrC (some ⟨w2.heap.size + 1 + 1, 0, none⟩) 2 2).cells) _ (some 63) rfl (by kernel_rfl) (by kernel_rfl) (by kernel_rfl) (by kernel_rfl) (fun _ _ _ h => h) (by kernel_rfl) rfl (by kernel_rfl) Tryd.underlying28 rfl (by kernel_rfl) (fun W hW => ts_rng (HB7.out W hW)) hH ?_
  refine rg_loadM 24 _ 28 (.tmp 5) (w2.heap.size) 0 ((⟨tk, tb, tneg, tma, tmn, tmc, te, ts, tka, tkn, tkc, tva, tvn, tvc⟩ : Cel).cells) _ (some 64) rfl (by kernel_rfl) (by kernel_rfl) (by kernel_rfl) (by kernel_rfl) (fun _ _ _ h => h) (by kernel_rfl) rfl (by kernel_rfl) Tryd.underlying28 rfl (by kernel_rfl) (fun W hW => ts_rng (HB5.out W hW)) hH ?_
  refine rg_val 25 _ (.slice (some ⟨W9.heap.size, 0, none⟩) 1 1) (W9.alloc (.cells (⟨tk, tb, tneg, tma, tmn, tmc, te, ts, tka, tkn, tkc, tva, tvn, tvc⟩ : Cel).cells.toArray 28)) (some 65) rfl rfl (by kernel_rfl) (by kernel_rfl) (by kernel_rfl) (hH.alloc hH.size _) ?_
  have HSL := Lib.hid (rdv_new W9 (⟨tk, tb, tneg, tma, tmn, tmc, te, ts, tka, tkn, tkc, tva, tvn, tvc⟩ : Cel).cells 28)
  replace hH := hH.alloc hH.size (.cells (⟨tk, tb, tneg, tma, tmn, tmc, te, ts, tka, tkn, tkc, tva, tvn, tvc⟩ : Cel).cells.toArray 28)
  refine rg_pure 26 _ (.agg #[.int .i64 6, .bool false, .bool false, .slice none 0 0, .int .i64 0, .string ⟨#[]⟩, .slice none 0 0, .slice (some ⟨W9.heap.size, 0, none⟩) 1 1]) (some 66) rfl (by kernel_rfl) (by kernel_rfl) (by kernel_rfl) (by kernel_rfl) (fun _ _ _ h => h) (by kernel_rfl) (fun w => by kernel_rfl) hH ?_
  refine rg_call 27 _ 13 _ _ _ _ #[(arrC (some ⟨w2.heap.size + 1 + 1, 0, none⟩) 2 2).val, .agg #[.int .i64 6, .bool false, .bool false, .slice none 0 0, .int .i64 0, .string ⟨#[]⟩, .slice none 0 0, .slice (some ⟨W9.heap.size, 0, none⟩) 1 1]] (some 67) rfl (by kernel_rfl) (by kernel_rfl) (by kernel_rfl) rfl (by kernel_rfl) Tryd.func13 (by kernel_rfl) (by kernel_rfl) (by kernel_rfl) (KA1.out _ hH _ HSL.out) ?_
  rintro r' w' ⟨rfl, hb⟩
  replace hH := hH.trans (hb.mono hH.size)
  refine ⟨_, rfl, hH, ?_⟩
  refine rg_pure 28 _ (.bool true) (some 68) rfl (by kernel_rfl) (by kernel_rfl) (by kernel_rfl) (by kernel_rfl) (fun _ _ _ h => h) (by kernel_rfl) (fun w => by kernel_rfl) hH ?_
  refine rg_pure 29 _ (.bool true) (some 69) rfl (by kernel_rfl) (by kernel_rfl) (by kernel_rfl) (by kernel_rfl) (fun _ _ _ h => h) (by kernel_rfl) (fun w => by kernel_rfl) hH ?_
  refine rg_pure 30 _ (.bool true) (some 70) rfl (by kernel_rfl) (by kernel_rfl) (by kernel_rfl) (by kernel_rfl) (fun _ _ _ h => h) (by kernel_rfl) (fun w => by kernel_rfl) hH ?_
  refine rg_loadM 31 _ 28 (.tmp 9) (w2.heap.size + 1 + 1 + 1 + 1 + 1 + 1 + 1 + 1) 0 ((objC7 (some ⟨w2.heap.size + 1 + 1 + 1 + 1 + 1 + 1, 0, none⟩) 1 1 (some ⟨w2.heap.size + 1 + 1 + 1 + 1 + 1 + 1 + 1, 0, none⟩) 1 1).cells) _ (some 71) rfl (by kernel_rfl) (by kernel_rfl) (by kernel_rfl) (by kernel_rfl) (fun _ _ _ h => h) (by kernel_rfl) rfl (by kernel_rfl) Tryd.underlying28 rfl (by kernel_rfl) (fun W hW => ts_rng (HB9.out W hW)) hH ?_
  refine rg_loadM 32 _ 28 (.tmp 10) (w2.heap.size + 1 + 1 + 1 + 1 + 1 + 1 + 1 + 1 + 1 + 1 + 1) 0 ((objC7 (some ⟨w2.heap.size + 1 + 1 + 1 + 1 + 1 + 1 + 1 + 1 + 1, 0, none⟩) 1 1 (some ⟨w2.heap.size + 1 + 1 + 1 + 1 + 1 + 1 + 1 + 1 + 1 + 1, 0, none⟩) 1 1).cells) _ (some 72) rfl (by kernel_rfl) (by kernel_rfl) (by kernel_rfl) (by kernel_rfl) (fun _ _ _ h => h) (by kernel_rfl) rfl (by kernel_rfl) Tryd.underlying28 rfl (by kernel_rfl) (fun W hW => ts_rng (HB10.out W hW)) hH ?_
  refine rg_call 33 _ 13 _ _ _ _ #[(objC7 (some ⟨w2.heap.size + 1 + 1 + 1 + 1 + 1 + 1, 0, none⟩) 1 1 (some ⟨w2.heap.size + 1 + 1 + 1 + 1 + 1 + 1 + 1, 0, none⟩) 1 1).val, (objC7 (some ⟨w2.heap.size + 1 + 1 + 1 + 1 + 1 + 1 + 1 + 1 + 1, 0, none⟩) 1 1 (some ⟨w2.heap.size + 1 + 1 + 1 + 1 + 1 + 1 + 1 + 1 + 1 + 1, 0, none⟩) 1 1).val] (some 73) rfl (by kernel_rfl) (by kernel_rfl) (by kernel_rfl) rfl (by kernel_rfl) Tryd.func13 (by kernel_rfl) (by kernel_rfl) (by kernel_rfl) (KXY.out _ hH) ?_
  rintro r' w' ⟨rfl, hb⟩
  replace hH := hH.trans (hb.mono hH.size)
  refine ⟨_, rfl, hH, ?_⟩
  refine rg_pure 34 _ (.bool true) (some 74) rfl (by kernel_rfl) (by kernel_rfl) (by kernel_rfl) (by kernel_rfl) (fun _ _ _ h => h) (by kernel_rfl) (fun w => by kernel_rfl) hH ?_
  refine rg_pure 35 _ (.bool true) (some 75) rfl (by kernel_rfl) (by kernel_rfl) (by kernel_rfl) (by kernel_rfl) (fun _ _ _ h => h) (by kernel_rfl) (fun w => by kernel_rfl) hH ?_
  refine rg_pure 36 _ (.bool true) (some 76) rfl (by kernel_rfl) (by kernel_rfl) (by kernel_rfl) (by kernel_rfl) (fun _ _ _ h => h) (by kernel_rfl) (fun w => by kernel_rfl) hH ?_
  refine rg_loadM 37 _ 28 (.tmp 9) (w2.heap.size + 1 + 1 + 1 + 1 + 1 + 1 + 1 + 1) 0 ((objC7 (some ⟨w2.heap.size + 1 + 1 + 1 + 1 + 1 + 1, 0, none⟩) 1 1 (some ⟨w2.heap.size + 1 + 1 + 1 + 1 + 1 + 1 + 1, 0, none⟩) 1 1).cells) _ (some 77) rfl (by kernel_rfl) (by kernel_rfl) (by kernel_rfl) (by kernel_rfl) (fun _ _ _ h => h) (by kernel_rfl) rfl (by kernel_rfl) Tryd.underlying28 rfl (by kernel_rfl) (fun W hW => ts_rng (HB9.out W hW)) hH ?_
  refine rg_loadM 38 _ 28 (.tmp 5) (w2.heap.size) 0 ((⟨tk, tb, tneg, tma, tmn, tmc, te, ts, tka, tkn, tkc, tva, tvn, tvc⟩ : Cel).cells) _ (some 78) rfl (by kernel_rfl) (by kernel_rfl) (by kernel_rfl) (by kernel_rfl) (fun _ _ _ h => h) (by kernel_rfl) rfl (by kernel_rfl) Tryd.underlying28 rfl (by kernel_rfl) (fun W hW => ts_rng (HB5.out W hW)) hH ?_
  refine rg_call 39 _ 13 _ _ _ _ #[(objC7 (some ⟨w2.heap.size + 1 + 1 + 1 + 1 + 1 + 1, 0, none⟩) 1 1 (some ⟨w2.heap.size + 1 + 1 + 1 + 1 + 1 + 1 + 1, 0, none⟩) 1 1).val, (⟨tk, tb, tneg, tma, tmn, tmc, te, ts, tka, tkn, tkc, tva, tvn, tvc⟩ : Cel).val] (some 79) rfl (by kernel_rfl) (by kernel_rfl) (by kernel_rfl) rfl (by kernel_rfl) Tryd.func13 (by kernel_rfl) (by kernel_rfl) (by kernel_rfl) (KXT.out _ hH) ?_
  rintro r' w' ⟨rfl, hb⟩
  replace hH := hH.trans (hb.mono hH.size)
  refine ⟨_, rfl, hH, ?_⟩
  refine rg_pure 40 _ (.bool true) (some 80) rfl (by kernel_rfl) (by kernel_rfl) (by kernel_rfl) (by kernel_rfl) (fun _ _ _ h => h) (by kernel_rfl) (fun w => by kernel_rfl) hH ?_
  refine rg_pure 41 _ (.bool true) (some 81) rfl (by kernel_rfl) (by kernel_rfl) (by kernel_rfl) (by kernel_rfl) (fun _ _ _ h => h) (by kernel_rfl) (fun w => by kernel_rfl) hH ?_
  refine rg_pure 42 _ (.bool true) (some 82) rfl (by kernel_rfl) (by kernel_rfl) (by kernel_rfl) (by kernel_rfl) (fun _ _ _ h => h) (by kernel_rfl) (fun w => by kernel_rfl) hH ?_
  refine rg_loadM 43 _ 28 (.tmp 7) (w2.heap.size + 1 + 1 + 1) 0 ((arrC (some ⟨w2.heap.size + 1 + 1, 0, none⟩) 2 2).cells) _ (some 83) rfl (by kernel_rfl) (by kernel_rfl) (by kernel_rfl) (by kernel_rfl) (fun _ _ _ h => h) (by kernel_rfl) rfl (by kernel_rfl) Tryd.underlying28 rfl (by kernel_rfl) (fun W hW => ts_rng (HB7.out W hW)) hH ?_
  refine rg_loadM 45 _ 28 (.tmp 5) (w2.heap.size) 0 ((⟨tk, tb, tneg, tma, tmn, tmc, te, ts, tka, tkn, tkc, tva, tvn, tvc⟩ : Cel).cells) _ (some 85) rfl (by kernel_rfl) (by kernel_rfl) (by kernel_rfl) (by kernel_rfl) (fun _ _ _ h => h) (by kernel_rfl) rfl (by kernel_rfl) Tryd.underlying28 rfl (by kernel_rfl) (fun W hW => ts_rng (HB5.out W hW)) hH ?_
  refine rg_loadM 48 _ 28 (.tmp 6) (w2.heap.size + 1) 0 ((⟨uk, ub, uneg, uma, umn, umc, ue, us, uka, ukn, ukc, uva, uvn, uvc⟩ : Cel).cells) _ (some 88) rfl (by kernel_rfl) (by kernel_rfl) (by kernel_rfl) (by kernel_rfl) (fun _ _ _ h => h) (by kernel_rfl) rfl (by kernel_rfl) Tryd.underlying28 rfl (by kernel_rfl) (fun W hW => ts_rng (HB6.out W hW)) hH ?_
  refine rg_call 44 _ 16 _ _ _ _ #[(arrC (some ⟨w2.heap.size + 1 + 1, 0, none⟩) 2 2).val] (some 84) rfl (by kernel_rfl) (by kernel_rfl) (by kernel_rfl) rfl (by kernel_rfl) Tryd.func16 (by kernel_rfl) (by kernel_rfl) (by kernel_rfl) (KWA.out _ hH) ?_
  rintro r' w' ⟨rfl, hb⟩
  replace hH := hH.trans (hb.mono hH.size)
  refine ⟨_, rfl, hH, ?_⟩
  refine rg_call 46 _ 16 _ _ _ _ #[(⟨tk, tb, tneg, tma, tmn, tmc, te, ts, tka, tkn, tkc, tva, tvn, tvc⟩ : Cel).val] (some 86) rfl (by kernel_rfl) (by kernel_rfl) (by kernel_rfl) rfl (by kernel_rfl) Tryd.func16 (by kernel_rfl) (by kernel_rfl) (by kernel_rfl) (KWT.out _ hH) ?_
  rintro r' w' ⟨rfl, hb⟩
  replace hH := hH.trans (hb.mono hH.size)
  refine ⟨_, rfl, hH, ?_⟩
  refine rg_pure 47 _ (.int .i64 ((1 + wT : Nat) : Int)) (some 87) rfl (by kernel_rfl) (by kernel_rfl) (by kernel_rfl) (by kernel_rfl) (fun _ _ _ h => h) (by kernel_rfl) (fun w => rl_arith w _ _ .add _ _ _ _ _ _ _ rfl (by kernel_rfl) (by kernel_rfl) (ar_add w _ 1 wT (by have := HLT.out; omega) (by have := HLT.out; omega))) hH ?_
  refine rg_call 49 _ 16 _ _ _ _ #[(⟨uk, ub, uneg, uma, umn, umc, ue, us, uka, ukn, ukc, uva, uvn, uvc⟩ : Cel).val] (some 89) rfl (by kernel_rfl) (by kernel_rfl) (by kernel_rfl) rfl (by kernel_rfl) Tryd.func16 (by kernel_rfl) (by kernel_rfl) (by kernel_rfl) (KWU.out _ hH) ?_
  rintro r' w' ⟨rfl, hb⟩
  replace hH := hH.trans (hb.mono hH.size)
  refine ⟨_, rfl, hH, ?_⟩
  refine rg_pure 50 _ (.int .i64 ((1 + wT + wU : Nat) : Int)) (some 90) rfl (by kernel_rfl) (by kernel_rfl) (by kernel_rfl) (by kernel_rfl) (fun _ _ _ h => h) (by kernel_rfl) (fun w => rl_arith w _ _ .add _ _ _ _ _ _ _ rfl (by kernel_rfl) (by kernel_rfl) (ar_add w _ (1 + wT) wU (by have := HLT.out; omega) (by have := HLT.out; omega))) hH ?_
  refine rg_pure 51 _ (.bool true) (some 91) rfl (by kernel_rfl) (by kernel_rfl) (by kernel_rfl) (by kernel_rfl) (fun _ _ _ h => h) (by kernel_rfl) (fun w => ts_eqI w _ _ _ _ _ _ .i64 (((1 + wT + wU : Nat) : Int)) rfl (by kernel_rfl) (by kernel_rfl)) hH ?_
  refine rg_pure 52 _ (.bool true) (some 92) rfl (by kernel_rfl) (by kernel_rfl) (by kernel_rfl) (by kernel_rfl) (fun _ _ _ h => h) (by kernel_rfl) (fun w => by kernel_rfl) hH ?_
  refine rg_pure 53 _ (.bool true) (some 93) rfl (by kernel_rfl) (by kernel_rfl) (by kernel_rfl) (by kernel_rfl) (fun _ _ _ h => h) (by kernel_rfl) (fun w => by kernel_rfl) hH ?_
  refine rg_loadM 54 _ 28 (.tmp 9) (w2.heap.size + 1 + 1 + 1 + 1 + 1 + 1 + 1 + 1) 0 ((objC7 (some ⟨w2.heap.size + 1 + 1 + 1 + 1 + 1 + 1, 0, none⟩) 1 1 (some ⟨w2.heap.size + 1 + 1 + 1 + 1 + 1 + 1 + 1, 0, none⟩) 1 1).cells) _ (some 94) rfl (by kernel_rfl) (by kernel_rfl) (by kernel_rfl) (by kernel_rfl) (fun _ _ _ h => h) (by kernel_rfl) rfl (by kernel_rfl) Tryd.underlying28 rfl (by kernel_rfl) (fun W hW => ts_rng (HB9.out W hW)) hH ?_
  refine rg_loadM 56 _ 28 (.tmp 5) (w2.heap.size) 0 ((⟨tk, tb, tneg, tma, tmn, tmc, te, ts, tka, tkn, tkc, tva, tvn, tvc⟩ : Cel).cells) _ (some 96) rfl (by kernel_rfl) (by kernel_rfl) (by kernel_rfl) (by kernel_rfl) (fun _ _ _ h => h) (by kernel_rfl) rfl (by kernel_rfl) Tryd.underlying28 rfl (by kernel_rfl) (fun W hW => ts_rng (HB5.out W hW)) hH ?_
  refine rg_call 55 _ 19 _ _ _ _ #[(objC7 (some ⟨w2.heap.size + 1 + 1 + 1 + 1 + 1 + 1, 0, none⟩) 1 1 (some ⟨w2.heap.size + 1 + 1 + 1 + 1 + 1 + 1 + 1, 0, none⟩) 1 1).val] (some 95) rfl (by kernel_rfl) (by kernel_rfl) (by kernel_rfl) rfl (by kernel_rfl) Tryd.func19 (by kernel_rfl) (by kernel_rfl) (by kernel_rfl) (KNX.out _ hH) ?_
  rintro r' w' ⟨rfl, hb⟩
  replace hH := hH.trans (hb.mono hH.size)
  refine ⟨_, rfl, hH, ?_⟩
  refine rg_call 57 _ 19 _ _ _ _ #[(⟨tk, tb, tneg, tma, tmn, tmc, te, ts, tka, tkn, tkc, tva, tvn, tvc⟩ : Cel).val] (some 97) rfl (by kernel_rfl) (by kernel_rfl) (by kernel_rfl) rfl (by kernel_rfl) Tryd.func19 (by kernel_rfl) (by kernel_rfl) (by kernel_rfl) (KNT.out _ hH) ?_
  rintro r' w' ⟨rfl, hb⟩
  replace hH := hH.trans (hb.mono hH.size)
  refine ⟨_, rfl, hH, ?_⟩
  refine rg_pure 58 _ (.int .i64 ((1 + nT : Nat) : Int)) (some 98) rfl (by kernel_rfl) (by kernel_rfl) (by kernel_rfl) (by kernel_rfl) (fun _ _ _ h => h) (by kernel_rfl) (fun w => rl_arith w _ _ .add _ _ _ _ _ _ _ rfl (by kernel_rfl) (by kernel_rfl) (ar_add w _ 1 nT (by have := HLT.out; omega) (by have := HLT.out; omega))) hH ?_
  refine rg_pure 59 _ (.bool true) (some 99) rfl (by kernel_rfl) (by kernel_rfl) (by kernel_rfl) (by kernel_rfl) (fun _ _ _ h => h) (by kernel_rfl) (fun w => ts_eqI w _ _ _ _ _ _ .i64 (((1 + nT : Nat) : Int)) rfl (by kernel_rfl) (by kernel_rfl)) hH ?_
  refine rg_pure 60 _ (.bool true) (some 100) rfl (by kernel_rfl) (by kernel_rfl) (by kernel_rfl) (by kernel_rfl) (fun _ _ _ h => h) (by kernel_rfl) (fun w => by kernel_rfl) hH ?_
  refine rg_pure 61 _ (.bool true) (some 101) rfl (by kernel_rfl) (by kernel_rfl) (by kernel_rfl) (by kernel_rfl) (fun _ _ _ h => h) (by kernel_rfl) (fun w => by kernel_rfl) hH ?_
  refine rg_loadM 62 _ 28 (.tmp 7) (w2.heap.size + 1 + 1 + 1) 0 ((arrC (some ⟨w2.heap.size + 1 + 1, 0, none⟩) 2 2).cells) _ (some 102) rfl (by kernel_rfl) (by kernel_rfl) (by kernel_rfl) (by kernel_rfl) (fun _ _ _ h => h) (by kernel_rfl) rfl (by kernel_rfl) Tryd.underlying28 rfl (by kernel_rfl) (fun W hW => ts_rng (HB7.out W hW)) hH ?_
  refine rg_loadM 64 _ 28 (.tmp 5) (w2.heap.size) 0 ((⟨tk, tb, tneg, tma, tmn, tmc, te, ts, tka, tkn, tkc, tva, tvn, tvc⟩ : Cel).cells) _ (some 104) rfl (by kernel_rfl) (by kernel_rfl) (by kernel_rfl) (by kernel_rfl) (fun _ _ _ h => h) (by kernel_rfl) rfl (by kernel_rfl) Tryd.underlying28 rfl (by kernel_rfl) (fun W hW => ts_rng (HB5.out W hW)) hH ?_
  refine rg_loadM 66 _ 28 (.tmp 6) (w2.heap.size + 1) 0 ((⟨uk, ub, uneg, uma, umn, umc, ue, us, uka, ukn, ukc, uva, uvn, uvc⟩ : Cel).cells) _ (some 106) rfl (by kernel_rfl) (by kernel_rfl) (by kernel_rfl) (by kernel_rfl) (fun _ _ _ h => h) (by kernel_rfl) rfl (by kernel_rfl) Tryd.underlying28 rfl (by kernel_rfl) (fun W hW => ts_rng (HB6.out W hW)) hH ?_
  refine rg_call 63 _ 15 _ _ _ _ #[(arrC (some ⟨w2.heap.size + 1 + 1, 0, none⟩) 2 2).val] (some 103) rfl (by kernel_rfl) (by kernel_rfl) (by kernel_rfl) rfl (by kernel_rfl) Tryd.func15 (by kernel_rfl) (by kernel_rfl) (by kernel_rfl) (KDA.out _ hH) ?_
  rintro r' w' ⟨rfl, hb⟩
  replace hH := hH.trans (hb.mono hH.size)
  refine ⟨_, rfl, hH, ?_⟩
  refine rg_call 65 _ 15 _ _ _ _ #[(⟨tk, tb, tneg, tma, tmn, tmc, te, ts, tka, tkn, tkc, tva, tvn, tvc⟩ : Cel).val] (some 105) rfl (by kernel_rfl) (by kernel_rfl) (by kernel_rfl) rfl (by kernel_rfl) Tryd.func15 (by kernel_rfl) (by kernel_rfl) (by kernel_rfl) (KDT.out _ hH) ?_
  rintro r' w' ⟨rfl, hb⟩
  replace hH := hH.trans (hb.mono hH.size)
  refine ⟨_, rfl, hH, ?_⟩
  refine rg_call 67 _ 15 _ _ _ _ #[(⟨uk, ub, uneg, uma, umn, umc, ue, us, uka, ukn, ukc, uva, uvn, uvc⟩ : Cel).val] (some 107) rfl (by kernel_rfl) (by kernel_rfl) (by kernel_rfl) rfl (by kernel_rfl) Tryd.func15 (by kernel_rfl) (by kernel_rfl) (by kernel_rfl) (KDU.out _ hH) ?_
  rintro r' w' ⟨rfl, hb⟩
  replace hH := hH.trans (hb.mono hH.size)
  refine ⟨_, rfl, hH, ?_⟩
  refine rg_pure 68 _ (.int .i64 (((max dT dU) : Nat) : Int)) (some 108) rfl (by kernel_rfl) (by kernel_rfl) (by kernel_rfl) (by kernel_rfl) (fun _ _ _ h => h) (by kernel_rfl) (fun w => ts_max w _ _ _ _ _ dT dU rfl (by kernel_rfl) (by kernel_rfl)) hH ?_
  refine rg_pure 69 _ (.int .i64 ((1 + (max dT dU) : Nat) : Int)) (some 109) rfl (by kernel_rfl) (by kernel_rfl) (by kernel_rfl) (by kernel_rfl) (fun _ _ _ h => h) (by kernel_rfl) (fun w => rl_arith w _ _ .add _ _ _ _ _ _ _ rfl (by kernel_rfl) (by kernel_rfl) (ar_add w _ 1 (max dT dU) (by have := HLT.out; omega) (by have := HLT.out; omega))) hH ?_
  refine rg_pure 70 _ (.bool true) (some 110) rfl (by kernel_rfl) (by kernel_rfl) (by kernel_rfl) (by kernel_rfl) (fun _ _ _ h => h) (by kernel_rfl) (fun w => ts_eqI w _ _ _ _ _ _ .i64 (((1 + (max dT dU) : Nat) : Int)) rfl (by kernel_rfl) (by kernel_rfl)) hH ?_
  refine rg_pure 71 _ (.bool true) (some 111) rfl (by kernel_rfl) (by kernel_rfl) (by kernel_rfl) (by kernel_rfl) (fun _ _ _ h => h) (by kernel_rfl) (fun w => by kernel_rfl) hH ?_
  refine rg_pure 72 _ (.bool true) (some 112) rfl (by kernel_rfl) (by kernel_rfl) (by kernel_rfl) (by kernel_rfl) (fun _ _ _ h => h) (by kernel_rfl) (fun w => by kernel_rfl) hH ?_
  refine rg_call 73 _ 9 _ _ _ _ #[] (some 113) rfl (by kernel_rfl) (by kernel_rfl) (by kernel_rfl) rfl (by kernel_rfl) Tryd.func9 (by kernel_rfl) (by kernel_rfl) (by kernel_rfl) (KA5.out _ hH) ?_
  rintro r' w' ⟨rfl, hb⟩
  replace hH := hH.trans (hb.mono hH.size)
  refine ⟨_, rfl, hH, ?_⟩
  refine rg_pure 74 _ (.bool true) (some 114) rfl (by kernel_rfl) (by kernel_rfl) (by kernel_rfl) (by kernel_rfl) (fun _ _ _ h => h) (by kernel_rfl) (fun w => by kernel_rfl) hH ?_
  refine rg_pure 75 _ (.bool true) (some 4) rfl (by kernel_rfl) (by kernel_rfl) (by kernel_rfl) (by kernel_rfl) (fun _ _ _ h => h) (by kernel_rfl) (fun w => by kernel_rfl) hH ?_
  refine wpAnyH_done (by kernel_rfl) ?_ _
  refine HJ.out _ _ ?_
  have HF := Lib.hid (HBW.out.trans (hH.mono HBW.out.size))
  clear hH
  simp only [Act.put, List.setIfInBounds_toArray, List.set_cons_zero, List.set_cons_succ]
  go_wp2
  go_ret
  exact BoolBelow.mk rfl HF.out
end Go.Proofs.YtipibipaocpojaaDoor
