/- Towers, wide arrays, long texts: what may be of them. -/
import Derived.Test.YtndjdmgncjiggaaQh
import Derived.Laws.BytesArg
namespace Go.Proofs.Ytndjdmgncjiggaa
open Go.RowKit Go.Shelf
set_option linter.unusedVariables false
set_option linter.unusedSimpArgs false

/-- Arrays in arrays, by where each lies. -/
def Tw : List Nat → MT
  | [] => leafT 1 false ⟨#[]⟩
  | b :: bs => arrT (some ⟨b, 0, none⟩) 1 1 [Tw bs]
theorem Tw_pre0 (n : Nat) : (Tw []).pre n = [(n, leafT 1 false ⟨#[]⟩)] := by simp [Tw, leafT, MT.pre_eq, MT.preL_nil, MT.v]
theorem Tw_pre1 (b : Nat) (bs : List Nat) (n : Nat) : (Tw (b :: bs)).pre n = (n, arrT (some ⟨b, 0, none⟩) 1 1 [Tw bs]) :: (Tw bs).pre (n + 1) := by
  rw [Tw, MT.pre_eq]; simp [arrT, MT.preL_cons, MT.preL_nil, MT.v]
theorem Tw_len (bs : List Nat) : ∀ n, ((Tw bs).pre n).length = bs.length + 1 := by
  induction bs with
  | nil => intro n; rw [Tw_pre0]; rfl
  | cons b bs ih => intro n; rw [Tw_pre1]; simp [ih]
theorem Tw_nodes (bs : List Nat) : (Tw bs).nodes = bs.length + 1 := by rw [← MT.pre_len _ 0, Tw_len]
theorem deepL_from (l : List (Nat × MT)) : ∀ a, l.foldl (fun a x => max a x.1) a = max a (deepL l) := by
  unfold deepL
  induction l with
  | nil => intro a; simp
  | cons x l ih => intro a; rw [List.foldl_cons, List.foldl_cons, ih, ih (max 0 x.1)]; omega
theorem deepL_cons (x : Nat × MT) (l : List (Nat × MT)) : deepL (x :: l) = max x.1 (deepL l) := by
  show (x :: l).foldl _ 0 = _
  rw [List.foldl_cons, deepL_from]; simp
theorem deepL_app (l m : List (Nat × MT)) : deepL (l ++ m) = max (deepL l) (deepL m) := by
  induction l with
  | nil => simp [deepL]
  | cons x l ih => rw [List.cons_append, deepL_cons, deepL_cons, ih]; omega
theorem Tw_deep (bs : List Nat) : ∀ n, deepL ((Tw bs).pre n) = n + bs.length := by
  induction bs with
  | nil => intro n; rw [Tw_pre0]; simp [deepL]
  | cons b bs ih => intro n; rw [Tw_pre1]; simp only [deepL_cons, ih, List.length_cons]; omega
theorem sound_arr (va : Option Addr) (n cap : Nat) (l : List MT) : soundB (arrT va n cap l) = decide (n ≤ 300) := by
  show (decide (n ≤ 300) && blankB _) = _
  rw [show blankB _ = true from rfl, Bool.and_true]
theorem Tw_all (bs : List Nat) : ∀ n, ((Tw bs).pre n).all (fun x => decide (x.1 ≤ 64) && soundB x.2) = decide (n + bs.length ≤ 64) := by
  induction bs with
  | nil =>
    intro n; rw [Tw_pre0]
    simp only [List.all_cons, List.all_nil, Bool.and_true, List.length_nil, Nat.add_zero]
    rw [show soundB (leafT 1 false ⟨#[]⟩) = true from rfl, Bool.and_true]
  | cons b bs ih =>
    intro n; rw [Tw_pre1]
    simp only [List.all_cons, ih, List.length_cons, sound_arr]
    by_cases h : n + (bs.length + 1) ≤ 64
    · rw [decide_eq_true h, decide_eq_true (show n ≤ 64 by omega), decide_eq_true (show n + 1 + bs.length ≤ 64 by omega)]; rfl
    · rw [decide_eq_false h, decide_eq_false (show ¬ n + 1 + bs.length ≤ 64 by omega), Bool.and_false]
theorem Tw_check (bs : List Nat) (h : bs.length ≤ 100) : checkB (Tw bs) = decide (bs.length < 64) := by
  unfold checkB
  rw [Tw_nodes, Tw_all, decide_eq_true (show bs.length + 1 ≤ 2000 by omega), Bool.true_and]
  congr 1; apply propext; omega
/-- A wide array. -/
def Wd (va : Option Addr) (n cap : Nat) : MT := arrT va n cap (List.replicate n (leafT 2 true ⟨#[]⟩))
theorem Wd_preL (n : Nat) : ∀ d, MT.preL (List.replicate n (leafT 2 true ⟨#[]⟩)) d = List.replicate n (d, leafT 2 true ⟨#[]⟩) := by
  induction n with
  | zero => intro d; simp [MT.preL_nil]
  | succ n ih => intro d; rw [List.replicate_succ, MT.preL_cons, ih, List.replicate_succ, MT.pre_eq]; simp [leafT, MT.v, MT.preL_nil]
theorem Wd_pre (va : Option Addr) (n cap d : Nat) : (Wd va n cap).pre d = (d, Wd va n cap) :: List.replicate n (d + 1, leafT 2 true ⟨#[]⟩) := by
  rw [MT.pre_eq]; simp only [Wd, arrT, MT.v, Wd_preL]
theorem Wd_nodes (va : Option Addr) (n cap : Nat) : (Wd va n cap).nodes = n + 1 := by rw [← MT.pre_len _ 0, Wd_pre]; simp
theorem Wd_check (va : Option Addr) (n cap : Nat) (h : n ≤ 1000) : checkB (Wd va n cap) = decide (n ≤ 300) := by
  unfold checkB
  rw [Wd_nodes, Wd_pre, decide_eq_true (show n + 1 ≤ 2000 by omega), Bool.true_and, List.all_cons]
  have h2 : (List.replicate n ((1 + 1, leafT 2 true ⟨#[]⟩) : Nat × MT)).all (fun x => decide (x.1 ≤ 64) && soundB x.2) = true := by
    rw [List.all_eq_true]; intro x hx; rw [List.eq_of_mem_replicate hx]; rfl
  rw [h2, Bool.and_true]
  show (decide (1 ≤ 64) && soundB (Wd va n cap)) = _
  rw [show soundB (Wd va n cap) = decide (n ≤ 300) from sound_arr _ _ _ _]; simp
theorem Wd_wt (va : Option Addr) (n cap : Nat) : wtL ((Wd va n cap).pre 1) = n + 1 := by
  rw [Wd_pre]
  show (_ :: _).foldl _ 0 = _
  rw [List.foldl_cons, wtL_from]
  have h2 : ∀ n, wtL (List.replicate n ((1 + 1, leafT 2 true ⟨#[]⟩) : Nat × MT)) = n := by
    intro n
    induction n with
    | zero => rfl
    | succ n ih => rw [List.replicate_succ']; rw [wtL_snoc, ih]; rfl
  rw [h2]
  show 0 + 1 + n = _
  omega
theorem leaf_pre (k : Int) (b : Bool) (s : ByteArray) (d : Nat) : (leafT k b s).pre d = [(d, leafT k b s)] := by simp [leafT, MT.pre_eq, MT.preL_nil, MT.v]
theorem leaf_check (k : Int) (b : Bool) (s : ByteArray) : checkB (leafT k b s) = soundB (leafT k b s) := by
  unfold checkB
  rw [← MT.pre_len _ 1, leaf_pre]; simp
/-- So many noughts. -/
theorem noughts_data (l : Nat) : (strOfNums (List.replicate l 0)).data.toList = List.replicate l 0 := by
  unfold strOfNums
  simp
theorem info_byte : (Try.prog.info? 5).map (fun i => (i.zero, i.size, i.bytes)) = some (some (.int .u8 0), 1, 1) := by kernel_rfl
theorem made_bytes (n : Nat) : (madeCells (Value.cells (.int .u8 0)) (n * 1)).toList = List.replicate n (.int .u8 0) := by
  simp only [madeCells]
  apply List.ext_getElem
  · simp
  · intro i h1 h2; simp [Value.cells, Nat.mod_one]
theorem valid_noughts (l : Nat) : validL (List.replicate l 0) = true := by
  induction l with
  | zero => decide +kernel
  | succ l ih => rw [List.replicate_succ']; exact (valid_append ih (by decide +kernel)).1
theorem text_check (l : Nat) : checkB (leafT 4 false (strOfNums (List.replicate l 0))) = decide (l ≤ 2000) := by
  have hs : (strOfNums (List.replicate l 0)).size = l := by
    have := congrArg List.length (noughts_data l); simpa using this
  rw [leaf_check]
  show (validL (strOfNums (List.replicate l 0)).data.toList && (decide ((strOfNums (List.replicate l 0)).size ≤ 2000) && blankB _)) = _
  rw [noughts_data, valid_noughts, hs]
  show (decide (l ≤ 2000) && true) = _
  simp
end Go.Proofs.Ytndjdmgncjiggaa
/- The law TreeLimits. -/
namespace Go.Proofs.Ytndjdmgncjiggaa
open Go.RowKit Go.Shelf
set_option linter.unusedVariables false
set_option linter.unusedSimpArgs false

/-- A tree that can be read, whatever happens to one block. -/
def RepB (s : Nat) (w : World) (t : MT) : Prop := ∀ W, But s w W → Rep W t
theorem RepB.on {s : Nat} {w W : World} {t : MT} (h : RepB s w t) (hb : But s w W) : RepB s W t := fun U hU => h U (hb.trans hU)
theorem RepB.rep {s : Nat} {w : World} {t : MT} (h : RepB s w t) : Rep w t := h w (But.refl s w)
theorem Tw_step {s : Nat} {w : World} {bs : List Nat} (h : RepB s w (Tw bs)) (hs : s < w.heap.size) : RepB s (w.alloc (.cells (flat [(Tw bs).c]).toArray 31)) (Tw (w.heap.size :: bs)) := by
  intro W hW
  have hb : But s w W := (But.of_below ((Below.refl _ w).alloc (Nat.le_refl _) (.cells (flat [(Tw bs).c]).toArray 31))).trans hW
  refine arrT_rep rfl (Nat.le_refl _) (by decide) (hW.rd (rdv_new w (flat [(Tw bs).c]) 31) (fun a e _ => by cases e; simp; omega)) ?_
  intro t ht
  simp at ht; subst ht
  exact h W hb
theorem cel_one (c : Cel) : ∀ u ∈ c.cells, u.oneCell' = true := by
  intro u hu; simp [Cel.cells] at hu
  rcases hu with rfl | rfl | rfl | rfl | rfl | rfl | rfl | rfl <;> rfl
theorem flat_append1 (l : List Cel) (c : Cel) : flat (l ++ [c]) = flat l ++ c.cells := by simp [flat]
theorem own_other {w w' : World} {B : Nat} {e : TypeId} {size : Nat} {v : Value} {n : Nat} {xs : List Value} (h : w.ownsRow B e size v n xs) (hk : ∀ k, v.ownBlock = some k → w'.heap[k]? = w.heap[k]?) : w'.ownsRow B e size v n xs := by
  refine ⟨h.1, ?_⟩
  rcases h.2 with h2 | ⟨g, cap, cur, rfl, hB, hg, rest⟩
  · exact .inl h2
  · refine .inr ⟨g, cap, cur, rfl, hB, ?_, rest⟩
    rw [hk g rfl]; exact hg
/-- What holds from round to round of the first loop. -/
def L1 (w : World) (s d : Nat) (k : Nat) (i : Value) (wr : World) : Prop :=
  ∃ bs : List Nat, bs.length ≤ d ∧ d - bs.length ≤ k ∧ i = .int .i64 (bs.length : Int) ∧ BlkV wr s 31 (flat [(Tw bs).c]) ∧ RepB s wr (Tw bs) ∧ Below w.heap.size w wr
/-- Of the second one. -/
def L2 (w1 : World) (s n : Nat) (k : Nat) (i : Value) (wr : World) : Prop :=
  ∃ (m : Nat) (ad : Option Addr) (cap : Nat), m ≤ n ∧ n - m ≤ k ∧ i = .int .i64 (m : Int) ∧ BlkV wr s 31 (flat [arrC ad m cap]) ∧ wr.ownsRow (s + 1) 31 8 (.slice ad m cap) m (flat (List.replicate m (leafC 2 true ⟨#[]⟩))) ∧ Below w1.heap.size w1 wr

/-- One more in the list. -/
theorem L2_step {w1 wr : World} {s n k m : Nat} {ad : Option Addr} {cap : Nat} (hlt : m < n) (hk : n - m ≤ k + 1) (hb : BlkV wr s 31 (flat [arrC ad m cap])) (ho : wr.ownsRow (s + 1) 31 8 (.slice ad m cap) m (flat (List.replicate m (leafC 2 true ⟨#[]⟩)))) (hB : Below w1.heap.size w1 wr) (hs : w1.heap.size ≤ s)
    {v' : Value} {w' : World} (ho' : w'.ownsRow (s + 1) 31 8 v' (m + 1) (flat (List.replicate m (leafC 2 true ⟨#[]⟩)) ++ (leafC 2 true ⟨#[]⟩).cells)) (hg : (wr.alloc (.cells (leafC 2 true ⟨#[]⟩).cells.toArray 31)).grownBy w' (Value.slice ad m cap).ownBlock) :
    ∃ ad' cap', v' = .slice ad' (m + 1) cap' ∧ BlkV w' s 31 (flat [arrC ad m cap]) ∧ s < w'.heap.size ∧ L2 w1 s n k (.int .i64 ((m : Int) + 1)) (w'.setCell ⟨s, 7, none⟩ v') := by
  obtain ⟨ad', cap', rfl, hc', hr', _, ha', _⟩ := own_viewN ho'
  obtain ⟨_, _, e0, _, _, _, ha0, _⟩ := own_viewN ho
  cases e0
  have hslt := hb.lt
  have hblk : (Value.slice ad m cap).ownBlock ≠ some s := by
    intro h
    cases ad with
    | none => cases h
    | some a => simp only [Value.ownBlock, Option.some.injEq] at h; have := (ha0 a rfl).1; omega
  have hb' : BlkV w' s 31 (flat [arrC ad m cap]) := by
    unfold BlkV at hb ⊢
    rw [hg.block s (by simp; omega) (fun h => hblk h.symm), Below.heap_alloc _ _ _ hslt]; exact hb
  have hsz := hg.size
  simp only [World.size_alloc] at hsz
  refine ⟨ad', cap', rfl, hb', by omega, ?_⟩
  refine ⟨m + 1, ad', cap', hlt, by omega, rfl, ?_, ?_, ?_⟩
  · have := hb'.set 7 (.slice ad' (m + 1) cap')
    simpa [flat, Cel.cells, arrC] using this
  · rw [List.replicate_succ', flat_append1]
    refine own_other ho' (fun k hk => ?_)
    rw [Below.heap_setCell]
    intro e
    cases ad' with
    | none => cases hk
    | some a => simp only [Value.ownBlock, Option.some.injEq] at hk; have := (ha' a rfl).1; simp only at e; omega
  · exact ((hB.alloc hB.size _).grown hg (by have := hB.size; simp; omega) (fun k hk => by
      cases ad with
      | none => cases hk
      | some a => simp only [Value.ownBlock, Option.some.injEq] at hk; have := (ha0 a rfl).1; omega)).setCell hs _
end Go.Proofs.Ytndjdmgncjiggaa
