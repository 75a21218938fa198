/- Towers, wide arrays, long texts: what may be of them. -/
import Derived.Test.YtipibipaocpojaaDoorQh
import Derived.Laws.BytesArg
namespace Go.Proofs.YtipibipaocpojaaDoor
open Go.RowKit Go.Shelf
set_option linter.unusedVariables false
set_option linter.unusedSimpArgs false

/-- Arrays in arrays, by where each lies. -/
def Tw : List Nat → MT
  | [] => leafT 1 false ⟨#[]⟩
  | b :: bs => arrT (some ⟨b, 0, none⟩) 1 1 [Tw bs]
theorem Tw_pre0 (n : Nat) : (Tw []).pre n = [(n, leafT 1 false ⟨#[]⟩)] := by simp [Tw, leafT, MT.pre_eq, MT.preL_nil, MT.v]
theorem Tw_pre1 (b : Nat) (bs : List Nat) (n : Nat) : (Tw (b :: bs)).pre n = (n, arrT (some ⟨b, 0, none⟩) 1 1 [Tw bs]) :: (Tw bs).pre (n + 1) := by
  rw [Tw, MT.pre_eq]; simp [arrT, MT.preL_cons, MT.preL_nil, MT.v]
theorem Tw_len (bs : List Nat) : ∀ n, ((Tw bs).pre n).length = bs.length + 1 := by
  induction bs with
  | nil => intro n; rw [Tw_pre0]; rfl
  | cons b bs ih => intro n; rw [Tw_pre1]; simp [ih]
theorem Tw_nodes (bs : List Nat) : (Tw bs).nodes = bs.length + 1 := by rw [← MT.pre_len _ 0, Tw_len]
theorem deepL_from (l : List (Nat × MT)) : ∀ a, l.foldl (fun a x => max a x.1) a = max a (deepL l) := by
  unfold deepL
  induction l with
  | nil => intro a; simp
  | cons x l ih => intro a; rw [List.foldl_cons, List.foldl_cons, ih, ih (max 0 x.1)]; omega
theorem deepL_cons (x : Nat × MT) (l : List (Nat × MT)) : deepL (x :: l) = max x.1 (deepL l) := by
  show (x :: l).foldl _ 0 = _
  rw [List.foldl_cons, deepL_from]; simp
theorem deepL_app (l m : List (Nat × MT)) : deepL (l ++ m) = max (deepL l) (deepL m) := by
  induction l with
  | nil => simp [deepL]
  | cons x l ih => rw [List.cons_append, deepL_cons, deepL_cons, ih]; omega
theorem Tw_deep (bs : List Nat) : ∀ n, deepL ((Tw bs).pre n) = n + bs.length := by
  induction bs with
  | nil => intro n; rw [Tw_pre0]; simp [deepL]
  | cons b bs ih => intro n; rw [Tw_pre1]; simp only [deepL_cons, ih, List.length_cons]; omega
theorem sound_arr (va : Option Addr) (n cap : Nat) (l : List MT) : soundB (arrT va n cap l) = decide (n ≤ 300) := by
  show (decide (n ≤ 300) && blankB _) = _
  rw [show blankB _ = true from rfl, Bool.and_true]
theorem Tw_all (bs : List Nat) : ∀ n, ((Tw bs).pre n).all (fun x => decide (x.1 ≤ 64) && soundB x.2) = decide (n + bs.length ≤ 64) := by
  induction bs with
  | nil =>
    intro n; rw [Tw_pre0]
    simp only [List.all_cons, List.all_nil, Bool.and_true, List.length_nil, Nat.add_zero]
    rw [show soundB (leafT 1 false ⟨#[]⟩) = true from rfl, Bool.and_true]
  | cons b bs ih =>
    intro n; rw [Tw_pre1]
    simp only [List.all_cons, ih, List.length_cons, sound_arr]
    by_cases h : n + (bs.length + 1) ≤ 64
    · rw [decide_eq_true h, decide_eq_true (show n ≤ 64 by omega), decide_eq_true (show n + 1 + bs.length ≤ 64 by omega)]; rfl
    · rw [decide_eq_false h, decide_eq_false (show ¬ n + 1 + bs.length ≤ 64 by omega), Bool.and_false]
theorem Tw_check (bs : List Nat) (h : bs.length ≤ 100) : checkB (Tw bs) = decide (bs.length < 64) := by
  unfold checkB
  rw [Tw_nodes, Tw_all, decide_eq_true (show bs.length + 1 ≤ 2000 by omega), Bool.true_and]
  congr 1; apply propext; omega
/-- A wide array. -/
def Wd (va : Option Addr) (n cap : Nat) : MT := arrT va n cap (List.replicate n (leafT 2 true ⟨#[]⟩))
theorem Wd_preL (n : Nat) : ∀ d, MT.preL (List.replicate n (leafT 2 true ⟨#[]⟩)) d = List.replicate n (d, leafT 2 true ⟨#[]⟩) := by
  induction n with
  | zero => intro d; simp [MT.preL_nil]
  | succ n ih => intro d; rw [List.replicate_succ, MT.preL_cons, ih, List.replicate_succ, MT.pre_eq]; simp [leafT, MT.v, MT.preL_nil]
theorem Wd_pre (va : Option Addr) (n cap d : Nat) : (Wd va n cap).pre d = (d, Wd va n cap) :: List.replicate n (d + 1, leafT 2 true ⟨#[]⟩) := by
  rw [MT.pre_eq]; simp only [Wd, arrT, MT.v, Wd_preL]
theorem Wd_nodes (va : Option Addr) (n cap : Nat) : (Wd va n cap).nodes = n + 1 := by rw [← MT.pre_len _ 0, Wd_pre]; simp
theorem Wd_check (va : Option Addr) (n cap : Nat) (h : n ≤ 1000) : checkB (Wd va n cap) = decide (n ≤ 300) := by
  unfold checkB
  rw [Wd_nodes, Wd_pre, decide_eq_true (show n + 1 ≤ 2000 by omega), Bool.true_and, List.all_cons]
  have h2 : (List.replicate n ((1 + 1, leafT 2 true ⟨#[]⟩) : Nat × MT)).all (fun x => decide (x.1 ≤ 64) && soundB x.2) = true := by
    rw [List.all_eq_true]; intro x hx; rw [List.eq_of_mem_replicate hx]; rfl
  rw [h2, Bool.and_true]
  show (decide (1 ≤ 64) && soundB (Wd va n cap)) = _
  rw [show soundB (Wd va n cap) = decide (n ≤ 300) from sound_arr _ _ _ _]; simp
theorem Wd_wt (va : Option Addr) (n cap : Nat) : wtL ((Wd va n cap).pre 1) = n + 1 := by
  rw [Wd_pre]
  show (_ :: _).foldl _ 0 = _
  rw [List.foldl_cons, wtL_from]
  have h2 : ∀ n, wtL (List.replicate n ((1 + 1, leafT 2 true ⟨#[]⟩) : Nat × MT)) = n := by
    intro n
    induction n with
    | zero => rfl
    | succ n ih => rw [List.replicate_succ']; rw [wtL_snoc, ih]; rfl
  rw [h2]
  show 0 + 1 + n = _
  omega
theorem leaf_pre (k : Int) (b : Bool) (s : ByteArray) (d : Nat) : (leafT k b s).pre d = [(d, leafT k b s)] := by simp [leafT, MT.pre_eq, MT.preL_nil, MT.v]
theorem leaf_check (k : Int) (b : Bool) (s : ByteArray) : checkB (leafT k b s) = soundB (leafT k b s) := by
  unfold checkB
  rw [← MT.pre_len _ 1, leaf_pre]; simp
/-- So many noughts. -/
theorem noughts_data (l : Nat) : (strOfNums (List.replicate l 0)).data.toList = List.replicate l 0 := by
  unfold strOfNums
  simp
theorem info_byte : (Tryd.prog.info? 5).map (fun i => (i.zero, i.size, i.bytes)) = some (some (.int .u8 0), 1, 1) := by kernel_rfl
theorem made_bytes (n : Nat) : (madeCells (Value.cells (.int .u8 0)) (n * 1)).toList = List.replicate n (.int .u8 0) := by
  simp only [madeCells]
  apply List.ext_getElem
  · simp
  · intro i h1 h2; simp [Value.cells, Nat.mod_one]
/-- A new list of noughts. -/
theorem wpl_make_bytes (w : World) {ops : Array Oper} {rest : List Oper} {o : Oper} {a : Act} {Q : Exit → Act → World → Prop}
    (hg : o.guard = none) (l c : Operand) (hop : o.op = Op.makeSlice 39 l c) (kl kc : IntKind) (L C : Int) (n : Nat)
    (hl : a.eval l = .int kl L) (hc : a.eval c = .int kc C) (hL : L = (n : Int)) (hC : C = (n : Int)) (hn : n ≤ 1000000000000)
    (hK : ∀ w', BlkV w' w.heap.size 5 (List.replicate n (.int .u8 0)) → Below w.heap.size w w' → wpList Tryd.prog ops Q rest (a.put o.dst (.slice (some ⟨w.heap.size, 0, none⟩) n n)) w') :
    wpList Tryd.prog ops Q (o :: rest) a w := by
  obtain ⟨i0, hi, hz0, hz1, hz2⟩ := info_parts info_byte
  refine wpList_make_full w hg l c 39 hop w.heap.size 5 i0 (.int .u8 0) 1 Tryd.underlying39 hi hz0 hz1 kl kc L C n hl hc hL hC (by rw [hz2]; omega) (by unfold maxLen; omega) (Nat.le_refl _) ?_
  intro w' ho hgr
  refine hK w' ?_ ((Below.refl _ _).grown hgr (Nat.le_refl _) (fun k h => by cases h))
  obtain ⟨hl', h | ⟨g, cap, cur, e, _, hh, _, _, hs, ht⟩⟩ := ho
  · exact absurd h.1 (by simp)
  · simp only [Value.slice.injEq, Option.some.injEq, Addr.mk.injEq] at e
    obtain ⟨⟨rfl, _⟩, _, rfl⟩ := e
    unfold BlkV
    rw [hh, ← made_bytes]
    have : cur.toList = (madeCells (Value.cells (.int .u8 0)) (n * 1)).toList := by
      have h2 := ht
      rw [List.take_of_length_le (by simp [hs])] at h2
      simpa using h2
    rw [← this]
theorem conv_noughts (w : World) (g n : Nat) (h : BlkV w g 5 (List.replicate n (.int .u8 0))) : Sem.run Tryd.prog (convert 39 9 (.slice (some ⟨g, 0, none⟩) n n)) w = .ok (.string (strOfNums (List.replicate n 0))) w := by
  refine run_convert_bytes_arg _ 39 5 Tryd.underlying39 Tryd.underlying5 g 0 n n (List.replicate n 0) (by simp) ?_ 9 Tryd.underlying9
  intro i hi
  rw [Nat.zero_add, h.cell i]
  simp [hi, List.getD]
theorem valid_noughts (l : Nat) : validL (List.replicate l 0) = true := by
  induction l with
  | zero => decide +kernel
  | succ l ih => rw [List.replicate_succ']; exact (valid_append ih (by decide +kernel)).1
theorem text_check (l : Nat) : checkB (leafT 4 false (strOfNums (List.replicate l 0))) = decide (l ≤ 2000) := by
  have hs : (strOfNums (List.replicate l 0)).size = l := by
    have := congrArg List.length (noughts_data l); simpa using this
  rw [leaf_check]
  show (validL (strOfNums (List.replicate l 0)).data.toList && (decide ((strOfNums (List.replicate l 0)).size ≤ 2000) && blankB _)) = _
  rw [noughts_data, valid_noughts, hs]
  show (decide (l ≤ 2000) && true) = _
  simp
end Go.Proofs.YtipibipaocpojaaDoor
/- The law TreeLimits. -/
namespace Go.Proofs.YtipibipaocpojaaDoor
open Go.RowKit Go.Shelf
set_option linter.unusedVariables false
set_option linter.unusedSimpArgs false

/-- A tree that can be read, whatever happens to one block. -/
def RepB (s : Nat) (w : World) (t : MT) : Prop := ∀ W, But s w W → Rep W t
theorem RepB.on {s : Nat} {w W : World} {t : MT} (h : RepB s w t) (hb : But s w W) : RepB s W t := fun U hU => h U (hb.trans hU)
theorem RepB.rep {s : Nat} {w : World} {t : MT} (h : RepB s w t) : Rep w t := h w (But.refl s w)
theorem Tw_step {s : Nat} {w : World} {bs : List Nat} (h : RepB s w (Tw bs)) (hs : s < w.heap.size) : RepB s (w.alloc (.cells (flat [(Tw bs).c]).toArray 28)) (Tw (w.heap.size :: bs)) := by
  intro W hW
  have hb : But s w W := (But.of_below ((Below.refl _ w).alloc (Nat.le_refl _) (.cells (flat [(Tw bs).c]).toArray 28))).trans hW
  refine arrT_rep rfl (Nat.le_refl _) (by decide) (hW.rd (rdv_new w (flat [(Tw bs).c]) 28) (fun a e _ => by cases e; simp; omega)) ?_
  intro t ht
  simp at ht; subst ht
  exact h W hb
theorem cel_one (c : Cel) : ∀ u ∈ c.cells, u.oneCell' = true := by
  intro u hu; simp [Cel.cells] at hu
  rcases hu with rfl | rfl | rfl | rfl | rfl | rfl | rfl | rfl <;> rfl
theorem flat_append1 (l : List Cel) (c : Cel) : flat (l ++ [c]) = flat l ++ c.cells := by simp [flat]
theorem own_other {w w' : World} {B : Nat} {e : TypeId} {size : Nat} {v : Value} {n : Nat} {xs : List Value} (h : w.ownsRow B e size v n xs) (hk : ∀ k, v.ownBlock = some k → w'.heap[k]? = w.heap[k]?) : w'.ownsRow B e size v n xs := by
  refine ⟨h.1, ?_⟩
  rcases h.2 with h2 | ⟨g, cap, cur, rfl, hB, hg, rest⟩
  · exact .inl h2
  · refine .inr ⟨g, cap, cur, rfl, hB, ?_, rest⟩
    rw [hk g rfl]; exact hg
/-- What holds from round to round of the first loop. -/
def L1 (w : World) (s d : Nat) (k : Nat) (i : Value) (wr : World) : Prop :=
  ∃ bs : List Nat, bs.length ≤ d ∧ d - bs.length ≤ k ∧ i = .int .i64 (bs.length : Int) ∧ BlkV wr s 28 (flat [(Tw bs).c]) ∧ RepB s wr (Tw bs) ∧ Below w.heap.size w wr
/-- Of the second one. -/
def L2 (w1 : World) (s n : Nat) (k : Nat) (i : Value) (wr : World) : Prop :=
  ∃ (m : Nat) (ad : Option Addr) (cap : Nat), m ≤ n ∧ n - m ≤ k ∧ i = .int .i64 (m : Int) ∧ BlkV wr s 28 (flat [arrC ad m cap]) ∧ wr.ownsRow (s + 1) 28 8 (.slice ad m cap) m (flat (List.replicate m (leafC 2 true ⟨#[]⟩))) ∧ Below w1.heap.size w1 wr

/-- One more in the list. -/
theorem L2_step {w1 wr : World} {s n k m : Nat} {ad : Option Addr} {cap : Nat} (hlt : m < n) (hk : n - m ≤ k + 1) (hb : BlkV wr s 28 (flat [arrC ad m cap])) (ho : wr.ownsRow (s + 1) 28 8 (.slice ad m cap) m (flat (List.replicate m (leafC 2 true ⟨#[]⟩)))) (hB : Below w1.heap.size w1 wr) (hs : w1.heap.size ≤ s)
    {v' : Value} {w' : World} (ho' : w'.ownsRow (s + 1) 28 8 v' (m + 1) (flat (List.replicate m (leafC 2 true ⟨#[]⟩)) ++ (leafC 2 true ⟨#[]⟩).cells)) (hg : (wr.alloc (.cells (leafC 2 true ⟨#[]⟩).cells.toArray 28)).grownBy w' (Value.slice ad m cap).ownBlock) :
    ∃ ad' cap', v' = .slice ad' (m + 1) cap' ∧ BlkV w' s 28 (flat [arrC ad m cap]) ∧ s < w'.heap.size ∧ L2 w1 s n k (.int .i64 ((m : Int) + 1)) (w'.setCell ⟨s, 7, none⟩ v') := by
  obtain ⟨ad', cap', rfl, hc', hr', _, ha', _⟩ := own_viewN ho'
  obtain ⟨_, _, e0, _, _, _, ha0, _⟩ := own_viewN ho
  cases e0
  have hslt := hb.lt
  have hblk : (Value.slice ad m cap).ownBlock ≠ some s := by
    intro h
    cases ad with
    | none => cases h
    | some a => simp only [Value.ownBlock, Option.some.injEq] at h; have := (ha0 a rfl).1; omega
  have hb' : BlkV w' s 28 (flat [arrC ad m cap]) := by
    unfold BlkV at hb ⊢
    rw [hg.block s (by simp; omega) (fun h => hblk h.symm), Below.heap_alloc _ _ _ hslt]; exact hb
  have hsz := hg.size
  simp only [World.size_alloc] at hsz
  refine ⟨ad', cap', rfl, hb', by omega, ?_⟩
  refine ⟨m + 1, ad', cap', hlt, by omega, rfl, ?_, ?_, ?_⟩
  · have := hb'.set 7 (.slice ad' (m + 1) cap')
    simpa [flat, Cel.cells, arrC] using this
  · rw [List.replicate_succ', flat_append1]
    refine own_other ho' (fun k hk => ?_)
    rw [Below.heap_setCell]
    intro e
    cases ad' with
    | none => cases hk
    | some a => simp only [Value.ownBlock, Option.some.injEq] at hk; have := (ha' a rfl).1; simp only at e; omega
  · exact ((hB.alloc hB.size _).grown hg (by have := hB.size; simp; omega) (fun k hk => by
      cases ad with
      | none => cases hk
      | some a => simp only [Value.ownBlock, Option.some.injEq] at hk; have := (ha0 a rfl).1; omega)).setCell hs _
set_option maxHeartbeats 8000000 in
set_option maxRecDepth 100000 in
theorem treeLimits_walk (n k m : Int) (w : World) (hn : -9223372036854775808 ≤ n ∧ n ≤ 9223372036854775807) (hk : -9223372036854775808 ≤ k ∧ k ≤ 9223372036854775807) (hm : -9223372036854775808 ≤ m ∧ m ≤ 9223372036854775807) (hT : UT w) :
    Calls Tryd.prog 4 #[.int .i64 n, .int .i64 k, .int .i64 m] w (BoolBelow true w) := by
  have KP1 := Lib.hid (fun W => place_any n 80 W hn (by decide))
  have KP2 := Lib.hid (fun W => place_any k 320 W hk (by decide))
  have KP3 := Lib.hid (fun W => place_any m 2100 W hm (by decide))
  obtain ⟨d, hd, hd8⟩ : ∃ d : Nat, n % 80 = (d : Int) ∧ d < 80 := ⟨(n % 80).toNat, by have := Int.emod_nonneg n (show (80 : Int) ≠ 0 by decide); omega, by have := Int.emod_lt_of_pos n (show (0 : Int) < 80 by decide); omega⟩
  obtain ⟨v, hv, hv8⟩ : ∃ d : Nat, k % 320 = (d : Int) ∧ d < 320 := ⟨(k % 320).toNat, by have := Int.emod_nonneg k (show (320 : Int) ≠ 0 by decide); omega, by have := Int.emod_lt_of_pos k (show (0 : Int) < 320 by decide); omega⟩
  obtain ⟨l, hl, hl8⟩ : ∃ d : Nat, m % 2100 = (d : Int) ∧ d < 2100 := ⟨(m % 2100).toNat, by have := Int.emod_nonneg m (show (2100 : Int) ≠ 0 by decide); omega, by have := Int.emod_lt_of_pos m (show (0 : Int) < 2100 by decide); omega⟩
  rw [hd] at KP1; rw [hv] at KP2; rw [hl] at KP3
  clear hd hv hl hn hk hm
  have HT := Lib.hid hT
  clear hT
  go_enter Tryd.func4, Tryd.ntmps4
  go_wp2_with fail
  refine (KP1.out _).mono ?_
  rintro r w' ⟨rfl, h⟩
  rw [h]
  clear h
  have HS1 := Lib.hid (show L1 w w.heap.size d d (.int .i64 0) (w.alloc (.cells #[.int .i64 1, .bool false, .bool false, .slice none 0 0, .int .i64 0, .string ⟨#[]⟩, .slice none 0 0, .slice none 0 0] 28)) from
    ⟨[], Nat.zero_le _, Nat.le_refl _, rfl, by unfold BlkV; exact heap_alloc_new w _, fun W _ => leafT_rep W _ _ _ (by decide) (by decide), (Below.refl _ w).alloc (Nat.le_refl _) _⟩)
  go_wp2_with fail
  go_loopg [9] d (fun k i wr => L1 w w.heap.size d k i wr)
  case atStart => exact HS1.out
  case round =>
    obtain ⟨bs, h1, h2, rfl, h4, h5, h6⟩ := hrel
    have H4 := Lib.hid h4; have H5 := Lib.hid h5; have H6 := Lib.hid h6
    by_cases hlt : bs.length < d
    · obtain ⟨gk, rfl⟩ : ∃ j, gk = j + 1 := ⟨gk - 1, by omega⟩
      have hltz : (bs.length : Int) < (d : Int) := by omega
      obtain ⟨c0, c1, c2, c3, c4, c5, c6, c7⟩ := flat_at h4.all 0 (by simp) rfl
      have o0 := h4.free 0; have o1 := h4.free 1; have o2 := h4.free 2; have o3 := h4.free 3; have o4 := h4.free 4; have o5 := h4.free 5; have o6 := h4.free 6; have o7 := h4.free 7
      have hslt := h4.lt
      simp only [Nat.zero_mul, Nat.zero_add, List.getD_cons_zero] at c0 c1 c2 c3 c4 c5 c6 c7
      have HN := Lib.hid (fun W (e : W = (put8 wr w.heap.size (0 * 8) (arrC (some ⟨wr.heap.size, 0, none⟩) 1 1)).alloc (.cells (Tw bs).c.cells.toArray 28)) => (by
        have hfl : (flat [(Tw bs).c]) = (Tw bs).c.cells := by simp [flat]
        have hz : (put8 wr w.heap.size (0 * 8) (arrC (some ⟨wr.heap.size, 0, none⟩) 1 1)).heap.size = wr.heap.size := by simp [put8, World.setCell]
        have hst := Tw_step (H5.out.on (put8_but wr w.heap.size (0 * 8) (arrC (some ⟨wr.heap.size, 0, none⟩) 1 1))) (by rw [hz]; exact hslt)
        rw [hfl, hz] at hst
        refine ⟨wr.heap.size :: bs, by simp; omega, by simp; omega, by simp, ?_, ?_, ?_⟩
        · rw [e]
          exact (put8_blk H4.out 0 (by simp) (arrC (some ⟨wr.heap.size, 0, none⟩) 1 1)).below ((Below.refl _ _).alloc (Nat.le_refl _) _) (by rw [hz]; exact hslt)
        · rw [e]; exact hst
        · rw [e]; exact (H6.out.trans ((put8_but _ _ _ _).below (Nat.le_refl _) (by have := H6.out.size; omega))).alloc (by rw [hz]; exact H6.out.size) _ : L1 w w.heap.size d gk (.int .i64 ((bs.length : Int) + 1)) W))
      clear h4 h5 h6
      unfold put8 at HN
      generalize (Tw bs).c = c at *
      obtain ⟨xk, xb, xneg, xma, xmn, xmc, xe, xs, xka, xkn, xkc, xva, xvn, xvc⟩ := c
      simp only [arrC, Cel.cells] at HN c0 c1 c2 c3 c4 c5 c6 c7
      go_wp2_with fail
      go_roundg gk
      case rel => exact HN.out _ rfl
      case measure => omega
    · have hltz : ¬ (bs.length : Int) < (d : Int) := by omega
      rename World => wA
      have he : bs.length = d := by omega
      go_wp2_with fail
      refine (KP2.out _).mono ?_
      rintro r w' ⟨rfl, h⟩
      rw [h]
      clear h
      go_wp2_with fail
      have HS2 := Lib.hid (show L2 wA wA.heap.size v v (.int .i64 0) (wA.alloc (.cells #[.int .i64 6, .bool false, .bool false, .slice none 0 0, .int .i64 0, .string ⟨#[]⟩, .slice none 0 0, .slice none 0 0] 28)) from
        ⟨0, none, 0, Nat.zero_le _, Nat.le_refl _, rfl, by unfold BlkV; exact heap_alloc_new wA _, World.ownsRow_nil _ _ _ _, (Below.refl _ wA).alloc (Nat.le_refl _) _⟩)
      clear h4 h5 h6
      go_loopg [12] v (fun k i wr2 => L2 wA wA.heap.size v k i wr2)
      case atStart => exact HS2.out
      case round =>
        obtain ⟨mm, ad, cap, h1, h2, rfl, h4, h5, h6⟩ := hrel
        by_cases hlt : mm < v
        · obtain ⟨gk, rfl⟩ : ∃ j, gk = j + 1 := ⟨gk - 1, by omega⟩
          have hltz : (mm : Int) < (v : Int) := by omega
          obtain ⟨c0, c1, c2, c3, c4, c5, c6, c7⟩ := flat_at h4.all 0 (by simp) rfl
          simp only [Nat.zero_mul, Nat.zero_add, List.getD_cons_zero, arrC] at c7
          have HN := Lib.hid (fun v' w' ho hg => L2_step (v' := v') (w' := w') hlt h2 h4 h5 h6 (Nat.le_refl _) ho hg)
          have HO := Lib.hid h5
          have hslt := h4.lt
          clear h4 h5 h6 c0 c1 c2 c3 c4 c5 c6
          go_wp2_with (at_builtin; refine wpl_appV Tryd.underlying26 info_tree rfl (by decide) (by decide) _ rfl _ _ rfl (wA.heap.size + 1) (.slice ad mm cap) mm (flat (List.replicate mm (leafC 2 true ⟨#[]⟩))) rfl (own_onN HO.out ((Below.refl _ _).alloc (Nat.le_refl _) _)) (some ⟨wr.heap.size, 0, none⟩) 1 1 (leafC 2 true ⟨#[]⟩).cells rfl rfl (rdv_new _ _ _) (cel_one _) (fun h => by cases h) (by omega) (by simp; omega) ?_)
          intro v' w2 ho2 hg2
          obtain ⟨ad', cap', rfl, hb2, hs2, hl2⟩ := HN.out v' w2 ho2 hg2
          have HL := Lib.hid hl2
          have c9 := hb2.cell 7
          have f9 := hb2.free 7
          have c9' : w2.cell? ⟨wA.heap.size, 7, none⟩ = some (.slice ad mm cap) := by rw [c9]; rfl
          clear hb2 hl2 ho2 hg2 c9
          go_wp2_with fail
          go_roundg gk
          case rel => exact HL.out
          case measure => omega
        · have hltz : ¬ (mm : Int) < (v : Int) := by omega
          have hv2 : mm = v := by omega
          go_wp2_with fail
          refine (KP3.out _).mono ?_
          rintro r w' ⟨rfl, h⟩
          rw [h]
          clear h
          have hB0 : Below w.heap.size w wr := H6.out.trans (h6.mono H6.out.size)
          have hu : Rep wr (Wd ad v cap) := by
            obtain ⟨_, _, e, hc', hr', _, _, _⟩ := own_viewN h5
            cases e
            rw [hv2] at hr' hc'
            exact arrT_rep (by simp) hc' (by omega) (by simpa [leafT, MT.c] using hr') (fun t ht => by rw [List.eq_of_mem_replicate ht]; exact leafT_rep _ _ _ _ (by decide) (by decide))
          have ht : Rep wr (Tw bs) := H5.out.rep.on h6
          have hbt : BlkV wr w.heap.size 28 (flat [(Tw bs).c]) := H4.out.below h6 H4.out.lt
          rw [hv2] at h4
          have HQ := Lib.hid (⟨hB0, hu, ht, hbt, h4⟩ : Below w.heap.size w wr ∧ Rep wr (Wd ad v cap) ∧ Rep wr (Tw bs) ∧ BlkV wr w.heap.size 28 (flat [(Tw bs).c]) ∧ BlkV wr wA.heap.size 28 (flat [arrC ad v cap]))
          have KX := Lib.hid (fun wm (hm : Below wr.heap.size wr wm) => (by
            have hb := hbt.below hm hbt.lt
            obtain ⟨q0, q1, q2, q3, q4, q5, q6, q7⟩ := flat_at hb.all 0 (by simp) rfl
            simp only [Nat.zero_mul, Nat.zero_add, List.getD_cons_zero] at q0 q1 q2 q3 q4 q5 q6 q7
            exact ⟨hb.lt, q0, q1, q2, q3, q4, q5, q6, q7⟩ :
            w.heap.size < wm.heap.size ∧ wm.cell? ⟨w.heap.size, 0, none⟩ = some (.int .i64 (Tw bs).c.k) ∧ wm.cell? ⟨w.heap.size, 1, none⟩ = some (.bool (Tw bs).c.b) ∧ wm.cell? ⟨w.heap.size, 2, none⟩ = some (.bool (Tw bs).c.neg) ∧ wm.cell? ⟨w.heap.size, 3, none⟩ = some (.slice (Tw bs).c.ma (Tw bs).c.mn (Tw bs).c.mc) ∧
            wm.cell? ⟨w.heap.size, 4, none⟩ = some (.int .i64 (Tw bs).c.e) ∧ wm.cell? ⟨w.heap.size, 5, none⟩ = some (.string (Tw bs).c.s) ∧ wm.cell? ⟨w.heap.size, 6, none⟩ = some (.slice (Tw bs).c.ka (Tw bs).c.kn (Tw bs).c.kc) ∧ wm.cell? ⟨w.heap.size, 7, none⟩ = some (.slice (Tw bs).c.va (Tw bs).c.vn (Tw bs).c.vc)))
          have KY := Lib.hid (fun wm (hm : Below wr.heap.size wr wm) => (by
            have hb := h4.below hm h4.lt
            obtain ⟨q0, q1, q2, q3, q4, q5, q6, q7⟩ := flat_at hb.all 0 (by simp) rfl
            simp only [Nat.zero_mul, Nat.zero_add, List.getD_cons_zero, arrC] at q0 q1 q2 q3 q4 q5 q6 q7
            exact ⟨q0, q1, q2, q3, q4, q5, q6, q7⟩ :
            wm.cell? ⟨wA.heap.size, 0, none⟩ = some (.int .i64 6) ∧ wm.cell? ⟨wA.heap.size, 1, none⟩ = some (.bool false) ∧ wm.cell? ⟨wA.heap.size, 2, none⟩ = some (.bool false) ∧ wm.cell? ⟨wA.heap.size, 3, none⟩ = some (.slice none 0 0) ∧
            wm.cell? ⟨wA.heap.size, 4, none⟩ = some (.int .i64 0) ∧ wm.cell? ⟨wA.heap.size, 5, none⟩ = some (.string ⟨#[]⟩) ∧ wm.cell? ⟨wA.heap.size, 6, none⟩ = some (.slice none 0 0) ∧ wm.cell? ⟨wA.heap.size, 7, none⟩ = some (.slice ad v cap)))
          have KZ := Lib.hid (fun wm s Wf (e : Wf = World.alloc wm (.cells (leafC 4 false s).cells.toArray 28)) W (h : Below Wf.heap.size Wf W) => (by
            have hb : BoxT Wf wm.heap.size (leafC 4 false s) := by rw [e]; exact heap_alloc_new wm _
            obtain ⟨q0, q1, q2, q3, q4, q5, q6, q7⟩ := (hb.on (h.block _ hb.lt)).cells
            exact ⟨q0, q1, q2, q3, q4, q5, q6, q7⟩ :
            W.cell? ⟨wm.heap.size, 0, none⟩ = some (.int .i64 4) ∧ W.cell? ⟨wm.heap.size, 1, none⟩ = some (.bool false) ∧ W.cell? ⟨wm.heap.size, 2, none⟩ = some (.bool false) ∧ W.cell? ⟨wm.heap.size, 3, none⟩ = some (.slice none 0 0) ∧
            W.cell? ⟨wm.heap.size, 4, none⟩ = some (.int .i64 0) ∧ W.cell? ⟨wm.heap.size, 5, none⟩ = some (.string s) ∧ W.cell? ⟨wm.heap.size, 6, none⟩ = some (.slice none 0 0) ∧ W.cell? ⟨wm.heap.size, 7, none⟩ = some (.slice none 0 0)))
          have KU := Lib.hid (fun W (h : Below wr.heap.size wr W) => HT.out.below (hB0.trans (h.mono hB0.size)))
          have KB := Lib.hid (fun W (h : Below wr.heap.size wr W) => hB0.trans (h.mono hB0.size))
          have K1 := Lib.hid (fun W (h : Below wr.heap.size wr W) => checkT_any (Tw bs) W (ht.on h) (KU.out W h))
          have K2 := Lib.hid (fun W (h : Below wr.heap.size wr W) => depth_any (Tw bs) W (ht.on h) (by rw [Tw_nodes]; omega))
          have K3 := Lib.hid (fun W (h : Below wr.heap.size wr W) => checkT_any (Wd ad v cap) W (hu.on h) (KU.out W h))
          have K4 := Lib.hid (fun W (h : Below wr.heap.size wr W) => weight_any (Wd ad v cap) W (hu.on h) (by rw [Wd_nodes]; omega) (by rw [Wd_wt]; omega))
          have K5 := Lib.hid (fun W (h : Below wr.heap.size wr W) => checkT_any (leafT 4 false (strOfNums (List.replicate l 0))) W (leafT_rep W _ _ _ (by decide) (by
            have := congrArg List.length (noughts_data l); simp at this; rw [this]; unfold maxLen; omega)) (KU.out W h))
          have K6 := Lib.hid (fun W (h : Below wr.heap.size wr W) => awake5_any W (KU.out W h))
          have KF := Lib.hid (fun W W' (h : Below wr.heap.size wr W) (k : Below W.heap.size W W') => (below_on h k : Below wr.heap.size wr W'))
          rw [Tw_check bs (by omega), he, show decide (d < 64) = decide ((d : Int) < 64) by congr 1; apply propext; omega] at K1
          rw [Tw_deep, he] at K2
          rw [Wd_check _ _ _ (by omega), show decide (v ≤ 300) = decide ((v : Int) ≤ 300) by congr 1; apply propext; omega] at K3
          rw [Wd_wt] at K4
          rw [text_check, show decide (l ≤ 2000) = decide ((l : Int) ≤ 2000) by congr 1; apply propext; omega] at K5
          unfold Wd arrT at K3 K4
          unfold leafT at K5
          simp only [MT.c, arrC, leafC] at K3 K4 K5
          unfold Cel.val at K1 K2 K3 K4 K5
          simp only at K1 K2 K3 K4 K5
          generalize (Tw bs).c = tc at *
          clear hB0 hu ht hbt h4 h5 h6
          clear H4 H5 H6 HS2 HS1 h1 h2 hlt hltz
          go_wp2_with (at_make; refine wpl_make_bytes _ rfl _ _ rfl _ _ _ _ l rfl rfl rfl rfl (by omega) ?_; intro wm hbm hm; have hcv := conv_noughts _ _ _ hbm; have HM := Lib.hid hm; obtain ⟨hlw, q0, q1, q2, q3, q4, q5, q6, q7⟩ := KX.out wm hm; clear hbm hm)
          have HF := Lib.hid (HM.out.alloc HM.out.size (.cells (leafC 4 false (strOfNums (List.replicate l 0))).cells.toArray 28))
          have HZ := Lib.hid (KZ.out wm _ _ rfl : ∀ W, Below (World.alloc wm (.cells (leafC 4 false (strOfNums (List.replicate l 0))).cells.toArray 28)).heap.size (World.alloc wm (.cells (leafC 4 false (strOfNums (List.replicate l 0))).cells.toArray 28)) W → _)
          simp only [leafC, Cel.cells] at HF HZ
          clear KZ
          refine (K1.out _ HF.out).mono ?_
          rintro r x1 ⟨rfl, h1⟩
          have Z1 := Lib.hid h1
          have B1 := Lib.hid (KF.out _ _ HF.out h1); clear h1 q0 q1 q2 q3 q4 q5 q6 q7 hcv
          obtain ⟨_, q0, q1, q2, q3, q4, q5, q6, q7⟩ := KX.out _ B1.out
          go_wp2_with fail
          refine (K2.out _ B1.out).mono ?_
          rintro r x2 ⟨rfl, h1⟩
          have Z2 := Lib.hid (below_on Z1.out h1)
          have B2 := Lib.hid (KF.out _ _ B1.out h1); clear h1 q0 q1 q2 q3 q4 q5 q6 q7
          obtain ⟨q0, q1, q2, q3, q4, q5, q6, q7⟩ := KY.out _ B2.out
          go_wp2_with fail
          refine (K3.out _ B2.out).mono ?_
          rintro r x3 ⟨rfl, h1⟩
          have Z3 := Lib.hid (below_on Z2.out h1)
          have B3 := Lib.hid (KF.out _ _ B2.out h1); clear h1 q0 q1 q2 q3 q4 q5 q6 q7
          obtain ⟨q0, q1, q2, q3, q4, q5, q6, q7⟩ := KY.out _ B3.out
          go_wp2_with fail
          refine (K4.out _ B3.out).mono ?_
          rintro r x4 ⟨rfl, h1⟩
          have Z4 := Lib.hid (below_on Z3.out h1)
          have B4 := Lib.hid (KF.out _ _ B3.out h1); clear h1 q0 q1 q2 q3 q4 q5 q6 q7
          obtain ⟨q0, q1, q2, q3, q4, q5, q6, q7⟩ := HZ.out _ Z4.out
          go_wp2_with fail
          refine (K5.out _ B4.out).mono ?_
          rintro r x5 ⟨rfl, h1⟩
          have B5 := Lib.hid (KF.out _ _ B4.out h1); clear h1 q0 q1 q2 q3 q4 q5 q6 q7
          go_wp2_with fail
          refine (K6.out _ B5.out).mono ?_
          rintro r x6 ⟨rfl, h1⟩
          have B6 := Lib.hid (KF.out _ _ B5.out h1); clear h1
          go_wp2
          go_ret
          exact BoolBelow.mk rfl (KB.out _ B6.out)
end Go.Proofs.YtipibipaocpojaaDoor
