/- Towers, wide arrays, long texts: what may be of them. -/
import Derived.Test.YtipibipaocpojaaDoorK8
import Derived.Test.YtipibipaocpojaaDoorPlz
import Derived.Laws.BytesArg
namespace Go.Proofs.YtipibipaocpojaaDoor
open Go.RowKit Go.Shelf
set_option linter.unusedVariables false
set_option linter.unusedSimpArgs false

/-- Arrays in arrays, by where each lies. -/
def Tw : List Nat → MT
  | [] => leafT 1 false ⟨#[]⟩
  | b :: bs => arrT (some ⟨b, 0, none⟩) 1 1 [Tw bs]
theorem Tw_pre0 (n : Nat) : (Tw []).pre n = [(n, leafT 1 false ⟨#[]⟩)] := by simp [Tw, leafT, MT.pre_eq, MT.preL_nil, MT.v]
theorem Tw_pre1 (b : Nat) (bs : List Nat) (n : Nat) : (Tw (b :: bs)).pre n = (n, arrT (some ⟨b, 0, none⟩) 1 1 [Tw bs]) :: (Tw bs).pre (n + 1) := by
  rw [Tw, MT.pre_eq]; simp [arrT, MT.preL_cons, MT.preL_nil, MT.v]
theorem Tw_len (bs : List Nat) : ∀ n, ((Tw bs).pre n).length = bs.length + 1 := by
  induction bs with
  | nil => intro n; rw [Tw_pre0]; rfl
  | cons b bs ih => intro n; rw [Tw_pre1]; simp [ih]
theorem Tw_nodes (bs : List Nat) : (Tw bs).nodes = bs.length + 1 := by rw [← MT.pre_len _ 0, Tw_len]
theorem deepL_from (l : List (Nat × MT)) : ∀ a, l.foldl (fun a x => max a x.1) a = max a (deepL l) := by
  unfold deepL
  induction l with
  | nil => intro a; simp
  | cons x l ih => intro a; rw [List.foldl_cons, List.foldl_cons, ih, ih (max 0 x.1)]; omega
theorem deepL_cons (x : Nat × MT) (l : List (Nat × MT)) : deepL (x :: l) = max x.1 (deepL l) := by
  show (x :: l).foldl _ 0 = _
  rw [List.foldl_cons, deepL_from]; simp
theorem deepL_app (l m : List (Nat × MT)) : deepL (l ++ m) = max (deepL l) (deepL m) := by
  induction l with
  | nil => simp [deepL]
  | cons x l ih => rw [List.cons_append, deepL_cons, deepL_cons, ih]; omega
theorem Tw_deep (bs : List Nat) : ∀ n, deepL ((Tw bs).pre n) = n + bs.length := by
  induction bs with
  | nil => intro n; rw [Tw_pre0]; simp [deepL]
  | cons b bs ih => intro n; rw [Tw_pre1]; simp only [deepL_cons, ih, List.length_cons]; omega
theorem sound_arr (va : Option Addr) (n cap : Nat) (l : List MT) : soundB (arrT va n cap l) = decide (n ≤ 300) := by
  show (decide (n ≤ 300) && blankB _) = _
  rw [show blankB _ = true from rfl, Bool.and_true]
theorem Tw_all (bs : List Nat) : ∀ n, ((Tw bs).pre n).all (fun x => decide (x.1 ≤ 64) && soundB x.2) = decide (n + bs.length ≤ 64) := by
  induction bs with
  | nil =>
    intro n; rw [Tw_pre0]
    simp only [List.all_cons, List.all_nil, Bool.and_true, List.length_nil, Nat.add_zero]
    rw [show soundB (leafT 1 false ⟨#[]⟩) = true from rfl, Bool.and_true]
  | cons b bs ih =>
    intro n; rw [Tw_pre1]
    simp only [List.all_cons, ih, List.length_cons, sound_arr]
    by_cases h : n + (bs.length + 1) ≤ 64
    · rw [decide_eq_true h, decide_eq_true (show n ≤ 64 by omega), decide_eq_true (show n + 1 + bs.length ≤ 64 by omega)]; rfl
    · rw [decide_eq_false h, decide_eq_false (show ¬ n + 1 + bs.length ≤ 64 by omega), Bool.and_false]
theorem Tw_check (bs : List Nat) (h : bs.length ≤ 100) : checkB (Tw bs) = decide (bs.length < 64) := by
  unfold checkB
  rw [Tw_nodes, Tw_all, decide_eq_true (show bs.length + 1 ≤ 2000 by omega), Bool.true_and]
  congr 1; apply propext; omega
/-- A wide array. -/
def Wd (va : Option Addr) (n cap : Nat) : MT := arrT va n cap (List.replicate n (leafT 2 true ⟨#[]⟩))
theorem Wd_preL (n : Nat) : ∀ d, MT.preL (List.replicate n (leafT 2 true ⟨#[]⟩)) d = List.replicate n (d, leafT 2 true ⟨#[]⟩) := by
  induction n with
  | zero => intro d; simp [MT.preL_nil]
  | succ n ih => intro d; rw [List.replicate_succ, MT.preL_cons, ih, List.replicate_succ, MT.pre_eq]; simp [leafT, MT.v, MT.preL_nil]
theorem Wd_pre (va : Option Addr) (n cap d : Nat) : (Wd va n cap).pre d = (d, Wd va n cap) :: List.replicate n (d + 1, leafT 2 true ⟨#[]⟩) := by
  rw [MT.pre_eq]; simp only [Wd, arrT, MT.v, Wd_preL]
theorem Wd_nodes (va : Option Addr) (n cap : Nat) : (Wd va n cap).nodes = n + 1 := by rw [← MT.pre_len _ 0, Wd_pre]; simp
theorem Wd_check (va : Option Addr) (n cap : Nat) (h : n ≤ 1000) : checkB (Wd va n cap) = decide (n ≤ 300) := by
  unfold checkB
  rw [Wd_nodes, Wd_pre, decide_eq_true (show n + 1 ≤ 2000 by omega), Bool.true_and, List.all_cons]
  have h2 : (List.replicate n ((1 + 1, leafT 2 true ⟨#[]⟩) : Nat × MT)).all (fun x => decide (x.1 ≤ 64) && soundB x.2) = true := by
    rw [List.all_eq_true]; intro x hx; rw [List.eq_of_mem_replicate hx]; rfl
  rw [h2, Bool.and_true]
  show (decide (1 ≤ 64) && soundB (Wd va n cap)) = _
  rw [show soundB (Wd va n cap) = decide (n ≤ 300) from sound_arr _ _ _ _]; simp
theorem Wd_wt (va : Option Addr) (n cap : Nat) : wtL ((Wd va n cap).pre 1) = n + 1 := by
  rw [Wd_pre]
  show (_ :: _).foldl _ 0 = _
  rw [List.foldl_cons, wtL_from]
  have h2 : ∀ n, wtL (List.replicate n ((1 + 1, leafT 2 true ⟨#[]⟩) : Nat × MT)) = n := by
    intro n
    induction n with
    | zero => rfl
    | succ n ih => rw [List.replicate_succ']; rw [wtL_snoc, ih]; rfl
  rw [h2]
  show 0 + 1 + n = _
  omega
theorem leaf_pre (k : Int) (b : Bool) (s : ByteArray) (d : Nat) : (leafT k b s).pre d = [(d, leafT k b s)] := by simp [leafT, MT.pre_eq, MT.preL_nil, MT.v]
theorem leaf_check (k : Int) (b : Bool) (s : ByteArray) : checkB (leafT k b s) = soundB (leafT k b s) := by
  unfold checkB
  rw [← MT.pre_len _ 1, leaf_pre]; simp
/-- So many noughts. -/
theorem noughts_data (l : Nat) : (strOfNums (List.replicate l 0)).data.toList = List.replicate l 0 := by
  unfold strOfNums
  simp
theorem info_byte : (Tryd.prog.info? 5).map (fun i => (i.zero, i.size, i.bytes)) = some (some (.int .u8 0), 1, 1) := by kernel_rfl
theorem made_bytes (n : Nat) : (madeCells (Value.cells (.int .u8 0)) (n * 1)).toList = List.replicate n (.int .u8 0) := by
  simp only [madeCells]
  apply List.ext_getElem
  · simp
  · intro i h1 h2; simp [Value.cells, Nat.mod_one]
/-- A new list of noughts. -/
theorem wpl_make_bytes (w : World) {ops : Array Oper} {rest : List Oper} {o : Oper} {a : Act} {Q : Exit → Act → World → Prop}
    (hg : o.guard = none) (l c : Operand) (hop : o.op = Op.makeSlice 39 l c) (kl kc : IntKind) (L C : Int) (n : Nat)
    (hl : a.eval l = .int kl L) (hc : a.eval c = .int kc C) (hL : L = (n : Int)) (hC : C = (n : Int)) (hn : n ≤ 1000000000000)
    (hK : ∀ w', BlkV w' w.heap.size 5 (List.replicate n (.int .u8 0)) → Below w.heap.size w w' → wpList Tryd.prog ops Q rest (a.put o.dst (.slice (some ⟨w.heap.size, 0, none⟩) n n)) w') :
    wpList Tryd.prog ops Q (o :: rest) a w := by
  obtain ⟨i0, hi, hz0, hz1, hz2⟩ := info_parts info_byte
  refine wpList_make_full w hg l c 39 hop w.heap.size 5 i0 (.int .u8 0) 1 Tryd.underlying39 hi hz0 hz1 kl kc L C n hl hc hL hC (by rw [hz2]; omega) (by unfold maxLen; omega) (Nat.le_refl _) ?_
  intro w' ho hgr
  refine hK w' ?_ ((Below.refl _ _).grown hgr (Nat.le_refl _) (fun k h => by cases h))
  obtain ⟨hl', h | ⟨g, cap, cur, e, _, hh, _, _, hs, ht⟩⟩ := ho
  · exact absurd h.1 (by simp)
  · simp only [Value.slice.injEq, Option.some.injEq, Addr.mk.injEq] at e
    obtain ⟨⟨rfl, _⟩, _, rfl⟩ := e
    unfold BlkV
    rw [hh, ← made_bytes]
    have : cur.toList = (madeCells (Value.cells (.int .u8 0)) (n * 1)).toList := by
      have h2 := ht
      rw [List.take_of_length_le (by simp [hs])] at h2
      simpa using h2
    rw [← this]
theorem conv_noughts (w : World) (g n : Nat) (h : BlkV w g 5 (List.replicate n (.int .u8 0))) : Sem.run Tryd.prog (convert 39 9 (.slice (some ⟨g, 0, none⟩) n n)) w = .ok (.string (strOfNums (List.replicate n 0))) w := by
  refine run_convert_bytes_arg _ 39 5 Tryd.underlying39 Tryd.underlying5 g 0 n n (List.replicate n 0) (by simp) ?_ 9 Tryd.underlying9
  intro i hi
  rw [Nat.zero_add, h.cell i]
  simp [hi, List.getD]
theorem valid_noughts (l : Nat) : validL (List.replicate l 0) = true := by
  induction l with
  | zero => decide +kernel
  | succ l ih => rw [List.replicate_succ']; exact (valid_append ih (by decide +kernel)).1
theorem text_check (l : Nat) : checkB (leafT 4 false (strOfNums (List.replicate l 0))) = decide (l ≤ 2000) := by
  have hs : (strOfNums (List.replicate l 0)).size = l := by
    have := congrArg List.length (noughts_data l); simpa using this
  rw [leaf_check]
  show (validL (strOfNums (List.replicate l 0)).data.toList && (decide ((strOfNums (List.replicate l 0)).size ≤ 2000) && blankB _)) = _
  rw [noughts_data, valid_noughts, hs]
  show (decide (l ≤ 2000) && true) = _
  simp
end Go.Proofs.YtipibipaocpojaaDoor
